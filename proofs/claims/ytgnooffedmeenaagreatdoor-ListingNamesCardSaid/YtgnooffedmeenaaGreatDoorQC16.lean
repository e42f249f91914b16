/-
  Part 16 of the proofs of LNamesRow, LOneRow: what is laid, and what the functions that the law runs answer. Conditions: each theorem names its own.
-/
import Derived.HandedShaped
import Derived.Shelf.Vars
import Derived.Test.YtgnooffedmeenaaGreatDoorQC14
namespace Go.Proofs.YtgnooffedmeenaaGreatDoor.O
open Go.ChangeShapes Go.WideShapes Go.ChangeAt Go.RowKit

theorem handed_and {H : Type} {enc : TypeId × Value → H} {a : Assume} {C : Checked} {os : Os} {f : FuncId} {fn : Func} {s : ChangeSpec} {conds : List PathCond} {apart fresh handsOn again : Bool} {X : World → Array Value → Prop}
  (hX : ∀ (w w' : World) (args : Array Value), w.heap = w'.heap → X w args → X w' args) (own : ownKnob C.prog.godebug = none) (started : os.Started) (noInit : C.prog.inits.idxOf? f = none) (hfn : C.prog.funcs[f]? = some fn)
  (witness : ∃ (w : World) (tape : Tape) (i : Input), w.os = os ∧ (w.forCall tape i).Shaped C.prog ∧ i.vars = [] ∧ Input.okWide C.prog (w.forCall tape i) .any w.heap.size f i ∧
   ((s.pre enc C.prog fn conds apart (w.forCall tape i).memory i.args ∧ X (w.forCall tape i).memory i.args) ∧ sizedMet enc C.prog fn (OpenSpec.ofChange s) apart (w.forCall tape i).memory i.args) ∧ a.holds C.prog (lone (Frame.enter C.prog f i.args .normal) [] (w.forCall tape i)))
  (contract : ∀ (W : World) (base : Nat) (args : Array Value) (ds gs : List (DataW H)) (before : List MemPlace),
   (∀ (j : Nat) t v, fn.params[j]? = some t → args[j]? = some v → Value.okWide C.prog W .any base t v) → DataW.Whole enc C.prog fn.params.toList s.vars apart W args.toList ds gs before →
   W.ShapedOpen C.prog → X W args → Calls C.prog f args W fun e W' => ∃ v, e = .returned v ∧ s.post enc C.prog fn apart fresh handsOn again W args v W') :
  ReturnsInHanded a C os f .any (fun w args => (s.pre enc C.prog fn conds apart w args ∧ X w args) ∧ sizedMet enc C.prog fn (OpenSpec.ofChange s) apart w args) (s.post enc C.prog fn apart fresh handsOn again) := by
 refine returnsInHanded_of_calls own started noInit witness ?_
 intro w tape i _ hsh _ hok hpre _
 obtain ⟨_, _, _, fn', hfn', _, _, _, _, hval⟩ := hok
 obtain rfl : fn' = fn := Option.some.inj (hfn'.symm.trans hfn)
 obtain ⟨⟨⟨ds, gs, before, hw, _⟩, hx⟩, _⟩ := hpre
 refine (contract (w.forCall tape i) w.heap.size i.args ds gs before hval (DataW.Whole.of_heap (w' := w.forCall tape i) (by rfl) hw) hsh (hX _ _ _ (by rfl) hx)).mono fun e W' ⟨v, he, hp⟩ => ?_
 subst he
 exact ChangeSpec.post_blind hp

theorem cutAt_of {w : World} (h : w.ShapedOpen Tryz.prog) : CutAt w :=
 cell_of_shapedOpen_int (t := 3) (zero := #[.int .i64 0]) h (by decide +kernel) (by kernel_rfl) rfl (by kernel_rfl) (by kernel_rfl) Tryz.underlying3

end Go.Proofs.YtgnooffedmeenaaGreatDoor.O

namespace Go.Proofs.YtgnooffedmeenaaGreatDoor
open Go.RowKit
section
variable {P : Program} {md : Region.Mode} {ops : Array Oper}

end
end Go.Proofs.YtgnooffedmeenaaGreatDoor

namespace Go.Proofs.YtgnooffedmeenaaGreatDoor.M.L
open Go.RowKit W

theorem keepN_of {w W W' : World} {g : Nat} (h : Keep NoB w W) (hk : Keep (fun k => k = g) W W') (hg : w.heap.size ≤ g) : Keep NoB w W' := h.trans hk (fun k hk hl => by omega)
end Go.Proofs.YtgnooffedmeenaaGreatDoor.M.L

namespace Go.Proofs.YtgnooffedmeenaaGreatDoor.M.L
open Go.RowKit

theorem txt_le_len (l : List Int) : (W.txt l).length ≤ l.length := by
 unfold W.txt
 split
 ·rename_i h
  rw [W.flat_let_length _ h.2]
  exact Nat.le_refl _
 ·simp
theorem head_le {f : F.Fu} (h : F.okF f = true) : (textOf ((headT f).map joinW)).length ≤ 400 := by
 obtain ⟨h1, h2, _, _, h5⟩ := (F.okF_iff f).1 h
 have e1 := okN_le h1
 have e2 := txt_le_len f.ar
 have e3 := txt_le_len f.rs
 have e4 := txt_le_len f.lc
 have h6 : (joinW [funcW, f.nm, S.shG f.ar f.rs]).length ≤ 110 := by
  show (funcW ++ 32 :: (f.nm ++ 32 :: S.shG f.ar f.rs)).length ≤ 110
  unfold S.shG
  split <;> simp [funcW] <;> omega
 have h7 : (joinW [localW, W.txt f.lc]).length ≤ 110 := by
  show (localW ++ 32 :: W.txt f.lc).length ≤ 110
  simp [localW]
  omega
 refine Nat.le_trans (textOf_le (M := 110) _ fun s hs => ?_) (Nat.le_trans (?_ : _ ≤ 111 * 2) (by omega))
 ·obtain ⟨w, hw, rfl⟩ := List.mem_map.1 hs
  unfold headT at hw
  rcases List.mem_cons.1 hw with rfl | hw
  ·exact h6
  ·split at hw
   ·cases hw
   ·obtain rfl := List.mem_singleton.1 hw
    exact h7
 ·refine Nat.mul_le_mul_left _ ?_
  rw [List.length_map]
  unfold headT
  split <;> simp
theorem body_size {p : I.Im} (hp : I.okI p = true) (kind k : Nat) {t : List Nat} (ht : ∀ i s, labA t i = some s → s.length ≤ 32) : ∀ (b : List C.I3) (i : Nat), i + b.length ≤ 512 → C.AllI b → (textOf ((bodyR kind p t k i b).map Prod.fst)).length ≤ 130 * b.length
 | [], _, _, _ => Nat.le_refl _
 | x :: b, i, h, hI => by
  have h1 := body_size hp kind k ht b (i + 1) (by simp at h; omega) (fun y hy => hI y (List.mem_cons_of_mem _ hy))
  have hx := hI x (List.mem_cons_self ..)
  have h2 : (insS kind p k i x).length ≤ 84 := by
   have h3 : (joinW (insL (if kind = 0 then NWp p k x else none) x)).length ≤ 60 := by
    split
    ·exact insn_len hp k hx
    ·exact insn_none hx
   have h4 : (if kind = 2 then noteB i else []).length ≤ 24 := by
    split
    ·exact note_le (by simp at h; omega)
    ·simp
   unfold insS
   rw [List.length_append]
   omega
  have h5 : (textOf ((itemR kind p t k i x).map Prod.fst)).length ≤ 130 := by
   unfold itemR
   rw [List.map_append, textOf_append, List.length_append]
   have e : (textOf (List.map Prod.fst [(insS kind p k i x, (k : Int), (i : Int))])).length = (insS kind p k i x).length + 1 := by
    unfold textOf; simp
   rw [e]
   have e2 : ∀ z : List LR, z = (if kind = 0 then (match labA t i with | some s => [(s ++ [58], (-1 : Int), (-1 : Int))] | none => []) else []) → (textOf (List.map Prod.fst z)).length ≤ 34 := by
    intro z hz
    subst hz
    split
    ·cases hl : labA t i with
     | none => exact Nat.zero_le _
     | some s =>
      have := ht i s hl
      unfold textOf; simp
      omega
    ·exact Nat.zero_le _
   refine Nat.le_trans (Nat.add_le_add (e2 _ rfl) (Nat.add_le_add_right h2 1)) (by omega)
  rw [bodyR, List.map_append, textOf_append, List.length_append, List.length_cons, Nat.mul_add, Nat.mul_one]
  omega
theorem labA_le {t : List Nat} (h : t.length ≤ 512) {i : Nat} {s : Bs} (hs : labA t i = some s) : s.length ≤ 32 := by
 obtain ⟨n, hn, _, rfl⟩ := labA_some hs
 have := Lib.itoa_length_le ((n : Nat) : Int) (by omega) (by omega)
 unfold lbl
 simp
 omega
theorem funcs_size {p : I.Im} (hp : I.okI p = true) (kind : Nat) : ∀ (q : List F.Fu) (k : Nat), (∀ f ∈ q, F.okF f = true ∧ C.AllI f.bd) → (textOf ((funcsR kind p k q).map Prod.fst)).length ≤ 400 * q.length + 130 * (q.map fun f => f.bd.length).sum
 | [], _, _ => Nat.zero_le _
 | f :: q, k, h => by
  have h1 := funcs_size hp kind q (k + 1) (fun g hg => h g (List.mem_cons_of_mem _ hg))
  obtain ⟨h2, h3⟩ := h f (List.mem_cons_self ..)
  have h4 := (ok_body h2).2.2.1
  have h5 := body_size hp kind k (t := tgs f.bd) (fun i s hs => labA_le (Nat.le_trans (tgs_len f.bd) h4) hs) f.bd 0 (by omega) h3
  have h6 := head_le h2
  have e : (textOf ((funcR kind p k f).map Prod.fst)).length ≤ 400 + 130 * f.bd.length := by
   unfold funcR
   rw [List.map_append, textOf_append, List.length_append, List.map_map]
   have e2 : (headT f).map (Prod.fst ∘ plainR) = (headT f).map joinW := rfl
   rw [e2]
   omega
  rw [funcsR, List.map_append, textOf_append, List.length_append, List.length_cons, List.map_cons, List.sum_cons, Nat.mul_add, Nat.mul_add, Nat.mul_one]
  omega
theorem textR_140 {p : I.Im} (hp : ImOk p) (kind : Nat) (hc : (p.fn.map fun f => f.bd.length).sum ≤ 500) : (textR kind p).length ≤ 140000 := by
 have h1 := funcs_size hp.ok kind p.fn 0 (fun f hf => ⟨List.all_eq_true.1 ((I.okI_iff p).1 hp.ok).2.2 _ hf, hp.hI f hf⟩)
 have h2 := hp.nf
 have h3 := hp.ns
 have h4 : (textOf (p.sh.map fun s => joinW (shapeT s))).length ≤ 61 * p.sh.length := by
  have := textOf_le (M := 60) (p.sh.map fun s => joinW (shapeT s)) fun s hs => by
   obtain ⟨x, hx, rfl⟩ := List.mem_map.1 hs
   have hk := ((S.okS_iff x).1 (List.all_eq_true.1 ((I.okI_iff p).1 hp.ok).2.1 _ hx)).1.2
   have := txt_le_len x
   show (shapeW ++ 32 :: S.shS x).length ≤ 60
   unfold S.shS
   split <;> simp [shapeW] <;> omega
  rwa [List.length_map] at this
 unfold textR allR
 rw [List.map_append, textOf_append, List.length_append, List.map_map]
 have e2 : p.sh.map (Prod.fst ∘ fun s => plainR (shapeT s)) = p.sh.map fun s => joinW (shapeT s) := rfl
 rw [e2]
 have : 61 * p.sh.length ≤ 61 * 64 := Nat.mul_le_mul_left _ h3
 have : 400 * p.fn.length ≤ 400 * 64 := Nat.mul_le_mul_left _ h2
 have : 130 * (p.fn.map fun f => f.bd.length).sum ≤ 130 * 500 := Nat.mul_le_mul_left _ hc
 omega

end Go.Proofs.YtgnooffedmeenaaGreatDoor.M.L

namespace Go.Proofs.YtgnooffedmeenaaGreatDoor
open Go.RowKit Go.Maps

def NMap (P : Program) (k e : TypeId) (b n : Nat) (f : Int → Nat) (w : World) : Prop :=
 ∃ D : DataW Unit, w.ownsMap P k (plainElem P e) b n D ∧ Tidy D ∧ size D = n ∧ (∀ h : Int, D.atKey (.int .i64 h) (.lit (.int .i64 0)) = .lit (.int .i64 (f h : Int))) ∧ ∀ h : Int, f h = 0 → has D (.int .i64 h) = false
section
variable {P : Program} {k e t : TypeId} {b n : Nat} {f : Int → Nat} {w w' : World}
theorem NMap.new (P : Program) (k e : TypeId) (w : World) : NMap P k e w.heap.size 0 (fun _ => 0) (w.alloc (.map #[] 0)) :=
 ⟨.map [], World.ownsMap_made w P k _, tidy_empty, rfl, fun _ => rfl, fun _ _ => rfl⟩
theorem NMap.imap (h : NMap P k e b n f w) : IMap P k e b n f w := by
 obtain ⟨D, h1, h2, _, h4, _⟩ := h
 exact ⟨D, h1, h2.isMap, h4⟩
theorem NMap.lt (h : NMap P k e b n f w) : b < w.heap.size := h.imap.lt
theorem NMap.keep {O : Nat → Prop} (h : NMap P k e b n f w) (hk : Keep O w w') (hb : ¬ O b) : NMap P k e b n f w' := by
 obtain ⟨D, ⟨es, c, h0, hr⟩, h2⟩ := h
 exact ⟨D, ⟨es, c, (hk.block b (Array.getElem?_eq_some_iff.1 h0).1 hb).trans h0, hr⟩, h2⟩
theorem NMap.congr {g : Int → Nat} (h : NMap P k e b n f w) (hg : ∀ x, g x = f x) : NMap P k e b n g w := by
 obtain ⟨D, h1, h2, h3, h4, h5⟩ := h
 exact ⟨D, h1, h2, h3, fun x => by rw [hg]; exact h4 x, fun x hx => h5 x (by rw [← hg]; exact hx)⟩
theorem NMap.update (h : NMap P k e b n f w) (ht : P.underlying t = some (.map k e)) (hk : P.underlying k = some (.int .i64)) (he : P.underlying e = some (.int .i64)) (hn : n < maxLen) (x : Int) (v : Nat) (hf : f x = 0) (h0 : v ≠ 0) (hx : (Lit.int .i64 x).wf = true) (hv : (Lit.int .i64 (v : Int)).wf = true) :
  ∃ w', (Instr.mapUpdate t (.map (some b)) (.int .i64 x) (.int .i64 (v : Int))).run P w = .ok () w' ∧ NMap P k e b (n + 1) (setF f x v) w' ∧ w.grownBy w' (some b) := by
 obtain ⟨D, h1, h2, h3, h4, h5⟩ := h
 obtain ⟨w', hrun, r1, r2⟩ := h1.update (int_keyed hk) ht hn (keyOf_int_mk hk hx) (plainElem_int he hv)
 have hl : WideAt.IsKeyLit (.int .i64 x) := by unfold WideAt.IsKeyLit; trivial
 refine ⟨w', hrun, ⟨_, r1, h2.put hl _, ?_, isMap_put h2.isMap h4, fun y hy => ?_⟩, r2⟩
 ·rw [size_put h2, h5 x hf, h3]; rfl
 ·unfold setF at hy
  by_cases he : y = x
  ·subst he; rw [if_pos rfl] at hy; exact absurd hy h0
  ·rw [if_neg he] at hy
   rw [has_put_other (by intro e; injection e with _ e; exact he e)]
   exact h5 y hy
theorem NMap.look (h : NMap P k e b n f w) (ht : P.underlying t = some (.map k e)) (hk : P.underlying k = some (.int .i64)) (he : P.underlying e = some (.int .i64)) (hz : (zeroValue e).run P w = .ok (.int .i64 0) w) (x : Int) (hx : (Lit.int .i64 x).wf = true) :
  (Instr.lookup t (.map (some b)) (.int .i64 x) false).run P w = .ok (.int .i64 (f x : Int)) w := h.imap.look ht hk he hz x hx
theorem NMap.len (h : NMap P k e b n f w) (ht : P.underlying t = some (.map k e)) (ty : TypeId) : (Builtin.len_ #[t] ty #[.map (some b)]).run P w = .ok (.int .i64 (n : Int)) w := by
 obtain ⟨D, h1, _, h3, _⟩ := h
 rw [h1.len ht ty, h3]
end

end Go.Proofs.YtgnooffedmeenaaGreatDoor

namespace Go.Proofs.YtgnooffedmeenaaGreatDoor.M.L
open Go.RowKit W

theorem str_bytes3 (l : Bs) : (str l).data.toList = l := by unfold str; simp
theorem cutP_ok {p : I.Im} (h : I.okI p = true) : cutP p = p := by unfold cutP; rw [if_pos h]
def metF (p : I.Im) (c : Nat) : Int → Nat := fun n => if (List.range c).any (fun c' => decide (n = (posI p c' : Int) + 1)) = true then 1 else 0
def lastV (p : I.Im) (c : Nat) : Nat := if c = 0 then 0 else posI p (c - 1) + 1
theorem lastV_succ (p : I.Im) (c : Nat) : lastV p (c + 1) = posI p c + 1 := by unfold lastV; rw [if_neg (by omega)]; rfl
theorem lastV_lt {p : I.Im} {c : Nat} (h : c < cum p.fn p.fn.length) : lastV p c < posI p c + 1 := by
 unfold lastV
 split
 ·omega
 ·have := pos_lt (p := p) (a := c - 1) (b := c) (by omega) h
  omega
theorem cum_le {q : List F.Fu} {i : Nat} {f : F.Fu} (h : q[i]? = some f) : cum q i + f.bd.length ≤ cum q q.length := by
 have h3 := cum_succ h
 have hi := (List.getElem?_eq_some_iff.1 h).1
 have h4 : ∀ d, i + 1 + d ≤ q.length → cum q (i + 1) ≤ cum q (i + 1 + d) := by
  intro d
  induction d with
  | zero => intro _; exact Nat.le_refl _
  | succ d ih =>
   intro hd
   have := ih (by omega)
   have h5 : q[i + 1 + d]? = some q[i + 1 + d] := List.getElem?_eq_getElem (by omega)
   have h6 := cum_succ h5
   have : i + 1 + (d + 1) = i + 1 + d + 1 := by omega
   rw [this]; omega
 have h7 := h4 (q.length - (i + 1)) (by omega)
 rw [show i + 1 + (q.length - (i + 1)) = q.length by omega] at h7
 omega
theorem posI_lt {p : I.Im} {i j : Nat} {f : F.Fu} (hf : p.fn[i]? = some f) (hj : j < f.bd.length) : posI p (cum p.fn i + j) < (allR 0 p).length := by
 obtain ⟨s, h⟩ := pos_entry hf hj
 exact (List.getElem?_eq_some_iff.1 h).1
theorem metF_zero (p : I.Im) : ∀ x, metF p 0 x = 0 := fun _ => rfl
theorem metF_new {p : I.Im} {c : Nat} (h : c < cum p.fn p.fn.length) : metF p c ((posI p c : Int) + 1) = 0 := by
 unfold metF
 rw [if_neg]
 rw [List.any_eq_true]
 rintro ⟨c', h1, h2⟩
 have h1 := List.mem_range.1 h1
 have h2 := of_decide_eq_true h2
 have := pos_lt (p := p) h1 h
 omega
theorem metF_succ (p : I.Im) (c : Nat) : ∀ x, metF p (c + 1) x = setF (metF p c) ((posI p c : Int) + 1) 1 x := by
 intro x
 unfold setF metF
 rw [List.range_succ, List.any_append]
 by_cases h : x = (posI p c : Int) + 1
 ·subst h; simp
 ·rw [if_neg h]
  have : ([c].any fun c' => decide (x = (posI p c' : Int) + 1)) = false := by simp [h]
  rw [this, Bool.or_false]
theorem met_place {p : I.Im} (n : Nat) : (placeR p (n : Int)).2.2 = (if metF p (cum p.fn p.fn.length) (n : Int) = 1 then 0 else 100) := by
 unfold placeR
 cases h : placeI p (n : Int) with
 | some x =>
  have h2 := h
  unfold placeI at h2
  split at h2
  ·rename_i h1
   split at h2
   ·rename_i e he
    split at h2
    ·rename_i h0
     obtain ⟨s, y⟩ := e
     obtain ⟨i, j, f, g1, g2, g3, g4⟩ := entry_pos he h0
     have hlt : cum p.fn i + j < cum p.fn p.fn.length := by
      have hi := (List.getElem?_eq_some_iff.1 g1).1
      have h3 := cum_succ g1
      have h4 : ∀ d, i + 1 + d ≤ p.fn.length → cum p.fn (i + 1) ≤ cum p.fn (i + 1 + d) := by
       intro d
       induction d with
       | zero => intro _; exact Nat.le_refl _
       | succ d ih =>
        intro hd
        have := ih (by omega)
        have h5 : p.fn[i + 1 + d]? = some p.fn[i + 1 + d] := List.getElem?_eq_getElem (by omega)
        have h6 := cum_succ h5
        have : i + 1 + (d + 1) = i + 1 + d + 1 := by omega
        rw [this]; omega
      have h7 := h4 (p.fn.length - (i + 1)) (by omega)
      rw [show i + 1 + (p.fn.length - (i + 1)) = p.fn.length by omega] at h7
      omega
     have hm : metF p (cum p.fn p.fn.length) (n : Int) = 1 := by
      unfold metF
      rw [if_pos]
      rw [List.any_eq_true]
      exact ⟨_, List.mem_range.2 hlt, decide_eq_true (by omega)⟩
     rw [if_pos hm]
    ·cases h2
   ·cases h2
  ·cases h2
 | none =>
  have hm : metF p (cum p.fn p.fn.length) (n : Int) ≠ 1 := by
   intro hm
   unfold metF at hm
   split at hm
   ·rename_i ha
    obtain ⟨c, h1, h2⟩ := List.any_eq_true.1 ha
    have h1 := List.mem_range.1 h1
    have h2 := of_decide_eq_true h2
    have key : ∀ (q : List F.Fu), c < cum q q.length → ∃ i j f, q[i]? = some f ∧ j < f.bd.length ∧ c = cum q i + j := by
     intro q
     have key2 : ∀ m, m ≤ q.length → c < cum q m → ∃ i j f, q[i]? = some f ∧ j < f.bd.length ∧ c = cum q i + j := by
      intro m
      induction m with
      | zero => intro _ h; exact absurd h (Nat.not_lt_zero _)
      | succ m ih =>
       intro hm h
       have h5 : q[m]? = some q[m] := List.getElem?_eq_getElem (by omega)
       have h6 := cum_succ h5
       by_cases h7 : c < cum q m
       ·exact ih (by omega) h7
       ·exact ⟨m, c - cum q m, _, h5, by omega, by omega⟩
     exact key2 _ (Nat.le_refl _)
    obtain ⟨i, j, f, g1, g2, rfl⟩ := key p.fn h1
    have := place_pos g1 g2
    rw [← h2, h] at this
    cases this
   ·cases hm
  rw [if_neg hm]
theorem met_le (p : I.Im) (c : Nat) (x : Int) : metF p c x ≤ 1 := by unfold metF; split <;> omega
theorem line_name {p : I.Im} {i j : Nat} {f : F.Fu} {x : C.I3} (hf : p.fn[i]? = some f) (hx : f.bd[j]? = some x) : ∃ s, ((allR 0 p).map Prod.fst)[posI p (cum p.fn i + j)]? = some s ∧ Lib.hasPrefix s (O.rowAt x.1).name = true := by
 have hj := (List.getElem?_eq_some_iff.1 hx).1
 obtain ⟨s, h1⟩ := pos_entry hf hj
 obtain ⟨f', x', g1, g2, rfl⟩ := entry_text h1
 rw [hf] at g1
 cases g1
 rw [hx] at g2
 cases g2
 obtain ⟨r, hr⟩ := prefix_ins 0 p i j x
 refine ⟨insS 0 p i j x, by rw [List.getElem?_map, h1]; rfl, ?_⟩
 rw [hr]
 unfold Lib.hasPrefix; rw [List.isPrefixOf_iff_prefix]; exact List.prefix_append _ _
def LinesAt (W : World) (b : Nat) (l : List Bs) : Prop := ∀ j (hj : j < l.length), ∃ S, W.cell? ⟨b, j, none⟩ = some (.string S) ∧ S.data.toList = l[j]
theorem LinesAt.keep {W W' : World} {b : Nat} {l : List Bs} {O : Nat → Prop} (h : LinesAt W b l) (hk : Keep O W W') (hb : ¬ O b) : LinesAt W' b l := fun j hj => by
 obtain ⟨S, h1, h2⟩ := h j hj
 exact ⟨S, hk.cell h1 hb, h2⟩
theorem split_any {p : I.Im} (hp : ImOk p) (hc : (p.fn.map fun f => f.bd.length).sum ≤ 500) (W : World) (hC : O.CutAt W) : Calls Tryz.prog 34 #[.string (str (textR 0 p)), .string ⟨#[10]⟩] W fun e w' =>
  e = .returned (.slice (some ⟨W.heap.size, 0, none⟩) ((allR 0 p).length + 1) ((allR 0 p).length + 1)) ∧ LinesAt w' W.heap.size ((allR 0 p).map Prod.fst ++ [[]]) ∧ W.heap.size < w'.heap.size ∧ Keep NoB W w' := by
 obtain ⟨m, hm⟩ := hC
 have h1 := textR_140 hp 0 hc
 have hs : (str (textR 0 p)).data.toList = textR 0 p := str_bytes3 _
 have hz : (str (textR 0 p)).size = (textR 0 p).length := by rw [← hs]; rfl
 obtain ⟨h2, h3⟩ := splitB_lines (S := str (textR 0 p)) (l := (allR 0 p).map Prod.fst) hs (all_noLF hp.ok (by omega))
 rw [List.length_map] at h2
 refine (Tryz.strings_Split (str (textR 0 p)) ⟨#[10]⟩ m W (by omega) hm (by decide)).mono ?_
 rw [h2] at *
 rintro e w' ⟨rfl, rfl⟩
 refine ⟨rfl, fun j hj => ?_, by simp, (Keep.refl NoB W).alloc _⟩
 rw [← h3] at hj
 have hj2 : j < (Lib.splitB ⟨#[10]⟩ 0 (allR 0 p).length (str (textR 0 p))).length := by simpa using hj
 refine ⟨(Lib.splitB ⟨#[10]⟩ 0 (allR 0 p).length (str (textR 0 p)))[j], ?_, ?_⟩
 ·rw [(Blk.new W _ _).cell j]
  simp [hj2]
 ·have h4 : ∀ (z : List Bs) (hz : (Lib.splitB ⟨#[10]⟩ 0 (allR 0 p).length (str (textR 0 p))).map (·.data.toList) = z) (hj3 : j < z.length), ((Lib.splitB ⟨#[10]⟩ 0 (allR 0 p).length (str (textR 0 p)))[j]).data.toList = z[j] := by
   intro z hz hj3
   subst hz
   simp
  exact h4 _ h3 _

end Go.Proofs.YtgnooffedmeenaaGreatDoor.M.L

namespace Go.Proofs.YtgnooffedmeenaaGreatDoor.M
open Go.RowKit

end Go.Proofs.YtgnooffedmeenaaGreatDoor.M

namespace Go.Proofs.YtgnooffedmeenaaGreatDoor.M
open Go.RowKit

/-! ### Names that stand in other functions -/

/-! ### Each kind of line -/

end Go.Proofs.YtgnooffedmeenaaGreatDoor.M

namespace Go.Proofs.YtgnooffedmeenaaGreatDoor.M
open Go.RowKit W

end Go.Proofs.YtgnooffedmeenaaGreatDoor.M

namespace Go.Proofs.YtgnooffedmeenaaGreatDoor.M
open Go.RowKit Go.Shelf W

end Go.Proofs.YtgnooffedmeenaaGreatDoor.M

namespace Go.Proofs.YtgnooffedmeenaaGreatDoor.M
open Go.RowKit Go.Shelf W

end Go.Proofs.YtgnooffedmeenaaGreatDoor.M

namespace Go.Proofs.YtgnooffedmeenaaGreatDoor.I
open Go.RowKit W

end Go.Proofs.YtgnooffedmeenaaGreatDoor.I

namespace Go.Proofs.YtgnooffedmeenaaGreatDoor.M
open Go.RowKit Go.Shelf W

end Go.Proofs.YtgnooffedmeenaaGreatDoor.M

namespace Go.Proofs.YtgnooffedmeenaaGreatDoor.M
open Go.RowKit

end Go.Proofs.YtgnooffedmeenaaGreatDoor.M

namespace Go.Proofs.YtgnooffedmeenaaGreatDoor.M
open Go.RowKit W

/-! ### The chapter's examples -/

end Go.Proofs.YtgnooffedmeenaaGreatDoor.M

namespace Go.Proofs.YtgnooffedmeenaaGreatDoor.M
open Go.RowKit W

end Go.Proofs.YtgnooffedmeenaaGreatDoor.M

namespace Go.Proofs.YtgnooffedmeenaaGreatDoor.M
open Go.RowKit W

end Go.Proofs.YtgnooffedmeenaaGreatDoor.M
