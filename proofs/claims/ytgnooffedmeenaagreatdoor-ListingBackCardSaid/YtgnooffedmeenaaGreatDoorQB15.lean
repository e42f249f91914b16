/-
  Part 15 of the proofs of LBackRow, LLabelsRow: what is laid, and what the functions that the law runs answer. Conditions: each theorem names its own.
-/
import Derived.Test.YtgnooffedmeenaaGreatDoorQB12
namespace Go.Proofs.YtgnooffedmeenaaGreatDoor.M
open Go.RowKit

structure Mn where
 ln : Nat
 fn : Nat
 pl : Nat
 s : Bs
 k : Nat
abbrev Pl := Bs → Option Nat
def setP (f : Pl) (x : Bs) (v : Nat) : Pl := fun y => if y = x then some v else f y
structure PS where
 im : I.Im
 last : Nat
 nums : Pl
 labs : List (List Bs × Pl)
 ms : List Mn
def lb0 : List Bs × Pl := ([], fun _ => none)
def ps0 : PS := ⟨I.nilI, 0, fun _ => none, [], []⟩
def lastFn (p : PS) : F.Fu := p.im.fn.getLast?.getD ⟨[], [], [], [], []⟩
def lastLb (p : PS) : List Bs × Pl := p.labs.getLast?.getD lb0

def pShape (p : PS) (ws : List Bs) : Option PS := match ws with
 | [a, b] => if p.last = 0 ∧ a = shapeW then (S.rdS b).map fun x => PS.mk ⟨p.im.sh ++ [x], p.im.fn⟩ 0 p.nums p.labs p.ms else none
 | _ => none
def numsP (p : PS) (b : Bs) : Pl := if (p.nums b).isSome then p.nums else setP p.nums b p.im.fn.length
def pFunc (p : PS) (ws : List Bs) : Option PS := match ws with
 | [a, b, c] => if a = funcW ∧ F.okN b = true then (S.rdG c).map fun (g : List Int × List Int) => PS.mk ⟨p.im.sh, p.im.fn ++ [⟨b, g.1, g.2, [], []⟩]⟩ 1 (numsP p b) (p.labs ++ [lb0]) p.ms else none
 | _ => none
def pLocal (p : PS) (ws : List Bs) : Option PS := match ws with
 | [a, b] => if p.last = 1 ∧ a = localW then (W.untxt b).map fun t => PS.mk ⟨p.im.sh, upd (fun f => { f with lc := t }) p.im.fn⟩ 2 p.nums p.labs p.ms else none
 | _ => none
def pDef (p : PS) (ln : Nat) (s : Bs) : PS :=
 if ((lastLb p).2 s).isSome then ⟨p.im, p.last, p.nums, p.labs, p.ms ++ [⟨ln, 0, 0, s, 0⟩]⟩
 else ⟨p.im, p.last, p.nums, upd (fun l => (l.1 ++ [s], setP l.2 s (lastFn p).bd.length)) p.labs, p.ms⟩
def PS.to (p : PS) (k : Nat) : PS := ⟨p.im, k, p.nums, p.labs, p.ms⟩
def pLabel (p : PS) (ln : Nat) (ws : List Bs) : Option PS := match ws with
 | [a] => if 1 ≤ p.last ∧ a.getLast? = some 58 ∧ F.okN a.dropLast = true then some ((pDef p ln a.dropLast).to 3) else none
 | _ => none
def addX (p : PS) (x : C.I3) (ms : List Mn) : PS := ⟨⟨p.im.sh, upd (fun f => { f with bd := f.bd ++ [x] }) p.im.fn⟩, 4, p.nums, p.labs, ms⟩
def pNamed (ws : List Bs) : Option (Nat × Bs) := match ws with
 | [a, b] => if F.okN b = true then (match ofA a with | some op => if kindA (op : Int) ≠ 0 then some (op, b) else none | none => none) else none
 | _ => none
def pInstr (p : PS) (ln : Nat) (ws : List Bs) : Option PS := if 1 ≤ p.last then (match rdA (joinW ws) with
 | some x => some (addX p x p.ms)
 | none => match pNamed ws with
  | some (op, b) => some (addX p ((op : Int), 0, 0) (p.ms ++ [⟨ln, p.im.fn.length - 1, (lastFn p).bd.length, b, kindA (op : Int)⟩]))
  | none => none) else none
def pStep (p : PS) (l : Ln) : Option PS := (pShape p l.2).or ((pFunc p l.2).or ((pLocal p l.2).or ((pLabel p l.1 l.2).or (pInstr p l.1 l.2))))
def pRun (p : PS) : List Ln → PS ⊕ Nat
 | [] => .inl p
 | l :: r => match pStep p l with
  | none => .inr l.1
  | some p' => pRun p' r
def amongP (p : PS) (m : Mn) : Option Nat := if m.k = 0 then none else if m.k = 1 then (p.labs[m.fn]?).bind (fun l => l.2 m.s) else p.nums m.s
def wrongM (m : Mn) : Int := if m.k = 2 then 92 else 91
def putM (m : Mn) (v : Nat) (fn : List F.Fu) : List F.Fu := fn.modify m.fn fun f => { f with bd := f.bd.modify m.pl (putB (v : Int)) }
def pSettle (p : PS) (fn : List F.Fu) : List Mn → List F.Fu ⊕ (Nat × Int)
 | [] => .inl fn
 | m :: r => match amongP p m with
  | none => .inr (m.ln, wrongM m)
  | some v => pSettle p (putM m v fn) r

/-! ### It says what the lines say -/

def firsts (fn : Nat) : List Nm → List Nm → List Bs
 | _, [] => []
 | pre, x :: r => if x.lb = true ∧ x.fn = fn ∧ again pre x = false then x.s :: firsts fn (pre ++ [x]) r else firsts fn (pre ++ [x]) r
def notes (fn : List F.Fu) : List Nm → List Nm → List Mn
 | _, [] => []
 | pre, x :: r => (if x.lb = true then (if again pre x = true then [⟨x.ln, 0, 0, x.s, 0⟩] else []) else [⟨x.ln, x.fn, x.pl, x.s, kindA (opAt fn x)⟩]) ++ notes fn (pre ++ [x]) r
theorem firsts_append (fn : Nat) : ∀ (r : List Nm) (pre : List Nm) (x : Nm), firsts fn pre (r ++ [x]) = firsts fn pre r ++ (if x.lb = true ∧ x.fn = fn ∧ again (pre ++ r) x = false then [x.s] else [])
 | [], pre, x => by rw [List.nil_append, firsts, firsts, List.append_nil, firsts]; split <;> rfl
 | y :: r, pre, x => by
  rw [List.cons_append, firsts, firsts, firsts_append fn r (pre ++ [y]) x, List.append_assoc, List.singleton_append]
  split <;> simp
theorem notes_append (fn : List F.Fu) : ∀ (r : List Nm) (pre : List Nm) (x : Nm), notes fn pre (r ++ [x]) = notes fn pre r ++ (if x.lb = true then (if again (pre ++ r) x = true then [⟨x.ln, 0, 0, x.s, 0⟩] else []) else [⟨x.ln, x.fn, x.pl, x.s, kindA (opAt fn x)⟩])
 | [], pre, x => by rw [List.nil_append, notes, notes, notes, List.append_nil, List.append_nil, List.nil_append]
 | y :: r, pre, x => by
  rw [List.cons_append, notes, notes, notes_append fn r (pre ++ [y]) x, List.append_assoc pre, List.singleton_append, List.append_assoc]
theorem notes_same {fn fn' : List F.Fu} : ∀ (r pre : List Nm), (∀ x ∈ r, x.lb = false → opAt fn' x = opAt fn x) → notes fn' pre r = notes fn pre r
 | [], pre, h => rfl
 | x :: r, pre, h => by
  rw [notes, notes, notes_same r (pre ++ [x]) (fun y hy => h y (List.mem_cons_of_mem _ hy))]
  congr 1
  split
  ·rfl
  ·rename_i hx
   rw [h x (by simp) (by simpa using hx)]
theorem again_place {ns : List Nm} {x : Nm} : again ns x = (placeOf ns x.fn x.s).isSome := by
 unfold again placeOf
 rw [Option.isSome_map]
 induction ns with
 | nil => rfl
 | cons y r ih => rw [List.any_cons, List.find?_cons]; split <;> simp_all
theorem placeOf_append (ns : List Nm) (x : Nm) (fn : Nat) (s : Bs) : placeOf (ns ++ [x]) fn s = if (placeOf ns fn s).isSome then placeOf ns fn s else if x.lb = true ∧ x.fn = fn ∧ x.s = s then some x.pl else none := by
 unfold placeOf
 rw [List.find?_append]
 cases h : ns.find? fun y => y.lb && (decide (y.fn = fn) && decide (y.s = s)) with
 | some y => rfl
 | none =>
  simp only [Option.map_none, Option.none_or, Option.isSome_none, List.find?_singleton]
  split
  ·rename_i hc
   rw [Bool.and_eq_true, Bool.and_eq_true, decide_eq_true_iff, decide_eq_true_iff] at hc
   simp [hc]
  ·rename_i hc
   rw [Bool.and_eq_true, Bool.and_eq_true, decide_eq_true_iff, decide_eq_true_iff] at hc
   simp [hc]

end Go.Proofs.YtgnooffedmeenaaGreatDoor.M

namespace Go.Proofs.YtgnooffedmeenaaGreatDoor.M
open Go.RowKit

def tryP (k : Nat) (p : PS) (l : Ln) : Option PS := match k with
 | 0 => pShape p l.2
 | 1 => pFunc p l.2
 | 2 => pLocal p l.2
 | 3 => pLabel p l.1 l.2
 | _ => pInstr p l.1 l.2
theorem step_none {p : PS} {l : Ln} (h : ∀ i, i < 5 → tryP i p l = none) : pStep p l = none := by
 have h0 : pShape p l.2 = none := h 0 (by omega)
 have h1 : pFunc p l.2 = none := h 1 (by omega)
 have h2 : pLocal p l.2 = none := h 2 (by omega)
 have h3 : pLabel p l.1 l.2 = none := h 3 (by omega)
 have h4 : pInstr p l.1 l.2 = none := h 4 (by omega)
 unfold pStep
 rw [h0, h1, h2, h3, h4]; rfl
theorem step_at_try {p p' : PS} {l : Ln} {k : Nat} (hk : k < 5) (h : ∀ i, i < k → tryP i p l = none) (hp : tryP k p l = some p') : pStep p l = some p' := by
 unfold pStep
 match k, hk with
 | 0, _ =>
  have hp : pShape p l.2 = some p' := hp
  rw [hp]; rfl
 | 1, _ =>
  have h0 : pShape p l.2 = none := h 0 (by omega)
  have hp : pFunc p l.2 = some p' := hp
  rw [h0, hp]; rfl
 | 2, _ =>
  have h0 : pShape p l.2 = none := h 0 (by omega)
  have h1 : pFunc p l.2 = none := h 1 (by omega)
  have hp : pLocal p l.2 = some p' := hp
  rw [h0, h1, hp]; rfl
 | 3, _ =>
  have h0 : pShape p l.2 = none := h 0 (by omega)
  have h1 : pFunc p l.2 = none := h 1 (by omega)
  have h2 : pLocal p l.2 = none := h 2 (by omega)
  have hp : pLabel p l.1 l.2 = some p' := hp
  rw [h0, h1, h2, hp]; rfl
 | 4, _ =>
  have h0 : pShape p l.2 = none := h 0 (by omega)
  have h1 : pFunc p l.2 = none := h 1 (by omega)
  have h2 : pLocal p l.2 = none := h 2 (by omega)
  have h3 : pLabel p l.1 l.2 = none := h 3 (by omega)
  have hp : pInstr p l.1 l.2 = some p' := hp
  rw [h0, h1, h2, h3, hp]; rfl
theorem pShape_last {p p' : PS} {ws : List Bs} (h : pShape p ws = some p') : p'.last = 0 := by
 unfold pShape at h
 split at h
 ·split at h
  ·obtain ⟨x, _, rfl⟩ := Option.map_eq_some_iff.1 h; rfl
  ·cases h
 ·cases h
theorem pFunc_last {p p' : PS} {ws : List Bs} (h : pFunc p ws = some p') : p'.last = 1 ∧ p'.im.fn ≠ [] := by
 unfold pFunc at h
 split at h
 ·split at h
  ·obtain ⟨x, _, rfl⟩ := Option.map_eq_some_iff.1 h; exact ⟨rfl, by simp⟩
  ·cases h
 ·cases h
theorem upd_ne {α : Type} {g : α → α} {l : List α} (h : l ≠ []) : upd g l ≠ [] := by
 match l with
 | [x] => simp [upd]
 | x :: y :: r => simp [upd]
theorem pLocal_last {p p' : PS} {ws : List Bs} (h : pLocal p ws = some p') : p'.last = 2 ∧ ((1 ≤ p.last → p.im.fn ≠ []) → p'.im.fn ≠ []) := by
 unfold pLocal at h
 split at h
 ·split at h
  ·rename_i hc
   obtain ⟨x, _, rfl⟩ := Option.map_eq_some_iff.1 h; exact ⟨rfl, fun hg => upd_ne (hg (by omega))⟩
  ·cases h
 ·cases h
theorem pLabel_last {p p' : PS} {n : Nat} {ws : List Bs} (h : pLabel p n ws = some p') : p'.last = 3 ∧ ((1 ≤ p.last → p.im.fn ≠ []) → p'.im.fn ≠ []) := by
 unfold pLabel at h
 split at h
 ·split at h
  ·rename_i hc
   injection h with h
   subst h
   refine ⟨rfl, fun hg => ?_⟩
   have := hg hc.1
   unfold pDef
   split <;> exact this
  ·cases h
 ·cases h
theorem pInstr_last {p p' : PS} {n : Nat} {ws : List Bs} (h : pInstr p n ws = some p') : p'.last = 4 ∧ ((1 ≤ p.last → p.im.fn ≠ []) → p'.im.fn ≠ []) := by
 unfold pInstr at h
 split at h
 ·rename_i hc
  split at h
  ·injection h with h
   subst h
   exact ⟨rfl, fun hg => upd_ne (hg hc)⟩
  ·split at h
   ·injection h with h
    subst h
    exact ⟨rfl, fun hg => upd_ne (hg hc)⟩
   ·cases h
 ·cases h
theorem try_last {k : Nat} {p p' : PS} {l : Ln} (hk : k < 5) (h : tryP k p l = some p') (hg : 1 ≤ p.last → p.im.fn ≠ []) : p'.to k = p' ∧ (1 ≤ p'.last → p'.im.fn ≠ []) := by
 unfold tryP at h
 have key : ∀ k', p'.last = k' → p'.to k' = p' := fun k' h => by subst h; rfl
 match k, hk with
 | 0, _ => have h1 := pShape_last h; exact ⟨key _ h1, fun h2 => by omega⟩
 | 1, _ => have h1 := pFunc_last h; exact ⟨key _ h1.1, fun _ => h1.2⟩
 | 2, _ => have h1 := pLocal_last h; exact ⟨key _ h1.1, fun _ => h1.2 hg⟩
 | 3, _ => have h1 := pLabel_last h; exact ⟨key _ h1.1, fun _ => h1.2 hg⟩
 | 4, _ => have h1 := pInstr_last h; exact ⟨key _ h1.1, fun _ => h1.2 hg⟩
theorem pRun_append (b : List Ln) : ∀ (a : List Ln) (p : PS), pRun p (a ++ b) = match pRun p a with | .inl q => pRun q b | .inr n => .inr n
 | [], p => rfl
 | l :: a, p => by
  rw [List.cons_append, pRun, pRun]
  cases pStep p l with
  | none => rfl
  | some p' => exact pRun_append b a p'
def lnsOf (pre : List (Nat × Bs)) : List Ln := pre.flatMap fun x => one x.1 x.2
theorem lnsOf_append (a b : List (Nat × Bs)) : lnsOf (a ++ b) = lnsOf a ++ lnsOf b := by unfold lnsOf; simp
theorem lnsOf_snoc (pre : List (Nat × Bs)) (x : Nat × Bs) : lnsOf (pre ++ [x]) = lnsOf pre ++ one x.1 x.2 := by unfold lnsOf; simp
theorem lnsOf_ones : ∀ (n : Nat) (l : List Bs), lnsOf (numS n l) = ones n l
 | _, [] => rfl
 | n, s :: r => by
  have ih := lnsOf_ones (n + 1) r
  rw [numS, ones, ← ih]; rfl
theorem lnsOf_all (s : Bs) : lnsOf (numS 1 (segs s)) = linesL s := by rw [lnsOf_ones, ← lines_segs]
theorem run_stop {s : Bs} {pre post : List (Nat × Bs)} {n : Nat} (h : numS 1 (segs s) = pre ++ post) (hr : pRun ps0 (lnsOf pre) = .inr n) : pRun ps0 (linesL s) = .inr n := by
 rw [← lnsOf_all, h, lnsOf_append, pRun_append, hr]
theorem run_skip {pre : List (Nat × Bs)} {x : Nat × Bs} {q : PS} (h : pRun ps0 (lnsOf pre) = .inl q) (hx : wordsL x.2 = []) : pRun ps0 (lnsOf (pre ++ [x])) = .inl q := by
 rw [lnsOf_snoc, one_none hx, List.append_nil, h]
theorem run_next {pre : List (Nat × Bs)} {x : Nat × Bs} {q q' : PS} (h : pRun ps0 (lnsOf pre) = .inl q) (hx : wordsL x.2 ≠ []) (hq : pStep q (x.1, wordsL x.2) = some q') : pRun ps0 (lnsOf (pre ++ [x])) = .inl q' := by
 rw [lnsOf_snoc, one_some hx, pRun_append, h]
 dsimp only
 rw [pRun, hq]; rfl
theorem run_bad {pre : List (Nat × Bs)} {x : Nat × Bs} {q : PS} (h : pRun ps0 (lnsOf pre) = .inl q) (hx : wordsL x.2 ≠ []) (hq : pStep q (x.1, wordsL x.2) = none) : pRun ps0 (lnsOf (pre ++ [x])) = .inr x.1 := by
 rw [lnsOf_snoc, one_some hx, pRun_append, h]
 dsimp only
 rw [pRun, hq]

end Go.Proofs.YtgnooffedmeenaaGreatDoor.M

namespace Go.Proofs.YtgnooffedmeenaaGreatDoor
open Go.RowKit Go.Maps

def OMap (P : Program) (k e : TypeId) (b n : Nat) (f : List UInt8 → Option Nat) (w : World) : Prop :=
 ∃ D : DataW Unit, w.ownsMap P k (plainElem P e) b n D ∧ IsMap D ∧ ∀ s : List UInt8, has D (.string s) = (f s).isSome ∧ D.atKey (.string s) (.lit (.int .i64 0)) = .lit (.int .i64 (((f s).getD 0 : Nat) : Int))
section
variable {P : Program} {k e t : TypeId} {b n : Nat} {f : List UInt8 → Option Nat} {w w' : World}
theorem OMap.new (P : Program) (k e : TypeId) (w : World) : OMap P k e w.heap.size 0 (fun _ => none) (w.alloc (.map #[] 0)) :=
 ⟨.map [], World.ownsMap_made w P k _, isMap_empty, fun _ => ⟨rfl, rfl⟩⟩
theorem OMap.lt (h : OMap P k e b n f w) : b < w.heap.size := by obtain ⟨_, h, _⟩ := h; exact h.lt
theorem OMap.obj (h : OMap P k e b n f w) : ∃ es c, w.heap[b]? = some (.map es c) := by
 obtain ⟨_, ⟨es, c, hb, _⟩, _⟩ := h
 exact ⟨es, c, hb⟩
theorem OMap.keep {O : Nat → Prop} (h : OMap P k e b n f w) (hk : Keep O w w') (hb : ¬ O b) : OMap P k e b n f w' := by
 obtain ⟨D, ⟨es, c, h0, hr⟩, h2, h3⟩ := h
 exact ⟨D, ⟨es, c, (hk.block b (Array.getElem?_eq_some_iff.1 h0).1 hb).trans h0, hr⟩, h2, h3⟩
theorem OMap.mono {m : Nat} (h : OMap P k e b n f w) (hm : n ≤ m) : OMap P k e b m f w := by
 obtain ⟨D, h1, h2, h3⟩ := h
 exact ⟨D, h1.mono hm, h2, h3⟩
def setO (f : List UInt8 → Option Nat) (x : List UInt8) (v : Nat) : List UInt8 → Option Nat := fun y => if y = x then some v else f y
theorem isMap_putO {D : DataW Unit} {f : List UInt8 → Option Nat} {x : List UInt8} {v : Nat} (hD : IsMap D) (h3 : ∀ s : List UInt8, has D (.string s) = (f s).isSome ∧ D.atKey (.string s) (.lit (.int .i64 0)) = .lit (.int .i64 (((f s).getD 0 : Nat) : Int))) :
  ∀ s : List UInt8, has (D.put (.string x) (.lit (.int .i64 (v : Int)))) (.string s) = (setO f x v s).isSome ∧ (D.put (.string x) (.lit (.int .i64 (v : Int)))).atKey (.string s) (.lit (.int .i64 0)) = .lit (.int .i64 (((setO f x v s).getD 0 : Nat) : Int)) := by
 intro s
 unfold setO
 by_cases he : s = x
 ·subst he
  rw [if_pos rfl]
  exact ⟨has_put_same hD (by unfold WideAt.IsKeyLit; trivial) _, atKey_put_same hD (by unfold WideAt.IsKeyLit; trivial) _ _⟩
 ·rw [if_neg he, has_put_other (by intro e; injection e with e; exact he e), atKey_put_other (by intro e; injection e with e; exact he e)]
  exact h3 s
theorem OMap.update (h : OMap P k e b n f w) (ht : P.underlying t = some (.map k e)) (hk : P.underlying k = some .string) (he : P.underlying e = some (.int .i64)) (hn : n < maxLen) (S : ByteArray) (v : Nat) (hx : S.size ≤ maxLen) (hv : (Lit.int .i64 (v : Int)).wf = true) :
  ∃ w', (Instr.mapUpdate t (.map (some b)) (.string S) (.int .i64 (v : Int))).run P w = .ok () w' ∧ OMap P k e b (n + 1) (setO f S.data.toList v) w' ∧ w.grownBy w' (some b) := by
 obtain ⟨D, h1, h2, h3⟩ := h
 obtain ⟨w', hrun, r1, r2⟩ := h1.update (string_keyed hk) ht hn (keyOf_str hk hx) (plainElem_int he hv)
 exact ⟨w', hrun, ⟨_, r1, h2.put _ _, isMap_putO h2 h3⟩, r2⟩
theorem OMap.look (h : OMap P k e b n f w) (ht : P.underlying t = some (.map k e)) (hk : P.underlying k = some .string) (he : P.underlying e = some (.int .i64)) (hz : (zeroValue e).run P w = .ok (.int .i64 0) w) (S : ByteArray) (hx : S.size ≤ maxLen) :
  (Instr.lookup t (.map (some b)) (.string S) true).run P w = .ok (.tuple #[.int .i64 (((f S.data.toList).getD 0 : Nat) : Int), .bool (f S.data.toList).isSome]) w := by
 obtain ⟨D, h1, h2, h3⟩ := h
 obtain ⟨v, ps, hrun, hv⟩ := h1.look_ok (string_keyed hk) ht hz (plainElem_int he (by decide)) (keyOf_str hk hx)
 obtain ⟨c, rfl, hc, hwc⟩ := plainElem_int_inv he hv
 obtain ⟨h4, h5⟩ := h3 S.data.toList
 simp only [Prod.mk.injEq] at hc
 have hc1 := hc.1
 rw [h5] at hc1
 rw [hrun, h4, lit_inj hc1]
end
end Go.Proofs.YtgnooffedmeenaaGreatDoor

namespace Go.Proofs.YtgnooffedmeenaaGreatDoor.M
open Go.RowKit W

inductive Tg where
 | no | rd | sh | se (i : Nat) | fn | fa (i : Nat) | fb (i : Nat) | fl (i : Nat) | bd (i : Nat) | nu | lb | nm (i : Nat) | pl (i : Nat) | mn
deriving DecidableEq
structure Row where
 E : Nat
 sz : Nat
 v : Value
 n : Nat
 xs : List Value
def Row.own (r : Row) (W : World) (P : Nat → Prop) : Prop := Own W r.E r.sz P r.v r.n r.xs
def row0 : Row := ⟨0, 1, .slice none 0 0, 0, []⟩
structure Mp where
 b : Nat
 n : Nat
 f : Pl
def okT (t : Tg) : Prop := t ≠ .no ∧ t ≠ .rd
def mk : Tg → Tg
 | .fb i => .fa i
 | t => t
theorem okT_mk {t : Tg} (h : okT t) : okT (mk t) := by
 cases t <;> first | exact h | exact ⟨Tg.noConfusion, Tg.noConfusion⟩
def sole (t0 : Tg) : Prop := mk t0 = t0 ∧ ∀ t, mk t = t0 → t = t0
def upR {β : Type} (R : Tg → β) (t : Tg) (x : β) : Tg → β := fun t' => if t' = t then x else R t'
theorem upR_eq {β : Type} (R : Tg → β) (t : Tg) (x : β) : upR R t x t = x := if_pos rfl
theorem upR_ne {β : Type} (R : Tg → β) {t t' : Tg} (x : β) (h : t' ≠ t) : upR R t x t' = R t' := if_neg h
def tagN (T : Nat → Tg) (a b : Nat) (t : Tg) : Nat → Tg := fun k => if a ≤ k ∧ k < b then t else T k
theorem tagN_old {T : Nat → Tg} {a b : Nat} {t : Tg} {k : Nat} (h : k < a) : tagN T a b t k = T k := if_neg (by omega)
theorem tagN_new {T : Nat → Tg} {a b : Nat} {t : Tg} {k : Nat} (h : a ≤ k) (h2 : k < b) : tagN T a b t k = t := if_pos ⟨h, h2⟩
def BS (T : Nat → Tg) : BSet := fun k => T k ≠ .no

structure Parts (B : Nat) (W : World) (T : Nat → Tg) (R : Tg → Row) (F : Tg → Option Mp) : Prop where
 row : ∀ t, okT t → (R t).own W (fun k => T k = mk t)
 map : ∀ t m, F t = some m → OMap Tryz.prog 9 3 m.b m.n m.f W ∧ T m.b = t ∧ okT t ∧ sole t
 fit : ∀ k, T k ≠ .no → B ≤ k ∧ k < W.heap.size
section
variable {B : Nat} {W W' : World} {T : Nat → Tg} {R : Tg → Row} {F : Tg → Option Mp}
theorem Parts.keep {O : Nat → Prop} (h : Parts B W T R F) (hk : Keep O W W') (hO : ∀ k, O k → ¬ okT (T k)) : Parts B W' T R F := by
 refine ⟨fun t ht => (h.row t ht).keep hk (fun k e ho => hO k ho (by rw [e]; exact okT_mk ht)), fun t m hm => ?_, fun k hk2 => ?_⟩
 ·obtain ⟨h1, h2, h3⟩ := h.map t m hm
  exact ⟨h1.keep hk (fun ho => hO _ ho (by rw [h2]; exact h3.1)), h2, h3⟩
 ·have := h.fit k hk2
  exact ⟨this.1, Nat.lt_of_lt_of_le this.2 hk.size⟩
theorem Parts.keepN (h : Parts B W T R F) (hk : Keep NoB W W') : Parts B W' T R F := h.keep hk (fun _ hf => hf.elim)
theorem Parts.new (h : Parts B W T R F) {k : Nat} (hk : W.heap.size ≤ k) : T k = .no := by
 apply Classical.byContradiction
 intro hn
 have := (h.fit k hn).2
 omega
theorem Parts.grow {t0 : Tg} {r : Row} (h : Parts B W T R F) (hB : B ≤ W.heap.size) (ht0 : okT t0) (hs : sole t0) (hF : F t0 = none) (hk : Keep (fun k => T k = t0) W W') (hr : r.own W' (fun k => T k = t0 ∨ W.heap.size ≤ k)) :
  Parts B W' (tagN T W.heap.size W'.heap.size t0) (upR R t0 r) F := by
 have hold : ∀ k, okT (T k) → tagN T W.heap.size W'.heap.size t0 k = T k := fun k hk2 => tagN_old (h.fit k hk2.1).2
 refine ⟨fun t ht => ?_, fun t m hm => ?_, fun k hk2 => ?_⟩
 ·by_cases e : t = t0
  ·subst e
   rw [upR_eq]
   refine hr.mono (fun k hk2 hl => ?_)
   rw [hs.1]
   rcases hk2 with e1 | e1
   ·rw [hold k (by rw [e1]; exact ht)]; exact e1
   ·exact tagN_new e1 hl
  ·rw [upR_ne _ _ e]
   refine ((h.row t ht).keep hk (fun k e1 e2 => e (hs.2 t (e1.symm.trans e2)))).mono (fun k e1 _ => ?_)
   rw [hold k (by rw [e1]; exact okT_mk ht)]; exact e1
 ·obtain ⟨h1, h2, h3⟩ := h.map t m hm
  have hne : t ≠ t0 := by rintro rfl; rw [hF] at hm; cases hm
  exact ⟨h1.keep hk (fun e => hne (h2.symm.trans e)), (hold _ (by rw [h2]; exact h3.1)).trans h2, h3⟩
 ·unfold tagN at hk2
  split at hk2
  ·rename_i h1; exact ⟨by omega, h1.2⟩
  ·have := h.fit k hk2
   exact ⟨this.1, Nat.lt_of_lt_of_le this.2 hk.size⟩
theorem Parts.pair {i : Nat} {r1 r2 : Row} (h : Parts B W T R F) (hB : B ≤ W.heap.size) (hk : Keep NoB W W') (hr1 : r1.own W' (Fresh W)) (hr2 : r2.own W' (Fresh W)) :
  Parts B W' (tagN T W.heap.size W'.heap.size (.fa i)) (upR (upR R (.fa i) r1) (.fb i) r2) F := by
 have hold : ∀ k, okT (T k) → tagN T W.heap.size W'.heap.size (.fa i) k = T k := fun k hk2 => tagN_old (h.fit k hk2.1).2
 refine ⟨fun t ht => ?_, fun t m hm => ?_, fun k hk2 => ?_⟩
 ·by_cases e : t = .fb i
  ·subst e
   rw [upR_eq]
   exact hr2.mono (fun k hk2 hl => tagN_new hk2 hl)
  ·rw [upR_ne _ _ e]
   by_cases e2 : t = .fa i
   ·subst e2
    rw [upR_eq]
    exact hr1.mono (fun k hk2 hl => tagN_new hk2 hl)
   ·rw [upR_ne _ _ e2]
    refine ((h.row t ht).keepN hk).mono (fun k e1 _ => ?_)
    rw [hold k (by rw [e1]; exact okT_mk ht)]; exact e1
 ·obtain ⟨h1, h2, h3⟩ := h.map t m hm
  exact ⟨h1.keep hk id, (hold _ (by rw [h2]; exact h3.1)).trans h2, h3⟩
 ·unfold tagN at hk2
  split at hk2
  ·rename_i h1; exact ⟨by omega, h1.2⟩
  ·have := h.fit k hk2
   exact ⟨this.1, Nat.lt_of_lt_of_le this.2 hk.size⟩
theorem Parts.rnd {t0 : Tg} (ht0 : t0 ≠ .no) (hk : Keep (fun k => T k = t0) W W') : Rnd (BS T) (BS (tagN T W.heap.size W'.heap.size t0)) W W' :=
 ⟨fun k hk2 h2 => by unfold BS at h2 ⊢; rwa [tagN_old hk2] at h2, hk.mono (fun k e _ => by unfold BS; rw [e]; exact ht0)⟩
theorem Parts.set {t0 : Tg} {m : Mp} {n : Nat} {f : Pl} (h : Parts B W T R F) (hm : F t0 = some m) (hR : (R t0).v = .slice none 0 0) (hk : W.grownBy W' (some m.b)) (hM : OMap Tryz.prog 9 3 m.b n f W') : Parts B W' T R (upR F t0 (some ⟨m.b, n, f⟩)) ∧ Rnd (BS T) (BS T) W W' := by
 obtain ⟨h1, h2, h3⟩ := h.map t0 m hm
 have hk2 : Keep (fun k => k = m.b) W W' := (Keep.refl _ W).grown hk (fun g e _ => by cases e; rfl)
 refine ⟨⟨fun t ht => ?_, fun t m' hm' => ?_, fun k hk3 => ?_⟩, Rnd.of_keep (hk2.mono (fun k e _ => by unfold BS; rw [e, h2]; exact h3.1.1))⟩
 ·by_cases e : t = t0
  ·subst e
   have h4 := h.row t ht
   refine ⟨ownsRow_keep h4.1 hk2 (fun g e => ?_), h4.2⟩
   rw [hR] at e; cases e
  ·exact (h.row t ht).keep hk2 (fun k e1 e2 => e (h3.2.2 t (by rw [← e1, e2, h2])))
 ·by_cases e : t = t0
  ·subst e
   rw [upR_eq] at hm'
   cases hm'
   exact ⟨hM, h2, h3⟩
  ·rw [upR_ne _ _ e] at hm'
   obtain ⟨g1, g2, g3⟩ := h.map t m' hm'
   exact ⟨g1.keep hk2 (fun e1 => e (by rw [← g2, e1, h2])), g2, g3⟩
 ·have := h.fit k hk3
  exact ⟨this.1, Nat.lt_of_lt_of_le this.2 hk2.size⟩
theorem Parts.make {t0 : Tg} (h : Parts B W T R F) (hB : B ≤ W.heap.size) (ht0 : okT t0) (hs : sole t0) (hR : (R t0).v = .slice none 0 0) : Parts B (W.alloc (.map #[] 0)) (tagN T W.heap.size (W.heap.size + 1) t0) R (upR F t0 (some ⟨W.heap.size, 0, fun _ => none⟩)) := by
 have hold : ∀ k, okT (T k) → tagN T W.heap.size (W.heap.size + 1) t0 k = T k := fun k hk2 => tagN_old (h.fit k hk2.1).2
 have hk := (Keep.refl NoB W).alloc (.map #[] 0)
 refine ⟨fun t ht => ?_, fun t m hm => ?_, fun k hk2 => ?_⟩
 ·by_cases e : t = t0
  ·subst e
   have h4 := (h.row t ht).keepN hk
   exact ⟨h4.1, fun g e => by rw [hR] at e; cases e⟩
  ·exact ((h.row t ht).keepN hk).mono (fun k e1 _ => by rw [hold k (by rw [e1]; exact okT_mk ht)]; exact e1)
 ·by_cases e : t = t0
  ·subst e
   rw [upR_eq] at hm
   cases hm
   exact ⟨OMap.new _ _ _ W, tagN_new (Nat.le_refl _) (Nat.lt_succ_self _), ht0, hs⟩
  ·rw [upR_ne _ _ e] at hm
   obtain ⟨g1, g2, g3⟩ := h.map t m hm
   exact ⟨g1.keep hk id, (hold _ (by rw [g2]; exact g3.1)).trans g2, g3⟩
 ·unfold tagN at hk2
  split at hk2
  ·rename_i h1; exact ⟨by omega, by simp; omega⟩
  ·have := h.fit k hk2
   exact ⟨this.1, by simp; omega⟩
end

structure RV where
 X : Option Addr
 nx : Nat
 cx : Nat
 Y : Option Addr
 ny : Nat
 cy : Nat
 ln : Nat
 la : Nat
 mb : Nat
 L : Option Addr
 nl : Nat
 cl : Nat
 M : Option Addr
 nm : Nat
 cm : Nat
def RV.cells (v : RV) : Array Value := #[.slice v.X v.nx v.cx, .slice v.Y v.ny v.cy, .int .i64 (v.ln : Int), .int .i64 (v.la : Int), .map (some v.mb), .slice v.L v.nl v.cl, .slice v.M v.nm v.cm]
structure LE where
 A : Option Addr
 n : Nat
 c : Nat
 b : Nat
 ws : List Bs
 f : Pl
def LE.cells (l : LE) : List Value := [.slice l.A l.n l.c, .map (some l.b)]
def lvs (ls : List LE) : List Value := ls.flatMap LE.cells
def among (mb : Nat) (ls : List LE) (m : Mn) : Option Nat := if m.k = 0 then none else if m.k = 1 then (ls[m.fn]?).map LE.b else some mb
def mnC (mb : Nat) (ls : List LE) (m : Mn) : List Value := [.int .i64 (m.ln : Int), .int .i64 (m.fn : Int), .int .i64 (m.pl : Int), .string (str m.s), .map (among mb ls m), .int .i64 (wrongM m)]
def mvs (mb : Nat) (ls : List LE) (ms : List Mn) : List Value := ms.flatMap (mnC mb ls)
theorem lvs_length (ls : List LE) : (lvs ls).length = ls.length * 2 := by
 induction ls with
 | nil => rfl
 | cons v l ih => unfold lvs at ih ⊢; rw [List.flatMap_cons, List.length_append, ih, List.length_cons]; unfold LE.cells; simp; omega
theorem mvs_length (mb : Nat) (ls : List LE) (ms : List Mn) : (mvs mb ls ms).length = ms.length * 6 := by
 induction ms with
 | nil => rfl
 | cons v l ih => unfold mvs at ih ⊢; rw [List.flatMap_cons, List.length_append, ih, List.length_cons]; unfold mnC; simp; omega
theorem lvs_append (a b : List LE) : lvs (a ++ b) = lvs a ++ lvs b := by simp [lvs]
theorem mvs_append (mb : Nat) (ls : List LE) (a b : List Mn) : mvs mb ls (a ++ b) = mvs mb ls a ++ mvs mb ls b := by simp [mvs]
theorem lvs_at : ∀ (ls : List LE) (i j : Nat) (h : i < ls.length), j < 2 → (lvs ls)[i * 2 + j]? = ls[i].cells[j]?
 | v :: l, 0, j, _, hj => by
  unfold lvs
  rw [List.flatMap_cons, Nat.zero_mul, Nat.zero_add, List.getElem?_append_left (by unfold LE.cells; simpa using hj)]; rfl
 | v :: l, i + 1, j, h, hj => by
  have := lvs_at l i j (by simpa using h) hj
  unfold lvs at this ⊢
  rw [List.flatMap_cons, show (i + 1) * 2 + j = 2 + (i * 2 + j) by omega, List.getElem?_append_right (by unfold LE.cells; simp)]
  simpa [LE.cells] using this
theorem mvs_at (mb : Nat) (ls : List LE) : ∀ (ms : List Mn) (i j : Nat) (h : i < ms.length), j < 6 → (mvs mb ls ms)[i * 6 + j]? = (mnC mb ls ms[i])[j]?
 | v :: l, 0, j, _, hj => by
  unfold mvs
  rw [List.flatMap_cons, Nat.zero_mul, Nat.zero_add, List.getElem?_append_left (by unfold mnC; simpa using hj)]; rfl
 | v :: l, i + 1, j, h, hj => by
  have := mvs_at mb ls l i j (by simpa using h) hj
  unfold mvs at this ⊢
  rw [List.flatMap_cons, show (i + 1) * 6 + j = 6 + (i * 6 + j) by omega, List.getElem?_append_right (by unfold mnC; simp)]
  simpa [mnC] using this

structure Rdr (B : Nat) (W : World) (T : Nat → Tg) (rb : Nat) (v : RV) (es : List I.SE) (fs : List I.FE) (ls : List LE) (R : Tg → Row) (F : Tg → Option Mp) (p : PS) (N : Nat) : Prop where
 pa : Parts B W T R F
 bk : Blk W rb 115 v.cells
 tb : T rb = .rd
 rsh : R .sh = ⟨68, 1, .slice v.X v.nx v.cx, v.nx, I.svs es⟩
 rse : ∀ i (h : i < es.length), R (.se i) = ⟨3, 1, .slice es[i].1.A es[i].1.n es[i].1.c, es[i].1.n, ivs es[i].2⟩
 rfn : R .fn = ⟨37, 5, .slice v.Y v.ny v.cy, v.ny, I.fvs fs⟩
 rfa : ∀ i (h : i < fs.length), R (.fa i) = ⟨3, 1, .slice fs[i].1.A fs[i].1.na fs[i].1.ca, fs[i].1.na, ivs fs[i].2.ar⟩
 rfb : ∀ i (h : i < fs.length), R (.fb i) = ⟨3, 1, .slice fs[i].1.B fs[i].1.nb fs[i].1.cb, fs[i].1.nb, ivs fs[i].2.rs⟩
 rfl_ : ∀ i (h : i < fs.length), R (.fl i) = ⟨3, 1, .slice fs[i].1.L fs[i].1.nl fs[i].1.cl, fs[i].1.nl, ivs fs[i].2.lc⟩
 rbd : ∀ i (h : i < fs.length), R (.bd i) = ⟨55, 3, .slice fs[i].1.D fs[i].1.nd fs[i].1.cd, fs[i].1.nd, C.iis fs[i].2.bd⟩
 fnm : ∀ i (h : i < fs.length), fs[i].1.S.data.toList = fs[i].2.nm ∧ C.AllI fs[i].2.bd
 rlb : R .lb = ⟨141, 2, .slice v.L v.nl v.cl, v.nl, lvs ls⟩
 rnm : ∀ i (h : i < ls.length), R (.nm i) = ⟨9, 1, .slice ls[i].A ls[i].n ls[i].c, ls[i].n, sv ls[i].ws⟩
 rmn : R .mn = ⟨239, 6, .slice v.M v.nm v.cm, v.nm, mvs v.mb ls p.ms⟩
 fnu : ∃ n, n ≤ N ∧ F .nu = some ⟨v.mb, n, p.nums⟩
 fpl : ∀ i (h : i < ls.length), ∃ n, n ≤ N ∧ F (.pl i) = some ⟨ls[i].b, n, ls[i].f⟩
 fno : ∀ t, (∀ i, t ≠ .pl i) → t ≠ .nu → F t = none
 rno : (R .nu).v = .slice none 0 0 ∧ ∀ i, (R (.pl i)).v = .slice none 0 0
 im : I.imOf es fs = p.im
 lb : ls.map (fun l => (l.ws, l.f)) = p.labs
 lf : ls.length = fs.length
 la : v.la = p.last
 bx : es.length ≤ N
 by_ : fs.length ≤ N
 bm : p.ms.length ≤ N
 bd : ∀ i (h : i < fs.length), fs[i].2.bd.length ≤ N
 bl : ∀ i (h : i < ls.length), ls[i].ws.length ≤ N
 esm : ∀ i (h : i < es.length), es[i].1.n ≤ 140737488355328
 fsm : ∀ i (h : i < fs.length), _root_.Go.Proofs.YtgnooffedmeenaaGreatDoor.F.LgF fs[i].1
 wm : ∀ m ∈ p.ms, m.k = 1 → m.fn < ls.length

end Go.Proofs.YtgnooffedmeenaaGreatDoor.M

namespace Go.Proofs.YtgnooffedmeenaaGreatDoor.M
open Go.RowKit W

theorem rd_cells {W : World} {rb : Nat} {v : RV} (h : Blk W rb 115 v.cells) :
  W.cell? ⟨rb, 0, none⟩ = some (.slice v.X v.nx v.cx) ∧ W.cell? ⟨rb, 1, none⟩ = some (.slice v.Y v.ny v.cy) ∧ W.cell? ⟨rb, 2, none⟩ = some (.int .i64 (v.ln : Int)) ∧ W.cell? ⟨rb, 3, none⟩ = some (.int .i64 (v.la : Int)) ∧
  W.cell? ⟨rb, 4, none⟩ = some (.map (some v.mb)) ∧ W.cell? ⟨rb, 5, none⟩ = some (.slice v.L v.nl v.cl) ∧ W.cell? ⟨rb, 6, none⟩ = some (.slice v.M v.nm v.cm) :=
 ⟨h.cell 0, h.cell 1, h.cell 2, h.cell 3, h.cell 4, h.cell 5, h.cell 6⟩
theorem current_any (W : World) (rb g k cy : Nat) (h1 : W.cell? ⟨rb, 1, none⟩ = some (.slice (some ⟨g, 0, none⟩) (k + 1) cy)) (hk : k < 1000000) :
  Calls Tryz.prog 255 #[.pointer (some ⟨rb, 0, none⟩)] W fun e w' => e = .returned (.pointer (some ⟨g, k * 5, none⟩)) ∧ ∃ q, w' = W.drewN q := by
 have hb : (0 : Int) ≤ (k : Int) ∧ (k : Int) < (k : Int) + 1 := by omega
 go_enter Tryz.func255, Tryz.ntmps255
 go_wp2
 go_quiet (fail)
 go_wp2
 go_ret
 exact ⟨rfl, _, rfl⟩

end Go.Proofs.YtgnooffedmeenaaGreatDoor.M

namespace Go.Proofs.YtgnooffedmeenaaGreatDoor.M
open Go.RowKit W

section
variable {B : Nat} {W W' : World} {T : Nat → Tg} {R : Tg → Row} {F : Tg → Option Mp}
theorem Parts.app {t0 : Tg} {v' : Value} {n' : Nat} {xs' : List Value} (h : Parts B W T R F) (hB : B ≤ W.heap.size) (ht0 : okT t0) (hs : sole t0) (hF : F t0 = none) (hg : W.grownBy W' (R t0).v.ownBlock) (hr : W'.ownsRow 0 (R t0).E (R t0).sz v' n' xs') (hv : v'.ownBlock = (R t0).v.ownBlock ∨ v'.ownBlock = some W.heap.size) :
  Parts B W' (tagN T W.heap.size W'.heap.size t0) (upR R t0 ⟨(R t0).E, (R t0).sz, v', n', xs'⟩) F ∧ Rnd (BS T) (BS (tagN T W.heap.size W'.heap.size t0)) W W' ∧ Keep (fun k => T k = t0) W W' := by
 have h0 := h.row t0 ht0
 have hk : Keep (fun k => T k = t0) W W' := (Keep.refl _ W).grown hg (fun j e _ => (h0.2 j e).trans hs.1)
 refine ⟨h.grow hB ht0 hs hF hk ⟨hr, fun g e => ?_⟩, Parts.rnd ht0.1 hk, hk⟩
 rcases hv with e1 | e1
 ·exact .inl ((h0.2 g (by rw [← e1]; exact e)).trans hs.1)
 ·rw [e1] at e; cases e; exact .inr (Nat.le_refl _)
theorem Parts.fresh {t0 : Tg} {r : Row} (h : Parts B W T R F) (hB : B ≤ W.heap.size) (ht0 : okT t0) (hs : sole t0) (hF : F t0 = none) (hk : Keep NoB W W') (hr : r.own W' (Fresh W)) :
  Parts B W' (tagN T W.heap.size W'.heap.size t0) (upR R t0 r) F ∧ Rnd (BS T) (BS (tagN T W.heap.size W'.heap.size t0)) W W' :=
 ⟨h.grow hB ht0 hs hF hk.noB (hr.mono (fun _ e _ => .inr e)), Parts.rnd ht0.1 hk.noB⟩
theorem rnd_keep (hk : Keep NoB W W') : Rnd (BS T) (BS T) W W' := Rnd.of_keep hk.noB
theorem Parts.cell {rb i : Nat} {u : Value} (h : Parts B W T R F) (hr : T rb = .rd) : Parts B (W.setCell ⟨rb, i, none⟩ u) T R F ∧ Rnd (BS T) (BS T) W (W.setCell ⟨rb, i, none⟩ u) := by
 have hk : Keep (fun k => k = rb) W (W.setCell ⟨rb, i, none⟩ u) := (Keep.refl (fun k => k = rb) W).setCell (p := ⟨rb, i, none⟩) (fun _ => rfl) u
 exact ⟨h.keep hk (fun k (e : k = rb) => by rw [e, hr]; exact fun h2 => h2.2 rfl), Rnd.of_keep (hk.mono (fun k e _ => by unfold BS; rw [e, hr]; exact Tg.noConfusion))⟩
end
theorem getElem_snoc {α : Type} {l : List α} {x : α} {i : Nat} (h : i < (l ++ [x]).length) : (∃ h' : i < l.length, (l ++ [x])[i] = l[i]) ∨ (i = l.length ∧ (l ++ [x])[i] = x) := by
 by_cases h' : i < l.length
 ·exact .inl ⟨h', List.getElem_append_left h'⟩
 ·have : i = l.length := by simp at h; omega
  subst this
  exact .inr ⟨rfl, by simp⟩

theorem rdr_shape {B : Nat} {W W1 W3 : World} {T : Nat → Tg} {rb : Nat} {v : RV} {es : List I.SE} {fs : List I.FE} {ls : List LE} {R : Tg → Row} {F : Tg → Option Mp} {p : PS} {N : Nat}
  (h : Rdr B W T rb v es fs ls R F p N) (hB : B ≤ W.heap.size) (hk : Keep NoB W W1) {A : Option Addr} {n c : Nat} {x : List Int} (hx : Own W1 3 1 (Fresh W) (.slice A n c) n (ivs x)) (hn : n ≤ 1000) {o : Obj}
  {A' : Option Addr} {c' : Nat} (hr : W3.ownsRow 0 68 1 (.slice A' (v.nx + 1) c') (v.nx + 1) (I.svs es ++ [.slice A n c])) (hg : (W1.alloc o).grownBy W3 (Value.slice v.X v.nx v.cx).ownBlock) (hv : (Value.slice A' (v.nx + 1) c').ownBlock = (Value.slice v.X v.nx v.cx).ownBlock ∨ (Value.slice A' (v.nx + 1) c').ownBlock = some (W1.alloc o).heap.size) :
  ∃ T', Rnd (BS T) (BS T') W (W3.setCell ⟨rb, 0, none⟩ (.slice A' (v.nx + 1) c')) ∧ ∃ v' es' R', v'.ln = v.ln ∧ Rdr B (W3.setCell ⟨rb, 0, none⟩ (.slice A' (v.nx + 1) c')) T' rb v' es' fs ls R' F ⟨⟨p.im.sh ++ [x], p.im.fn⟩, p.last, p.nums, p.labs, p.ms⟩ (N + 1) := by
 have hsz := hk.size
 have ok1 : okT (.se es.length) := ⟨Tg.noConfusion, Tg.noConfusion⟩
 have s1 : sole (.se es.length) := ⟨rfl, by intro t e; cases t <;> first | exact e | cases e⟩
 have s2 : sole .sh := ⟨rfl, by intro t e; cases t <;> first | exact e | cases e⟩
 have ok2 : okT .sh := ⟨Tg.noConfusion, Tg.noConfusion⟩
 obtain ⟨q1, r1⟩ := h.pa.fresh (t0 := .se es.length) (r := ⟨3, 1, .slice A n c, n, ivs x⟩) hB ok1 s1 (h.fno _ (fun i => Tg.noConfusion) Tg.noConfusion) hk hx
 have ka := (Keep.refl NoB W1).alloc o
 have q2 := q1.keepN ka
 have e1 : upR R (.se es.length) ⟨3, 1, .slice A n c, n, ivs x⟩ .sh = _ := (upR_ne _ _ Tg.noConfusion).trans h.rsh
 obtain ⟨q3, r3, k3⟩ := q2.app (t0 := .sh) (v' := .slice A' (v.nx + 1) c') (n' := v.nx + 1) (xs' := I.svs es ++ [.slice A n c]) (by simp; omega) ok2 s2 (h.fno _ (fun i => Tg.noConfusion) Tg.noConfusion) (by rw [e1]; exact hg) (by rw [e1]; exact hr) (by rw [e1]; exact hv)
 rw [e1] at q3
 have t1 : tagN T W.heap.size W1.heap.size (.se es.length) rb = .rd := (tagN_old (h.pa.fit rb (by rw [h.tb]; exact Tg.noConfusion)).2).trans h.tb
 have b2 : Blk (W1.alloc o) rb 115 v.cells := (h.bk.keep hk id).keep ka id
 have t2 := (tagN_old (t := .sh) (b := W3.heap.size) b2.lt).trans t1
 have b3 := b2.keep k3 (by show ¬ _ = _; rw [t1]; exact Tg.noConfusion)
 obtain ⟨q4, r4⟩ := q3.cell (i := 0) (u := .slice A' (v.nx + 1) c') t2
 have b4 := b3.put 0 (.slice A' (v.nx + 1) c')
 refine ⟨_, ((r1.trans (rnd_keep ka)).trans r3).trans r4, { v with X := A', nx := v.nx + 1, cx := c' }, es ++ [(⟨A, n, c⟩, x)], _, rfl, ⟨q4, b4, t2, ?_, ?_, ?_, ?_, ?_, ?_, ?_, h.fnm, ?_, ?_, ?_, ?_, ?_, h.fno, ?_, ?_, h.lb, h.lf, h.la, ?_, ?_, ?_, ?_, ?_, ?_, h.fsm, ?_⟩⟩
 ·rw [upR_eq, I.svs_append]; rfl
 ·intro i hi
  rw [upR_ne _ _ Tg.noConfusion]
  rcases getElem_snoc hi with ⟨h', e⟩ | ⟨rfl, e⟩
  ·rw [e, upR_ne _ _ (by intro e2; injection e2 with e2; omega)]; exact h.rse i h'
  ·rw [e, upR_eq]
 ·exact ((upR_ne _ _ Tg.noConfusion).trans (upR_ne _ _ Tg.noConfusion)).trans h.rfn
 ·exact fun i hi => ((upR_ne _ _ Tg.noConfusion).trans (upR_ne _ _ Tg.noConfusion)).trans (h.rfa i hi)
 ·exact fun i hi => ((upR_ne _ _ Tg.noConfusion).trans (upR_ne _ _ Tg.noConfusion)).trans (h.rfb i hi)
 ·exact fun i hi => ((upR_ne _ _ Tg.noConfusion).trans (upR_ne _ _ Tg.noConfusion)).trans (h.rfl_ i hi)
 ·exact fun i hi => ((upR_ne _ _ Tg.noConfusion).trans (upR_ne _ _ Tg.noConfusion)).trans (h.rbd i hi)
 ·exact ((upR_ne _ _ Tg.noConfusion).trans (upR_ne _ _ Tg.noConfusion)).trans h.rlb
 ·exact fun i hi => ((upR_ne _ _ Tg.noConfusion).trans (upR_ne _ _ Tg.noConfusion)).trans (h.rnm i hi)
 ·exact ((upR_ne _ _ Tg.noConfusion).trans (upR_ne _ _ Tg.noConfusion)).trans h.rmn
 ·obtain ⟨m, h1, h2⟩ := h.fnu; exact ⟨m, by omega, h2⟩
 ·intro i hi; obtain ⟨m, h1, h2⟩ := h.fpl i hi; exact ⟨m, by omega, h2⟩
 ·exact ⟨by rw [upR_ne _ _ Tg.noConfusion, upR_ne _ _ Tg.noConfusion]; exact h.rno.1, fun i => by rw [upR_ne _ _ Tg.noConfusion, upR_ne _ _ Tg.noConfusion]; exact h.rno.2 i⟩
 ·have e := h.im; unfold I.imOf at e ⊢; rw [← e]; simp
 ·have := h.bx; simp; omega
 ·have := h.by_; omega
 ·have := h.bm; show p.ms.length ≤ _; omega
 ·intro i hi; have := h.bd i hi; omega
 ·intro i hi; have := h.bl i hi; omega
 ·intro i hi
  rcases getElem_snoc hi with ⟨h', e⟩ | ⟨rfl, e⟩
  ·rw [e]; exact h.esm i h'
  ·rw [e]; show n ≤ _; omega
 ·exact h.wm

end Go.Proofs.YtgnooffedmeenaaGreatDoor.M

namespace Go.Proofs.YtgnooffedmeenaaGreatDoor.M
open Go.RowKit W

def RdAt (w0 W : World) (T : Nat → Tg) (rb : Nat) (p : PS) (N ln : Nat) : Prop :=
 Keep NoB w0 W ∧ ∃ v es fs ls R F, v.ln = ln ∧ Rdr w0.heap.size W T rb v es fs ls R F p N
def EnvM (w : World) : Prop := O.LaidO w ∧ O.CutAt w
theorem EnvM.keep {w w' : World} (h : EnvM w) (hk : Keep NoB w w') : EnvM w' := ⟨h.1.keep hk, h.2.keep hk⟩
def TryR (w0 W : World) (T : Nat → Tg) (rb : Nat) (p : PS) (N ln : Nat) (q : Option PS) (e : Ending) (W' : World) : Prop :=
 ∃ T', Rnd (BS T) (BS T') W W' ∧ ((q = none ∧ e = .returned (.bool false) ∧ RdAt w0 W' T' rb p N ln) ∨ (∃ p', q = some p' ∧ e = .returned (.bool true) ∧ RdAt w0 W' T' rb (p'.to p.last) (N + 2) ln))
section
variable {w0 W W' : World} {T T' : Nat → Tg} {rb N ln : Nat} {p : PS} {q : Option PS}
theorem Rdr.keepN {B : Nat} {v : RV} {es : List I.SE} {fs : List I.FE} {ls : List LE} {R : Tg → Row} {F : Tg → Option Mp} (h : Rdr B W T rb v es fs ls R F p N) (hk : Keep NoB W W') : Rdr B W' T rb v es fs ls R F p N :=
 { h with pa := h.pa.keepN hk, bk := h.bk.keep hk id }
theorem RdAt.keepN (h : RdAt w0 W T rb p N ln) (hk : Keep NoB W W') : RdAt w0 W' T rb p N ln := by
 obtain ⟨h1, v, es, fs, ls, R, F, h2, h3⟩ := h
 exact ⟨_root_.Go.Proofs.YtgnooffedmeenaaGreatDoor.keepN h1 hk, v, es, fs, ls, R, F, h2, h3.keepN hk⟩
theorem keep_rnd {R : Tg → Row} {F : Tg → Option Mp} (P : Parts w0.heap.size W T R F) (h : Keep NoB w0 W) (hr : Rnd (BS T) (BS T') W W') : Keep NoB w0 W' :=
 h.trans hr.keep (fun k h2 hl => by have := (P.fit k h2).1; omega)
theorem try_no (h : RdAt w0 W T rb p N ln) (hk : Keep NoB W W') (hq : q = none) : TryR w0 W T rb p N ln q (.returned (.bool false)) W' :=
 ⟨T, rnd_keep hk, .inl ⟨hq, rfl, h.keepN hk⟩⟩
end
theorem shapeM_info : (Tryz.prog.info? 68).map (fun i => (i.zero, i.size, i.bytes)) = some (some (.slice none 0 0), 1, 24) := by kernel_rfl
theorem rdS_fit {s : Bs} {x : List Int} (h : S.rdS s = some x) : x.length ≤ 16 := by
 unfold S.rdS at h
 split at h
 ·cases h
 ·split at h
  ·rename_i ho
   injection h with h
   subst h
   exact ((S.okS_iff _).1 ho).1.2
  ·cases h
theorem Rdr.more {B : Nat} {W : World} {T : Nat → Tg} {rb : Nat} {v : RV} {es : List I.SE} {fs : List I.FE} {ls : List LE} {R : Tg → Row} {F : Tg → Option Mp} {p : PS} {N : Nat}
  (h : Rdr B W T rb v es fs ls R F p N) : Rdr B W T rb v es fs ls R F p (N + 1) :=
 { h with
  fnu := by obtain ⟨n, h1, h2⟩ := h.fnu; exact ⟨n, by omega, h2⟩
  fpl := fun i hi => by obtain ⟨n, h1, h2⟩ := h.fpl i hi; exact ⟨n, by omega, h2⟩
  bx := by have := h.bx; omega
  by_ := by have := h.by_; omega
  bm := by have := h.bm; omega
  bd := fun i hi => by have := h.bd i hi; omega
  bl := fun i hi => by have := h.bl i hi; omega }
theorem pShape_no1 {p : PS} {ws : List Bs} (h : p.last ≠ 0) : pShape p ws = none := by
 unfold pShape; split
 ·exact if_neg (fun h2 => h h2.1)
 ·rfl
theorem pShape_no2 {p : PS} {ws : List Bs} (h : ws.length ≠ 2) : pShape p ws = none := by
 unfold pShape; split
 ·exact absurd rfl h
 ·rfl
theorem pShape_no3 {p : PS} {a b : Bs} (h : a ≠ shapeW) : pShape p [a, b] = none := if_neg (fun h2 => h h2.2)
theorem pShape_yes {p : PS} {b : Bs} (h : p.last = 0) : pShape p [shapeW, b] = (S.rdS b).map fun x => PS.mk ⟨p.im.sh ++ [x], p.im.fn⟩ 0 p.nums p.labs p.ms := if_pos ⟨h, rfl⟩

set_option maxRecDepth 100000 in
set_option maxHeartbeats 4000000 in
theorem readShape_any (w0 W : World) (T : Nat → Tg) (rb : Nat) (p : PS) (N ln : Nat) (hE : Hid (EnvM w0)) (h : RdAt w0 W T rb p N ln) (hN : N ≤ 300000) (A : Option Addr) (ws : List Bs) (n c : Nat) (hw : Rd W A (sv ws)) (hn : ws.length = n) (hnc : n ≤ c) (hwl : ∀ x ∈ ws, x.length ≤ 140000) :
  Calls Tryz.prog 196 #[.pointer (some ⟨rb, 0, none⟩), .slice A n c] W (TryR w0 W T rb p N ln (pShape p ws)) := by
 have HR := Lib.hid h
 obtain ⟨hk0, v, es, fs, ls, R, F, hln, hr⟩ := h
 obtain ⟨c0, c1, c2, c3, c4, c5, c6⟩ := rd_cells hr.bk
 have hla := hr.la
 rw [hla] at c3
 have HW := Lib.hid hr
 have HK := Lib.hid hk0
 have HLn := Lib.hid hln
 clear hr hk0 c1 c2 c4 c5 c6 hln
 by_cases h1 : p.last = 0
 ·by_cases h2 : n = 2
  ·subst h2
   obtain ⟨a, b, rfl⟩ : ∃ a b, ws = [a, b] := by
    match ws, hn with
    | [a, b], _ => exact ⟨a, b, rfl⟩
   obtain ⟨g, off, rfl, hcs⟩ := sv_at hw (by simp)
   have s0 := hcs 0 (by simp)
   have s1 := hcs 1 (by simp)
   simp only [List.getElem_cons_zero, List.getElem_cons_succ, Nat.add_zero] at s0 s1
   rw [h1] at c3
   by_cases h3 : a = shapeW
   ·subst h3
    have hbl : b.length ≤ 140000 := hwl b (by simp)
    have HRd := Lib.hid (S.readS_any (str b) b W (hE.out.1.lets.keep HK.out) (Lib.hid (by simp)) (by rw [size_of (S := str b) (s := b) (by simp)]; omega))
    have HP := Lib.hid (pShape_yes (p := p) (b := b) h1)
    obtain ⟨x, hx⟩ : ∃ x, S.rdS b = x := ⟨_, rfl⟩
    rw [hx] at HRd HP
    have HX := Lib.hid hx
    clear hwl hcs hw hx hn
    generalize str b = SB at *
    unfold S.ReadR at HRd
    cases x with
    | none =>
     go_enter Tryz.func196, Tryz.ntmps196
     go_wp2_with fail
     refine HRd.out.mono ?_
     rintro e w1 ⟨u, rfl, hu, k1⟩
     go_wp2
     go_ret
     exact try_no HR.out k1 HP.out
    | some x =>
     dsimp only [S.rsL, S.rsE] at HRd
     go_enter Tryz.func196, Tryz.ntmps196
     go_wp2_with fail
     refine HRd.out.mono ?_
     rintro e w1 ⟨u, rfl, hu, k1⟩
     obtain ⟨A1, d1, rfl, _⟩ := hu.form
     have hbk := HW.out.bk.keep k1 id
     obtain ⟨q0, _⟩ := rd_cells hbk
     have hro := HW.out.pa.row .sh ⟨Tg.noConfusion, Tg.noConfusion⟩
     rw [HW.out.rsh] at hro
     have hro1 : World.ownsRow (w1.alloc (.cells #[.slice A1 x.length d1] 68)) 0 68 1 (.slice v.X v.nx v.cx) v.nx (I.svs es) := (hro.keepN k1).1.alloc (.cells #[.slice A1 x.length d1] 68)
     have hnx : v.nx ≤ 300000 := by
      have h5 := hro1.1
      have h6 := HW.out.bx
      rw [I.svs_length] at h5
      omega
     have hne : some rb ≠ (Value.slice v.X v.nx v.cx).ownBlock := fun e => by
      have h5 : T rb = .sh := hro.2 rb e.symm
      rw [HW.out.tb] at h5; cases h5
     have hb2 := hbk.alloc (.cells #[.slice A1 x.length d1] 68)
     have hx1000 : x.length ≤ 1000 := by
      have h5 := rdS_fit HX.out
      omega
     obtain ⟨i0, hi, hz0, hz1, hz2⟩ := info_parts shapeM_info
     have HU := Lib.hid (And.intro hu k1)
     clear hro hbk hu k1
     go_wp2_with (at_builtin; refine wpList_append_rd _ rfl (.tmp 37) (.tmp 39) _ rfl 68 1 24 i0 _ Tryz.underlying22 hi hz0 hz1 hz2 rfl (by decide) _ v.nx _ _ 1 _ [.slice A1 x.length d1] rfl hro1 rfl rd_one rfl (by simp [Value.oneCell']) (by unfold maxLen; omega) (by omega) ?_; intro A2 c2 w3 hrow3 hg3 hv3; have hb3 := hb2.grown hg3 hne; have d0 := hb3.cell 0; have f0 := hb3.frozen 0; simp only [RV.cells, List.getElem?_toArray, List.getElem?_cons_zero] at d0)
     go_ret
     obtain ⟨T', r1, v', es', R', hv', hr'⟩ := rdr_shape HW.out HK.out.size HU.out.2 HU.out.1 hx1000 hrow3 hg3 hv3
     exact ⟨T', r1, .inr ⟨_, HP.out, rfl, keep_rnd HW.out.pa HK.out r1, v', es', fs, ls, R', F, hv'.trans HLn.out, hr'.more⟩⟩
   ·have HP := Lib.hid (pShape_no3 (p := p) (b := b) h3)
    have hne : (a == [115, 104, 97, 112, 101]) = false := by rw [beq_eq_false_iff_ne]; exact h3
    go_enter Tryz.func196, Tryz.ntmps196
    go_wp2
    go_ret
    exact try_no HR.out (Keep.refl _ _) HP.out
  ·have HP := Lib.hid (pShape_no2 (p := p) (ws := ws) (by omega))
   rw [h1] at c3
   have hn2 : ((n : Int) == 2) = false := by rw [beq_eq_false_iff_ne]; omega
   go_enter Tryz.func196, Tryz.ntmps196
   go_wp2
   go_ret
   exact try_no HR.out (Keep.refl _ _) HP.out
 ·have HP := Lib.hid (pShape_no1 (ws := ws) h1)
  have hl2 : (((p.last : Nat) : Int) == 0) = false := by rw [beq_eq_false_iff_ne]; omega
  go_enter Tryz.func196, Tryz.ntmps196
  go_wp2
  go_ret
  exact try_no HR.out (Keep.refl _ _) HP.out

end Go.Proofs.YtgnooffedmeenaaGreatDoor.M

namespace Go.Proofs.YtgnooffedmeenaaGreatDoor.M
open Go.RowKit W

theorem mvs_ext {mb : Nat} {ls : List LE} (l : LE) : ∀ {ms : List Mn}, (∀ m ∈ ms, m.k = 1 → m.fn < ls.length) → mvs mb (ls ++ [l]) ms = mvs mb ls ms
 | [], _ => rfl
 | m :: r, h => by
  have ih := mvs_ext (mb := mb) l (ms := r) (fun x hx => h x (List.mem_cons_of_mem _ hx))
  have e : among mb (ls ++ [l]) m = among mb ls m := by
   unfold among
   split
   ·rfl
   ·split
    ·rename_i h1
     rw [List.getElem?_append_left (h m (by simp) h1)]
    ·rfl
  unfold mvs at ih ⊢
  rw [List.flatMap_cons, List.flatMap_cons, ih]
  unfold mnC
  rw [e]
theorem rdr_pair {B : Nat} {W W1 : World} {T : Nat → Tg} {rb : Nat} {v : RV} {es : List I.SE} {fs : List I.FE} {ls : List LE} {R : Tg → Row} {F : Tg → Option Mp} {p : PS} {N : Nat}
  (h : Rdr B W T rb v es fs ls R F p N) (hB : B ≤ W.heap.size) (hk : Keep NoB W W1) {r1 r2 : Row} (h1 : r1.own W1 (Fresh W)) (h2 : r2.own W1 (Fresh W)) :
  Rdr B W1 (tagN T W.heap.size W1.heap.size (.fa fs.length)) rb v es fs ls (upR (upR R (.fa fs.length) r1) (.fb fs.length) r2) F p N ∧ Rnd (BS T) (BS (tagN T W.heap.size W1.heap.size (.fa fs.length))) W W1 := by
 refine ⟨{ h with pa := h.pa.pair hB hk h1 h2, bk := h.bk.keep hk id, tb := (tagN_old (h.pa.fit rb (by rw [h.tb]; exact Tg.noConfusion)).2).trans h.tb, rsh := ?_, rse := ?_, rfn := ?_, rfa := ?_, rfb := ?_, rfl_ := ?_, rbd := ?_, rlb := ?_, rnm := ?_, rmn := ?_, rno := ?_ }, Parts.rnd (t0 := .fa fs.length) Tg.noConfusion hk.noB⟩
 ·simp [upR]; exact h.rsh
 ·intro i hi; simp [upR]; exact h.rse i hi
 ·simp [upR]; exact h.rfn
 ·intro i hi; have hne : ¬ i = fs.length := by omega
  simp [upR, hne]; exact h.rfa i hi
 ·intro i hi; have hne : ¬ i = fs.length := by omega
  simp [upR, hne]; exact h.rfb i hi
 ·intro i hi; simp [upR]; exact h.rfl_ i hi
 ·intro i hi; simp [upR]; exact h.rbd i hi
 ·simp [upR]; exact h.rlb
 ·intro i hi; simp [upR]; exact h.rnm i hi
 ·simp [upR]; exact h.rmn
 ·exact ⟨by simp [upR]; exact h.rno.1, fun i => by simp [upR]; exact h.rno.2 i⟩
theorem rdr_nums {B : Nat} {W W1 : World} {T : Nat → Tg} {rb : Nat} {v : RV} {es : List I.SE} {fs : List I.FE} {ls : List LE} {R : Tg → Row} {F : Tg → Option Mp} {p : PS} {N n : Nat} {f : Pl}
  (h : Rdr B W T rb v es fs ls R F p N) (hn : n ≤ N + 1) (hg : W.grownBy W1 (some v.mb)) (hM : OMap Tryz.prog 9 3 v.mb n f W1) :
  ∃ F', Rdr B W1 T rb v es fs ls R F' ⟨p.im, p.last, f, p.labs, p.ms⟩ (N + 1) ∧ Rnd (BS T) (BS T) W W1 := by
 obtain ⟨m, hm1, hm2⟩ := h.fnu
 obtain ⟨q1, q2⟩ := h.pa.set hm2 h.rno.1 hg hM
 have hne : rb ≠ v.mb := by
  have h1 := (h.pa.map _ _ hm2).2.1
  have h2 := h.tb
  rintro rfl
  rw [h1] at h2; cases h2
 refine ⟨_, { h with pa := q1, bk := h.bk.grown hg (by simpa using hne), fnu := ⟨n, hn, upR_eq _ _ _⟩, fpl := ?_, fno := ?_, bx := by have := h.bx; omega, by_ := by have := h.by_; omega, bm := by have := h.bm; show p.ms.length ≤ _; omega, bd := fun i hi => by have := h.bd i hi; omega, bl := fun i hi => by have := h.bl i hi; omega }, q2⟩
 ·intro i hi
  obtain ⟨n', h1, h2⟩ := h.fpl i hi
  exact ⟨n', by omega, (upR_ne _ _ Tg.noConfusion).trans h2⟩
 ·intro t h1 h2
  exact (upR_ne _ _ h2).trans (h.fno t h1 h2)
section
variable {B : Nat} {W : World} {T : Nat → Tg} {R : Tg → Row} {F : Tg → Option Mp}
theorem Parts.nil (h : Parts B W T R F) (t0 : Tg) (E sz : Nat) : Parts B W T (upR R t0 ⟨E, sz, .slice none 0 0, 0, []⟩) F := by
 refine ⟨fun t ht => ?_, h.map, h.fit⟩
 by_cases e : t = t0
 ·subst e; rw [upR_eq]; exact Own.nil _ _ _ _
 ·rw [upR_ne _ _ e]; exact h.row t ht
end

set_option maxHeartbeats 1000000 in
theorem rdr_func {B : Nat} {W Wd Wc We Wi : World} {T : Nat → Tg} {rb : Nat} {v : RV} {es : List I.SE} {fs : List I.FE} {ls : List LE} {R : Tg → Row} {F : Tg → Option Mp} {p : PS} {N : Nat}
  (h : Rdr B W T rb v es fs ls R F p N) (hB : B ≤ W.heap.size) (hk : Keep NoB W Wd) {S : ByteArray} {nm : Bs} {A A2 : Option Addr} {na ca nb cb : Nat} {ar rs : List Int}
  (hnm : S.data.toList = nm) (hnl : S.size ≤ 140000) (hna : na ≤ 140000) (hnb : nb ≤ 140000) (h1 : R (.fa fs.length) = ⟨3, 1, .slice A na ca, na, ivs ar⟩) (h2 : R (.fb fs.length) = ⟨3, 1, .slice A2 nb cb, nb, ivs rs⟩) {o : Obj}
  {Y' : Option Addr} {cy' : Nat} (hk9 : Keep NoB Wc We) (hr : Wc.ownsRow 0 37 5 (.slice Y' (v.ny + 1) cy') (v.ny + 1) (I.fvs fs ++ [.string S, .slice A na ca, .slice A2 nb cb, .slice none 0 0, .slice none 0 0])) (hg : Wd.grownBy Wc (Value.slice v.Y v.ny v.cy).ownBlock) (hv : (Value.slice Y' (v.ny + 1) cy').ownBlock = (Value.slice v.Y v.ny v.cy).ownBlock ∨ (Value.slice Y' (v.ny + 1) cy').ownBlock = some Wd.heap.size)
  {Wf : World} (hWf : We.setCell ⟨rb, 1, none⟩ (.slice Y' (v.ny + 1) cy') = Wf)
  {L' : Option Addr} {cl' : Nat} (hr2 : Wi.ownsRow 0 141 2 (.slice L' (v.nl + 1) cl') (v.nl + 1) (lvs ls ++ [.slice none 0 0, .map (some Wf.heap.size)])) (hg2 : ((Wf.alloc (.map #[] 0)).alloc o).grownBy Wi (Value.slice v.L v.nl v.cl).ownBlock) (hv2 : (Value.slice L' (v.nl + 1) cl').ownBlock = (Value.slice v.L v.nl v.cl).ownBlock ∨ (Value.slice L' (v.nl + 1) cl').ownBlock = some ((Wf.alloc (.map #[] 0)).alloc o).heap.size) :
  ∃ T', Rnd (BS T) (BS T') W (Wi.setCell ⟨rb, 5, none⟩ (.slice L' (v.nl + 1) cl')) ∧ ∃ v' fs' ls' R' F', v'.ln = v.ln ∧ Rdr B (Wi.setCell ⟨rb, 5, none⟩ (.slice L' (v.nl + 1) cl')) T' rb v' es fs' ls' R' F' ⟨⟨p.im.sh, p.im.fn ++ [⟨nm, ar, rs, [], []⟩]⟩, p.last, p.nums, p.labs ++ [lb0], p.ms⟩ (N + 1) := by
 subst hWf
 have hsz := hk.size
 have s1 : sole .fn := ⟨rfl, by intro t e; cases t <;> first | exact e | cases e⟩
 have s2 : sole .lb := ⟨rfl, by intro t e; cases t <;> first | exact e | cases e⟩
 have s3 : sole (.pl ls.length) := ⟨rfl, by intro t e; cases t <;> first | exact e | cases e⟩
 have o1 : okT .fn := ⟨Tg.noConfusion, Tg.noConfusion⟩
 have o2 : okT .lb := ⟨Tg.noConfusion, Tg.noConfusion⟩
 have o3 : okT (.pl ls.length) := ⟨Tg.noConfusion, Tg.noConfusion⟩
 have q0 := ((((h.pa.keepN hk).nil (.fl fs.length) 3 1).nil (.bd fs.length) 55 3).nil (.nm ls.length) 9 1)
 have e0 : upR (upR (upR R (.fl fs.length) ⟨3, 1, .slice none 0 0, 0, []⟩) (.bd fs.length) ⟨55, 3, .slice none 0 0, 0, []⟩) (.nm ls.length) ⟨9, 1, .slice none 0 0, 0, []⟩ .fn = R .fn := by simp only [upR, reduceCtorEq, if_false]
 rw [h.rfn] at e0
 obtain ⟨q1, r1, k1⟩ := q0.app (t0 := .fn) (v' := .slice Y' (v.ny + 1) cy') (n' := v.ny + 1) (xs' := I.fvs fs ++ [.string S, .slice A na ca, .slice A2 nb cb, .slice none 0 0, .slice none 0 0]) (by omega) o1 s1 (h.fno _ (fun i => Tg.noConfusion) Tg.noConfusion) (by rw [e0]; exact hg) (by rw [e0]; exact hr) (by rw [e0]; exact hv)
 rw [e0] at q1
 have b1 := h.bk.keep hk id
 have t1 := (tagN_old (t := .fn) (b := Wc.heap.size) b1.lt).trans h.tb
 have b2 := (b1.keep k1 (by show ¬ _ = _; rw [h.tb]; exact Tg.noConfusion)).keep hk9 id
 have hsz9 := hk9.size
 obtain ⟨q2, r2⟩ := (q1.keepN hk9).cell (i := 1) (u := .slice Y' (v.ny + 1) cy') t1
 have b3 := b2.put 1 (.slice Y' (v.ny + 1) cy')
 have hszf : (We.setCell ⟨rb, 1, none⟩ (.slice Y' (v.ny + 1) cy')).heap.size = We.heap.size := by simp [World.setCell]
 have hsz1 := k1.size
 generalize We.setCell ⟨rb, 1, none⟩ (.slice Y' (v.ny + 1) cy') = Wf at *
 have q3 := q2.make (t0 := .pl ls.length) (by omega) o3 s3 (by simp only [upR, reduceCtorEq, if_false]; exact h.rno.2 _)
 have b4 := b3.alloc (.map #[] 0)
 have r3 : Rnd (BS (tagN T Wd.heap.size Wc.heap.size .fn)) (BS (tagN (tagN T Wd.heap.size Wc.heap.size .fn) Wf.heap.size (Wf.heap.size + 1) (.pl ls.length))) Wf (Wf.alloc (.map #[] 0)) := by
  have := Parts.rnd (T := tagN T Wd.heap.size Wc.heap.size .fn) (t0 := .pl ls.length) Tg.noConfusion (((Keep.refl NoB Wf).alloc (.map #[] 0)).noB)
  rwa [World.size_alloc] at this
 have t3 := (tagN_old (t := .pl ls.length) (b := Wf.heap.size + 1) b3.lt).trans t1
 have ka := (Keep.refl NoB (Wf.alloc (.map #[] 0))).alloc o
 have q4 := q3.keepN ka
 have b5 := b4.alloc o
 have e4 : upR (upR (upR (upR R (.fl fs.length) ⟨3, 1, .slice none 0 0, 0, []⟩) (.bd fs.length) ⟨55, 3, .slice none 0 0, 0, []⟩) (.nm ls.length) ⟨9, 1, .slice none 0 0, 0, []⟩) .fn ⟨37, 5, .slice Y' (v.ny + 1) cy', v.ny + 1, I.fvs fs ++ [.string S, .slice A na ca, .slice A2 nb cb, .slice none 0 0, .slice none 0 0]⟩ .lb = R .lb := by simp only [upR, reduceCtorEq, if_false]
 rw [h.rlb] at e4
 obtain ⟨q5, r5, k5⟩ := q4.app (t0 := .lb) (v' := .slice L' (v.nl + 1) cl') (n' := v.nl + 1) (xs' := lvs ls ++ [.slice none 0 0, .map (some Wf.heap.size)]) (by simp; omega) o2 s2 ((upR_ne _ _ Tg.noConfusion).trans (h.fno _ (fun i => Tg.noConfusion) Tg.noConfusion)) (by rw [e4]; exact hg2) (by rw [e4]; exact hr2) (by rw [e4]; exact hv2)
 rw [e4] at q5
 have t5 := (tagN_old (t := .lb) (b := Wi.heap.size) b5.lt).trans t3
 have b6 := b5.keep k5 (by show ¬ _ = _; rw [t3]; exact Tg.noConfusion)
 obtain ⟨q6, r6⟩ := q5.cell (i := 5) (u := .slice L' (v.nl + 1) cl') t5
 have b7 := b6.put 5 (.slice L' (v.nl + 1) cl')
 have hlf := h.lf
 refine ⟨_, ((((((((rnd_keep hk).trans r1).trans (rnd_keep hk9)).trans r2).trans r3)).trans (rnd_keep ka)).trans r5).trans r6, { v with Y := Y', ny := v.ny + 1, cy := cy', L := L', nl := v.nl + 1, cl := cl' }, fs ++ [(⟨S, A, na, ca, A2, nb, cb, none, 0, 0, none, 0, 0⟩, ⟨nm, ar, rs, [], []⟩)], ls ++ [⟨none, 0, 0, Wf.heap.size, [], fun _ => none⟩], _, _, rfl,
  { pa := q6, bk := b7, tb := t5, rsh := ?_, rse := ?_, rfn := ?_, rfa := ?_, rfb := ?_, rfl_ := ?_, rbd := ?_, fnm := ?_, rlb := ?_, rnm := ?_, rmn := ?_, fnu := ?_, fpl := ?_, fno := ?_, rno := ?_, im := ?_, lb := ?_, lf := ?_, la := h.la, bx := ?_, by_ := ?_, bm := ?_, bd := ?_, bl := ?_, esm := h.esm, fsm := ?_, wm := ?_ }⟩
 ·simp [upR]; exact h.rsh
 ·intro i hi; simp [upR]; exact h.rse i hi
 ·simp only [upR, reduceCtorEq, if_false, if_true]; rw [I.fvs_append]; rfl
 ·intro i hi; simp only [upR, reduceCtorEq, if_false]
  rcases getElem_snoc hi with ⟨h', e⟩ | ⟨rfl, e⟩
  ·rw [e]; exact h.rfa i h'
  ·rw [e]; exact h1
 ·intro i hi; simp only [upR, reduceCtorEq, if_false]
  rcases getElem_snoc hi with ⟨h', e⟩ | ⟨rfl, e⟩
  ·rw [e]; exact h.rfb i h'
  ·rw [e]; exact h2
 ·intro i hi; simp only [upR, reduceCtorEq, if_false]
  rcases getElem_snoc hi with ⟨h', e⟩ | ⟨rfl, e⟩
  ·rw [e, if_neg (by intro e2; injection e2 with e2; omega)]; exact h.rfl_ i h'
  ·rw [e, if_pos rfl]; rfl
 ·intro i hi; simp only [upR, reduceCtorEq, if_false]
  rcases getElem_snoc hi with ⟨h', e⟩ | ⟨rfl, e⟩
  ·rw [e, if_neg (by intro e2; injection e2 with e2; omega)]; exact h.rbd i h'
  ·rw [e, if_pos rfl]; rfl
 ·intro i hi
  rcases getElem_snoc hi with ⟨h', e⟩ | ⟨rfl, e⟩
  ·rw [e]; exact h.fnm i h'
  ·rw [e]; exact ⟨hnm, fun x hx => nomatch hx⟩
 ·simp only [upR, reduceCtorEq, if_false, if_true]; rw [lvs_append]; rfl
 ·intro i hi; simp only [upR, reduceCtorEq, if_false]
  rcases getElem_snoc hi with ⟨h', e⟩ | ⟨rfl, e⟩
  ·rw [e, if_neg (by intro e2; injection e2 with e2; omega)]; exact h.rnm i h'
  ·rw [e, if_pos rfl]; rfl
 ·simp only [upR, reduceCtorEq, if_false]
  rw [mvs_ext _ h.wm]; exact h.rmn
 ·obtain ⟨m, g1, g2⟩ := h.fnu; exact ⟨m, by omega, (upR_ne _ _ Tg.noConfusion).trans g2⟩
 ·intro i hi
  rcases getElem_snoc hi with ⟨h', e⟩ | ⟨rfl, e⟩
  ·obtain ⟨m, g1, g2⟩ := h.fpl i h'
   rw [e]
   exact ⟨m, by omega, (upR_ne _ _ (by intro e2; injection e2 with e2; omega)).trans g2⟩
  ·rw [e]; exact ⟨0, Nat.zero_le _, upR_eq _ _ _⟩
 ·intro t g1 g2; exact (upR_ne _ _ (g1 _)).trans (h.fno t g1 g2)
 ·exact ⟨by simp only [upR, reduceCtorEq, if_false]; exact h.rno.1, fun i => by simp only [upR, reduceCtorEq, if_false]; exact h.rno.2 i⟩
 ·have e := h.im; unfold I.imOf at e ⊢; rw [← e]; simp
 ·rw [List.map_append, h.lb]; rfl
 ·simp; omega
 ·have := h.bx; omega
 ·have := h.by_; simp; omega
 ·have := h.bm; show p.ms.length ≤ _; omega
 ·intro i hi
  rcases getElem_snoc hi with ⟨h', e⟩ | ⟨rfl, e⟩
  ·have := h.bd i h'; rw [e]; omega
  ·rw [e]; exact Nat.zero_le _
 ·intro i hi
  rcases getElem_snoc hi with ⟨h', e⟩ | ⟨rfl, e⟩
  ·have := h.bl i h'; rw [e]; omega
  ·rw [e]; exact Nat.zero_le _
 ·intro i hi
  rcases getElem_snoc hi with ⟨h', e⟩ | ⟨rfl, e⟩
  ·rw [e]; exact h.fsm i h'
  ·rw [e]; exact ⟨by show S.size ≤ _; omega, by show na ≤ _; omega, by show nb ≤ _; omega, Nat.zero_le _, Nat.zero_le _⟩
 ·intro m hm e; have := h.wm m hm e; simp; omega

theorem func_mid {B : Nat} {W Wd Wc We : World} {T : Nat → Tg} {rb : Nat} {v : RV} {es : List I.SE} {fs : List I.FE} {ls : List LE} {R : Tg → Row} {F : Tg → Option Mp} {p : PS} {N : Nat}
  (h : Rdr B W T rb v es fs ls R F p N) (hk : Keep NoB W Wd) (hg : Wd.grownBy Wc (Value.slice v.Y v.ny v.cy).ownBlock) (hk9 : Keep NoB Wc We) (u : Value) (o o' : Obj) :
  Blk We rb 115 v.cells ∧ Blk (We.setCell ⟨rb, 1, none⟩ u) rb 115 (v.cells.setIfInBounds 1 u) ∧
  (((We.setCell ⟨rb, 1, none⟩ u).alloc o').alloc o).ownsRow 0 141 2 (.slice v.L v.nl v.cl) v.nl (lvs ls) ∧
  (∀ Wi, (((We.setCell ⟨rb, 1, none⟩ u).alloc o').alloc o).grownBy Wi (Value.slice v.L v.nl v.cl).ownBlock → Blk Wi rb 115 (v.cells.setIfInBounds 1 u)) := by
 have o1 : okT .fn := ⟨Tg.noConfusion, Tg.noConfusion⟩
 have o2 : okT .lb := ⟨Tg.noConfusion, Tg.noConfusion⟩
 have hf := h.pa.row .fn o1
 rw [h.rfn] at hf
 have hl := h.pa.row .lb o2
 rw [h.rlb] at hl
 have ne1 : some rb ≠ (Value.slice v.Y v.ny v.cy).ownBlock := fun e => by
  have h5 : T rb = .fn := hf.2 rb e.symm
  rw [h.tb] at h5; cases h5
 have ne2 : some rb ≠ (Value.slice v.L v.nl v.cl).ownBlock := fun e => by
  have h5 : T rb = .lb := hl.2 rb e.symm
  rw [h.tb] at h5; cases h5
 have b1 := ((h.bk.keep hk id).grown hg ne1).keep hk9 id
 have b2 := b1.put 1 u
 have k1 : Keep (fun k => T k = .fn) Wd We := ((Keep.refl _ Wd).grown hg (fun j e _ => hf.2 j e)).trans hk9 (fun _ hf _ => hf.elim)
 have k2 : Keep (fun k => k = rb) We (We.setCell ⟨rb, 1, none⟩ u) := (Keep.refl (fun k => k = rb) We).setCell (p := ⟨rb, 1, none⟩) (fun _ => rfl) u
 have r1 : Own We 141 2 (fun k => T k = .lb) (.slice v.L v.nl v.cl) v.nl (lvs ls) := Own.keep (Own.keepN hl hk) k1 (fun k (e : T k = .lb) (e2 : T k = .fn) => by rw [e] at e2; cases e2)
 have r2 := r1.keep k2 (fun k (e : T k = .lb) (e2 : k = rb) => by rw [e2, h.tb] at e; cases e)
 exact ⟨b1, b2, ((r2.keepN ((Keep.refl NoB _).alloc o')).keepN ((Keep.refl NoB _).alloc o)).1, fun Wi hgi => ((b2.alloc o').alloc o).grown hgi ne2⟩

end Go.Proofs.YtgnooffedmeenaaGreatDoor.M

namespace Go.Proofs.YtgnooffedmeenaaGreatDoor.M
open Go.RowKit W

theorem tagN_same (T : Nat → Tg) (a : Nat) (t : Tg) : tagN T a a t = T := by
 funext k
 exact if_neg (by omega)
section
variable {B : Nat} {W W' : World} {T : Nat → Tg} {R : Tg → Row} {F : Tg → Option Mp}
theorem Parts.put {t0 : Tg} {g n c E sz : Nat} {xs : List Value} (h : Parts B W T R F) (hB : B ≤ W.heap.size) (ht0 : okT t0) (hs : sole t0) (hF : F t0 = none) (hR : R t0 = ⟨E, sz, .slice (some ⟨g, 0, none⟩) n c, n, xs⟩) (j : Nat) (u : Value) :
  Parts B (W.setCell ⟨g, j, none⟩ u) T (upR R t0 ⟨E, sz, .slice (some ⟨g, 0, none⟩) n c, n, xs.set j u⟩) F ∧ Rnd (BS T) (BS T) W (W.setCell ⟨g, j, none⟩ u) ∧ T g = t0 := by
 have h0 := h.row t0 ht0
 rw [hR] at h0
 have hg : T g = t0 := (h0.2 g rfl).trans hs.1
 have h1 : World.ownsRow W 0 E sz (.slice (some ⟨g, 0, none⟩) n c) n xs := h0.1
 obtain ⟨h2, h3⟩ := h1.stored j u
 have hk : Keep (fun k => T k = t0) W (W.setCell ⟨g, j, none⟩ u) := (Keep.refl _ W).grown h3 (fun k e _ => by cases e; exact hg)
 have hsz : (W.setCell ⟨g, j, none⟩ u).heap.size = W.heap.size := by simp [World.setCell]
 have q := h.grow (r := ⟨E, sz, .slice (some ⟨g, 0, none⟩) n c, n, xs.set j u⟩) hB ht0 hs hF hk ⟨h2, fun k e => .inl (by cases e; exact hg)⟩
 rw [hsz, tagN_same] at q
 have r := Parts.rnd ht0.1 hk
 rw [hsz, tagN_same] at r
 exact ⟨q, r, hg⟩
end
theorem fvs_set : ∀ (fs : List I.FE) (e e' : I.FE) (j : Nat) (u : Value), j < 5 → e'.1.cells.toList = e.1.cells.toList.set j u → I.fvs (fs ++ [e']) = (I.fvs (fs ++ [e])).set (fs.length * 5 + j) u
 | [], e, e', j, u, hj, h => by
  rw [List.nil_append, List.nil_append]
  unfold I.fvs
  rw [List.flatMap_cons, List.flatMap_cons, List.flatMap_nil, List.append_nil, List.append_nil, List.length_nil, Nat.zero_mul, Nat.zero_add]
  exact h
 | x :: fs, e, e', j, u, hj, h => by
  have ih := fvs_set fs e e' j u hj h
  unfold I.fvs at ih ⊢
  rw [List.cons_append, List.flatMap_cons, ih, List.cons_append, List.flatMap_cons, List.set_append_right _ _ (by rw [I.cells_len, List.length_cons]; omega), I.cells_len, List.length_cons]
  congr 2
  omega
theorem rdr_last {B : Nat} {W W' : World} {T T' : Nat → Tg} {rb : Nat} {v : RV} {es : List I.SE} {fs : List I.FE} {e e' : I.FE} {ls : List LE} {R R' : Tg → Row} {F : Tg → Option Mp} {p : PS} {N : Nat}
  (h : Rdr B W T rb v es (fs ++ [e]) ls R F p N) (q : Parts B W' T' R' F) (hb : Blk W' rb 115 v.cells) (tb : T' rb = .rd)
  (hR : ∀ t, t ≠ .fn → t ≠ .fl fs.length → t ≠ .bd fs.length → R' t = R t) (h1 : R' .fn = ⟨37, 5, .slice v.Y v.ny v.cy, v.ny, I.fvs (fs ++ [e'])⟩)
  (h2 : R' (.fl fs.length) = ⟨3, 1, .slice e'.1.L e'.1.nl e'.1.cl, e'.1.nl, ivs e'.2.lc⟩) (h3 : R' (.bd fs.length) = ⟨55, 3, .slice e'.1.D e'.1.nd e'.1.cd, e'.1.nd, C.iis e'.2.bd⟩)
  (h4 : e'.1.S = e.1.S ∧ (e'.1.A = e.1.A ∧ e'.1.na = e.1.na ∧ e'.1.ca = e.1.ca) ∧ (e'.1.B = e.1.B ∧ e'.1.nb = e.1.nb ∧ e'.1.cb = e.1.cb)) (h5 : e'.2.nm = e.2.nm ∧ e'.2.ar = e.2.ar ∧ e'.2.rs = e.2.rs) (h6 : C.AllI e'.2.bd) (h7 : _root_.Go.Proofs.YtgnooffedmeenaaGreatDoor.F.LgF e'.1) (h8 : e'.2.bd.length ≤ N + 1)
  (g : _root_.Go.Proofs.YtgnooffedmeenaaGreatDoor.F.Fu → _root_.Go.Proofs.YtgnooffedmeenaaGreatDoor.F.Fu) (hg : e'.2 = g e.2) : Rdr B W' T' rb v es (fs ++ [e']) ls R' F ⟨⟨p.im.sh, upd g p.im.fn⟩, p.last, p.nums, p.labs, p.ms⟩ (N + 1) := by
 have hi : ∀ {i : Nat} (hi : i < (fs ++ [e']).length), (∃ (h1 : i < (fs ++ [e]).length) (h2 : i < fs.length), (fs ++ [e'])[i] = fs[i] ∧ (fs ++ [e])[i] = fs[i]) ∨ (i = fs.length ∧ (fs ++ [e'])[i] = e') := by
  intro i hi
  rcases getElem_snoc hi with ⟨h', e1⟩ | ⟨e1, e2⟩
  ·exact .inl ⟨by simp; omega, h', e1, List.getElem_append_left h'⟩
  ·exact .inr ⟨e1, e2⟩
 have hl : (fs ++ [e])[fs.length]'(by simp) = e := by simp
 have hlt : fs.length < (fs ++ [e]).length := by simp
 have him : p.im.fn = fs.map (fun e => e.2) ++ [e.2] := by rw [← h.im]; simp [I.imOf]
 have hbl := h.bl
 refine { h with pa := q, bk := hb, tb := tb, rsh := (hR _ Tg.noConfusion Tg.noConfusion Tg.noConfusion).trans h.rsh, rse := fun i hi => (hR _ Tg.noConfusion Tg.noConfusion Tg.noConfusion).trans (h.rse i hi), rfn := h1, rfa := ?_, rfb := ?_, rfl_ := ?_, rbd := ?_, fnm := ?_, rlb := (hR _ Tg.noConfusion Tg.noConfusion Tg.noConfusion).trans h.rlb, rnm := fun i hi => (hR _ Tg.noConfusion Tg.noConfusion Tg.noConfusion).trans (h.rnm i hi), rmn := (hR _ Tg.noConfusion Tg.noConfusion Tg.noConfusion).trans h.rmn, fnu := ?_, fpl := ?_, rno := ⟨by rw [hR _ Tg.noConfusion Tg.noConfusion Tg.noConfusion]; exact h.rno.1, fun i => by rw [hR _ Tg.noConfusion Tg.noConfusion Tg.noConfusion]; exact h.rno.2 i⟩, im := ?_, lf := ?_, bx := ?_, by_ := ?_, bm := ?_, bd := ?_, bl := ?_, fsm := ?_ }
 ·intro i hi2
  rcases hi hi2 with ⟨g1, g2, e1, e2⟩ | ⟨rfl, e1⟩
  ·rw [hR _ Tg.noConfusion Tg.noConfusion Tg.noConfusion, e1, ← e2]; exact h.rfa i g1
  ·rw [hR _ Tg.noConfusion Tg.noConfusion Tg.noConfusion, e1, h.rfa _ hlt, hl, h4.2.1.1, h4.2.1.2.1, h4.2.1.2.2, h5.2.1]
 ·intro i hi2
  rcases hi hi2 with ⟨g1, g2, e1, e2⟩ | ⟨rfl, e1⟩
  ·rw [hR _ Tg.noConfusion Tg.noConfusion Tg.noConfusion, e1, ← e2]; exact h.rfb i g1
  ·rw [hR _ Tg.noConfusion Tg.noConfusion Tg.noConfusion, e1, h.rfb _ hlt, hl, h4.2.2.1, h4.2.2.2.1, h4.2.2.2.2, h5.2.2]
 ·intro i hi2
  rcases hi hi2 with ⟨g1, g2, e1, e2⟩ | ⟨rfl, e1⟩
  ·rw [hR _ Tg.noConfusion (by intro x; injection x with x; omega) Tg.noConfusion, e1, ← e2]; exact h.rfl_ i g1
  ·rw [e1]; exact h2
 ·intro i hi2
  rcases hi hi2 with ⟨g1, g2, e1, e2⟩ | ⟨rfl, e1⟩
  ·rw [hR _ Tg.noConfusion Tg.noConfusion (by intro x; injection x with x; omega), e1, ← e2]; exact h.rbd i g1
  ·rw [e1]; exact h3
 ·intro i hi2
  rcases hi hi2 with ⟨g1, g2, e1, e2⟩ | ⟨rfl, e1⟩
  ·rw [e1, ← e2]; exact h.fnm i g1
  ·rw [e1, h4.1, h5.1]
   have := (h.fnm _ hlt).1
   rw [hl] at this
   exact ⟨this, h6⟩
 ·obtain ⟨n, g1, g2⟩ := h.fnu; exact ⟨n, by omega, g2⟩
 ·intro i hi2; obtain ⟨n, g1, g2⟩ := h.fpl i hi2; exact ⟨n, by omega, g2⟩
 ·dsimp only
  rw [him, upd_append, ← hg, ← h.im]
  simp [I.imOf]
 ·have := h.lf; simp at this ⊢; exact this
 ·have := h.bx; omega
 ·have := h.by_; simp at this ⊢; omega
 ·have := h.bm; show p.ms.length ≤ _; omega
 ·intro i hi2
  rcases hi hi2 with ⟨g1, g2, e1, e2⟩ | ⟨rfl, e1⟩
  ·have := h.bd i g1
   rw [e1, ← e2]; omega
  ·rw [e1]; exact h8
 ·intro i hi2; have := h.bl i hi2; omega
 ·intro i hi2
  rcases hi hi2 with ⟨g1, g2, e1, e2⟩ | ⟨rfl, e1⟩
  ·rw [e1, ← e2]; exact h.fsm i g1
  ·rw [e1]; exact h7
theorem rdr_local {B : Nat} {W W1 : World} {T : Nat → Tg} {rb : Nat} {v : RV} {es : List I.SE} {fs : List I.FE} {e : I.FE} {ls : List LE} {R : Tg → Row} {F : Tg → Option Mp} {p : PS} {N g : Nat}
  (h : Rdr B W T rb v es (fs ++ [e]) ls R F p N) (hB : B ≤ W.heap.size) (hk : Keep NoB W W1) {A : Option Addr} {n c : Nat} {t : List Int} (ht : Own W1 3 1 (Fresh W) (.slice A n c) n (ivs t)) (hn : n ≤ 140000) (hY : v.Y = some ⟨g, 0, none⟩) :
  ∃ T', Rnd (BS T) (BS T') W (W1.setCell ⟨g, fs.length * 5 + 3, none⟩ (.slice A n c)) ∧ ∃ fs' R', Rdr B (W1.setCell ⟨g, fs.length * 5 + 3, none⟩ (.slice A n c)) T' rb v es fs' ls R' F ⟨⟨p.im.sh, upd (fun f => { f with lc := t }) p.im.fn⟩, p.last, p.nums, p.labs, p.ms⟩ (N + 1) := by
 have hsz := hk.size
 have s1 : sole (.fl fs.length) := ⟨rfl, by intro t e; cases t <;> first | exact e | cases e⟩
 have s2 : sole .fn := ⟨rfl, by intro t e; cases t <;> first | exact e | cases e⟩
 have o1 : okT (.fl fs.length) := ⟨Tg.noConfusion, Tg.noConfusion⟩
 have o2 : okT .fn := ⟨Tg.noConfusion, Tg.noConfusion⟩
 obtain ⟨q1, r1⟩ := h.pa.fresh (t0 := .fl fs.length) (r := ⟨3, 1, .slice A n c, n, ivs t⟩) hB o1 s1 (h.fno _ (fun i => Tg.noConfusion) Tg.noConfusion) hk ht
 have e1 : upR R (.fl fs.length) ⟨3, 1, .slice A n c, n, ivs t⟩ .fn = ⟨37, 5, .slice (some ⟨g, 0, none⟩) v.ny v.cy, v.ny, I.fvs (fs ++ [e])⟩ := by rw [upR_ne _ _ Tg.noConfusion, h.rfn, hY]
 obtain ⟨q2, r2, hg⟩ := q1.put (by omega) o2 s2 (h.fno _ (fun i => Tg.noConfusion) Tg.noConfusion) e1 (fs.length * 5 + 3) (.slice A n c)
 have t1 : tagN T W.heap.size W1.heap.size (.fl fs.length) rb = .rd := (tagN_old (h.pa.fit rb (by rw [h.tb]; exact Tg.noConfusion)).2).trans h.tb
 have hne : rb ≠ g := by rintro rfl; rw [hg] at t1; cases t1
 have b2 := (h.bk.keep hk id).far (p := ⟨g, fs.length * 5 + 3, none⟩) hne (.slice A n c)
 have hlt : fs.length < (fs ++ [e]).length := by simp
 have hl : (fs ++ [e])[fs.length]'(by simp) = e := by simp
 obtain ⟨ev, ef⟩ := e
 obtain ⟨S0, A0, na0, ca0, B0, nb0, cb0, L0, nl0, cl0, D0, nd0, cd0⟩ := ev
 have hfs := h.fsm _ hlt
 have hbd := h.bd _ hlt
 have hnm := h.fnm _ hlt
 have hrb := h.rbd _ hlt
 rw [hl] at hfs hbd hnm hrb
 refine ⟨_, r1.trans r2, fs ++ [(⟨S0, A0, na0, ca0, B0, nb0, cb0, A, n, c, D0, nd0, cd0⟩, { ef with lc := t })], _, rdr_last (e' := (⟨S0, A0, na0, ca0, B0, nb0, cb0, A, n, c, D0, nd0, cd0⟩, { ef with lc := t })) h q2 b2 t1 (fun t h1 h2 h3 => (upR_ne _ _ h1).trans (upR_ne _ _ h2)) ?_ ?_ ?_ ⟨rfl, ⟨rfl, rfl, rfl⟩, ⟨rfl, rfl, rfl⟩⟩ ⟨rfl, rfl, rfl⟩ hnm.2 ⟨hfs.sz, hfs.na, hfs.nb, by show n ≤ _; omega, hfs.nd⟩ (by show ef.bd.length ≤ _; dsimp only at hbd; omega) _ rfl⟩
 ·rw [upR_eq, fvs_set fs (⟨S0, A0, na0, ca0, B0, nb0, cb0, L0, nl0, cl0, D0, nd0, cd0⟩, ef) (⟨S0, A0, na0, ca0, B0, nb0, cb0, A, n, c, D0, nd0, cd0⟩, { ef with lc := t }) 3 (.slice A n c) (by omega) rfl, hY]
 ·rw [upR_ne _ _ Tg.noConfusion, upR_eq]
 ·rw [upR_ne _ _ Tg.noConfusion, upR_ne _ _ Tg.noConfusion]; exact hrb
theorem rdr_body {B : Nat} {W Wd Wc We : World} {T : Nat → Tg} {rb : Nat} {v : RV} {es : List I.SE} {fs : List I.FE} {e : I.FE} {ls : List LE} {R : Tg → Row} {F : Tg → Option Mp} {p : PS} {N g : Nat}
  (h : Rdr B W T rb v es (fs ++ [e]) ls R F p N) (hB : B ≤ W.heap.size) (hk : Keep NoB W Wd) (hN : N ≤ 300000) {D' : Option Addr} {cd' : Nat} {x : C.I3} (hx : C.AllI [x]) (hY : v.Y = some ⟨g, 0, none⟩)
  (hg : Wd.grownBy Wc (Value.slice e.1.D e.1.nd e.1.cd).ownBlock) (hr : Wc.ownsRow 0 55 3 (.slice D' (e.1.nd + 1) cd') (e.1.nd + 1) (C.iis e.2.bd ++ [.int .i64 x.1, .int .i64 x.2.1, .int .i64 x.2.2])) (hv : (Value.slice D' (e.1.nd + 1) cd').ownBlock = (Value.slice e.1.D e.1.nd e.1.cd).ownBlock ∨ (Value.slice D' (e.1.nd + 1) cd').ownBlock = some Wd.heap.size) (hk9 : Keep NoB Wc We) :
  ∃ T', Rnd (BS T) (BS T') W (We.setCell ⟨g, fs.length * 5 + 4, none⟩ (.slice D' (e.1.nd + 1) cd')) ∧ ∃ fs' R', Rdr B (We.setCell ⟨g, fs.length * 5 + 4, none⟩ (.slice D' (e.1.nd + 1) cd')) T' rb v es fs' ls R' F ⟨⟨p.im.sh, upd (fun f => { f with bd := f.bd ++ [x] }) p.im.fn⟩, p.last, p.nums, p.labs, p.ms⟩ (N + 1) := by
 have hsz := hk.size
 have hsz2 := hk9.size
 have s1 : sole (.bd fs.length) := ⟨rfl, by intro t e; cases t <;> first | exact e | cases e⟩
 have s2 : sole .fn := ⟨rfl, by intro t e; cases t <;> first | exact e | cases e⟩
 have o1 : okT (.bd fs.length) := ⟨Tg.noConfusion, Tg.noConfusion⟩
 have o2 : okT .fn := ⟨Tg.noConfusion, Tg.noConfusion⟩
 have hlt : fs.length < (fs ++ [e]).length := by simp
 have hl : (fs ++ [e])[fs.length]'(by simp) = e := by simp
 have hfs := h.fsm _ hlt
 have hbd := h.bd _ hlt
 have hnm := h.fnm _ hlt
 have hrb := h.rbd _ hlt
 have hrl := h.rfl_ _ hlt
 rw [hl] at hfs hbd hnm hrb hrl
 have hnd : e.1.nd = e.2.bd.length := by
  have h5 := (h.pa.row (.bd fs.length) o1).1.1
  rw [hrb] at h5
  have h6 : (C.iis e.2.bd).length = e.1.nd * 3 := h5
  rw [C.iis_length] at h6
  omega
 obtain ⟨q1, r1, k1⟩ := (h.pa.keepN hk).app (t0 := .bd fs.length) (v' := .slice D' (e.1.nd + 1) cd') (n' := e.1.nd + 1) (xs' := C.iis e.2.bd ++ [.int .i64 x.1, .int .i64 x.2.1, .int .i64 x.2.2]) (by omega) o1 s1 (h.fno _ (fun i => Tg.noConfusion) Tg.noConfusion) (by rw [hrb]; exact hg) (by rw [hrb]; exact hr) (by rw [hrb]; exact hv)
 rw [hrb] at q1
 have q2 := q1.keepN hk9
 have hsz1 := k1.size
 have e1 : upR R (.bd fs.length) ⟨55, 3, .slice D' (e.1.nd + 1) cd', e.1.nd + 1, C.iis e.2.bd ++ [.int .i64 x.1, .int .i64 x.2.1, .int .i64 x.2.2]⟩ .fn = ⟨37, 5, .slice (some ⟨g, 0, none⟩) v.ny v.cy, v.ny, I.fvs (fs ++ [e])⟩ := by rw [upR_ne _ _ Tg.noConfusion, h.rfn, hY]
 obtain ⟨q3, r3, hgt⟩ := q2.put (by omega) o2 s2 (h.fno _ (fun i => Tg.noConfusion) Tg.noConfusion) e1 (fs.length * 5 + 4) (.slice D' (e.1.nd + 1) cd')
 have b1 := h.bk.keep hk id
 have t1 := (tagN_old (t := .bd fs.length) (b := Wc.heap.size) b1.lt).trans h.tb
 have hne : rb ≠ g := by rintro rfl; rw [hgt] at t1; cases t1
 have b2 := ((b1.keep k1 (by show ¬ _ = _; rw [h.tb]; exact Tg.noConfusion)).keep hk9 id).far (p := ⟨g, fs.length * 5 + 4, none⟩) hne (.slice D' (e.1.nd + 1) cd')
 clear hl
 obtain ⟨ev, ef⟩ := e
 obtain ⟨S0, A0, na0, ca0, B0, nb0, cb0, L0, nl0, cl0, D0, nd0, cd0⟩ := ev
 dsimp only at *
 refine ⟨_, (((rnd_keep hk).trans r1).trans (rnd_keep hk9)).trans r3, fs ++ [(⟨S0, A0, na0, ca0, B0, nb0, cb0, L0, nl0, cl0, D', nd0 + 1, cd'⟩, { ef with bd := ef.bd ++ [x] })], _, rdr_last (e' := (⟨S0, A0, na0, ca0, B0, nb0, cb0, L0, nl0, cl0, D', nd0 + 1, cd'⟩, { ef with bd := ef.bd ++ [x] })) h q3 b2 t1 (fun t h1 h2 h3 => (upR_ne _ _ h1).trans (upR_ne _ _ h3)) ?_ ?_ ?_ ⟨rfl, ⟨rfl, rfl, rfl⟩, ⟨rfl, rfl, rfl⟩⟩ ⟨rfl, rfl, rfl⟩ ?_ ⟨hfs.sz, hfs.na, hfs.nb, hfs.nl, by show nd0 + 1 ≤ _; omega⟩ (by simp; omega) _ rfl⟩
 ·rw [upR_eq, fvs_set fs (⟨S0, A0, na0, ca0, B0, nb0, cb0, L0, nl0, cl0, D0, nd0, cd0⟩, ef) (⟨S0, A0, na0, ca0, B0, nb0, cb0, L0, nl0, cl0, D', nd0 + 1, cd'⟩, { ef with bd := ef.bd ++ [x] }) 4 (.slice D' (nd0 + 1) cd') (by omega) rfl, hY]
 ·rw [upR_ne _ _ Tg.noConfusion, upR_ne _ _ Tg.noConfusion]; exact hrl
 ·rw [upR_ne _ _ Tg.noConfusion, upR_eq, C.iis_append]; rfl
 ·intro y hy
  rcases List.mem_append.1 hy with hy | hy
  ·exact hnm.2 y hy
  ·exact hx y hy

end Go.Proofs.YtgnooffedmeenaaGreatDoor.M
