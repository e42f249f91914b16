/-
  Part 6 of the proofs of LNamesRow, LOneRow: what is laid, and what the functions that the law runs answer. Conditions: each theorem names its own.
-/
import Derived.Lib.AtoiBound
import Derived.Lib.DecodeN
import Derived.Lib.IndexBytes
import Derived.Lib.IndexMore
import Derived.Lib.OthersKept
import Derived.Lib.RuneBytes
import Derived.Lib.SlicesCompact
import Derived.Test.YtgnooffedmeenaaGreatDoorQC5
namespace Go.Proofs.YtgnooffedmeenaaGreatDoor.O
open Go.RowKit Go.Shelf
attribute [local go_sem] Oper.semAt_some

theorem blk_own {β : Type} (B g : Nat) (t : TypeId) (cs : β → Array Value) : OwnFrom B (fun s W => Blk W g t (cs s)) := by
 intro s X Y row h hg hrow
 refine (hg.block g h.lt (fun e => ?_)).trans h
 obtain ⟨_, o, ho, hc⟩ := hrow g e.symm
 rw [show X.heap[g]? = _ from h] at ho
 cases ho; cases hc
theorem keep_own {β : Type} {B : Nat} {w0 : World} (O : Nat → Prop) (hB : w0.heap.size ≤ B) : OwnFrom B (fun (_ : β) W => Keep O w0 W) := by
 intro s X Y row h hg hrow
 exact h.grown hg (fun g e hl => by have := (hrow g e).1; omega)
theorem fnAt_own {β : Type} (B : Nat) (k : Int) (sh gu : Value) : OwnFrom B (fun (_ : β) W => FnAt k sh gu W) := by
 intro s X Y row h hg hrow
 have hc : ∀ p v, X.cell? p = some v → Y.cell? p = some v := fun p v hp => cell_kept hp hg (fun r e => (hrow r e).2)
 rcases h with h | h | ⟨h, b, c, h1, h2, h3, h4⟩
 ·exact .inl h
 ·exact .inr (.inl h)
 ·exact .inr (.inr ⟨h, b, c, h1, h2, hc _ _ h3, hc _ _ h4⟩)
theorem keepsFrom_one {B g : Nat} {W W' : World} (h : Keep (fun k => k = g) W W') (hg : g < B) : KeepsFrom B W W' :=
 ⟨h.size, fun k _ hk hh _ => (h.block k (Array.getElem?_eq_some_iff.1 hh).1 (fun e => by omega)).trans hh⟩

set_option maxHeartbeats 1000000 in
theorem parts_any (q : Row) (op a b : Int) (w : World) : Calls Tryz.prog 264 #[rowV q, instV op a b] w fun e w' =>
  e = .returned (.func (.func 299) #[] #[.pointer (some ⟨w.heap.size + 1, 0, none⟩), .pointer (some ⟨w.heap.size, 0, none⟩)]) ∧ Blk w' w.heap.size 137 (cells9 q) ∧ Blk w' (w.heap.size + 1) 55 #[.int .i64 op, .int .i64 a, .int .i64 b] ∧ Keep NoB w w' := by
 go_enter Tryz.func264, Tryz.ntmps264
 go_wp2
 go_ret
 have h1 := Blk.new (w.alloc (.cells (cells9 q) 137)) 55 #[.int .i64 op, .int .i64 a, .int .i64 b]
 rw [World.size_alloc] at h1
 exact ⟨rfl, (Blk.new _ _ _).alloc _, h1, ((Keep.refl NoB w).alloc _).alloc _⟩

def textP (l : List (Int × Int)) : List UInt8 := l.flatMap fun x => 32 :: word x.1 x.2
theorem textP_parts (ka kb a b : Int) (h : ka = 0 → kb = 0) : textP (partsL ka kb a b) = partL ka a ++ partL kb b := by
 unfold partsL partL textP
 split
 ·rename_i hz
  rw [if_pos (h hz)]; rfl
 ·split
  ·simp
  ·simp
theorem kinds_none (op : Int) : (rowAt op).ka = 0 → (rowAt op).kb = 0 := by
 have := rowAt_all (p := fun r => decide (r.ka = 0 → r.kb = 0)) (by decide) (by decide) op
 exact of_decide_eq_true this

theorem textP_snoc (l : List (Int × Int)) (x : Int × Int) : textP (l ++ [x]) = textP l ++ 32 :: word x.1 x.2 := by unfold textP; simp
theorem textP_len : ∀ (l : List (Int × Int)), (∀ x ∈ l, I64 x.2) → (textP l).length ≤ 22 * l.length
 | [], _ => Nat.zero_le _
 | x :: l, h => by
  have h1 := word_len x.1 x.2 (h x (by simp))
  have h2 := textP_len l (fun y hy => h y (by simp [hy]))
  have e : textP (x :: l) = (32 :: word x.1 x.2) ++ textP l := by unfold textP; simp
  rw [e]
  simp
  omega
theorem parts_mem {ka kb a b : Int} {x : Int × Int} (h : x ∈ partsL ka kb a b) : x.1 ≠ 0 ∧ (x.2 = a ∨ x.2 = b) := by
 unfold partsL at h
 split at h
 ·cases h
 ·split at h
  ·rename_i h1 h2; simp at h; subst h; exact ⟨h1, .inl rfl⟩
  ·rename_i h1 h2
   simp at h
   rcases h with rfl | rfl
   ·exact ⟨h1, .inl rfl⟩
   ·exact ⟨h2, .inr rfl⟩
theorem parts_len (ka kb a b : Int) : (partsL ka kb a b).length ≤ 2 := by unfold partsL; split <;> (try split) <;> simp
theorem part_facts {ka kb a b : Int} {pre : List Part} {x : Part} {W : World} (h : PartN ka kb a b pre x W) (ha : I64 a) (hb : I64 b) : x.k ≠ 0 ∧ I64 x.n ∧ (textP (pre.map Part.key)).length ≤ 44 := by
 obtain ⟨⟨post, hp⟩, _⟩ := h
 have h64 : ∀ y ∈ partsL ka kb a b, I64 y.2 := fun y hy => by rcases (parts_mem hy).2 with e | e <;> rw [e] <;> assumption
 have hx := parts_mem (x := x.key) (by rw [← hp]; simp)
 have hl := congrArg List.length hp
 have h2 := parts_len ka kb a b
 have hx64 := h64 x.key (by rw [← hp]; simp)
 have ht := textP_len (pre.map Part.key) (fun y hy => h64 y (by rw [← hp]; exact List.mem_append_left _ hy))
 simp at hl ht
 exact ⟨hx.1, hx64, by omega⟩
theorem name_len (op : Int) : (rowAt op).name.length ≤ 7 := by
 have := rowAt_all (p := fun r => decide (r.name.length ≤ 7)) (by decide) (by decide) op
 exact of_decide_eq_true this

theorem Keep_putObj {O : Nat → Prop} {w W : World} {D : Nat} {o : Obj} (h : Keep O w W) (hD : w.heap.size ≤ D) : Keep O w (W.putObj D o) := h.grown (grownBy_putObj' W D o) (fun g e hl => by cases e; omega)
theorem str_sp (s d : List UInt8) : str s ++ ((⟨#[32]⟩ : ByteArray) ++ str d) = str (s ++ 32 :: d) := by
 apply ByteArray.ext
 simp [ByteArray.data_append]

theorem show_end {w2 W w3 : World} {bt : Nat} {cs : Array Value} {t : TypeId} {u : Value} (h : Blk (w3.setCell ⟨bt, 0, none⟩ u) bt t cs) (h2 : Keep (fun k => k = bt) w2 W) (k4 : Keep NoB W w3) (hlt : bt < w2.heap.size) :
  (Exit.normal = Exit.normal) ∧ (Blk (w3.setCell ⟨bt, 0, none⟩ u) bt t cs ∧ Keep (fun k => k = bt) w2 (w3.setCell ⟨bt, 0, none⟩ u)) ∧ KeepsFrom w2.heap.size W (w3.setCell ⟨bt, 0, none⟩ u) :=
 ⟨rfl, ⟨h, (h2.trans k4 (fun _ hf _ => hf.elim)).setCell (fun _ => rfl) _⟩, keepsFrom_one (Keep.setCell (O := fun k => k = bt) (p := ⟨bt, 0, none⟩) (k4.mono (fun _ hf _ => hf.elim)) (fun _ => rfl) u) hlt⟩

def showAct (op a b : Int) (r : Row) (g h : Nat) (x : Part) (Bo : Nat) : Act :=
 { tmps := #[instV op a b, .pointer (some ⟨g, 0, none⟩), .string ⟨#[]⟩, .pointer (some ⟨h, 0, none⟩), .bool true, .pointer (some ⟨h + 1, 0, none⟩), .pointer (some ⟨Bo, 0, none⟩), .int .i64 x.n, .tuple #[rowV r, .bool true],
   instV op a b, .tuple #[rowV r, .bool true], rowV r, .bool true, .bool true, .bool false, .pointer (some ⟨h, 0, none⟩), .string (str r.name), rowV r, instV op a b,
   .func (.func 299) #[] #[.pointer (some ⟨h + 1 + 1 + 1, 0, none⟩), .pointer (some ⟨h + 1 + 1, 0, none⟩)], .agg #[.int .i64 x.k, .int .i64 (lo x.k), .int .i64 (hi x.k), x.sh, x.gu], .int .i64 x.n,
   undef, undef, undef, undef, undef, undef, undef, undef], defers := [] }

set_option maxRecDepth 100000 in
set_option maxHeartbeats 4000000 in
theorem show_yes (op a b : Int) (w : World) (hok : okI op a b = true) (ha : I64 a) (hb : I64 b) (hL : LaidO w) :
  Calls Tryz.prog 211 #[instV op a b] w fun e w' => ∃ d, e = .returned (.string d) ∧ Hid (d = str (textI op a b)) ∧ Keep NoB w w' := by
 obtain ⟨r, hr⟩ : ∃ r, rowAt op = r := ⟨_, rfl⟩
 have hka := kinds_ok op
 have hkn := kinds_none op
 have hnl := name_len op
 have HT : Hid (str (textI op a b) = str (r.name ++ textP (partsL r.ka r.kb a b))) := by show _ = _; unfold textI; rw [hr, textP_parts _ _ _ _ (hr ▸ hkn)]
 have HR := Lib.hid (fun w => rowFor_any op a b r w (by rw [rowR_ok hok]; exact hr))
 rw [hr] at hka hnl
 rw [hok] at HR
 have HA := Lib.hid ha
 have HB := Lib.hid hb
 clear hok hr hkn ha hb
 refine (callsIn_wide (n := 4)).1 ?_
 refine callsIn_of_wp_marks Tryz.func211 rfl trivial ?_ rfl
 simp only [Tryz.ntmps211, List.size_toArray, List.length_cons, List.length_nil, Nat.reduceAdd, Nat.reduceSub, Array.replicate_succ, Array.replicate_zero, List.push_toArray, List.append_toArray, List.nil_append, List.cons_append]
 gi_wp2_with (first
  | (refine ⟨trivial, ?_⟩; gi_at_call 166; refine (callsIn_wide.2 (HR.out _)).mono ?_; rintro e w1 ⟨rfl, k1⟩; have bi := (Blk.new w 55 #[.int .i64 op, .int .i64 a, .int .i64 b]).keep k1 id; have i0 : ∀ o o', ((w1.alloc o).alloc o').cell? ⟨w.heap.size, 0, none⟩ = some (.int .i64 op) := fun o o' => ((bi.alloc o).alloc o').cell 0; have i1 : ∀ o o', ((w1.alloc o).alloc o').cell? ⟨w.heap.size, 1, none⟩ = some (.int .i64 a) := fun o o' => ((bi.alloc o).alloc o').cell 1; have i2 : ∀ o o', ((w1.alloc o).alloc o').cell? ⟨w.heap.size, 2, none⟩ = some (.int .i64 b) := fun o o' => ((bi.alloc o).alloc o').cell 2)
  | (refine ⟨trivial, ?_⟩; gi_at_call 264; refine (callsIn_wide.2 (parts_any r op a b _)).mono ?_; rintro e w2 ⟨rfl, br, bx, k2⟩))
 simp only [World.size_alloc] at br bx
 have hbt := (Blk.new (w1.alloc (.cells (cells9 r) 137)) 9 #[.string (str r.name)]).keep k2 id
 rw [World.size_alloc] at hbt
 have hltb := hbt.lt
 have hKw : Keep NoB w w2 := keepN ((keepN ((Keep.refl NoB w).alloc _) k1).alloc _ |>.alloc _) k2
 have HLw := Lib.hid hL
 have hsz : w.heap.size < w1.heap.size := by have := k1.size; simp at this; omega
 clear hL bi i0 i1 i2 k1 k2
 have hI : OwnFrom w2.heap.size (fun (pre : List Part) W => Blk W (w1.heap.size + 1) 9 #[.string (str (r.name ++ textP (pre.map Part.key)))] ∧ Keep (fun k => k = w1.heap.size + 1) w2 W) :=
  (blk_own w2.heap.size (w1.heap.size + 1) 9 (fun pre : List Part => #[.string (str (r.name ++ textP (pre.map Part.key)))])).and (keep_own _ (Nat.le_refl _))
 refine wpIn_rangeFunc_brings (m := 2) (gf := 299) (lb := #[.pointer (some ⟨w1.heap.size + 1 + 1 + 1, 0, none⟩), .pointer (some ⟨w1.heap.size + 1 + 1, 0, none⟩)]) rfl (enters_of Tryz.func299 (by kernel_rfl) rfl)
  (parts1_in 2 r op a b (w1.heap.size + 1 + 1 + 1) (w1.heap.size + 1 + 1) ⟨hka.1, hka.2.1⟩ hka.2.2 (fun pre W => Blk W (w1.heap.size + 1) 9 #[.string (str (r.name ++ textP (pre.map Part.key)))] ∧ Keep (fun k => k = w1.heap.size + 1) w2 W)
   (fun pre W h => bx.keep h.2 (by omega)) (fun pre W h => br.keep h.2 (by omega))) (fun _ => rfl) hI ⟨by simpa [textP] using hbt, Keep.refl _ _⟩
  (fun pre x a' W => (Blk W (w1.heap.size + 1) 9 #[.string (str (r.name ++ textP (pre.map Part.key)))] ∧ Keep (fun k => k = w1.heap.size + 1) w2 W) ∧ PartN r.ka r.kb a b pre x W ∧ ∃ Bo, Bo ≠ w1.heap.size + 1 ∧ Blk W Bo 256 #[.int .i64 x.k, .int .i64 (lo x.k), .int .i64 (hi x.k), x.sh, x.gu] ∧ a' = showAct op a b r w.heap.size w1.heap.size x Bo) ?hax ?assign ?body ?done
 case hax =>
  rintro pre x a' s X Y row ⟨h1, ⟨h2, h3⟩, Bo, h4, h5, h6⟩ hg hrow
  exact ⟨hI _ _ _ _ h1 hg hrow, ⟨h2, fnAt_own (β := Unit) _ _ _ _ () _ _ _ h3 hg hrow⟩, Bo, h4, blk_own (β := Unit) _ _ _ (fun _ => _) () _ _ _ h5 hg hrow, h6⟩
 case assign =>
  rintro l pre ⟨k, n, sh, gu⟩ W hi hen
  have hne : W.heap.size ≠ w1.heap.size + 1 := by have := hi.1.lt; omega
  have hen2 := Lib.hid hen
  have hi2 := Lib.hid hi
  have hk0 := (part_facts hen HA.out HB.out).1
  rcases hen.2 with ⟨h0, _⟩ | ⟨_, h1, h2⟩ | ⟨_, b1, c1, h1, h2, _, _⟩
  ·exact absurd h0 hk0
  all_goals
   simp only at h1 h2
   subst h1 h2
   clear hen hi
   dsimp only [partE, opV]
   gi_wp2
   exact ⟨⟨⟨hi2.out.1.alloc _, hi2.out.2.alloc _⟩, ⟨hen2.out.1, hen2.out.2.keep ((Keep.refl NoB W).alloc _)⟩, W.heap.size, hne, Blk.new W _ _, rfl⟩, keepsFrom_keep ((Keep.refl NoB W).alloc _)⟩
 case body =>
  rintro l pre ⟨k, n, sh, gu⟩ a' W ⟨hi, hen, Bo, hne, bo, rfl⟩
  obtain ⟨hk0, hn, htl⟩ := part_facts hen HA.out HB.out
  have hKW : Keep NoB w W := hKw.trans hi.2 (fun k e hl => by subst e; omega)
  have hSz : (str (r.name ++ textP (pre.map Part.key))).size ≤ 60 := by rw [_root_.Go.Proofs.YtgnooffedmeenaaGreatDoor.W.size_of (s := r.name ++ textP (pre.map Part.key)) (by simp), List.length_append]; omega
  have HS : Hid (str (r.name ++ textP ((pre ++ [(⟨k, n, sh, gu⟩ : Part)]).map Part.key)) = str (r.name ++ textP (pre.map Part.key)) ++ ((⟨#[32]⟩ : ByteArray) ++ str (word k n))) := by
   show _ = _
   rw [str_sp, List.map_append]
   simp only [List.map_cons, List.map_nil]
   rw [textP_snoc, List.append_assoc]
   rfl
  have hWd : (str (word k n)).size ≤ 21 := by rw [_root_.Go.Proofs.YtgnooffedmeenaaGreatDoor.W.size_of (s := word k n) (by simp)]; exact word_len k n hn
  have hlt := hi.1.lt
  obtain ⟨D, hD⟩ : ∃ D, str (word k n) = D := ⟨_, rfl⟩
  rw [hD] at HS hWd
  generalize str (r.name ++ textP (pre.map Part.key)) = S at hi hSz HS
  have ct : W.cell? ⟨w1.heap.size + 1, 0, none⟩ = some (.string S) := hi.1.cell 0
  have ft := hi.1.frozen 0
  have hB := Lib.hid hi
  clear hi htl
  rcases hen.2 with ⟨h0, _⟩ | ⟨hd, h1, h2⟩ | ⟨hd, b1, c1, h1, h2, hb1, _⟩
  ·exact absurd h0 hk0
  ·simp only at h1 h2 hd
   subst h1 h2
   have HC := Lib.hid (fun (W' : World) (hk : Keep NoB W W') => (show_dig k n W' hd hn (HLw.out.keep (keepN hKW hk))).mono (R' := fun e w' => e = .returned (.string D) ∧ Keep NoB W' w') (fun _ _ ⟨d, he, hd', hk'⟩ => ⟨by rw [he, hd'.out, hD], hk'⟩))
   have co : W.cell? ⟨Bo, 3, none⟩ = some (fnV 304) := bo.cell 3
   clear hen hd hk0 bo hD
   dsimp only [showAct]
   have hmix : Tryz.prog.follows .mixedOrders = true := by kernel_rfl
   have q1 : ¬ 9223372036854775807 < 1 + D.size := by omega
   have q2 : ¬ 9223372036854775807 < S.size + (1 + D.size) := by omega
   gi_wp2
   gi_region_with_o (refine ⟨trivial, ?_⟩; gi_at_call 304; refine (CallsIn.inRound l (callsIn_wide.2 (HC.out _ (by first | exact Keep.refl _ _ | exact (Keep.refl _ _).drew | exact (Keep.refl _ _).drew.drew)))).mono ?_; rintro e w3 ⟨rfl, k3⟩; have k4 : Keep NoB W w3 := ⟨k3.os, k3.tape, k3.output, k3.size, k3.block⟩; have b3 : Blk w3 (w1.heap.size + 1) 9 #[.string S] := hB.out.1.keep k4 id; have c3 : w3.cell? ⟨w1.heap.size + 1, 0, none⟩ = some (.string S) := b3.cell 0; have f3 : w3.frozen? ⟨w1.heap.size + 1, 0, none⟩ = false := b3.frozen 0)
   all_goals
    have hf : Blk (w3.setCell ⟨w1.heap.size + 1, 0, none⟩ (.string (S ++ ((⟨#[32]⟩ : ByteArray) ++ D)))) (w1.heap.size + 1) 9 #[.string (S ++ ((⟨#[32]⟩ : ByteArray) ++ D))] := b3.put 0 _
    rw [← HS.out] at hf ⊢
    exact show_end hf hB.out.2 k4 hltb
  ·simp only at h1 h2 hd
   subst h1 h2
   have HC := Lib.hid (fun (W' : World) (hk : Keep NoB W W') => (show_word k n b1 W' hd hn (HLw.out.keep (keepN hKW hk)) (hk.cell hb1 id)).mono (R' := fun e w' => e = .returned (.string D) ∧ Keep NoB W' w') (fun _ _ ⟨d, he, hd', hk'⟩ => ⟨by rw [he, hd'.out, hD], hk'⟩))
   have co : W.cell? ⟨Bo, 3, none⟩ = some (boxV 308 b1) := bo.cell 3
   clear hen hd hk0 bo hD hb1
   dsimp only [showAct]
   have hmix : Tryz.prog.follows .mixedOrders = true := by kernel_rfl
   have q1 : ¬ 9223372036854775807 < 1 + D.size := by omega
   have q2 : ¬ 9223372036854775807 < S.size + (1 + D.size) := by omega
   gi_wp2
   gi_region_with_o (refine ⟨trivial, ?_⟩; gi_at_call 308; refine (CallsIn.inRound l (callsIn_wide.2 (HC.out _ (by first | exact Keep.refl _ _ | exact (Keep.refl _ _).drew | exact (Keep.refl _ _).drew.drew)))).mono ?_; rintro e w3 ⟨rfl, k3⟩; have k4 : Keep NoB W w3 := ⟨k3.os, k3.tape, k3.output, k3.size, k3.block⟩; have b3 : Blk w3 (w1.heap.size + 1) 9 #[.string S] := hB.out.1.keep k4 id; have c3 : w3.cell? ⟨w1.heap.size + 1, 0, none⟩ = some (.string S) := b3.cell 0; have f3 : w3.frozen? ⟨w1.heap.size + 1, 0, none⟩ = false := b3.frozen 0)
   all_goals
    have hf : Blk (w3.setCell ⟨w1.heap.size + 1, 0, none⟩ (.string (S ++ ((⟨#[32]⟩ : ByteArray) ++ D)))) (w1.heap.size + 1) 9 #[.string (S ++ ((⟨#[32]⟩ : ByteArray) ++ D))] := b3.put 0 _
    rw [← HS.out] at hf ⊢
    exact show_end hf hB.out.2 k4 hltb
 case done =>
  rintro D xs W hD hS hi hK
  have ct := hi.1.cell 0
  simp only [List.getElem?_toArray, List.getElem?_cons_zero] at ct
  gi_wp2
  refine ⟨by simp, .inl ⟨_, _, rfl, run_takeDeferred hK, ?_⟩⟩
  refine ⟨_, results_tmp rfl _ _ _, _, rfl, ?_, Keep_putObj (hKw.trans hi.2 (fun k e hl => by subst e; omega)) (Nat.le_trans hKw.size hD)⟩
  show _ = _
  rw [HT.out]

end Go.Proofs.YtgnooffedmeenaaGreatDoor.O

namespace Go.Proofs.YtgnooffedmeenaaGreatDoor.W
open Go.Lib

def pI (l : List UInt8) : Int := match atoiAll l with | .ok v => v | .range => atoiSat l | _ => 0
def w64 (n : Int) : Int := (n + 9223372036854775808) % 18446744073709551616 - 9223372036854775808
def gN (t : Int) (s : List UInt8) : Int := if s = [110, 105, 108] then 0 else w64 (pI (trimPrefix s (sgn t)) + off t)
def rd (t : Int) (s : List UInt8) : Option Int := if showL t (gN t s) = s then some (gN t s) else none

/-! ### The document's own way of reading -/

end Go.Proofs.YtgnooffedmeenaaGreatDoor.W

namespace Go.Proofs
open Go.Shelf
def Tryz.lays166_ren : Go.Shelf.Ren := ⟨fun | 166 => 66 | 240 => 138 | 276 => 203 | n => n, fun | 0 => 0 | 3 => 3 | 4 => 4 | 5 => 5 | 9 => 9 | 20 => 20 | 37 => 120 | 70 => 119 | 72 => 122 | 75 => 128 | 80 => 74 | 164 => 244 | n => n, fun  | n => n⟩
theorem Tryz.lays166 : Go.Proofs.Lays.n166 Tryz.prog Tryz.lays166_ren := {
 mixed := by kernel_rfl
 f166 := Tryz.func66.trans (congrArg some (by kernel_rfl))
 f240 := Tryz.func138.trans (congrArg some (by kernel_rfl))
 f276 := Tryz.func203.trans (congrArg some (by kernel_rfl))
 t0 := Tryz.underlying0
 a0 := Tryz.isAgg0
 z0 := Tryz.sizeOf0
 v0 := Tryz.zeroValue0
 t3 := Tryz.underlying3
 a3 := Tryz.isAgg3
 z3 := Tryz.sizeOf3
 v3 := Tryz.zeroValue3
 t4 := Tryz.underlying4
 a4 := Tryz.isAgg4
 z4 := Tryz.sizeOf4
 v4 := Tryz.zeroValue4
 t9 := Tryz.underlying9
 a9 := Tryz.isAgg9
 z9 := Tryz.sizeOf9
 v9 := Tryz.zeroValue9
 t20 := Tryz.underlying20
 a20 := Tryz.isAgg20
 z20 := Tryz.sizeOf20
 v20 := Tryz.zeroValue20
 t37 := Tryz.underlying120
 a37 := Tryz.isAgg120
 z37 := Tryz.sizeOf120
 v37 := Tryz.zeroValue120
 t70 := Tryz.underlying119
 a70 := Tryz.isAgg119
 z70 := Tryz.sizeOf119
 v70 := Tryz.zeroValue119
 t72 := Tryz.underlying122
 a72 := Tryz.isAgg122
 z72 := Tryz.sizeOf122
 v72 := Tryz.zeroValue122
 t75 := Tryz.underlying128
 a75 := Tryz.isAgg128
 z75 := Tryz.sizeOf128
 v75 := Tryz.zeroValue128
 t164 := Tryz.underlying244
 a164 := Tryz.isAgg244
 z164 := Tryz.sizeOf244
 v164 := Tryz.zeroValue244 }
theorem Tryz.Builder_Extra_166 : Builder.Extra Tryz.prog Tryz.lays166_ren := {
 sizeBuilder := by kernel_rfl
 liesBuilder := by kernel_rfl
 t5 := Tryz.underlying5
 a5 := Tryz.isAgg5
 z5 := Tryz.sizeOf5
 v5 := Tryz.zeroValue5
 infoByte := by kernel_rfl
 cellsByte := by kernel_rfl
 sizeByte := by kernel_rfl
 neB5 := by decide }
def Tryz.lays168_ren : Go.Shelf.Ren := ⟨fun | 168 => 68 | 240 => 138 | 242 => 140 | 276 => 203 | 278 => 205 | n => n, fun | 0 => 0 | 3 => 3 | 4 => 4 | 5 => 5 | 9 => 9 | 20 => 20 | 21 => 21 | 37 => 120 | 46 => 203 | 51 => 247 | 70 => 119 | 72 => 122 | 75 => 128 | 80 => 74 | 164 => 244 | n => n, fun  | n => n⟩
theorem Tryz.lays168 : Go.Proofs.Lays.n168 Tryz.prog Tryz.lays168_ren := {
 mixed := by kernel_rfl
 f168 := Tryz.func68.trans (congrArg some (by kernel_rfl))
 f240 := Tryz.func138.trans (congrArg some (by kernel_rfl))
 f242 := Tryz.func140.trans (congrArg some (by kernel_rfl))
 f276 := Tryz.func203.trans (congrArg some (by kernel_rfl))
 f278 := Tryz.func205.trans (congrArg some (by kernel_rfl))
 t0 := Tryz.underlying0
 a0 := Tryz.isAgg0
 z0 := Tryz.sizeOf0
 v0 := Tryz.zeroValue0
 t3 := Tryz.underlying3
 a3 := Tryz.isAgg3
 z3 := Tryz.sizeOf3
 v3 := Tryz.zeroValue3
 t4 := Tryz.underlying4
 a4 := Tryz.isAgg4
 z4 := Tryz.sizeOf4
 v4 := Tryz.zeroValue4
 t5 := Tryz.underlying5
 a5 := Tryz.isAgg5
 z5 := Tryz.sizeOf5
 v5 := Tryz.zeroValue5
 t9 := Tryz.underlying9
 a9 := Tryz.isAgg9
 z9 := Tryz.sizeOf9
 v9 := Tryz.zeroValue9
 t20 := Tryz.underlying20
 a20 := Tryz.isAgg20
 z20 := Tryz.sizeOf20
 v20 := Tryz.zeroValue20
 t21 := Tryz.underlying21
 a21 := Tryz.isAgg21
 z21 := Tryz.sizeOf21
 v21 := Tryz.zeroValue21
 t37 := Tryz.underlying120
 a37 := Tryz.isAgg120
 z37 := Tryz.sizeOf120
 v37 := Tryz.zeroValue120
 t46 := Tryz.underlying203
 a46 := Tryz.isAgg203
 z46 := Tryz.sizeOf203
 v46 := Tryz.zeroValue203
 t51 := Tryz.underlying247
 a51 := Tryz.isAgg247
 z51 := Tryz.sizeOf247
 v51 := Tryz.zeroValue247
 t70 := Tryz.underlying119
 a70 := Tryz.isAgg119
 z70 := Tryz.sizeOf119
 v70 := Tryz.zeroValue119
 t72 := Tryz.underlying122
 a72 := Tryz.isAgg122
 z72 := Tryz.sizeOf122
 v72 := Tryz.zeroValue122
 t75 := Tryz.underlying128
 a75 := Tryz.isAgg128
 z75 := Tryz.sizeOf128
 v75 := Tryz.zeroValue128
 t164 := Tryz.underlying244
 a164 := Tryz.isAgg244
 z164 := Tryz.sizeOf244
 v164 := Tryz.zeroValue244 }
theorem Tryz.Builder_Extra_168 : Builder.Extra Tryz.prog Tryz.lays168_ren := {
 sizeBuilder := by kernel_rfl
 liesBuilder := by kernel_rfl
 t5 := Tryz.underlying5
 a5 := Tryz.isAgg5
 z5 := Tryz.sizeOf5
 v5 := Tryz.zeroValue5
 infoByte := by kernel_rfl
 cellsByte := by kernel_rfl
 sizeByte := by kernel_rfl
 neB5 := by decide }
open Go.RowKit in
theorem Tryz.Builder_WriteString_k (B b : Nat) (bs : List Value) (s : ByteArray) (w : World) (h : Lib.IsBuilderF 122 5 B b bs w) (hlen : bs.length + s.size ≤ 140737488355328) (hBw : B ≤ w.heap.size) :
  Calls Tryz.prog 66 #[.pointer (some ⟨b, 0, none⟩), .string s] w fun e w' => e = .returned (.tuple #[.int .i64 s.size, .nilIface]) ∧ (Lib.BuilderAtF 122 5 B b (.pointer (some ⟨b, 0, none⟩)) (bs ++ Lib.strCells s) w' ∧ Below B w w' ∧ Lib.OthersKept 5 (some b) w w') := Any.Builder_WriteString_k Tryz.lays166 Tryz.Builder_Extra_166 B b bs s w h hlen hBw
open Go.RowKit in
theorem Tryz.Builder_WriteRune_k (B b : Nat) (bs : List Value) (r : Int) (hr0 : -2147483648 ≤ r) (hr1 : r ≤ 2147483647) (w : World) (h : Lib.IsBuilderF 122 5 B b bs w) (hlen : bs.length + 4 ≤ 140737488355328) (hBw : B ≤ w.heap.size) :
  Calls Tryz.prog 68 #[.pointer (some ⟨b, 0, none⟩), .int .i32 r] w fun e w' => e = .returned (.tuple #[.int .i64 (Lib.runeCells r).length, .nilIface]) ∧ (Lib.BuilderAtF 122 5 B b (.pointer (some ⟨b, 0, none⟩)) (bs ++ Lib.runeCells r) w' ∧ Below B w w' ∧ Lib.OthersKept 5 (some b) w w') := Any.Builder_WriteRune_k Tryz.lays168 Tryz.Builder_Extra_168 B b bs r hr0 hr1 w h hlen hBw
end Go.Proofs

namespace Go.Proofs.YtgnooffedmeenaaGreatDoor.W
open Go.RowKit

theorem rune_let {t : Int} (h : knownB t = true) : ∃ r : Int, letV[t.toNat]? = some (.int .i32 r) ∧ 0 ≤ t ∧ t ≤ 4 ∧ -2147483648 ≤ r ∧ r ≤ 2147483647 ∧ Lib.runeCells r = Lib.byteCells (letC t) := by
 rcases known_cases h with rfl | rfl | rfl | rfl
 ·exact ⟨73, rfl, by decide, by decide, by decide, by decide, rfl⟩
 ·exact ⟨82, rfl, by decide, by decide, by decide, by decide, rfl⟩
 ·exact ⟨70, rfl, by decide, by decide, by decide, by decide, rfl⟩
 ·exact ⟨80, rfl, by decide, by decide, by decide, by decide, rfl⟩

theorem bc_append (a b : List UInt8) : Lib.byteCells a ++ Lib.byteCells b = Lib.byteCells (a ++ b) := by simp [Lib.byteCells]

set_option maxRecDepth 100000 in
set_option maxHeartbeats 4000000 in
theorem text_any (A : Option Addr) (l : List Int) (n c : Nat) (w : World) (hL : LetAt w) (ha : Rd w A (ivs l)) (hn : Hid (l.length = n)) (h1 : n ≤ 9223372036854775807) :
  Calls Tryz.prog 146 #[.slice A n c] w fun e w' => e = .returned (.string (str (txt l))) ∧ Keep NoB w w' := by
 by_cases hlong : 1024 < n
 ·have HT := Lib.hid (txt_long (l := l) (by rw [hn.out]; exact hlong))
  go_enter Tryz.func146, Tryz.ntmps146
  go_wp2
  go_ret
  exact ⟨by rw [HT.out]; rfl, Keep.refl _ _⟩
 ·go_enter Tryz.func146, Tryz.ntmps146
  go_wp2
  have hI0 : Lib.IsBuilderF 122 5 w.heap.size w.heap.size (Lib.byteCells ((l.take 0).flatMap letC)) (w.alloc (.cells #[.pointer none, .slice none 0 0] 122)) := Lib.IsBuilderF.of (Lib.fresh_isBuilder 122 5 w)
  have hb0 : Below w.heap.size w (w.alloc (.cells #[.pointer none, .slice none 0 0] 122)) := (Below.refl _ w).alloc (Nat.le_refl _) _
  go_loopw [11] (fun i wr => ∃ k : Nat, k ≤ n ∧ i = .int .i64 k ∧ Lib.IsBuilderF 122 5 w.heap.size w.heap.size (Lib.byteCells ((l.take k).flatMap letC)) wr ∧ Hid ((l.take k).all knownB = true) ∧ Below w.heap.size w wr) (fun i _ => n - (intOf i).toNat)
  case atStart => exact ⟨0, Nat.zero_le _, rfl, hI0, rfl, hb0⟩
  case round =>
   obtain ⟨k, hk, rfl, hI, hall, hB⟩ := hrel
   clear hI0 hb0
   by_cases hlt : k < n
   ·have hka : k < l.length := by rw [hn.out]; exact hlt
    obtain ⟨g, off, rfl, hc⟩ := rdI_at ha (by omega)
    have hKr : Keep NoB w wr := Keep.of_below hB
    have ca := hKr.cell (hc k hka) id
    have hLr := hL.keep hKr
    clear hc
    have HT := Lib.hid (show l.take (k + 1) = l.take k ++ [l[k]] from List.take_succ_eq_append_getElem hka)
    have HM := Lib.hid (List.getElem_mem hka)
    generalize l[k] = t at ca HT HM
    cases hkn : knownB t
    ·have HX : Hid (txt l = []) := txt_bad (by rw [List.all_eq_false]; exact ⟨t, HM.out, by simp [hkn]⟩)
     go_wp2_with (go_at_call 161; refine (known_any _ _).mono ?_; rintro e w' ⟨rfl, rfl⟩)
     go_ret
     exact ⟨by rw [HX.out]; rfl, hKr⟩
    ·have hall2 : Hid ((l.take (k + 1)).all knownB = true) := by show _ = _; rw [HT.out, List.all_append, hall.out]; simp [hkn]
     obtain ⟨r, hr, ht0, ht4, hr0, hr1, hrc⟩ := rune_let hkn
     have HRC := Lib.hid hrc
     have HFM : Hid (Lib.byteCells ((l.take (k + 1)).flatMap letC) = Lib.byteCells ((l.take k).flatMap letC) ++ Lib.runeCells r) := by show _ = _; rw [HT.out, HRC.out, bc_append]; simp
     have hlen : (Lib.byteCells ((l.take k).flatMap letC)).length + 4 ≤ 140737488355328 := by
      rw [Lib.byteCells_length, flat_let_length _ hall.out, List.length_take]; omega
     obtain ⟨tn, rfl⟩ := Int.eq_ofNat_of_zero_le ht0
     have cl : wr.cell? ⟨1, tn, none⟩ = some (.int .i32 r) := (hLr.cell tn).trans (by simpa using hr)
     clear hrc hr HT HM hall HRC ha
     go_wp2_with (first
      | (go_at_call 161; refine (known_any _ _).mono ?_; rintro e w' ⟨rfl, rfl⟩)
      | (go_at_call 68; refine (Tryz.Builder_WriteRune_k w.heap.size w.heap.size _ r hr0 hr1 wr hI hlen hB.size).mono ?_; rintro e w2 ⟨rfl, hI2, hb2, -⟩))
     go_roundw
     case rel => exact ⟨k + 1, by omega, by go_num, by rw [HFM.out]; exact .inr hI2, hall2, hB.trans hb2⟩
     case measure => simp [intOf]; omega
   ·obtain rfl : k = n := by omega
    rw [List.take_of_length_le (by rw [hn.out]; omega)] at hI hall
    have HX : Hid (l.flatMap letC = txt l) := by show _ = _; unfold txt; rw [if_pos ⟨by rw [hn.out]; omega, hall.out⟩]
    have hall' := hall.out
    have H := Lib.hid hall'
    clear hall hall'
    rw [HX.out] at hI
    go_wp2_with (go_at_call 69; refine (Tryz.Builder_String_any_k w.heap.size w.heap.size (txt l) wr hI hB.size).mono ?_; rintro e w2 ⟨rfl, -, hb2, -⟩)
    go_ret
    exact ⟨rfl, Keep.of_below (hB.trans hb2)⟩

end Go.Proofs.YtgnooffedmeenaaGreatDoor.W

namespace Go.Proofs.YtgnooffedmeenaaGreatDoor.W
open Go.RowKit

def tN (s : List UInt8) : Nat := if (untxt s).isSome = true then s.length else 0
def tL (s : List UInt8) : List Int := (untxt s).getD []
def tE (s : List UInt8) : Int := if (untxt s).isSome = true then 0 else 20
end Go.Proofs.YtgnooffedmeenaaGreatDoor.W

namespace Go.Proofs.YtgnooffedmeenaaGreatDoor.O

/-! ### Names -/

/-! ### Operands -/

def ltrI (s : List UInt8) : Int := if W.tE s = 0 ∧ W.tN s = 1 then (W.tL s).getD 0 0 else 0
def gK (k : Int) (s : List UInt8) : Int := if digK k = true then W.pI s else if k = 8 then A.ofI A.binNs s else if k = 9 then A.ofI A.unNs s else if k = 2 ∨ k = 3 then ltrI s else 0
def gA (op : Int) (t : List UInt8) : Int := if (rowAt op).ka = 0 then 0 else gK (rowAt op).ka (Lib.cut t [32]).1
def gB (op : Int) (t : List UInt8) : Int := if (rowAt op).kb = 0 then 0 else gK (rowAt op).kb (Lib.cut t [32]).2.1
end Go.Proofs.YtgnooffedmeenaaGreatDoor.O

namespace Go.Proofs.YtgnooffedmeenaaGreatDoor.M

abbrev Bs := List UInt8
abbrev Ln := Nat × List Bs

def gapB (c : UInt8) : Bool := decide (c = 32 ∨ c = 9)
def endB (c : UInt8) : Bool := decide (c = 10 ∨ c = 59)
def fl (cur : Bs) : List Bs := if cur = [] then [] else [cur]
def wgo (cur : Bs) : Bs → List Bs
 | [] => fl cur
 | c :: r => if endB c = true then fl cur else if gapB c = true then fl cur ++ wgo [] r else wgo (cur ++ [c]) r
def wordsL (s : Bs) : List Bs := wgo [] s
def one (n : Nat) (cur : Bs) : List Ln := if wordsL cur = [] then [] else [(n, wordsL cur)]
def joinW : List Bs → Bs
 | [] => []
 | [w] => w
 | w :: v :: ws => w ++ 32 :: joinW (v :: ws)
theorem fl_some {w : Bs} (h : w ≠ []) : fl w = [w] := if_neg h
theorem wgo_end {cur : Bs} {c : UInt8} (h : endB c = true) (r : Bs) : wgo cur (c :: r) = fl cur := by rw [wgo, if_pos h]
theorem wgo_gap {cur : Bs} {c : UInt8} (h : endB c = false) (hg : gapB c = true) (r : Bs) : wgo cur (c :: r) = fl cur ++ wgo [] r := by rw [wgo, if_neg (by rw [h]; decide), if_pos hg]
theorem wgo_byte {cur : Bs} {c : UInt8} (h : endB c = false) (hg : gapB c = false) (r : Bs) : wgo cur (c :: r) = wgo (cur ++ [c]) r := by rw [wgo, if_neg (by rw [h]; decide), if_neg (by rw [hg]; decide)]
def inW (c : UInt8) : Bool := !endB c && !gapB c
def cleanB (w : Bs) : Bool := !w.isEmpty && w.all inW
theorem inW_iff (c : UInt8) : inW c = true ↔ endB c = false ∧ gapB c = false := by unfold inW; rw [Bool.and_eq_true, Bool.not_eq_true', Bool.not_eq_true']
theorem inW_iff2 (c : UInt8) : inW c = true ↔ c ≠ 10 ∧ c ≠ 59 ∧ c ≠ 32 ∧ c ≠ 9 := by
 rw [inW_iff]; unfold endB gapB; rw [decide_eq_false_iff_not, decide_eq_false_iff_not]
 constructor
 ·rintro ⟨h1, h2⟩; exact ⟨fun h => h1 (.inl h), fun h => h1 (.inr h), fun h => h2 (.inl h), fun h => h2 (.inr h)⟩
 ·rintro ⟨h1, h2, h3, h4⟩; exact ⟨fun h => h.elim h1 h2, fun h => h.elim h3 h4⟩
theorem clean_iff (w : Bs) : cleanB w = true ↔ w ≠ [] ∧ w.all inW = true := by
 unfold cleanB; cases w <;> simp

theorem wgo_word {w : Bs} (h : w.all inW = true) (cur r : Bs) : wgo cur (w ++ r) = wgo (cur ++ w) r := by
 induction w generalizing cur with
 | nil => simp
 | cons c w ih =>
  rw [List.all_cons, Bool.and_eq_true, inW_iff] at h
  rw [List.cons_append, wgo_byte h.1.1 h.1.2, ih h.2, List.append_assoc]
  rfl
def cleanW (l : List Bs) : Bool := !l.isEmpty && l.all cleanB
theorem cleanW_iff (l : List Bs) : cleanW l = true ↔ l ≠ [] ∧ ∀ w ∈ l, cleanB w = true := by
 unfold cleanW; cases l <;> simp
theorem wgo_join : ∀ (l : List Bs) (t : Bs), (∀ w ∈ l, cleanB w = true) → (t = [] ∨ ∃ c r, t = c :: r ∧ endB c = true) → wgo [] (joinW l ++ t) = l
 | [], t, _, ht => by
  rcases ht with rfl | ⟨c, r, rfl, hc⟩
  ·rfl
  ·exact wgo_end hc r
 | [w], t, h, ht => by
  obtain ⟨h1, h2⟩ := (clean_iff w).1 (h w (by simp))
  rw [joinW, wgo_word h2, List.nil_append]
  rcases ht with rfl | ⟨c, r, rfl, hc⟩
  ·exact fl_some h1
  ·rw [wgo_end hc r]; exact fl_some h1
 | w :: v :: ws, t, h, ht => by
  obtain ⟨h1, h2⟩ := (clean_iff w).1 (h w (by simp))
  have ih := wgo_join (v :: ws) t (fun x hx => h x (by simp only [List.mem_cons] at hx ⊢; exact .inr hx)) ht
  rw [joinW, List.append_assoc, wgo_word h2, List.nil_append, List.cons_append, wgo_gap (by decide) (by decide), ih, fl_some h1]
  rfl
theorem words_join {l : List Bs} (h : ∀ w ∈ l, cleanB w = true) : wordsL (joinW l) = l := by
 have := wgo_join l [] h (.inl rfl)
 rwa [List.append_nil] at this

/-! ### Lines -/

def noLF (s : Bs) : Bool := s.all fun c => decide (c ≠ 10)
def num (n : Nat) : List (List Bs) → List Ln
 | [] => []
 | w :: r => (n, w) :: num (n + 1) r
theorem join_in {l : List Bs} (h : ∀ w ∈ l, cleanB w = true) : ∀ c ∈ joinW l, c = 32 ∨ inW c = true := by
 induction l with
 | nil => intro c hc; cases hc
 | cons w l ih =>
  have hw := ((clean_iff w).1 (h w (by simp))).2
  have hw2 : ∀ c ∈ w, inW c = true := fun c hc => List.all_eq_true.1 hw c hc
  cases l with
  | nil => intro c hc; exact .inr (hw2 c hc)
  | cons v ws =>
   intro c hc
   rw [joinW, List.mem_append, List.mem_cons] at hc
   rcases hc with hc | hc | hc
   ·exact .inr (hw2 c hc)
   ·exact .inl hc
   ·exact ih (fun x hx => h x (List.mem_cons_of_mem _ hx)) c hc
theorem join_noLF {l : List Bs} (h : ∀ w ∈ l, cleanB w = true) : noLF (joinW l) = true := by
 unfold noLF
 rw [List.all_eq_true]
 intro c hc
 rw [decide_eq_true_iff]
 rcases join_in h c hc with rfl | h1
 ·decide
 ·exact ((inW_iff2 c).1 h1).1
/-! ### What stands in a normal text -/

/-! ### Notes put in -/

end Go.Proofs.YtgnooffedmeenaaGreatDoor.M

namespace Go.Proofs.YtgnooffedmeenaaGreatDoor.M
open Go.RowKit

structure Nm where
 ln : Nat
 fn : Nat
 pl : Nat
 s : Bs
 lb : Bool
structure St where
 im : I.Im
 ns : List Nm
def ofA (s : Bs) : Option Nat := O.rowsL.findIdx? fun r => decide (r.name = s)
def rdA (s : Bs) : Option C.I3 := match ofA (Lib.cut s [32]).1 with
 | none => none
 | some op =>
  if C.ok1 ((op : Int), O.gA (op : Int) (Lib.cut s [32]).2.1, O.gB (op : Int) (Lib.cut s [32]).2.1) = true ∧ O.textI (op : Int) (O.gA (op : Int) (Lib.cut s [32]).2.1) (O.gB (op : Int) (Lib.cut s [32]).2.1) = s
  then some ((op : Int), O.gA (op : Int) (Lib.cut s [32]).2.1, O.gB (op : Int) (Lib.cut s [32]).2.1) else none
def kindA (op : Int) : Nat := if op = 18 ∨ op = 19 then 1 else if (20 ≤ op ∧ op ≤ 23) ∨ op = 11 then 2 else 0

def shapeW : Bs := [115, 104, 97, 112, 101]
def funcW : Bs := [102, 117, 110, 99]
def localW : Bs := [108, 111, 99, 97, 108]

section
variable {α β : Type}
def upd (g : α → α) : List α → List α
 | [] => []
 | [x] => [g x]
 | x :: y :: r => x :: upd g (y :: r)
theorem upd_append (g : α → α) : ∀ (l : List α) (x : α), upd g (l ++ [x]) = l ++ [g x]
 | [], x => rfl
 | [y], x => rfl
 | y :: z :: l, x => by
  have := upd_append g (z :: l) x
  rw [List.cons_append] at this
  rw [List.cons_append, List.cons_append, upd, this]
  rfl

end

def stShape (st : St) (l : Ln) : Option St := match l.2 with
 | [a, b] => if a = shapeW ∧ st.im.fn = [] then (S.rdS b).map fun x => ⟨⟨st.im.sh ++ [x], st.im.fn⟩, st.ns⟩ else none
 | _ => none
def stFunc (st : St) (l : Ln) : Option St := match l.2 with
 | [a, b, c] => if a = funcW ∧ F.okN b = true then (S.rdG c).map fun g => ⟨⟨st.im.sh, st.im.fn ++ [⟨b, g.1, g.2, [], []⟩]⟩, st.ns⟩ else none
 | _ => none
def hasL (ns : List Nm) (fn : Nat) : Bool := ns.any fun x => x.lb && decide (x.fn = fn)
def stLocal (st : St) (l : Ln) : Option St := match l.2, st.im.fn.getLast? with
 | [a, b], some f => if a = localW ∧ f.lc = [] ∧ f.bd = [] ∧ hasL st.ns (st.im.fn.length - 1) = false then (W.untxt b).map fun t => ⟨⟨st.im.sh, upd (fun f => { f with lc := t }) st.im.fn⟩, st.ns⟩ else none
 | _, _ => none
def stLabel (st : St) (l : Ln) : Option St := match l.2, st.im.fn.getLast? with
 | [a], some f => if a.getLast? = some 58 ∧ F.okN a.dropLast = true then some ⟨st.im, st.ns ++ [⟨l.1, st.im.fn.length - 1, f.bd.length, a.dropLast, true⟩]⟩ else none
 | _, _ => none
def addI (st : St) (x : C.I3) (ns : List Nm) : St := ⟨⟨st.im.sh, upd (fun f => { f with bd := f.bd ++ [x] }) st.im.fn⟩, ns⟩
def stName (st : St) (l : Ln) (f : F.Fu) : Option St := match l.2 with
 | [a, b] => match ofA a with
  | some op => if kindA op ≠ 0 ∧ F.okN b = true then some (addI st ((op : Int), 0, 0) (st.ns ++ [⟨l.1, st.im.fn.length - 1, f.bd.length, b, false⟩])) else none
  | none => none
 | _ => none
def stInstr (st : St) (l : Ln) : Option St := match st.im.fn.getLast? with
 | some f => match rdA (joinW l.2) with
  | some x => some (addI st x st.ns)
  | none => stName st l f
 | none => none
def step (st : St) (l : Ln) : Option St :=
 (stShape st l).or ((stFunc st l).or ((stLocal st l).or ((stLabel st l).or (stInstr st l))))
def runL (st : St) : List Ln → St ⊕ Nat
 | [] => .inl st
 | l :: r => match step st l with
  | none => .inr l.1
  | some st' => runL st' r

/-! ### Names -/

def again (pre : List Nm) (x : Nm) : Bool := pre.any fun y => y.lb && (decide (y.fn = x.fn) && decide (y.s = x.s))
/-! ### What lines say does not hang on their numbers -/

end Go.Proofs.YtgnooffedmeenaaGreatDoor.M

namespace Go.Proofs.YtgnooffedmeenaaGreatDoor.M
open Go.RowKit

/-! ### The words of a text that is written -/

theorem inW_of {c : UInt8} (h : c = 45 ∨ c = 62 ∨ (48 ≤ c.toNat ∧ c.toNat ≤ 57) ∨ (97 ≤ c.toNat ∧ c.toNat ≤ 122) ∨ (65 ≤ c.toNat ∧ c.toNat ≤ 90)) : inW c = true := by
 rw [inW_iff2]
 refine ⟨?_, ?_, ?_, ?_⟩ <;> · rintro rfl; revert h; decide
theorem clean_mk {w : Bs} (h0 : w ≠ []) (h : ∀ c ∈ w, inW c = true) : cleanB w = true := (clean_iff w).2 ⟨h0, List.all_eq_true.2 h⟩
theorem itoa_ne (n : Int) : Lib.itoa n ≠ [] := by
 obtain ⟨c, r, h, _⟩ := W.itoa_cons n
 rw [h]; exact List.cons_ne_nil _ _
theorem itoa_in (n : Int) : ∀ c ∈ Lib.itoa n, c = 45 ∨ (48 ≤ c.toNat ∧ c.toNat ≤ 57) := by
 intro c hc
 rcases Int.lt_or_le n 0 with h | h
 ·rw [W.itoa_minus h] at hc
  rcases List.mem_cons.1 hc with rfl | hc
  ·exact .inl rfl
  ·exact .inr (W.dec_digits _ c hc)
 ·rw [W.itoa_pos h] at hc
  exact .inr (W.dec_digits _ c hc)
theorem itoa_clean (n : Int) : cleanB (Lib.itoa n) = true := clean_mk (itoa_ne n) fun c hc => inW_of (by rcases itoa_in n c hc with h | h; exact .inl h; exact .inr (.inr (.inl h)))
theorem okN_clean {s : Bs} (h : F.okN s = true) : cleanB s = true := by
 obtain ⟨_, h1, h2⟩ := (F.okN_iff s).1 h
 refine clean_mk (fun e => ?_) fun c hc => ?_
 ·subst e; exact absurd h1 (by decide)
 ·have := List.all_eq_true.1 h2 c hc
  unfold F.inB at this
  rw [Bool.or_eq_true, F.letB_iff, F.digB_iff] at this
  exact inW_of (by omega)
theorem let_in {t : Int} : ∀ c ∈ W.letC t, inW c = true := by
 unfold W.letC
 intro c hc
 repeat' split at hc
 all_goals first | (rw [List.mem_singleton] at hc; subst hc; decide) | cases hc
theorem txt_in (l : List Int) : ∀ c ∈ W.txt l, inW c = true := by
 unfold W.txt
 split
 ·intro c hc
  obtain ⟨t, _, hc⟩ := List.mem_flatMap.1 hc
  exact let_in c hc
 ·intro c hc; cases hc
theorem txt_clean {l : List Int} (h0 : l ≠ []) (h1 : l.length ≤ 1024) (h2 : l.all W.knownB = true) : cleanB (W.txt l) = true := by
 refine clean_mk (fun e => h0 ?_) (txt_in l)
 have := W.txt_length h1 h2
 rw [e] at this
 exact List.length_eq_zero_iff.1 this.symm
theorem shS_clean {l : List Int} (h : S.okS l = true) : cleanB (S.shS l) = true := by
 obtain ⟨h1, h2⟩ := (S.okS_iff l).1 h
 unfold S.shS
 rw [if_pos h]
 exact txt_clean (fun e => by subst e; simp at h1) (by omega) (S.all_known h2)
theorem shG_clean {a r : List Int} (h : S.okG a r = true) : cleanB (S.shG a r) = true := by
 unfold S.shG
 rw [if_pos h]
 refine clean_mk (by simp) fun c hc => ?_
 rcases List.mem_append.1 hc with hc | hc
 ·exact txt_in a c hc
 ·rcases List.mem_cons.1 hc with rfl | hc
  ·decide
  ·exact txt_in r c hc
theorem name_clean {op : Int} (h : O.isOp op = true) : cleanB (O.rowAt op).name = true := by
 obtain ⟨hk, e⟩ := O.rowAt_yes h
 rw [e]
 have : O.rowsL.all (fun r => cleanB r.name) = true := by decide
 exact List.all_eq_true.1 this _ (List.getElem_mem hk)
theorem word_clean {k n : Int} (hn : O.inK k n = true) : cleanB (O.word k n) = true := by
 have hd := of_decide_eq_true hn
 unfold O.word
 split
 ·rename_i hk
  have z1 : 1 ≤ n ∧ n ≤ 4 := by unfold O.lo O.hi at hd; rcases hk with rfl | rfl <;> simp at hd <;> omega
  have vb : n = 1 ∨ n = 2 ∨ n = 3 ∨ n = 4 := by omega
  rcases vb with rfl | rfl | rfl | rfl <;> decide
 ·split
  ·rename_i h1 h2
   subst h2
   have z1 : 0 ≤ n ∧ n ≤ 13 := by unfold O.lo O.hi at hd; simpa using hd
   have hlt : n.toNat < A.binNs.length := by rw [show A.binNs.length = 14 from rfl]; omega
   have : A.binNs.all cleanB = true := by decide
   unfold A.nameAt
   rw [if_pos z1.1, A.getD_at hlt]
   exact List.all_eq_true.1 this _ (List.getElem_mem hlt)
  ·split
   ·rename_i h1 h2 h3
    subst h3
    have z1 : 0 ≤ n ∧ n ≤ 8 := by unfold O.lo O.hi at hd; simpa using hd
    have hlt : n.toNat < A.unNs.length := by rw [show A.unNs.length = 9 from rfl]; omega
    have : A.unNs.all cleanB = true := by decide
    unfold A.nameAt
    rw [if_pos z1.1, A.getD_at hlt]
    exact List.all_eq_true.1 this _ (List.getElem_mem hlt)
   ·exact itoa_clean n

def wordP (k n : Int) : List Bs := if k = 0 then [] else [O.word k n]
def wordsX (x : C.I3) : List Bs := (O.rowAt x.1).name :: (wordP (O.rowAt x.1).ka x.2.1 ++ wordP (O.rowAt x.1).kb x.2.2)
theorem row_none (op : Int) : (O.rowAt op).ka = 0 → (O.rowAt op).kb = 0 := by
 have := O.rowAt_all (p := fun r => decide (r.ka = 0 → r.kb = 0)) (by decide) (by decide) op
 exact of_decide_eq_true this
theorem join_words (x : C.I3) : joinW (wordsX x) = O.textI x.1 x.2.1 x.2.2 := by
 have hn := row_none x.1
 unfold wordsX O.textI wordP O.partL
 by_cases h0 : (O.rowAt x.1).ka = 0
 ·rw [if_pos h0, if_pos (hn h0), if_pos h0, if_pos (hn h0)]; simp [joinW]
 ·by_cases h1 : (O.rowAt x.1).kb = 0
  ·rw [if_neg h0, if_pos h1, if_neg h0, if_pos h1]; simp [joinW]
  ·rw [if_neg h0, if_neg h1, if_neg h0, if_neg h1]; simp [joinW]
theorem wordsX_clean {x : C.I3} (h : C.ok1 x = true) : cleanW (wordsX x) = true := by
 obtain ⟨h1, h2, h3⟩ := O.ok_op h
 refine (cleanW_iff _).2 ⟨by unfold wordsX; exact List.cons_ne_nil _ _, fun w hw => ?_⟩
 unfold wordsX wordP at hw
 rcases List.mem_cons.1 hw with rfl | hw
 ·exact name_clean h1
 ·rcases List.mem_append.1 hw with hw | hw
  ·split at hw
   ·cases hw
   ·rw [List.mem_singleton] at hw; subst hw; exact word_clean h2
  ·split at hw
   ·cases hw
   ·rw [List.mem_singleton] at hw; subst hw; exact word_clean h3

/-! ### A line at a time -/

theorem step_2 {st st' : St} {l : Ln} (h1 : stShape st l = none) (h : stFunc st l = some st') : step st l = some st' := by unfold step; rw [h1, h]; rfl
theorem step_3 {st st' : St} {l : Ln} (h1 : stShape st l = none) (h2 : stFunc st l = none) (h : stLocal st l = some st') : step st l = some st' := by unfold step; rw [h1, h2, h]; rfl
theorem shape_two {st : St} {n : Nat} {w : List Bs} (h : ∀ b, w ≠ [shapeW, b]) : stShape st (n, w) = none := by
 unfold stShape
 split
 ·rename_i a b e
  exact if_neg fun hh => h b (by rw [← hh.1]; exact e)
 ·rfl
theorem func_three {st : St} {n : Nat} {w : List Bs} (h : ∀ b c, w ≠ [funcW, b, c]) : stFunc st (n, w) = none := by
 unfold stFunc
 split
 ·rename_i a b c e
  exact if_neg fun hh => h b c (by rw [← hh.1]; exact e)
 ·rfl
/-! ### Labels -/

def lbl (i : Int) : Bs := 76 :: Lib.itoa i
def lblW (i : Int) : List Bs := [lbl i ++ [58]]
def jmpW (x : C.I3) : List Bs := [(O.rowAt x.1).name, lbl x.2.1]
theorem lbl_inj {i j : Int} (hi : 0 ≤ i ∧ i ≤ 511) (hj : 0 ≤ j ∧ j ≤ 511) (h : lbl i = lbl j) : i = j := by
 unfold lbl at h
 injection h with _ h
 exact W.itoa_inj (by omega) (by omega) h
theorem lbl_ok {i : Int} (hi : 0 ≤ i ∧ i ≤ 511) : F.okN (lbl i) = true := by
 refine (F.okN_iff _).2 ⟨?_, rfl, ?_⟩
 ·have h := Lib.nDigits_le20 i.toNat (by omega)
  unfold lbl
  rw [W.itoa_pos hi.1, List.length_cons, Lib.decDigits_length]
  omega
 ·unfold lbl
  rw [List.all_cons, Bool.and_eq_true]
  refine ⟨by decide, List.all_eq_true.2 fun c hc => ?_⟩
  rw [W.itoa_pos hi.1] at hc
  unfold F.inB
  rw [Bool.or_eq_true, F.digB_iff]
  exact .inr (W.dec_digits _ c hc)
theorem lblW_clean {i : Int} (hi : 0 ≤ i ∧ i ≤ 511) : cleanW (lblW i) = true := by
 refine (cleanW_iff _).2 ⟨by unfold lblW; simp, fun w hw => ?_⟩
 unfold lblW at hw
 rw [List.mem_singleton] at hw
 subst hw
 have h := ((clean_iff _).1 (okN_clean (lbl_ok hi))).2
 exact clean_mk (by simp) fun c hc => by
  rcases List.mem_append.1 hc with hc | hc
  ·exact List.all_eq_true.1 h c hc
  ·rw [List.mem_singleton] at hc; subst hc; decide
theorem row_goes (op : Int) : (O.rowAt op).ka = 10 → op = 18 ∨ op = 19 := by
 intro h
 cases ho : O.isOp op
 ·rw [O.rowAt_no ho] at h; exact absurd h (by decide)
 ·have hb := O.isOp_yes ho
  have : ∀ j : Fin 30, (O.rowAt (j.1 : Int)).ka = 10 → (j.1 : Int) = 18 ∨ (j.1 : Int) = 19 := by decide
  have h2 := this ⟨op.toNat, by omega⟩
  rw [show ((op.toNat : Nat) : Int) = op by omega] at h2
  exact h2 h
theorem ofA_goes {op : Int} (h : op = 18 ∨ op = 19) : ofA (O.rowAt op).name = some op.toNat ∧ kindA op = 1 ∧ (O.rowAt op).ka = 10 ∧ (O.rowAt op).kb = 0 := by
 rcases h with rfl | rfl <;> exact ⟨by decide, by decide, by decide, by decide⟩
theorem jmpW_clean {x : C.I3} (h : C.gB x = true) : cleanW (jmpW x) = true := by
 obtain ⟨h1, h2⟩ := C.gB_ka h
 refine (cleanW_iff _).2 ⟨by unfold jmpW; exact List.cons_ne_nil _ _, fun w hw => ?_⟩
 unfold jmpW at hw
 rcases List.mem_cons.1 hw with rfl | hw
 ·exact name_clean (O.ok_op h1).1
 ·rw [List.mem_singleton] at hw; subst hw; exact okN_clean (lbl_ok (C.gB_in h))

end Go.Proofs.YtgnooffedmeenaaGreatDoor.M

namespace Go.Proofs.YtgnooffedmeenaaGreatDoor.M
open Go.RowKit

/-! ### A written image -/

def itemT (lab : Bool) (i : Nat) (x : C.I3) : List (List Bs) := if lab = true then [lblW i, if C.gB x = true then jmpW x else wordsX x] else [wordsX x]
def bodyT (lab : Bool) (i : Nat) : List C.I3 → List (List Bs)
 | [] => []
 | x :: r => itemT lab i x ++ bodyT lab (i + 1) r
def headT (f : F.Fu) : List (List Bs) := [funcW, f.nm, S.shG f.ar f.rs] :: (if f.lc = [] then [] else [[localW, W.txt f.lc]])
def funcT (lab : Bool) (f : F.Fu) : List (List Bs) := headT f ++ bodyT lab 0 f.bd
def shapeT (s : List Int) : List Bs := [shapeW, S.shS s]
def imgT (lab : Bool) (p : I.Im) : List (List Bs) := p.sh.map shapeT ++ p.fn.flatMap (funcT lab)

theorem run_cons {st st' : St} {l : Ln} (h : step st l = some st') (r : List Ln) : runL st (l :: r) = runL st' r := by rw [runL, h]
theorem last_snoc {α : Type} (l : List α) (x : α) : (l ++ [x]).getLast? = some x := List.getLast?_concat
theorem hasL_below {ns : List Nm} {k : Nat} (h : ∀ x ∈ ns, x.fn < k) : hasL ns k = false := by
 unfold hasL
 rw [List.any_eq_false]
 intro x hx
 have := h x hx
 rw [Bool.and_eq_true, decide_eq_true_iff]
 rintro ⟨_, e⟩
 omega
theorem run_head (sh : List (List Int)) (fs : List F.Fu) (f : F.Fu) (ns : List Nm) (n : Nat) (hf : F.okF f = true) (hn : ∀ x ∈ ns, x.fn < fs.length) (r : List Ln) :
  runL ⟨⟨sh, fs⟩, ns⟩ (num n (headT f) ++ r) = runL ⟨⟨sh, fs ++ [⟨f.nm, f.ar, f.rs, f.lc, []⟩]⟩, ns⟩ r := by
 obtain ⟨h1, h2, h3, h4, h5⟩ := (F.okF_iff f).1 hf
 have s1 : step ⟨⟨sh, fs⟩, ns⟩ (n, [funcW, f.nm, S.shG f.ar f.rs]) = some ⟨⟨sh, fs ++ [⟨f.nm, f.ar, f.rs, [], []⟩]⟩, ns⟩ := by
  refine step_2 (shape_two fun b e => ?_) ?_
  ·have := congrArg List.length e; simp at this
  ·unfold stFunc
   dsimp only
   rw [if_pos ⟨rfl, h1⟩, S.rdG_sh h2]
   rfl
 unfold headT
 by_cases hl : f.lc = []
 ·rw [if_pos hl, hl]
  exact run_cons s1 r
 ·rw [if_neg hl]
  have s2 : step ⟨⟨sh, fs ++ [⟨f.nm, f.ar, f.rs, [], []⟩]⟩, ns⟩ (n + 1, [localW, W.txt f.lc]) = some ⟨⟨sh, fs ++ [⟨f.nm, f.ar, f.rs, f.lc, []⟩]⟩, ns⟩ := by
   refine step_3 (shape_two fun b e => ?_) (func_three fun b c e => ?_) ?_
   ·injection e with e _; exact absurd e (by decide)
   ·have := congrArg List.length e; simp at this
   ·unfold stLocal
    rw [last_snoc]
    dsimp only
    have hh : hasL ns ((fs ++ [(⟨f.nm, f.ar, f.rs, [], []⟩ : F.Fu)]).length - 1) = false := hasL_below (by simpa using hn)
    rw [if_pos ⟨rfl, rfl, rfl, hh⟩, W.untxt_txt (by omega) h3, Option.map_some, upd_append]
  show runL _ ((n, _) :: (n + 1, _) :: r) = _
  rw [run_cons s1, run_cons s2]
/-! ### The lines are the text's -/

theorem item_clean {lab : Bool} {i : Nat} {x : C.I3} (hx : C.ok1 x = true) (hi : i ≤ 511) : ∀ w ∈ itemT lab i x, cleanW w = true := by
 intro w hw
 unfold itemT at hw
 split at hw
 ·rcases List.mem_cons.1 hw with rfl | hw
  ·exact lblW_clean (by omega)
  ·rw [List.mem_singleton] at hw
   subst hw
   cases hg : C.gB x with
   | true => rw [if_pos rfl]; exact jmpW_clean hg
   | false => rw [if_neg (by decide)]; exact wordsX_clean hx
 ·rw [List.mem_singleton] at hw
  subst hw
  exact wordsX_clean hx
theorem body_clean {lab : Bool} : ∀ (b : List C.I3) (i : Nat), b.all C.ok1 = true → i + b.length ≤ 512 → ∀ w ∈ bodyT lab i b, cleanW w = true
 | [], _, _, _, w, hw => by cases hw
 | x :: b, i, hb, hl, w, hw => by
  rw [List.all_cons, Bool.and_eq_true] at hb
  rw [List.length_cons] at hl
  rw [bodyT, List.mem_append] at hw
  rcases hw with hw | hw
  ·exact item_clean hb.1 (by omega) w hw
  ·exact body_clean b (i + 1) hb.2 (by omega) w hw
theorem ok_body {f : F.Fu} (hf : F.okF f = true) : f.bd.all C.ok1 = true ∧ 1 ≤ f.bd.length ∧ f.bd.length ≤ 512 ∧ ∀ x ∈ f.bd, C.gN x < (f.bd.length : Int) := by
 obtain ⟨_, _, _, h4, _⟩ := (F.okF_iff f).1 hf
 obtain ⟨b1, b2, _, b4⟩ := C.okB_parts h4
 rw [List.all_eq_true] at b4
 refine ⟨List.all_eq_true.2 fun x hx => ?_, b1, b2, fun x hx => ?_⟩
 all_goals
  have := b4 x hx
  unfold C.itemB at this
  rw [Bool.and_eq_true, decide_eq_true_iff] at this
 ·exact this.1
 ·exact this.2
theorem func_clean {lab : Bool} {f : F.Fu} (hf : F.okF f = true) : ∀ w ∈ funcT lab f, cleanW w = true := by
 obtain ⟨h1, h2, h3, h4, h5⟩ := (F.okF_iff f).1 hf
 obtain ⟨b1, _, b2, _⟩ := ok_body hf
 intro w hw
 unfold funcT headT at hw
 rcases List.mem_append.1 hw with hw | hw
 ·rcases List.mem_cons.1 hw with rfl | hw
  ·refine (cleanW_iff _).2 ⟨by simp, fun v hv => ?_⟩
   rcases List.mem_cons.1 hv with rfl | hv
   ·decide
   ·rcases List.mem_cons.1 hv with rfl | hv
    ·exact okN_clean h1
    ·rw [List.mem_singleton] at hv; subst hv; exact shG_clean h2
  ·split at hw
   ·cases hw
   ·rename_i hl
    rw [List.mem_singleton] at hw
    subst hw
    refine (cleanW_iff _).2 ⟨by simp, fun v hv => ?_⟩
    rcases List.mem_cons.1 hv with rfl | hv
    ·decide
    ·rw [List.mem_singleton] at hv; subst hv; exact txt_clean hl (by omega) h3
 ·exact body_clean _ _ b1 (by omega) w hw
theorem img_clean {lab : Bool} {p : I.Im} (hp : I.okI p = true) : ∀ w ∈ imgT lab p, cleanW w = true := by
 obtain ⟨_, h3, h4⟩ := (I.okI_iff p).1 hp
 intro w hw
 unfold imgT at hw
 rcases List.mem_append.1 hw with hw | hw
 ·obtain ⟨s, hs, rfl⟩ := List.mem_map.1 hw
  refine (cleanW_iff _).2 ⟨by unfold shapeT; simp, fun v hv => ?_⟩
  unfold shapeT at hv
  rcases List.mem_cons.1 hv with rfl | hv
  ·decide
  ·rw [List.mem_singleton] at hv; subst hv; exact shS_clean (List.all_eq_true.1 h3 s hs)
 ·obtain ⟨f, hf, hw⟩ := List.mem_flatMap.1 hw
  exact func_clean (List.all_eq_true.1 h4 f hf) w hw

/-! ### Names are put -/

/-! ### The names of a written image -/

def apart (x y : Nm) : Prop := ¬ (x.lb = true ∧ x.fn = y.fn ∧ x.s = y.s ∧ y.lb = true)
theorem kind_goes {y : C.I3} (h : C.gB y = true) : kindA y.1 = 1 := (ofA_goes (row_goes y.1 (C.gB_ka h).2)).2.1
end Go.Proofs.YtgnooffedmeenaaGreatDoor.M

namespace Go.Proofs.YtgnooffedmeenaaGreatDoor.M.L
open Go.RowKit

/-! ### An instruction that bears a name -/

def nmdW (x : C.I3) (s : Bs) : List Bs := [(O.rowAt x.1).name, s]
theorem named_ka {op : Int} (h : kindA op ≠ 0) : O.isOp op = true ∧ ((O.rowAt op).ka = 7 ∨ (O.rowAt op).ka = 10) ∧ (O.rowAt op).kb = 0 ∧ ofA (O.rowAt op).name = some op.toNat ∧ 0 ≤ op := by
 have hop : op = 18 ∨ op = 19 ∨ op = 20 ∨ op = 21 ∨ op = 22 ∨ op = 23 ∨ op = 11 := by
  unfold kindA at h
  split at h
  ·omega
  ·split at h
   ·omega
   ·exact absurd rfl h
 rcases hop with rfl | rfl | rfl | rfl | rfl | rfl | rfl <;> exact ⟨by decide, by decide, by decide, by decide, by decide⟩
theorem nmdW_clean {x : C.I3} {s : Bs} (hk : kindA x.1 ≠ 0) (hs : F.okN s = true) : cleanW (nmdW x s) = true := by
 refine (cleanW_iff _).2 ⟨by unfold nmdW; exact List.cons_ne_nil _ _, fun w hw => ?_⟩
 unfold nmdW at hw
 rcases List.mem_cons.1 hw with rfl | hw
 ·exact name_clean (named_ka hk).1
 ·rw [List.mem_singleton] at hw; subst hw; exact okN_clean hs
theorem labW_clean {s : Bs} (hs : F.okN s = true) : cleanW [s ++ [58]] = true := by
 refine (cleanW_iff _).2 ⟨by simp, fun w hw => ?_⟩
 rw [List.mem_singleton] at hw
 subst hw
 have h := ((clean_iff _).1 (okN_clean hs)).2
 exact clean_mk (by simp) fun c hc => by
  rcases List.mem_append.1 hc with hc | hc
  ·exact List.all_eq_true.1 h c hc
  ·rw [List.mem_singleton] at hc; subst hc; decide
/-! ### A written image -/

abbrev Labs := Nat → Nat → Option Bs
abbrev Nams := Nat → C.I3 → Option Bs
def labL : Option Bs → List (List Bs)
 | some s => [[s ++ [58]]]
 | none => []
def insL (nw : Option Bs) (x : C.I3) : List Bs := match nw with
 | some s => nmdW x s
 | none => wordsX x
def itemL (lb nw : Option Bs) (x : C.I3) : List (List Bs) := labL lb ++ [insL nw x]
def bodyL (lb : Nat → Option Bs) (nw : C.I3 → Option Bs) (i : Nat) : List C.I3 → List (List Bs)
 | [] => []
 | x :: r => itemL (lb i) (nw x) x ++ bodyL lb nw (i + 1) r
def funcL (lb : Nat → Option Bs) (nw : C.I3 → Option Bs) (f : F.Fu) : List (List Bs) := headT f ++ bodyL lb nw 0 f.bd
def funcsL (LB : Labs) (NW : Nams) (k : Nat) : List F.Fu → List (List Bs)
 | [] => []
 | f :: r => funcL (LB k) (NW k) f ++ funcsL LB NW (k + 1) r
def imgL (LB : Labs) (NW : Nams) (p : I.Im) : List (List Bs) := p.sh.map shapeT ++ funcsL LB NW 0 p.fn

structure Good (p : I.Im) (LB : Labs) (NW : Nams) : Prop where
 lok : ∀ k i s, LB k i = some s → F.okN s = true
 inj : ∀ k i j s, LB k i = some s → LB k j = some s → i = j
 nok : ∀ k x s, NW k x = some s → F.okN s = true ∧ kindA x.1 ≠ 0
 nto : ∀ k f x s, p.fn[k]? = some f → x ∈ f.bd → NW k x = some s →
  (kindA x.1 = 1 ∧ ∃ t : Nat, x.2.1 = (t : Int) ∧ t < f.bd.length ∧ LB k t = some s) ∨ (kindA x.1 = 2 ∧ ∃ t : Nat, x.2.1 = (t : Int) ∧ I.findI p.fn s = some t)

section
variable {lb : Nat → Option Bs} {nw : C.I3 → Option Bs} (hl : ∀ i s, lb i = some s → F.okN s = true) (hn : ∀ x s, nw x = some s → F.okN s = true ∧ kindA x.1 ≠ 0)
include hl hn
theorem body_clean : ∀ (b : List C.I3) (i : Nat), b.all C.ok1 = true → ∀ w ∈ bodyL lb nw i b, cleanW w = true
 | [], _, _, w, hw => by cases hw
 | x :: b, i, hb, w, hw => by
  rw [List.all_cons, Bool.and_eq_true] at hb
  rw [bodyL, List.mem_append] at hw
  rcases hw with hw | hw
  ·unfold itemL at hw
   rcases List.mem_append.1 hw with hw | hw
   ·cases h : lb i with
    | none => rw [h] at hw; cases hw
    | some s =>
     rw [h] at hw
     have hw : w ∈ [[s ++ [58]]] := hw
     rw [List.mem_singleton] at hw
     subst hw
     exact labW_clean (hl _ _ h)
   ·rw [List.mem_singleton] at hw
    subst hw
    cases h : nw x with
    | none => exact wordsX_clean hb.1
    | some s => exact nmdW_clean (hn _ _ h).2 (hn _ _ h).1
  ·exact body_clean b (i + 1) hb.2 w hw
theorem func_cleanN {f : F.Fu} (hf : F.okF f = true) : ∀ w ∈ funcL lb nw f, cleanW w = true := by
 obtain ⟨b1, _, _, _⟩ := ok_body hf
 intro w hw
 unfold funcL at hw
 rcases List.mem_append.1 hw with hw | hw
 ·exact func_clean (lab := false) hf w (List.mem_append_left _ hw)
 ·exact body_clean hl hn f.bd 0 b1 w hw
end
theorem funcs_clean {LB : Labs} {NW : Nams} (hl : ∀ k i s, LB k i = some s → F.okN s = true) (hn : ∀ k x s, NW k x = some s → F.okN s = true ∧ kindA x.1 ≠ 0) : ∀ (q : List F.Fu) (k : Nat), q.all F.okF = true → ∀ w ∈ funcsL LB NW k q, cleanW w = true
 | [], k, _, w, hw => by cases hw
 | f :: q, k, hq, w, hw => by
  rw [List.all_cons, Bool.and_eq_true] at hq
  rw [funcsL, List.mem_append] at hw
  rcases hw with hw | hw
  ·exact func_cleanN (hl k) (hn k) hq.1 w hw
  ·exact funcs_clean hl hn q (k + 1) hq.2 w hw
theorem img_cleanN {p : I.Im} {LB : Labs} {NW : Nams} (hg : Good p LB NW) (hp : I.okI p = true) : ∀ w ∈ imgL LB NW p, cleanW w = true := by
 obtain ⟨_, h3, h4⟩ := (I.okI_iff p).1 hp
 intro w hw
 unfold imgL at hw
 rcases List.mem_append.1 hw with hw | hw
 ·exact img_clean (lab := false) hp w (List.mem_append_left _ hw)
 ·exact funcs_clean hg.lok hg.nok p.fn 0 h4 w hw

/-! ### The names are put -/

end Go.Proofs.YtgnooffedmeenaaGreatDoor.M.L

namespace Go.Proofs.YtgnooffedmeenaaGreatDoor.M.L
open Go.RowKit

/-! ### Targets, labels, names -/

def hitB (b : List C.I3) (i : Nat) : Bool := b.any fun x => C.gB x && decide (x.2.1 = (i : Int))
def tgs (b : List C.I3) : List Nat := (List.range b.length).filter (hitB b)
def labA (t : List Nat) (i : Nat) : Option Bs := (t.findIdx? fun j => decide (j = i)).map fun n => lbl ((n : Nat) : Int)
def LBp (p : I.Im) : Labs := fun k i => (p.fn[k]?).bind fun f => labA (tgs f.bd) i
def NWp (p : I.Im) : Nams := fun k x => if C.gB x = true then LBp p k x.2.1.toNat else if (O.rowAt x.1).ka = 7 then (p.fn[x.2.1.toNat]?).map F.Fu.nm else none
def LB0 : Labs := fun _ _ => none
def NW0 : Nams := fun _ _ => none

theorem tgs_mem {b : List C.I3} {i : Nat} : i ∈ tgs b ↔ i < b.length ∧ hitB b i = true := by unfold tgs; rw [List.mem_filter, List.mem_range]
theorem tgs_len (b : List C.I3) : (tgs b).length ≤ b.length := by
 unfold tgs
 have := List.length_filter_le (hitB b) (List.range b.length)
 rwa [List.length_range] at this
theorem hit_of {b : List C.I3} {x : C.I3} {t : Nat} (hx : x ∈ b) (hg : C.gB x = true) (ht : x.2.1 = (t : Int)) : hitB b t = true := by
 unfold hitB
 rw [List.any_eq_true]
 exact ⟨x, hx, by rw [hg, decide_eq_true ht]; rfl⟩
theorem labA_some {t : List Nat} {i : Nat} {s : Bs} (h : labA t i = some s) : ∃ n, n < t.length ∧ t[n]? = some i ∧ s = lbl ((n : Nat) : Int) := by
 unfold labA at h
 cases hf : t.findIdx? fun j => decide (j = i) with
 | none => rw [hf] at h; cases h
 | some n =>
  rw [hf] at h
  injection h with h
  rw [List.findIdx?_eq_some_iff_getElem] at hf
  obtain ⟨hn, h1, _⟩ := hf
  exact ⟨n, hn, by rw [List.getElem?_eq_getElem hn, of_decide_eq_true h1], h.symm⟩
theorem labA_mem {t : List Nat} {i : Nat} (h : i ∈ t) : ∃ s, labA t i = some s := by
 unfold labA
 cases hf : t.findIdx? fun j => decide (j = i) with
 | none =>
  rw [List.findIdx?_eq_none_iff] at hf
  have := hf i h
  simp at this
 | some n => exact ⟨_, rfl⟩
theorem row_func (op : Int) : (O.rowAt op).ka = 7 → kindA op = 2 := by
 intro h
 cases ho : O.isOp op
 ·rw [O.rowAt_no ho] at h; exact absurd h (by decide)
 ·have hb := O.isOp_yes ho
  have : ∀ j : Fin 30, (O.rowAt (j.1 : Int)).ka = 7 → kindA (j.1 : Int) = 2 := by decide
  have h2 := this ⟨op.toNat, by omega⟩
  rw [show ((op.toNat : Nat) : Int) = op by omega] at h2
  exact h2 h
theorem find_nodup {l : List F.Fu} (h : (l.map F.Fu.nm).Nodup) {i : Nat} {f : F.Fu} (hf : l[i]? = some f) : I.findI l f.nm = some i := by
 obtain ⟨hi, rfl⟩ := List.getElem?_eq_some_iff.1 hf
 unfold I.findI
 rw [List.findIdx?_eq_some_iff_getElem]
 refine ⟨hi, decide_eq_true rfl, fun j hj => ?_⟩
 rw [Bool.not_eq_true, decide_eq_false_iff_not]
 intro e
 have h2 := (List.pairwise_iff_getElem.1 h) j i (by rw [List.length_map]; omega) (by rw [List.length_map]; omega) hj
 rw [List.getElem_map, List.getElem_map] at h2
 exact h2 e

theorem good0 (p : I.Im) : Good p LB0 NW0 := ⟨(fun _ _ _ h => nomatch h), (fun _ _ _ _ h => nomatch h), (fun _ _ _ h => nomatch h), (fun _ _ _ _ _ _ h => nomatch h)⟩
theorem goodP {p : I.Im} (hp : I.okI p = true) : Good p (LBp p) (NWp p) := by
 obtain ⟨⟨_, _, hnd⟩, _, h4⟩ := (I.okI_iff p).1 hp
 have hfn : ∀ {k : Nat} {f : F.Fu}, p.fn[k]? = some f → F.okF f = true := fun h => List.all_eq_true.1 h4 _ (List.mem_of_getElem? h)
 have hlb : ∀ {k i : Nat} {s : Bs}, LBp p k i = some s → ∃ f n, p.fn[k]? = some f ∧ n < (tgs f.bd).length ∧ n ≤ 511 ∧ (tgs f.bd)[n]? = some i ∧ s = lbl ((n : Nat) : Int) := by
  intro k i s h
  unfold LBp at h
  cases hf : p.fn[k]? with
  | none => rw [hf] at h; cases h
  | some f =>
   rw [hf] at h
   obtain ⟨n, h1, h2, h3⟩ := labA_some h
   have := tgs_len f.bd
   have := (ok_body (hfn hf)).2.2.1
   exact ⟨f, n, rfl, h1, by omega, h2, h3⟩
 refine ⟨fun k i s h => ?_, fun k i j s hi hj => ?_, fun k x s h => ?_, fun k f x s hf hx h => ?_⟩
 ·obtain ⟨f, n, _, _, h1, _, rfl⟩ := hlb h
  exact lbl_ok (by omega)
 ·obtain ⟨f, n, h1, _, h3, h4, h5⟩ := hlb hi
  obtain ⟨f', n', h1', _, h3', h4', h5'⟩ := hlb hj
  rw [h1] at h1'
  injection h1' with e
  subst e
  rw [h5] at h5'
  have := lbl_inj (by omega) (by omega) h5'
  have : n = n' := by omega
  subst this
  rw [h4] at h4'
  injection h4'
 ·unfold NWp at h
  split at h
  ·rename_i hg
   obtain ⟨f, n, _, _, h1, _, rfl⟩ := hlb h
   exact ⟨lbl_ok (by omega), by rw [kind_goes hg]; decide⟩
  ·split at h
   ·rename_i hk
    cases hf : p.fn[x.2.1.toNat]? with
    | none => rw [hf] at h; cases h
    | some g =>
     rw [hf] at h
     injection h with h
     subst h
     exact ⟨((F.okF_iff g).1 (hfn hf)).1, by rw [row_func _ hk]; decide⟩
   ·cases h
 ·obtain ⟨b1, _, _, b4⟩ := ok_body (hfn hf)
  have ho := List.all_eq_true.1 b1 x hx
  unfold NWp at h
  split at h
  ·rename_i hg
   have hin := C.gB_in hg
   have h6 := b4 x hx
   rw [C.gN_yes hg] at h6
   exact .inl ⟨kind_goes hg, x.2.1.toNat, by omega, by omega, h⟩
  ·split at h
   ·rename_i hk
    have h3 := (O.ok_op ho).2.1
    rw [hk] at h3
    have hb := (O.in_bounds h3).2.1 (by decide)
    cases hf2 : p.fn[x.2.1.toNat]? with
    | none => rw [hf2] at h; cases h
    | some g =>
     rw [hf2] at h
     injection h with h
     subst h
     exact .inr ⟨row_func _ hk, x.2.1.toNat, by omega, find_nodup hnd hf2⟩
   ·cases h

/-! ### The listings as lines -/

abbrev LR := Bs × Int × Int
def noteB (i : Nat) : Bs := [32, 59, 32] ++ Lib.itoa (i : Int)
def insS (kind : Nat) (p : I.Im) (k i : Nat) (x : C.I3) : Bs := joinW (insL (if kind = 0 then NWp p k x else none) x) ++ (if kind = 2 then noteB i else [])
def itemR (kind : Nat) (p : I.Im) (t : List Nat) (k i : Nat) (x : C.I3) : List LR := (if kind = 0 then (match labA t i with | some s => [(s ++ [58], -1, -1)] | none => []) else []) ++ [(insS kind p k i x, (k : Int), (i : Int))]
def bodyR (kind : Nat) (p : I.Im) (t : List Nat) (k i : Nat) : List C.I3 → List LR
 | [] => []
 | x :: r => itemR kind p t k i x ++ bodyR kind p t k (i + 1) r
def plainR (w : List Bs) : LR := (joinW w, -1, -1)
def funcR (kind : Nat) (p : I.Im) (k : Nat) (f : F.Fu) : List LR := (headT f).map plainR ++ bodyR kind p (tgs f.bd) k 0 f.bd
def funcsR (kind : Nat) (p : I.Im) (k : Nat) : List F.Fu → List LR
 | [] => []
 | f :: r => funcR kind p k f ++ funcsR kind p (k + 1) r
def allR (kind : Nat) (p : I.Im) : List LR := p.sh.map (fun s => plainR (shapeT s)) ++ funcsR kind p 0 p.fn
def textOf (l : List Bs) : Bs := l.flatMap fun s => s ++ [10]
def textR (kind : Nat) (p : I.Im) : Bs := textOf ((allR kind p).map Prod.fst)
theorem textOf_append (a b : List Bs) : textOf (a ++ b) = textOf a ++ textOf b := by unfold textOf; rw [List.flatMap_append]
section
variable {p : I.Im} {k : Nat} {t : List Nat} (ht : ∀ i, LBp p k i = labA t i)
include ht
theorem body_r0 : ∀ (b : List C.I3) (i : Nat), (bodyR 0 p t k i b).map Prod.fst = (bodyL (LBp p k) (NWp p k) i b).map joinW
 | [], _ => rfl
 | x :: b, i => by
  rw [bodyR, bodyL, List.map_append, List.map_append, body_r0 b (i + 1)]
  congr 1
  unfold itemR itemL
  rw [List.map_append, List.map_append, ht i, if_pos rfl]
  congr 1
  ·cases labA t i <;> rfl
  ·show [insS 0 p k i x] = _
   unfold insS
   rw [if_pos rfl, if_neg (by decide), List.append_nil]
   rfl
end
theorem funcs_r0 {p : I.Im} : ∀ (q : List F.Fu) (k : Nat), (∀ j f, q[j]? = some f → p.fn[k + j]? = some f) → (funcsR 0 p k q).map Prod.fst = (funcsL (LBp p) (NWp p) k q).map joinW
 | [], _, _ => rfl
 | f :: q, k, h => by
  have h0 := h 0 f rfl
  rw [Nat.add_zero] at h0
  rw [funcsR, funcsL, List.map_append, List.map_append, funcs_r0 q (k + 1) (fun j g hg => by rw [show k + 1 + j = k + (j + 1) by omega]; exact h (j + 1) g hg)]
  congr 1
  unfold funcR funcL
  rw [List.map_append, List.map_append, body_r0 (t := tgs f.bd) (fun i => by unfold LBp; rw [h0]; rfl), List.map_map]
  rfl
theorem body_r1 (p : I.Im) (t : List Nat) (k : Nat) : ∀ (b : List C.I3) (i : Nat), (bodyR 1 p t k i b).map Prod.fst = (bodyL (LB0 k) (NW0 k) i b).map joinW
 | [], _ => rfl
 | x :: b, i => by
  rw [bodyR, bodyL, List.map_append, List.map_append, body_r1 p t k b (i + 1)]
  congr 1
  show [insS 1 p k i x] = _
  unfold insS
  rw [if_neg (by decide), if_neg (by decide), List.append_nil]
  rfl
theorem funcs_r1 (p : I.Im) : ∀ (q : List F.Fu) (k : Nat), (funcsR 1 p k q).map Prod.fst = (funcsL LB0 NW0 k q).map joinW
 | [], _ => rfl
 | f :: q, k => by
  rw [funcsR, funcsL, List.map_append, List.map_append, funcs_r1 p q (k + 1)]
  congr 1
  unfold funcR funcL
  rw [List.map_append, List.map_append, body_r1 p (tgs f.bd) k, List.map_map]
  rfl
/-! ### What is read of them -/

def SayL (l : List Bs) (ws : List (List Bs)) : Prop := l.map wordsL = ws ∧ ∀ s ∈ l, noLF s = true
theorem say_join {l : List (List Bs)} (h : ∀ w ∈ l, cleanW w = true) : SayL (l.map joinW) l := by
 refine ⟨?_, fun s hs => ?_⟩
 ·rw [List.map_map]
  conv => rhs; rw [← List.map_id l]
  refine List.map_congr_left fun w hw => ?_
  exact words_join ((cleanW_iff w).1 (h w hw)).2
 ·obtain ⟨w, hw, rfl⟩ := List.mem_map.1 hs
  exact join_noLF ((cleanW_iff w).1 (h w hw)).2
end Go.Proofs.YtgnooffedmeenaaGreatDoor.M.L

namespace Go.Proofs.YtgnooffedmeenaaGreatDoor.M.L
open Go.RowKit

section
variable {zs : List Int}
theorem keeps_iff {j : Nat} : Lib.keeps zs.toArray j = true ↔ j = 0 ∨ zs.toArray[j]! ≠ zs.toArray[j - 1]! := by unfold Lib.keeps; rw [decide_eq_true_iff]
theorem get_bang {j : Nat} (h : j < zs.length) : zs.toArray[j]! = zs[j] := by simp [h]
theorem compact_mem (x : Int) : x ∈ Lib.compact zs ↔ x ∈ zs := by
 unfold Lib.compact Lib.compactUpTo
 constructor
 ·intro h
  obtain ⟨j, hj, rfl⟩ := List.mem_map.1 h
  have hl := List.mem_range.1 (List.mem_filter.1 hj).1
  rw [get_bang hl]
  exact List.getElem_mem _
 ·intro h
  obtain ⟨j, hj, rfl⟩ := List.getElem_of_mem h
  have key : ∀ j (hj : j < zs.length), zs[j] ∈ ((List.range zs.length).filter (Lib.keeps zs.toArray)).map (zs.toArray[·]!) := by
   intro j
   induction j with
   | zero =>
    intro hj
    exact List.mem_map.2 ⟨0, List.mem_filter.2 ⟨List.mem_range.2 hj, keeps_iff.2 (.inl rfl)⟩, get_bang hj⟩
   | succ j ih =>
    intro hj
    by_cases e : zs[j + 1] = zs[j]
    ·rw [e]; exact ih (by omega)
    ·refine List.mem_map.2 ⟨j + 1, List.mem_filter.2 ⟨List.mem_range.2 hj, keeps_iff.2 (.inr ?_)⟩, get_bang hj⟩
     rw [get_bang hj, Nat.add_sub_cancel, get_bang (by omega)]
     exact e
  exact key j hj
theorem compact_asc (h : zs.Pairwise (· ≤ ·)) : (Lib.compact zs).Pairwise (· < ·) := by
 unfold Lib.compact Lib.compactUpTo
 rw [List.pairwise_map]
 have h1 : ((List.range zs.length).filter (Lib.keeps zs.toArray)).Pairwise (· < ·) := List.Pairwise.filter _ List.pairwise_lt_range
 refine List.Pairwise.imp_of_mem ?_ h1
 intro a b ha hb hab
 have hal := List.mem_range.1 (List.mem_filter.1 ha).1
 have hbl := List.mem_range.1 (List.mem_filter.1 hb).1
 have hk := keeps_iff.1 (List.mem_filter.1 hb).2
 have hle : ∀ i j (hi : i < zs.length) (hj : j < zs.length), i ≤ j → zs[i] ≤ zs[j] := fun i j hi hj hij => by
  rcases Nat.lt_or_eq_of_le hij with hlt | rfl
  ·exact (List.pairwise_iff_getElem.1 h) i j hi hj hlt
  ·exact Int.le_refl _
 show zs.toArray[a]! < zs.toArray[b]!
 rcases hk with rfl | hk
 ·omega
 ·have e1 := hle a (b - 1) hal (by omega) (by omega)
  have e2 := hle (b - 1) b (by omega) hbl (by omega)
  rw [get_bang hbl, get_bang (show b - 1 < zs.length by omega)] at hk
  rw [get_bang hal, get_bang hbl]
  omega
end
theorem asc_ext : ∀ (l r : List Int), l.Pairwise (· < ·) → r.Pairwise (· < ·) → (∀ x, x ∈ l ↔ x ∈ r) → l = r
 | [], [], _, _, _ => rfl
 | [], y :: r, _, _, h => by have := (h y).2 (by simp); cases this
 | x :: l, [], _, _, h => by have := (h x).1 (by simp); cases this
 | x :: l, y :: r, hl, hr, h => by
  rw [List.pairwise_cons] at hl hr
  have e : x = y := by
   have h1 : x ∈ y :: r := (h x).1 (by simp)
   have h2 : y ∈ x :: l := (h y).2 (by simp)
   rcases List.mem_cons.1 h1 with e | h1
   ·exact e
   ·rcases List.mem_cons.1 h2 with e | h2
    ·exact e.symm
    ·have := hl.1 y h2; have := hr.1 x h1; omega
  subst e
  congr 1
  refine asc_ext l r hl.2 hr.2 fun z => ⟨fun hz => ?_, fun hz => ?_⟩
  ·have h1 := (h z).1 (List.mem_cons_of_mem _ hz)
   rcases List.mem_cons.1 h1 with e | h1
   ·have := hl.1 z hz; omega
   ·exact h1
  ·have h1 := (h z).2 (List.mem_cons_of_mem _ hz)
   rcases List.mem_cons.1 h1 with e | h1
   ·have := hr.1 z hz; omega
   ·exact h1
theorem sort_asc (l : List Int) : (l.mergeSort fun x y => decide (x ≤ y)).Pairwise (· ≤ ·) := by
 have h := List.pairwise_mergeSort (le := fun x y : Int => decide (x ≤ y)) (fun a b c h1 h2 => by simp only [decide_eq_true_eq] at *; omega) (fun a b => by simp only [Bool.or_eq_true, decide_eq_true_eq]; omega) l
 exact h.imp fun h => of_decide_eq_true h

def goL (b : List C.I3) : List Int := b.filterMap fun x => if C.gB x = true then some (C.gN x) else none
def tgI (b : List C.I3) : List Int := Lib.compact ((goL b).mergeSort fun x y => decide (x ≤ y))
theorem goL_len (b : List C.I3) : (goL b).length ≤ b.length := List.length_filterMap_le _ _
theorem goL_mem {b : List C.I3} {t : Int} : t ∈ goL b ↔ ∃ x ∈ b, C.gB x = true ∧ C.gN x = t := by
 unfold goL
 rw [List.mem_filterMap]
 constructor
 ·rintro ⟨x, hx, h⟩
  split at h
  ·rename_i hg
   injection h with h
   exact ⟨x, hx, hg, h⟩
  ·cases h
 ·rintro ⟨x, hx, hg, h⟩
  exact ⟨x, hx, by rw [if_pos hg, h]⟩
theorem tgI_eq {b : List C.I3} (h : ∀ x ∈ b, C.gN x < (b.length : Int)) : tgI b = (tgs b).map fun i => ((i : Nat) : Int) := by
 refine asc_ext _ _ (compact_asc (sort_asc _)) ?_ fun t => ?_
 ·rw [List.pairwise_map]
  unfold tgs
  refine List.Pairwise.imp ?_ (List.Pairwise.filter _ List.pairwise_lt_range)
  intro a c hac
  show ((a : Nat) : Int) < (c : Int)
  omega
 ·unfold tgI
  rw [compact_mem, List.mem_mergeSort, goL_mem, List.mem_map]
  constructor
  ·rintro ⟨x, hx, hg, rfl⟩
   have h1 := C.gB_in hg
   have h2 := h x hx
   have h3 := C.gN_yes hg
   refine ⟨(C.gN x).toNat, tgs_mem.2 ⟨by omega, hit_of hx hg ?_⟩, ?_⟩
   ·rw [h3]; omega
   ·rw [h3]; omega
  ·rintro ⟨i, hi, rfl⟩
   obtain ⟨_, h2⟩ := tgs_mem.1 hi
   unfold hitB at h2
   rw [List.any_eq_true] at h2
   obtain ⟨x, hx, h3⟩ := h2
   rw [Bool.and_eq_true, decide_eq_true_iff] at h3
   exact ⟨x, hx, h3.1, by rw [C.gN_yes h3.1]; exact h3.2⟩
end Go.Proofs.YtgnooffedmeenaaGreatDoor.M.L

namespace Go.Proofs.YtgnooffedmeenaaGreatDoor.M.L
open Go.RowKit

theorem tgs_nodup (b : List C.I3) : (tgs b).Nodup := by unfold tgs; exact List.Pairwise.filter _ List.nodup_range
/-! ### How many lines -/

theorem all_noLF {p : I.Im} (hp : I.okI p = true) {kind : Nat} (hk : kind ≤ 1) : ∀ s ∈ (allR kind p).map Prod.fst, noLF s = true := by
 have h0 : (allR 0 p).map Prod.fst = (imgL (LBp p) (NWp p) p).map joinW := by
  unfold allR imgL
  rw [List.map_append, List.map_append, funcs_r0 p.fn 0 (fun j f h => by rw [Nat.zero_add]; exact h), List.map_map, List.map_map]
  rfl
 have h1 : (allR 1 p).map Prod.fst = (imgL LB0 NW0 p).map joinW := by
  unfold allR imgL
  rw [List.map_append, List.map_append, funcs_r1 p p.fn 0, List.map_map, List.map_map]
  rfl
 rcases (show kind = 0 ∨ kind = 1 by omega) with rfl | rfl
 ·rw [h0]; exact (say_join (img_cleanN (goodP hp) hp)).2
 ·rw [h1]; exact (say_join (img_cleanN (good0 p) hp)).2
end Go.Proofs.YtgnooffedmeenaaGreatDoor.M.L
