/-
  What write puts on a Tape: an operand's bytes. Conditions: the number is one of the kind; no more than 2^47 bytes in all.
  What Encode answers. Condition: numbers fit an int64.
  Show and Encode of any instruction; the law's own bytes, of, alive. Conditions: the listed package-level variables hold what their initialisers lay; numbers fit an int64.
  Plain mathematics of a number's bytes: big-endian digits, their order, what a first byte tells. No program's run is named here. No conditions.
  The keepers of a Reel's look: sum.add gathers bytes as one number, taken.set keeps a copy; told tells a width. Conditions: no more than 2^47 bytes.
  Plain mathematics of reading: what bytes say as a number, and when they are a number's bytes. No program's run is named here. No conditions.
  The law's own alive: the chapter's first examples hold. No conditions.
  The document's own Number and Bytes: a number's bytes by definition, as vary's. Conditions: a uint64; no more than 2^47 bytes.
  An instruction's bytes, and its text, tell it: plain mathematics. No program, no conditions.
  What the document's Encode answers. Conditions: the operands fit an int64.
  What Encode of layer code answers, the program's and the document's: a body's bytes. Conditions: the list lies in memory; numbers fit an int64.
  What the document's Bytes and Encode of layer code answer. Conditions: the list lies in memory; numbers fit an int64.
-/
import Derived.Laws.OwnMore
import Derived.Lib.Strings
import Derived.OwnWalk
import Derived.Test.YtonpplpfipfnfaaGreatDoorQ3
import Derived.Test.YtonpplpfipfnfaaGreatDoorQ4
import Derived.Test.YtonpplpfipfnfaaGreatDoorQ1
import Derived.Test.YtonpplpfipfnfaaGreatDoorQ2
namespace Go.Proofs.YtonpplpfipfnfaaGreatDoor.O
open Go.RowKit

/-- Block k holds cells. -/
def CellsAt (W : World) (k : Nat) : Prop := ∃ cs t f, W.heap[k]? = some (.cells cs t f)
theorem CellsAt.lt {W : World} {k : Nat} (h : CellsAt W k) : k < W.heap.size := by obtain ⟨_, _, _, h⟩ := h; exact (Array.getElem?_eq_some_iff.1 h).1
theorem Blk.cellsAt {w : World} {g : Nat} {t : TypeId} {cs : Array Value} (h : Blk w g t cs) : CellsAt w g := ⟨cs, t, (0, 0), h⟩
theorem own_cells {w : World} {O : Nat → Prop} {v : Value} {l : List UInt8} (h : V.OwnB w O v l) : ∀ g, v.ownBlock = some g → CellsAt w g := by
  intro g e
  rcases h.1.2 with ⟨rfl, _⟩ | ⟨g', cap, cur, rfl, _, hh, _⟩
  · simp [Value.ownBlock] at e
  · simp [Value.ownBlock] at e
    subst e
    exact ⟨_, _, _, hh⟩
/-- A Tape's blocks are cells. -/
theorem tape_cells {w : World} {bt : Nat} {O : Nat → Prop} {l : List UInt8} (h : V.TapeAt w bt O l) : V.TapeAt w bt (fun k => O k ∧ CellsAt w k) l := by
  rcases h.2 with ⟨hb, hl⟩ | ⟨bs, v, ho, hb, hs, hv⟩
  · exact ⟨⟨h.1, Blk.cellsAt hb⟩, .inl ⟨hb, hl⟩⟩
  · exact ⟨⟨h.1, Blk.cellsAt hb⟩, .inr ⟨bs, v, ⟨ho, Blk.cellsAt hs⟩, hb, hs, hv.1, fun g e => ⟨hv.2 g e, own_cells hv g e⟩⟩⟩
/-- A step that turns none of a Tape's blocks leaves it. -/
theorem tape_grown {w w' : World} {row : Option Nat} {bt : Nat} {O : Nat → Prop} {l : List UInt8} (h : V.TapeAt w bt O l) (hg : w.grownBy w' row) (hr : ∀ r, row = some r → ¬ O r) : V.TapeAt w' bt O l := by
  have hk : Keep (fun k => some k = row) w w' := ⟨hg.os, hg.tape, hg.output, hg.size, fun k hk hn => hg.block k hk hn⟩
  exact h.keep hk (fun k ho e => hr k e.symm ho)

/-- What write leaves. -/
def WroteR (w : World) (bt : Nat) (O : Nat → Prop) (xs : List UInt8) (e : Ending) (w' : World) : Prop := e = .returned (.tuple #[]) ∧ V.TapeAt w' bt (V.More O w w') xs ∧ Keep O w w'

set_option maxHeartbeats 1000000 in
theorem write_any (k n : Int) (sh gu : Value) (bt : Nat) (O : Nat → Prop) (l : List UInt8) (w : World) (hk : k ≠ 0) (hn : inK k n = true) (h64 : -9223372036854775808 ≤ n ∧ n ≤ 9223372036854775807)
    (h : V.TapeAt w bt O l) (hO : ∀ k, O k → k < w.heap.size) (hb : l.length + 9 ≤ 140737488355328) :
    Calls Tryz.prog 54 #[opV k sh gu, .pointer (some ⟨bt, 0, none⟩), .int .i64 n] w (WroteR w bt O (l ++ encP k n)) := by
  have hK := (Keep.refl NoB w).alloc (.cells #[.int .i64 k, .int .i64 (lo k), .int .i64 (hi k), sh, gu] 109)
  have h1 := h.keep hK (fun _ _ => id)
  have hO1 : ∀ j, O j → j < (w.alloc (.cells #[.int .i64 k, .int .i64 (lo k), .int .i64 (hi k), sh, gu] 109)).heap.size := by intro j hj; have := hO j hj; simp; omega
  have hsz : (w.alloc (.cells #[.int .i64 k, .int .i64 (lo k), .int .i64 (hi k), sh, gu] 109)).heap.size = w.heap.size + 1 := by simp
  by_cases h1k : k = 1
  · subst h1k
    have HE : Hid (encP 1 n = V.encL (V.zig n)) := rfl
    have HS := Lib.hid (V.tsigned_any _ bt O l n h64.1 h64.2 h1 hO1 hb)
    clear hk hn hO hb h h1 hO1
    unfold opV
    go_enter Tryz.func54, Tryz.ntmps54
    go_wp2_with fail
    refine HS.out.mono ?_
    rintro e w2 ⟨rfl, h2, k2⟩
    go_wp2
    go_end0
    rw [HE.out]
    refine ⟨rfl, h2.mono ?_, hK.mono (fun _ hf _ => hf.elim) |>.trans k2 (fun _ ho _ => ho)⟩
    rintro j (hj | ⟨hj1, hj2⟩) _
    · exact .inl hj
    · exact .inr ⟨by omega, hj2⟩
  · have hn0 : 0 ≤ n := by
      have := (of_decide_eq_true hn).1
      unfold lo at this
      rw [if_neg h1k] at this
      split at this <;> omega
    obtain ⟨m, rfl⟩ := Int.eq_ofNat_of_zero_le hn0
    have HE : Hid (encP k m = V.encL m) := by show _ = _; unfold encP; rw [if_neg hk, if_neg h1k]; rfl
    have HS := Lib.hid (V.tnumber_any _ bt O l m h1 hO1 hb)
    have q1 : (k == 1) = false := by rw [beq_eq_false_iff_ne]; exact h1k
    have hm : (m : Int) ≤ 9223372036854775807 := h64.2
    have hw : IntKind.u64.wrap (m : Int) = (m : Int) := by simp [IntKind.wrap, IntKind.bits, IntKind.signed]; omega
    clear hk hn hO hb h h1 hO1 h1k h64
    unfold opV
    go_enter Tryz.func54, Tryz.ntmps54
    go_wp2_with fail
    refine HS.out.mono ?_
    rintro e w2 ⟨rfl, h2, k2⟩
    go_wp2
    go_end0
    rw [HE.out]
    refine ⟨rfl, h2.mono ?_, hK.mono (fun _ hf _ => hf.elim) |>.trans k2 (fun _ ho _ => ho)⟩
    rintro j (hj | ⟨hj1, hj2⟩) _
    · exact .inl hj
    · exact .inr ⟨by omega, hj2⟩

end Go.Proofs.YtonpplpfipfnfaaGreatDoor.O

namespace Go.Proofs.YtonpplpfipfnfaaGreatDoor.O
open Go.RowKit Go.Shelf
attribute [local go_sem] Oper.semAt_some

/-- The bytes of the operands that have come. -/
def bytesP (l : List (Int × Int)) : List UInt8 := l.flatMap fun x => encP x.1 x.2
theorem bytesP_snoc (l : List (Int × Int)) (x : Int × Int) : bytesP (l ++ [x]) = bytesP l ++ encP x.1 x.2 := by unfold bytesP; simp
theorem encP_0 (n : Int) : encP 0 n = [] := rfl
theorem bytesP_parts (ka kb a b : Int) (h : ka = 0 → kb = 0) : bytesP (partsL ka kb a b) = encP ka a ++ encP kb b := by
  unfold partsL bytesP
  split
  · rename_i hz
    rw [hz, h hz]; rfl
  · split
    · rename_i h2; rw [h2]; simp [encP_0]
    · simp
theorem encP_len (k n : Int) : (encP k n).length ≤ 9 := by
  unfold encP
  split
  · exact Nat.zero_le _
  · split <;> exact V.encL_len _
theorem bytesP_len : ∀ (l : List (Int × Int)), (bytesP l).length ≤ 9 * l.length
  | [] => Nat.zero_le _
  | x :: l => by
    have h1 := encP_len x.1 x.2
    have h2 := bytesP_len l
    have e : bytesP (x :: l) = encP x.1 x.2 ++ bytesP l := by unfold bytesP; simp
    rw [e]
    simp
    omega
theorem parts_in {ka kb a b : Int} {x : Int × Int} (h : x ∈ partsL ka kb a b) (ha : inK ka a = true) (hb : inK kb b = true) : inK x.1 x.2 = true := by
  unfold partsL at h
  split at h
  · cases h
  · split at h
    · simp at h; subst h; exact ha
    · simp at h
      rcases h with rfl | rfl
      · exact ha
      · exact hb

/-- What a Tape in the loop is. -/
def TapeI (w : World) (bt Bx Br : Nat) (xs : List UInt8) (op a b : Int) (r : Row) (W : World) : Prop :=
  ∃ O, V.TapeAt W bt O xs ∧ (∀ k, O k → CellsAt W k ∧ w.heap.size ≤ k ∧ k ≠ Bx ∧ k ≠ Br) ∧ Blk W Bx 46 #[.int .i64 op, .int .i64 a, .int .i64 b] ∧ Blk W Br 95 (cells9 r) ∧ Keep NoB w W
theorem tapeI_own {β : Type} {B : Nat} {w : World} (hB : w.heap.size ≤ B) (bt Bx Br : Nat) (xs : β → List UInt8) (op a b : Int) (r : Row) : OwnFrom B (fun s W => TapeI w bt Bx Br (xs s) op a b r W) := by
  rintro s X Y row ⟨O, h1, h2, h3, h4, h5⟩ hg hrow
  have hO : ∀ k, row = some k → ¬ O k := fun k e ho => by
    obtain ⟨cs, t, f, hc⟩ := (h2 k ho).1
    obtain ⟨_, o, ho', hn⟩ := hrow k e
    rw [hc] at ho'; cases ho'; cases hn
  refine ⟨O, tape_grown h1 hg hO, fun k ho => ⟨?_, (h2 k ho).2⟩, blk_own (β := Unit) _ _ _ (fun _ => _) () _ _ _ h3 hg hrow, blk_own (β := Unit) _ _ _ (fun _ => _) () _ _ _ h4 hg hrow, keep_own (β := Unit) NoB hB () _ _ _ h5 hg hrow⟩
  obtain ⟨cs, t, f, hc⟩ := (h2 k ho).1
  exact ⟨cs, t, f, (hg.block k (Array.getElem?_eq_some_iff.1 hc).1 (fun e => hO k e.symm ho)).trans hc⟩
theorem tapeI_keep {w : World} {bt Bx Br : Nat} {xs : List UInt8} {op a b : Int} {r : Row} {W W' : World} (h : TapeI w bt Bx Br xs op a b r W) (hk : Keep NoB W W') : TapeI w bt Bx Br xs op a b r W' :=
  tapeI_own (β := Unit) (Nat.le_refl _) bt Bx Br (fun _ => xs) op a b r () W W' none h hk.grows (fun _ e => by cases e)

/-- A round: the Tape with so much more. -/
theorem tapeI_wrote {w : World} {bt Bx Br B : Nat} {xs ys : List UInt8} {op a b : Int} {r : Row} {W W' : World} {O : Nat → Prop} (hO : ∀ k, O k → CellsAt W k ∧ w.heap.size ≤ k ∧ k ≠ Bx ∧ k ≠ Br)
    (h3 : Blk W Bx 46 #[.int .i64 op, .int .i64 a, .int .i64 b]) (h4 : Blk W Br 95 (cells9 r)) (h5 : Keep NoB w W) (ht : V.TapeAt W' bt (V.More O W W') ys) (hk : Keep O W W') (hxy : ys = xs) :
    TapeI w bt Bx Br xs op a b r W' ∧ KeepsFrom B W W' := by
  subst hxy
  have hx := h3.lt
  have hr := h4.lt
  refine ⟨⟨_, tape_cells ht, ?_, h3.keep hk (fun h => (hO _ h).2.2.1 rfl), h4.keep hk (fun h => (hO _ h).2.2.2 rfl), h5.trans hk (fun k h hl => by have := (hO k h).2.1; omega)⟩, ?_⟩
  · rintro k ⟨h | ⟨h, _⟩, hc⟩
    · exact ⟨hc, (hO k h).2⟩
    · have := h5.size
      exact ⟨hc, by omega, by omega, by omega⟩
  · refine ⟨hk.size, fun k o _ hh hn => (hk.block k (Array.getElem?_eq_some_iff.1 hh).1 (fun ho => ?_)).trans hh⟩
    obtain ⟨cs, t, f, hc⟩ := (hO k ho).1
    rw [hh] at hc; cases hc; cases hn

/-- The activation at the head of the loop's body. -/
def encAct (op a b : Int) (r : Row) (g h q : Nat) (x : Part) (Bo : Nat) : Act :=
  { tmps := #[instV op a b, .pointer (some ⟨g, 0, none⟩), .slice none 0 0, .int .i64 0, .pointer (some ⟨h, 0, none⟩), .bool true, .pointer (some ⟨h + 1, 0, none⟩), .pointer (some ⟨Bo, 0, none⟩), .int .i64 x.n, .tuple #[rowV r, .bool true],
      instV op a b, .tuple #[rowV r, .bool true], rowV r, .bool true, .bool true, .bool false, .pointer (some ⟨g, 0, none⟩), .int .i64 op, .int .u64 op, .pointer (some ⟨h + 1, 0, none⟩), rowV r, instV op a b,
      .func (.func 77) #[] #[.pointer (some ⟨q + 1, 0, none⟩), .pointer (some ⟨q, 0, none⟩)], .agg #[.int .i64 x.k, .int .i64 (lo x.k), .int .i64 (hi x.k), x.sh, x.gu], .int .i64 x.n,
      undef, undef, undef, undef], defers := [] }

set_option maxRecDepth 100000 in
set_option maxHeartbeats 4000000 in
theorem encode_yes (op a b : Int) (w : World) (hok : okI op a b = true) (ha : I64 a) (hb : I64 b) :
    Calls Tryz.prog 32 #[instV op a b] w fun e w' => ∃ v, e = .returned (.tuple #[v, .int .i64 0]) ∧ V.OwnB w' (Fresh w) v (bytesI op a b) ∧ Keep NoB w w' := by
  obtain ⟨r, hr⟩ : ∃ r, rowAt op = r := ⟨_, rfl⟩
  have hka := kinds_ok op
  have hkn := kinds_none op
  obtain ⟨ho, hia, hib⟩ := ok_op hok
  obtain ⟨m, rfl⟩ := Int.eq_ofNat_of_zero_le (isOp_yes ho).1
  have hm : m < 30 := by have := (isOp_yes ho).2; omega
  have HT : Hid (bytesI m a b = V.encL m ++ bytesP (partsL r.ka r.kb a b)) := by show _ = _; unfold bytesI; rw [hr, bytesP_parts _ _ _ _ (hr ▸ hkn)]; rfl
  have HR := Lib.hid (fun w => rowFor_any m a b r w (by rw [rowR_ok hok]; exact hr))
  rw [hr] at hka hia hib
  rw [hok] at HR
  have HA := Lib.hid (And.intro ha hia)
  have HB := Lib.hid (And.intro hb hib)
  have hw64 : IntKind.u64.wrap (m : Int) = (m : Int) := by simp [IntKind.wrap, IntKind.bits, IntKind.signed]; omega
  clear hok hr hkn ha hb ho hia hib
  refine (callsIn_wide (n := 4)).1 ?_
  refine callsIn_of_wp_marks Tryz.func32 rfl trivial ?_ rfl
  simp only [Tryz.ntmps32, List.size_toArray, List.length_cons, List.length_nil, Nat.reduceAdd, Nat.reduceSub, Array.replicate_succ, Array.replicate_zero, List.push_toArray, List.append_toArray, List.nil_append, List.cons_append]
  gi_wp2_with (refine ⟨trivial, ?_⟩; gi_at_call 49; refine (callsIn_wide.2 (HR.out _)).mono ?_; rintro e w1 ⟨rfl, k1⟩; have bi := (Blk.new w 46 #[.int .i64 m, .int .i64 a, .int .i64 b]).keep k1 id; have i0 : ∀ o o', ((w1.alloc o).alloc o').cell? ⟨w.heap.size, 0, none⟩ = some (.int .i64 m) := fun o o' => ((bi.alloc o).alloc o').cell 0)
  have ht := V.TapeAt.new (w1.alloc (.cells (cells9 r) 95))
  rw [World.size_alloc] at ht
  have hl0 := V.encL_len m
  refine ⟨trivial, ?_⟩
  refine (callsIn_wide.2 (V.tnumber_any _ (w1.heap.size + 1) _ [] m ht (fun k e => by subst e; simp) (by simp))).mono ?_
  rintro e w2 ⟨rfl, ht2, k2⟩
  have hsz : w.heap.size < w1.heap.size := by have := k1.size; simp at this; omega
  have hs2 : w1.heap.size + 1 < w2.heap.size := by have := k2.size; simp at this; omega
  have bi2 := ((bi.alloc (.cells (cells9 r) 95)).alloc (.cells #[.pointer none, .int .i64 0] 67)).keep k2 (by omega)
  have br2 := ((Blk.new w1 95 (cells9 r)).alloc (.cells #[.pointer none, .int .i64 0] 67)).keep k2 (by omega)
  have hK2 : Keep NoB w w2 := ((keepN ((Keep.refl NoB w).alloc _) k1).alloc _ |>.alloc _).trans k2 (fun k e hl => by omega)
  obtain ⟨c0, c1, c2, c3, c4, c5, c6, c7, c8⟩ := blk9 br2
  have d0 : w2.cell? ⟨w.heap.size, 0, none⟩ = some (.int .i64 m) := bi2.cell 0
  have d1 : w2.cell? ⟨w.heap.size, 1, none⟩ = some (.int .i64 a) := bi2.cell 1
  have d2 : w2.cell? ⟨w.heap.size, 2, none⟩ = some (.int .i64 b) := bi2.cell 2
  have HT2 := Lib.hid ht2
  clear ht2 ht bi i0 bi2 br2 k1 k2
  gi_wp2_with (refine ⟨trivial, ?_⟩; gi_at_call 53; refine (callsIn_wide.2 (parts_any r m a b _)).mono ?_; rintro e w3 ⟨rfl, br, bx, k3⟩)
  have hK3 : Keep NoB w w3 := keepN hK2 k3
  have hI0 : TapeI w (w1.heap.size + 1) (w2.heap.size + 1) w2.heap.size (V.encL m ++ bytesP (([] : List Part).map Part.key)) m a b r w3 := by
    have h1 := tape_cells HT2.out
    have h2 := h1.keep k3 (fun _ _ => id)
    refine ⟨_, by simpa [bytesP] using h2, ?_, bx, br, hK3⟩
    rintro k ⟨hk, hc⟩
    have hlt := hc.lt
    obtain ⟨cs, t, f, hh⟩ := hc
    refine ⟨⟨cs, t, f, (k3.block k hlt id).trans hh⟩, ?_, by omega, by omega⟩
    rcases hk with rfl | ⟨hk, _⟩
    · omega
    · simp at hk; omega
  clear c0 c1 c2 c3 c4 c5 c6 c7 c8 d0 d1 d2 HT2 hs2 hw64 HR
  have hI : OwnFrom w3.heap.size (fun (pre : List Part) W => TapeI w (w1.heap.size + 1) (w2.heap.size + 1) w2.heap.size (V.encL m ++ bytesP (pre.map Part.key)) m a b r W) :=
    tapeI_own hK3.size (w1.heap.size + 1) (w2.heap.size + 1) w2.heap.size (fun pre : List Part => V.encL m ++ bytesP (pre.map Part.key)) m a b r
  refine wpIn_rangeFunc_brings (m := 2) (gf := 77) (lb := #[.pointer (some ⟨w2.heap.size + 1, 0, none⟩), .pointer (some ⟨w2.heap.size, 0, none⟩)]) rfl (enters_of Tryz.func77 (by kernel_rfl) rfl)
    (parts1_in 2 r m a b (w2.heap.size + 1) w2.heap.size ⟨hka.1, hka.2.1⟩ hka.2.2 (fun pre W => TapeI w (w1.heap.size + 1) (w2.heap.size + 1) w2.heap.size (V.encL m ++ bytesP (pre.map Part.key)) m a b r W)
      (fun pre W ⟨_, _, _, h, _⟩ => h) (fun pre W ⟨_, _, _, _, h, _⟩ => h)) (fun _ => rfl) hI hI0
    (fun pre x a' W => TapeI w (w1.heap.size + 1) (w2.heap.size + 1) w2.heap.size (V.encL m ++ bytesP (pre.map Part.key)) m a b r W ∧ (∃ post, pre.map Part.key ++ x.key :: post = partsL r.ka r.kb a b) ∧ ∃ Bo, Blk W Bo 109 #[.int .i64 x.k, .int .i64 (lo x.k), .int .i64 (hi x.k), x.sh, x.gu] ∧ a' = encAct m a b r w.heap.size w1.heap.size w2.heap.size x Bo) ?hax ?assign ?body ?done
  case hax =>
    rintro pre x a' s X Y row ⟨h1, h2, Bo, h5, h6⟩ hg hrow
    exact ⟨hI _ _ _ _ h1 hg hrow, h2, Bo, blk_own (β := Unit) _ _ _ (fun _ => _) () _ _ _ h5 hg hrow, h6⟩
  case assign =>
    rintro l pre ⟨k, n, sh, gu⟩ W hi hen
    have hk0 := (part_facts hen HA.out.1 HB.out.1).1
    have hen2 := Lib.hid hen.1
    have hi2 := Lib.hid hi
    rcases hen.2 with ⟨h0, _⟩ | ⟨_, h1, h2⟩ | ⟨_, b1, c1, h1, h2, _, _⟩
    · exact absurd h0 hk0
    all_goals
      simp only at h1 h2
      subst h1 h2
      clear hen hi
      dsimp only [partE, opV]
      gi_wp2
      exact ⟨⟨tapeI_keep hi2.out ((Keep.refl NoB W).alloc _), hen2.out, W.heap.size, Blk.new W _ _, rfl⟩, keepsFrom_keep ((Keep.refl NoB W).alloc _)⟩
  case body =>
    rintro l pre ⟨k, n, sh, gu⟩ a' W ⟨⟨O, ht, hO, bx2, br2, hKW⟩, hen, Bo, bo, rfl⟩
    obtain ⟨post, hp⟩ := hen
    have hmem : ((k, n) : Int × Int) ∈ partsL r.ka r.kb a b := by rw [← hp]; simp [Part.key]
    have hk0 : k ≠ 0 := (parts_mem hmem).1
    have hn64 : -9223372036854775808 ≤ n ∧ n ≤ 9223372036854775807 := by
      rcases (parts_mem hmem).2 with e | e
      · simp only at e; rw [e]; exact HA.out.1
      · simp only at e; rw [e]; exact HB.out.1
    have hin : inK k n = true := parts_in hmem HA.out.2 HB.out.2
    have hl1 := bytesP_len (pre.map Part.key)
    have hl2 := congrArg List.length hp
    have hl3 := parts_len r.ka r.kb a b
    simp at hl1 hl2
    have HC := Lib.hid (write_any k n sh gu (w1.heap.size + 1) O (V.encL m ++ bytesP (pre.map Part.key)) W hk0 hin hn64 ht (fun j hj => (hO j hj).1.lt) (by rw [List.length_append]; omega))
    have o0 : W.cell? ⟨Bo, 0, none⟩ = some (.int .i64 k) := bo.cell 0
    have o1 : W.cell? ⟨Bo, 1, none⟩ = some (.int .i64 (lo k)) := bo.cell 1
    have o2 : W.cell? ⟨Bo, 2, none⟩ = some (.int .i64 (hi k)) := bo.cell 2
    have o3 : W.cell? ⟨Bo, 3, none⟩ = some sh := bo.cell 3
    have o4 : W.cell? ⟨Bo, 4, none⟩ = some gu := bo.cell 4
    have HX : Hid ((V.encL m ++ bytesP (pre.map Part.key)) ++ encP k n = V.encL m ++ bytesP (pre.map Part.key ++ [(⟨k, n, sh, gu⟩ : Part).key])) := by
      show _ = _
      rw [bytesP_snoc, List.append_assoc]
      rfl
    have HE := Lib.hid (fun (W' : World) (h1 : V.TapeAt W' (w1.heap.size + 1) (V.More O W W') ((V.encL m ++ bytesP (pre.map Part.key)) ++ encP k n)) (h2 : Keep O W W') => tapeI_wrote (B := w3.heap.size) hO bx2 br2 hKW h1 h2 HX.out)
    clear hp hmem hk0 hn64 hin hl1 hl2 hl3 ht hO bx2 br2 hKW bo HX
    dsimp only [encAct]
    gi_wp2_with (refine ⟨trivial, ?_⟩; gi_at_call 54; refine (CallsIn.inRound l (callsIn_wide.2 HC.out)).mono ?_; rintro e w4 ⟨rfl, h4, k4⟩)
    exact HE.out _ h4 k4
  case done =>
    rintro D xs W hD hS ⟨O, ht, hO, _, _, hKW⟩ hK
    rw [hS, ← HT.out] at ht
    have hlen : (bytesI m a b).length ≤ 140737488355328 := by
      have h1 := bytesP_len (partsL r.ka r.kb a b)
      have h2 := parts_len r.ka r.kb a b
      rw [HT.out, List.length_append]; omega
    have HC := Lib.hid (V.all_any W (w1.heap.size + 1) O (bytesI m a b) ht hlen)
    clear ht hO hlen
    gi_wp2_with (refine ⟨trivial, ?_⟩; gi_at_call 31; refine (callsIn_wide.2 HC.out).mono ?_; rintro e w4 ⟨v, rfl, h4, k4⟩)
    have hK4 := (k4.block _ (Array.getElem?_eq_some_iff.1 hK).1 id).trans hK
    refine ⟨by simp, .inl ⟨_, _, rfl, run_takeDeferred hK4, ?_⟩⟩
    exact ⟨_, results_tmp2 rfl _ _ _, v, rfl, ⟨ownsRow_putObj h4.1 _ hK4 rfl, fun g e => Nat.le_trans hKW.size (h4.2 g e)⟩, Keep_putObj (keepN hKW k4) (Nat.le_trans hK3.size hD)⟩

end Go.Proofs.YtonpplpfipfnfaaGreatDoor.O

namespace Go.Proofs.YtonpplpfipfnfaaGreatDoor.O
open Go.RowKit

set_option maxHeartbeats 1000000 in
theorem show_any (op a b : Int) (w : World) (ha : I64 a) (hb : I64 b) (hL : LaidO w) :
    Calls Tryz.prog 68 #[instV op a b] w fun e w' => e = .returned (.string (str (showI op a b))) ∧ Keep NoB w w' := by
  cases hok : okI op a b
  · have hK := (Keep.refl NoB w).alloc (.cells #[.int .i64 op, .int .i64 a, .int .i64 b] 46)
    have HR := Lib.hid (fun w => rowFor_any op a b row0 w (rowR_no hok))
    rw [hok] at HR
    have HX : Hid (showI op a b = []) := by show _ = _; unfold showI; rw [if_neg (by rw [hok]; decide)]
    clear hok ha hb hL
    go_enter Tryz.func68, Tryz.ntmps68
    go_wp2_with fail
    refine (HR.out _).mono ?_
    rintro e w1 ⟨rfl, k1⟩
    go_wp2
    go_ret
    exact ⟨by rw [HX.out]; rfl, (keepN hK k1).alloc _⟩
  · refine (show_yes op a b w hok ha hb hL).mono ?_
    rintro e w' ⟨d, rfl, hd, hk⟩
    exact ⟨by rw [hd.out]; unfold showI; rw [if_pos hok], hk⟩

set_option maxHeartbeats 1000000 in
theorem encode_any (op a b : Int) (w : World) (ha : I64 a) (hb : I64 b) :
    Calls Tryz.prog 32 #[instV op a b] w fun e w' => ∃ v, e = .returned (.tuple #[v, .int .i64 (chk op a b)]) ∧ V.OwnB w' (Fresh w) v (encI op a b) ∧ Keep NoB w w' := by
  cases hok : okI op a b
  · have hK := (Keep.refl NoB w).alloc (.cells #[.int .i64 op, .int .i64 a, .int .i64 b] 46)
    have HR := Lib.hid (fun w => rowFor_any op a b row0 w (rowR_no hok))
    rw [hok] at HR
    have HX : Hid (encI op a b = [] ∧ chk op a b = 40) := ⟨by unfold encI; rw [if_neg (by rw [hok]; decide)], by unfold chk; rw [if_neg (by rw [hok]; decide)]⟩
    clear hok ha hb
    go_enter Tryz.func32, Tryz.ntmps32
    go_wp2_with fail
    refine (HR.out _).mono ?_
    rintro e w1 ⟨rfl, k1⟩
    go_wp2
    go_ret2
    rw [HX.out.1, HX.out.2]
    exact ⟨_, rfl, V.OwnB.nil _ _, (keepN hK k1).alloc _⟩
  · refine (encode_yes op a b w hok ha hb).mono ?_
    rintro e w' ⟨v, rfl, hv, hk⟩
    refine ⟨v, ?_, ?_, hk⟩
    · unfold chk; rw [if_pos hok]
    · unfold encI; rw [if_pos hok]; exact hv

theorem show_at (op a b : Int) (s : List UInt8) (w : World) (hs : showI op a b = s) (ha : I64 a) (hb : I64 b) (hL : LaidO w) :
    Calls Tryz.prog 68 #[instV op a b] w fun e w' => e = .returned (.string (str s)) ∧ Keep NoB w w' := by subst hs; exact show_any op a b w ha hb hL
theorem al_0 : showI 1 (-5) 0 = [105, 110, 116, 32, 45, 53] := by decide +kernel
theorem al_1 : showI 9 2 1 = [103, 101, 116, 32, 50, 32, 73] := by decide +kernel
theorem al_2 : showI 15 3 0 = [98, 105, 110, 32, 100, 105, 118] := by decide +kernel
theorem al_3 : showI 19 17 0 = [106, 122, 32, 49, 55] := by decide +kernel
theorem al_4 : encI 1 (-5) 0 = [1, 9] := by decide +kernel
theorem al_5 : encI 9 2 1 = [9, 2, 1] := by decide +kernel

end Go.Proofs.YtonpplpfipfnfaaGreatDoor.O

namespace Go.Proofs.YtonpplpfipfnfaaGreatDoor.V
open Go.RowKit

/-- The k lowest digits, the highest first. -/
def be : Nat → Nat → List UInt8
  | 0, _ => []
  | k + 1, m => UInt8.ofNat (m / 256 ^ k) :: be k m

theorem be_len : ∀ k m, (be k m).length = k
  | 0, _ => rfl
  | k + 1, m => by simp [be, be_len k m]

theorem u8_eq {x y : Nat} (h : x % 256 = y % 256) : UInt8.ofNat x = UInt8.ofNat y := by
  apply UInt8.toNat_inj.1
  rw [UInt8.toNat_ofNat', UInt8.toNat_ofNat']
  exact h

theorem be_add : ∀ k m c, be k (m + c * 256 ^ k) = be k m
  | 0, _, _ => rfl
  | k + 1, m, c => by
    have e : m + c * 256 ^ (k + 1) = m + (c * 256) * 256 ^ k := by rw [Nat.pow_succ]; ac_rfl
    simp only [be]
    rw [e, be_add k m (c * 256), Nat.add_mul_div_right _ _ (Nat.pow_pos (by omega))]
    congr 1
    exact u8_eq (by omega)
theorem be_mod (k m : Nat) : be k (m % 256 ^ k) = be k m := by
  have h := be_add k (m % 256 ^ k) (m / 256 ^ k)
  rw [← h, Nat.mod_add_div' m (256 ^ k)]

theorem u8_lt {x y : Nat} (hx : x < 256) (hy : y < 256) : (UInt8.ofNat x < UInt8.ofNat y) ↔ x < y := by
  rw [UInt8.lt_iff_toNat_lt, UInt8.toNat_ofNat', UInt8.toNat_ofNat', Nat.mod_eq_of_lt (by simpa using hx), Nat.mod_eq_of_lt (by simpa using hy)]
theorem u8_inj {x y : Nat} (hx : x < 256) (hy : y < 256) : (UInt8.ofNat x = UInt8.ofNat y) ↔ x = y := by
  rw [← UInt8.toNat_inj, UInt8.toNat_ofNat', UInt8.toNat_ofNat', Nat.mod_eq_of_lt (by simpa using hx), Nat.mod_eq_of_lt (by simpa using hy)]

theorem be_less : ∀ k a b, a < 256 ^ k → b < 256 ^ k → Op.bytesLess (be k a) (be k b) = decide (a < b)
  | 0, a, b, ha, hb => by
    have : ¬ a < b := by simp at ha hb; omega
    simp [be, Op.bytesLess, this]
  | k + 1, a, b, ha, hb => by
    have hp : 0 < 256 ^ k := Nat.pow_pos (by omega)
    have ha' : a / 256 ^ k < 256 := by rw [Nat.div_lt_iff_lt_mul hp]; rw [Nat.pow_succ] at ha; omega
    have hb' : b / 256 ^ k < 256 := by rw [Nat.div_lt_iff_lt_mul hp]; rw [Nat.pow_succ] at hb; omega
    have ea := Nat.div_add_mod a (256 ^ k)
    have eb := Nat.div_add_mod b (256 ^ k)
    have ra := Nat.mod_lt a hp
    have rb := Nat.mod_lt b hp
    simp only [be, Op.bytesLess]
    rw [← be_mod k a, ← be_mod k b, be_less k _ _ ra rb]
    rw [Bool.eq_iff_iff]
    simp only [Bool.or_eq_true, decide_eq_true_eq, Bool.and_eq_true, beq_iff_eq, u8_lt ha' hb', u8_inj ha' hb']
    generalize a / 256 ^ k = qa at *
    generalize b / 256 ^ k = qb at *
    generalize a % 256 ^ k = ma at *
    generalize b % 256 ^ k = mb at *
    generalize 256 ^ k = p at *
    constructor
    · rintro (h | ⟨h, h'⟩)
      · have : p * (qa + 1) ≤ p * qb := Nat.mul_le_mul_left _ h
        rw [Nat.mul_add] at this; omega
      · subst h; omega
    · intro h
      rcases Nat.lt_trichotomy qa qb with h1 | h1 | h1
      · exact .inl h1
      · subst h1; exact .inr ⟨rfl, by omega⟩
      · exfalso
        have : p * (qb + 1) ≤ p * qa := Nat.mul_le_mul_left _ h1
        rw [Nat.mul_add] at this; omega

theorem be_inj (k a b : Nat) (ha : a < 256 ^ k) (hb : b < 256 ^ k) (h : be k a = be k b) : a = b := by
  have h1 := be_less k a b ha hb
  have h2 := be_less k b a hb ha
  rw [h] at h1
  rw [h] at h2
  have h3 : Op.bytesLess (be k b) (be k b) = decide (b < b) := be_less k b b hb hb
  rw [h3] at h1 h2
  simp at h1 h2
  omega

/-- A number with its mark. -/
def nb (n : Nat) : Nat := mk (wd n) * 256 ^ (wd n - 1) + n

theorem or_add (i x y : Nat) (hx : x < 2 ^ i) (hy : y % 2 ^ i = 0) : x ||| y = y + x := by
  rw [Nat.or_comm]; exact nat_join i y x hy hx

theorem head_eq (x y m i : Nat) (hx : x < 2 ^ i) (hm : m % 2 ^ i = 0) (hs : m + x < 256) (hy : y % 256 = m + x) : UInt8.ofNat x ||| UInt8.ofNat m = UInt8.ofNat y := by
  apply UInt8.toNat_inj.1
  rw [UInt8.toNat_or, UInt8.toNat_ofNat', UInt8.toNat_ofNat', UInt8.toNat_ofNat', Nat.mod_eq_of_lt (show x < 2 ^ 8 by omega), Nat.mod_eq_of_lt (show m < 2 ^ 8 by omega), or_add i x m hx hm]
  exact hy.symm

theorem mk_vals : mk 1 = 0 ∧ mk 2 = 128 ∧ mk 3 = 192 ∧ mk 4 = 224 ∧ mk 5 = 240 ∧ mk 6 = 248 ∧ mk 7 = 252 ∧ mk 8 = 254 ∧ mk 9 = 255 := by decide

theorem encL_be (n : Nat) (hn : n < 18446744073709551616) : encL n = be (wd n) (nb n) := by
  obtain ⟨m1, m2, m3, m4, m5, m6, m7, m8, m9⟩ := mk_vals
  have hw1 := wd_pos n
  have hw9 := wd_le n
  have hlt := wd_lt n
  have hc : wd n = 1 ∨ wd n = 2 ∨ wd n = 3 ∨ wd n = 4 ∨ wd n = 5 ∨ wd n = 6 ∨ wd n = 7 ∨ wd n = 8 ∨ wd n = 9 := by omega
  have ed : down 9 = [8, 7, 6, 5, 4, 3, 2, 1, 0] := by decide
  unfold encL encF nb
  rw [ed]
  rcases hc with h | h | h | h | h | h | h | h | h
  all_goals
    rw [h] at hlt
    simp [encB, dgt, be, h, m1, m2, m3, m4, m5, m6, m7, m8, m9]
  · exact u8_eq (by omega)
  all_goals
    repeat' apply And.intro
  all_goals first
    | exact u8_eq (by omega)
    | exact head_eq _ _ 128 6 (by omega) (by decide) (by omega) (by omega)
    | exact head_eq _ _ 192 5 (by omega) (by decide) (by omega) (by omega)
    | exact head_eq _ _ 224 4 (by omega) (by decide) (by omega) (by omega)
    | exact head_eq _ _ 240 3 (by omega) (by decide) (by omega) (by omega)
    | exact head_eq _ _ 248 2 (by omega) (by decide) (by omega) (by omega)
    | exact head_eq _ _ 252 1 (by omega) (by decide) (by omega) (by omega)
    | exact head_eq _ _ 254 0 (by omega) (by decide) (by omega) (by omega)
    | exact head_eq _ _ 255 0 (by omega) (by decide) (by omega) (by omega)

theorem encL_length (n : Nat) (hn : n < 18446744073709551616) : (encL n).length = wd n := by rw [encL_be n hn, be_len]

/-- The first byte, as a number. -/
def hd (n : Nat) : Nat := mk (wd n) + n / 256 ^ (wd n - 1)

theorem nb_div (n : Nat) : nb n / 256 ^ (wd n - 1) = hd n := by
  unfold nb hd
  rw [Nat.add_comm, Nat.add_mul_div_right _ _ (Nat.pow_pos (by omega)), Nat.add_comm]

theorem hd_rng (n : Nat) (hn : n < 18446744073709551616) : mk (wd n) ≤ hd n ∧ hd n < 256 ∧ (wd n < 9 → hd n < mk (wd n + 1)) := by
  obtain ⟨m1, m2, m3, m4, m5, m6, m7, m8, m9⟩ := mk_vals
  have hw1 := wd_pos n
  have hw9 := wd_le n
  have hlt := wd_lt n
  unfold hd
  have hc : wd n = 1 ∨ wd n = 2 ∨ wd n = 3 ∨ wd n = 4 ∨ wd n = 5 ∨ wd n = 6 ∨ wd n = 7 ∨ wd n = 8 ∨ wd n = 9 := by omega
  rcases hc with h | h | h | h | h | h | h | h | h
  all_goals
    rw [h] at hlt ⊢
    simp only [m1, m2, m3, m4, m5, m6, m7, m8, m9, Nat.reduceAdd, Nat.reduceSub, Nat.reducePow, Nat.reduceMul] at hlt ⊢
    omega

theorem mk_mono (i j : Nat) (h1 : 1 ≤ i) (h : i ≤ j) (h9 : j ≤ 9) : mk i ≤ mk j := by
  obtain ⟨m1, m2, m3, m4, m5, m6, m7, m8, m9⟩ := mk_vals
  have hi : i = 1 ∨ i = 2 ∨ i = 3 ∨ i = 4 ∨ i = 5 ∨ i = 6 ∨ i = 7 ∨ i = 8 ∨ i = 9 := by omega
  have hj : j = 1 ∨ j = 2 ∨ j = 3 ∨ j = 4 ∨ j = 5 ∨ j = 6 ∨ j = 7 ∨ j = 8 ∨ j = 9 := by omega
  rcases hi with rfl | rfl | rfl | rfl | rfl | rfl | rfl | rfl | rfl <;> rcases hj with rfl | rfl | rfl | rfl | rfl | rfl | rfl | rfl | rfl <;> omega

theorem hd_lt (a b : Nat) (ha : a < 18446744073709551616) (hb : b < 18446744073709551616) (h : wd a < wd b) : hd a < hd b := by
  have h1 := (hd_rng a ha).2.2 (by have := wd_le b; omega)
  have h2 := (hd_rng b hb).1
  have h3 := mk_mono (wd a + 1) (wd b) (by omega) h (wd_le b)
  omega

theorem nb_lt (n : Nat) (hn : n < 18446744073709551616) : nb n < 256 ^ wd n := by
  have h := (hd_rng n hn).2.1
  have hw1 := wd_pos n
  have h2 := nb_div n
  have e : 256 ^ wd n = 256 * 256 ^ (wd n - 1) := by
    rw [← Nat.pow_succ', show (wd n - 1).succ = wd n from by omega]
  rw [e]
  rw [← h2] at h
  exact (Nat.div_lt_iff_lt_mul (Nat.pow_pos (by omega))).1 h

theorem encL_cons (n : Nat) (hn : n < 18446744073709551616) : encL n = UInt8.ofNat (hd n) :: be (wd n - 1) (nb n) := by
  have hw1 := wd_pos n
  obtain ⟨k, hk⟩ : ∃ k, wd n = k + 1 := ⟨wd n - 1, by omega⟩
  have h2 := nb_div n
  rw [encL_be n hn, hk]
  rw [hk] at h2
  simp only [be, Nat.add_sub_cancel] at h2 ⊢
  rw [h2]

theorem nb_cmp (a b : Nat) (h : wd a = wd b) : decide (nb a < nb b) = decide (a < b) := by
  unfold nb; rw [h, Bool.eq_iff_iff]; simp

/-- Numbers stand in order as their bytes do. -/
theorem encL_less (a b : Nat) (ha : a < 18446744073709551616) (hb : b < 18446744073709551616) : Op.bytesLess (encL a) (encL b) = decide (a < b) := by
  rcases Nat.lt_trichotomy (wd a) (wd b) with h | h | h
  · have h1 := hd_lt a b ha hb h
    have hlt : a < b := by
      rcases Nat.lt_or_ge a b with h' | h'
      · exact h'
      · have := wd_mono h'; omega
    rw [encL_cons a ha, encL_cons b hb]
    simp only [Op.bytesLess]
    rw [Bool.eq_iff_iff]
    simp [(u8_lt (hd_rng a ha).2.1 (hd_rng b hb).2.1).2 h1, hlt]
  · rw [encL_be a ha, encL_be b hb, h, be_less _ _ _ (by have := nb_lt a ha; rwa [h] at this) (nb_lt b hb), nb_cmp a b h]
  · have h1 := hd_lt b a hb ha h
    have hlt : ¬ a < b := fun h' => by have := wd_mono (Nat.le_of_lt h'); omega
    rw [encL_cons a ha, encL_cons b hb]
    simp only [Op.bytesLess]
    have e1 : ¬ UInt8.ofNat (hd a) < UInt8.ofNat (hd b) := fun e => by
      have := (u8_lt (hd_rng a ha).2.1 (hd_rng b hb).2.1).1 e; omega
    have e2 : ¬ UInt8.ofNat (hd a) = UInt8.ofNat (hd b) := fun e => by
      have := (u8_inj (hd_rng a ha).2.1 (hd_rng b hb).2.1).1 e; omega
    rw [Bool.eq_iff_iff]
    simp [e1, e2, hlt]

theorem encL_inj (a b : Nat) (ha : a < 18446744073709551616) (hb : b < 18446744073709551616) (h : encL a = encL b) : a = b := by
  have h1 := encL_less a b ha hb
  have h2 := encL_less b a hb ha
  have h3 := encL_less b b hb hb
  rw [h, h3] at h1 h2
  simp at h1 h2
  omega

/-- No number's bytes are the beginning of another one's. -/
theorem encL_prefix (a b : Nat) (ha : a < 18446744073709551616) (hb : b < 18446744073709551616) : Lib.hasPrefix (encL b) (encL a) = decide (a = b) := by
  unfold Lib.hasPrefix
  by_cases hw : wd a = wd b
  · rw [Bool.eq_iff_iff, List.isPrefixOf_iff_prefix, decide_eq_true_eq]
    constructor
    · intro h
      have hl : (encL a).length = (encL b).length := by rw [encL_length a ha, encL_length b hb, hw]
      exact encL_inj a b ha hb (h.eq_of_length hl)
    · rintro rfl
      exact List.prefix_rfl
  · have hne : a ≠ b := fun e => hw (by rw [e])
    have hh : hd a ≠ hd b := fun e => by
      rcases Nat.lt_or_ge (wd a) (wd b) with h | h
      · have := hd_lt a b ha hb h; omega
      · have := hd_lt b a hb ha (by omega); omega
    rw [encL_cons a ha, encL_cons b hb]
    have e2 : ¬ UInt8.ofNat (hd a) = UInt8.ofNat (hd b) := fun e => hh ((u8_inj (hd_rng a ha).2.1 (hd_rng b hb).2.1).1 e)
    simp [List.isPrefixOf, e2, hne]

end Go.Proofs.YtonpplpfipfnfaaGreatDoor.V

namespace Go.Proofs.YtonpplpfipfnfaaGreatDoor.V
open Go.RowKit

/-- Bytes gathered onto a number, as add does. -/
def acc (s : Nat) (l : List UInt8) : Nat := l.foldl (fun s d => s * 256 % 18446744073709551616 + d.toNat) s
theorem acc_snoc (s : Nat) (l : List UInt8) (d : UInt8) : acc s (l ++ [d]) = acc s l * 256 % 18446744073709551616 + d.toNat := by simp [acc]
theorem acc_lt (s : Nat) (l : List UInt8) (hs : s < 18446744073709551616) : acc s l < 18446744073709551616 := by
  rcases l.eq_nil_or_concat with rfl | ⟨l', d, rfl⟩
  · exact hs
  · have := acc_snoc s l' d
    rw [List.concat_eq_append, this]
    have := d.toNat_lt
    omega

theorem add_form (s d : Nat) (hd : d < 256) :
    bits .or .u64 (IntKind.u64.wrap ((s : Int) * 256)) (d : Int) = ((s * 256 % 18446744073709551616 + d : Nat) : Int) := by
  have e : IntKind.u64.wrap ((s : Int) * 256) = ((s * 256 % 18446744073709551616 : Nat) : Int) := by rw [IntKind.wrap_u64]; omega
  rw [e, u64_or_nat _ _ (by omega) (by omega), nat_join 8 _ _ (by omega) (by omega)]

set_option maxRecDepth 100000 in
set_option maxHeartbeats 1000000 in
theorem add_any (w : World) (sb n0 : Nat) (A : Option Addr) (b : List UInt8) (c : Nat) (hs : Blk w sb 159 #[.int .u64 n0]) (hr : Rd w A b) (hA : ∀ ad, A = some ad → ad.block ≠ sb) (hlen : b.length ≤ 140737488355328) :
    Calls Tryz.prog 101 #[.pointer (some ⟨sb, 0, none⟩), .slice A b.length c] w fun e w' => e = .returned (.tuple #[]) ∧ Blk w' sb 159 #[.int .u64 (acc n0 b)] ∧ Keep (fun k => k = sb) w w' := by
  go_enter Tryz.func101, Tryz.ntmps101
  go_wp2
  go_loopw [8] (fun i wr => ∃ k : Nat, k ≤ b.length ∧ i = .int .i64 k ∧ Blk wr sb 159 #[.int .u64 (acc n0 (b.take k))] ∧ Keep (fun k => k = sb) w wr) (fun i _ => b.length - (intOf i).toNat)
  case atStart => exact ⟨0, Nat.zero_le _, rfl, by simpa [acc] using hs, Keep.refl _ _⟩
  case round =>
    obtain ⟨k, hk, rfl, hsr, hkr⟩ := hrel
    by_cases hlt : k < b.length
    · obtain ⟨ad, rfl, hc⟩ := hr (by omega)
      have hcell : wr.cell? (ad.add k) = some (.int .u8 ((b[k]).toNat : Int)) := hkr.cell (hc k _ (by simp [hlt])) (by rw [block_add]; exact hA ad rfl)
      have cs := hsr.cell 0
      have fs := hsr.frozen 0
      simp at cs
      have hd : (b[k]).toNat < 256 := (b[k]).toNat_lt
      have HF := Lib.hid (add_form (acc n0 (b.take k)) (b[k]).toNat hd)
      have HT : Hid (acc n0 (b.take (k + 1)) = acc n0 (b.take k) * 256 % 18446744073709551616 + (b[k]).toNat) := by
        show acc n0 (b.take (k + 1)) = _
        rw [List.take_succ_eq_append_getElem hlt, acc_snoc]
      generalize acc n0 (b.take k) = s at *
      generalize hdd : (b[k]).toNat = d at *
      clear hdd
      go_wp2
      go_roundw
      case rel =>
        refine ⟨k + 1, by omega, by go_num, ?_, hkr.setCell (p := ⟨sb, 0, none⟩) (fun _ => rfl) _⟩
        rw [HT.out, ← HF.out]
        exact hsr.put 0 _
      case measure => simp [intOf]; omega
    · obtain rfl : k = b.length := by omega
      go_wp2
      go_end0
      exact ⟨rfl, by simpa using hsr, hkr⟩

/-- The width that a first byte tells. -/
def td (b : Nat) : Nat := if b < 128 then 1 else if b < 192 then 2 else if b < 224 then 3 else if b < 240 then 4 else if b < 248 then 5 else if b < 252 then 6 else if b < 254 then 7 else if b < 255 then 8 else 9

theorem td_form (b : Nat) (h : b < 256) : 8 - (Lib.bitLen (255 - b) : Int) + 1 = (td b : Int) := by
  have : ∀ b : Fin 256, 8 - (Lib.bitLen (255 - b.1) : Int) + 1 = (td b.1 : Int) := by decide +kernel
  exact this ⟨b, h⟩

theorem not_form (b : Nat) (h : b < 256) : bits .xor .u8 IntKind.u8.max (b : Int) = ((255 - b : Nat) : Int) := by
  have e : IntKind.u8.max = ((255 : Nat) : Int) := by decide
  rw [e, u8_xor_nat 255 b (by omega) h]
  have h2 : ∀ b : Fin 256, 255 ^^^ b.1 = 255 - b.1 := by decide +kernel
  exact congrArg _ (h2 ⟨b, h⟩)

theorem told_any (b : Nat) (w : World) (h : b < 256) :
    Calls Tryz.prog 102 #[.int .u8 b] w fun e w' => e = .returned (.int .i64 (td b)) ∧ w = w' := by
  have hf := Lib.hid (td_form b h)
  have hsg : IntKind.u8.signed = false := rfl
  have hx := Lib.hid (not_form b h)
  go_enter Tryz.func102, Tryz.ntmps102
  go_wp2_with fail
  rw [hx.out]
  refine (Tryz.bits_LeadingZeros8 _ _ (by omega) (by omega)).mono ?_
  rintro e w1 ⟨rfl, rfl⟩
  rw [Int.toNat_natCast]
  have hb1 : (Lib.bitLen (255 - b) : Int) ≤ 8 := by
    have h1 := hf.out
    have h2 : 1 ≤ td b := by unfold td; repeat' split
                             all_goals omega
    omega
  go_wp2
  go_ret
  exact ⟨ret_int hf.out, rfl⟩

end Go.Proofs.YtonpplpfipfnfaaGreatDoor.V

namespace Go.Proofs.YtonpplpfipfnfaaGreatDoor.V
open Go.RowKit

/-- Bytes as a number, the highest first. -/
def vl (l : List UInt8) : Nat := l.foldl (fun s d => s * 256 + d.toNat) 0
theorem vl_snoc (l : List UInt8) (d : UInt8) : vl (l ++ [d]) = vl l * 256 + d.toNat := by simp [vl]
theorem foldl_add (l : List UInt8) : ∀ s, l.foldl (fun s d => s * 256 + d.toNat) s = s * 256 ^ l.length + vl l := by
  induction l with
  | nil => intro s; simp [vl]
  | cons d l ih =>
    intro s
    have h0 := ih (s * 256 + d.toNat)
    have h1 : vl (d :: l) = d.toNat * 256 ^ l.length + vl l := by
      have := ih (0 * 256 + d.toNat)
      simpa [vl] using this
    simp only [List.foldl_cons, List.length_cons]
    rw [h0, h1, Nat.pow_succ, Nat.add_mul]
    have e : s * 256 * 256 ^ l.length = s * (256 ^ l.length * 256) := by ac_rfl
    rw [e, Nat.add_assoc]
theorem vl_cons (d : UInt8) (l : List UInt8) : vl (d :: l) = d.toNat * 256 ^ l.length + vl l := by
  have := foldl_add l d.toNat
  simpa [vl] using this
theorem vl_lt (l : List UInt8) : vl l < 256 ^ l.length := by
  induction l with
  | nil => simp [vl]
  | cons d l ih =>
    rw [vl_cons, List.length_cons, Nat.pow_succ]
    have hd := d.toNat_lt
    have : d.toNat * 256 ^ l.length + 256 ^ l.length ≤ 256 ^ l.length * 256 := by
      have h : (d.toNat + 1) * 256 ^ l.length ≤ 256 * 256 ^ l.length := Nat.mul_le_mul_right _ (by omega)
      rw [Nat.add_mul] at h
      omega
    omega
theorem mod_step (K s t d : Nat) (hK : 0 < K) (hd : d < 256) (h : s = t % (K * 256)) : s * 256 % (K * 256) + d = (t * 256 + d) % (K * 256) := by
  have e1 : s * 256 % (K * 256) = (s % K) * 256 := Nat.mul_mod_mul_right 256 s K
  have e3 : s % K = t % K := by rw [h, Nat.mod_mul_right_mod]
  have hr := Nat.mod_lt t hK
  have e2 : t * 256 + d = ((t % K) * 256 + d) + (t / K) * (K * 256) := by
    have := Nat.mod_add_div' t K
    have e : (t / K) * (K * 256) = (t / K * K) * 256 := by ac_rfl
    rw [e]
    generalize t / K * K = q at *
    omega
  have hlt : (t % K) * 256 + d < K * 256 := by
    have : (t % K + 1) * 256 ≤ K * 256 := Nat.mul_le_mul_right _ hr
    omega
  rw [e1, e3, e2, Nat.add_mul_mod_self_right, Nat.mod_eq_of_lt hlt]
theorem acc_fold (l : List UInt8) : ∀ s t, s = t % 18446744073709551616 → l.foldl (fun s d => s * 256 % 18446744073709551616 + d.toNat) s = l.foldl (fun s d => s * 256 + d.toNat) t % 18446744073709551616 := by
  induction l with
  | nil => intro s t h; exact h
  | cons d l ih =>
    intro s t h
    exact ih _ _ (mod_step 72057594037927936 s t d.toNat (by omega) (by simpa using d.toNat_lt) h)
theorem acc_vl (l : List UInt8) : acc 0 l = vl l % 18446744073709551616 := acc_fold l 0 0 rfl

theorem be_vl (l : List UInt8) : be l.length (vl l) = l := by
  induction l with
  | nil => rfl
  | cons d l ih =>
    have hlt := vl_lt l
    simp only [List.length_cons, be]
    rw [vl_cons, Nat.add_comm, Nat.add_mul_div_right _ _ (Nat.pow_pos (by omega)), Nat.div_eq_of_lt hlt, be_add, ih, Nat.zero_add]
    simp
theorem vl_be (k m : Nat) (h : m < 256 ^ k) : vl (be k m) = m := by
  have h1 := be_vl (be k m)
  rw [be_len] at h1
  exact be_inj k _ _ (by have := vl_lt (be k m); rwa [be_len] at this) h h1

/-- The number that w bytes tell, the mark taken off. -/
def dc (w : Nat) (l : List UInt8) : Nat := vl l - mk w * 256 ^ (w - 1)

theorem td_rng (b : Nat) (h : b < 256) : 1 ≤ td b ∧ td b ≤ 9 ∧ mk (td b) ≤ b ∧ b - mk (td b) < 2 ^ (8 - td b) ∧ (b - mk (td b)) % 2 ^ (8 - td b) = b - mk (td b) ∧ mk (td b) % 2 ^ (8 - td b) = 0 := by
  have : ∀ b : Fin 256, 1 ≤ td b.1 ∧ td b.1 ≤ 9 ∧ mk (td b.1) ≤ b.1 ∧ b.1 - mk (td b.1) < 2 ^ (8 - td b.1) ∧ (b.1 - mk (td b.1)) % 2 ^ (8 - td b.1) = b.1 - mk (td b.1) ∧ mk (td b.1) % 2 ^ (8 - td b.1) = 0 := by decide +kernel
  exact this ⟨b, h⟩

/-- w bytes whose first one tells w. -/
theorem vl_split (b : UInt8) (l : List UInt8) (w : Nat) (hw : w = td b.toNat) (hl : l.length + 1 = w) : vl (b :: l) = mk w * 256 ^ (w - 1) + dc w (b :: l) ∧ dc w (b :: l) < 18446744073709551616 ∧ (w < 9 → dc w (b :: l) < 2 ^ (7 * w)) := by
  have hb := b.toNat_lt
  obtain ⟨h1, h9, hm, hr, _, _⟩ := td_rng b.toNat (by simpa using hb)
  rw [← hw] at h1 h9 hm hr
  have hlt := vl_lt l
  have hlen : l.length = w - 1 := by omega
  rw [hlen] at hlt
  have hge : mk w * 256 ^ (w - 1) ≤ vl (b :: l) := by
    rw [vl_cons, hlen]
    exact Nat.le_trans (Nat.mul_le_mul_right _ hm) (Nat.le_add_right _ _)
  have hsub : dc w (b :: l) = (b.toNat - mk w) * 256 ^ (w - 1) + vl l := by
    unfold dc
    rw [vl_cons, hlen, Nat.sub_mul]
    have := Nat.mul_le_mul_right (256 ^ (w - 1)) hm
    omega
  refine ⟨by unfold dc; omega, ?_, ?_⟩
  · rw [hsub]
    obtain ⟨r, hr'⟩ : ∃ r, r = b.toNat - mk w := ⟨_, rfl⟩
    rw [← hr'] at hr ⊢
    have hc : w = 1 ∨ w = 2 ∨ w = 3 ∨ w = 4 ∨ w = 5 ∨ w = 6 ∨ w = 7 ∨ w = 8 ∨ w = 9 := by omega
    clear hsub hge hw hl hlen hm
    rcases hc with rfl | rfl | rfl | rfl | rfl | rfl | rfl | rfl | rfl <;> simp only [Nat.reduceSub, Nat.reducePow] at hr hlt ⊢ <;> omega
  · intro hw9
    rw [hsub]
    obtain ⟨r, hr'⟩ : ∃ r, r = b.toNat - mk w := ⟨_, rfl⟩
    rw [← hr'] at hr ⊢
    have hc : w = 1 ∨ w = 2 ∨ w = 3 ∨ w = 4 ∨ w = 5 ∨ w = 6 ∨ w = 7 ∨ w = 8 := by omega
    clear hsub hge hw hl hlen hm
    rcases hc with rfl | rfl | rfl | rfl | rfl | rfl | rfl | rfl <;> simp only [Nat.reduceSub, Nat.reducePow, Nat.reduceMul] at hr hlt ⊢ <;> omega

/-- The width of what w bytes tell is w at most; it is w just if they are that number's bytes. -/
theorem dc_width (b : UInt8) (l : List UInt8) (w : Nat) (hw : w = td b.toNat) (hl : l.length + 1 = w) : wd (dc w (b :: l)) ≤ w ∧ (wd (dc w (b :: l)) = w ↔ encL (dc w (b :: l)) = b :: l) := by
  obtain ⟨h1, h2, h3⟩ := vl_split b l w hw hl
  have hb := b.toNat_lt
  have h9 := (td_rng b.toNat (by simpa using hb)).2.1
  rw [← hw] at h9
  have hle : wd (dc w (b :: l)) ≤ w := by
    rcases Nat.lt_or_ge w 9 with h | h
    · rcases Nat.lt_or_ge w (wd (dc w (b :: l))) with h' | h'
      · have := wd_min _ w h' (by omega)
        have := h3 h
        omega
      · exact h'
    · have := wd_le (dc w (b :: l)); omega
  refine ⟨hle, fun h => ?_, fun h => ?_⟩
  · rw [encL_be _ h2]
    unfold nb
    rw [h, ← h1]
    have := be_vl (b :: l)
    rw [List.length_cons, hl] at this
    exact this
  · have := encL_length _ h2
    rw [h, List.length_cons] at this
    omega

/-- What comes next: the number, its width, the error. -/
def nx (l : List UInt8) : Nat × Nat × Nat :=
  match l with
  | [] => (0, 0, 10)
  | b :: r => if r.length + 1 < td b.toNat then (0, 0, 10) else
      if wd (dc (td b.toNat) ((b :: r).take (td b.toNat))) < td b.toNat then (0, 0, 11) else (dc (td b.toNat) ((b :: r).take (td b.toNat)), td b.toNat, 0)

theorem nx_cons (b : UInt8) (r : List UInt8) : nx (b :: r) = if r.length + 1 < td b.toNat then (0, 0, 10) else
      if wd (dc (td b.toNat) ((b :: r).take (td b.toNat))) < td b.toNat then (0, 0, 11) else (dc (td b.toNat) ((b :: r).take (td b.toNat)), td b.toNat, 0) := rfl

theorem andnot_disj (M D k : Nat) (hD : D < 2 ^ k) (hM : M % 2 ^ k = 0) (h64 : M < 2 ^ 64) (hk : k ≤ 64) : (M + D) &&& (2 ^ 64 - (M + 1)) = D := by
  rw [← or_add k D M hD hM]
  apply Nat.eq_of_testBit_eq
  intro i
  rw [Nat.testBit_and, Nat.testBit_or, Nat.testBit_two_pow_sub_succ h64]
  obtain ⟨q, hq⟩ : ∃ q, M = 2 ^ k * q := ⟨M / 2 ^ k, by have := Nat.div_add_mod M (2 ^ k); omega⟩
  by_cases hi : i < k
  · have h1 : M.testBit i = false := by rw [hq, Nat.testBit_two_pow_mul]; simp; omega
    rw [h1]
    simp; omega
  · have h2 : D.testBit i = false := Nat.testBit_lt_two_pow (Nat.lt_of_lt_of_le hD (Nat.pow_le_pow_right (by omega) (by omega)))
    rw [h2]
    cases M.testBit i <;> simp

theorem p256 (k : Nat) : (256 : Nat) ^ k = 2 ^ (8 * k) := by rw [Nat.pow_mul]

theorem mk_mult (t : Nat) (h1 : 1 ≤ t) (h9 : t < 9) : mk t * 2 ^ (8 * (t - 1)) % 2 ^ (7 * t) = 0 ∧ mk t * 2 ^ (8 * (t - 1)) < 2 ^ 64 := by
  have : ∀ t : Fin 9, 1 ≤ t.1 → mk t.1 * 2 ^ (8 * (t.1 - 1)) % 2 ^ (7 * t.1) = 0 ∧ mk t.1 * 2 ^ (8 * (t.1 - 1)) < 2 ^ 64 := by decide +kernel
  exact this ⟨t, h9⟩ h1

theorem nx_form (b : UInt8) (r : List UInt8) (t : Nat) (hw : td b.toNat = t) (hl : t ≤ r.length + 1) :
    bits .andNot .u64 ((acc 0 ((b :: r).take t) : Nat) : Int) (IntKind.u64.wrap ((mk t : Int) * 2 ^ (8 * (t - 1)))) = ((dc t ((b :: r).take t) : Nat) : Int) := by
  have hb := b.toNat_lt
  obtain ⟨h1, h9, _⟩ := td_rng b.toNat (by simpa using hb)
  rw [hw] at h1 h9
  obtain ⟨k, rfl⟩ : ∃ k, t = k + 1 := ⟨t - 1, by omega⟩
  rw [List.take_succ_cons]
  have hlen : (r.take k).length + 1 = k + 1 := by simp; omega
  obtain ⟨e1, e2, e3⟩ := vl_split b (r.take k) (k + 1) hw.symm hlen
  rw [acc_vl]
  generalize dc (k + 1) (b :: r.take k) = D at *
  generalize vl (b :: r.take k) = V at *
  rw [p256] at e1
  rcases Nat.lt_or_ge (k + 1) 9 with h | h
  · obtain ⟨m1, m2⟩ := mk_mult (k + 1) h1 h
    have hD := e3 h
    generalize hM : mk (k + 1) * 2 ^ (8 * (k + 1 - 1)) = M at *
    have hc : ((mk (k + 1) : Nat) : Int) * 2 ^ (8 * (k + 1 - 1)) = (M : Int) := by rw [← hM]; push_cast; rfl
    rw [hc]
    have hw64 : IntKind.u64.wrap (M : Int) = (M : Int) := by rw [IntKind.wrap_u64]; omega
    have hV : V < 18446744073709551616 := by
      have hp : 2 ^ (7 * (k + 1)) ≤ 2 ^ 56 := Nat.pow_le_pow_right (by omega) (by omega)
      have hx : M ≤ 2 ^ 64 - 2 ^ 56 := by
        rw [← hM]
        have : ∀ t : Fin 9, 1 ≤ t.1 → mk t.1 * 2 ^ (8 * (t.1 - 1)) ≤ 2 ^ 64 - 2 ^ 56 := by decide +kernel
        exact this ⟨k + 1, h⟩ h1
      omega
    rw [hw64, Nat.mod_eq_of_lt hV, u64_andNot_nat _ _ hV (by omega), e1]
    congr 1
    rw [show 18446744073709551615 - M = 2 ^ 64 - (M + 1) by omega]
    exact andnot_disj M D (7 * (k + 1)) hD m1 m2 (by omega)
  · obtain rfl : k = 8 := by omega
    have m9 : mk 9 = 255 := mk_vals.2.2.2.2.2.2.2.2
    have hw64 : IntKind.u64.wrap (((mk (8 + 1) : Nat) : Int) * 2 ^ (8 * (8 + 1 - 1))) = ((0 : Nat) : Int) := by
      show IntKind.u64.wrap (((mk 9 : Nat) : Int) * 2 ^ 64) = _
      rw [m9, IntKind.wrap_u64]; omega
    rw [hw64, u64_andNot_nat _ _ (Nat.mod_lt _ (by omega)) (by omega)]
    congr 1
    have e4 : V % 18446744073709551616 = D := by
      rw [e1]
      show (mk 9 * 2 ^ 64 + D) % 18446744073709551616 = D
      rw [m9]; omega
    rw [e4]
    have := andnot_disj 0 D 64 e2 (by omega) (by omega) (Nat.le_refl _)
    simpa using this

theorem td_of (b w : Nat) (hb : b < 256) (hw : w ≤ 9) (h1 : 1 ≤ w) (hlo : mk w ≤ b) (hhi : w < 9 → b < mk (w + 1)) : td b = w := by
  have : ∀ b : Fin 256, ∀ w : Fin 10, 1 ≤ w.1 → mk w.1 ≤ b.1 → (w.1 < 9 → b.1 < mk (w.1 + 1)) → td b.1 = w.1 := by decide +kernel
  exact this ⟨b, hb⟩ ⟨w, by omega⟩ h1 hlo hhi

/-- A number's bytes, whatever stands behind them, are read as it was. -/
theorem nx_enc (n : Nat) (hn : n < 18446744073709551616) (r : List UInt8) : nx (encL n ++ r) = (n, wd n, 0) := by
  have hw1 := wd_pos n
  have hw9 := wd_le n
  obtain ⟨h1, h2, h3⟩ := hd_rng n hn
  have ht : td (UInt8.ofNat (hd n)).toNat = wd n := by
    rw [UInt8.toNat_ofNat', Nat.mod_eq_of_lt (by simpa using h2)]
    exact td_of _ _ h2 hw9 hw1 h1 h3
  have hlen := encL_length n hn
  have hlt := nb_lt n hn
  have hdc : dc (wd n) (encL n) = n := by
    unfold dc
    rw [encL_be n hn, vl_be _ _ hlt]
    unfold nb
    omega
  have htk : (encL n ++ r).take (wd n) = encL n := by rw [← hlen, List.take_left]
  have hcons := encL_cons n hn
  rw [hcons] at hlen htk ⊢
  rw [List.cons_append] at htk ⊢
  rw [nx_cons, ht, htk, ← hcons, hdc, if_neg (by simp at hlen; simp; omega), if_neg (by omega)]

end Go.Proofs.YtonpplpfipfnfaaGreatDoor.V

namespace Go.Proofs.YtonpplpfipfnfaaGreatDoor.V
open Go.RowKit

theorem enc_0 : encL 0 = [0] := by decide +kernel
theorem enc_127 : encL 127 = [127] := by decide +kernel
theorem enc_128 : encL 128 = [128, 128] := by decide +kernel
theorem enc_300 : encL 300 = [129, 44] := by decide +kernel
theorem enc_16384 : encL 16384 = [192, 64, 0] := by decide +kernel

theorem keepN {w w1 w2 : World} (h : Keep NoB w w1) (h' : Keep NoB w1 w2) : Keep NoB w w2 := h.trans h' (fun _ hf _ => hf.elim)

end Go.Proofs.YtonpplpfipfnfaaGreatDoor.V

namespace Go.Proofs.YtonpplpfipfnfaaGreatDoor.V
open Go.RowKit

theorem set_be (j r n : Nat) : (List.replicate (j + 1) (0 : UInt8) ++ be r n).set j (UInt8.ofNat (n / 256 ^ r)) = List.replicate j 0 ++ be (r + 1) n := by
  have e : List.replicate (j + 1) (0 : UInt8) ++ be r n = List.replicate j 0 ++ (0 :: be r n) := by
    rw [List.replicate_succ', List.append_assoc]; rfl
  rw [e, List.set_append_right _ _ (by simp)]
  simp [be]

theorem bvs_set (l : List UInt8) (i : Nat) (b : UInt8) : (bvs l).set i (bv b) = bvs (l.set i b) := by
  unfold bvs; rw [List.map_set]

theorem put_be {w w0 : World} {g j W n : Nat} {V : Int} (h : w.ownsRow 0 5 1 (.slice (some ⟨g, 0, none⟩) W W) W (bvs (List.replicate (j + 1) 0 ++ be (W - (j + 1)) n))) (hj : j + 1 ≤ W)
    (hV : V = ((n / 256 ^ (W - (j + 1)) % 256 : Nat) : Int)) (hk : Keep NoB w0 w) (hg : w0.heap.size ≤ g) :
    (w.setCell ⟨g, j, none⟩ (.int .u8 V)).ownsRow 0 5 1 (.slice (some ⟨g, 0, none⟩) W W) W (bvs (List.replicate j 0 ++ be (W - j) n)) ∧ Keep NoB w0 (w.setCell ⟨g, j, none⟩ (.int .u8 V)) := by
  have hb : (Value.int .u8 V) = bv (UInt8.ofNat (n / 256 ^ (W - (j + 1)))) := by
    subst hV; simp [bv, UInt8.toNat_ofNat']
  rw [hb]
  have h1 := (h.stored j (bv (UInt8.ofNat (n / 256 ^ (W - (j + 1)))))).1
  rw [bvs_set, set_be, show W - (j + 1) + 1 = W - j by omega] at h1
  exact ⟨h1, hk.setCell (fun hlt => by simp at hlt; omega) _⟩

theorem head_of {n W : Nat} (hn : n < 18446744073709551616) (hW : wd n = W) : ∃ r, be W n = UInt8.ofNat (n / 256 ^ (W - 1)) :: r ∧ encL n = UInt8.ofNat (mk W + n / 256 ^ (W - 1)) :: r ∧ mk W + n / 256 ^ (W - 1) < 256 := by
  have hp := wd_pos n
  have h2 := (hd_rng n hn).2.1
  subst hW
  obtain ⟨k, hk⟩ : ∃ k, wd n = k + 1 := ⟨wd n - 1, by omega⟩
  refine ⟨be k n, by rw [hk]; rfl, ?_, h2⟩
  rw [encL_cons n hn]
  congr 1
  unfold nb
  rw [hk, Nat.add_sub_cancel, Nat.add_comm, be_add]

theorem mk_step (i : Nat) (h1 : 1 ≤ i) (h9 : i < 9) : mk (i + 1) = mk i + 256 / 2 ^ i ∧ 256 / 2 ^ (i + 1) = 256 / 2 ^ i / 2 ∧ mk i ≤ 256 ∧ 256 / 2 ^ i ≤ 256 := by
  have : ∀ i : Fin 9, 1 ≤ i.1 → mk (i.1 + 1) = mk i.1 + 256 / 2 ^ i.1 ∧ 256 / 2 ^ (i.1 + 1) = 256 / 2 ^ i.1 / 2 ∧ mk i.1 ≤ 256 ∧ 256 / 2 ^ i.1 ≤ 256 := by decide
  exact this ⟨i, h9⟩ h1

set_option maxRecDepth 100000 in
set_option maxHeartbeats 4000000 in
theorem refnum_any (n : Nat) (w : World) (hn : Hid (n < 18446744073709551616)) :
    Calls Tryz.prog 55 #[.int .u64 n] w fun e w' => ∃ v, e = .returned v ∧ OwnB w' (Fresh w) v (encL n) ∧ Keep NoB w w' := by
  have hw1 := wd_pos n
  have hw9 := wd_le n
  obtain ⟨W, hW⟩ : ∃ W, wd n = W := ⟨_, rfl⟩
  have HH := Lib.hid (head_of hn.out hW)
  have HWW := Lib.hid hW
  rw [hW] at hw1 hw9
  obtain ⟨i0, hi, hz0, hz1, hz2⟩ := info_parts u8_info
  have hwa := Lib.hid (rwidth_any n w)
  rw [hW] at hwa
  clear hW
  go_enter Tryz.func55, Tryz.ntmps55
  go_wp2_with fail
  refine hwa.out.mono ?_
  rintro e w1 ⟨rfl, rfl⟩
  go_wp2_with (at_make; refine wpList_make_full _ rfl _ _ 23 rfl 0 5 i0 (.int .u8 0) 1 Tryz.underlying23 hi hz0 hz1 _ _ _ _ W rfl rfl rfl rfl (by rw [hz2]; omega) (by unfold maxLen; omega) (Nat.zero_le _) ?_; intro w1 hrow1 hg1)
  have hr1 : w1.ownsRow 0 5 1 (.slice (some ⟨w.heap.size, 0, none⟩) W W) W (bvs (List.replicate W 0 ++ be (W - W) n)) := by
    have e : (madeCells (Value.int .u8 0).cells (W * 1)).toList = bvs (List.replicate W 0 ++ be (W - W) n) := by
      rw [Nat.mul_one, Nat.sub_self]
      show (madeCells #[Value.int .u8 0] W).toList = _
      rw [toList_madeCells_one]
      simp [be, bvs, bv]
    rw [← e]; exact hrow1
  have hk1 : Keep NoB w w1 := (Keep.refl NoB w).grown hg1 (fun _ e _ => by cases e)
  clear hrow1 hg1
  obtain ⟨g, hg⟩ : ∃ g, w.heap.size = g := ⟨_, rfl⟩
  have hgl : w.heap.size ≤ g := by omega
  rw [hg] at hr1 ⊢
  clear hg
  go_loopw [0, 5] (fun m i wr => ∃ (k q : Nat), k ≤ W ∧ Hid (q = n / 256 ^ (W - k)) ∧ q < 18446744073709551616 ∧ m = .int .u64 (q : Int) ∧ i = .int .i64 ((k : Int) - 1) ∧ wr.ownsRow 0 5 1 (.slice (some ⟨g, 0, none⟩) W W) W (bvs (List.replicate k 0 ++ be (W - k) n)) ∧ Keep NoB w wr) (fun _ i _ => (intOf i + 1).toNat)
  case atStart => exact ⟨W, n, Nat.le_refl _, by simp [Hid], hn.out, rfl, by go_num, hr1, hk1⟩
  case round =>
    clear hk1 hr1
    obtain ⟨k, q, hk, hq, hq64, rfl, rfl, hrow, hK⟩ := hrel
    by_cases hk0 : k = 0
    · subst hk0
      have hbe : Hid (be W n = List.replicate 0 0 ++ be (W - 0) n) := by simp [Hid]
      rw [← hbe.out] at hrow
      go_wp2
      go_loop [6, 7, 8] (fun f b i => ∃ (j F B : Nat), 1 ≤ j ∧ j ≤ W ∧ Hid (F = mk j ∧ B = 256 / 2 ^ j) ∧ F ≤ 512 ∧ B ≤ 256 ∧ f = .int .i64 (F : Int) ∧ b = .int .i64 (B : Int) ∧ i = .int .i64 (j : Int)) (fun _ _ i => W - (intOf i).toNat)
      case atStart => exact ⟨1, 0, 128, by omega, by omega, by show _ ∧ _; decide, by omega, by omega, rfl, rfl, rfl⟩
      case round =>
        obtain ⟨j, F, B, hj1, hj, hFB, hF, hB, rfl, rfl, rfl⟩ := hrel
        by_cases hjw : j < W
        · have hst := mk_step j hj1 (by omega)
          obtain ⟨e1, e2⟩ := hFB.out
          rw [← e1, ← e2] at hst
          have HS : Hid (F + B = mk (j + 1) ∧ B / 2 = 256 / 2 ^ (j + 1)) := ⟨hst.1.symm, hst.2.1.symm⟩
          have hs3 := hst.2.2.1
          clear hst e1 e2
          go_wp2
          go_round
          case rel => exact ⟨j + 1, F + B, B / 2, by omega, by omega, HS, by omega, by omega, by go_num, by go_num, by go_num⟩
          case measure => simp [intOf]; omega
        · obtain rfl : j = W := by omega
          obtain ⟨r, hr1, hr2, hr3⟩ := HH.out
          rw [hr1] at hrow
          have hFm := hFB.out.1
          rw [← hFm] at hr2 hr3
          have HR2 := Lib.hid hr2
          obtain ⟨x, hx⟩ : ∃ x, n / 256 ^ (j - 1) = x := ⟨_, rfl⟩
          rw [hx] at hr1 HR2 hr3 hrow
          clear hr1 hr2 HH hx hFB hFm hbe
          have c0 := hrow.cellAt 0 (by omega)
          have f0 := hrow.frozenAt 0
          have hxb : (((UInt8.ofNat x).toNat : Nat) : Int) = (x : Int) := by rw [UInt8.toNat_ofNat']; omega
          simp only [bvs, List.map_cons, List.getElem?_cons_zero, bv, hxb] at c0
          go_wp2
          go_ret
          have hst := (hrow.stored 0 (bv (UInt8.ofNat (F + x)))).1
          rw [bvs_set, List.set_cons_zero, ← HR2.out] at hst
          have hval : (Value.int .u8 ((F : Int) + (x : Int))) = bv (UInt8.ofNat (F + x)) := by
            simp only [bv]; rw [UInt8.toNat_ofNat', Nat.mod_eq_of_lt (by omega)]; simp
          rw [← hval] at hst
          have hle : (encL n).length = j := by rw [encL_length n hn.out]; exact HWW.out
          refine ⟨_, rfl, ⟨by rw [hle]; exact hst, fun g' e => ?_⟩, hK.setCell (fun hlt => by simp at hlt; omega) _⟩
          simp [Value.ownBlock] at e
          subst e
          exact hgl
    · obtain ⟨j, rfl⟩ : ∃ j, k = j + 1 := ⟨k - 1, by omega⟩
      have f0 := hrow.frozenAt j
      have cj : wr.cell? ⟨g, j, none⟩ = some (.int .u8 0) := by
        rw [hrow.cellAt j (by omega)]
        simp only [bvs, List.map_append, List.map_replicate]
        rw [List.getElem?_append_left (by simp)]
        simp [bv]
      have hP := Lib.hid (put_be (V := (q : Int) % 256) hrow hk (by rw [← hq.out]; omega) hK hgl)
      have hq' : Hid (q / 256 = n / 256 ^ (W - j)) := by
        show _ = _
        rw [hq.out, Nat.div_div_eq_div_mul, ← Nat.pow_succ, show (W - (j + 1)).succ = W - j by omega]
      clear hq hrow hK
      go_wp2
      go_roundw
      case rel => exact ⟨j, q / 256, by omega, hq', by omega, by go_num, by go_num, hP.out.1, hP.out.2⟩
      case measure => simp [intOf]

end Go.Proofs.YtonpplpfipfnfaaGreatDoor.V

namespace Go.Proofs.YtonpplpfipfnfaaGreatDoor.O

theorem in_bounds {k n : Int} (h : inK k n = true) : (-9223372036854775808 ≤ n ∧ n ≤ 9223372036854775807) ∧ (k ≠ 1 → 0 ≤ n ∧ n ≤ 511) ∧ (k = 0 → n = 0) := by
  have h := of_decide_eq_true h
  unfold lo hi at h
  repeat' split at h
  all_goals omega

theorem enc_cancel {m n : Nat} {s t : List UInt8} (hm : m < 18446744073709551616) (hn : n < 18446744073709551616) (h : V.encL m ++ s = V.encL n ++ t) : m = n ∧ s = t := by
  have e := congrArg V.nx h
  rw [V.nx_enc m hm, V.nx_enc n hn] at e
  have e1 : m = n := (Prod.mk.inj e).1
  subst e1
  exact ⟨rfl, List.append_cancel_left h⟩
theorem encP_cancel {k a b : Int} {s t : List UInt8} (ha : inK k a = true) (hb : inK k b = true) (h : encP k a ++ s = encP k b ++ t) : a = b ∧ s = t := by
  have xa := in_bounds ha
  have xb := in_bounds hb
  unfold encP at h
  split at h
  · rename_i h0
    rw [xa.2.2 h0, xb.2.2 h0]; exact ⟨rfl, by simpa using h⟩
  · split at h
    · obtain ⟨h1, h2⟩ := enc_cancel (V.zig_lt a xa.1.1 xa.1.2) (V.zig_lt b xb.1.1 xb.1.2) h
      exact ⟨(V.zig_inj a b).1 h1, h2⟩
    · rename_i h1
      have ya := xa.2.1 h1
      have yb := xb.2.1 h1
      obtain ⟨h1, h2⟩ := enc_cancel (by omega) (by omega) h
      exact ⟨by omega, h2⟩
theorem bytes_cancel {op a b op' a' b' : Int} {s t : List UInt8} (h1 : okI op a b = true) (h2 : okI op' a' b' = true) (h : bytesI op a b ++ s = bytesI op' a' b' ++ t) : (op = op' ∧ a = a' ∧ b = b') ∧ s = t := by
  obtain ⟨o1, a1, b1⟩ := ok_op h1
  obtain ⟨o2, a2, b2⟩ := ok_op h2
  have x1 := isOp_yes o1
  have x2 := isOp_yes o2
  unfold bytesI at h
  simp only [List.append_assoc] at h
  obtain ⟨e1, h⟩ := enc_cancel (by omega) (by omega) h
  have e1 : op = op' := by omega
  subst e1
  obtain ⟨e2, h'⟩ := encP_cancel a1 a2 h
  obtain ⟨e3, h''⟩ := encP_cancel b1 b2 h'
  exact ⟨⟨rfl, e2, e3⟩, h''⟩
theorem bytes_ne {op a b : Int} (h : okI op a b = true) : bytesI op a b ≠ [] := by
  have x := isOp_yes (ok_op h).1
  intro e
  have hl := congrArg List.length e
  unfold bytesI at hl
  rw [List.length_append, V.encL_length _ (by omega)] at hl
  have := V.wd_pos op.toNat
  simp at hl
  omega

/-- A text up to its first blank. -/
def upto (l : List UInt8) : List UInt8 := l.takeWhile (fun c => decide (c ≠ 32))
theorem upto_of {s r : List UInt8} (hs : ∀ c ∈ s, c ≠ 32) (hr : r = [] ∨ ∃ r', r = 32 :: r') : upto (s ++ r) = s := by
  unfold upto
  rw [List.takeWhile_append_of_pos (by intro c hc; simpa using hs c hc)]
  rcases hr with rfl | ⟨r', rfl⟩
  · simp
  · simp
theorem split_at {s t r q : List UInt8} (hs : ∀ c ∈ s, c ≠ 32) (ht : ∀ c ∈ t, c ≠ 32) (hr : r = [] ∨ ∃ r', r = 32 :: r') (hq : q = [] ∨ ∃ q', q = 32 :: q') (h : s ++ r = t ++ q) : s = t ∧ r = q := by
  have e := congrArg upto h
  rw [upto_of hs hr, upto_of ht hq] at e
  subst e
  exact ⟨rfl, List.append_cancel_left h⟩

theorem itoa_no (n : Int) : ∀ c ∈ Lib.itoa n, c ≠ 32 := by
  have hd : ∀ u, ∀ c ∈ Lib.decDigits u, c ≠ 32 := fun u c hc e => by
    have := W.dec_digits u c hc
    rw [e] at this
    exact absurd this (by decide)
  intro c hc
  rcases Int.lt_or_le n 0 with h | h
  · rw [W.itoa_minus h] at hc
    rcases List.mem_cons.1 hc with rfl | hc
    · decide
    · exact hd _ c hc
  · rw [W.itoa_pos h] at hc
    exact hd _ c hc
theorem nameAt_all {l : List (List UInt8)} {p : List UInt8 → Bool} (h : l.all p = true) (h0 : p [] = true) (n : Int) : p (A.nameAt l n) = true := by
  unfold A.nameAt
  split
  · rcases Nat.lt_or_ge n.toNat l.length with hlt | hge
    · rw [A.getD_at hlt]
      exact List.all_eq_true.1 h _ (List.getElem_mem hlt)
    · rw [A.getD_past hge]; exact h0
  · exact h0
def noSp (s : List UInt8) : Bool := s.all fun c => decide (c ≠ 32)
theorem noSp_mem {s : List UInt8} (h : noSp s = true) : ∀ c ∈ s, c ≠ 32 := fun c hc => by simpa using List.all_eq_true.1 h c hc
theorem word_no (k n : Int) : ∀ c ∈ word k n, c ≠ 32 := by
  unfold word
  split
  · apply noSp_mem
    unfold W.letC
    repeat' split
    all_goals decide
  · split
    · exact noSp_mem (nameAt_all (p := noSp) (by decide) (by decide) n)
    · split
      · exact noSp_mem (nameAt_all (p := noSp) (by decide) (by decide) n)
      · exact itoa_no n
theorem name_no (op : Int) : ∀ c ∈ (rowAt op).name, c ≠ 32 := noSp_mem (rowAt_all (p := fun r => noSp r.name) (by decide) (by decide) op)
theorem part_sp (k n : Int) : partL k n = [] ∨ ∃ r, partL k n = 32 :: r := by
  unfold partL
  split
  · exact .inl rfl
  · exact .inr ⟨_, rfl⟩
theorem names_inj (l : List (List UInt8)) (hnd : (List.range l.length).all (fun i => (List.range l.length).all fun j => decide (l.getD i [] = l.getD j [] → i = j)) = true) {a b : Int} (ha : 0 ≤ a ∧ a < l.length) (hb : 0 ≤ b ∧ b < l.length) (h : A.nameAt l a = A.nameAt l b) : a = b := by
  unfold A.nameAt at h
  rw [if_pos ha.1, if_pos hb.1] at h
  have h1 := List.all_eq_true.1 hnd a.toNat (List.mem_range.2 (by omega))
  have h2 := List.all_eq_true.1 h1 b.toNat (List.mem_range.2 (by omega))
  have := of_decide_eq_true h2 h
  omega
theorem word_inj {k a b : Int} (hk : k ≠ 0) (ha : inK k a = true) (hb : inK k b = true) (h : word k a = word k b) : a = b := by
  have xa := in_bounds ha
  have xb := in_bounds hb
  have ya := of_decide_eq_true ha
  have yb := of_decide_eq_true hb
  unfold word at h
  split at h
  · rename_i hk2
    have z1 : 1 ≤ a ∧ a ≤ 4 ∧ 1 ≤ b ∧ b ≤ 4 := by unfold lo hi at ya yb; rcases hk2 with rfl | rfl <;> simp at ya yb <;> omega
    obtain ⟨p1, p2, p3, p4⟩ := z1
    have va : a = 1 ∨ a = 2 ∨ a = 3 ∨ a = 4 := by omega
    have vb : b = 1 ∨ b = 2 ∨ b = 3 ∨ b = 4 := by omega
    rcases va with rfl | rfl | rfl | rfl <;> rcases vb with rfl | rfl | rfl | rfl <;> first | rfl | (exact absurd h (by decide))
  · split at h
    · rename_i h1 h2
      subst h2
      exact names_inj A.binNs (by decide +kernel) (by unfold lo hi at ya; simp at ya; exact ⟨ya.1, by have : A.binNs.length = 14 := rfl; omega⟩) (by unfold lo hi at yb; simp at yb; exact ⟨yb.1, by have : A.binNs.length = 14 := rfl; omega⟩) h
    · split at h
      · rename_i h1 h2 h3
        subst h3
        exact names_inj A.unNs (by decide +kernel) (by unfold lo hi at ya; simp at ya; exact ⟨ya.1, by have : A.unNs.length = 9 := rfl; omega⟩) (by unfold lo hi at yb; simp at yb; exact ⟨yb.1, by have : A.unNs.length = 9 := rfl; omega⟩) h
      · exact W.itoa_inj xa.1 xb.1 h
theorem rowsN_nodup : (List.range 30).all (fun i => (List.range 30).all fun j => decide ((rowsL.getD i row0).name = (rowsL.getD j row0).name → i = j)) = true := by decide +kernel
theorem name_inj {op op' : Int} (h1 : isOp op = true) (h2 : isOp op' = true) (h : (rowAt op).name = (rowAt op').name) : op = op' := by
  have x1 := isOp_yes h1
  have x2 := isOp_yes h2
  unfold rowAt at h
  rw [if_pos h1, if_pos h2] at h
  have e1 := List.all_eq_true.1 rowsN_nodup op.toNat (List.mem_range.2 (by omega))
  have e2 := List.all_eq_true.1 e1 op'.toNat (List.mem_range.2 (by omega))
  have := of_decide_eq_true e2 h
  omega
theorem part_cancel {k a b : Int} {s t : List UInt8} (ha : inK k a = true) (hb : inK k b = true) (hs : s = [] ∨ ∃ r, s = 32 :: r) (ht : t = [] ∨ ∃ r, t = 32 :: r) (h : partL k a ++ s = partL k b ++ t) : a = b ∧ s = t := by
  unfold partL at h
  split at h
  · rename_i h0
    rw [(in_bounds ha).2.2 h0, (in_bounds hb).2.2 h0]; exact ⟨rfl, by simpa using h⟩
  · rename_i h0
    simp only [List.cons_append, List.cons.injEq, true_and] at h
    obtain ⟨h1, h2⟩ := split_at (word_no k a) (word_no k b) hs ht h
    exact ⟨word_inj h0 ha hb h1, h2⟩
theorem text_inj {op a b op' a' b' : Int} (h1 : okI op a b = true) (h2 : okI op' a' b' = true) (h : textI op a b = textI op' a' b') : op = op' ∧ a = a' ∧ b = b' := by
  obtain ⟨o1, a1, b1⟩ := ok_op h1
  obtain ⟨o2, a2, b2⟩ := ok_op h2
  have hsp : ∀ k a k' b, (partL k a ++ partL k' b = [] ∨ ∃ r, partL k a ++ partL k' b = 32 :: r) := fun k a k' b => by
    rcases part_sp k a with e | ⟨r, e⟩
    · rw [e]; exact part_sp k' b
    · rw [e]; exact .inr ⟨_, rfl⟩
  unfold textI at h
  obtain ⟨e1, h⟩ := split_at (name_no op) (name_no op') (hsp _ _ _ _) (hsp _ _ _ _) h
  have e1 := name_inj o1 o2 e1
  subst e1
  obtain ⟨e2, h2⟩ := part_cancel a1 a2 (part_sp _ _) (part_sp _ _) h
  have h' : partL (rowAt op).kb b ++ [] = partL (rowAt op).kb b' ++ [] := by simpa using h2
  obtain ⟨e3, _⟩ := part_cancel b1 b2 (.inl rfl) (.inl rfl) h'
  exact ⟨rfl, e2, e3⟩

end Go.Proofs.YtonpplpfipfnfaaGreatDoor.O

namespace Go.Proofs.YtonpplpfipfnfaaGreatDoor.O
open Go.RowKit

theorem own_app {w w1 w2 : World} {v v' : Value} {l m : List UInt8} (hv : V.OwnB w1 (Fresh w) v l) (hk : Keep NoB w w1) (hown : w2.ownsRow 0 5 1 v' (l ++ m).length (V.bvs (l ++ m))) (hg : w1.grownBy w2 v.ownBlock)
    (hat : v'.ownBlock = v.ownBlock ∨ v'.ownBlock = some w1.heap.size) : V.OwnB w2 (Fresh w) v' (l ++ m) ∧ Keep NoB w w2 := by
  refine ⟨⟨hown, fun g e => ?_⟩, hk.grown hg (fun g e hlt => by have := hv.2 g e; unfold Fresh at this; omega)⟩
  rcases hat with h | h
  · rw [h] at e; exact hv.2 g e
  · rw [h] at e
    injection e with e
    subst e
    exact hk.size
theorem own_keep {w w1 w2 : World} {v : Value} {l : List UInt8} (hv : V.OwnB w1 (Fresh w) v l) (hk : Keep NoB w1 w2) : V.OwnB w2 (Fresh w) v l := hv.keep hk (fun _ _ => id)

theorem nat_of {k n : Int} (h1 : k ≠ 1) (h : inK k n = true) : ∃ m : Nat, n = (m : Int) ∧ m ≤ 511 := by
  have := (in_bounds h).2.1 h1
  exact ⟨n.toNat, by omega, by omega⟩
theorem wrap_u64 {m : Nat} (h : m ≤ 511) : IntKind.u64.wrap (m : Int) = (m : Int) := by simp [IntKind.wrap, IntKind.bits, IntKind.signed]; omega

theorem kind_one (op : Int) : (rowAt op).ka = 1 → (rowAt op).kb = 0 := by
  have := rowAt_all (p := fun r => decide (r.ka = 1 → r.kb = 0)) (by decide) (by decide) op
  exact of_decide_eq_true this
theorem kind_two (op : Int) : (rowAt op).kb ≠ 1 := by
  have := rowAt_all (p := fun r => decide (r.kb ≠ 1)) (by decide) (by decide) op
  simpa using this

set_option maxHeartbeats 2000000 in
theorem rbytes_any (op a b : Int) (w : World) (hok : okI op a b = true) :
    Calls Tryz.prog 56 #[instV op a b] w fun e w' => ∃ v, e = .returned v ∧ V.OwnB w' (Fresh w) v (bytesI op a b) ∧ Keep NoB w w' := by
  obtain ⟨ho, hA, hB⟩ := ok_op hok
  have hb := isOp_yes ho
  obtain ⟨o, rfl⟩ := Int.eq_ofNat_of_zero_le hb.1
  have hwo := wrap_u64 (m := o) (by omega)
  have HO := Lib.hid (fun w => V.refnum_any o w (by show _ < _; omega))
  have HK := Lib.hid (fun w => rkinds_any (o : Int) w)
  have hkk := kinds_ok (o : Int)
  have hkn := kinds_none (o : Int)
  have HX : Hid (bytesI o a b = V.encL o ++ (encP (rowAt o).ka a ++ encP (rowAt o).kb b)) := rfl
  have hl1 := V.encL_len o
  have hk1 := kind_one (o : Int)
  have hkb := kind_two (o : Int)
  clear ho hok hb
  generalize (rowAt (o : Int)).ka = ka at *
  generalize (rowAt (o : Int)).kb = kb at *
  have bx0 := Blk.new w 46 #[.int .i64 o, .int .i64 a, .int .i64 b]
  have gK := (Keep.refl NoB w).alloc (.cells #[.int .i64 o, .int .i64 a, .int .i64 b] 46)
  by_cases h0 : ka = 0
  · have h00 := hkn h0
    subst h0 h00
    have HX2 : Hid (bytesI o a b = V.encL o) := by show _ = _; rw [HX.out]; simp [encP_0]
    clear HX hA hB hkk hkn hk1 hkb
    go_enter Tryz.func56, Tryz.ntmps56
    go_wp2_with fail
    refine (HO.out _).mono ?_
    rintro e w1 ⟨v, rfl, hv, k1⟩
    obtain ⟨x0, x1, x2⟩ := blk_inst (bx0.keep k1 id)
    go_wp2_with fail
    refine (HK.out _).mono ?_
    rintro e w2 ⟨rfl, rfl⟩
    go_wp2
    go_ret
    rw [HX2.out]
    exact ⟨v, rfl, hv.mono (fun k hk _ => by unfold Fresh at hk ⊢; simp at hk; omega), keepN gK k1⟩
  · have q0 : decide (0 < ka) = true := by rw [decide_eq_true_iff]; omega
    by_cases h1 : ka = 1
    · subst h1
      have h00 := hk1 rfl
      subst h00
      have HX2 : Hid (bytesI o a b = V.encL o ++ V.encL (V.zig a)) := by show _ = _; rw [HX.out]; unfold encP; simp
      have hb1 := in_bounds hA
      have HZ := Lib.hid (fun w => V.rzig_any a w hb1.1.1 hb1.1.2)
      have HN := Lib.hid (fun w => V.refnum_any (V.zig a) w (V.zig_lt a hb1.1.1 hb1.1.2))
      have hl2 := V.encL_len (V.zig a)
      clear HX hA hB hkk hkn hk1 hb1 h0
      go_enter Tryz.func56, Tryz.ntmps56
      go_wp2_with fail
      refine (HO.out _).mono ?_
      rintro e w1 ⟨v, rfl, hv, k1⟩
      have bx := bx0.keep k1 id
      have hv : V.OwnB w1 (Fresh w) v (V.encL o) := hv.mono (fun k hk _ => by unfold Fresh at hk ⊢; simp at hk; omega)
      replace gK := keepN gK k1
      obtain ⟨x0, x1, x2⟩ := blk_inst bx
      go_wp2_with fail
      refine (HK.out _).mono ?_
      rintro e w2 ⟨rfl, rfl⟩
      go_wp2_with fail
      refine (HZ.out _).mono ?_
      rintro e w2 ⟨rfl, rfl⟩
      go_wp2_with fail
      refine (HN.out _).mono ?_
      rintro e w3 ⟨v2, rfl, hv2, k2⟩
      obtain ⟨A2, c2, rfl, _, hr2, _, _⟩ := hv2.form
      have hv3 := own_keep hv k2
      replace gK := keepN gK k2
      go_wp2_with (at_builtin; refine V.wpList_append_rd _ rfl _ _ rfl v (V.encL o) (V.encL (V.zig a)) A2 c2 rfl hv3.1 rfl hr2 (by omega) ?_; intro v' w4 hown' hg hat)
      go_ret
      rw [HX2.out]
      have := own_app hv3 gK hown' hg hat
      exact ⟨v', rfl, this.1, this.2⟩
    · have q1 : (ka == 1) = false := by rw [beq_eq_false_iff_ne]; exact h1
      obtain ⟨m, rfl, hm⟩ := nat_of h1 hA
      have hwm := wrap_u64 hm
      have HN := Lib.hid (fun w => V.refnum_any m w (by show _ < _; omega))
      have hl2 := V.encL_len m
      have e1 : encP ka (m : Int) = V.encL m := by unfold encP; rw [if_neg h0, if_neg h1]; simp
      by_cases h2 : kb = 0
      · subst h2
        have HX2 : Hid (bytesI o (m : Int) b = V.encL o ++ V.encL m) := by show _ = _; rw [HX.out, e1, encP_0]; simp
        clear HX hA hB hkk hkn hk1 h0 h1 e1 hm
        go_enter Tryz.func56, Tryz.ntmps56
        go_wp2_with fail
        refine (HO.out _).mono ?_
        rintro e w1 ⟨v, rfl, hv, k1⟩
        have bx := bx0.keep k1 id
        have hv : V.OwnB w1 (Fresh w) v (V.encL o) := hv.mono (fun k hk _ => by unfold Fresh at hk ⊢; simp at hk; omega)
        replace gK := keepN gK k1
        obtain ⟨x0, x1, x2⟩ := blk_inst bx
        go_wp2_with fail
        refine (HK.out _).mono ?_
        rintro e w2 ⟨rfl, rfl⟩
        go_wp2_with fail
        refine (HN.out _).mono ?_
        rintro e w3 ⟨v2, rfl, hv2, k2⟩
        obtain ⟨A2, c2, rfl, _, hr2, _, _⟩ := hv2.form
        have hv3 := own_keep hv k2
        replace gK := keepN gK k2
        go_wp2_with (at_builtin; refine V.wpList_append_rd _ rfl _ _ rfl v (V.encL o) (V.encL m) A2 c2 rfl hv3.1 rfl hr2 (by omega) ?_; intro v' w4 hown' hg hat)
        go_ret
        rw [HX2.out]
        have := own_app hv3 gK hown' hg hat
        exact ⟨v', rfl, this.1, this.2⟩
      · have hkb1 : kb ≠ 1 := hkb
        obtain ⟨n, rfl, hn⟩ := nat_of hkb1 hB
        have hwn := wrap_u64 hn
        have q2 : decide (0 < kb) = true := by rw [decide_eq_true_iff]; omega
        have HN2 := Lib.hid (fun w => V.refnum_any n w (by show _ < _; omega))
        have hl3 := V.encL_len n
        have e2 : encP kb (n : Int) = V.encL n := by unfold encP; rw [if_neg h2, if_neg hkb1]; simp
        have HX2 : Hid (bytesI o (m : Int) (n : Int) = (V.encL o ++ V.encL m) ++ V.encL n) := by show _ = _; rw [HX.out, e1, e2]; simp
        clear HX hA hB hkk hkn hk1 h0 h1 e1 e2 hm hn h2 hkb hkb1
        go_enter Tryz.func56, Tryz.ntmps56
        go_wp2_with fail
        refine (HO.out _).mono ?_
        rintro e w1 ⟨v, rfl, hv, k1⟩
        have bx := bx0.keep k1 id
        have hv : V.OwnB w1 (Fresh w) v (V.encL o) := hv.mono (fun k hk _ => by unfold Fresh at hk ⊢; simp at hk; omega)
        replace gK := keepN gK k1
        obtain ⟨x0, x1, x2⟩ := blk_inst bx
        go_wp2_with fail
        refine (HK.out _).mono ?_
        rintro e w2 ⟨rfl, rfl⟩
        go_wp2_with fail
        refine (HN.out _).mono ?_
        rintro e w3 ⟨v2, rfl, hv2, k2⟩
        obtain ⟨A2, c2, rfl, _, hr2, _, _⟩ := hv2.form
        have hv3 := own_keep hv k2
        have bx2 := bx.keep k2 id
        replace gK := keepN gK k2
        clear x0 x1 x2
        go_wp2_with (at_builtin; refine V.wpList_append_rd _ rfl _ _ rfl v (V.encL o) (V.encL m) A2 c2 rfl hv3.1 rfl hr2 (by omega) ?_; intro v' w4 hown' hg hat; have hap := own_app hv3 gK hown' hg hat; have hne : some w.heap.size ≠ v.ownBlock := (hv3.not_blk bx2 (by decide)).symm; have bx4 := bx2.grown hg hne; obtain ⟨x0, x1, x2⟩ := blk_inst bx4)
        go_wp2_with fail
        refine (HN2.out _).mono ?_
        rintro e w5 ⟨v5, rfl, hv5, k5⟩
        obtain ⟨A5, c5, rfl, _, hr5, _, _⟩ := hv5.form
        have hv6 := own_keep hap.1 k5
        have gK6 := keepN hap.2 k5
        go_wp2_with (at_builtin; refine V.wpList_append_rd _ rfl _ _ rfl v' (V.encL o ++ V.encL m) (V.encL n) A5 c5 rfl hv6.1 rfl hr5 (by simp; omega) ?_; intro v7 w7 hown7 hg7 hat7)
        go_ret
        rw [HX2.out]
        have := own_app hv6 gK6 hown7 hg7 hat7
        exact ⟨v7, rfl, this.1, this.2⟩

end Go.Proofs.YtonpplpfipfnfaaGreatDoor.O

namespace Go.Proofs.YtonpplpfipfnfaaGreatDoor.C
open Go.RowKit O

theorem bytesI_len (op a b : Int) : (bytesI op a b).length ≤ 27 := by
  unfold bytesI
  have h1 := V.encL_len op.toNat
  have h2 := encP_len (O.rowAt op).ka a
  have h3 := encP_len (O.rowAt op).kb b
  rw [List.length_append, List.length_append]
  omega
theorem byt_len : ∀ (l : List I3), (byt l).length ≤ 27 * l.length
  | [] => Nat.zero_le _
  | x :: l => by
    have h1 := bytesI_len x.1 x.2.1 x.2.2
    have h2 := byt_len l
    have e : byt (x :: l) = bytesI x.1 x.2.1 x.2.2 ++ byt l := rfl
    rw [e, List.length_append]
    simp only [List.length_cons]; omega
theorem wrap_n {n : Nat} (h : n ≤ 512) : IntKind.u64.wrap (n : Int) = (n : Int) := by simp [IntKind.wrap, IntKind.bits, IntKind.signed]; omega
theorem encB_ok {l : List I3} (h : okB l = true) : encB l = bytesB l := if_pos h
theorem encB_no {l : List I3} (h : okB l = false) : encB l = [] := if_neg (by rw [h]; decide)
theorem enc_one (op a b : Int) (w : World) (h : okI op a b = true) (ha : O.I64 a) (hb : O.I64 b) :
    Calls Tryz.prog 32 #[instV op a b] w fun e w' => ∃ v, e = .returned (.tuple #[v, .int .i64 0]) ∧ V.OwnB w' (Fresh w) v (bytesI op a b) ∧ Keep NoB w w' :=
  encode_yes op a b w h ha hb
/-- How Encode ends. -/
def EncR (w : World) (bs : List UInt8) (E : Int) (e : Ending) (w' : World) : Prop := ∃ v, e = .returned (.tuple #[v, .int .i64 E]) ∧ V.OwnB w' (Fresh w) v bs ∧ Keep NoB w w'
theorem encR_none {w w' : World} {E : Int} (h : Keep NoB w w') : EncR w [] E (.returned (.tuple #[.slice none 0 0, .int .i64 E])) w' := ⟨_, rfl, V.OwnB.nil _ _, h⟩
theorem ownB_older {w w0 w' : World} {v : Value} {l : List UInt8} (h : V.OwnB w' (Fresh w0) v l) (hk : Keep NoB w w0) : V.OwnB w' (Fresh w) v l := h.mono (fun _ hf _ => Nat.le_trans hk.size hf)

set_option maxRecDepth 100000 in
set_option maxHeartbeats 4000000 in
theorem cencode_any (A : Option Addr) (l : List I3) (n c : Nat) (w : World) (hr : Rd w A (iis l)) (hn : Hid (l.length = n)) (hI : Hid (AllI l)) (hm : n ≤ 9223372036854775807) :
    Calls Tryz.prog 10 #[.slice A n c] w (EncR w (encB l) (chkB l)) := by
  have hr0 := Lib.hid hr
  cases ho : okB l
  · rw [encB_no ho, chkB_no ho]
    have HC := Lib.hid (fun w hr => cchk_any A l n c w hr hn hm 50 (chkB_no ho))
    clear ho hr
    go_enter Tryz.func10, Tryz.ntmps10
    go_wp2_with (go_at_call 17; refine (HC.out _ hr0.out).mono ?_; rintro e w1 ⟨rfl, k1⟩)
    go_ret2
    exact encR_none k1
  · rw [encB_ok ho, chkB_ok ho]
    obtain ⟨h1, h5, _, hall⟩ := okB_parts ho
    rw [hn.out] at h1 h5
    have HC := Lib.hid (fun w hr => cchk_any A l n c w hr hn hm 0 (chkB_ok ho))
    have HA : Hid (∀ (k : Nat) (hk : k < l.length), okI l[k].1 l[k].2.1 l[k].2.2 = true) := fun k hk => (item_parts (okB_at ho hk)).1
    have HB : Hid (bytesB l = V.encL n ++ byt l) := by show _ = _; unfold bytesB; rw [hn.out]
    have hw64 := wrap_n h5
    have hl0 := V.encL_len n
    clear ho hr hall
    go_enter Tryz.func10, Tryz.ntmps10
    go_wp2_with fail
    refine (HC.out _ hr0.out).mono ?_
    rintro e w1 ⟨rfl, k1⟩
    have ht := V.TapeAt.new w1
    have hr1 := Lib.hid (hr0.out.keepN (k1.alloc (.cells #[.pointer none, .int .i64 0] 67)))
    have gK := k1.alloc (.cells #[.pointer none, .int .i64 0] 67)
    have hsz : w.heap.size ≤ w1.heap.size := k1.size
    go_wp2_with fail
    refine (V.tnumber_any _ w1.heap.size _ [] n ht (fun k e => by subst e; simp) (by simp)).mono ?_
    rintro e w2 ⟨rfl, ht2, k2⟩
    replace gK := gK.trans k2 (fun k e hl => by omega)
    have hr2 := Lib.hid (hr1.out.keep k2 (fun ad e ho => by
      have hlt : 0 < (iis l).length := by rw [iis_length, hn.out]; omega
      obtain ⟨g, off, e2, hc⟩ := hr0.out hlt
      rw [e2] at e; cases e
      obtain ⟨u, hu⟩ : ∃ u, (iis l)[0]? = some u := ⟨_, List.getElem?_eq_getElem hlt⟩
      have := World.block_lt_of_cell? w _ (hc 0 u hu)
      simp at this ho; omega))
    clear hr1 ht k1 k2
    rw [List.nil_append] at ht2
    go_wp2_with (go_at_call 31; refine (V.all_any w2 w1.heap.size _ (V.encL n) ht2 (by omega)).mono ?_; rintro e w3 ⟨v3, rfl, h3, k3⟩)
    have h3' := ownB_older h3 gK
    replace gK := keepN gK k3
    have hr3 := Lib.hid (hr2.out.keepN k3)
    clear ht2 h3 k3 hr2 hsz HC
    have gsz := gK.size
    go_loopw [5, 20] (fun v i wr => ∃ k : Nat, k ≤ n ∧ i = .int .i64 k ∧ V.OwnB wr (Fresh w) v (V.encL n ++ byt (l.take k)) ∧ Keep NoB w wr) (fun _ i _ => n - (intOf i).toNat)
    case atStart => exact ⟨0, Nat.zero_le _, rfl, by rw [List.take_zero]; simpa [byt] using h3', gK⟩
    case round =>
      obtain ⟨k, hk, rfl, hO, hK⟩ := hrel
      have hR := hr0.out.keepN hK
      clear h3' gK gsz hr3
      by_cases hlt : k < n
      · have hkl : k < l.length := by rw [hn.out]; exact hlt
        obtain ⟨g, off, rfl, hc⟩ := rdJ_at hR (by omega)
        obtain ⟨c0, c1, c2⟩ := hc k hkl
        have HT := Lib.hid (show l.take (k + 1) = l.take k ++ [l[k]] from List.take_succ_eq_append_getElem hkl)
        have hab := hI.out l[k] (List.getElem_mem hkl)
        have hok := HA.out k hkl
        have hl1 := byt_len (l.take k)
        rw [List.length_take] at hl1
        clear hc
        generalize l[k] = x at c0 c1 c2 HT hab hok
        obtain ⟨op, a, b⟩ := x
        dsimp only at c0 c1 c2 hab hok
        have HE := Lib.hid (fun w => enc_one op a b w hok hab.1 hab.2)
        have HX : Hid ((V.encL n ++ byt (l.take k)) ++ bytesI op a b = V.encL n ++ byt (l.take (k + 1))) := by show _ = _; rw [HT.out, byt_snoc, List.append_assoc]
        have hl2 := bytesI_len op a b
        have hl3 : (V.encL n ++ byt (l.take k)).length ≤ 20000 := by rw [List.length_append]; omega
        have hO1 := own_keep hO ((Keep.refl NoB wr).alloc (.cells #[.int .i64 op, .int .i64 a, .int .i64 b] 46))
        have hK1 := hK.alloc (.cells #[.int .i64 op, .int .i64 a, .int .i64 b] 46)
        have hR1 := hR.keepN ((Keep.refl NoB wr).alloc (.cells #[.int .i64 op, .int .i64 a, .int .i64 b] 46))
        clear hab hok HT hl1 hO hK hR hl0
        go_wp2_with fail
        refine (HE.out _).mono ?_
        rintro e w4 ⟨v4, rfl, h4, k4⟩
        obtain ⟨A4, c4, rfl, _, hr4, _, _⟩ := h4.form
        have hO2 := own_keep hO1 k4
        have hK2 := keepN hK1 k4
        have hR2 := hR1.keepN k4
        clear h4 k4 hO1 hK1 hR1 c0 c1 c2
        go_wp2_with (at_builtin; refine V.wpList_append_rd _ rfl _ _ rfl _ (V.encL n ++ byt (l.take k)) (bytesI op a b) A4 c4 rfl hO2.1 rfl hr4 (by omega) ?_; intro v5 w5 hown hg hat; obtain ⟨hO3, hK3⟩ := own_app hO2 hK2 hown hg hat; rw [HX.out] at hO3; clear hown hg hat)
        go_roundw
        case rel => exact ⟨k + 1, by omega, by go_num, hO3, hK3⟩
        case measure => simp [intOf]; omega
      · obtain rfl : k = n := by omega
        rw [List.take_of_length_le (by rw [hn.out]; omega), ← HB.out] at hO
        go_wp2
        go_ret2
        exact ⟨_, rfl, hO, hK⟩

end Go.Proofs.YtonpplpfipfnfaaGreatDoor.C

namespace Go.Proofs.YtonpplpfipfnfaaGreatDoor.C
open Go.RowKit O

theorem rb_one (op a b : Int) (w : World) (h : okI op a b = true) :
    Calls Tryz.prog 56 #[instV op a b] w fun e w' => ∃ v, e = .returned v ∧ V.OwnB w' (Fresh w) v (bytesI op a b) ∧ Keep NoB w w' := O.rbytes_any op a b w h

set_option maxRecDepth 100000 in
set_option maxHeartbeats 4000000 in
theorem rcbytes_any (A : Option Addr) (l : List I3) (n c : Nat) (w : World) (hr : Rd w A (iis l)) (hn : Hid (l.length = n)) (ho : okB l = true) :
    Calls Tryz.prog 33 #[.slice A n c] w fun e w' => ∃ v, e = .returned v ∧ V.OwnB w' (Fresh w) v (bytesB l) ∧ Keep NoB w w' := by
  have hr0 := Lib.hid hr
  obtain ⟨h1, h5, _, hall⟩ := okB_parts ho
  rw [hn.out] at h1 h5
  have HA : Hid (∀ (k : Nat) (hk : k < l.length), okI l[k].1 l[k].2.1 l[k].2.2 = true) := fun k hk => (item_parts (okB_at ho hk)).1
  have HB : Hid (bytesB l = V.encL n ++ byt l) := by show _ = _; unfold bytesB; rw [hn.out]
  have hw64 := wrap_n h5
  have HN := Lib.hid (fun w => V.refnum_any n w (by show _ < _; omega))
  have hl0 := V.encL_len n
  clear ho hr hall
  go_enter Tryz.func33, Tryz.ntmps33
  go_wp2_with fail
  refine (HN.out _).mono ?_
  rintro e w1 ⟨v1, rfl, hv1, gK⟩
  go_wp2
  go_loopw [3, 4] (fun v i wr => ∃ k : Nat, k ≤ n ∧ i = .int .i64 k ∧ V.OwnB wr (Fresh w) v (V.encL n ++ byt (l.take k)) ∧ Keep NoB w wr) (fun _ i _ => n - (intOf i).toNat)
  case atStart => exact ⟨0, Nat.zero_le _, rfl, by rw [List.take_zero]; simpa [byt] using hv1, gK⟩
  case round =>
    obtain ⟨k, hk, rfl, hO, hK⟩ := hrel
    have hR := hr0.out.keepN hK
    clear hv1 gK
    by_cases hlt : k < n
    · have hkl : k < l.length := by rw [hn.out]; exact hlt
      obtain ⟨g, off, rfl, hc⟩ := rdJ_at hR (by omega)
      obtain ⟨c0, c1, c2⟩ := hc k hkl
      have HT := Lib.hid (show l.take (k + 1) = l.take k ++ [l[k]] from List.take_succ_eq_append_getElem hkl)
      have hok := HA.out k hkl
      have hl1 := byt_len (l.take k)
      rw [List.length_take] at hl1
      clear hc hR
      generalize l[k] = x at c0 c1 c2 HT hok
      obtain ⟨op, a, b⟩ := x
      dsimp only at c0 c1 c2 hok
      have HE := Lib.hid (fun w => rb_one op a b w hok)
      have HX : Hid ((V.encL n ++ byt (l.take k)) ++ bytesI op a b = V.encL n ++ byt (l.take (k + 1))) := by show _ = _; rw [HT.out, byt_snoc, List.append_assoc]
      have hl2 := bytesI_len op a b
      have hl3 : (V.encL n ++ byt (l.take k)).length ≤ 20000 := by rw [List.length_append]; omega
      clear hok HT hl1 hl0
      go_wp2_with fail
      refine (HE.out _).mono ?_
      rintro e w4 ⟨v4, rfl, h4, k4⟩
      obtain ⟨A4, c4, rfl, _, hr4, _, _⟩ := h4.form
      have hO2 := own_keep hO k4
      have hK2 := keepN hK k4
      clear h4 k4 hO hK c0 c1 c2
      go_wp2_with (at_builtin; refine V.wpList_append_rd _ rfl _ _ rfl _ (V.encL n ++ byt (l.take k)) (bytesI op a b) A4 c4 rfl hO2.1 rfl hr4 (by omega) ?_; intro v5 w5 hown hg hat; obtain ⟨hO3, hK3⟩ := own_app hO2 hK2 hown hg hat; rw [HX.out] at hO3; clear hown hg hat)
      go_roundw
      case rel => exact ⟨k + 1, by omega, by go_num, hO3, hK3⟩
      case measure => simp [intOf]; omega
    · obtain rfl : k = n := by omega
      rw [List.take_of_length_le (by rw [hn.out]; omega), ← HB.out] at hO
      go_wp2
      go_ret
      exact ⟨_, rfl, hO, hK⟩

set_option maxRecDepth 100000 in
set_option maxHeartbeats 2000000 in
theorem rcencode_any (A : Option Addr) (l : List I3) (n c : Nat) (w : World) (hr : Rd w A (iis l)) (hn : Hid (l.length = n)) (hI : Hid (AllI l)) (hm : n ≤ 9223372036854775807) :
    Calls Tryz.prog 11 #[.slice A n c] w (EncR w (encB l) (chkB l)) := by
  have hr0 := Lib.hid hr
  cases ho : okB l
  · rw [encB_no ho, chkB_no ho]
    have HC := Lib.hid (fun w hr => rcchk_any A l n c w hr hn hI hm 50 (chkB_no ho))
    clear ho hr
    go_enter Tryz.func11, Tryz.ntmps11
    go_wp2_with (go_at_call 18; refine (HC.out _ hr0.out).mono ?_; rintro e w1 ⟨rfl, k1⟩)
    go_ret2
    exact encR_none k1
  · rw [encB_ok ho, chkB_ok ho]
    have HC := Lib.hid (fun w hr => rcchk_any A l n c w hr hn hI hm 0 (chkB_ok ho))
    have HB := Lib.hid (fun w hr => rcbytes_any A l n c w hr hn ho)
    clear ho hr
    go_enter Tryz.func11, Tryz.ntmps11
    go_wp2_with fail
    refine (HC.out _ hr0.out).mono ?_
    rintro e w1 ⟨rfl, k1⟩
    go_wp2_with fail
    refine (HB.out _ (hr0.out.keepN k1)).mono ?_
    rintro e w2 ⟨v, rfl, hv, k2⟩
    go_wp2
    go_ret2
    exact ⟨v, rfl, ownB_older hv k1, keepN k1 k2⟩

end Go.Proofs.YtonpplpfipfnfaaGreatDoor.C
