/-
  The plain mathematics of layer 1 (vary): zigzag, widths, digits, what a first byte tells; no program is named here. No conditions.
  What the small functions of vary and of the document's answers return (Zig, Zag, Width, mark, told): just the plain mathematics' numbers; the world stays. No conditions but that a number fits its type.
  The iterator that digits hands back: nine rounds, the highest place first, whatever the loop's body does that keeps the number's box. No conditions.
  encode: a number's bytes, in new memory. No condition but that the number fits its type.
-/
import Derived.Laws.Bits64
import Derived.Laws.BitsAllLaws
import Derived.Lib.Hide
import Derived.LoopIn
import Derived.LoopNIn
import Derived.Maps.AppendAt
import Derived.OwnWalkIn
import Derived.RangeFuncBound
import Derived.RangeFuncBox
import Derived.RangeFuncCalls
import Derived.RangeFuncLeaves
import Derived.RangeFuncNested
import Derived.Shelf.Abstract
import Derived.Shelf.RegionOpen
import Derived.TacticsInMore
import Derived.WalkKit
import Derived.WalkLawsBesides
import Derived.WalkSpells
import Derived.Test.YtbnekeomdhljhaaDoorProg
import Derived.Test.YtbnekeomdhljhaaDoorShelf
namespace Go.Proofs.YtbnekeomdhljhaaDoor.V
open Go.RowKit

/-- Zigzag. -/
def zig (n : Int) : Nat := if 0 ≤ n then (2 * n).toNat else (-2 * n - 1).toNat
/-- Its way back. -/
def zag (n : Nat) : Int := if n % 2 = 0 then ((n / 2 : Nat) : Int) else -((n / 2 : Nat) : Int) - 1

theorem zig_lt (n : Int) (h1 : -9223372036854775808 ≤ n) (h2 : n ≤ 9223372036854775807) : zig n < 18446744073709551616 := by
  unfold zig; split <;> omega
theorem zag_ge (n : Nat) (h : n < 18446744073709551616) : -9223372036854775808 ≤ zag n := by
  unfold zag; split <;> omega
theorem zag_le (n : Nat) (h : n < 18446744073709551616) : zag n ≤ 9223372036854775807 := by
  unfold zag; split <;> omega
theorem zag_zig (n : Int) : zag (zig n) = n := by
  unfold zig zag; split <;> split <;> omega
theorem zig_zag (n : Nat) : zig (zag n) = n := by
  unfold zig zag; split <;> split <;> omega
theorem zig_inj (a b : Int) : zig a = zig b ↔ a = b :=
  ⟨fun h => by rw [← zag_zig a, ← zag_zig b, h], fun h => by rw [h]⟩

theorem xor_ones (a : Nat) (ha : a < 18446744073709551616) : a ^^^ 18446744073709551615 = 18446744073709551615 - a := by
  have h : ((BitVec.ofNat 64 a) ^^^ BitVec.allOnes 64).toNat = (~~~ (BitVec.ofNat 64 a)).toNat := by rw [BitVec.xor_allOnes]
  rw [BitVec.toNat_xor, BitVec.toNat_not, BitVec.toNat_allOnes, BitVec.toNat_ofNat, Nat.mod_eq_of_lt (by omega)] at h
  simpa using h

theorem zig_form (n : Int) (h1 : -9223372036854775808 ≤ n) (h2 : n ≤ 9223372036854775807) :
    bits .xor .u64 (IntKind.u64.wrap (IntKind.u64.wrap n * 2)) (IntKind.u64.wrap (n / 9223372036854775808)) = (zig n : Int) := by
  simp only [IntKind.wrap_u64]
  by_cases h : 0 ≤ n
  · obtain ⟨m, rfl⟩ := Int.eq_ofNat_of_zero_le h
    have e1 : ((m : Int) % 18446744073709551616 * 2) % 18446744073709551616 = ((2 * m : Nat) : Int) := by omega
    have e2 : ((m : Int) / 9223372036854775808) % 18446744073709551616 = ((0 : Nat) : Int) := by omega
    rw [e1, e2, bits_xor_u64_nat _ _ (by omega) (by omega), Nat.xor_zero]
    unfold zig; rw [if_pos h]; omega
  · obtain ⟨x, hx⟩ : ∃ x : Nat, (x : Int) = 2 * n + 18446744073709551616 := ⟨(2 * n + 18446744073709551616).toNat, by omega⟩
    obtain ⟨y, hy⟩ : ∃ y : Nat, y = 18446744073709551615 := ⟨_, rfl⟩
    have e1 : (n % 18446744073709551616 * 2) % 18446744073709551616 = (x : Int) := by omega
    have e2 : (n / 9223372036854775808) % 18446744073709551616 = (y : Int) := by omega
    rw [e1, e2, bits_xor_u64_nat _ _ (by omega) (by omega), hy, xor_ones _ (by omega)]
    unfold zig; rw [if_neg h]; omega

theorem wrap_i64_lo (n : Nat) (h : n < 9223372036854775808) : IntKind.i64.wrap (n : Int) = n := by
  simp [IntKind.wrap, IntKind.bits, IntKind.signed]; omega
theorem wrap_i64_hi (n : Nat) (h1 : 9223372036854775808 ≤ n) (h2 : n < 18446744073709551616) : IntKind.i64.wrap (n : Int) = (n : Int) - 18446744073709551616 := by
  simp [IntKind.wrap, IntKind.bits, IntKind.signed]; omega

theorem zag_form (n : Nat) (h : n < 18446744073709551616) :
    bits .xor .i64 ((n : Int) / 2) (wrap64 (-wrap64 (bits .and .u64 (n : Int) 1))) = zag n := by
  have e0 : bits .and .u64 (n : Int) 1 = ((n % 2 : Nat) : Int) := by
    have := u64_and_nat n 1 h (by omega)
    rw [nat_mask1] at this
    exact this
  rw [e0]
  have hb : BitVec.ofInt 64 ((n : Int) / 2) = BitVec.ofNat 64 (n / 2) := by
    rw [show ((n : Int) / 2) = ((n / 2 : Nat) : Int) from by omega, BitVec.ofInt_natCast]
  by_cases hp : n % 2 = 0
  · rw [hp]
    have e1 : wrap64 (-wrap64 (((0 : Nat) : Int))) = 0 := by kernel_rfl
    rw [e1]
    unfold zag; rw [if_pos hp]
    show IntKind.i64.wrap (((BitVec.ofInt 64 ((n : Int) / 2) ^^^ BitVec.ofInt 64 0).toNat : Nat) : Int) = _
    rw [hb, show BitVec.ofInt 64 0 = 0#64 from rfl, BitVec.xor_zero, BitVec.toNat_ofNat, Nat.mod_eq_of_lt (by omega)]
    exact wrap_i64_lo _ (by omega)
  · have hp1 : n % 2 = 1 := by omega
    rw [hp1]
    have e1 : wrap64 (-wrap64 (((1 : Nat) : Int))) = -1 := by kernel_rfl
    rw [e1]
    unfold zag; rw [if_neg hp]
    show IntKind.i64.wrap (((BitVec.ofInt 64 ((n : Int) / 2) ^^^ BitVec.ofInt 64 (-1)).toNat : Nat) : Int) = _
    rw [hb, show BitVec.ofInt 64 (-1) = BitVec.allOnes 64 from rfl, BitVec.xor_allOnes, BitVec.toNat_not, BitVec.toNat_ofNat, Nat.mod_eq_of_lt (by omega)]
    rw [show (2 ^ 64 - 1 - n / 2 : Nat) = 18446744073709551615 - n / 2 from rfl, wrap_i64_hi _ (by omega) (by omega)]
    omega

/-- How many bytes a number has. -/
def wd (n : Nat) : Nat :=
  if n < 128 then 1 else if n < 16384 then 2 else if n < 2097152 then 3 else if n < 268435456 then 4 else if n < 34359738368 then 5
  else if n < 4398046511104 then 6 else if n < 562949953421312 then 7 else if n < 72057594037927936 then 8 else 9

theorem wd_pos (n : Nat) : 1 ≤ wd n := by unfold wd; repeat' split
                                          all_goals omega
theorem wd_le (n : Nat) : wd n ≤ 9 := by unfold wd; repeat' split
                                         all_goals omega
/-- A number lies below what its width holds. -/
theorem wd_lt (n : Nat) (h : wd n < 9) : n < 2 ^ (7 * wd n) := by
  revert h; unfold wd
  repeat' split
  all_goals (intro _; omega)
/-- .. and not below what a lesser width holds. -/
theorem wd_min (n k : Nat) (hk : k < wd n) (h1 : 1 ≤ k) : 2 ^ (7 * k) ≤ n := by
  revert hk; unfold wd
  repeat' split
  all_goals (intro hk; have hc : k = 1 ∨ k = 2 ∨ k = 3 ∨ k = 4 ∨ k = 5 ∨ k = 6 ∨ k = 7 ∨ k = 8 := by omega
             rcases hc with rfl | rfl | rfl | rfl | rfl | rfl | rfl | rfl <;> omega)
theorem wd_mono {a b : Nat} (h : a ≤ b) : wd a ≤ wd b := by
  rcases Nat.lt_or_ge (wd b) (wd a) with hl | hl
  · have h1 := wd_min a (wd b) hl (wd_pos b)
    have h2 := wd_lt b (by have := wd_le a; omega)
    omega
  · exact hl
theorem wd_eq (n k : Nat) (h1 : 1 ≤ k) (h9 : k ≤ 9) (hlo : k = 1 ∨ 2 ^ (7 * (k - 1)) ≤ n) (hhi : k = 9 ∨ n < 2 ^ (7 * k)) : wd n = k := by
  have hw := wd_le n
  have hp := wd_pos n
  rcases Nat.lt_trichotomy (wd n) k with h | h | h
  · exfalso
    have hk1 : k ≠ 1 := by omega
    have hlo' : 2 ^ (7 * (k - 1)) ≤ n := by
      rcases hlo with h0 | h0
      · exact absurd h0 hk1
      · exact h0
    have h3 := wd_lt n (by omega)
    have h4 : 2 ^ (7 * wd n) ≤ 2 ^ (7 * (k - 1)) := Nat.pow_le_pow_right (by omega) (by omega)
    exact absurd (Nat.lt_of_lt_of_le h3 h4) (Nat.not_lt.2 hlo')
  · exact h
  · exfalso
    have h3 := wd_min n k h h1
    rcases hhi with h0 | h0
    · omega
    · exact absurd h0 (Nat.not_lt.2 h3)

end Go.Proofs.YtbnekeomdhljhaaDoor.V

namespace Go.Proofs.YtbnekeomdhljhaaDoor.V
open Go.RowKit

theorem ret_int {k : IntKind} {a b : Int} (h : a = b) : Ending.returned (.int k a) = .returned (.int k b) := by rw [h]

/-- The part of n that a width's digits do not hold. -/
theorem shr_zero (n k : Nat) : ((n : Int) / 2 ^ (7 * k) != 0) = false → n < 2 ^ (7 * k) := by
  intro h
  rw [bne_eq_false_iff_eq] at h
  have h' : n / 2 ^ (7 * k) = 0 := by exact_mod_cast h
  exact (Nat.div_eq_zero_iff_lt (Nat.two_pow_pos _)).1 h'
theorem shr_some (n k : Nat) : ((n : Int) / 2 ^ (7 * k) != 0) = true → 2 ^ (7 * k) ≤ n := by
  intro h
  rw [bne_iff_ne] at h
  have h' : n / 2 ^ (7 * k) ≠ 0 := by exact_mod_cast h
  rcases Nat.lt_or_ge n (2 ^ (7 * k)) with hl | hl
  · exact absurd (Nat.div_eq_of_lt hl) h'
  · exact hl

theorem pow128 (k : Nat) : (128 : Nat) ^ k = 2 ^ (7 * k) := by rw [Nat.pow_mul]

/-- The bits of a first byte that tell a width. -/
def mk (w : Nat) : Nat := 65280 / 2 ^ (w - 1) % 256

theorem mk_form (k : Nat) (h1 : 1 ≤ k) (h2 : k ≤ 9) : (65280 : Int) / 2 ^ (k - 1) % 256 = (mk k : Int) := by
  have hc : k = 1 ∨ k = 2 ∨ k = 3 ∨ k = 4 ∨ k = 5 ∨ k = 6 ∨ k = 7 ∨ k = 8 ∨ k = 9 := by omega
  rcases hc with rfl | rfl | rfl | rfl | rfl | rfl | rfl | rfl | rfl <;> decide +kernel

end Go.Proofs.YtbnekeomdhljhaaDoor.V

namespace Go.Proofs.YtbnekeomdhljhaaDoor.V
open Go.RowKit Go.Shelf
attribute [local go_sem] Oper.semAt_some

/-- A place: from 0 to 8. -/
abbrev Plc := { i : Nat // i ≤ 8 }
/-- The digit at a place. -/
def dgt (n i : Nat) : Nat := n / 2 ^ (8 * i) % 256
abbrev encD (n : Nat) (x : Plc) : Array Value := #[.int .i64 (x.1 : Int), .int .u8 (dgt n x.1 : Int)]
/-- What a round keeps: the number's box. -/
def KpC (B : Nat) (W W' : World) : Prop := ∀ v, W.cell? ⟨B, 0, none⟩ = some v → W'.cell? ⟨B, 0, none⟩ = some v
/-- The places that have come. -/
def down (j : Nat) : List Nat := (List.range j).map (8 - ·)
theorem down_succ (j : Nat) : down (j + 1) = down j ++ [8 - j] := by simp [down, List.range_succ]

theorem kpC_t {Bn : Nat} {A B C : World} (h : KpC Bn A B) (k : KpC Bn B C) : KpC Bn A C := fun v hv => k v (h v hv)
theorem kpC_b {Bn : Nat} {w : World} (W : World) (l : Nat) (o o' : Obj) (_ : w.heap.size ≤ l) (h : W.heap[l]? = some o) (hc : o.isCells = false) (_ : o.isWalk = false) : KpC Bn W (W.putObj l o') := by
  intro v hv
  by_cases e : l = Bn
  · subst e
    exfalso
    cases o with
    | cells cs t f => cases hc
    | _ => simp [World.cell?, h] at hv
  · exact (World.cell?_of_block (World.putObj_heap_other (fun k => e k.symm))).trans hv

end Go.Proofs.YtbnekeomdhljhaaDoor.V

namespace Go.Proofs.YtbnekeomdhljhaaDoor.V
open Go.RowKit Go.Shelf
attribute [local go_sem] Oper.semAt_some

/-- A byte as a cell. -/
abbrev bv (b : UInt8) : Value := .int .u8 (b.toNat : Int)
abbrev bvs (l : List UInt8) : List Value := l.map bv

/-- The byte of a number at a place, the mark with it where it is the first. -/
def encB (n i : Nat) : UInt8 := if i = wd n - 1 then UInt8.ofNat (dgt n i ||| mk (wd n)) else UInt8.ofNat (dgt n i)
/-- The bytes at those places that the width has. -/
def encF (n : Nat) (ps : List Nat) : List UInt8 := (ps.filter fun i => decide (i < wd n)).map (encB n)
/-- A number's bytes. -/
def encL (n : Nat) : List UInt8 := encF n (down 9)

theorem encF_hit (n : Nat) (ps : List Nat) (i : Nat) (h : i < wd n) : encF n (ps ++ [i]) = encF n ps ++ [encB n i] := by simp [encF, h]
theorem encF_miss (n : Nat) (ps : List Nat) (i : Nat) (h : ¬ i < wd n) : encF n (ps ++ [i]) = encF n ps := by simp [encF, h]
theorem encF_len (n : Nat) (ps : List Nat) : (encF n ps).length ≤ ps.length := by
  unfold encF; rw [List.length_map]; exact List.length_filter_le _ _
theorem dgt_lt (n i : Nat) : dgt n i < 256 := Nat.mod_lt _ (by omega)
theorem mk_lt (k : Nat) : mk k < 256 := Nat.mod_lt _ (by omega)
theorem bv_plain (n i : Nat) (h : ¬ i = wd n - 1) : (Value.int .u8 (dgt n i : Int)) = bv (encB n i) := by
  unfold bv encB; rw [if_neg h, UInt8.toNat_ofNat', Nat.mod_eq_of_lt (dgt_lt n i)]
theorem bv_first (n i : Nat) (h : i = wd n - 1) : (Value.int .u8 (bits .or .u8 (dgt n i : Int) (mk (wd n) : Int))) = bv (encB n i) := by
  unfold bv encB
  rw [if_pos h, UInt8.toNat_ofNat', u8_or_nat _ _ (dgt_lt n i) (mk_lt _), Nat.mod_eq_of_lt (Nat.or_lt_two_pow (n := 8) (dgt_lt n i) (mk_lt _))]

theorem wpIn_scope_wide {n : Nat} {P : Program} {c : Code} {Q : Exit → Act → World → Prop} {a : Act} {w : World} (h : c.wpIn Fence.wide n P (Exit.noGoto Q) a w) : (Code.scope c).wpIn Fence.wide n P Q a w :=
  wpIn_wide.2 (wp_scope_straight (wpIn_wide.1 h))

theorem u8_info : (Tryd.prog.info? 5).map (fun i => (i.zero, i.size, i.bytes)) = some (some (.int .u8 0), 1, 1) := by kernel_rfl

/-- What encode's loop keeps: the box of w, the box of b with what came, the number's box. -/
def EncI (w : World) (bb n : Nat) (pre : List Plc) (W : World) : Prop :=
  (∃ v, Boxed W bb 117 v ∧ W.ownsRow w.heap.size 5 1 v (encF n (pre.map (·.1))).length (bvs (encF n (pre.map (·.1)))) ∧ True) ∧
  Boxed W w.heap.size 3 (.int .i64 (wd n)) ∧ Boxed W (bb + 1) 114 (.int .u64 n) ∧ Below w.heap.size w W

theorem boxed_own' {β : Type} (B : Nat) (t : TypeId) (v : Value) : Own (fun (_ : β) W => Boxed W B t v) := by
  intro s X Y row h hg hrow
  refine h.kept hg (fun e => ?_)
  obtain ⟨o, ho, hc⟩ := hrow B e.symm
  rw [show X.heap[B]? = _ from h] at ho; cases ho; cases hc

theorem encI_own (w : World) (bb n B : Nat) (hB : w.heap.size ≤ B) : OwnFrom B (EncI w bb n) := by
  refine OwnFrom.and (Own.from (holdsRow_own w.heap.size bb 117 5 1 (fun pre : List Plc => (encF n (pre.map (·.1))).length) (fun pre : List Plc => bvs (encF n (pre.map (·.1)))) (fun _ _ => True)) _) ?_
  exact OwnFrom.and (Own.from (boxed_own' _ _ _) _) (OwnFrom.and (Own.from (boxed_own' _ _ _) _) (ownFrom_below (Nat.le_refl _) hB))

theorem boxed_far {W : World} {B B' : Nat} {t : TypeId} {v : Value} (h : Boxed W B t v) (hne : B ≠ B') (u : Value) : Boxed (W.setCell ⟨B', 0, none⟩ u) B t v :=
  (Below.heap_setCell _ _ _ _ hne).trans h

/-- A round that puts a byte behind: all that the loop keeps. -/
theorem enc_step {w W w1 : World} {bb n : Nat} {pre : List Plc} {x : Plc} {v v' : Value} {tmp : Obj}
    (hv : Boxed W bb 117 v) (hrow : W.ownsRow w.heap.size 5 1 v (encF n (pre.map (·.1))).length (bvs (encF n (pre.map (·.1)))))
    (hbw : Boxed W w.heap.size 3 (.int .i64 (wd n))) (hbn : Boxed W (bb + 1) 114 (.int .u64 n)) (hB : Below w.heap.size w W) (hbb : w.heap.size < bb) (hx : x.1 < wd n)
    (hown' : w1.ownsRow w.heap.size 5 1 v' ((encF n (pre.map (·.1))).length + 1) (bvs (encF n (pre.map (·.1))) ++ [bv (encB n x.1)])) (hgrow : (W.alloc tmp).grownBy w1 v.ownBlock) :
    KeepsOthers W (w1.setCell ⟨bb, 0, none⟩ v') ∧ KpC (bb + 1) W (w1.setCell ⟨bb, 0, none⟩ v') ∧ EncI w bb n (pre ++ [x]) (w1.setCell ⟨bb, 0, none⟩ v') := by
  obtain ⟨hv1, hv2, hr2, hk2, hb2⟩ := hv.appended (by decide) hrow hB.size (Nat.le_of_lt hbb) hown' hgrow
  have hbw2 := boxed_far (((hbw.alloc tmp).kept hgrow (hbw.not_row (by decide) hrow))) (B' := bb) (by omega) v'
  have hbn2 := boxed_far (((hbn.alloc tmp).kept hgrow (hbn.not_row (by decide) hrow))) (B' := bb) (by omega) v'
  refine ⟨hk2, fun u hu => ?_, ⟨v', hv2, ?_, trivial⟩, hbw2, hbn2, hB.trans hb2⟩
  · rw [hbn.cell] at hu; rw [hbn2.cell]; exact hu
  · rw [List.map_append]
    simp only [List.map_cons, List.map_nil]
    rw [encF_hit n _ _ hx]
    simpa using hr2

end Go.Proofs.YtbnekeomdhljhaaDoor.V
