/-
  The plain mathematics of layer 1 (vary): zigzag, widths, digits, what a first byte tells; no program is named here. No conditions.
  What the small functions of vary and of the document's answers return (Zig, Zag, Width, mark, told): just the plain mathematics' numbers; the world stays. No conditions but that a number fits its type.
  The iterator that digits hands back: nine rounds, the highest place first, whatever the loop's body does that keeps the number's box. No conditions.
  encode: a number's bytes, in new memory. No condition but that the number fits its type.
-/
import Derived.Laws.Bits64
import Derived.Laws.BitsAllLaws
import Derived.Lib.Hide
import Derived.LoopIn
import Derived.LoopNIn
import Derived.Maps.AppendAt
import Derived.OwnWalkIn
import Derived.RangeFuncBound
import Derived.RangeFuncBox
import Derived.RangeFuncCalls
import Derived.RangeFuncLeaves
import Derived.RangeFuncNested
import Derived.Shelf.Abstract
import Derived.Shelf.RegionOpen
import Derived.TacticsInMore
import Derived.WalkKit
import Derived.WalkLawsBesides
import Derived.WalkSpells
import Derived.Test.YtifobiajjhknbaaGreatDoorProg
import Derived.Test.YtifobiajjhknbaaGreatDoorShelf
namespace Go.Proofs.YtifobiajjhknbaaGreatDoor.V
open Go.RowKit

/-- Zigzag. -/
def zig (n : Int) : Nat := if 0 ≤ n then (2 * n).toNat else (-2 * n - 1).toNat
/-- Its way back. -/
def zag (n : Nat) : Int := if n % 2 = 0 then ((n / 2 : Nat) : Int) else -((n / 2 : Nat) : Int) - 1

theorem zag_ge (n : Nat) (h : n < 18446744073709551616) : -9223372036854775808 ≤ zag n := by
  unfold zag; split <;> omega
theorem zag_le (n : Nat) (h : n < 18446744073709551616) : zag n ≤ 9223372036854775807 := by
  unfold zag; split <;> omega
theorem xor_ones (a : Nat) (ha : a < 18446744073709551616) : a ^^^ 18446744073709551615 = 18446744073709551615 - a := by
  have h : ((BitVec.ofNat 64 a) ^^^ BitVec.allOnes 64).toNat = (~~~ (BitVec.ofNat 64 a)).toNat := by rw [BitVec.xor_allOnes]
  rw [BitVec.toNat_xor, BitVec.toNat_not, BitVec.toNat_allOnes, BitVec.toNat_ofNat, Nat.mod_eq_of_lt (by omega)] at h
  simpa using h

theorem zig_form (n : Int) (h1 : -9223372036854775808 ≤ n) (h2 : n ≤ 9223372036854775807) :
    bits .xor .u64 (IntKind.u64.wrap (IntKind.u64.wrap n * 2)) (IntKind.u64.wrap (n / 9223372036854775808)) = (zig n : Int) := by
  simp only [IntKind.wrap_u64]
  by_cases h : 0 ≤ n
  · obtain ⟨m, rfl⟩ := Int.eq_ofNat_of_zero_le h
    have e1 : ((m : Int) % 18446744073709551616 * 2) % 18446744073709551616 = ((2 * m : Nat) : Int) := by omega
    have e2 : ((m : Int) / 9223372036854775808) % 18446744073709551616 = ((0 : Nat) : Int) := by omega
    rw [e1, e2, bits_xor_u64_nat _ _ (by omega) (by omega), Nat.xor_zero]
    unfold zig; rw [if_pos h]; omega
  · obtain ⟨x, hx⟩ : ∃ x : Nat, (x : Int) = 2 * n + 18446744073709551616 := ⟨(2 * n + 18446744073709551616).toNat, by omega⟩
    obtain ⟨y, hy⟩ : ∃ y : Nat, y = 18446744073709551615 := ⟨_, rfl⟩
    have e1 : (n % 18446744073709551616 * 2) % 18446744073709551616 = (x : Int) := by omega
    have e2 : (n / 9223372036854775808) % 18446744073709551616 = (y : Int) := by omega
    rw [e1, e2, bits_xor_u64_nat _ _ (by omega) (by omega), hy, xor_ones _ (by omega)]
    unfold zig; rw [if_neg h]; omega

theorem wrap_i64_lo (n : Nat) (h : n < 9223372036854775808) : IntKind.i64.wrap (n : Int) = n := by
  simp [IntKind.wrap, IntKind.bits, IntKind.signed]; omega
theorem wrap_i64_hi (n : Nat) (h1 : 9223372036854775808 ≤ n) (h2 : n < 18446744073709551616) : IntKind.i64.wrap (n : Int) = (n : Int) - 18446744073709551616 := by
  simp [IntKind.wrap, IntKind.bits, IntKind.signed]; omega

theorem zag_form (n : Nat) (h : n < 18446744073709551616) :
    bits .xor .i64 ((n : Int) / 2) (wrap64 (-wrap64 (bits .and .u64 (n : Int) 1))) = zag n := by
  have e0 : bits .and .u64 (n : Int) 1 = ((n % 2 : Nat) : Int) := by
    have := u64_and_nat n 1 h (by omega)
    rw [nat_mask1] at this
    exact this
  rw [e0]
  have hb : BitVec.ofInt 64 ((n : Int) / 2) = BitVec.ofNat 64 (n / 2) := by
    rw [show ((n : Int) / 2) = ((n / 2 : Nat) : Int) from by omega, BitVec.ofInt_natCast]
  by_cases hp : n % 2 = 0
  · rw [hp]
    have e1 : wrap64 (-wrap64 (((0 : Nat) : Int))) = 0 := by kernel_rfl
    rw [e1]
    unfold zag; rw [if_pos hp]
    show IntKind.i64.wrap (((BitVec.ofInt 64 ((n : Int) / 2) ^^^ BitVec.ofInt 64 0).toNat : Nat) : Int) = _
    rw [hb, show BitVec.ofInt 64 0 = 0#64 from rfl, BitVec.xor_zero, BitVec.toNat_ofNat, Nat.mod_eq_of_lt (by omega)]
    exact wrap_i64_lo _ (by omega)
  · have hp1 : n % 2 = 1 := by omega
    rw [hp1]
    have e1 : wrap64 (-wrap64 (((1 : Nat) : Int))) = -1 := by kernel_rfl
    rw [e1]
    unfold zag; rw [if_neg hp]
    show IntKind.i64.wrap (((BitVec.ofInt 64 ((n : Int) / 2) ^^^ BitVec.ofInt 64 (-1)).toNat : Nat) : Int) = _
    rw [hb, show BitVec.ofInt 64 (-1) = BitVec.allOnes 64 from rfl, BitVec.xor_allOnes, BitVec.toNat_not, BitVec.toNat_ofNat, Nat.mod_eq_of_lt (by omega)]
    rw [show (2 ^ 64 - 1 - n / 2 : Nat) = 18446744073709551615 - n / 2 from rfl, wrap_i64_hi _ (by omega) (by omega)]
    omega

/-- How many bytes a number has. -/
def wd (n : Nat) : Nat :=
  if n < 128 then 1 else if n < 16384 then 2 else if n < 2097152 then 3 else if n < 268435456 then 4 else if n < 34359738368 then 5
  else if n < 4398046511104 then 6 else if n < 562949953421312 then 7 else if n < 72057594037927936 then 8 else 9

theorem wd_pos (n : Nat) : 1 ≤ wd n := by unfold wd; repeat' split
                                          all_goals omega
theorem wd_le (n : Nat) : wd n ≤ 9 := by unfold wd; repeat' split
                                         all_goals omega
/-- A number lies below what its width holds. -/
theorem wd_lt (n : Nat) (h : wd n < 9) : n < 2 ^ (7 * wd n) := by
  revert h; unfold wd
  repeat' split
  all_goals (intro _; omega)
/-- .. and not below what a lesser width holds. -/
theorem wd_min (n k : Nat) (hk : k < wd n) (h1 : 1 ≤ k) : 2 ^ (7 * k) ≤ n := by
  revert hk; unfold wd
  repeat' split
  all_goals (intro hk; have hc : k = 1 ∨ k = 2 ∨ k = 3 ∨ k = 4 ∨ k = 5 ∨ k = 6 ∨ k = 7 ∨ k = 8 := by omega
             rcases hc with rfl | rfl | rfl | rfl | rfl | rfl | rfl | rfl <;> omega)
theorem wd_eq (n k : Nat) (h1 : 1 ≤ k) (h9 : k ≤ 9) (hlo : k = 1 ∨ 2 ^ (7 * (k - 1)) ≤ n) (hhi : k = 9 ∨ n < 2 ^ (7 * k)) : wd n = k := by
  have hw := wd_le n
  have hp := wd_pos n
  rcases Nat.lt_trichotomy (wd n) k with h | h | h
  · exfalso
    have hk1 : k ≠ 1 := by omega
    have hlo' : 2 ^ (7 * (k - 1)) ≤ n := by
      rcases hlo with h0 | h0
      · exact absurd h0 hk1
      · exact h0
    have h3 := wd_lt n (by omega)
    have h4 : 2 ^ (7 * wd n) ≤ 2 ^ (7 * (k - 1)) := Nat.pow_le_pow_right (by omega) (by omega)
    exact absurd (Nat.lt_of_lt_of_le h3 h4) (Nat.not_lt.2 hlo')
  · exact h
  · exfalso
    have h3 := wd_min n k h h1
    rcases hhi with h0 | h0
    · omega
    · exact absurd h0 (Nat.not_lt.2 h3)

end Go.Proofs.YtifobiajjhknbaaGreatDoor.V

namespace Go.Proofs.YtifobiajjhknbaaGreatDoor.V
open Go.RowKit

theorem ret_int {k : IntKind} {a b : Int} (h : a = b) : Ending.returned (.int k a) = .returned (.int k b) := by rw [h]

theorem zig_any (n : Int) (w : World) (h1 : -9223372036854775808 ≤ n) (h2 : n ≤ 9223372036854775807) :
    Calls Tryz.prog 253 #[.int .i64 n] w fun e w' => e = .returned (.int .u64 (zig n)) ∧ w = w' := by
  go_enter Tryz.func253, Tryz.ntmps253
  go_wp2
  go_ret
  exact ⟨ret_int (zig_form n h1 h2), rfl⟩

theorem zag_any (n : Nat) (w : World) (h : n < 18446744073709551616) :
    Calls Tryz.prog 254 #[.int .u64 n] w fun e w' => e = .returned (.int .i64 (zag n)) ∧ w = w' := by
  go_enter Tryz.func254, Tryz.ntmps254
  go_wp2
  go_ret
  exact ⟨ret_int (zag_form n h), rfl⟩

/-- The part of n that a width's digits do not hold. -/
theorem shr_zero (n k : Nat) : ((n : Int) / 2 ^ (7 * k) != 0) = false → n < 2 ^ (7 * k) := by
  intro h
  rw [bne_eq_false_iff_eq] at h
  have h' : n / 2 ^ (7 * k) = 0 := by exact_mod_cast h
  exact (Nat.div_eq_zero_iff_lt (Nat.two_pow_pos _)).1 h'
theorem shr_some (n k : Nat) : ((n : Int) / 2 ^ (7 * k) != 0) = true → 2 ^ (7 * k) ≤ n := by
  intro h
  rw [bne_iff_ne] at h
  have h' : n / 2 ^ (7 * k) ≠ 0 := by exact_mod_cast h
  rcases Nat.lt_or_ge n (2 ^ (7 * k)) with hl | hl
  · exact absurd (Nat.div_eq_of_lt hl) h'
  · exact hl

set_option maxHeartbeats 400000 in
theorem width_any (n : Nat) (w : World) :
    Calls Tryz.prog 235 #[.int .u64 n] w fun e w' => e = .returned (.int .i64 (wd n)) ∧ w = w' := by
  go_enter Tryz.func235, Tryz.ntmps235
  go_wp2
  go_loop [3] (fun i => ∃ k : Nat, 1 ≤ k ∧ k ≤ 9 ∧ (k = 1 ∨ 2 ^ (7 * (k - 1)) ≤ n) ∧ i = .int .i64 k) (fun i => 9 - (intOf i).toNat)
  case atStart => exact ⟨1, by omega, by omega, .inl rfl, rfl⟩
  case round =>
    obtain ⟨k, hk1, hk2, hlo, rfl⟩ := hrel
    have HLO := Lib.hid hlo
    clear hlo
    by_cases hlt : k < 9
    · go_wp2
      · have ht : ((n : Int) / 2 ^ (7 * k) != 0) = true := by assumption
        go_round
        case rel => exact ⟨k + 1, by omega, by omega, .inr (shr_some n k ht), by go_num⟩
        case measure => simp [intOf]; omega
      · have ht : ((n : Int) / 2 ^ (7 * k) != 0) = false := by assumption
        go_ret
        exact ⟨ret_int (by rw [wd_eq n k hk1 hk2 HLO.out (.inr (shr_zero n k ht))]), rfl⟩
    · go_wp2
      go_ret
      exact ⟨ret_int (by rw [wd_eq n k hk1 hk2 HLO.out (.inl (by omega))]), rfl⟩

/-- The bits of a first byte that tell a width. -/
def mk (w : Nat) : Nat := 65280 / 2 ^ (w - 1) % 256

theorem mk_form (k : Nat) (h1 : 1 ≤ k) (h2 : k ≤ 9) : (65280 : Int) / 2 ^ (k - 1) % 256 = (mk k : Int) := by
  have hc : k = 1 ∨ k = 2 ∨ k = 3 ∨ k = 4 ∨ k = 5 ∨ k = 6 ∨ k = 7 ∨ k = 8 ∨ k = 9 := by omega
  rcases hc with rfl | rfl | rfl | rfl | rfl | rfl | rfl | rfl | rfl <;> decide +kernel

theorem mark_any (k : Nat) (w : World) (h1 : 1 ≤ k) (h2 : k ≤ 9) :
    Calls Tryz.prog 237 #[.int .i64 k] w fun e w' => e = .returned (.int .u8 (mk k)) ∧ w = w' := by
  go_enter Tryz.func237, Tryz.ntmps237
  go_wp2
  go_ret
  exact ⟨ret_int (mk_form k h1 h2), rfl⟩

end Go.Proofs.YtifobiajjhknbaaGreatDoor.V

namespace Go.Proofs.YtifobiajjhknbaaGreatDoor.V
open Go.RowKit Go.Shelf
attribute [local go_sem] Oper.semAt_some

/-- A place: from 0 to 8. -/
abbrev Plc := { i : Nat // i ≤ 8 }
/-- The digit at a place. -/
def dgt (n i : Nat) : Nat := n / 2 ^ (8 * i) % 256
abbrev encD (n : Nat) (x : Plc) : Array Value := #[.int .i64 (x.1 : Int), .int .u8 (dgt n x.1 : Int)]
/-- What a round keeps: the number's box. -/
def KpC (B : Nat) (W W' : World) : Prop := ∀ v, W.cell? ⟨B, 0, none⟩ = some v → W'.cell? ⟨B, 0, none⟩ = some v
/-- The places that have come. -/
def down (j : Nat) : List Nat := (List.range j).map (8 - ·)
theorem down_succ (j : Nat) : down (j + 1) = down j ++ [8 - j] := by simp [down, List.range_succ]

set_option maxRecDepth 100000 in
set_option maxHeartbeats 1000000 in
theorem digits1_in (m l Bn n : Nat) (hm : 1 ≤ m) (J Jx : List Plc → World → Prop)
    (hY : ∀ pre x W, J pre W → pre.length < 9 → YieldAt Fence.wide (m - 1) Tryz.prog l (encD n x) W fun e W' =>
      (e = .returned (.bool true) ∧ J (pre ++ [x]) W' ∧ KpC Bn W W') ∨ (e = .returned (.bool false) ∧ Jx (pre ++ [x]) W'))
    (W : World) (hBn : W.cell? ⟨Bn, 0, none⟩ = some (.int .u64 n)) (h0 : J [] W) :
    CallsIn Fence.wide m Tryz.prog 250 #[.func (.yield l) #[] #[], .pointer (some ⟨Bn, 0, none⟩)] W fun e W' => (∃ v, e = .returned v) ∧
      ((∃ ys : List Plc, ys.map (·.1) = down 9 ∧ J ys W') ∨ (∃ pre, True ∧ Jx pre W')) := by
  refine callsIn_of_wp Tryz.func250 rfl trivial ?_ rfl
  simp only [Tryz.ntmps250, List.size_toArray, List.length_cons, List.length_nil, Nat.reduceAdd, Nat.reduceSub, Array.replicate_succ, Array.replicate_zero, List.push_toArray, List.append_toArray, List.nil_append, List.cons_append]
  gi_wp2
  gi_loopw [3] (fun p wr => ∃ (j : Nat) (pre : List Plc), j ≤ 9 ∧ p = .int .i64 (8 - (j : Int)) ∧ Hid (pre.map (·.1) = down j) ∧ J pre wr ∧ wr.cell? ⟨Bn, 0, none⟩ = some (.int .u64 n))
    (fun p _ => (intOf p + 1).toNat)
  case atStart => exact ⟨0, [], by omega, rfl, rfl, h0, hBn⟩
  case round =>
    obtain ⟨j, pre, hj, rfl, HP, hJ, hc⟩ := hrel
    by_cases hlt : j < 9
    · have hlen : pre.length < 9 := by
        have := congrArg List.length HP.out
        simp [down] at this
        omega
      obtain ⟨i, hi⟩ : ∃ i : Nat, (8 - (j : Int)) = i := ⟨8 - j, by omega⟩
      have hi8 : i ≤ 8 := by omega
      have hij : j = 8 - i := by omega
      subst hij
      rw [hi]
      clear hi
      obtain ⟨fn, tmps, assign, body, hy, hR⟩ := hY pre ⟨i, hi8⟩ wr hJ hlen
      dsimp only [encD] at hy
      simp only [dgt] at hy
      push_cast at hy
      gi_wp2
      refine hR.mono ?_
      rintro e W3 (⟨rfl, hJ3, hk3⟩ | ⟨rfl, hJx3⟩)
      · have hc3 := hk3 _ hc
        have hdn : Hid ((pre ++ [(⟨i, hi8⟩ : Plc)]).map (·.1) = down (8 - i + 1)) := by
          show (pre ++ [(⟨i, hi8⟩ : Plc)]).map (·.1) = down (8 - i + 1)
          rw [List.map_append, HP.out, down_succ]
          simp only [List.map_cons, List.map_nil]
          congr 2
          omega
        gi_wp2
        go_roundw
        case rel => exact ⟨8 - i + 1, _, by omega, by go_num, hdn, hJ3, hc3⟩
        case measure => simp [intOf]
      · gi_wp2
        refine bodyPost_ret (results_none rfl _ _ _) rfl ?_
        exact ⟨⟨_, rfl⟩, .inr ⟨_, trivial, hJx3⟩⟩
    · obtain rfl : j = 9 := by omega
      gi_wp2
      go_end0
      exact ⟨⟨_, rfl⟩, .inl ⟨pre, HP.out, hJ⟩⟩

/-- digits hands back a value that brings the nine places, whatever the rounds do but turn the number's box. -/
theorem digits_stops (m Bn n : Nat) (hm : 1 ≤ m) (w : World) (hB : Bn < w.heap.size) (hc : w.cell? ⟨Bn, 0, none⟩ = some (.int .u64 n)) :
    SeqStopsK Fence.wide m Tryz.prog 250 #[.pointer (some ⟨Bn, 0, none⟩)] (encD n) (KpC Bn) (fun ys : List Plc => ys.map (·.1) = down 9) (fun _ => True) 9 w := fun l J Jx W hW _ _ hY h0 =>
  digits1_in m l Bn n hm J Jx hY W ((hW.cell (p := ⟨Bn, 0, none⟩) hB).trans hc) h0

theorem kpC_t {Bn : Nat} {A B C : World} (h : KpC Bn A B) (k : KpC Bn B C) : KpC Bn A C := fun v hv => k v (h v hv)
theorem kpC_b {Bn : Nat} {w : World} (W : World) (l : Nat) (o o' : Obj) (_ : w.heap.size ≤ l) (h : W.heap[l]? = some o) (hc : o.isCells = false) (_ : o.isWalk = false) : KpC Bn W (W.putObj l o') := by
  intro v hv
  by_cases e : l = Bn
  · subst e
    exfalso
    cases o with
    | cells cs t f => cases hc
    | _ => simp [World.cell?, h] at hv
  · exact (World.cell?_of_block (World.putObj_heap_other (fun k => e k.symm))).trans hv

set_option maxHeartbeats 400000 in
theorem digits_any (m n : Nat) (w : World) :
    CallsIn Fence.wide m Tryz.prog 236 #[.int .u64 n] w fun e w' => e = .returned (.func (.func 250) #[] #[.pointer (some ⟨w.heap.size, 0, none⟩)]) ∧ w' = w.alloc (.cells #[.int .u64 n] 144) := by
  refine callsIn_of_wp Tryz.func236 rfl trivial ?_ rfl
  simp only [Tryz.ntmps236, List.size_toArray, List.length_cons, List.length_nil, Nat.reduceAdd, Nat.reduceSub, Array.replicate_succ, Array.replicate_zero, List.push_toArray, List.append_toArray, List.nil_append, List.cons_append]
  gi_wp2
  go_ret
  exact ⟨rfl, rfl⟩

end Go.Proofs.YtifobiajjhknbaaGreatDoor.V

namespace Go.Proofs.YtifobiajjhknbaaGreatDoor.V
open Go.RowKit Go.Shelf
attribute [local go_sem] Oper.semAt_some

/-- A byte as a cell. -/
abbrev bv (b : UInt8) : Value := .int .u8 (b.toNat : Int)
abbrev bvs (l : List UInt8) : List Value := l.map bv

/-- The byte of a number at a place, the mark with it where it is the first. -/
def encB (n i : Nat) : UInt8 := if i = wd n - 1 then UInt8.ofNat (dgt n i ||| mk (wd n)) else UInt8.ofNat (dgt n i)
/-- The bytes at those places that the width has. -/
def encF (n : Nat) (ps : List Nat) : List UInt8 := (ps.filter fun i => decide (i < wd n)).map (encB n)
/-- A number's bytes. -/
def encL (n : Nat) : List UInt8 := encF n (down 9)

theorem encF_hit (n : Nat) (ps : List Nat) (i : Nat) (h : i < wd n) : encF n (ps ++ [i]) = encF n ps ++ [encB n i] := by simp [encF, h]
theorem encF_miss (n : Nat) (ps : List Nat) (i : Nat) (h : ¬ i < wd n) : encF n (ps ++ [i]) = encF n ps := by simp [encF, h]
theorem encF_len (n : Nat) (ps : List Nat) : (encF n ps).length ≤ ps.length := by
  unfold encF; rw [List.length_map]; exact List.length_filter_le _ _
theorem dgt_lt (n i : Nat) : dgt n i < 256 := Nat.mod_lt _ (by omega)
theorem mk_lt (k : Nat) : mk k < 256 := Nat.mod_lt _ (by omega)
theorem bv_plain (n i : Nat) (h : ¬ i = wd n - 1) : (Value.int .u8 (dgt n i : Int)) = bv (encB n i) := by
  unfold bv encB; rw [if_neg h, UInt8.toNat_ofNat', Nat.mod_eq_of_lt (dgt_lt n i)]
theorem bv_first (n i : Nat) (h : i = wd n - 1) : (Value.int .u8 (bits .or .u8 (dgt n i : Int) (mk (wd n) : Int))) = bv (encB n i) := by
  unfold bv encB
  rw [if_pos h, UInt8.toNat_ofNat', u8_or_nat _ _ (dgt_lt n i) (mk_lt _), Nat.mod_eq_of_lt (Nat.or_lt_two_pow (n := 8) (dgt_lt n i) (mk_lt _))]

theorem wpIn_scope_wide {n : Nat} {P : Program} {c : Code} {Q : Exit → Act → World → Prop} {a : Act} {w : World} (h : c.wpIn Fence.wide n P (Exit.noGoto Q) a w) : (Code.scope c).wpIn Fence.wide n P Q a w :=
  wpIn_wide.2 (wp_scope_straight (wpIn_wide.1 h))

theorem u8_info : (Tryz.prog.info? 5).map (fun i => (i.zero, i.size, i.bytes)) = some (some (.int .u8 0), 1, 1) := by kernel_rfl

/-- What encode's loop keeps: the box of w, the box of b with what came, the number's box. -/
def EncI (w : World) (bb n : Nat) (pre : List Plc) (W : World) : Prop :=
  (∃ v, Boxed W bb 50 v ∧ W.ownsRow w.heap.size 5 1 v (encF n (pre.map (·.1))).length (bvs (encF n (pre.map (·.1)))) ∧ True) ∧
  Boxed W w.heap.size 3 (.int .i64 (wd n)) ∧ Boxed W (bb + 1) 144 (.int .u64 n) ∧ Below w.heap.size w W

theorem boxed_own' {β : Type} (B : Nat) (t : TypeId) (v : Value) : Own (fun (_ : β) W => Boxed W B t v) := by
  intro s X Y row h hg hrow
  refine h.kept hg (fun e => ?_)
  obtain ⟨o, ho, hc⟩ := hrow B e.symm
  rw [show X.heap[B]? = _ from h] at ho; cases ho; cases hc

theorem encI_own (w : World) (bb n B : Nat) (hB : w.heap.size ≤ B) : OwnFrom B (EncI w bb n) := by
  refine OwnFrom.and (Own.from (holdsRow_own w.heap.size bb 50 5 1 (fun pre : List Plc => (encF n (pre.map (·.1))).length) (fun pre : List Plc => bvs (encF n (pre.map (·.1)))) (fun _ _ => True)) _) ?_
  exact OwnFrom.and (Own.from (boxed_own' _ _ _) _) (OwnFrom.and (Own.from (boxed_own' _ _ _) _) (ownFrom_below (Nat.le_refl _) hB))

theorem boxed_far {W : World} {B B' : Nat} {t : TypeId} {v : Value} (h : Boxed W B t v) (hne : B ≠ B') (u : Value) : Boxed (W.setCell ⟨B', 0, none⟩ u) B t v :=
  (Below.heap_setCell _ _ _ _ hne).trans h

/-- A round that puts a byte behind: all that the loop keeps. -/
theorem enc_step {w W w1 : World} {bb n : Nat} {pre : List Plc} {x : Plc} {v v' : Value} {tmp : Obj}
    (hv : Boxed W bb 50 v) (hrow : W.ownsRow w.heap.size 5 1 v (encF n (pre.map (·.1))).length (bvs (encF n (pre.map (·.1)))))
    (hbw : Boxed W w.heap.size 3 (.int .i64 (wd n))) (hbn : Boxed W (bb + 1) 144 (.int .u64 n)) (hB : Below w.heap.size w W) (hbb : w.heap.size < bb) (hx : x.1 < wd n)
    (hown' : w1.ownsRow w.heap.size 5 1 v' ((encF n (pre.map (·.1))).length + 1) (bvs (encF n (pre.map (·.1))) ++ [bv (encB n x.1)])) (hgrow : (W.alloc tmp).grownBy w1 v.ownBlock) :
    KeepsOthers W (w1.setCell ⟨bb, 0, none⟩ v') ∧ KpC (bb + 1) W (w1.setCell ⟨bb, 0, none⟩ v') ∧ EncI w bb n (pre ++ [x]) (w1.setCell ⟨bb, 0, none⟩ v') := by
  obtain ⟨hv1, hv2, hr2, hk2, hb2⟩ := hv.appended (by decide) hrow hB.size (Nat.le_of_lt hbb) hown' hgrow
  have hbw2 := boxed_far (((hbw.alloc tmp).kept hgrow (hbw.not_row (by decide) hrow))) (B' := bb) (by omega) v'
  have hbn2 := boxed_far (((hbn.alloc tmp).kept hgrow (hbn.not_row (by decide) hrow))) (B' := bb) (by omega) v'
  refine ⟨hk2, fun u hu => ?_, ⟨v', hv2, ?_, trivial⟩, hbw2, hbn2, hB.trans hb2⟩
  · rw [hbn.cell] at hu; rw [hbn2.cell]; exact hu
  · rw [List.map_append]
    simp only [List.map_cons, List.map_nil]
    rw [encF_hit n _ _ hx]
    simpa using hr2

set_option maxRecDepth 100000 in
set_option maxHeartbeats 2000000 in
theorem encode_any (n : Nat) (w : World) :
    Calls Tryz.prog 221 #[.int .u64 n] w fun e w' => ∃ v, e = .returned v ∧ w'.ownsRow w.heap.size 5 1 v (encL n).length (bvs (encL n)) ∧ Below w.heap.size w w' := by
  have hw1 := wd_pos n
  have hw9 := wd_le n
  obtain ⟨i0, hi, hz0, hz1, hz2⟩ := info_parts u8_info
  refine (callsIn_wide (n := 4)).1 ?_
  refine callsIn_of_wp_marks Tryz.func221 rfl trivial ?_ rfl
  simp only [Tryz.ntmps221, List.size_toArray, List.length_cons, List.length_nil, Nat.reduceAdd, Nat.reduceSub, Array.replicate_succ, Array.replicate_zero, List.push_toArray, List.append_toArray, List.nil_append, List.cons_append]
  gi_wp2
  refine wpIn_scope_wide ?_
  gi_wp2_with (first | (refine ⟨trivial, ?_⟩; gi_at_call 235; refine (callsIn_wide.2 (width_any n _)).mono ?_; rintro e w' ⟨rfl, rfl⟩) | (refine ⟨trivial, ?_⟩; gi_at_call 236; refine (digits_any _ n _).mono ?_; rintro e w' ⟨rfl, rfl⟩) | (gi_at_make; refine wpListIn_make_own _ rfl _ _ 50 rfl w.heap.size 5 i0 (.int .u8 0) 1 Tryz.underlying50 hi hz0 hz1 _ _ _ (wd n) rfl rfl rfl (by rw [hz2]; omega) (by unfold maxLen; omega) (by simp) ?_; intro w1 hrow1 hg1))
  refine wpIn_label ?_
  have hs1 : w.heap.size + 2 ≤ w1.heap.size := by have := (hrow1.lt _ rfl).2; simp at this; omega
  have bW : Boxed w1 w.heap.size 3 (.int .i64 (wd n)) := (Boxed.new w 3 (.int .i64 (wd n))).kept hg1 (by simp)
  have bB := Boxed.new w1 50 (.slice (some ⟨w.heap.size + 1, 0, none⟩) 0 (wd n))
  have hB1 : Below w.heap.size w w1 := ((Below.refl _ w).alloc (Nat.le_refl _) _).grown hg1 (by simp) (by simp)
  have bN := Boxed.new (w1.alloc (.cells #[.slice (some ⟨w.heap.size + 1, 0, none⟩) 0 (wd n)] 50)) 144 (.int .u64 n)
  rw [World.size_alloc] at bN
  gi_wp2_with (refine ⟨trivial, ?_⟩; gi_at_call 236; refine (digits_any _ n _).mono ?_; rintro e w' ⟨rfl, rfl⟩)
  have hI0 : EncI w w1.heap.size n [] ((w1.alloc (Obj.cells #[Value.slice (some ⟨w.heap.size + 1, 0, none⟩) 0 (wd n)] 50)).alloc (Obj.cells #[Value.int IntKind.u64 n] 144)) := by
    refine ⟨⟨_, bB.alloc _, ?_, trivial⟩, (bW.alloc _).alloc _, bN, (hB1.alloc (by omega) _).alloc (by simp; omega) _⟩
    have hr := (hrow1.alloc (.cells #[.slice (some ⟨w.heap.size + 1, 0, none⟩) 0 (wd n)] 50)).alloc (.cells #[.int .u64 n] 144)
    simpa [encF] using hr
  refine wpIn_rangeFunc_ownG rfl (by omega) (gf := 250) (lb := #[.pointer (some ⟨w1.heap.size + 1, 0, none⟩)]) rfl trivial (enters_of Tryz.func250 (by kernel_rfl) rfl)
    (digits_stops _ (w1.heap.size + 1) n (by omega) _ (by simp) bN.cell) kpC_t kpC_b (Below.refl _ _) (fun _ => rfl)
    (EncI w w1.heap.size n) (fun _ _ _ => False) (encI_own w w1.heap.size n _ (by simp; omega)) (fun _ _ _ _ _ hs _ _ => hs) hI0
    (fun x => { tmps := #[.int .u64 n, undef, .slice none 0 0, .pointer (some ⟨w.heap.size, 0, none⟩), .pointer (some ⟨w1.heap.size, 0, none⟩), .int .i64 (x.1 : Int), .int .u8 (dgt n x.1 : Int), .int .u64 n, .int .i64 (wd n), .int .i64 (wd n), .slice (some ⟨w.heap.size + 1, 0, none⟩) 0 (wd n), .int .u64 n, .func (.func 250) #[] #[.pointer (some ⟨w1.heap.size + 1, 0, none⟩)], .int .i64 (x.1 : Int), .int .u8 (dgt n x.1 : Int), undef, undef, undef, undef, undef, undef, undef, undef, undef, undef, undef, undef, undef, undef, undef, undef, undef, undef], defers := [] }) ?assign ?body ?done ?stop
  case assign =>
    intro l x W K hK
    gi_wp2
    exact hK
  case body =>
    rintro l pre x W ⟨⟨v, hv, hrow, _⟩, hbw, hbn, hB⟩ hlt
    have hcv := hv.cell
    have hcw := hbw.cell
    have hpl : (encF n (pre.map (·.1))).length ≤ 8 := by have := encF_len n (pre.map (·.1)); rw [List.length_map] at this; omega
    obtain ⟨x, hx8⟩ := x
    have hd := dgt_lt n x
    by_cases hx : x < wd n
    · by_cases hf : x = wd n - 1
      · have hb : ((x : Int) == (wd n : Int) - 1) = true := by rw [beq_iff_eq]; omega
        have HE := Lib.hid (bv_first n x hf)
        clear hf
        gi_wp2_with (first | (refine ⟨trivial, ?_⟩; gi_at_call 237; refine (CallsIn.inRound l (callsIn_wide.2 (mark_any (wd n) _ hw1 hw9))).mono ?_; rintro e w' ⟨rfl, rfl⟩) | (gi_at_builtin; refine wpListIn_append_own _ rfl _ _ 50 rfl w.heap.size 5 i0 (.int .u8 0) 1 1 Tryz.underlying50 hi hz0 hz1 hz2 rfl (by decide) _ _ _ rfl (hrow.alloc _) ⟨W.heap.size, 0, none⟩ 1 1 [.int .u8 (bits .or .u8 (dgt n x : Int) (mk (wd n) : Int))] rfl rfl (cell_one_new _ _ _) (by simp [Value.oneCell']) (by unfold maxLen; omega) (by omega) (by have := hB.size; simp; omega) ?_; intro v' w2 hown' hgrow _; obtain ⟨g', cap', rfl⟩ := ownsRow_succ hown'; rw [HE.out] at hown'; have hst := enc_step (x := ⟨x, hx8⟩) hv hrow hbw hbn hB (by omega) hx hown' hgrow; have hv2 := (hv.alloc _).kept hgrow (hv.not_row (by decide) hrow); have hc1 := hv2.cell; have hf1 := hv2.frozen))
        exact ⟨hst.1.from _, hst.2⟩
      · have hb : ((x : Int) == (wd n : Int) - 1) = false := by rw [beq_eq_false_iff_ne]; omega
        have HE := Lib.hid (bv_plain n x hf)
        clear hf
        gi_wp2_with (gi_at_builtin; refine wpListIn_append_own _ rfl _ _ 50 rfl w.heap.size 5 i0 (.int .u8 0) 1 1 Tryz.underlying50 hi hz0 hz1 hz2 rfl (by decide) _ _ _ rfl (hrow.alloc _) ⟨W.heap.size, 0, none⟩ 1 1 [.int .u8 (dgt n x : Int)] rfl rfl (cell_one_new _ _ _) (by simp [Value.oneCell']) (by unfold maxLen; omega) (by omega) (by have := hB.size; simp; omega) ?_; intro v' w2 hown' hgrow _; obtain ⟨g', cap', rfl⟩ := ownsRow_succ hown'; rw [HE.out] at hown'; have hst := enc_step (x := ⟨x, hx8⟩) hv hrow hbw hbn hB (by omega) hx hown' hgrow; have hv2 := (hv.alloc _).kept hgrow (hv.not_row (by decide) hrow); have hc1 := hv2.cell; have hf1 := hv2.frozen)
        exact ⟨hst.1.from _, hst.2⟩
    · have HM := Lib.hid (encF_miss n (pre.map (·.1)) x hx)
      gi_wp2
      refine ⟨KeepsFrom.refl _ _, fun u hu => hu, ⟨v, hv, ?_, trivial⟩, hbw, hbn, hB⟩
      rw [List.map_append]
      simp only [List.map_cons, List.map_nil]
      rw [HM.out]
      exact hrow
  case done =>
    rintro D ys W hD hS ⟨⟨v, hv, hrow, _⟩, _, _, hB⟩ hK
    have hc := hv.cell
    gi_wp2
    refine ⟨by simp, .inl ⟨_, _, rfl, run_takeDeferred hK, ?_⟩⟩
    rw [hS] at hrow
    exact ⟨_, results_tmp rfl _ _ _, v, rfl, ownsRow_putObj hrow _ hK rfl, hB.trans (belowK_b (w := w) (Nat.le_refl _) W D _ _ (by simp at hD; omega) hK rfl rfl)⟩
  case stop =>
    rintro D c pre W _ _ h _
    exact h.elim

end Go.Proofs.YtifobiajjhknbaaGreatDoor.V
