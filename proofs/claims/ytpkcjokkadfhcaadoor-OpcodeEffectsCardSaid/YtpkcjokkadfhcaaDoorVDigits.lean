/-
  The iterator that digits hands back: nine rounds, the highest place first, whatever the loop's body does that keeps the number's box. No conditions.
-/
import Derived.RangeFuncBox
import Derived.RangeFuncNested
import Derived.RangeFuncBound
import Derived.RangeFuncCalls
import Derived.RangeFuncLeaves
import Derived.Shelf.Abstract
import Derived.Shelf.RegionOpen
import Derived.WalkKit
import Derived.OwnWalkIn
import Derived.TacticsInMore
import Derived.LoopNIn
import Derived.LoopIn
import Derived.Maps.AppendAt
import Derived.Test.YtpkcjokkadfhcaaDoorVLeaf
namespace Go.Proofs.YtpkcjokkadfhcaaDoor.V
open Go.RowKit Go.Shelf
attribute [local go_sem] Oper.semAt_some

/-- A place: from 0 to 8. -/
abbrev Plc := { i : Nat // i ≤ 8 }
/-- The digit at a place. -/
def dgt (n i : Nat) : Nat := n / 2 ^ (8 * i) % 256
abbrev encD (n : Nat) (x : Plc) : Array Value := #[.int .i64 (x.1 : Int), .int .u8 (dgt n x.1 : Int)]
/-- What a round keeps: the number's box. -/
def KpC (B : Nat) (W W' : World) : Prop := ∀ v, W.cell? ⟨B, 0, none⟩ = some v → W'.cell? ⟨B, 0, none⟩ = some v
/-- The places that have come. -/
def down (j : Nat) : List Nat := (List.range j).map (8 - ·)
theorem down_succ (j : Nat) : down (j + 1) = down j ++ [8 - j] := by simp [down, List.range_succ]

set_option maxRecDepth 100000 in
set_option maxHeartbeats 1000000 in
theorem digits1_in (m l Bn n : Nat) (hm : 1 ≤ m) (J Jx : List Plc → World → Prop)
    (hY : ∀ pre x W, J pre W → pre.length < 9 → YieldAt Fence.wide (m - 1) Tryd.prog l (encD n x) W fun e W' =>
      (e = .returned (.bool true) ∧ J (pre ++ [x]) W' ∧ KpC Bn W W') ∨ (e = .returned (.bool false) ∧ Jx (pre ++ [x]) W'))
    (W : World) (hBn : W.cell? ⟨Bn, 0, none⟩ = some (.int .u64 n)) (h0 : J [] W) :
    CallsIn Fence.wide m Tryd.prog 58 #[.func (.yield l) #[] #[], .pointer (some ⟨Bn, 0, none⟩)] W fun e W' => (∃ v, e = .returned v) ∧
      ((∃ ys : List Plc, ys.map (·.1) = down 9 ∧ J ys W') ∨ (∃ pre, True ∧ Jx pre W')) := by
  refine callsIn_of_wp Tryd.func58 rfl trivial ?_ rfl
  simp only [Tryd.ntmps58, List.size_toArray, List.length_cons, List.length_nil, Nat.reduceAdd, Nat.reduceSub, Array.replicate_succ, Array.replicate_zero, List.push_toArray, List.append_toArray, List.nil_append, List.cons_append]
  gi_wp2
  gi_loopw [3] (fun p wr => ∃ (j : Nat) (pre : List Plc), j ≤ 9 ∧ p = .int .i64 (8 - (j : Int)) ∧ Hid (pre.map (·.1) = down j) ∧ J pre wr ∧ wr.cell? ⟨Bn, 0, none⟩ = some (.int .u64 n))
    (fun p _ => (intOf p + 1).toNat)
  case atStart => exact ⟨0, [], by omega, rfl, rfl, h0, hBn⟩
  case round =>
    obtain ⟨j, pre, hj, rfl, HP, hJ, hc⟩ := hrel
    by_cases hlt : j < 9
    · have hlen : pre.length < 9 := by
        have := congrArg List.length HP.out
        simp [down] at this
        omega
      obtain ⟨i, hi⟩ : ∃ i : Nat, (8 - (j : Int)) = i := ⟨8 - j, by omega⟩
      have hi8 : i ≤ 8 := by omega
      have hij : j = 8 - i := by omega
      subst hij
      rw [hi]
      clear hi
      obtain ⟨fn, tmps, assign, body, hy, hR⟩ := hY pre ⟨i, hi8⟩ wr hJ hlen
      dsimp only [encD] at hy
      simp only [dgt] at hy
      push_cast at hy
      gi_wp2
      refine hR.mono ?_
      rintro e W3 (⟨rfl, hJ3, hk3⟩ | ⟨rfl, hJx3⟩)
      · have hc3 := hk3 _ hc
        have hdn : Hid ((pre ++ [(⟨i, hi8⟩ : Plc)]).map (·.1) = down (8 - i + 1)) := by
          show (pre ++ [(⟨i, hi8⟩ : Plc)]).map (·.1) = down (8 - i + 1)
          rw [List.map_append, HP.out, down_succ]
          simp only [List.map_cons, List.map_nil]
          congr 2
          omega
        gi_wp2
        go_roundw
        case rel => exact ⟨8 - i + 1, _, by omega, by go_num, hdn, hJ3, hc3⟩
        case measure => simp [intOf]
      · gi_wp2
        refine bodyPost_ret (results_none rfl _ _ _) rfl ?_
        exact ⟨⟨_, rfl⟩, .inr ⟨_, trivial, hJx3⟩⟩
    · obtain rfl : j = 9 := by omega
      gi_wp2
      go_end0
      exact ⟨⟨_, rfl⟩, .inl ⟨pre, HP.out, hJ⟩⟩

/-- digits hands back a value that brings the nine places, whatever the rounds do but turn the number's box. -/
theorem digits_stops (m Bn n : Nat) (hm : 1 ≤ m) (w : World) (hB : Bn < w.heap.size) (hc : w.cell? ⟨Bn, 0, none⟩ = some (.int .u64 n)) :
    SeqStopsK Fence.wide m Tryd.prog 58 #[.pointer (some ⟨Bn, 0, none⟩)] (encD n) (KpC Bn) (fun ys : List Plc => ys.map (·.1) = down 9) (fun _ => True) 9 w := fun l J Jx W hW _ _ hY h0 =>
  digits1_in m l Bn n hm J Jx hY W ((hW.cell (p := ⟨Bn, 0, none⟩) hB).trans hc) h0

theorem kpC_t {Bn : Nat} {A B C : World} (h : KpC Bn A B) (k : KpC Bn B C) : KpC Bn A C := fun v hv => k v (h v hv)
theorem kpC_b {Bn : Nat} {w : World} (W : World) (l : Nat) (o o' : Obj) (_ : w.heap.size ≤ l) (h : W.heap[l]? = some o) (hc : o.isCells = false) (_ : o.isWalk = false) : KpC Bn W (W.putObj l o') := by
  intro v hv
  by_cases e : l = Bn
  · subst e
    exfalso
    cases o with
    | cells cs t f => cases hc
    | _ => simp [World.cell?, h] at hv
  · exact (World.cell?_of_block (World.putObj_heap_other (fun k => e k.symm))).trans hv

set_option maxHeartbeats 400000 in
theorem digits_any (m n : Nat) (w : World) :
    CallsIn Fence.wide m Tryd.prog 51 #[.int .u64 n] w fun e w' => e = .returned (.func (.func 58) #[] #[.pointer (some ⟨w.heap.size, 0, none⟩)]) ∧ w' = w.alloc (.cells #[.int .u64 n] 68) := by
  refine callsIn_of_wp Tryd.func51 rfl trivial ?_ rfl
  simp only [Tryd.ntmps51, List.size_toArray, List.length_cons, List.length_nil, Nat.reduceAdd, Nat.reduceSub, Array.replicate_succ, Array.replicate_zero, List.push_toArray, List.append_toArray, List.nil_append, List.cons_append]
  gi_wp2
  go_ret
  exact ⟨rfl, rfl⟩

end Go.Proofs.YtpkcjokkadfhcaaDoor.V
