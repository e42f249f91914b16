/-
  ValueBack's walk, its second half: what is read of any text has just this. Conditions: the listed variables hold what their initialisers lay.
-/
import Derived.Test.YtkhbmbkjaeaamaaDoorWLists
import Derived.Test.YtkhbmbkjaeaamaaDoorWAlive4
namespace Go.Proofs.YtkhbmbkjaeaamaaDoor
open Go.RowKit

theorem r_cases (t : Int) (s : List UInt8) : (rT t s = 0 ∧ rN t s = 0 ∧ (rE t s = 20 ∨ rE t s = 21)) ∨ ∃ n, rT t s = t ∧ rN t s = n ∧ rE t s = 0 ∧ showL t n = s ∧ okB t n = true ∧ I64 n := by
  cases hk : knownB t
  · obtain ⟨e1, e2, e3⟩ := r_bad s hk
    exact .inl ⟨e1, e2, .inl e3⟩
  · cases hr : rd t s with
    | none =>
      obtain ⟨e1, e2, e3⟩ := r_none hk hr
      exact .inl ⟨e1, e2, .inr e3⟩
    | some n =>
      obtain ⟨e1, e2, e3⟩ := r_some hk hr
      obtain ⟨h1, h2, h3, _⟩ := rd_some hk hr
      exact .inr ⟨n, e1, e2, e3, h1, h2, h3⟩

set_option maxRecDepth 100000 in
set_option maxHeartbeats 40000000 in
theorem back_bad (w : World) (ta na tb nb t : Int) (S : ByteArray) (s : List UInt8) (Al : Hid AliveC) (hg : S.size ≤ 2000) (hL : LetAt w) (h : Laid w) (hs : Hid (S.data.toList = s)) (hok : okB ta na = false) :
    Calls Tryd.prog 6 #[.agg #[.int .i64 ta, .int .i64 na], .agg #[.int .i64 tb, .int .i64 nb], .int .i64 t, .string S] w fun e w' => e = .returned (.bool true) ∧ Keep NoB w w' := by
  have hk0 := ((Keep.refl NoB w).alloc (.cells #[.int .i64 ta, .int .i64 na] 35)).alloc (.cells #[.int .i64 tb, .int .i64 nb] 35)
  have hA := (Blk.new w 35 #[.int .i64 ta, .int .i64 na]).alloc (.cells #[.int .i64 tb, .int .i64 nb] 35)
  have HC := Lib.hid (fun W => check_bad ta na W hok)
  have HR := Lib.hid (fun W (hW : Laid W) => read_any t S s W hs (by omega) hW)
  go_enter Tryd.func6, Tryd.ntmps6
  go_wp2_with fail
  generalize (w.alloc (.cells #[.int .i64 ta, .int .i64 na] 35)).alloc (.cells #[.int .i64 tb, .int .i64 nb] 35) = w0 at hk0 hA ⊢
  refine (Al.out _ (hL.keep hk0) (h.keep hk0)).mono ?_
  rintro e w1 ⟨rfl, hk1⟩
  have hA1 := hA.keep hk1 id
  have a0 : w1.cell? ⟨w.heap.size, 0, none⟩ = some (.int .i64 ta) := hA1.cell 0
  have a1 : w1.cell? ⟨w.heap.size, 1, none⟩ = some (.int .i64 na) := hA1.cell 1
  have hK1 := keepN hk0 hk1
  go_wp2_with (first | (go_at_call 9; refine (great_no S none none 0 0 0 0 _ hg (by decide) (by decide)).mono ?_; rintro e w' ⟨rfl, rfl⟩) | (go_at_call 30; refine (HC.out _).mono ?_; rintro e w2 ⟨rfl, hk2⟩) | fail)
  have hK2 := keepN hK1 hk2
  clear a0 a1 hA hA1 hk0 hk1 HC
  refine (HR.out _ (h.keep hK2)).mono ?_
  rintro e w3 ⟨rfl, hk3⟩
  have hK3 := keepN hK2 hk3
  have hK4 := hK3.alloc (.cells #[.int .i64 (rT t s), .int .i64 (rN t s)] 35)
  have hB := Blk.new w3 35 #[.int .i64 (rT t s), .int .i64 (rN t s)]
  have hL4 := hL.keep hK4
  have h4 := h.keep hK4
  rcases r_cases t s with ⟨e1, e2, e3⟩ | ⟨n, e1, e2, e3, e4, e5, e6⟩
  · rw [e1, e2] at hB hK4 ⊢
    rcases e3 with e3 | e3
    all_goals
      rw [e3]
      go_wp2
      go_ret
      exact ⟨rfl, hK4⟩
  · rw [e1, e2] at hB hK4 h4 ⊢
    rw [e3]
    have hq : (s == S.toList) = true := by rw [ByteArray.toList_eq, hs.out, beq_self_eq_true]
    have HS := Lib.hid (fun W (hW : Laid W) => show_any t n W e6 hW)
    rw [e4] at HS
    have HC2 := Lib.hid (fun W => check_ok t n W e5)
    clear e1 e2 e3 e4 e5 HR
    go_wp2_with fail
    generalize w3.alloc (.cells #[.int .i64 t, .int .i64 n] 35) = w4 at hB hK4 h4 ⊢
    refine (HS.out _ h4).mono ?_
    rintro e w5 ⟨rfl, hk5⟩
    have hB5 := hB.keep hk5 id
    have c0 : w5.cell? ⟨w3.heap.size, 0, none⟩ = some (.int .i64 t) := hB5.cell 0
    have c1 : w5.cell? ⟨w3.heap.size, 1, none⟩ = some (.int .i64 n) := hB5.cell 1
    go_wp2_with (first | (go_at_call 30; refine (HC2.out _).mono ?_; rintro e w6 ⟨rfl, hk6⟩) | fail)
    go_ret
    exact ⟨rfl, keepN (keepN hK4 hk5) hk6⟩

end Go.Proofs.YtkhbmbkjaeaamaaDoor
