/-
  Binary: the map of its operations is filled, and asked: what Binary answers (BinC). No conditions.
-/
import Derived.Test.YtoljghgmpilecaaDoorAClos
namespace Go.Proofs.YtoljghgmpilecaaDoor
open Go.RowKit Go.Maps

theorem intKey : Keyed Tryd.prog 3 := int_keyed Tryd.underlying3

theorem key_at (c : Int) (h : I64 c) : keyOf Tryd.prog 3 (.int .i64 c) = some (.int .i64 c) := by
  have hw : (Lit.int .i64 c).wf = true := by
    have hmin : IntKind.i64.min = -9223372036854775808 := rfl
    have hmax : IntKind.i64.max = 9223372036854775807 := rfl
    unfold I64 at h
    simp only [Lit.wf, Bool.and_eq_true, decide_eq_true_eq]; omega
  simp [keyOf, mapKey, Tryd.underlying3, hw]

def tab (m0 m1 m2 m3 : Nat) : DataW Unit := (((((((((((((((DataW.map [] : DataW Unit).put (.int .i64 0) (fnD 24)).put (.int .i64 1) (fnD 25)).put (.int .i64 2) (fnD 26)).put (.int .i64 3) (boxD 50 m0)).put (.int .i64 4) (boxD 50 m1)).put (.int .i64 5) (fnD 30)).put (.int .i64 6) (fnD 31)).put (.int .i64 7) (fnD 32)).put (.int .i64 8) (fnD 33)).put (.int .i64 9) (boxD 52 m2)).put (.int .i64 10) (boxD 52 m3)).put (.int .i64 11) (fnD 37)).put (.int .i64 12) (fnD 39)).put (.int .i64 13) (fnD 40))
def cells (m0 m1 m2 m3 : Nat) : List (Nat × Value) := [(m3, .func (.func 36) #[] #[]), (m2, .func (.func 35) #[] #[]), (m1, .func (.func 29) #[] #[]), (m0, .func (.func 28) #[] #[])]

theorem guarded_made (g : Nat) (w : World) : Calls Tryd.prog 27 #[.func (.func g) #[] #[]] w fun e w' => ∃ m, e = .returned (boxF 50 m) ∧ w.heap.size ≤ m ∧ w'.cell? ⟨m, 0, none⟩ = some (.func (.func g) #[] #[]) ∧ Keep NoB w w' := by
  have hmf : ∀ (fn : Fn) (first cap : Array Value) (w : World), (Instr.makeFunc fn first cap).run Tryd.prog w = .ok (.func fn first cap) w := fun _ _ _ _ => rfl
  go_enter Tryd.func27, Tryd.ntmps27
  go_wp2
  go_ret
  exact ⟨w.heap.size, rfl, Nat.le_refl _, by simp [go_sem], (Keep.refl NoB w).alloc _⟩

theorem shifting_made (g : Nat) (w : World) : Calls Tryd.prog 34 #[.func (.func g) #[] #[]] w fun e w' => ∃ m, e = .returned (boxF 52 m) ∧ w.heap.size ≤ m ∧ w'.cell? ⟨m, 0, none⟩ = some (.func (.func g) #[] #[]) ∧ Keep NoB w w' := by
  have hmf : ∀ (fn : Fn) (first cap : Array Value) (w : World), (Instr.makeFunc fn first cap).run Tryd.prog w = .ok (.func fn first cap) w := fun _ _ _ _ => rfl
  go_enter Tryd.func34, Tryd.ntmps34
  go_wp2
  go_ret
  exact ⟨w.heap.size, rfl, Nat.le_refl _, by simp [go_sem], (Keep.refl NoB w).alloc _⟩

set_option maxRecDepth 100000 in
set_option maxHeartbeats 8000000 in
theorem ops_any (w : World) :
    Calls Tryd.prog 22 #[] w fun e w' => ∃ b m0 m1 m2 m3, e = .returned (.map (some b)) ∧ FMap Tryd.prog 3 w b 14 (tab m0 m1 m2 m3) (cells m0 m1 m2 m3) w' := by
  have hmm := @run_makeMap Tryd.prog
  have hf0 := fmap_new Tryd.prog 3 w w (Keep.refl _ _)
  go_enter Tryd.func22, Tryd.ntmps22
  go_wp2_with (first | (refine wpList_insert_fun w _ rfl _ _ _ _ rfl _ _ intKey Tryd.underlying47 _ _ _ _ rfl hf0 (by unfold maxLen; omega) _ _ _ rfl rfl (key_at _ (by unfold I64; omega)) _ _ (funElem_mk _) ?_; clear hf0; intro w1 hf0) | (refine wpList_insert_fun w _ rfl _ _ _ _ rfl _ _ intKey Tryd.underlying47 _ _ _ _ rfl hf0 (by unfold maxLen; omega) _ _ _ rfl rfl (key_at _ (by unfold I64; omega)) _ _ (funElem_box _ _) ?_; clear hf0; intro w1 hf0) | (go_at_call 27; refine (guarded_made _ _).mono ?_; rintro e wa ⟨m, rfl, hm, hc, hk⟩; replace hf0 := hf0.boxed hk hm hc; clear hm hc hk) | (go_at_call 34; refine (shifting_made _ _).mono ?_; rintro e wa ⟨m, rfl, hm, hc, hk⟩; replace hf0 := hf0.boxed hk hm hc; clear hm hc hk))
  go_ret
  exact ⟨_, _, _, _, _, rfl, hf0⟩

theorem zero_fun (w : World) : (zeroValue 45).run Tryd.prog w = .ok .nilFunc w := by kernel_rfl
theorem keyLit (i : Int) : WideAt.IsKeyLit (.int .i64 i) := trivial
theorem litne {i j : Int} (h : i ≠ j) : (Lit.int .i64 i) ≠ (Lit.int .i64 j) := fun e => by injection e with _ e; exact h e
theorem tab_0 (m0 m1 m2 m3 : Nat) : (tab m0 m1 m2 m3).atKey (.int .i64 0) .nil = (fnD 24) ∧ has (tab m0 m1 m2 m3) (.int .i64 0) = true := by
  unfold tab
  exact ⟨by rw [atKey_put_other (litne (by decide)), atKey_put_other (litne (by decide)), atKey_put_other (litne (by decide)), atKey_put_other (litne (by decide)), atKey_put_other (litne (by decide)), atKey_put_other (litne (by decide)), atKey_put_other (litne (by decide)), atKey_put_other (litne (by decide)), atKey_put_other (litne (by decide)), atKey_put_other (litne (by decide)), atKey_put_other (litne (by decide)), atKey_put_other (litne (by decide)), atKey_put_other (litne (by decide)), atKey_put_same isMap_empty (keyLit 0)], by rw [has_put_other (litne (by decide)), has_put_other (litne (by decide)), has_put_other (litne (by decide)), has_put_other (litne (by decide)), has_put_other (litne (by decide)), has_put_other (litne (by decide)), has_put_other (litne (by decide)), has_put_other (litne (by decide)), has_put_other (litne (by decide)), has_put_other (litne (by decide)), has_put_other (litne (by decide)), has_put_other (litne (by decide)), has_put_other (litne (by decide)), has_put_same isMap_empty (keyLit 0)]⟩
theorem tab_1 (m0 m1 m2 m3 : Nat) : (tab m0 m1 m2 m3).atKey (.int .i64 1) .nil = (fnD 25) ∧ has (tab m0 m1 m2 m3) (.int .i64 1) = true := by
  unfold tab
  exact ⟨by rw [atKey_put_other (litne (by decide)), atKey_put_other (litne (by decide)), atKey_put_other (litne (by decide)), atKey_put_other (litne (by decide)), atKey_put_other (litne (by decide)), atKey_put_other (litne (by decide)), atKey_put_other (litne (by decide)), atKey_put_other (litne (by decide)), atKey_put_other (litne (by decide)), atKey_put_other (litne (by decide)), atKey_put_other (litne (by decide)), atKey_put_other (litne (by decide)), atKey_put_same (isMap_empty.put _ _) (keyLit 1)], by rw [has_put_other (litne (by decide)), has_put_other (litne (by decide)), has_put_other (litne (by decide)), has_put_other (litne (by decide)), has_put_other (litne (by decide)), has_put_other (litne (by decide)), has_put_other (litne (by decide)), has_put_other (litne (by decide)), has_put_other (litne (by decide)), has_put_other (litne (by decide)), has_put_other (litne (by decide)), has_put_other (litne (by decide)), has_put_same (isMap_empty.put _ _) (keyLit 1)]⟩
theorem tab_2 (m0 m1 m2 m3 : Nat) : (tab m0 m1 m2 m3).atKey (.int .i64 2) .nil = (fnD 26) ∧ has (tab m0 m1 m2 m3) (.int .i64 2) = true := by
  unfold tab
  exact ⟨by rw [atKey_put_other (litne (by decide)), atKey_put_other (litne (by decide)), atKey_put_other (litne (by decide)), atKey_put_other (litne (by decide)), atKey_put_other (litne (by decide)), atKey_put_other (litne (by decide)), atKey_put_other (litne (by decide)), atKey_put_other (litne (by decide)), atKey_put_other (litne (by decide)), atKey_put_other (litne (by decide)), atKey_put_other (litne (by decide)), atKey_put_same ((isMap_empty.put _ _).put _ _) (keyLit 2)], by rw [has_put_other (litne (by decide)), has_put_other (litne (by decide)), has_put_other (litne (by decide)), has_put_other (litne (by decide)), has_put_other (litne (by decide)), has_put_other (litne (by decide)), has_put_other (litne (by decide)), has_put_other (litne (by decide)), has_put_other (litne (by decide)), has_put_other (litne (by decide)), has_put_other (litne (by decide)), has_put_same ((isMap_empty.put _ _).put _ _) (keyLit 2)]⟩
theorem tab_3 (m0 m1 m2 m3 : Nat) : (tab m0 m1 m2 m3).atKey (.int .i64 3) .nil = (boxD 50 m0) ∧ has (tab m0 m1 m2 m3) (.int .i64 3) = true := by
  unfold tab
  exact ⟨by rw [atKey_put_other (litne (by decide)), atKey_put_other (litne (by decide)), atKey_put_other (litne (by decide)), atKey_put_other (litne (by decide)), atKey_put_other (litne (by decide)), atKey_put_other (litne (by decide)), atKey_put_other (litne (by decide)), atKey_put_other (litne (by decide)), atKey_put_other (litne (by decide)), atKey_put_other (litne (by decide)), atKey_put_same (((isMap_empty.put _ _).put _ _).put _ _) (keyLit 3)], by rw [has_put_other (litne (by decide)), has_put_other (litne (by decide)), has_put_other (litne (by decide)), has_put_other (litne (by decide)), has_put_other (litne (by decide)), has_put_other (litne (by decide)), has_put_other (litne (by decide)), has_put_other (litne (by decide)), has_put_other (litne (by decide)), has_put_other (litne (by decide)), has_put_same (((isMap_empty.put _ _).put _ _).put _ _) (keyLit 3)]⟩
theorem tab_4 (m0 m1 m2 m3 : Nat) : (tab m0 m1 m2 m3).atKey (.int .i64 4) .nil = (boxD 50 m1) ∧ has (tab m0 m1 m2 m3) (.int .i64 4) = true := by
  unfold tab
  exact ⟨by rw [atKey_put_other (litne (by decide)), atKey_put_other (litne (by decide)), atKey_put_other (litne (by decide)), atKey_put_other (litne (by decide)), atKey_put_other (litne (by decide)), atKey_put_other (litne (by decide)), atKey_put_other (litne (by decide)), atKey_put_other (litne (by decide)), atKey_put_other (litne (by decide)), atKey_put_same ((((isMap_empty.put _ _).put _ _).put _ _).put _ _) (keyLit 4)], by rw [has_put_other (litne (by decide)), has_put_other (litne (by decide)), has_put_other (litne (by decide)), has_put_other (litne (by decide)), has_put_other (litne (by decide)), has_put_other (litne (by decide)), has_put_other (litne (by decide)), has_put_other (litne (by decide)), has_put_other (litne (by decide)), has_put_same ((((isMap_empty.put _ _).put _ _).put _ _).put _ _) (keyLit 4)]⟩
theorem tab_5 (m0 m1 m2 m3 : Nat) : (tab m0 m1 m2 m3).atKey (.int .i64 5) .nil = (fnD 30) ∧ has (tab m0 m1 m2 m3) (.int .i64 5) = true := by
  unfold tab
  exact ⟨by rw [atKey_put_other (litne (by decide)), atKey_put_other (litne (by decide)), atKey_put_other (litne (by decide)), atKey_put_other (litne (by decide)), atKey_put_other (litne (by decide)), atKey_put_other (litne (by decide)), atKey_put_other (litne (by decide)), atKey_put_other (litne (by decide)), atKey_put_same (((((isMap_empty.put _ _).put _ _).put _ _).put _ _).put _ _) (keyLit 5)], by rw [has_put_other (litne (by decide)), has_put_other (litne (by decide)), has_put_other (litne (by decide)), has_put_other (litne (by decide)), has_put_other (litne (by decide)), has_put_other (litne (by decide)), has_put_other (litne (by decide)), has_put_other (litne (by decide)), has_put_same (((((isMap_empty.put _ _).put _ _).put _ _).put _ _).put _ _) (keyLit 5)]⟩
theorem tab_6 (m0 m1 m2 m3 : Nat) : (tab m0 m1 m2 m3).atKey (.int .i64 6) .nil = (fnD 31) ∧ has (tab m0 m1 m2 m3) (.int .i64 6) = true := by
  unfold tab
  exact ⟨by rw [atKey_put_other (litne (by decide)), atKey_put_other (litne (by decide)), atKey_put_other (litne (by decide)), atKey_put_other (litne (by decide)), atKey_put_other (litne (by decide)), atKey_put_other (litne (by decide)), atKey_put_other (litne (by decide)), atKey_put_same ((((((isMap_empty.put _ _).put _ _).put _ _).put _ _).put _ _).put _ _) (keyLit 6)], by rw [has_put_other (litne (by decide)), has_put_other (litne (by decide)), has_put_other (litne (by decide)), has_put_other (litne (by decide)), has_put_other (litne (by decide)), has_put_other (litne (by decide)), has_put_other (litne (by decide)), has_put_same ((((((isMap_empty.put _ _).put _ _).put _ _).put _ _).put _ _).put _ _) (keyLit 6)]⟩
theorem tab_7 (m0 m1 m2 m3 : Nat) : (tab m0 m1 m2 m3).atKey (.int .i64 7) .nil = (fnD 32) ∧ has (tab m0 m1 m2 m3) (.int .i64 7) = true := by
  unfold tab
  exact ⟨by rw [atKey_put_other (litne (by decide)), atKey_put_other (litne (by decide)), atKey_put_other (litne (by decide)), atKey_put_other (litne (by decide)), atKey_put_other (litne (by decide)), atKey_put_other (litne (by decide)), atKey_put_same (((((((isMap_empty.put _ _).put _ _).put _ _).put _ _).put _ _).put _ _).put _ _) (keyLit 7)], by rw [has_put_other (litne (by decide)), has_put_other (litne (by decide)), has_put_other (litne (by decide)), has_put_other (litne (by decide)), has_put_other (litne (by decide)), has_put_other (litne (by decide)), has_put_same (((((((isMap_empty.put _ _).put _ _).put _ _).put _ _).put _ _).put _ _).put _ _) (keyLit 7)]⟩
theorem tab_8 (m0 m1 m2 m3 : Nat) : (tab m0 m1 m2 m3).atKey (.int .i64 8) .nil = (fnD 33) ∧ has (tab m0 m1 m2 m3) (.int .i64 8) = true := by
  unfold tab
  exact ⟨by rw [atKey_put_other (litne (by decide)), atKey_put_other (litne (by decide)), atKey_put_other (litne (by decide)), atKey_put_other (litne (by decide)), atKey_put_other (litne (by decide)), atKey_put_same ((((((((isMap_empty.put _ _).put _ _).put _ _).put _ _).put _ _).put _ _).put _ _).put _ _) (keyLit 8)], by rw [has_put_other (litne (by decide)), has_put_other (litne (by decide)), has_put_other (litne (by decide)), has_put_other (litne (by decide)), has_put_other (litne (by decide)), has_put_same ((((((((isMap_empty.put _ _).put _ _).put _ _).put _ _).put _ _).put _ _).put _ _).put _ _) (keyLit 8)]⟩
theorem tab_9 (m0 m1 m2 m3 : Nat) : (tab m0 m1 m2 m3).atKey (.int .i64 9) .nil = (boxD 52 m2) ∧ has (tab m0 m1 m2 m3) (.int .i64 9) = true := by
  unfold tab
  exact ⟨by rw [atKey_put_other (litne (by decide)), atKey_put_other (litne (by decide)), atKey_put_other (litne (by decide)), atKey_put_other (litne (by decide)), atKey_put_same (((((((((isMap_empty.put _ _).put _ _).put _ _).put _ _).put _ _).put _ _).put _ _).put _ _).put _ _) (keyLit 9)], by rw [has_put_other (litne (by decide)), has_put_other (litne (by decide)), has_put_other (litne (by decide)), has_put_other (litne (by decide)), has_put_same (((((((((isMap_empty.put _ _).put _ _).put _ _).put _ _).put _ _).put _ _).put _ _).put _ _).put _ _) (keyLit 9)]⟩
theorem tab_10 (m0 m1 m2 m3 : Nat) : (tab m0 m1 m2 m3).atKey (.int .i64 10) .nil = (boxD 52 m3) ∧ has (tab m0 m1 m2 m3) (.int .i64 10) = true := by
  unfold tab
  exact ⟨by rw [atKey_put_other (litne (by decide)), atKey_put_other (litne (by decide)), atKey_put_other (litne (by decide)), atKey_put_same ((((((((((isMap_empty.put _ _).put _ _).put _ _).put _ _).put _ _).put _ _).put _ _).put _ _).put _ _).put _ _) (keyLit 10)], by rw [has_put_other (litne (by decide)), has_put_other (litne (by decide)), has_put_other (litne (by decide)), has_put_same ((((((((((isMap_empty.put _ _).put _ _).put _ _).put _ _).put _ _).put _ _).put _ _).put _ _).put _ _).put _ _) (keyLit 10)]⟩
theorem tab_11 (m0 m1 m2 m3 : Nat) : (tab m0 m1 m2 m3).atKey (.int .i64 11) .nil = (fnD 37) ∧ has (tab m0 m1 m2 m3) (.int .i64 11) = true := by
  unfold tab
  exact ⟨by rw [atKey_put_other (litne (by decide)), atKey_put_other (litne (by decide)), atKey_put_same (((((((((((isMap_empty.put _ _).put _ _).put _ _).put _ _).put _ _).put _ _).put _ _).put _ _).put _ _).put _ _).put _ _) (keyLit 11)], by rw [has_put_other (litne (by decide)), has_put_other (litne (by decide)), has_put_same (((((((((((isMap_empty.put _ _).put _ _).put _ _).put _ _).put _ _).put _ _).put _ _).put _ _).put _ _).put _ _).put _ _) (keyLit 11)]⟩
theorem tab_12 (m0 m1 m2 m3 : Nat) : (tab m0 m1 m2 m3).atKey (.int .i64 12) .nil = (fnD 39) ∧ has (tab m0 m1 m2 m3) (.int .i64 12) = true := by
  unfold tab
  exact ⟨by rw [atKey_put_other (litne (by decide)), atKey_put_same ((((((((((((isMap_empty.put _ _).put _ _).put _ _).put _ _).put _ _).put _ _).put _ _).put _ _).put _ _).put _ _).put _ _).put _ _) (keyLit 12)], by rw [has_put_other (litne (by decide)), has_put_same ((((((((((((isMap_empty.put _ _).put _ _).put _ _).put _ _).put _ _).put _ _).put _ _).put _ _).put _ _).put _ _).put _ _).put _ _) (keyLit 12)]⟩
theorem tab_13 (m0 m1 m2 m3 : Nat) : (tab m0 m1 m2 m3).atKey (.int .i64 13) .nil = (fnD 40) ∧ has (tab m0 m1 m2 m3) (.int .i64 13) = true := by
  unfold tab
  exact ⟨by rw [atKey_put_same (((((((((((((isMap_empty.put _ _).put _ _).put _ _).put _ _).put _ _).put _ _).put _ _).put _ _).put _ _).put _ _).put _ _).put _ _).put _ _) (keyLit 13)], by rw [has_put_same (((((((((((((isMap_empty.put _ _).put _ _).put _ _).put _ _).put _ _).put _ _).put _ _).put _ _).put _ _).put _ _).put _ _).put _ _).put _ _) (keyLit 13)]⟩
theorem keys_tab (m0 m1 m2 m3 : Nat) (op : Int) (h : ¬ (0 ≤ op ∧ op < 14)) : has (tab m0 m1 m2 m3) (.int .i64 op) = false := by
  have ne : ∀ k : Int, 0 ≤ k → k < 14 → (Lit.int .i64 op) ≠ (Lit.int .i64 k) := fun k h0 h1 e => by injection e with _ e; omega
  unfold tab
  rw [has_put_other (ne 13 (by omega) (by omega)), has_put_other (ne 12 (by omega) (by omega)), has_put_other (ne 11 (by omega) (by omega)), has_put_other (ne 10 (by omega) (by omega)), has_put_other (ne 9 (by omega) (by omega)), has_put_other (ne 8 (by omega) (by omega)), has_put_other (ne 7 (by omega) (by omega)), has_put_other (ne 6 (by omega) (by omega)), has_put_other (ne 5 (by omega) (by omega)), has_put_other (ne 4 (by omega) (by omega)), has_put_other (ne 3 (by omega) (by omega)), has_put_other (ne 2 (by omega) (by omega)), has_put_other (ne 1 (by omega) (by omega)), has_put_other (ne 0 (by omega) (by omega))]
  rfl

theorem cells_at {m0 m1 m2 m3 b : Nat} {w : World} (h : Boxes b (cells m0 m1 m2 m3) w) :
    w.cell? ⟨m0, 0, none⟩ = some (.func (.func 28) #[] #[]) ∧ w.cell? ⟨m1, 0, none⟩ = some (.func (.func 29) #[] #[]) ∧ w.cell? ⟨m2, 0, none⟩ = some (.func (.func 35) #[] #[]) ∧ w.cell? ⟨m3, 0, none⟩ = some (.func (.func 36) #[] #[]) :=
  ⟨(h (m0, _) (by unfold cells; exact (.tail _ (.tail _ (.tail _ (.head _)))))).2, (h (m1, _) (by unfold cells; exact (.tail _ (.tail _ (.head _))))).2, (h (m2, _) (by unfold cells; exact (.tail _ (.head _)))).2, (h (m3, _) (by unfold cells; exact (.head _))).2⟩

set_option maxRecDepth 100000 in
set_option maxHeartbeats 8000000 in
theorem bin_0 (a b : Int) (w : World) (_hb : I64 b) :
    Calls Tryd.prog 18 #[.int .i64 0, .int .i64 a, .int .i64 b] w fun e w' => e = .returned (.tuple #[.int .i64 (binN 0 a b), .int .i64 (binC 0 b), .int .i64 (binE 0)]) ∧ Keep NoB w w' := by
  go_enter Tryd.func18, Tryd.ntmps18
  go_wp2_with fail
  refine (ops_any _).mono ?_
  rintro e w1 ⟨b1, m0, m1, m2, m3, rfl, hf⟩
  obtain ⟨hown, k1, hb1, _⟩ := hf
  go_wp2_with (refine wpList_lookup_own_ok _ rfl _ _ _ rfl _ _ intKey Tryd.underlying47 funElem (zero_fun _) .nil [] rfl _ _ _ rfl hown _ _ rfl (key_at 0 (by unfold I64; omega)) ?_; intro v ps hv; rw [(tab_0 m0 m1 m2 m3).1] at hv; rw [(tab_0 m0 m1 m2 m3).2]; obtain rfl := funElem_inv hv)
  refine (cl_0 a b _).mono ?_
  rintro e w2 ⟨rfl, k2⟩
  go_wp2
  go_ret3
  exact ⟨pr3 rfl rfl rfl, keepN k1 k2⟩

set_option maxRecDepth 100000 in
set_option maxHeartbeats 8000000 in
theorem bin_1 (a b : Int) (w : World) (_hb : I64 b) :
    Calls Tryd.prog 18 #[.int .i64 1, .int .i64 a, .int .i64 b] w fun e w' => e = .returned (.tuple #[.int .i64 (binN 1 a b), .int .i64 (binC 1 b), .int .i64 (binE 1)]) ∧ Keep NoB w w' := by
  go_enter Tryd.func18, Tryd.ntmps18
  go_wp2_with fail
  refine (ops_any _).mono ?_
  rintro e w1 ⟨b1, m0, m1, m2, m3, rfl, hf⟩
  obtain ⟨hown, k1, hb1, _⟩ := hf
  go_wp2_with (refine wpList_lookup_own_ok _ rfl _ _ _ rfl _ _ intKey Tryd.underlying47 funElem (zero_fun _) .nil [] rfl _ _ _ rfl hown _ _ rfl (key_at 1 (by unfold I64; omega)) ?_; intro v ps hv; rw [(tab_1 m0 m1 m2 m3).1] at hv; rw [(tab_1 m0 m1 m2 m3).2]; obtain rfl := funElem_inv hv)
  refine (cl_1 a b _).mono ?_
  rintro e w2 ⟨rfl, k2⟩
  go_wp2
  go_ret3
  exact ⟨pr3 rfl rfl rfl, keepN k1 k2⟩

set_option maxRecDepth 100000 in
set_option maxHeartbeats 8000000 in
theorem bin_2 (a b : Int) (w : World) (_hb : I64 b) :
    Calls Tryd.prog 18 #[.int .i64 2, .int .i64 a, .int .i64 b] w fun e w' => e = .returned (.tuple #[.int .i64 (binN 2 a b), .int .i64 (binC 2 b), .int .i64 (binE 2)]) ∧ Keep NoB w w' := by
  go_enter Tryd.func18, Tryd.ntmps18
  go_wp2_with fail
  refine (ops_any _).mono ?_
  rintro e w1 ⟨b1, m0, m1, m2, m3, rfl, hf⟩
  obtain ⟨hown, k1, hb1, _⟩ := hf
  go_wp2_with (refine wpList_lookup_own_ok _ rfl _ _ _ rfl _ _ intKey Tryd.underlying47 funElem (zero_fun _) .nil [] rfl _ _ _ rfl hown _ _ rfl (key_at 2 (by unfold I64; omega)) ?_; intro v ps hv; rw [(tab_2 m0 m1 m2 m3).1] at hv; rw [(tab_2 m0 m1 m2 m3).2]; obtain rfl := funElem_inv hv)
  refine (cl_2 a b _).mono ?_
  rintro e w2 ⟨rfl, k2⟩
  go_wp2
  go_ret3
  exact ⟨pr3 rfl rfl rfl, keepN k1 k2⟩

set_option maxRecDepth 100000 in
set_option maxHeartbeats 8000000 in
theorem bin_3 (a b : Int) (w : World) (_hb : I64 b) :
    Calls Tryd.prog 18 #[.int .i64 3, .int .i64 a, .int .i64 b] w fun e w' => e = .returned (.tuple #[.int .i64 (binN 3 a b), .int .i64 (binC 3 b), .int .i64 (binE 3)]) ∧ Keep NoB w w' := by
  go_enter Tryd.func18, Tryd.ntmps18
  go_wp2_with fail
  refine (ops_any _).mono ?_
  rintro e w1 ⟨b1, m0, m1, m2, m3, rfl, hf⟩
  have hc := cells_at hf.2.2.2
  obtain ⟨hown, k1, hb1, _⟩ := hf
  go_wp2_with (refine wpList_lookup_own_ok _ rfl _ _ _ rfl _ _ intKey Tryd.underlying47 funElem (zero_fun _) .nil [] rfl _ _ _ rfl hown _ _ rfl (key_at 3 (by unfold I64; omega)) ?_; intro v ps hv; rw [(tab_3 m0 m1 m2 m3).1] at hv; rw [(tab_3 m0 m1 m2 m3).2]; obtain rfl := funElem_inv_box hv; unfold boxF)
  refine (cl_3 m0 a b _ hc.1).mono ?_
  rintro e w2 ⟨rfl, k2⟩
  go_wp2
  go_ret3
  exact ⟨pr3 rfl rfl rfl, keepN k1 k2⟩

set_option maxRecDepth 100000 in
set_option maxHeartbeats 8000000 in
theorem bin_4 (a b : Int) (w : World) (_hb : I64 b) :
    Calls Tryd.prog 18 #[.int .i64 4, .int .i64 a, .int .i64 b] w fun e w' => e = .returned (.tuple #[.int .i64 (binN 4 a b), .int .i64 (binC 4 b), .int .i64 (binE 4)]) ∧ Keep NoB w w' := by
  go_enter Tryd.func18, Tryd.ntmps18
  go_wp2_with fail
  refine (ops_any _).mono ?_
  rintro e w1 ⟨b1, m0, m1, m2, m3, rfl, hf⟩
  have hc := cells_at hf.2.2.2
  obtain ⟨hown, k1, hb1, _⟩ := hf
  go_wp2_with (refine wpList_lookup_own_ok _ rfl _ _ _ rfl _ _ intKey Tryd.underlying47 funElem (zero_fun _) .nil [] rfl _ _ _ rfl hown _ _ rfl (key_at 4 (by unfold I64; omega)) ?_; intro v ps hv; rw [(tab_4 m0 m1 m2 m3).1] at hv; rw [(tab_4 m0 m1 m2 m3).2]; obtain rfl := funElem_inv_box hv; unfold boxF)
  refine (cl_4 m1 a b _ hc.2.1).mono ?_
  rintro e w2 ⟨rfl, k2⟩
  go_wp2
  go_ret3
  exact ⟨pr3 rfl rfl rfl, keepN k1 k2⟩

set_option maxRecDepth 100000 in
set_option maxHeartbeats 8000000 in
theorem bin_5 (a b : Int) (w : World) (_hb : I64 b) :
    Calls Tryd.prog 18 #[.int .i64 5, .int .i64 a, .int .i64 b] w fun e w' => e = .returned (.tuple #[.int .i64 (binN 5 a b), .int .i64 (binC 5 b), .int .i64 (binE 5)]) ∧ Keep NoB w w' := by
  go_enter Tryd.func18, Tryd.ntmps18
  go_wp2_with fail
  refine (ops_any _).mono ?_
  rintro e w1 ⟨b1, m0, m1, m2, m3, rfl, hf⟩
  obtain ⟨hown, k1, hb1, _⟩ := hf
  go_wp2_with (refine wpList_lookup_own_ok _ rfl _ _ _ rfl _ _ intKey Tryd.underlying47 funElem (zero_fun _) .nil [] rfl _ _ _ rfl hown _ _ rfl (key_at 5 (by unfold I64; omega)) ?_; intro v ps hv; rw [(tab_5 m0 m1 m2 m3).1] at hv; rw [(tab_5 m0 m1 m2 m3).2]; obtain rfl := funElem_inv hv)
  refine (cl_5 a b _).mono ?_
  rintro e w2 ⟨rfl, k2⟩
  go_wp2
  go_ret3
  exact ⟨pr3 rfl rfl rfl, keepN k1 k2⟩

set_option maxRecDepth 100000 in
set_option maxHeartbeats 8000000 in
theorem bin_6 (a b : Int) (w : World) (_hb : I64 b) :
    Calls Tryd.prog 18 #[.int .i64 6, .int .i64 a, .int .i64 b] w fun e w' => e = .returned (.tuple #[.int .i64 (binN 6 a b), .int .i64 (binC 6 b), .int .i64 (binE 6)]) ∧ Keep NoB w w' := by
  go_enter Tryd.func18, Tryd.ntmps18
  go_wp2_with fail
  refine (ops_any _).mono ?_
  rintro e w1 ⟨b1, m0, m1, m2, m3, rfl, hf⟩
  obtain ⟨hown, k1, hb1, _⟩ := hf
  go_wp2_with (refine wpList_lookup_own_ok _ rfl _ _ _ rfl _ _ intKey Tryd.underlying47 funElem (zero_fun _) .nil [] rfl _ _ _ rfl hown _ _ rfl (key_at 6 (by unfold I64; omega)) ?_; intro v ps hv; rw [(tab_6 m0 m1 m2 m3).1] at hv; rw [(tab_6 m0 m1 m2 m3).2]; obtain rfl := funElem_inv hv)
  refine (cl_6 a b _).mono ?_
  rintro e w2 ⟨rfl, k2⟩
  go_wp2
  go_ret3
  exact ⟨pr3 rfl rfl rfl, keepN k1 k2⟩

set_option maxRecDepth 100000 in
set_option maxHeartbeats 8000000 in
theorem bin_7 (a b : Int) (w : World) (_hb : I64 b) :
    Calls Tryd.prog 18 #[.int .i64 7, .int .i64 a, .int .i64 b] w fun e w' => e = .returned (.tuple #[.int .i64 (binN 7 a b), .int .i64 (binC 7 b), .int .i64 (binE 7)]) ∧ Keep NoB w w' := by
  go_enter Tryd.func18, Tryd.ntmps18
  go_wp2_with fail
  refine (ops_any _).mono ?_
  rintro e w1 ⟨b1, m0, m1, m2, m3, rfl, hf⟩
  obtain ⟨hown, k1, hb1, _⟩ := hf
  go_wp2_with (refine wpList_lookup_own_ok _ rfl _ _ _ rfl _ _ intKey Tryd.underlying47 funElem (zero_fun _) .nil [] rfl _ _ _ rfl hown _ _ rfl (key_at 7 (by unfold I64; omega)) ?_; intro v ps hv; rw [(tab_7 m0 m1 m2 m3).1] at hv; rw [(tab_7 m0 m1 m2 m3).2]; obtain rfl := funElem_inv hv)
  refine (cl_7 a b _).mono ?_
  rintro e w2 ⟨rfl, k2⟩
  go_wp2
  go_ret3
  exact ⟨pr3 rfl rfl rfl, keepN k1 k2⟩

set_option maxRecDepth 100000 in
set_option maxHeartbeats 8000000 in
theorem bin_8 (a b : Int) (w : World) (_hb : I64 b) :
    Calls Tryd.prog 18 #[.int .i64 8, .int .i64 a, .int .i64 b] w fun e w' => e = .returned (.tuple #[.int .i64 (binN 8 a b), .int .i64 (binC 8 b), .int .i64 (binE 8)]) ∧ Keep NoB w w' := by
  go_enter Tryd.func18, Tryd.ntmps18
  go_wp2_with fail
  refine (ops_any _).mono ?_
  rintro e w1 ⟨b1, m0, m1, m2, m3, rfl, hf⟩
  obtain ⟨hown, k1, hb1, _⟩ := hf
  go_wp2_with (refine wpList_lookup_own_ok _ rfl _ _ _ rfl _ _ intKey Tryd.underlying47 funElem (zero_fun _) .nil [] rfl _ _ _ rfl hown _ _ rfl (key_at 8 (by unfold I64; omega)) ?_; intro v ps hv; rw [(tab_8 m0 m1 m2 m3).1] at hv; rw [(tab_8 m0 m1 m2 m3).2]; obtain rfl := funElem_inv hv)
  refine (cl_8 a b _).mono ?_
  rintro e w2 ⟨rfl, k2⟩
  go_wp2
  go_ret3
  exact ⟨pr3 rfl rfl rfl, keepN k1 k2⟩

set_option maxRecDepth 100000 in
set_option maxHeartbeats 8000000 in
theorem bin_9 (a b : Int) (w : World) (hb : I64 b) :
    Calls Tryd.prog 18 #[.int .i64 9, .int .i64 a, .int .i64 b] w fun e w' => e = .returned (.tuple #[.int .i64 (binN 9 a b), .int .i64 (binC 9 b), .int .i64 (binE 9)]) ∧ Keep NoB w w' := by
  have hbb := Lib.hid hb
  clear hb
  go_enter Tryd.func18, Tryd.ntmps18
  go_wp2_with fail
  refine (ops_any _).mono ?_
  rintro e w1 ⟨b1, m0, m1, m2, m3, rfl, hf⟩
  have hc := cells_at hf.2.2.2
  obtain ⟨hown, k1, hb1, _⟩ := hf
  go_wp2_with (refine wpList_lookup_own_ok _ rfl _ _ _ rfl _ _ intKey Tryd.underlying47 funElem (zero_fun _) .nil [] rfl _ _ _ rfl hown _ _ rfl (key_at 9 (by unfold I64; omega)) ?_; intro v ps hv; rw [(tab_9 m0 m1 m2 m3).1] at hv; rw [(tab_9 m0 m1 m2 m3).2]; obtain rfl := funElem_inv_box hv; unfold boxF)
  refine (cl_9 m2 a b _ hbb.out hc.2.2.1).mono ?_
  rintro e w2 ⟨rfl, k2⟩
  go_wp2
  go_ret3
  exact ⟨pr3 rfl rfl rfl, keepN k1 k2⟩

set_option maxRecDepth 100000 in
set_option maxHeartbeats 8000000 in
theorem bin_10 (a b : Int) (w : World) (hb : I64 b) :
    Calls Tryd.prog 18 #[.int .i64 10, .int .i64 a, .int .i64 b] w fun e w' => e = .returned (.tuple #[.int .i64 (binN 10 a b), .int .i64 (binC 10 b), .int .i64 (binE 10)]) ∧ Keep NoB w w' := by
  have hbb := Lib.hid hb
  clear hb
  go_enter Tryd.func18, Tryd.ntmps18
  go_wp2_with fail
  refine (ops_any _).mono ?_
  rintro e w1 ⟨b1, m0, m1, m2, m3, rfl, hf⟩
  have hc := cells_at hf.2.2.2
  obtain ⟨hown, k1, hb1, _⟩ := hf
  go_wp2_with (refine wpList_lookup_own_ok _ rfl _ _ _ rfl _ _ intKey Tryd.underlying47 funElem (zero_fun _) .nil [] rfl _ _ _ rfl hown _ _ rfl (key_at 10 (by unfold I64; omega)) ?_; intro v ps hv; rw [(tab_10 m0 m1 m2 m3).1] at hv; rw [(tab_10 m0 m1 m2 m3).2]; obtain rfl := funElem_inv_box hv; unfold boxF)
  refine (cl_10 m3 a b _ hbb.out hc.2.2.2).mono ?_
  rintro e w2 ⟨rfl, k2⟩
  go_wp2
  go_ret3
  exact ⟨pr3 rfl rfl rfl, keepN k1 k2⟩

set_option maxRecDepth 100000 in
set_option maxHeartbeats 8000000 in
theorem bin_11 (a b : Int) (w : World) (_hb : I64 b) :
    Calls Tryd.prog 18 #[.int .i64 11, .int .i64 a, .int .i64 b] w fun e w' => e = .returned (.tuple #[.int .i64 (binN 11 a b), .int .i64 (binC 11 b), .int .i64 (binE 11)]) ∧ Keep NoB w w' := by
  go_enter Tryd.func18, Tryd.ntmps18
  go_wp2_with fail
  refine (ops_any _).mono ?_
  rintro e w1 ⟨b1, m0, m1, m2, m3, rfl, hf⟩
  obtain ⟨hown, k1, hb1, _⟩ := hf
  go_wp2_with (refine wpList_lookup_own_ok _ rfl _ _ _ rfl _ _ intKey Tryd.underlying47 funElem (zero_fun _) .nil [] rfl _ _ _ rfl hown _ _ rfl (key_at 11 (by unfold I64; omega)) ?_; intro v ps hv; rw [(tab_11 m0 m1 m2 m3).1] at hv; rw [(tab_11 m0 m1 m2 m3).2]; obtain rfl := funElem_inv hv)
  refine (cl_11 a b _).mono ?_
  rintro e w2 ⟨rfl, k2⟩
  go_wp2
  go_ret3
  exact ⟨pr3 rfl rfl rfl, keepN k1 k2⟩

set_option maxRecDepth 100000 in
set_option maxHeartbeats 8000000 in
theorem bin_12 (a b : Int) (w : World) (_hb : I64 b) :
    Calls Tryd.prog 18 #[.int .i64 12, .int .i64 a, .int .i64 b] w fun e w' => e = .returned (.tuple #[.int .i64 (binN 12 a b), .int .i64 (binC 12 b), .int .i64 (binE 12)]) ∧ Keep NoB w w' := by
  go_enter Tryd.func18, Tryd.ntmps18
  go_wp2_with fail
  refine (ops_any _).mono ?_
  rintro e w1 ⟨b1, m0, m1, m2, m3, rfl, hf⟩
  obtain ⟨hown, k1, hb1, _⟩ := hf
  go_wp2_with (refine wpList_lookup_own_ok _ rfl _ _ _ rfl _ _ intKey Tryd.underlying47 funElem (zero_fun _) .nil [] rfl _ _ _ rfl hown _ _ rfl (key_at 12 (by unfold I64; omega)) ?_; intro v ps hv; rw [(tab_12 m0 m1 m2 m3).1] at hv; rw [(tab_12 m0 m1 m2 m3).2]; obtain rfl := funElem_inv hv)
  refine (cl_12 a b _).mono ?_
  rintro e w2 ⟨rfl, k2⟩
  go_wp2
  go_ret3
  exact ⟨pr3 rfl rfl rfl, keepN k1 k2⟩

set_option maxRecDepth 100000 in
set_option maxHeartbeats 8000000 in
theorem bin_13 (a b : Int) (w : World) (_hb : I64 b) :
    Calls Tryd.prog 18 #[.int .i64 13, .int .i64 a, .int .i64 b] w fun e w' => e = .returned (.tuple #[.int .i64 (binN 13 a b), .int .i64 (binC 13 b), .int .i64 (binE 13)]) ∧ Keep NoB w w' := by
  go_enter Tryd.func18, Tryd.ntmps18
  go_wp2_with fail
  refine (ops_any _).mono ?_
  rintro e w1 ⟨b1, m0, m1, m2, m3, rfl, hf⟩
  obtain ⟨hown, k1, hb1, _⟩ := hf
  go_wp2_with (refine wpList_lookup_own_ok _ rfl _ _ _ rfl _ _ intKey Tryd.underlying47 funElem (zero_fun _) .nil [] rfl _ _ _ rfl hown _ _ rfl (key_at 13 (by unfold I64; omega)) ?_; intro v ps hv; rw [(tab_13 m0 m1 m2 m3).1] at hv; rw [(tab_13 m0 m1 m2 m3).2]; obtain rfl := funElem_inv hv)
  refine (cl_13 a b _).mono ?_
  rintro e w2 ⟨rfl, k2⟩
  go_wp2
  go_ret3
  exact ⟨pr3 rfl rfl rfl, keepN k1 k2⟩

set_option maxRecDepth 100000 in
set_option maxHeartbeats 8000000 in
theorem bin_none (op a b : Int) (w : World) (ho : I64 op) (h : ¬ (0 ≤ op ∧ op < 14)) :
    Calls Tryd.prog 18 #[.int .i64 op, .int .i64 a, .int .i64 b] w fun e w' => e = .returned (.tuple #[.int .i64 0, .int .i64 0, .int .i64 30]) ∧ Keep NoB w w' := by
  go_enter Tryd.func18, Tryd.ntmps18
  go_wp2_with fail
  refine (ops_any _).mono ?_
  rintro e w1 ⟨b1, m0, m1, m2, m3, rfl, hf⟩
  obtain ⟨hown, k1, hb1, _⟩ := hf
  go_wp2_with (refine wpList_lookup_own_ok _ rfl _ _ _ rfl _ _ intKey Tryd.underlying47 funElem (zero_fun _) .nil [] rfl _ _ _ rfl hown _ _ rfl (key_at op ho) ?_; intro v ps hv; rw [keys_tab m0 m1 m2 m3 op h])
  go_ret3
  exact ⟨rfl, k1⟩

theorem bin_any : BinC := fun op a b w ho _ hb => by
  by_cases h : 0 ≤ op ∧ op < 14
  · have : op = 0 ∨ op = 1 ∨ op = 2 ∨ op = 3 ∨ op = 4 ∨ op = 5 ∨ op = 6 ∨ op = 7 ∨ op = 8 ∨ op = 9 ∨ op = 10 ∨ op = 11 ∨ op = 12 ∨ op = 13 := by omega
    rcases this with rfl | rfl | rfl | rfl | rfl | rfl | rfl | rfl | rfl | rfl | rfl | rfl | rfl | rfl
    · exact bin_0 a b w hb
    · exact bin_1 a b w hb
    · exact bin_2 a b w hb
    · exact bin_3 a b w hb
    · exact bin_4 a b w hb
    · exact bin_5 a b w hb
    · exact bin_6 a b w hb
    · exact bin_7 a b w hb
    · exact bin_8 a b w hb
    · exact bin_9 a b w hb
    · exact bin_10 a b w hb
    · exact bin_11 a b w hb
    · exact bin_12 a b w hb
    · exact bin_13 a b w hb
  · have H : binN op a b = 0 ∧ binC op b = 0 ∧ binE op = 30 := by
      unfold binN binC binE
      refine ⟨?_, ?_, if_neg h⟩
      · rw [if_neg (by omega), if_neg (by omega), if_neg (by omega), if_neg (by omega), if_neg (by omega), if_neg (by omega), if_neg (by omega), if_neg (by omega), if_neg (by omega), if_neg (by omega), if_neg (by omega), if_neg (by omega), if_neg (by omega), if_neg (by omega)]
      · rw [if_neg (by omega), if_neg (by omega)]
    rw [H.1, H.2.1, H.2.2]
    exact bin_none op a b w ho h

end Go.Proofs.YtoljghgmpilecaaDoor
