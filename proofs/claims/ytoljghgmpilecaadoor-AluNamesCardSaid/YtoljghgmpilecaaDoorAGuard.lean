/-
  The guarded division: a closure that holds the division, defers a closure with recover, and has two named results. No conditions.
-/
import Derived.Test.YtoljghgmpilecaaDoorALawsA
import Derived.Test.YtoljghgmpilecaaDoorKFunBox
import Derived.Defers
import Derived.Recover
namespace Go.Proofs.YtoljghgmpilecaaDoor
open Go.RowKit Go.Maps

theorem pr2 {a a' b b' : Int} (h1 : a = a') (h2 : b = b') : Ending.returned (.tuple #[.int .i64 a, .int .i64 b]) = .returned (.tuple #[.int .i64 a', .int .i64 b']) := by rw [h1, h2]
theorem pr3 {a a' b b' c c' : Int} (h1 : a = a') (h2 : b = b') (h3 : c = c') : Ending.returned (.tuple #[.int .i64 a, .int .i64 b, .int .i64 c]) = .returned (.tuple #[.int .i64 a', .int .i64 b', .int .i64 c']) := by rw [h1, h2, h3]

theorem catch_panicking (p q : Addr) (x y : Int) (u : TypeId) (pv : Value) (older : List PanicEntry) (w : World) (hp : w.cell? p = some (.int .i64 x)) (zp : w.frozen? p = false)
    (hq : (w.setCell p (.int .i64 0)).cell? q = some (.int .i64 y)) (zq : (w.setCell p (.int .i64 0)).frozen? q = false) :
    CallsD Tryd.prog 51 #[.pointer (some p), .pointer (some q)] (.panicking ({ v := .iface u pv, recovered := false } :: older)) w fun e u' w' =>
      e = .returned (.tuple #[]) ∧ u' = .panicking ({ v := .iface u pv, recovered := true } :: older) ∧ w' = (w.setCell p (.int .i64 0)).setCell q (.int .i64 2) := by
  refine callsD_of_wpS Tryd.func51 rfl fun c₀ cs hu => ?_
  apply wpS_seq
  apply wpS_region
  simp [wpOpsS, go_sem, recoverD, hu, Tryd.ntmps51, Exit.thenS]
  refine wpS_cond (t := true) (by simp [Act.eval, Array.replicate]) ?_
  simp only [if_true]
  apply wpS_region
  simp [wpOpsS, go_sem, hp, zp, hq, zq, bodyPostS, results, Tryd.results51]

theorem catch_idle (p q : Addr) (w : World) :
    CallsD Tryd.prog 51 #[.pointer (some p), .pointer (some q)] .returning w fun e u' w' => e = .returned (.tuple #[]) ∧ u' = .returning ∧ w' = w := by
  refine callsD_of_wpS Tryd.func51 rfl fun c₀ cs hu => ?_
  apply wpS_seq
  apply wpS_region
  simp [wpOpsS, go_sem, recoverD, hu, Tryd.ntmps51, Exit.thenS]
  refine wpS_cond (t := false) (by simp [Act.eval, Array.replicate]) ?_
  simp only [Bool.false_eq_true, if_false]
  refine wpS_of_wp (wp_skip ?_)
  cases c₀
  simp_all [bodyPostS, results, Tryd.results51]

set_option maxRecDepth 100000 in
set_option maxHeartbeats 4000000 in
theorem guarded_zero (g n : Nat) (hcf : ∀ (args : Array Value) (w : World), (callFunc g args).run Tryd.prog w = .ok (.enter g args) w) (a : Int) (w : World) (hc : w.cell? ⟨n, 0, none⟩ = some (.func (.func g) #[] #[]))
    (HG : Hid (∀ W, Calls Tryd.prog g #[.int .i64 a, .int .i64 0] W fun e w' => ∃ u pv, e = .panicked [{ v := .iface u pv, recovered := false }] ∧ W = w')) :
    Calls Tryd.prog 50 #[.int .i64 a, .int .i64 0, .pointer (some ⟨n, 0, none⟩)] w fun e w' => e = .returned (.tuple #[.int .i64 0, .int .i64 2]) ∧ Keep NoB w w' := by
  have hmf : ∀ (fn : Fn) (first cap : Array Value) (w : World), (Instr.makeFunc fn first cap).run Tryd.prog w = .ok (.func fn first cap) w := fun _ _ _ _ => rfl
  have hlt : n < w.heap.size := World.block_lt_of_cell? w _ hc
  have hc1 : ∀ x y, ((w.alloc x).alloc y).cell? ⟨n, 0, none⟩ = some (.func (.func g) #[] #[]) := fun x y =>
    (World.cell?_alloc_lt _ _ _ (by simp; omega)).trans ((World.cell?_alloc_lt _ _ _ hlt).trans hc)
  go_enter_defers Tryd.func50, Tryd.ntmps50
  go_wp2_with fail
  refine (HG.out _).mono ?_
  rintro e w' ⟨u, pv, rfl, rfl⟩
  refine leaves_cons (f := 51) (args := #[.pointer (some ⟨w.heap.size, 0, none⟩), .pointer (some ⟨w.heap.size + 1, 0, none⟩)]) (by simp) (by simp [go_sem]) ?_
  refine (catch_panicking ⟨w.heap.size, 0, none⟩ ⟨w.heap.size + 1, 0, none⟩ 0 0 _ _ [] _ ?_ ?_ ?_ ?_).mono ?_
  · simp [go_sem]
  · simp [go_sem]
  · simp [go_sem]
  · simp [go_sem]
  rintro e u' w'' ⟨rfl, rfl, rfl⟩
  simp [Leaves, settle, results, Tryd.results50, go_sem]
  exact ((Keep.refl NoB w).alloc _).alloc _

set_option maxRecDepth 100000 in
set_option maxHeartbeats 4000000 in
theorem guarded_some (g n : Nat) (hcf : ∀ (args : Array Value) (w : World), (callFunc g args).run Tryd.prog w = .ok (.enter g args) w) (a b v : Int) (w : World) (hc : w.cell? ⟨n, 0, none⟩ = some (.func (.func g) #[] #[]))
    (HG : Hid (∀ W, Calls Tryd.prog g #[.int .i64 a, .int .i64 b] W fun e w' => e = .returned (.int .i64 v) ∧ W = w')) :
    Calls Tryd.prog 50 #[.int .i64 a, .int .i64 b, .pointer (some ⟨n, 0, none⟩)] w fun e w' => e = .returned (.tuple #[.int .i64 v, .int .i64 0]) ∧ Keep NoB w w' := by
  have hmf : ∀ (fn : Fn) (first cap : Array Value) (w : World), (Instr.makeFunc fn first cap).run Tryd.prog w = .ok (.func fn first cap) w := fun _ _ _ _ => rfl
  have hlt : n < w.heap.size := World.block_lt_of_cell? w _ hc
  have hc1 : ∀ x y, ((w.alloc x).alloc y).cell? ⟨n, 0, none⟩ = some (.func (.func g) #[] #[]) := fun x y =>
    (World.cell?_alloc_lt _ _ _ (by simp; omega)).trans ((World.cell?_alloc_lt _ _ _ hlt).trans hc)
  go_enter_defers Tryd.func50, Tryd.ntmps50
  go_wp2_with fail
  refine (HG.out _).mono ?_
  rintro e w' ⟨rfl, rfl⟩
  go_wp2
  refine leaves_cons (f := 51) (args := #[.pointer (some ⟨w.heap.size, 0, none⟩), .pointer (some ⟨w.heap.size + 1, 0, none⟩)]) (by simp) (by simp [go_sem]) ?_
  refine (catch_idle ⟨w.heap.size, 0, none⟩ ⟨w.heap.size + 1, 0, none⟩ _).mono ?_
  rintro e u' w'' ⟨rfl, rfl, rfl⟩
  simp [Leaves, settle, results, Tryd.results50, go_sem]
  exact ((Keep.refl NoB w).alloc _).alloc _

end Go.Proofs.YtoljghgmpilecaaDoor
