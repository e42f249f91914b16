/-
  What rowOf and has answer. Conditions: none but that a kind's operand is one.
-/
import Derived.Test.YtpkcjokkadfhcaaDoorOOper
import Derived.Lib.Hide
namespace Go.Proofs.YtpkcjokkadfhcaaDoor.O
open Go.RowKit

/-- A row as a value. -/
abbrev rowV (r : Row) : Value := .agg #[.string (str r.name), .int .i64 r.ka, .int .i64 r.kb, .int .i64 r.ta, .int .i64 r.tb, .int .i64 r.la, .int .i64 r.lb, .bool r.hop, .bool r.fin]
abbrev rowZ : Array Value := #[.string ⟨#[]⟩, .int .i64 0, .int .i64 0, .int .i64 0, .int .i64 0, .int .i64 0, .int .i64 0, .bool false, .bool false]
theorem blk9 {w : World} {g : Nat} {t : TypeId} {a0 a1 a2 a3 a4 a5 a6 a7 a8 : Value} (h : Blk w g t #[a0, a1, a2, a3, a4, a5, a6, a7, a8]) :
    w.cell? ⟨g, 0, none⟩ = some a0 ∧ w.cell? ⟨g, 1, none⟩ = some a1 ∧ w.cell? ⟨g, 2, none⟩ = some a2 ∧ w.cell? ⟨g, 3, none⟩ = some a3 ∧ w.cell? ⟨g, 4, none⟩ = some a4 ∧ w.cell? ⟨g, 5, none⟩ = some a5 ∧
      w.cell? ⟨g, 6, none⟩ = some a6 ∧ w.cell? ⟨g, 7, none⟩ = some a7 ∧ w.cell? ⟨g, 8, none⟩ = some a8 := ⟨h.cell 0, h.cell 1, h.cell 2, h.cell 3, h.cell 4, h.cell 5, h.cell 6, h.cell 7, h.cell 8⟩
theorem keep9 {w w1 : World} {g : Nat} (h : Keep NoB w w1) (hg : w.heap.size ≤ g) (u0 u1 u2 u3 u4 u5 u6 u7 u8 : Value) :
    Keep NoB w (((((((((w1.setCell ⟨g, 0, none⟩ u0).setCell ⟨g, 1, none⟩ u1).setCell ⟨g, 2, none⟩ u2).setCell ⟨g, 3, none⟩ u3).setCell ⟨g, 4, none⟩ u4).setCell ⟨g, 5, none⟩ u5).setCell ⟨g, 6, none⟩ u6).setCell ⟨g, 7, none⟩ u7).setCell ⟨g, 8, none⟩ u8) := by
  have hn : ∀ i, (⟨g, i, none⟩ : Addr).block < w.heap.size → NoB (⟨g, i, none⟩ : Addr).block := fun i hl => by have : g < w.heap.size := hl; omega
  exact ((((((((h.setCell (hn 0) _).setCell (hn 1) _).setCell (hn 2) _).setCell (hn 3) _).setCell (hn 4) _).setCell (hn 5) _).setCell (hn 6) _).setCell (hn 7) _).setCell (hn 8) _

set_option maxRecDepth 100000 in
set_option maxHeartbeats 4000000 in
theorem rowOf_any (op : Int) (r : Row) (w : World) (hr : Hid (rowAt op = r)) :
    Calls Tryd.prog 19 #[.int .i64 op] w fun e w' => e = .returned (.tuple #[rowV r, .bool (isOp op)]) ∧ Keep NoB w w' := by
  have hK := (Keep.refl NoB w).alloc (.cells rowZ 44)
  cases ho : isOp op
  · have hb := isOp_no ho
    have hr0 := hr.out
    rw [rowAt_no ho] at hr0
    subst hr0
    clear ho hr
    by_cases h0 : op < 0
    · clear hb
      go_enter Tryd.func19, Tryd.ntmps19
      go_wp2
      exact bodyPost_ret (v := .tuple #[rowV row0, .bool false]) (by simp [results, Tryd.results19, go_sem, row0]) rfl ⟨rfl, hK⟩
    · have h0' : decide (op < 0) = false := by simpa using h0
      have h1 : 30 ≤ op := by omega
      clear hb
      go_enter Tryd.func19, Tryd.ntmps19
      go_wp2
      exact bodyPost_ret (v := .tuple #[rowV row0, .bool false]) (by simp [results, Tryd.results19, go_sem, row0]) rfl ⟨rfl, hK⟩
  · obtain ⟨h0, h1⟩ := isOp_yes ho
    have hix : ∀ w, (Instr.index 61 (.agg tableC) (.int .i64 op)).run Tryd.prog w = .ok (rowV r) w := fun w => by
      have := run_index_row op ho w
      rw [hr.out] at this
      exact this
    clear ho hr
    have h0' : decide (op < 0) = false := by simpa using h0
    have h1' : decide (30 ≤ op) = false := by simpa using h1
    go_enter Tryd.func19, Tryd.ntmps19
    go_wp2_with fail
    refine (table_any _).mono ?_
    rintro e w1 ⟨rfl, k1⟩
    have b1 := (Blk.new w 44 rowZ).keep k1 id
    have f0 := fun i => b1.frozen i
    obtain ⟨c0, c1, c2, c3, c4, c5, c6, c7, c8⟩ := blk9 b1
    have hz := b1.lt
    go_wp2
    exact bodyPost_ret (v := .tuple #[rowV r, .bool true]) (by simp [results, Tryd.results19, go_sem, c0, c1, c2, c3, c4, c5, c6, c7, c8]) rfl ⟨rfl, keep9 (keepN hK k1) (Nat.le_refl _) _ _ _ _ _ _ _ _ _⟩

set_option maxHeartbeats 1000000 in
theorem has_any (k n : Int) (v : Value) (w : World) (hv : ∃ sh gu, v = opV k sh gu) :
    Calls Tryd.prog 24 #[v, .int .i64 n] w fun e w' => e = .returned (.bool (inK k n)) ∧ Keep NoB w w' := by
  obtain ⟨sh, gu, rfl⟩ := hv
  unfold opV
  by_cases h1 : lo k ≤ n
  · by_cases h2 : n ≤ hi k
    · have HX : Hid (inK k n = true) := decide_eq_true ⟨h1, h2⟩
      go_enter Tryd.func24, Tryd.ntmps24
      go_wp2
      go_ret
      exact ⟨by rw [HX.out]; rfl, (Keep.refl NoB w).alloc _⟩
    · have HX : Hid (inK k n = false) := decide_eq_false fun h => h2 h.2
      have h2' : decide (n ≤ hi k) = false := by simpa using h2
      clear h2
      go_enter Tryd.func24, Tryd.ntmps24
      go_wp2
      go_ret
      exact ⟨by rw [HX.out]; rfl, (Keep.refl NoB w).alloc _⟩
  · have HX : Hid (inK k n = false) := decide_eq_false fun h => h1 h.1
    have h1' : decide (lo k ≤ n) = false := by simpa using h1
    clear h1
    go_enter Tryd.func24, Tryd.ntmps24
    go_wp2
    go_ret
    exact ⟨by rw [HX.out]; rfl, (Keep.refl NoB w).alloc _⟩

end Go.Proofs.YtpkcjokkadfhcaaDoor.O
