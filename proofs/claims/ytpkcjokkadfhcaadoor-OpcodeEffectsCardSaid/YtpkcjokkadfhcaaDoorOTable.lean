/-
  The array of rows, and the row of a number, as the project hands them out. No conditions.
-/
import Derived.Test.YtpkcjokkadfhcaaDoorOPure
import Derived.Test.YtpkcjokkadfhcaaDoorKMem
import Derived.Deep.WholeRow
namespace Go.Proofs.YtpkcjokkadfhcaaDoor.O
open Go.RowKit

abbrev str (l : List UInt8) : ByteArray := ⟨l.toArray⟩
/-- A row's cells; those of all rows. -/
def rowC (r : Row) : Array Value := #[.string (str r.name), .int .i64 r.ka, .int .i64 r.kb, .int .i64 r.ta, .int .i64 r.tb, .int .i64 r.la, .int .i64 r.lb, .bool r.hop, .bool r.fin]
def tableC : Array Value := (rowsL.flatMap fun r => (rowC r).toList).toArray

theorem wpList_build_to {P : Program} {ops : Array Oper} {rest : List Oper} {o : Oper} {a : Act} {w : World} {Q : Exit → Act → World → Prop} (hg : o.guard = none) (t : TypeId) (parts : Array (Nat × Operand)) (ho : o.op = .build t parts)
    (cells : Array Value) (hf : P.built t (parts.map fun (i, x) => (i, a.eval x)).toList = some cells)
    (h : wpList P ops Q rest (a.put o.dst (.agg cells)) w) : wpList P ops Q (o :: rest) a w :=
  wpList_build hg t parts ho (by rw [hf]; rfl) (by rw [hf]; exact h)

/-- A result that lies in memory whole. -/
theorem results_cell {P : Program} {fn : Func} {tmps : Array Value} {a : Tmp} {t : TypeId} {ad : Addr} {v : Value} {w : World} (hr : fn.results = #[.cell a t]) (ha : tmps.getD a undef = .pointer (some ad))
    (hl : (loadVar t ad).run P w = .ok v w) : (results fn tmps).run P w = .ok v w := by
  have hq : (asAddr (.pointer (some ad))).run P w = .ok ad w := by simp [go_sem]
  unfold results
  rw [hr]
  simp only [Array.mapM_eq_mapM_toList, List.mapM_cons, List.mapM_nil]
  simp [ha, hq, hl]

theorem row_part : ∀ n : Nat, n < 30 → tableC.extract (n * 9) (n * 9 + 9) = rowC (rowsL.getD n row0) := by
  intro n h
  obtain rfl | rfl | rfl | rfl | rfl | rfl | rfl | rfl | rfl | rfl | rfl | rfl | rfl | rfl | rfl | rfl | rfl | rfl | rfl | rfl | rfl | rfl | rfl | rfl | rfl | rfl | rfl | rfl | rfl | rfl :
    n = 0 ∨ n = 1 ∨ n = 2 ∨ n = 3 ∨ n = 4 ∨ n = 5 ∨ n = 6 ∨ n = 7 ∨ n = 8 ∨ n = 9 ∨ n = 10 ∨ n = 11 ∨ n = 12 ∨ n = 13 ∨ n = 14 ∨ n = 15 ∨ n = 16 ∨ n = 17 ∨ n = 18 ∨ n = 19 ∨ n = 20 ∨ n = 21 ∨ n = 22 ∨ n = 23 ∨ n = 24 ∨ n = 25 ∨ n = 26 ∨ n = 27 ∨ n = 28 ∨ n = 29 := by omega
  all_goals kernel_rfl

theorem table_size : tableC.size = 270 := by kernel_rfl
theorem table_info : (Tryd.prog.info? 61).map (·.size) = some tableC.size := by kernel_rfl
theorem zero_size : Tryd.zeroCells61.size = tableC.size := by kernel_rfl
theorem table_one : tableC.all (·.oneCell') = true := by kernel_rfl

set_option maxRecDepth 100000 in
set_option maxHeartbeats 4000000 in
theorem table_any (w : World) : Calls Tryd.prog 25 #[] w fun e w' => e = .returned (.agg tableC) ∧ Keep NoB w w' := by
  go_enter Tryd.func25, Tryd.ntmps25
  go_wp2_with (first
    | (refine wpList_build_to rfl 61 _ rfl tableC (by kernel_rfl) ?_)
    | (refine wpList_store_row rfl 61 _ _ rfl w.heap.size tableC rfl rfl 61 _ (heap_alloc_last w _) table_info zero_size table_one ?_; rw [World.setRow_alloc_new]))
  exact bodyPost_ret (v := .agg tableC) (results_cell rfl rfl (run_loadVar_new (P := Tryd.prog) w 61 tableC 30 _ Tryd.underlying61 table_info)) rfl ⟨rfl, (Keep.refl NoB w).alloc _⟩

theorem run_index_row (op : Int) (h : isOp op = true) (w : World) : (Instr.index 61 (.agg tableC) (.int .i64 op)).run Tryd.prog w = .ok (.agg (rowC (rowAt op))) w := by
  have hb := isOp_yes h
  have e : rowAt op = rowsL.getD op.toNat row0 := by unfold rowAt; rw [if_pos h]
  have hp := row_part op.toNat (by omega)
  have hi : (sizeOf 44).run Tryd.prog w = .ok 9 w := Tryd.sizeOf44 w
  unfold Instr.index
  simp [run_underlying Tryd.underlying61, asIntOf, hb.1, hb.2, hi, part, hp, e]

end Go.Proofs.YtpkcjokkadfhcaaDoor.O
