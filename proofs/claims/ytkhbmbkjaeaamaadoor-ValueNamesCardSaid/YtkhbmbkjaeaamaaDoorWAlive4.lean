/-
  The law's own alive: it returns true. Conditions: the listed variables hold what their initialisers lay.
-/
import Derived.Test.YtkhbmbkjaeaamaaDoorWAlive
import Derived.Deep.RegionWith
namespace Go.Proofs.YtkhbmbkjaeaamaaDoor
open Go.RowKit

theorem rd_three (w : World) (x y z : Value) (T : TypeId) : Rd (w.alloc (.cells #[x, y, z] T)) (some ⟨w.heap.size, 0, none⟩) [x, y, z] := fun _ =>
  ⟨_, 0, rfl, fun j u hu => by rw [Nat.zero_add, (Blk.new w T #[x, y, z]).cell j, ← hu]; simp⟩
theorem text_at (B : Nat) (W : World) (hL : LetAt W) (h : Rd W (some ⟨B, 0, none⟩) (ivs [1, 2, 4])) :
    Calls Tryd.prog 16 #[.slice (some ⟨B, 0, none⟩) 3 3] W fun e w' => e = .returned (.string (str [73, 82, 80])) ∧ Keep NoB W w' := by
  have := text_any (some ⟨B, 0, none⟩) [1, 2, 4] 3 3 W hL h rfl (by decide)
  rw [text_a] at this
  exact this

set_option maxRecDepth 100000 in
set_option maxHeartbeats 40000000 in
theorem alive_any (w : World) (hL : LetAt w) (h : Laid w) :
    Calls Tryd.prog 29 #[] w fun e w' => e = .returned (.bool true) ∧ Keep NoB w w' := by
  go_enter Tryd.func29, Tryd.ntmps29
  go_wp2_with fail
  refine (types_any (str [73, 82, 88]) [73, 82, 88] _ hL rfl (by decide)).mono ?_
  rintro e w1 ⟨B, d, rfl, -, hk1⟩
  rw [types_a.1, types_a.2.2]
  go_wp2_with fail
  refine (read_at 1 ⟨#[48, 48, 55]⟩ 0 0 21 _ (by decide) (h.keep hk1) read_a.1 read_a.2.1 read_a.2.2).mono ?_
  rintro e w2 ⟨rfl, hk2⟩
  have hK2 := (keepN hk1 hk2).alloc (.cells #[.int .i64 0, .int .i64 0] 35)
  go_wp2_with fail
  generalize w2.alloc (.cells #[.int .i64 0, .int .i64 0] 35) = w3 at hK2 ⊢
  refine (read_at 3 ⟨#[64, 50]⟩ 3 3 0 _ (by decide) (h.keep hK2) read_b.1 read_b.2.1 read_b.2.2).mono ?_
  rintro e w4 ⟨rfl, hk4⟩
  have hK5 := (keepN hK2 hk4).alloc (.cells #[.int .i64 3, .int .i64 3] 35)
  have hB5 := Blk.new w4 35 #[.int .i64 3, .int .i64 3]
  go_wp2
  generalize w4.alloc (.cells #[.int .i64 3, .int .i64 3] 35) = w5 at hK5 hB5 ⊢
  have hL5 := hL.keep hK5
  have h5 := h.keep hK5
  have HQ : Hid (∀ w', Keep NoB w5 w' → w'.cell? ⟨w4.heap.size, 0, none⟩ = some (.int .i64 3) ∧ w'.cell? ⟨w4.heap.size, 1, none⟩ = some (.int .i64 3)) :=
    fun w' hk' => ⟨(hB5.keep hk' id).cell 0, (hB5.keep hk' id).cell 1⟩
  have hd0 := (Keep.refl NoB w5).drew
  have hd1 := hd0.alloc (.cells #[.int .i64 1, .int .i64 2, .int .i64 4] 3)
  have hrd := rd_three w5.drew (.int .i64 1) (.int .i64 2) (.int .i64 4) 3
  clear hL h hk1 hk2 hk4 hK2 hB5
  (go_region_held (fun w' => w'.cell? ⟨w4.heap.size, 0, none⟩ = some (.int .i64 3) ∧ w'.cell? ⟨w4.heap.size, 1, none⟩ = some (.int .i64 3))
        (first | exact HQ.out _ g | exact HQ.out _ hd1 | exact HQ.out _ hd0)
        (first
          | (go_at_call 16; refine (text_at _ _ (hL5.keep hd1) hrd).mono ?_; rintro e v1 ⟨rfl, g'⟩; have g := keepN hd1 g'; clear hd1 hrd g')
          | (go_at_call 23; refine (of_of _ _ _).mono ?_; rintro e v2 ⟨rfl, g'⟩; have g := keepN g g'; clear g')
          | (go_at_call 21; refine (show_any _ _ _ ⟨by decide, by decide⟩ (h5.keep g)).mono ?_; (first | rw [show_a] | rw [show_b] | rw [show_c] | rw [show_d] | rw [show_e]); rintro e v3 ⟨rfl, g'⟩; have g := keepN g g'; clear g')))
  all_goals go_wp2
  all_goals go_ret
  all_goals exact ⟨rfl, keepN hK5 g⟩

end Go.Proofs.YtkhbmbkjaeaamaaDoor
