/-
  What the listed package-level variables hold, carried from world to world; Letter and lettered. Conditions: the variables hold what their initialisers lay.
-/
import Derived.Test.YtpkcjokkadfhcaaDoorWFits
import Derived.Test.YtpkcjokkadfhcaaDoorShelf
import Derived.Lib.SmallJoins
namespace Go.Proofs.YtpkcjokkadfhcaaDoor.W
open Go.RowKit

theorem gLet : Tryd.prog.globalNamed "backstay/value.letters" = some 0 := by kernel_rfl
theorem gPow : Tryd.prog.globalNamed "internal/strconv.uint64pow10" = some 3 := by kernel_rfl
theorem gSyn : Tryd.prog.globalNamed "strconv.ErrSyntax" = some 4 := by kernel_rfl
theorem gRng : Tryd.prog.globalNamed "strconv.ErrRange" = some 5 := by kernel_rfl

theorem var_keep {n : String} {g : Nat} {cs : Array Value} {w w' : World} (hg : Tryd.prog.globalNamed n = some g) (h : w.var? Tryd.prog n = some cs) (hk : Keep NoB w w') : w'.var? Tryd.prog n = some cs :=
  Go.Joins.var_stays hg h hk.toBelow (Nat.le_refl _)

def letV : Array Value := #[.int .i32 0, .int .i32 73, .int .i32 82, .int .i32 70, .int .i32 80]
def sigV : Array Value := #[.string ⟨#[]⟩, .string ⟨#[]⟩, .string ⟨#[35]⟩, .string ⟨#[64]⟩, .string ⟨#[38]⟩]

/-- The letters stand. -/
def LetAt (w : World) : Prop := w.var? Tryd.prog "backstay/value.letters" = some letV
theorem LetAt.keep {w w' : World} (h : LetAt w) (hk : Keep NoB w w') : LetAt w' := var_keep gLet h hk
theorem LetAt.cell {w : World} (h : LetAt w) (i : Nat) : w.cell? ⟨0, i, none⟩ = letV[i]? := World.var?_cell gLet h i

/-- What the texts of values are made with stands. -/
structure Laid (w : World) : Prop where
  pow : Lib.TabIs Tryd.prog w "internal/strconv.uint64pow10" .u64 Lib.pow10Tab
  syn : ∃ tp p, w.var? Tryd.prog "strconv.ErrSyntax" = some #[.iface tp p]
  rng : ∃ tp p, w.var? Tryd.prog "strconv.ErrRange" = some #[.iface tp p]
theorem Laid.keep {w w' : World} (h : Laid w) (hk : Keep NoB w w') : Laid w' :=
  ⟨var_keep gPow h.pow hk, h.syn.imp fun _ ⟨p, hp⟩ => ⟨p, var_keep gSyn hp hk⟩, h.rng.imp fun _ ⟨p, hp⟩ => ⟨p, var_keep gRng hp hk⟩⟩
set_option maxRecDepth 100000 in
set_option maxHeartbeats 1000000 in
theorem letter_any (t : Int) (w : World) (h : LetAt w) :
    Calls Tryd.prog 32 #[.int .i64 t] w fun e w' => e = .returned (.string (str (letC t))) ∧ w = w' := by
  cases hk : knownB t
  · have HL := Lib.hid (letC_none hk)
    go_enter Tryd.func32, Tryd.ntmps32
    go_wp2_with (go_at_call 9; refine (known_any _ _).mono ?_; rintro e w' ⟨rfl, rfl⟩)
    go_ret
    exact ⟨by rw [HL.out]; rfl, rfl⟩
  · rcases known_cases hk with rfl | rfl | rfl | rfl
    · have c : w.cell? ⟨0, 1, none⟩ = some (.int .i32 73) := h.cell 1
      go_enter Tryd.func32, Tryd.ntmps32
      go_wp2_with (go_at_call 9; refine (known_any _ _).mono ?_; rintro e w' ⟨rfl, rfl⟩)
      go_ret
      exact ⟨rfl, rfl⟩
    · have c : w.cell? ⟨0, 2, none⟩ = some (.int .i32 82) := h.cell 2
      go_enter Tryd.func32, Tryd.ntmps32
      go_wp2_with (go_at_call 9; refine (known_any _ _).mono ?_; rintro e w' ⟨rfl, rfl⟩)
      go_ret
      exact ⟨rfl, rfl⟩
    · have c : w.cell? ⟨0, 3, none⟩ = some (.int .i32 70) := h.cell 3
      go_enter Tryd.func32, Tryd.ntmps32
      go_wp2_with (go_at_call 9; refine (known_any _ _).mono ?_; rintro e w' ⟨rfl, rfl⟩)
      go_ret
      exact ⟨rfl, rfl⟩
    · have c : w.cell? ⟨0, 4, none⟩ = some (.int .i32 80) := h.cell 4
      go_enter Tryd.func32, Tryd.ntmps32
      go_wp2_with (go_at_call 9; refine (known_any _ _).mono ?_; rintro e w' ⟨rfl, rfl⟩)
      go_ret
      exact ⟨rfl, rfl⟩

end Go.Proofs.YtpkcjokkadfhcaaDoor.W
