/-
  OpcodeEffects' walk. Conditions: the listed package-level variables hold what their initialisers lay.
-/
import Derived.Test.YtpkcjokkadfhcaaDoorOBoth
import Derived.Test.YtpkcjokkadfhcaaDoorOEffP
import Derived.Test.YtpkcjokkadfhcaaDoorWSame
import Derived.Test.YtpkcjokkadfhcaaDoorWCheck
namespace Go.Proofs.YtpkcjokkadfhcaaDoor.O
open Go.RowKit

theorem ivs_one (l : List Int) : ∀ u ∈ ivs l, u.oneCell' = true := by intro u hu; simp [ivs] at hu; obtain ⟨x, _, rfl⟩ := hu; rfl
theorem ivs_app (l r : List Int) : ivs (l ++ r) = ivs l ++ ivs r := by simp [ivs]
theorem blk3 {w : World} {g : Nat} {t : TypeId} {a0 a1 a2 : Value} (h : Blk w g t #[a0, a1, a2]) : w.cell? ⟨g, 0, none⟩ = some a0 ∧ w.cell? ⟨g, 1, none⟩ = some a1 ∧ w.cell? ⟨g, 2, none⟩ = some a2 := ⟨h.cell 0, h.cell 1, h.cell 2⟩
theorem rd_of {w : World} {O : Nat → Prop} {A : Option Addr} {n c : Nat} {xs : List Value} (h : Own w 3 1 O (.slice A n c) n xs) : Rd w A xs := by
  obtain ⟨A', c', e, _, _, hR, _⟩ := h.form
  cases e
  exact hR
theorem eff_gen (op a b : Int) (tl ll : List Int) (n m : Nat) (x : Bool) (w : World) (h : Hid ((takesI op a b = tl ∧ leavesI op a b = ll) ∧ (fixedI op a b = x ∧ tl.length = n ∧ ll.length = m))) :
    Calls Tryd.prog 6 #[instV op a b] w fun e w' => ∃ A c B d, e = .returned (.tuple #[.slice A n c, .slice B m d, .bool x]) ∧ Rd w' A (ivs tl) ∧ Rd w' B (ivs ll) ∧ Keep NoB w w' := by
  obtain ⟨⟨rfl, rfl⟩, rfl, rfl, rfl⟩ := h.out
  exact (effect_any op a b w).mono fun _ _ ⟨A, c, B, d, e, h1, h2, h3⟩ => ⟨A, c, B, d, e, rd_of h1, rd_of h2, h3⟩
theorem check_gen2 (op a b c : Int) (w : World) (h : Hid (chk op a b = c)) :
    Calls Tryd.prog 7 #[instV op a b] w fun e w' => e = .returned (.int .i64 c) ∧ Keep NoB w w' := by rw [← h.out]; exact check_any op a b w
theorem ends_gen (op a b : Int) (c : Bool) (w : World) (h : Hid (endsI op a b = c)) :
    Calls Tryd.prog 8 #[instV op a b] w fun e w' => e = .returned (.bool c) ∧ Keep NoB w w' := by rw [← h.out]; exact ends_any op a b w
theorem goes_gen (op a b c : Int) (g : Bool) (w : World) (h : Hid (goesN op a b = c ∧ goesI op a b = g)) :
    Calls Tryd.prog 10 #[instV op a b] w fun e w' => e = .returned (.tuple #[.int .i64 c, .bool g]) ∧ Keep NoB w w' := by rw [← h.out.1, ← h.out.2]; exact goes_any op a b w
theorem kinds_gen (op j k : Int) (w : World) (h : Hid ((rowAt op).ka = j ∧ (rowAt op).kb = k)) :
    Calls Tryd.prog 11 #[.int .i64 op] w fun e w' => e = .returned (.tuple #[.int .i64 j, .int .i64 k]) ∧ Keep NoB w w' := by rw [← h.out.1, ← h.out.2]; exact kinds_any op w

theorem chk_no {op a b : Int} (h : okI op a b = false) : chk op a b = 40 := by unfold chk; rw [if_neg (by rw [h]; decide)]
theorem chk_ok {op a b : Int} (h : okI op a b = true) : chk op a b = 0 := by unfold chk; rw [if_pos h]
theorem not_both {op : Int} (h : (rowAt op).ka = 2) : (rowAt op).kb ≠ 3 := by
  have := rowAt_all (p := fun r => decide (r.ka = 2 → r.kb ≠ 3)) (by decide) (by decide) op
  exact of_decide_eq_true this h
theorem eff_alike' {op a b op' a' b' : Int} (e : op' = op) (h : okI op a b = true) (h' : okI op' a' b' = true) :
    fixedI op a b = fixedI op' a' b' ∧ (takesI op a b).length = (takesI op' a' b').length ∧ (leavesI op a b).length = (leavesI op' a' b').length := by subst e; exact eff_alike h h'
theorem eff_same' {op a b op' a' b' : Int} (e : op' = op) (h : okI op a b = true) (h' : okI op' a' b' = true) (ha : (rowAt op).ka = 2 → a = a') (hb : (rowAt op).kb = 3 → b = b') :
    takesI op a b = takesI op' a' b' ∧ leavesI op a b = leavesI op' a' b' := by subst e; exact eff_same h h' ha hb

end Go.Proofs.YtpkcjokkadfhcaaDoor.O
