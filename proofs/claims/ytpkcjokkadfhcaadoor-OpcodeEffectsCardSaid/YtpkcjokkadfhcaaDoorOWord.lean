/-
  What the functions in an operand's fields tell: an operand's text. Conditions: the listed package-level variables hold what their initialisers lay.
-/
import Derived.Test.YtpkcjokkadfhcaaDoorOOper
import Derived.Test.YtpkcjokkadfhcaaDoorWShow
import Derived.Test.YtpkcjokkadfhcaaDoorANm
namespace Go.Proofs.YtpkcjokkadfhcaaDoor.O
open Go.RowKit

/-- What the texts of operands are made with stands. -/
structure LaidO (w : World) : Prop where
  lets : W.LetAt w
  names : A.NamesAt w
  lib : W.Laid w
theorem LaidO.keep {w w' : World} (h : LaidO w) (hk : Keep NoB w w') : LaidO w' := ⟨h.lets.keep hk, A.NamesAt.keep _ _ h.names hk, h.lib.keep hk⟩
def I64 (n : Int) : Prop := -9223372036854775808 ≤ n ∧ n ≤ 9223372036854775807

theorem word_dig {k n : Int} (h : digK k = true) : word k n = Lib.itoa n := by
  have h := of_decide_eq_true h
  unfold word
  rw [if_neg (by omega), if_neg (by omega), if_neg (by omega)]
theorem dig_0 {k : Int} (h : digK k = true) : k ≠ 0 := by have h := of_decide_eq_true h; omega
theorem word_0 {k : Int} (h : wordK k = true) : k ≠ 0 := by have h := of_decide_eq_true h; omega

theorem nameAt_len {l : List (List UInt8)} {m : Nat} (h : l.all (fun s => decide (s.length ≤ m)) = true) (n : Int) : (A.nameAt l n).length ≤ m := by
  unfold A.nameAt
  split
  · rcases Nat.lt_or_ge n.toNat l.length with hlt | hge
    · rw [A.getD_at hlt]
      exact of_decide_eq_true (List.all_eq_true.1 h _ (List.getElem_mem hlt))
    · rw [A.getD_past hge]; exact Nat.zero_le _
  · exact Nat.zero_le _
theorem word_len (k n : Int) (hn : I64 n) : (word k n).length ≤ 21 := by
  unfold word
  split
  · unfold W.letC
    repeat' split
    all_goals simp
  · split
    · exact Nat.le_trans (nameAt_len (m := 6) (by decide) n) (by omega)
    · split
      · exact Nat.le_trans (nameAt_len (m := 6) (by decide) n) (by omega)
      · exact Lib.itoa_length_le n hn.1 hn.2

set_option maxHeartbeats 1000000 in
theorem show_dig (k n : Int) (w : World) (hk : digK k = true) (hn : I64 n) (h : LaidO w) :
    Calls Tryd.prog 42 #[.int .i64 n] w fun e w' => ∃ d, e = .returned (.string d) ∧ Hid (d = str (word k n)) ∧ Keep NoB w w' := by
  have HW := Lib.hid (word_dig (n := n) hk)
  have HF := Lib.hid (W.format_any n w hn.1 hn.2 h.lib)
  clear h hk hn
  go_enter Tryd.func42, Tryd.ntmps42
  go_wp2_with fail
  refine HF.out.mono ?_
  rintro e w1 ⟨d, rfl, _, hd, k1⟩
  go_wp2
  go_ret
  exact ⟨d, rfl, by show _ = _; rw [hd.out, HW.out], k1⟩

set_option maxHeartbeats 1000000 in
theorem show_word (k n : Int) (b : Nat) (w : World) (hk : wordK k = true) (hn : I64 n) (h : LaidO w) (hb : w.cell? ⟨b, 0, none⟩ = some (fnV (wordF k))) :
    Calls Tryd.prog 46 #[.int .i64 n, .pointer (some ⟨b, 0, none⟩)] w fun e w' => ∃ d, e = .returned (.string d) ∧ Hid (d = str (word k n)) ∧ Keep NoB w w' := by
  have hk := of_decide_eq_true hk
  have hc : k = 8 ∨ k = 9 ∨ (k = 2 ∨ k = 3) := by omega
  clear hk
  rcases hc with rfl | rfl | hk
  · have HF := Lib.hid (A.binName_any n w h.names hn)
    have hb' : w.cell? ⟨b, 0, none⟩ = some (fnV 34) := hb
    clear h hn hb
    go_enter Tryd.func46, Tryd.ntmps46
    go_wp2_with fail
    refine HF.out.mono ?_
    rintro e w1 ⟨rfl, rfl⟩
    go_wp2
    go_ret
    exact ⟨_, rfl, rfl, Keep.refl _ _⟩
  · have HF := Lib.hid (A.unName_any n w h.names hn)
    have hb' : w.cell? ⟨b, 0, none⟩ = some (fnV 36) := hb
    clear h hn hb
    go_enter Tryd.func46, Tryd.ntmps46
    go_wp2_with fail
    refine HF.out.mono ?_
    rintro e w1 ⟨rfl, rfl⟩
    go_wp2
    go_ret
    exact ⟨_, rfl, rfl, Keep.refl _ _⟩
  · have HF := Lib.hid (W.letter_any n w h.lets)
    have hb' : w.cell? ⟨b, 0, none⟩ = some (fnV 32) := by rw [hb]; unfold wordF; rw [if_neg (by omega), if_neg (by omega)]
    have HW : Hid (word k n = W.letC n) := by show _ = _; unfold word; rw [if_pos (by omega)]
    clear h hn hb hk
    go_enter Tryd.func46, Tryd.ntmps46
    go_wp2_with fail
    refine HF.out.mono ?_
    rintro e w1 ⟨rfl, rfl⟩
    go_wp2
    go_ret
    exact ⟨_, rfl, by show _ = _; rw [HW.out], Keep.refl _ _⟩

end Go.Proofs.YtpkcjokkadfhcaaDoor.O
