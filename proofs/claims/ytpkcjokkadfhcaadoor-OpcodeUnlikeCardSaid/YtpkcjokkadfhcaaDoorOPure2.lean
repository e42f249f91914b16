/-
  An instruction's bytes, and its text, tell it: plain mathematics. No program, no conditions.
-/
import Derived.Test.YtpkcjokkadfhcaaDoorOPure
import Derived.Test.YtpkcjokkadfhcaaDoorVDec
import Derived.Lib.Strings
namespace Go.Proofs.YtpkcjokkadfhcaaDoor.O

theorem in_bounds {k n : Int} (h : inK k n = true) : (-9223372036854775808 ≤ n ∧ n ≤ 9223372036854775807) ∧ (k ≠ 1 → 0 ≤ n ∧ n ≤ 511) ∧ (k = 0 → n = 0) := by
  have h := of_decide_eq_true h
  unfold lo hi at h
  repeat' split at h
  all_goals omega

theorem enc_cancel {m n : Nat} {s t : List UInt8} (hm : m < 18446744073709551616) (hn : n < 18446744073709551616) (h : V.encL m ++ s = V.encL n ++ t) : m = n ∧ s = t := by
  have e := congrArg V.nx h
  rw [V.nx_enc m hm, V.nx_enc n hn] at e
  have e1 : m = n := (Prod.mk.inj e).1
  subst e1
  exact ⟨rfl, List.append_cancel_left h⟩
theorem encP_cancel {k a b : Int} {s t : List UInt8} (ha : inK k a = true) (hb : inK k b = true) (h : encP k a ++ s = encP k b ++ t) : a = b ∧ s = t := by
  have xa := in_bounds ha
  have xb := in_bounds hb
  unfold encP at h
  split at h
  · rename_i h0
    rw [xa.2.2 h0, xb.2.2 h0]; exact ⟨rfl, by simpa using h⟩
  · split at h
    · obtain ⟨h1, h2⟩ := enc_cancel (V.zig_lt a xa.1.1 xa.1.2) (V.zig_lt b xb.1.1 xb.1.2) h
      exact ⟨(V.zig_inj a b).1 h1, h2⟩
    · rename_i h1
      have ya := xa.2.1 h1
      have yb := xb.2.1 h1
      obtain ⟨h1, h2⟩ := enc_cancel (by omega) (by omega) h
      exact ⟨by omega, h2⟩
theorem bytes_cancel {op a b op' a' b' : Int} {s t : List UInt8} (h1 : okI op a b = true) (h2 : okI op' a' b' = true) (h : bytesI op a b ++ s = bytesI op' a' b' ++ t) : (op = op' ∧ a = a' ∧ b = b') ∧ s = t := by
  obtain ⟨o1, a1, b1⟩ := ok_op h1
  obtain ⟨o2, a2, b2⟩ := ok_op h2
  have x1 := isOp_yes o1
  have x2 := isOp_yes o2
  unfold bytesI at h
  simp only [List.append_assoc] at h
  obtain ⟨e1, h⟩ := enc_cancel (by omega) (by omega) h
  have e1 : op = op' := by omega
  subst e1
  obtain ⟨e2, h'⟩ := encP_cancel a1 a2 h
  obtain ⟨e3, h''⟩ := encP_cancel b1 b2 h'
  exact ⟨⟨rfl, e2, e3⟩, h''⟩
theorem bytes_ne {op a b : Int} (h : okI op a b = true) : bytesI op a b ≠ [] := by
  have x := isOp_yes (ok_op h).1
  intro e
  have hl := congrArg List.length e
  unfold bytesI at hl
  rw [List.length_append, V.encL_length _ (by omega)] at hl
  have := V.wd_pos op.toNat
  simp at hl
  omega

/-- A text up to its first blank. -/
def upto (l : List UInt8) : List UInt8 := l.takeWhile (fun c => decide (c ≠ 32))
theorem upto_of {s r : List UInt8} (hs : ∀ c ∈ s, c ≠ 32) (hr : r = [] ∨ ∃ r', r = 32 :: r') : upto (s ++ r) = s := by
  unfold upto
  rw [List.takeWhile_append_of_pos (by intro c hc; simpa using hs c hc)]
  rcases hr with rfl | ⟨r', rfl⟩
  · simp
  · simp
theorem split_at {s t r q : List UInt8} (hs : ∀ c ∈ s, c ≠ 32) (ht : ∀ c ∈ t, c ≠ 32) (hr : r = [] ∨ ∃ r', r = 32 :: r') (hq : q = [] ∨ ∃ q', q = 32 :: q') (h : s ++ r = t ++ q) : s = t ∧ r = q := by
  have e := congrArg upto h
  rw [upto_of hs hr, upto_of ht hq] at e
  subst e
  exact ⟨rfl, List.append_cancel_left h⟩

theorem itoa_no (n : Int) : ∀ c ∈ Lib.itoa n, c ≠ 32 := by
  have hd : ∀ u, ∀ c ∈ Lib.decDigits u, c ≠ 32 := fun u c hc e => by
    have := W.dec_digits u c hc
    rw [e] at this
    exact absurd this (by decide)
  intro c hc
  rcases Int.lt_or_le n 0 with h | h
  · rw [W.itoa_minus h] at hc
    rcases List.mem_cons.1 hc with rfl | hc
    · decide
    · exact hd _ c hc
  · rw [W.itoa_pos h] at hc
    exact hd _ c hc
theorem nameAt_all {l : List (List UInt8)} {p : List UInt8 → Bool} (h : l.all p = true) (h0 : p [] = true) (n : Int) : p (A.nameAt l n) = true := by
  unfold A.nameAt
  split
  · rcases Nat.lt_or_ge n.toNat l.length with hlt | hge
    · rw [A.getD_at hlt]
      exact List.all_eq_true.1 h _ (List.getElem_mem hlt)
    · rw [A.getD_past hge]; exact h0
  · exact h0
def noSp (s : List UInt8) : Bool := s.all fun c => decide (c ≠ 32)
theorem noSp_mem {s : List UInt8} (h : noSp s = true) : ∀ c ∈ s, c ≠ 32 := fun c hc => by simpa using List.all_eq_true.1 h c hc
theorem word_no (k n : Int) : ∀ c ∈ word k n, c ≠ 32 := by
  unfold word
  split
  · apply noSp_mem
    unfold W.letC
    repeat' split
    all_goals decide
  · split
    · exact noSp_mem (nameAt_all (p := noSp) (by decide) (by decide) n)
    · split
      · exact noSp_mem (nameAt_all (p := noSp) (by decide) (by decide) n)
      · exact itoa_no n
theorem name_no (op : Int) : ∀ c ∈ (rowAt op).name, c ≠ 32 := noSp_mem (rowAt_all (p := fun r => noSp r.name) (by decide) (by decide) op)
theorem part_sp (k n : Int) : partL k n = [] ∨ ∃ r, partL k n = 32 :: r := by
  unfold partL
  split
  · exact .inl rfl
  · exact .inr ⟨_, rfl⟩
theorem names_inj (l : List (List UInt8)) (hnd : (List.range l.length).all (fun i => (List.range l.length).all fun j => decide (l.getD i [] = l.getD j [] → i = j)) = true) {a b : Int} (ha : 0 ≤ a ∧ a < l.length) (hb : 0 ≤ b ∧ b < l.length) (h : A.nameAt l a = A.nameAt l b) : a = b := by
  unfold A.nameAt at h
  rw [if_pos ha.1, if_pos hb.1] at h
  have h1 := List.all_eq_true.1 hnd a.toNat (List.mem_range.2 (by omega))
  have h2 := List.all_eq_true.1 h1 b.toNat (List.mem_range.2 (by omega))
  have := of_decide_eq_true h2 h
  omega
theorem word_inj {k a b : Int} (hk : k ≠ 0) (ha : inK k a = true) (hb : inK k b = true) (h : word k a = word k b) : a = b := by
  have xa := in_bounds ha
  have xb := in_bounds hb
  have ya := of_decide_eq_true ha
  have yb := of_decide_eq_true hb
  unfold word at h
  split at h
  · rename_i hk2
    have z1 : 1 ≤ a ∧ a ≤ 4 ∧ 1 ≤ b ∧ b ≤ 4 := by unfold lo hi at ya yb; rcases hk2 with rfl | rfl <;> simp at ya yb <;> omega
    obtain ⟨p1, p2, p3, p4⟩ := z1
    have va : a = 1 ∨ a = 2 ∨ a = 3 ∨ a = 4 := by omega
    have vb : b = 1 ∨ b = 2 ∨ b = 3 ∨ b = 4 := by omega
    rcases va with rfl | rfl | rfl | rfl <;> rcases vb with rfl | rfl | rfl | rfl <;> first | rfl | (exact absurd h (by decide))
  · split at h
    · rename_i h1 h2
      subst h2
      exact names_inj A.binNs (by decide +kernel) (by unfold lo hi at ya; simp at ya; exact ⟨ya.1, by have : A.binNs.length = 14 := rfl; omega⟩) (by unfold lo hi at yb; simp at yb; exact ⟨yb.1, by have : A.binNs.length = 14 := rfl; omega⟩) h
    · split at h
      · rename_i h1 h2 h3
        subst h3
        exact names_inj A.unNs (by decide +kernel) (by unfold lo hi at ya; simp at ya; exact ⟨ya.1, by have : A.unNs.length = 9 := rfl; omega⟩) (by unfold lo hi at yb; simp at yb; exact ⟨yb.1, by have : A.unNs.length = 9 := rfl; omega⟩) h
      · exact W.itoa_inj xa.1 xb.1 h
theorem rowsN_nodup : (List.range 30).all (fun i => (List.range 30).all fun j => decide ((rowsL.getD i row0).name = (rowsL.getD j row0).name → i = j)) = true := by decide +kernel
theorem name_inj {op op' : Int} (h1 : isOp op = true) (h2 : isOp op' = true) (h : (rowAt op).name = (rowAt op').name) : op = op' := by
  have x1 := isOp_yes h1
  have x2 := isOp_yes h2
  unfold rowAt at h
  rw [if_pos h1, if_pos h2] at h
  have e1 := List.all_eq_true.1 rowsN_nodup op.toNat (List.mem_range.2 (by omega))
  have e2 := List.all_eq_true.1 e1 op'.toNat (List.mem_range.2 (by omega))
  have := of_decide_eq_true e2 h
  omega
theorem part_cancel {k a b : Int} {s t : List UInt8} (ha : inK k a = true) (hb : inK k b = true) (hs : s = [] ∨ ∃ r, s = 32 :: r) (ht : t = [] ∨ ∃ r, t = 32 :: r) (h : partL k a ++ s = partL k b ++ t) : a = b ∧ s = t := by
  unfold partL at h
  split at h
  · rename_i h0
    rw [(in_bounds ha).2.2 h0, (in_bounds hb).2.2 h0]; exact ⟨rfl, by simpa using h⟩
  · rename_i h0
    simp only [List.cons_append, List.cons.injEq, true_and] at h
    obtain ⟨h1, h2⟩ := split_at (word_no k a) (word_no k b) hs ht h
    exact ⟨word_inj h0 ha hb h1, h2⟩
theorem text_inj {op a b op' a' b' : Int} (h1 : okI op a b = true) (h2 : okI op' a' b' = true) (h : textI op a b = textI op' a' b') : op = op' ∧ a = a' ∧ b = b' := by
  obtain ⟨o1, a1, b1⟩ := ok_op h1
  obtain ⟨o2, a2, b2⟩ := ok_op h2
  have hsp : ∀ k a k' b, (partL k a ++ partL k' b = [] ∨ ∃ r, partL k a ++ partL k' b = 32 :: r) := fun k a k' b => by
    rcases part_sp k a with e | ⟨r, e⟩
    · rw [e]; exact part_sp k' b
    · rw [e]; exact .inr ⟨_, rfl⟩
  unfold textI at h
  obtain ⟨e1, h⟩ := split_at (name_no op) (name_no op') (hsp _ _ _ _) (hsp _ _ _ _) h
  have e1 := name_inj o1 o2 e1
  subst e1
  obtain ⟨e2, h2⟩ := part_cancel a1 a2 (part_sp _ _) (part_sp _ _) h
  have h' : partL (rowAt op).kb b ++ [] = partL (rowAt op).kb b' ++ [] := by simpa using h2
  obtain ⟨e3, _⟩ := part_cancel b1 b2 (.inl rfl) (.inl rfl) h'
  exact ⟨rfl, e2, e3⟩

end Go.Proofs.YtpkcjokkadfhcaaDoor.O
