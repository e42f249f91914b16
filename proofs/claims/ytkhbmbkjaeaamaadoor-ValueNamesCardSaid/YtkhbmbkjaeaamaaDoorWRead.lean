/-
  The plain mathematics of Read, the code's and the document's: which value a text could be, and that both read just the texts of values. No program, no conditions.
-/
import Derived.Test.YtkhbmbkjaeaamaaDoorWPure
import Derived.Lib.Strings
import Derived.Lib.AtoiBound
namespace Go.Proofs.YtkhbmbkjaeaamaaDoor
open Go.Lib

/-- The number that ParseInt hands back, whatever the error. -/
def pI (l : List UInt8) : Int := match atoiAll l with | .ok v => v | .range => atoiSat l | _ => 0
/-- A number's place in an int64. -/
def w64 (n : Int) : Int := (n + 9223372036854775808) % 18446744073709551616 - 9223372036854775808
theorem w64_in {n : Int} (h0 : -9223372036854775808 ≤ n) (h1 : n ≤ 9223372036854775807) : w64 n = n := by unfold w64; omega
theorem w64_bounds (n : Int) : -9223372036854775808 ≤ w64 n ∧ w64 n ≤ 9223372036854775807 := by unfold w64; omega
/-- The number that the code guesses of a text. -/
def gN (t : Int) (s : List UInt8) : Int := if s = [110, 105, 108] then 0 else w64 (pI (trimPrefix s (sgn t)) + off t)
/-- Read: the number of the value, if the text is that of one. -/
def rd (t : Int) (s : List UInt8) : Option Int := if showL t (gN t s) = s then some (gN t s) else none

theorem pI_bounds (l : List UInt8) : -9223372036854775808 ≤ pI l ∧ pI l ≤ 9223372036854775807 := by
  unfold pI
  rcases h : atoiAll l with v | _ | _
  · obtain ⟨b1, b2⟩ := Lib.atoiAll_bounds h
    simp only
    omega
  · simp
  · simp only [atoiSat]; split <;> omega
theorem gN_bounds (t : Int) (s : List UInt8) : -9223372036854775808 ≤ gN t s ∧ gN t s ≤ 9223372036854775807 := by
  unfold gN; split
  · omega
  · exact w64_bounds _

theorem trim_sign (x s : List UInt8) : trimPrefix (x ++ s) x = s := by
  unfold trimPrefix hasPrefix
  simp
theorem itoa_not_nil (n : Int) (r : List UInt8) : itoa n ++ r ≠ [110, 105, 108] := by
  obtain ⟨c, q, h, hc⟩ := itoa_cons n
  rw [h]
  intro e
  rw [List.cons_append] at e
  injection e with e _
  subst e
  rcases hc with hc | hc
  · cases hc
  · exact absurd hc (by decide)

/-- Numbers that int64 has. -/
def I64 (n : Int) : Prop := -9223372036854775808 ≤ n ∧ n ≤ 9223372036854775807

/-- The text of a value, not `&`, is guessed. -/
theorem guess_show {t n : Int} (hn : I64 n) (ho : okB t n = true) (h4 : t = 4 → n = 0) : gN t (showL t n) = n := by
  obtain ⟨hn0, hn1⟩ := hn
  cases hz : nilB t n
  · have ht : t ≠ 4 := by
      rintro rfl
      rw [nil_not] at hz; have := h4 rfl; omega
    rw [show_num ho hz ht]
    have ho' := (ok_iff t n).1 ho
    rw [nil_not] at hz
    have hoff : I64 (n - off t) := by
      unfold I64 off
      split <;> omega
    have hne : sgn t ++ itoa (n - off t) ≠ [110, 105, 108] := by
      rcases known_cases (ok_known ho) with rfl | rfl | rfl | rfl
      · have := itoa_not_nil (n - off 1) []; rw [List.append_nil] at this; exact this
      · intro e; injection e with e _; exact absurd e (by decide)
      · intro e; injection e with e _; exact absurd e (by decide)
      · exact absurd rfl ht
    unfold gN
    rw [if_neg hne, trim_sign]
    unfold pI
    rw [atoi_itoa _ hoff.1 hoff.2]
    simp only
    rw [w64_in (by omega) (by omega)]; omega
  · rw [show_nil hz]
    unfold gN
    rw [if_pos rfl, ((nil_iff t n).1 hz).2]

theorem rd_show {t n : Int} (hn : I64 n) (ho : okB t n = true) (h4 : t = 4 → n = 0) : rd t (showL t n) = some n := by
  unfold rd; rw [guess_show hn ho h4, if_pos rfl]

theorem guess_empty (t : Int) : gN t [] = off t := by
  have : trimPrefix [] (sgn t) = [] := by unfold trimPrefix; split <;> simp
  unfold gN
  rw [if_neg (by simp), this]
  show w64 (0 + off t) = off t
  rw [Int.zero_add, w64_in] <;> unfold off <;> split <;> omega
theorem guess_amp : gN 4 [38] = 0 := by decide +kernel

theorem show_ne {t n : Int} (h : okB t n = true) : showL t n ≠ [] := by
  cases hz : nilB t n
  · by_cases h4 : t = 4
    · subst h4
      rw [show_ptr (by rw [nil_not] at hz; rw [ok_iff] at h; omega)]; simp
    · rw [show_num h hz h4]
      obtain ⟨c, r, hc, _⟩ := itoa_cons (n - off t)
      rw [hc]; simp
  · rw [show_nil hz]; simp

/-- What is read of a text has just this, may be, and is no pointer but nil. -/
theorem rd_some {t : Int} {s : List UInt8} {n : Int} (ht : knownB t = true) (h : rd t s = some n) : showL t n = s ∧ okB t n = true ∧ I64 n ∧ (t = 4 → n = 0) := by
  unfold rd at h
  split at h
  · rename_i hs
    injection h with h
    subst h
    have hok : okB t (gN t s) = true := by
      cases ho : okB t (gN t s)
      · rw [show_bad ho] at hs
        subst hs
        rw [guess_empty] at ho
        rw [ok_not] at ho
        have := (known_iff t).1 ht
        unfold off at ho
        split at ho <;> omega
      · rfl
    refine ⟨hs, hok, gN_bounds t s, ?_⟩
    rintro rfl
    rcases Nat.eq_zero_or_pos (gN 4 s).toNat with h0 | h0
    · have := (ok_iff _ _).1 hok; omega
    · exfalso
      rw [show_ptr (by omega)] at hs
      subst hs
      rw [guess_amp] at h0
      simp at h0
  · cases h
/-- Two values of one type that is not P have the same text just if they are the same. -/
theorem show_inj {t a b : Int} (ha : I64 a) (hb : I64 b) (hoa : okB t a = true) (hob : okB t b = true) (h4 : t ≠ 4) (h : showL t a = showL t b) : a = b := by
  have h1 := rd_show ha hoa (fun e => absurd e h4)
  rw [h, rd_show hb hob (fun e => absurd e h4)] at h1
  injection h1 with h1
  exact h1.symm

/-! ### The document's own way of reading -/

/-- The number whose digits a text has, of 1 to 19 of them. -/
def num19 (s : List UInt8) : Option Nat := if 1 ≤ s.length ∧ s.length ≤ 19 ∧ (s.all fun c => decide (48 ≤ c.toNat ∧ c.toNat ≤ 57)) = true then some (spell 0 s) else none
/-- number: 0 and false, or the number and true. -/
def numR (s : List UInt8) : Int × Bool :=
  match s with
  | [] => (0, false)
  | c :: r => if c = 45 then (match num19 r with | some m => (w64 (-(m : Int)), true) | none => (0, false)) else (match num19 s with | some m => (w64 m, true) | none => (0, false))
/-- The digits that it looks at. -/
def digs (t : Int) (s : List UInt8) : List UInt8 := if 1 < t then s.drop 1 else s
/-- The number of the value that it could be. -/
def gR (t : Int) (s : List UInt8) : Int :=
  if (numR (digs t s)).2 = true ∧ t < 4 ∧ s ≠ [110, 105, 108] then (if t = 3 ∧ (numR (digs t s)).1 < 9223372036854775807 then (numR (digs t s)).1 + 1 else (numR (digs t s)).1) else 0
def rdR (t : Int) (s : List UInt8) : Option Int := if s = [] ∨ s = [38] ∨ showL t (gR t s) ≠ s then none else some (gR t s)

theorem spell_lt : ∀ (l : List UInt8) (acc : Nat), (∀ c ∈ l, 48 ≤ c.toNat ∧ c.toNat ≤ 57) → spell acc l < (acc + 1) * 10 ^ l.length
  | [], acc, _ => by simp [spell]
  | c :: r, acc, h => by
    have hc := h c (List.mem_cons_self ..)
    have := spell_lt r (acc * 10 + (c.toNat - 48)) (fun c h' => h c (List.mem_cons_of_mem _ h'))
    have he : spell acc (c :: r) = spell (acc * 10 + (c.toNat - 48)) r := rfl
    rw [he, List.length_cons, Nat.pow_succ]
    have h2 : (acc * 10 + (c.toNat - 48) + 1) * 10 ^ r.length ≤ (acc + 1) * (10 ^ r.length * 10) := by
      rw [Nat.mul_comm (10 ^ r.length) 10, ← Nat.mul_assoc]
      exact Nat.mul_le_mul_right _ (by omega)
    omega

theorem num19_lt {s : List UInt8} {m : Nat} (h : num19 s = some m) : m < 10000000000000000000 := by
  unfold num19 at h
  split at h
  · rename_i hc
    injection h with h
    subst h
    have hd : ∀ c ∈ s, 48 ≤ c.toNat ∧ c.toNat ≤ 57 := fun c hm => by simpa using List.all_eq_true.1 hc.2.2 c hm
    have h1 := spell_lt s 0 hd
    have h2 : 10 ^ s.length ≤ 10 ^ 19 := Nat.pow_le_pow_right (by omega) hc.2.1
    have h3 : (10 : Nat) ^ 19 = 10000000000000000000 := by decide
    omega
  · cases h
theorem numR_bounds (s : List UInt8) : I64 (numR s).1 := by
  unfold I64 numR
  split
  · exact ⟨by simp, by simp⟩
  · split
    · split
      · exact w64_bounds _
      · exact ⟨by simp, by simp⟩
    · split
      · exact w64_bounds _
      · exact ⟨by simp, by simp⟩
theorem gR_bounds (t : Int) (s : List UInt8) : I64 (gR t s) := by
  have h := numR_bounds (digs t s)
  unfold I64 at h ⊢
  unfold gR
  split
  · split <;> omega
  · omega

theorem dec_len (u : Nat) (h : u < 10000000000000000000) : (decDigits u).length ≤ 19 := by
  rw [decDigits_length]
  rcases Nat.lt_or_ge 19 (nDigits u) with h1 | h1
  · exfalso
    obtain ⟨k, hk⟩ : ∃ k, nDigits u = k + 1 := ⟨nDigits u - 1, by omega⟩
    have hlo : ∀ u k, nDigits u = k + 1 → 1 ≤ k → 10 ^ k ≤ u := by
      intro u
      induction u using Nat.strongRecOn with
      | _ u ih =>
        intro k hk h1
        by_cases hs : u < 10
        · rw [nDigits_small hs] at hk; omega
        · rw [nDigits_big hs] at hk
          obtain ⟨j, rfl⟩ : ∃ j, k = j + 1 := ⟨k - 1, by omega⟩
          rw [Nat.pow_succ]
          rcases Nat.eq_zero_or_pos j with rfl | hj
          · simp; omega
          · have := ih (u / 10) (by omega) j (by omega) hj
            omega
    have h2 := hlo u k hk (by omega)
    have h3 : 10 ^ 19 ≤ 10 ^ k := Nat.pow_le_pow_right (by omega) (by omega)
    have h4 : (10 : Nat) ^ 19 = 10000000000000000000 := by decide
    omega
  · exact h1
theorem num19_dec (u : Nat) (h : u < 10000000000000000000) : num19 (decDigits u) = some u := by
  obtain ⟨c, r, hc, _⟩ := dec_cons u
  have hl := dec_len u h
  have hd : ((decDigits u).all fun c => decide (48 ≤ c.toNat ∧ c.toNat ≤ 57)) = true := by
    rw [List.all_eq_true]; intro c hc; simpa using dec_digits u c hc
  unfold num19
  rw [if_pos ⟨by rw [hc]; simp, hl, hd⟩, spell_dec]
theorem numR_itoa (n : Int) (hn : I64 n) : numR (itoa n) = (n, true) := by
  obtain ⟨h0, h1⟩ := hn
  by_cases h : n < 0
  · rw [itoa_minus h]
    unfold numR
    dsimp only
    rw [if_pos rfl, num19_dec _ (by omega)]
    simp only [Prod.mk.injEq, and_true]
    unfold w64; omega
  · obtain ⟨c, r, hc, hd⟩ := dec_cons n.toNat
    have hm := num19_dec n.toNat (by omega)
    rw [itoa_pos (by omega)]
    rw [hc] at hm ⊢
    unfold numR
    have e2 : ¬ c = 45 := by rintro rfl; exact absurd hd (by decide)
    dsimp only
    rw [if_neg e2, hm]
    simp only [Prod.mk.injEq, and_true]
    unfold w64; omega

theorem guessR_show {t n : Int} (hn : I64 n) (ho : okB t n = true) (h4 : t = 4 → n = 0) : gR t (showL t n) = n := by
  cases hz : nilB t n
  · have ht : t ≠ 4 := by
      rintro rfl
      rw [nil_not] at hz; have := h4 rfl; omega
    rw [show_num ho hz ht]
    have ho' := (ok_iff t n).1 ho
    rw [nil_not] at hz
    have hoff : I64 (n - off t) := by
      unfold I64 off at *
      split <;> omega
    have hne : sgn t ++ itoa (n - off t) ≠ [110, 105, 108] := by
      rcases known_cases (ok_known ho) with rfl | rfl | rfl | rfl
      · have := itoa_not_nil (n - off 1) []; rw [List.append_nil] at this; exact this
      · intro e; injection e with e _; exact absurd e (by decide)
      · intro e; injection e with e _; exact absurd e (by decide)
      · exact absurd rfl ht
    have hdg : digs t (sgn t ++ itoa (n - off t)) = itoa (n - off t) := by
      rcases known_cases (ok_known ho) with rfl | rfl | rfl | rfl
      · rfl
      · rfl
      · rfl
      · exact absurd rfl ht
    unfold gR
    rw [hdg, numR_itoa _ hoff, if_pos ⟨rfl, by omega, hne⟩]
    simp only
    unfold I64 at hn hoff
    by_cases h3 : t = 3
    · subst h3
      have e : off 3 = 1 := rfl
      rw [e] at hoff ⊢
      rw [if_pos ⟨rfl, by omega⟩]; omega
    · have e : off t = 0 := by unfold off; rw [if_neg h3]
      rw [if_neg (fun h => h3 h.1), e]; omega
  · rw [show_nil hz]
    unfold gR
    rw [if_neg (fun h => h.2.2 rfl), ((nil_iff t n).1 hz).2]

theorem rdR_show {t n : Int} (hn : I64 n) (ho : okB t n = true) (h4 : t = 4 → n = 0) : rdR t (showL t n) = some n := by
  have h1 := guessR_show hn ho h4
  have h2 := show_ne ho
  have h3 : showL t n ≠ [38] := by
    cases hz : nilB t n
    · have ht : t ≠ 4 := by
        rintro rfl
        rw [nil_not] at hz; have := h4 rfl; omega
      rw [show_num ho hz ht]
      rcases known_cases (ok_known ho) with rfl | rfl | rfl | rfl
      · obtain ⟨c, r, hc, hd⟩ := itoa_cons (n - off 1)
        rw [hc]
        intro e
        injection e with e _
        subst e
        exact absurd hd (by decide)
      · intro e; injection e with e _; exact absurd e (by decide)
      · intro e; injection e with e _; exact absurd e (by decide)
      · exact absurd rfl ht
    · rw [show_nil hz]; decide
  unfold rdR
  rw [h1, if_neg (by simp [h2, h3])]
theorem rdR_some {t : Int} {s : List UInt8} {n : Int} (h : rdR t s = some n) : showL t n = s ∧ okB t n = true ∧ I64 n ∧ (t = 4 → n = 0) := by
  unfold rdR at h
  split at h
  · cases h
  · rename_i hc
    injection h with h
    subst h
    simp only [not_or, ne_eq, Decidable.not_not] at hc
    obtain ⟨h1, h2, h3⟩ := hc
    have hok : okB t (gR t s) = true := by
      cases ho : okB t (gR t s)
      · rw [show_bad ho] at h3; exact absurd h3.symm h1
      · rfl
    refine ⟨h3, hok, gR_bounds t s, ?_⟩
    rintro rfl
    rcases Nat.eq_zero_or_pos (gR 4 s).toNat with h0 | h0
    · have := (ok_iff _ _).1 hok; omega
    · exfalso
      rw [show_ptr (by omega)] at h3
      exact h2 h3.symm
/-- Both read the same. -/
theorem rdR_eq {t : Int} (ht : knownB t = true) (s : List UInt8) : rdR t s = rd t s := by
  cases h : rd t s with
  | some n =>
    obtain ⟨h1, h2, h3, h4⟩ := rd_some ht h
    rw [← h1]; exact rdR_show h3 h2 h4
  | none =>
    cases h' : rdR t s with
    | none => rfl
    | some n =>
      obtain ⟨h1, h2, h3, h4⟩ := rdR_some h'
      have := rd_show h3 h2 h4
      rw [h1, h] at this
      cases this

end Go.Proofs.YtkhbmbkjaeaamaaDoor
