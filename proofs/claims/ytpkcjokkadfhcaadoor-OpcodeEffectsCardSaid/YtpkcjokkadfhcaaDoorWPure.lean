/-
  The plain mathematics of layer value: which numbers are types, which values may be, letters, a value's text and the value of a text. No program, no conditions.
-/
import Derived.Lib.ParseIntBTie
import Derived.Lib.ItoaLen
namespace Go.Proofs.YtpkcjokkadfhcaaDoor.W
open Go.Lib

abbrev str (l : List UInt8) : ByteArray := ⟨l.toArray⟩

/-- Is the number a type? -/
def knownB (t : Int) : Bool := decide (1 ≤ t ∧ t ≤ 4)
/-- May the value be? -/
def okB (t n : Int) : Bool := decide ((1 ≤ t ∧ t ≤ 4) ∧ (t = 1 ∨ 0 ≤ n))
/-- Is it nil? -/
def nilB (t n : Int) : Bool := decide ((2 ≤ t ∧ t ≤ 4) ∧ n = 0)
/-- A type's letter. -/
def letC (t : Int) : List UInt8 := if t = 1 then [73] else if t = 2 then [82] else if t = 3 then [70] else if t = 4 then [80] else []

theorem known_iff (t : Int) : knownB t = true ↔ 1 ≤ t ∧ t ≤ 4 := by simp [knownB]
theorem known_not (t : Int) : knownB t = false ↔ ¬ (1 ≤ t ∧ t ≤ 4) := by simp [knownB]
theorem ok_iff (t n : Int) : okB t n = true ↔ (1 ≤ t ∧ t ≤ 4) ∧ (t = 1 ∨ 0 ≤ n) := by simp [okB]
theorem ok_not (t n : Int) : okB t n = false ↔ ¬ ((1 ≤ t ∧ t ≤ 4) ∧ (t = 1 ∨ 0 ≤ n)) := by unfold okB; rw [decide_eq_false_iff_not]
theorem nil_iff (t n : Int) : nilB t n = true ↔ (2 ≤ t ∧ t ≤ 4) ∧ n = 0 := by simp [nilB]
theorem nil_not (t n : Int) : nilB t n = false ↔ ¬ ((2 ≤ t ∧ t ≤ 4) ∧ n = 0) := by unfold nilB; rw [decide_eq_false_iff_not]
theorem ok_known {t n : Int} (h : okB t n = true) : knownB t = true := by rw [known_iff]; exact ((ok_iff t n).1 h).1

theorem known_cases {t : Int} (h : knownB t = true) : t = 1 ∨ t = 2 ∨ t = 3 ∨ t = 4 := by rw [known_iff] at h; omega
theorem letC_known {t : Int} (h : knownB t = true) : ∃ c, letC t = [c] ∧ c.toNat < 128 := by
  rcases known_cases h with rfl | rfl | rfl | rfl <;> exact ⟨_, rfl, by decide⟩
theorem letC_none {t : Int} (h : knownB t = false) : letC t = [] := by
  rw [known_not] at h
  unfold letC
  rw [if_neg (by omega), if_neg (by omega), if_neg (by omega), if_neg (by omega)]
theorem letC_inj {a b : Int} (ha : knownB a = true) (h : letC a = letC b) : a = b := by
  cases hb : knownB b
  · rw [letC_none hb] at h
    obtain ⟨c, hc, _⟩ := letC_known ha
    rw [hc] at h; cases h
  · rcases known_cases ha with rfl | rfl | rfl | rfl <;> rcases known_cases hb with rfl | rfl | rfl | rfl <;> first | rfl | (exact absurd h (by decide))

/-! ### Texts of lists of types -/

/-- A list's text, or nothing. -/
def txt (l : List Int) : List UInt8 := if l.length ≤ 1024 ∧ l.all knownB = true then l.flatMap letC else []
/-- A letter's type; 0: none has it. -/
def unlet (c : UInt8) : Int := if c = 73 then 1 else if c = 82 then 2 else if c = 70 then 3 else if c = 80 then 4 else 0
/-- The types of a text, if it is one. -/
def untxt (s : List UInt8) : Option (List Int) := if s.length ≤ 1024 ∧ (s.all fun c => decide (unlet c ≠ 0)) = true then some (s.map unlet) else none

theorem unlet_known (c : UInt8) : unlet c = 0 ∨ knownB (unlet c) = true := by
  unfold unlet
  split
  · right; decide
  · split
    · right; decide
    · split
      · right; decide
      · split
        · right; decide
        · left; rfl
theorem unlet_let {c : UInt8} (h : unlet c ≠ 0) : letC (unlet c) = [c] := by
  unfold unlet at h ⊢
  split
  · rename_i e; rw [e]; rfl
  · split
    · rename_i e; rw [e]; rfl
    · split
      · rename_i e; rw [e]; rfl
      · split
        · rename_i e; rw [e]; rfl
        · rename_i h1 h2 h3 h4
          rw [if_neg h1, if_neg h2, if_neg h3, if_neg h4] at h
          exact absurd rfl h
theorem unlet_of {t : Int} {c : UInt8} (ht : knownB t = true) (h : letC t = [c]) : unlet c = t := by
  rcases known_cases ht with rfl | rfl | rfl | rfl <;> · injection h with h _; subst h; rfl

theorem flat_let_length : ∀ (l : List Int), l.all knownB = true → (l.flatMap letC).length = l.length
  | [], _ => rfl
  | t :: r, h => by
    simp only [List.all_cons, Bool.and_eq_true] at h
    obtain ⟨c, hc, _⟩ := letC_known h.1
    rw [List.flatMap_cons, List.length_append, hc, flat_let_length r h.2]
    simp; omega
theorem unlet_flat : ∀ (l : List Int), l.all knownB = true → (l.flatMap letC).map unlet = l ∧ ((l.flatMap letC).all fun c => decide (unlet c ≠ 0)) = true
  | [], _ => ⟨rfl, rfl⟩
  | t :: r, h => by
    simp only [List.all_cons, Bool.and_eq_true] at h
    obtain ⟨c, hc, _⟩ := letC_known h.1
    obtain ⟨h1, h2⟩ := unlet_flat r h.2
    have hu := unlet_of h.1 hc
    have h0 : ¬ t = 0 := by have := (known_iff t).1 h.1; omega
    rw [List.flatMap_cons, hc]
    refine ⟨?_, ?_⟩
    · rw [List.map_append, h1]; simp [hu]
    · rw [List.all_append, h2]; simp [hu, h0]
theorem flat_unlet : ∀ (s : List UInt8), (s.all fun c => decide (unlet c ≠ 0)) = true → (s.map unlet).flatMap letC = s ∧ (s.map unlet).all knownB = true
  | [], _ => ⟨rfl, rfl⟩
  | c :: r, h => by
    simp only [List.all_cons, Bool.and_eq_true, decide_eq_true_eq] at h
    obtain ⟨h1, h2⟩ := flat_unlet r h.2
    rw [List.map_cons, List.flatMap_cons, unlet_let h.1, h1, List.all_cons, h2]
    exact ⟨rfl, by simpa using (unlet_known c).resolve_left h.1⟩

theorem txt_length {l : List Int} (h1 : l.length ≤ 1024) (h2 : l.all knownB = true) : (txt l).length = l.length := by
  unfold txt; rw [if_pos ⟨h1, h2⟩, flat_let_length l h2]
theorem untxt_txt {l : List Int} (h1 : l.length ≤ 1024) (h2 : l.all knownB = true) : untxt (txt l) = some l := by
  have hl := flat_let_length l h2
  obtain ⟨u1, u2⟩ := unlet_flat l h2
  have ht : txt l = l.flatMap letC := by unfold txt; rw [if_pos ⟨h1, h2⟩]
  rw [ht]
  unfold untxt
  rw [if_pos ⟨by omega, u2⟩, u1]
theorem txt_untxt {s : List UInt8} {l : List Int} (h : untxt s = some l) : txt l = s := by
  unfold untxt at h
  split at h
  · rename_i hc
    injection h with h
    subst h
    obtain ⟨u1, u2⟩ := flat_unlet s hc.2
    unfold txt
    rw [if_pos ⟨by simpa using hc.1, u2⟩, u1]
  · cases h
theorem txt_bad {l : List Int} (h : l.all knownB = false) : txt l = [] := by unfold txt; rw [if_neg (by simp [h])]
theorem txt_long {l : List Int} (h : 1024 < l.length) : txt l = [] := by unfold txt; rw [if_neg (by omega)]

/-! ### A value's text -/

/-- The sign in front. -/
def sgn (t : Int) : List UInt8 := if t = 2 then [35] else if t = 3 then [64] else if t = 4 then [38] else []
/-- What a value's number is above the one shown. -/
def off (t : Int) : Int := if t = 3 then 1 else 0
/-- A value's text; nothing, if it may not be. -/
def showL (t n : Int) : List UInt8 := if okB t n = false then [] else if nilB t n = true then [110, 105, 108] else if t = 4 then [38] else sgn t ++ itoa (n - off t)

theorem show_bad {t n : Int} (h : okB t n = false) : showL t n = [] := by unfold showL; rw [if_pos h]
theorem show_nil {t n : Int} (h : nilB t n = true) : showL t n = [110, 105, 108] := by
  have h1 : ¬ okB t n = false := by rw [ok_not]; rw [nil_iff] at h; omega
  unfold showL; rw [if_neg h1, if_pos h]
theorem show_ptr {n : Int} (h : 0 < n) : showL 4 n = [38] := by
  have h1 : ¬ okB 4 n = false := by rw [ok_not]; omega
  have h2 : ¬ nilB 4 n = true := by rw [nil_iff]; omega
  unfold showL; rw [if_neg h1, if_neg h2, if_pos rfl]
theorem show_num {t n : Int} (h : okB t n = true) (h0 : nilB t n = false) (h4 : t ≠ 4) : showL t n = sgn t ++ itoa (n - off t) := by
  unfold showL; rw [if_neg (by simp [h]), if_neg (by simp [h0]), if_neg h4]

/-! ### Decimal digits there and back -/

theorem dec_ne (u : Nat) : decDigits u ≠ [] := by
  intro h; have h1 := decDigits_length u; have := nDigits_pos u; rw [h] at h1; simp at h1; omega
theorem byte_dig (d : Nat) (h : d < 10) : (UInt8.ofNat (48 + d)).toNat = 48 + d := by rw [UInt8.toNat_ofNat', Nat.mod_eq_of_lt (by omega)]
theorem dec_digits (u : Nat) : ∀ c ∈ decDigits u, 48 ≤ c.toNat ∧ c.toNat ≤ 57 := by
  induction u using Nat.strongRecOn with
  | _ u ih =>
    rw [decDigits]
    split
    · rename_i h
      intro c hc
      simp only [List.mem_singleton] at hc
      rw [hc, byte_dig u h]; omega
    · rename_i h
      intro c hc
      rcases List.mem_append.1 hc with hc | hc
      · exact ih (u / 10) (by omega) c hc
      · simp only [List.mem_singleton] at hc
        rw [hc, byte_dig (u % 10) (by omega)]; omega

/-- What digits spell, on from acc. -/
def spell (acc : Nat) (l : List UInt8) : Nat := l.foldl (fun a c => a * 10 + (c.toNat - 48)) acc
theorem spell_append (acc : Nat) (l r : List UInt8) : spell acc (l ++ r) = spell (spell acc l) r := List.foldl_append
theorem spell_le (l : List UInt8) : ∀ acc, acc ≤ spell acc l := by
  induction l with
  | nil => intro acc; exact Nat.le_refl _
  | cons c r ih =>
    intro acc
    have := ih (acc * 10 + (c.toNat - 48))
    show acc ≤ spell (acc * 10 + (c.toNat - 48)) r
    omega
theorem spell_dec (u : Nat) : spell 0 (decDigits u) = u := by
  induction u using Nat.strongRecOn with
  | _ u ih =>
    rw [decDigits]
    split
    · rename_i h
      show 0 * 10 + ((UInt8.ofNat (48 + u)).toNat - 48) = u
      rw [byte_dig u h]; omega
    · rename_i h
      rw [spell_append, ih (u / 10) (by omega)]
      show u / 10 * 10 + ((UInt8.ofNat (48 + u % 10)).toNat - 48) = u
      rw [byte_dig (u % 10) (by omega)]; omega
theorem parse_spell : ∀ (l : List UInt8) (acc : Nat), (∀ c ∈ l, 48 ≤ c.toNat ∧ c.toNat ≤ 57) → spell acc l < 18446744073709551616 → parseUint10 acc l = .ok (spell acc l)
  | [], acc, _, _ => rfl
  | c :: r, acc, hd, hs => by
    have hc := hd c (List.mem_cons_self ..)
    have hle := spell_le r (acc * 10 + (c.toNat - 48))
    have he : spell acc (c :: r) = spell (acc * 10 + (c.toNat - 48)) r := rfl
    rw [he] at hs ⊢
    unfold parseUint10
    rw [if_pos hc, if_neg (by omega), if_neg (by omega)]
    exact parse_spell r _ (fun c h => hd c (List.mem_cons_of_mem _ h)) hs
theorem mag_dec (u : Nat) (h : u < 18446744073709551616) : parseMag (decDigits u) = .ok u := by
  unfold parseMag
  rw [if_neg (dec_ne u), parse_spell _ 0 (dec_digits u) (by rw [spell_dec]; exact h), spell_dec]

theorem dec_cons (u : Nat) : ∃ c r, decDigits u = c :: r ∧ 48 ≤ c.toNat ∧ c.toNat ≤ 57 := by
  cases h : decDigits u with
  | nil => exact absurd h (dec_ne u)
  | cons c r => exact ⟨c, r, rfl, dec_digits u c (by rw [h]; exact List.mem_cons_self ..)⟩
theorem itoa_pos {n : Int} (h : 0 ≤ n) : itoa n = decDigits n.toNat := by unfold itoa; rw [if_neg (by omega)]
theorem itoa_minus {n : Int} (h : n < 0) : itoa n = 45 :: decDigits n.natAbs := by unfold itoa; rw [if_pos h]
theorem itoa_cons (n : Int) : ∃ c r, itoa n = c :: r ∧ (c = 45 ∨ (48 ≤ c.toNat ∧ c.toNat ≤ 57)) := by
  by_cases h : n < 0
  · exact ⟨_, _, itoa_minus h, .inl rfl⟩
  · obtain ⟨c, r, h1, h2⟩ := dec_cons n.toNat
    exact ⟨c, r, (itoa_pos (by omega)).trans h1, .inr h2⟩

/-- A number's own text is read as the number. -/
theorem atoi_itoa (n : Int) (h0 : -9223372036854775808 ≤ n) (h1 : n ≤ 9223372036854775807) : atoiAll (itoa n) = .ok n := by
  by_cases h : n < 0
  · rw [itoa_minus h]
    unfold atoiAll
    have e : (45 : UInt8).toNat = 45 := rfl
    simp only [e, or_true, if_true]
    rw [mag_dec _ (by omega)]
    simp only [not_true, false_and, if_false, true_and]
    rw [if_neg (by omega)]
    congr 1; omega
  · obtain ⟨c, r, hc, hd⟩ := dec_cons n.toNat
    have hm := mag_dec n.toNat (by omega)
    rw [itoa_pos (by omega)]
    rw [hc] at hm ⊢
    unfold atoiAll
    have e1 : ¬ (c.toNat = 43 ∨ c.toNat = 45) := by omega
    have e2 : ¬ c.toNat = 45 := by omega
    dsimp only
    rw [if_neg e1, hm]
    dsimp only
    rw [if_neg (by omega), if_neg (by omega), if_neg e2]
    congr 1; omega

theorem itoa_inj {a b : Int} (ha : -9223372036854775808 ≤ a ∧ a ≤ 9223372036854775807) (hb : -9223372036854775808 ≤ b ∧ b ≤ 9223372036854775807) (h : itoa a = itoa b) : a = b := by
  have h1 := atoi_itoa a ha.1 ha.2
  rw [h, atoi_itoa b hb.1 hb.2] at h1
  injection h1 with h1
  exact h1.symm

theorem size_of {S : ByteArray} {s : List UInt8} (h : S.data.toList = s) : S.size = s.length := by rw [← h, Array.length_toList]; rfl
theorem byte_at {S : ByteArray} {s : List UInt8} (h : S.data.toList = s) (i : Nat) (hi : i < S.size) (hj : i < s.length) : S[i] = s[i] := by subst h; simp; rfl
theorem get_at {S : ByteArray} (i : Nat) (hi : i < S.size) : S.get! i = S[i] := by simp [ByteArray.get!, getElem!_pos, hi]; rfl

end Go.Proofs.YtpkcjokkadfhcaaDoor.W
