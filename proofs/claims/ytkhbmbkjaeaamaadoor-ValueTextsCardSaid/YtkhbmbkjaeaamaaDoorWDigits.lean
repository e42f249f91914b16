/-
  The document's digits. Conditions: the number fits an int64.
-/
import Derived.Test.YtkhbmbkjaeaamaaDoorWShow2
namespace Go.Proofs.YtkhbmbkjaeaamaaDoor
open Go.RowKit

/-- How far Digits has come: j digits stand, m is left. -/
def DigI (u j m : Nat) (s : List UInt8) : Prop := m = u / 10 ^ j ∧ ((j = 0 ∧ s = []) ∨ (1 ≤ j ∧ (if m = 0 then s = Lib.decDigits u else Lib.decDigits m ++ s = Lib.decDigits u)))
theorem dig_step {u j m : Nat} {s : List UInt8} (h : DigI u j m s) (hm : 0 < m ∨ j = 0) : DigI u (j + 1) (m / 10) (UInt8.ofNat (48 + m % 10) :: s) := by
  obtain ⟨h1, h2⟩ := h
  have hd : m / 10 = u / 10 ^ (j + 1) := by rw [h1, Nat.pow_succ, Nat.div_div_eq_div_mul]
  have key : Lib.decDigits m ++ s = Lib.decDigits u := by
    rcases h2 with ⟨h3, h4⟩ | ⟨h3, h4⟩
    · subst h3; subst h4; rw [h1]; simp
    · have : ¬ m = 0 := by omega
      rwa [if_neg this] at h4
  refine ⟨hd, .inr ⟨by omega, ?_⟩⟩
  by_cases hs : m < 10
  · rw [if_pos (by omega)]
    rw [← key, Lib.decDigits_one hs, show m % 10 = m by omega]
    rfl
  · rw [if_neg (by omega), ← key]
    conv => rhs; rw [Lib.decDigits, dif_neg hs]
    simp
theorem dig_done {u j m : Nat} {s : List UInt8} (h : DigI u j m s) (hm : m = 0) (hj : 1 ≤ j) : s = Lib.decDigits u := by
  rcases h.2 with ⟨h3, _⟩ | ⟨_, h4⟩
  · omega
  · rwa [if_pos hm] at h4
theorem dig_end {u j m : Nat} {s : List UInt8} (h : DigI u j m s) (hu : u < 18446744073709551616) (hj : 20 ≤ j) : m = 0 := by
  have h1 : 10 ^ 20 ≤ 10 ^ j := Nat.pow_le_pow_right (by omega) hj
  have h2 : (10 : Nat) ^ 20 = 100000000000000000000 := by decide
  rw [h.1]
  exact Nat.div_eq_of_lt (by omega)

theorem conv_rd {w : World} {A : Option Addr} {l : List UInt8} {n c : Nat} (h : Rd w A (l.map fun b => .int .u8 (b.toNat : Int))) (hn : l.length = n) :
    (convert 62 9 (.slice A n c)).run Tryd.prog w = .ok (.string (str l)) w := by
  subst hn
  rcases A with _ | ad
  · have hl : l = [] := by
      rcases Nat.eq_zero_or_pos l.length with h0 | h0
      · exact List.length_eq_zero_iff.1 h0
      · obtain ⟨g, off, e, _⟩ := h (by simpa using h0); cases e
    subst hl
    exact run_convert_bytes_nil _ _ _ Tryd.underlying62 Tryd.underlying5 0 c _ Tryd.underlying9
  · refine run_convert_bytes_back w _ _ _ ad c l Tryd.underlying62 Tryd.underlying5 Tryd.underlying9 ?_
    intro j hj
    obtain ⟨g, off, e, hc⟩ := h (by simp; omega)
    cases e
    have ea : (⟨g, off, none⟩ : Addr).add j = ⟨g, off + j, none⟩ := by unfold Addr.add; by_cases hj : j = 0 <;> simp [hj]
    rw [ea]
    exact hc j _ (by simp [hj])

theorem str_cons (b : UInt8) (s : List UInt8) : (⟨#[b]⟩ : ByteArray) ++ str s = str (b :: s) := by
  apply ByteArray.ext
  simp [ByteArray.data_append]
theorem size_snoc (b : UInt8) (s : List UInt8) : ((⟨#[b]⟩ : ByteArray) ++ str s).size = 1 + (str s).size := by
  rw [str_cons, size_of (s := b :: s) (by simp), size_of (s := s) (by simp), List.length_cons]; omega
theorem conv_one (w : World) (m : Nat) (b : UInt8) (hb : Hid (UInt8.ofNat (48 + m % 10) = b)) : (convert 62 9 (.slice (some ⟨w.heap.size, 0, none⟩) 1 1)).run Tryd.prog (w.alloc (.cells #[.int .u8 (48 + (m : Int) % 10)] 5)) =
    .ok (.string ⟨#[b]⟩) (w.alloc (.cells #[.int .u8 (48 + (m : Int) % 10)] 5)) := by
  refine conv_rd (l := [b]) (rd_made rfl ?_) rfl
  have := byte_dig (m % 10) (by omega)
  rw [hb.out] at this
  simp only [List.map_cons, List.map_nil, this]
  simp
theorem conv_zero (w : World) : (convert 62 9 (.slice (some ⟨w.heap.size, 0, none⟩) 1 1)).run Tryd.prog (w.alloc (.cells #[.int .u8 48] 5)) =
    .ok (.string ⟨#[48]⟩) (w.alloc (.cells #[.int .u8 48] 5)) := conv_rd (l := [48]) (rd_made rfl rfl) rfl

set_option maxRecDepth 100000 in
set_option maxHeartbeats 8000000 in
theorem digits_any (n : Int) (w : World) (hn : I64 n) :
    Calls Tryd.prog 41 #[.int .i64 n] w fun e w' => ∃ d, e = .returned (.string d) ∧ d.size ≤ 21 ∧ Hid (d = str (Lib.itoa n)) ∧ Keep NoB w w' := by
  obtain ⟨hn0, hn1⟩ := hn
  by_cases hneg : n < 0
  · obtain ⟨u, hu0⟩ : ∃ u : Nat, u = n.natAbs := ⟨_, rfl⟩
    have hu : u ≤ 9223372036854775808 := by omega
    have HI : Hid (Lib.itoa n = 45 :: Lib.decDigits u) := by show _ = _; rw [itoa_minus hneg, hu0]
    have hw : IntKind.u64.wrap (-IntKind.u64.wrap n) = (u : Int) := by rw [IntKind.wrap_u64, IntKind.wrap_u64]; omega
    have HU : Hid (u < 18446744073709551616) := by show _ < _; omega
    clear hu0
    go_enter Tryd.func41, Tryd.ntmps41
    go_wp2
    go_loopw [3, 4, 5] (fun mv sv kv wr => ∃ (j m : Nat) (s : List UInt8), j ≤ 20 ∧ kv = .int .i64 j ∧ mv = .int .u64 m ∧ sv = .string (str s) ∧ s.length ≤ j ∧ m ≤ u ∧ Hid (DigI u j m s) ∧ Keep NoB w wr) (fun _ _ kv _ => 20 - (intOf kv).toNat)
    case atStart => exact ⟨0, u, [], by omega, rfl, rfl, rfl, Nat.le_refl _, Nat.le_refl _, ⟨by simp, .inl ⟨rfl, rfl⟩⟩, Keep.refl _ _⟩
    case round =>
      obtain ⟨j, m, s, hj, rfl, rfl, rfl, hs, hm, hD, hK⟩ := hrel
      have hsz : (str s).size ≤ 20 := by rw [size_of (s := s) (by simp)]; omega
      obtain ⟨b, hb⟩ : ∃ b, Hid (UInt8.ofNat (48 + m % 10) = b) := ⟨_, rfl⟩
      have hcv := conv_one wr m b hb
      have hcz := conv_zero wr
      have hKz := hK.alloc (.cells #[.int .u8 48] 5)
      have hKa := hK.alloc (.cells #[.int .u8 (48 + (m : Int) % 10)] 5)
      by_cases hj2 : j < 20
      · by_cases hm0 : 0 < m
        · have HD2 := Lib.hid (dig_step hD.out (.inl hm0))
          rw [hb.out] at HD2
          go_wp2
          go_roundw
          case rel => exact ⟨j + 1, m / 10, b :: s, by omega, by go_num, by go_num, by rw [← str_cons], by simp; omega, by omega, HD2, hKa⟩
          case measure => simp [intOf]; omega
        · obtain rfl : m = 0 := by omega
          by_cases hj0 : j = 0
          · subst hj0
            have HD2 : Hid (DigI u (0 + 1) (0 / 10) (48 :: s)) := dig_step hD.out (.inr rfl)
            have HSL : Hid ((48 :: s).length ≤ 0 + 1) := by show _ ≤ _; rw [List.length_cons]; omega
            clear hcv
            go_wp2
            go_roundw
            case rel => exact ⟨0 + 1, 0 / 10, 48 :: s, by omega, by go_num, by go_num, by rw [← str_cons], HSL.out, Nat.zero_le _, HD2, hKz⟩
            case measure => simp [intOf]
          · have HE := Lib.hid (dig_done hD.out rfl (by omega))
            have hq : ((j : Int) == 0) = false := by rw [beq_eq_false_iff_ne]; omega
            clear hj0 hcv hcz hKz hKa hD
            go_wp2
            go_ret
            exact ⟨_, rfl, by rw [size_snoc]; omega, by show _ = _; rw [HI.out, ← HE.out, str_cons], hK⟩
      · obtain rfl : j = 20 := by omega
        obtain rfl : m = 0 := dig_end hD.out HU.out (Nat.le_refl _)
        have HE := Lib.hid (dig_done hD.out rfl (by omega))
        clear hcv hcz hKz hKa hD
        go_wp2
        go_ret
        exact ⟨_, rfl, by rw [size_snoc]; omega, by show _ = _; rw [HI.out, ← HE.out, str_cons], hK⟩
  · obtain ⟨u, rfl⟩ := Int.eq_ofNat_of_zero_le (a := n) (by omega)
    have hu : u < 9223372036854775808 := by omega
    have HI : Hid (Lib.itoa (u : Int) = Lib.decDigits u) := by show _ = _; rw [itoa_pos (by omega)]; simp
    go_enter Tryd.func41, Tryd.ntmps41
    go_wp2
    go_loopw [3, 4, 5] (fun mv sv kv wr => ∃ (j m : Nat) (s : List UInt8), j ≤ 20 ∧ kv = .int .i64 j ∧ mv = .int .u64 m ∧ sv = .string (str s) ∧ s.length ≤ j ∧ m ≤ u ∧ Hid (DigI u j m s) ∧ Keep NoB w wr) (fun _ _ kv _ => 20 - (intOf kv).toNat)
    case atStart => exact ⟨0, u, [], by omega, rfl, rfl, rfl, Nat.le_refl _, Nat.le_refl _, ⟨by simp, .inl ⟨rfl, rfl⟩⟩, Keep.refl _ _⟩
    case round =>
      obtain ⟨j, m, s, hj, rfl, rfl, rfl, hs, hm, hD, hK⟩ := hrel
      have hsz : (str s).size ≤ 20 := by rw [size_of (s := s) (by simp)]; omega
      obtain ⟨b, hb⟩ : ∃ b, Hid (UInt8.ofNat (48 + m % 10) = b) := ⟨_, rfl⟩
      have hcv := conv_one wr m b hb
      have hcz := conv_zero wr
      have hKz := hK.alloc (.cells #[.int .u8 48] 5)
      have hKa := hK.alloc (.cells #[.int .u8 (48 + (m : Int) % 10)] 5)
      by_cases hj2 : j < 20
      · by_cases hm0 : 0 < m
        · have HD2 := Lib.hid (dig_step hD.out (.inl hm0))
          rw [hb.out] at HD2
          go_wp2
          go_roundw
          case rel => exact ⟨j + 1, m / 10, b :: s, by omega, by go_num, by go_num, by rw [← str_cons], by simp; omega, by omega, HD2, hKa⟩
          case measure => simp [intOf]; omega
        · obtain rfl : m = 0 := by omega
          by_cases hj0 : j = 0
          · subst hj0
            have HD2 : Hid (DigI u (0 + 1) (0 / 10) (48 :: s)) := dig_step hD.out (.inr rfl)
            have HSL : Hid ((48 :: s).length ≤ 0 + 1) := by show _ ≤ _; rw [List.length_cons]; omega
            clear hcv
            go_wp2
            go_roundw
            case rel => exact ⟨0 + 1, 0 / 10, 48 :: s, by omega, by go_num, by go_num, by rw [← str_cons], HSL.out, Nat.zero_le _, HD2, hKz⟩
            case measure => simp [intOf]
          · have HE := Lib.hid (dig_done hD.out rfl (by omega))
            have hq : ((j : Int) == 0) = false := by rw [beq_eq_false_iff_ne]; omega
            clear hj0 hcv hcz hKz hKa hD
            go_wp2
            go_ret
            exact ⟨_, rfl, by omega, by show _ = _; rw [HI.out, HE.out], hK⟩
      · obtain rfl : j = 20 := by omega
        obtain rfl : m = 0 := dig_end hD.out (by omega) (Nat.le_refl _)
        have HE := Lib.hid (dig_done hD.out rfl (by omega))
        clear hcv hcz hKz hKa hD
        go_wp2
        go_ret
        exact ⟨_, rfl, by omega, by show _ = _; rw [HI.out, HE.out], hK⟩

end Go.Proofs.YtkhbmbkjaeaamaaDoor
