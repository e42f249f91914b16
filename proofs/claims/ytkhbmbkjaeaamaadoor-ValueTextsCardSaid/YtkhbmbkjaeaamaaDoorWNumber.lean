/-
  What the document's number answers. No conditions.
-/
import Derived.Test.YtkhbmbkjaeaamaaDoorWShow3
namespace Go.Proofs.YtkhbmbkjaeaamaaDoor
open Go.RowKit

theorem extract_one {S : ByteArray} {c : UInt8} {r : List UInt8} (h : S.data.toList = c :: r) : (S.extract 1 S.size).data.toList = r := by
  have hz := size_of h
  rw [ByteArray.data_extract, Array.toList_extract, h]
  simp [List.extract, hz]
theorem num19_long {d : List UInt8} (h : ¬ (1 ≤ d.length ∧ d.length ≤ 19)) : num19 d = none := by unfold num19; rw [if_neg (fun h' => h ⟨h'.1, h'.2.1⟩)]
theorem num19_bad {d : List UInt8} {c : UInt8} (hc : c ∈ d) (h : ¬ (48 ≤ c.toNat ∧ c.toNat ≤ 57)) : num19 d = none := by
  unfold num19
  rw [if_neg]
  intro h'
  have := (List.all_eq_true.1 h'.2.2) c hc
  exact h (by simpa using this)
theorem num19_ok {d : List UInt8} (h1 : 1 ≤ d.length) (h2 : d.length ≤ 19) (h : ∀ c ∈ d, 48 ≤ c.toNat ∧ c.toNat ≤ 57) : num19 d = some (spell 0 d) := by
  unfold num19
  rw [if_pos ⟨h1, h2, by rw [List.all_eq_true]; intro c hc; simpa using h c hc⟩]
theorem neg_w (m : Int) : wrap64 (-(wrap64 m)) = w64 (-m) := by unfold wrap64 w64; omega
theorem spell_take {d : List UInt8} {k : Nat} (hk : k < d.length) : spell 0 (d.take (k + 1)) = spell 0 (d.take k) * 10 + (d[k].toNat - 48) := by
  rw [List.take_succ_eq_append_getElem hk, spell_append]; rfl
theorem spell_bound {d : List UInt8} {k : Nat} (h : ∀ c ∈ d.take k, 48 ≤ c.toNat ∧ c.toNat ≤ 57) : spell 0 (d.take k) < 10 ^ k := by
  have h1 := spell_lt (d.take k) 0 h
  have h2 : 10 ^ (d.take k).length ≤ 10 ^ k := Nat.pow_le_pow_right (by omega) (by rw [List.length_take]; omega)
  omega

set_option maxRecDepth 100000 in
set_option maxHeartbeats 8000000 in
theorem number_any (S : ByteArray) (s : List UInt8) (w : World) (hs : Hid (S.data.toList = s)) (hl : S.size ≤ 281474976710656) :
    Calls Tryd.prog 36 #[.string S] w fun e w' => e = .returned (.tuple #[.int .i64 (numR s).1, .bool (numR s).2]) ∧ w = w' := by
  by_cases h0 : S.size = 0
  · have HN : Hid (numR s = (0, false)) := by
      have := size_of hs.out
      have : s = [] := List.length_eq_zero_iff.1 (by omega)
      show _ = _
      rw [this]; rfl
    go_enter Tryd.func36, Tryd.ntmps36
    go_wp2
    go_ret2
    exact ⟨by rw [HN.out]; rfl, rfl⟩
  · have h0' : 0 < S.size := by omega
    obtain ⟨c, d, hcd⟩ : ∃ c d, s = c :: d := by
      cases hh : s with
      | nil =>
        have h2 := size_of hs.out
        rw [hh] at h2
        simp only [List.length_nil] at h2
        omega
      | cons c d => exact ⟨c, d, rfl⟩
    have hc0 : S[0] = c := by
      have := byte_at hs.out 0 h0' (by rw [hcd]; simp)
      rw [this]; simp [hcd]
    by_cases hm : c = 45
    · have HN : Hid (numR s = match num19 d with | some m => (w64 (-(m : Int)), true) | none => (0, false)) := by show _ = _; rw [hcd]; unfold numR; dsimp only; rw [if_pos hm]; rfl
      have hq : ((S[0].toNat : Int) == 45) = true := by rw [hc0, hm]; rfl
      obtain ⟨DD, hDD⟩ : ∃ DD, S.extract 1 S.size = DD := ⟨_, rfl⟩
      have hd : Hid (DD.data.toList = d) := by show _ = _; rw [← hDD]; exact extract_one (hs.out.trans hcd)
      have HSZ := Lib.hid (size_of hd.out)
      have hDS : S.size - 1 = DD.size := by rw [HSZ.out, size_of hs.out, hcd]; simp
      clear h0 hm hc0 hcd
      by_cases hlen : 1 ≤ DD.size ∧ DD.size ≤ 19
      · obtain ⟨hlen1, hlen2⟩ := hlen
        go_enter Tryd.func36, Tryd.ntmps36
        go_wp2
        go_loop [5, 6] (fun mv iv => ∃ k m : Nat, k ≤ DD.size ∧ iv = .int .i64 k ∧ mv = .int .u64 m ∧ m < 10000000000000000000 ∧ Hid ((∀ c ∈ d.take k, 48 ≤ c.toNat ∧ c.toNat ≤ 57) ∧ m = spell 0 (d.take k))) (fun _ iv => DD.size - (intOf iv).toNat)
        case atStart => exact ⟨0, 0, Nat.zero_le _, rfl, rfl, by omega, by simp, rfl⟩
        case round =>
          obtain ⟨k, m, hk, rfl, rfl, hmb, hI⟩ := hrel
          by_cases hlt : k < DD.size
          · have hkd : k < d.length := by rw [← HSZ.out]; exact hlt
            have HB := Lib.hid (byte_at hd.out k hlt hkd)
            have HM := Lib.hid (List.getElem_mem hkd)
            have HT := Lib.hid (spell_take hkd)
            have HTk := Lib.hid (show d.take (k + 1) = d.take k ++ [d[k]] from List.take_succ_eq_append_getElem hkd)
            have h19 : 10 ^ k ≤ 1000000000000000000 := by
              have h1 : 10 ^ k ≤ 10 ^ 18 := Nat.pow_le_pow_right (by omega) (by omega)
              have h2 : (10 : Nat) ^ 18 = 1000000000000000000 := by decide
              omega
            have hms : m < 1000000000000000000 := by
              have := spell_bound (d := d) (k := k) hI.out.1
              have := hI.out.2
              omega
            clear h19
            by_cases hlo : DD[k].toNat < 48
            · have HR : Hid (num19 d = none) := num19_bad HM.out (by rw [← HB.out]; omega)
              rw [HR.out] at HN
              have hlo' : (DD[k].toNat : Int) < 48 := by omega
              clear HB HM HT HTk hI hlo
              go_wp2
              go_ret2
              exact ⟨by rw [HN.out]; rfl, rfl⟩
            · by_cases hhi : 57 < DD[k].toNat
              · have HR : Hid (num19 d = none) := num19_bad HM.out (by rw [← HB.out]; omega)
                rw [HR.out] at HN
                have hlo' : (48 : Int) ≤ (DD[k].toNat : Int) := by omega
                have hhi' : (57 : Int) < (DD[k].toNat : Int) := by omega
                clear HB HM HT HTk hI hlo hhi
                go_wp2
                go_ret2
                exact ⟨by rw [HN.out]; rfl, rfl⟩
              · have hI2 : Hid ((∀ c ∈ d.take (k + 1), 48 ≤ c.toNat ∧ c.toNat ≤ 57) ∧ 10 * m + (DD[k].toNat - 48) = spell 0 (d.take (k + 1))) := by
                  refine ⟨fun c hc => ?_, ?_⟩
                  · rw [HTk.out] at hc
                    rcases List.mem_append.1 hc with hc | hc
                    · exact hI.out.1 c hc
                    · rw [List.mem_singleton.1 hc, ← HB.out]; omega
                  · rw [HT.out, ← hI.out.2, HB.out]; omega
                have hlo' : (48 : Int) ≤ (DD[k].toNat : Int) := by omega
                have hhi' : (DD[k].toNat : Int) ≤ 57 := by omega
                clear HB HM HT HTk hI
                go_wp2
                go_round
                case rel => exact ⟨k + 1, 10 * m + (DD[k].toNat - 48), by omega, by go_num, by go_num, by omega, hI2⟩
                case measure => simp [intOf]; omega
          · obtain hkn : k = d.length := by rw [← HSZ.out]; omega
            have HA : Hid (num19 d = some m) := by
              have h1 := hI.out.1
              have h2 := hI.out.2
              rw [hkn, List.take_length] at h1 h2
              show _ = _
              rw [num19_ok (by rw [← HSZ.out]; omega) (by rw [← HSZ.out]; omega) h1, h2]
            rw [HA.out] at HN
            clear hkn hI
            go_wp2
            go_ret2
            exact ⟨by rw [HN.out]; rw [← neg_w]; rfl, rfl⟩
      · have HR : Hid (num19 d = none) := num19_long (by rw [← HSZ.out]; exact hlen)
        rw [HR.out] at HN
        have HL := Lib.hid hlen
        clear hlen
        go_enter Tryd.func36, Tryd.ntmps36
        go_wp2
        all_goals first | (go_ret2; exact ⟨by rw [HN.out]; rfl, rfl⟩) | (exfalso; have := HL.out; omega)
    · have HN : Hid (numR s = match num19 s with | some m => (w64 (m : Int), true) | none => (0, false)) := by show _ = _; rw [hcd]; unfold numR; dsimp only; rw [if_neg hm]; rfl
      have hq : ((S[0].toNat : Int) == 45) = false := by
        rw [hc0, beq_eq_false_iff_ne]
        intro e
        exact hm (UInt8.toNat_inj.1 (by have e45 : (45 : UInt8).toNat = 45 := rfl; omega))
      have hd := hs
      have HSZ := Lib.hid (size_of hd.out)
      clear h0 hm hc0 hcd
      by_cases hlen : 1 ≤ S.size ∧ S.size ≤ 19
      · obtain ⟨hlen1, hlen2⟩ := hlen
        go_enter Tryd.func36, Tryd.ntmps36
        go_wp2
        go_loop [5, 6] (fun mv iv => ∃ k m : Nat, k ≤ S.size ∧ iv = .int .i64 k ∧ mv = .int .u64 m ∧ m < 10000000000000000000 ∧ Hid ((∀ c ∈ s.take k, 48 ≤ c.toNat ∧ c.toNat ≤ 57) ∧ m = spell 0 (s.take k))) (fun _ iv => S.size - (intOf iv).toNat)
        case atStart => exact ⟨0, 0, Nat.zero_le _, rfl, rfl, by omega, by simp, rfl⟩
        case round =>
          obtain ⟨k, m, hk, rfl, rfl, hmb, hI⟩ := hrel
          by_cases hlt : k < S.size
          · have hkd : k < s.length := by rw [← HSZ.out]; exact hlt
            have HB := Lib.hid (byte_at hd.out k hlt hkd)
            have HM := Lib.hid (List.getElem_mem hkd)
            have HT := Lib.hid (spell_take hkd)
            have HTk := Lib.hid (show s.take (k + 1) = s.take k ++ [s[k]] from List.take_succ_eq_append_getElem hkd)
            have h19 : 10 ^ k ≤ 1000000000000000000 := by
              have h1 : 10 ^ k ≤ 10 ^ 18 := Nat.pow_le_pow_right (by omega) (by omega)
              have h2 : (10 : Nat) ^ 18 = 1000000000000000000 := by decide
              omega
            have hms : m < 1000000000000000000 := by
              have := spell_bound (d := s) (k := k) hI.out.1
              have := hI.out.2
              omega
            clear h19
            by_cases hlo : S[k].toNat < 48
            · have HR : Hid (num19 s = none) := num19_bad HM.out (by rw [← HB.out]; omega)
              rw [HR.out] at HN
              have hlo' : (S[k].toNat : Int) < 48 := by omega
              clear HB HM HT HTk hI hlo
              go_wp2
              go_ret2
              exact ⟨by rw [HN.out]; rfl, rfl⟩
            · by_cases hhi : 57 < S[k].toNat
              · have HR : Hid (num19 s = none) := num19_bad HM.out (by rw [← HB.out]; omega)
                rw [HR.out] at HN
                have hlo' : (48 : Int) ≤ (S[k].toNat : Int) := by omega
                have hhi' : (57 : Int) < (S[k].toNat : Int) := by omega
                clear HB HM HT HTk hI hlo hhi
                go_wp2
                go_ret2
                exact ⟨by rw [HN.out]; rfl, rfl⟩
              · have hI2 : Hid ((∀ c ∈ s.take (k + 1), 48 ≤ c.toNat ∧ c.toNat ≤ 57) ∧ 10 * m + (S[k].toNat - 48) = spell 0 (s.take (k + 1))) := by
                  refine ⟨fun c hc => ?_, ?_⟩
                  · rw [HTk.out] at hc
                    rcases List.mem_append.1 hc with hc | hc
                    · exact hI.out.1 c hc
                    · rw [List.mem_singleton.1 hc, ← HB.out]; omega
                  · rw [HT.out, ← hI.out.2, HB.out]; omega
                have hlo' : (48 : Int) ≤ (S[k].toNat : Int) := by omega
                have hhi' : (S[k].toNat : Int) ≤ 57 := by omega
                clear HB HM HT HTk hI
                go_wp2
                go_round
                case rel => exact ⟨k + 1, 10 * m + (S[k].toNat - 48), by omega, by go_num, by go_num, by omega, hI2⟩
                case measure => simp [intOf]; omega
          · obtain hkn : k = s.length := by rw [← HSZ.out]; omega
            have HA : Hid (num19 s = some m) := by
              have h1 := hI.out.1
              have h2 := hI.out.2
              rw [hkn, List.take_length] at h1 h2
              show _ = _
              rw [num19_ok (by rw [← HSZ.out]; omega) (by rw [← HSZ.out]; omega) h1, h2]
            rw [HA.out] at HN
            clear hkn hI
            go_wp2
            go_ret2
            exact ⟨by rw [HN.out]; rw [← w64_w]; rfl, rfl⟩
      · have HR : Hid (num19 s = none) := num19_long (by rw [← HSZ.out]; exact hlen)
        rw [HR.out] at HN
        have HL := Lib.hid hlen
        clear hlen
        go_enter Tryd.func36, Tryd.ntmps36
        go_wp2
        all_goals first | (go_ret2; exact ⟨by rw [HN.out]; rfl, rfl⟩) | (exfalso; have := HL.out; omega)

end Go.Proofs.YtkhbmbkjaeaamaaDoor
