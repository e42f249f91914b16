/-
  What the document's Types answers. No conditions.
-/
import Derived.Test.YtkhbmbkjaeaamaaDoorWTypes2
namespace Go.Proofs.YtkhbmbkjaeaamaaDoor
open Go.RowKit

/-- The type found among the first letters. -/
def upto (c : UInt8) (j : Nat) : Int := if unlet c < j then unlet c else 0
theorem unlet_range (c : UInt8) : 0 ≤ unlet c ∧ unlet c ≤ 4 := by
  rcases unlet_known c with h | h
  · omega
  · have := (known_iff _).1 h; omega
theorem upto_hit {c : UInt8} {j : Nat} (h1 : 1 ≤ j) (h : letC (j : Int) = [c]) (h4 : j ≤ 4) : upto c (j + 1) = j := by
  have hu := unlet_of (by rw [known_iff]; omega) h
  unfold upto; rw [hu, if_pos (by omega)]
theorem upto_miss {c : UInt8} {j : Nat} (h1 : 1 ≤ j) (h : ¬ letC (j : Int) = [c]) : upto c (j + 1) = upto c j := by
  have hr := unlet_range c
  have hne : unlet c ≠ j := fun e => by
    by_cases h0 : unlet c = 0
    · omega
    · have := unlet_let h0
      rw [e] at this
      exact h this
  unfold upto
  by_cases h2 : unlet c < j
  · rw [if_pos (by omega), if_pos h2]
  · rw [if_neg (by omega), if_neg h2]
theorem upto_all (c : UInt8) : upto c 5 = unlet c := by have := unlet_range c; unfold upto; rw [if_pos (by omega)]
theorem upto_one (c : UInt8) : upto c 1 = 0 := by
  have := unlet_range c
  unfold upto
  split <;> omega

set_option maxRecDepth 100000 in
set_option maxHeartbeats 4000000 in
theorem rtypes_any (S : ByteArray) (s : List UInt8) (w : World) (hs : Hid (S.data.toList = s)) (h1 : S.size ≤ 9223372036854775807) :
    Calls Tryd.prog 11 #[.string S] w (TypesR w s) := by
  have HSZ := Lib.hid (size_of hs.out)
  by_cases hlong : 1024 < S.size
  · have HU : Hid (untxt s = none) := untxt_none (by rw [← HSZ.out]; omega)
    go_enter Tryd.func11, Tryd.ntmps11
    go_wp2
    go_ret2
    exact types_none HU.out (Keep.refl _ _)
  · obtain ⟨i0, hi, hz0, hz1, hz2⟩ := info_parts int_info
    go_enter Tryd.func11, Tryd.ntmps11
    go_wp2
    go_loopw [4, 5, 6, 7] (fun v i _ _ wr => ∃ k : Nat, k ≤ S.size ∧ i = .int .i64 k ∧ (∃ B d, v = .slice B k d ∧ Own wr 3 1 (Fresh w) (.slice B k d) k (ivs ((s.take k).map unlet))) ∧ Hid (((s.take k).all fun c => decide (unlet c ≠ 0)) = true) ∧ Keep NoB w wr)
      (fun _ i _ _ _ => S.size - (intOf i).toNat)
    case atStart => exact ⟨0, Nat.zero_le _, rfl, ⟨none, 0, rfl, Own.nil _ _ _ _⟩, rfl, Keep.refl _ _⟩
    case round =>
      obtain ⟨k, hk, rfl, ⟨B, d, rfl, hO⟩, hall, hK⟩ := hrel
      by_cases hlt : k < S.size
      · have hks : k < s.length := by rw [← HSZ.out]; exact hlt
        have HT := Lib.hid (show s.take (k + 1) = s.take k ++ [s[k]] from List.take_succ_eq_append_getElem hks)
        have HM := Lib.hid (List.getElem_mem hks)
        have HX : Hid (S.data.toList.drop k = s[k] :: s.drop (k + 1)) := by show _ = _; rw [hs.out]; exact List.drop_eq_getElem_cons hks
        generalize s[k] = c at HT HM HX
        have HE : Hid ((S.extract k (k + 1)).toList = [c]) := by
          show _ = _
          rw [ByteArray.toList_eq, ByteArray.data_extract, Array.toList_extract]
          simp [List.extract, HX.out]
        obtain ⟨wo, rfl⟩ : ∃ wo : World, wo = wr := ⟨_, rfl⟩
        go_wp2
        go_loopw [6, 7] (fun t j wr => ∃ m : Nat, 1 ≤ m ∧ m ≤ 5 ∧ j = .int .i64 m ∧ (∃ u, t = .int .i64 u ∧ Hid (u = upto c m)) ∧ Keep NoB wo wr) (fun _ j _ => 5 - (intOf j).toNat)
        case atStart => exact ⟨1, by omega, by omega, rfl, ⟨0, rfl, (upto_one c).symm⟩, Keep.refl _ _⟩
        case round =>
          obtain ⟨m, hm1, hm5, rfl, ⟨u, rfl, hu⟩, hK2⟩ := hrel
          by_cases hm : m < 5
          · by_cases hh : letC (m : Int) = [c]
            · have HN := Lib.hid (upto_hit hm1 hh (by omega))
              have hq : (letC (m : Int) == (S.extract k (k + 1)).toList) = true := by rw [HE.out, hh]; simp
              clear hh
              go_wp2
              go_quiet ((go_at_call 15; exact Calls.quiet_of_same ((rletter_any m _).mono fun _ _ h => ⟨h.1, h.2.symm⟩)))
              go_wp2
              go_roundw
              case rel => exact ⟨m + 1, by omega, by omega, by go_num, ⟨_, rfl, HN.out.symm⟩, hK2.drewN _⟩
              case measure => simp [intOf]; omega
            · have HN := Lib.hid (upto_miss hm1 hh)
              have hq : (letC (m : Int) == (S.extract k (k + 1)).toList) = false := by rw [HE.out, beq_eq_false_iff_ne]; exact hh
              clear hh
              go_wp2
              go_quiet ((go_at_call 15; exact Calls.quiet_of_same ((rletter_any m _).mono fun _ _ h => ⟨h.1, h.2.symm⟩)))
              go_wp2
              go_roundw
              case rel => exact ⟨m + 1, by omega, by omega, by go_num, ⟨u, rfl, hu.out.trans HN.out.symm⟩, hK2.drewN _⟩
              case measure => simp [intOf]; omega
          · obtain rfl : m = 5 := by omega
            have hu' : Hid (u = unlet c) := hu.out.trans (upto_all c)
            have hO2 := hO.keepN hK2
            have hK3 := keepN hK hK2
            by_cases hc : unlet c = 0
            · have HU : Hid (untxt s = none) := untxt_none (fun h => by have := (List.all_eq_true.1 h.2) c HM.out; simp [hc] at this)
              obtain rfl : u = 0 := hu'.out.trans hc
              clear hc
              go_wp2
              go_ret2
              exact types_none HU.out hK3
            · have hall2 : Hid (((s.take (k + 1)).all fun c => decide (unlet c ≠ 0)) = true) := by show _ = _; rw [HT.out, List.all_append, hall.out]; simp [hc]
              have HZ : Hid (ivs ((s.take (k + 1)).map unlet) = ivs ((s.take k).map unlet) ++ [.int .i64 u]) := by show _ = _; rw [HT.out, hu'.out]; simp
              have hq : (u == 0) = false := by rw [beq_eq_false_iff_ne, hu'.out]; exact hc
              clear hc HT hall HM hu hu' HE HX
              go_wp2_with (at_builtin; refine wpList_append_rd _ rfl (.tmp 32) (.tmp 34) _ rfl 3 1 8 i0 _ Tryd.underlying22 hi hz0 hz1 hz2 rfl (by decide) _ k _ _ 1 _ [.int .i64 u] rfl (hO2.1.alloc _) rfl (rd_made rfl rfl) rfl (by simp [Value.oneCell']) (by unfold maxLen; omega) (by omega) ?_; intro B2 d2 w3 hrow3 hg3 hv3; rw [← HZ.out] at hrow3; obtain ⟨hO3, hK4⟩ := own_after hO2.2 (hK3.alloc _) hg3 hv3 hrow3; clear hrow3 hg3 hv3)
              go_roundw
              case rel => exact ⟨k + 1, by omega, by go_num, ⟨B2, d2, rfl, hO3⟩, hall2, hK4⟩
              case measure => simp [intOf]; omega
      · obtain hkn : k = s.length := by rw [← HSZ.out]; omega
        subst hkn
        rw [List.take_length] at hO hall
        have HU : Hid (untxt s = some (s.map unlet)) := untxt_some (by rw [← HSZ.out]; omega) hall.out
        go_wp2
        go_ret2
        exact types_some HU.out hO hK

end Go.Proofs.YtkhbmbkjaeaamaaDoor
