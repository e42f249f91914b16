/-
  The document's own Reel: look: what comes next, as vary's next tells it. Conditions: no more than 2^47 bytes.
-/
import Derived.Test.YtfdgdheopifnjaaVRefReel
namespace Go.Proofs.Ytfdgdheopifnjaa
open Go.RowKit

set_option maxRecDepth 100000 in
set_option maxHeartbeats 4000000 in
theorem reflook_any (w : World) (br : Nat) (O : Nat → Prop) (l : List UInt8) (p : Nat) (h : RefAt w br O l p) (hlen : l.length ≤ 140737488355328) (R : Nat × Nat × Nat) (hR : Hid (R = nx (l.drop p))) :
    Calls Try.prog 46 #[.pointer (some ⟨br, 0, none⟩)] w fun e w' => e = NxR R ∧ Keep NoB w w' := by
  obtain ⟨_, hp, A, c, hb, hr, hc, hm, hA⟩ := h
  unfold maxLen at hm
  have q0 := hb.cell 0
  have q1 := hb.cell 1
  simp at q0 q1
  by_cases hpl : p < l.length
  · obtain ⟨ad, rfl, hcell⟩ := hr (by omega)
    have hcb := hcell p (bv l[p]) (by simp [hpl])
    rw [drop_cons hpl] at hR
    obtain ⟨b, hbe⟩ : ∃ b, l[p] = b := ⟨_, rfl⟩
    obtain ⟨r, hre⟩ : ∃ r, l.drop (p + 1) = r := ⟨_, rfl⟩
    have hrl : r.length = l.length - (p + 1) := by rw [← hre, List.length_drop]
    have hri : Hid (∀ (i : Nat) (hi : i < r.length), w.cell? (ad.add (p + 1 + i)) = some (bv r[i])) := by
      show ∀ _ _, _
      intro i hi
      have := hcell (p + 1 + i) (bv r[i]) (by
        subst hre
        simp only [bvs, List.getElem?_map, List.getElem_drop]
        rw [List.getElem?_eq_getElem (by omega)]; rfl)
      exact this
    rw [hbe] at hcb hR
    rw [hre] at hR
    have hb8 : b.toNat < 256 := by simpa using b.toNat_lt
    obtain ⟨t1, t9, tm, _⟩ := td_rng b.toNat hb8
    obtain ⟨t, ht⟩ : ∃ t, td b.toNat = t := ⟨_, rfl⟩
    have HB := Lib.hid (fun i => bit_step b.toNat i hb8)
    have HSD := Lib.hid (sm_dc b r)
    have HSL := Lib.hid (sm_lt b r)
    have HSS := Lib.hid (sm_step b r)
    have HS1 := Lib.hid (sm_one b r)
    have HT := Lib.hid ht
    rw [ht] at t1 t9 tm HSD HSL HS1 HB
    have hp0 : (0 : Int) ≤ (p : Int) := by omega
    have hp1 : (p : Int) < (l.length : Int) := by omega
    go_enter Try.func46, Try.ntmps46
    go_wp2
    go_quiet (fail)
    go_wp2
    go_quiet (fail)
    go_wp2
    go_loop [5, 6, 7] (fun i cc b' => ∃ (j C B : Nat), 1 ≤ j ∧ j ≤ t ∧ Hid (C = b.toNat - mk j ∧ B = 256 / 2 ^ j) ∧ C ≤ 255 ∧ B ≤ 256 ∧ i = .int .i64 (j : Int) ∧ cc = .int .i64 (C : Int) ∧ b' = .int .i64 (B : Int)) (fun i _ _ => t - (intOf i).toNat)
    case atStart => exact ⟨1, b.toNat, 128, by omega, t1, by show _ ∧ _; rw [mk_vals.1]; exact ⟨rfl, rfl⟩, by omega, by omega, rfl, rfl, rfl⟩
    case round =>
      obtain ⟨j, C, B, hj1, hj, hCB, hC, hB, rfl, rfl, rfl⟩ := hrel
      obtain ⟨s1, s2⟩ := HB.out j hj1 hj
      obtain ⟨eC, eB⟩ := hCB.out
      rw [← eC, ← eB] at s1 s2
      by_cases hjt : j < t
      · obtain ⟨s3, s4, s5, s6⟩ := s1 hjt
        have HS : Hid (C - B = b.toNat - mk (j + 1) ∧ B / 2 = 256 / 2 ^ (j + 1)) := ⟨s5, s6.symm⟩
        clear s1 s2 s5 s6 eC eB
        have hgt : (0 : Int) < (B : Int) := by omega
        have hge : (B : Int) ≤ (C : Int) := by omega
        go_wp2
        go_round
        case rel => exact ⟨_, _, _, ⟨j + 1, by omega, by omega, C - B, B / 2, HS, by omega, by omega, rfl, rfl, rfl⟩, by go_num, by go_num, by go_num⟩
        case measure => simp [intOf]; omega
      · obtain rfl : j = t := by omega
        have hex := s2 rfl
        have hS1 : Hid (C = sm b r 1) := by show _ = _; rw [HS1.out]; exact eC
        clear s1 s2 eC eB hCB HS1 HB
        have hw1 : IntKind.i64.wrap ((p : Int) + (j : Int)) = (p : Int) + (j : Int) := IntWalk.i64_in _ (by omega)
        by_cases hsh : r.length + 1 < j
        · have hR' : R = (0, 0, 10) := by
            rw [hR.out, nx_cons, HT.out, if_pos hsh]
          subst hR'
          have hgt : (l.length : Int) < (p : Int) + (j : Int) := by omega
          clear tm
          rcases hex with hex | hex
          · subst hex
            go_wp2
            go_quiet (fail)
            go_wp2
            go_ret3
            exact ⟨rfl, ((Keep.refl _ _).drewN _).drewN _⟩
          · go_wp2
            go_quiet (fail)
            go_wp2
            go_ret3
            exact ⟨rfl, ((Keep.refl _ _).drewN _).drewN _⟩
        · have hng : ¬ (l.length : Int) < (p : Int) + (j : Int) := by omega
          have hcp : ¬ c = p := by omega
          have hD := HSD.out (by omega)
          have HDW := Lib.hid (dc_width b (r.take (j - 1)) j HT.out.symm (by rw [List.length_take]; omega))
          have hRc : Hid (R = if wd (sm b r j) < j then (0, 0, 11) else (sm b r j, j, 0)) := by
            show _ = _
            rw [hR.out, nx_cons, HT.out, if_neg hsh, hD]
          have hbt : (b :: r).take j = b :: r.take (j - 1) := by
            obtain ⟨k, rfl⟩ : ∃ k, j = k + 1 := ⟨j - 1, by omega⟩
            rw [List.take_succ_cons, Nat.add_sub_cancel]
          rw [hbt] at hD
          rw [← hD] at HDW
          have HPT : Hid ((l.drop p).take j = b :: r.take (j - 1)) := by
            show _ = _
            rw [drop_cons hpl, hbe, hre, hbt]
          have hpt2 : ((l.drop p).take j).length = j := by rw [List.length_take, List.length_drop]; omega
          have hparts := Lib.hid (fun (w' : World) (hk : Keep NoB w w') => by
            have hp := (hr.keep hk (fun _ _ _ => id)).part (c := c) (k := p) (m := j) hc
            rw [if_neg hcp] at hp
            have h := conv_rd (c := c - p) hp
            rw [hpt2, HPT.out] at h
            exact h)
          have HQ := Lib.hid (fun (w' : World) (hk : Keep NoB w w') => (⟨hk.cell q0 id, hk.cell q1 id⟩ : w'.cell? ⟨br, 0, none⟩ = some (.slice (some ad) l.length c) ∧ w'.cell? ⟨br, 1, none⟩ = some (.int .i64 (p : Int))))
          have HRI := Lib.hid (fun (w' : World) (hk : Keep NoB w w') (i : Nat) (hi : i < r.length) => hk.cell (hri.out i hi) id)
          clear hbt hD HPT hpt2 hR HSD hcell hr hbe hre hri hcb tm
          rcases hex with hex | hex
          all_goals
            try subst hex
            go_wp2
            go_quiet (fail)
            go_wp2
            go_loopw [8, 9] (fun n i wr => ∃ (k S : Nat), 1 ≤ k ∧ k ≤ j ∧ Hid (S = sm b r k) ∧ S < 18446744073709551616 ∧ n = .int .u64 (S : Int) ∧ i = .int .i64 (k : Int) ∧ Keep NoB w wr) (fun _ i _ => j - (intOf i).toNat)
            case atStart => exact ⟨1, C, Nat.le_refl _, hj1, hS1, by omega, rfl, rfl, (Keep.refl _ _).drewN _⟩
            case round =>
              clear q0 q1
              obtain ⟨k, S, hk1, hkj, hS, hS64, rfl, rfl, hK⟩ := hrel
              by_cases hlt : k < j
              · have hkr : k - 1 < r.length := by omega
                have hnext := HSS.out k hk1 hkr
                have hsm := HSL.out (k + 1) (by omega) (by omega)
                have hcx := HRI.out _ hK (k - 1) hkr
                rw [show p + 1 + (k - 1) = p + k by omega] at hcx
                obtain ⟨d, hd⟩ : ∃ d, r[k - 1] = d := ⟨_, rfl⟩
                rw [hd] at hnext hcx
                rw [hnext, ← hS.out] at hsm
                have hS' : Hid (256 * S + d.toNat = sm b r (k + 1)) := by show _ = _; rw [hnext, hS.out]
                clear hnext hd
                obtain ⟨q0, q1⟩ := HQ.out _ hK
                have hi0 : (0 : Int) ≤ (p : Int) + (k : Int) := by omega
                have hi1 : (p : Int) + (k : Int) < (l.length : Int) := by omega
                have hi2 : ((p : Int) + (k : Int)).toNat = p + k := by omega
                have hwi : IntKind.i64.wrap ((p : Int) + (k : Int)) = (p : Int) + (k : Int) := IntWalk.i64_in _ (by omega)
                have hwm : IntKind.u64.wrap (256 * (S : Int)) = 256 * (S : Int) := by rw [IntKind.wrap_u64]; omega
                have hws : IntKind.u64.wrap (256 * (S : Int) + (d.toNat : Int)) = 256 * (S : Int) + (d.toNat : Int) := by rw [IntKind.wrap_u64]; omega
                go_wp2
                go_quiet (fail)
                go_wp2
                go_roundw
                case rel => exact ⟨k + 1, 256 * S + d.toNat, by omega, by omega, hS', by omega, by go_num, by go_num, hK.drewN _⟩
                case measure => simp [intOf]; omega
              · obtain rfl : k = j := by omega
                obtain ⟨q0, q1⟩ := HQ.out _ hK
                have hRS : Hid (R = if wd S < k then (0, 0, 11) else (S, k, 0)) := by show _ = _; rw [hRc.out, hS.out]
                have HDS := HDW.out
                rw [← hS.out] at HDS
                have hi0 : (0 : Int) ≤ (p : Int) + (k : Int) := by omega
                have hi1 : (p : Int) + (k : Int) ≤ (c : Int) := by omega
                have hi2 : ((p : Int) + (k : Int)).toNat = p + k := by omega
                have hwi : IntKind.i64.wrap ((p : Int) + (k : Int)) = (p : Int) + (k : Int) := IntWalk.i64_in _ (by omega)
                obtain ⟨pt, hpt⟩ : ∃ pt, b :: r.take (k - 1) = pt := ⟨_, rfl⟩
                rw [hpt] at hparts HDS
                clear hpt hRc HDW hS HSS HSL HRI hS1
                have hi3 : (p : Int) ≤ (p : Int) + (k : Int) := by omega
                have hcs : (c : Int) ≤ 9223372036854775807 := by omega
                have hkc : p + k - p = k := by omega
                have HS64 := Lib.hid hS64
                by_cases heq : wd S = k
                · have he : encL S = pt := HDS.2.1 heq
                  have hR' : R = (S, k, 0) := by rw [hRS.out, if_neg (by omega)]
                  subst hR'
                  clear HDS hRS
                  go_wp2
                  go_region_held (fun w' => w'.cell? ⟨br, 0, none⟩ = some (.slice (some ad) l.length c) ∧ w'.cell? ⟨br, 1, none⟩ = some (.int .i64 (p : Int)) ∧ (convert 27 9 (.slice (some (ad.add p)) k (c - p))).run Try.prog w' = .ok (.string (str pt)) w')
                    (first | exact ⟨(HQ.out _ hK.drew).1, (HQ.out _ hK.drew).2, hparts.out _ hK.drew⟩ | exact ⟨(HQ.out _ (keepN hK.drew hk2)).1, (HQ.out _ (keepN hK.drew hk2)).2, hparts.out _ (keepN hK.drew hk2)⟩)
                    ((go_at_call 18; refine (refnum_any S _ HS64.out).mono ?_; rintro e w2 ⟨v, rfl, hv2, hk2⟩; obtain ⟨A2, c2, rfl, _, hr2, _⟩ := hv2.form; have hcv2 := conv_rd (c := c2) hr2; rw [he] at hcv2))
                  all_goals go_wp2
                  all_goals go_ret3
                  all_goals exact ⟨rfl, keepN hK.drew hk2⟩
                · have hne : ¬ encL S = pt := fun e => heq (HDS.2.2 e)
                  have hne' : (encL S == pt) = false := by rw [beq_eq_false_iff_ne]; exact hne
                  have hR' : R = (0, 0, 11) := by rw [hRS.out, if_pos (by omega)]
                  subst hR'
                  clear HDS hRS hne
                  go_wp2
                  go_region_held (fun w' => w'.cell? ⟨br, 0, none⟩ = some (.slice (some ad) l.length c) ∧ w'.cell? ⟨br, 1, none⟩ = some (.int .i64 (p : Int)) ∧ (convert 27 9 (.slice (some (ad.add p)) k (c - p))).run Try.prog w' = .ok (.string (str pt)) w')
                    (first | exact ⟨(HQ.out _ hK.drew).1, (HQ.out _ hK.drew).2, hparts.out _ hK.drew⟩ | exact ⟨(HQ.out _ (keepN hK.drew hk2)).1, (HQ.out _ (keepN hK.drew hk2)).2, hparts.out _ (keepN hK.drew hk2)⟩)
                    ((go_at_call 18; refine (refnum_any S _ HS64.out).mono ?_; rintro e w2 ⟨v, rfl, hv2, hk2⟩; obtain ⟨A2, c2, rfl, _, hr2, _⟩ := hv2.form; have hcv2 := conv_rd (c := c2) hr2))
                  all_goals go_wp2
                  all_goals go_ret3
                  all_goals exact ⟨rfl, keepN hK.drew hk2⟩
  · have hd : l.drop p = [] := List.drop_eq_nil_of_le (by omega)
    rw [hd] at hR
    have hR' := hR.out
    subst hR'
    go_enter Try.func46, Try.ntmps46
    go_wp2
    go_quiet (fail)
    go_wp2
    go_ret3
    exact ⟨rfl, (Keep.refl _ _).drewN _⟩

end Go.Proofs.Ytfdgdheopifnjaa
