/-
  What the document's read of layer shape answers: the types at its Reel's place. Conditions: the Reel reads bytes in memory, no more than 2^47.
  What the document's Decode and DecodeSignature answer. Conditions: the Reel reads bytes in memory, no more than 2^47.
  What Types answers. Conditions: the letters stand.
  What the document's Types answers. No conditions.
  What Show, Read and ShowSignature answer, the program's and the document's. Conditions: the lists lie in memory, the letters stand.
  What ReadSignature answers, the program's and the document's; the laws' own Copy, of and sig. Conditions: the letters stand.
-/
import Derived.Test.YtieejecodfeodaaDoorQ6
import Derived.Test.YtieejecodfeodaaDoorQ2
import Derived.Test.YtieejecodfeodaaDoorQ4
namespace Go.Proofs.YtieejecodfeodaaDoor.S
open Go.RowKit W

/-- How the document's read ends. -/
def RdR (w : World) (br : Nat) (At : World → Nat → Prop) (R : Option (List Int × Nat)) (e : Ending) (w' : World) : Prop :=
  ∃ A n c q, e = .returned (.tuple #[.slice A n c, .bool R.isSome]) ∧ (∀ y, R = some y → n = y.1.length ∧ q = y.2 ∧ Own w' 3 1 (Fresh w) (.slice A n c) n (ivs y.1)) ∧ At w' q ∧ Keep (fun k => k = br) w w'
theorem rdr_none {w w' : World} {br q : Nat} {At : World → Nat → Prop} {R : Option (List Int × Nat)} {A : Option Addr} {n c : Nat} (hR : R = none) (h : At w' q) (hk : Keep (fun k => k = br) w w') : RdR w br At R (.returned (.tuple #[.slice A n c, .bool false])) w' := by
  subst hR
  exact ⟨A, n, c, q, rfl, fun _ h => (by cases h), h, hk⟩
theorem pack_clean {b : List UInt8} {n : Nat} (hb : b.length = sz n) : packL (unp b n) = b ↔ clean b n = true := by
  constructor
  · intro h
    have := (unp_pack (unp_known b n)).2
    rw [h, unp_length] at this
    exact this
  · exact pack_unp hb

theorem str_beq (a b : List UInt8) : ((V.str a).toList == (V.str b).toList) = decide (a = b) := by
  rw [ByteArray.toList_eq, ByteArray.toList_eq, Bool.eq_iff_iff, beq_iff_eq, decide_eq_true_iff]

set_option maxRecDepth 100000 in
set_option maxHeartbeats 4000000 in
theorem rread_any (w : World) (br : Nat) (Ob : Nat → Prop) (l : List UInt8) (p most : Nat) (hm : most ≤ 64) (h : V.RefAt w br Ob l p) (hlen : l.length ≤ 140737488355328) :
    Calls Tryd.prog 48 #[.pointer (some ⟨br, 0, none⟩), .int .u64 most] w (RdR w br (fun w' q => V.RefAt w' br Ob l q) (rdT l p most)) := by
  have hbr := ref_lt h
  have HS := Lib.hid (V.refnumber_any w br Ob l p most h hlen)
  obtain ⟨ni, r, q, hN, hN0, hN1⟩ := num_case l p most
  rw [hN] at HS
  clear h
  by_cases hr : r = 0
  · subst hr
    obtain ⟨hn1, hn2⟩ := hN0 rfl
    have hz : sz ni ≤ 16 := by unfold sz; omega
    have hz4 : ni ≤ 4 * sz ni := by unfold sz; omega
    have hzq : ((ni : Int) + 3).tdiv 4 = ((sz ni : Nat) : Int) := by unfold sz; rw [Int.tdiv_eq_ediv_of_nonneg (by omega)]; omega
    by_cases hl : l.length < q + sz ni
    · have HD := Lib.hid (rdT_2 hN hl)
      obtain ⟨z, hzz⟩ : ∃ z, sz ni = z := ⟨_, rfl⟩
      rw [hzz] at hz hz4 hl hzq
      clear hN hN0 hN1 hzz
      go_enter Tryd.func48, Tryd.ntmps48
      go_wp2_with fail
      refine HS.out.mono ?_
      rintro e w1 ⟨rfl, h1, k1⟩
      have HR := Lib.hid (V.refraw_any w1 br Ob l q (z : Int) h1 hlen (by omega))
      go_wp2_with fail
      refine HR.out.mono ?_
      rintro e w3 (⟨h0, _⟩ | ⟨_, ⟨_, rfl, h3, k3⟩ | ⟨h0, _⟩⟩)
      · omega
      · go_wp2
        go_ret2
        exact rdr_none HD.out h3 (keep_bb k1 k3)
      · omega
    · obtain ⟨bs, hbs⟩ : ∃ bs, (l.drop q).take (sz ni) = bs := ⟨_, rfl⟩
      have hbl : bs.length = sz ni := by rw [← hbs]; simp; omega
      have HD : Hid ((clean bs ni = true → rdT l p most = some (unp bs ni, q + sz ni)) ∧ (clean bs ni = false → rdT l p most = none)) := by
        refine ⟨fun hc => ?_, fun hc => ?_⟩
        · rw [rdT_4 hN hl (by rw [hbs]; exact hc), hbs]
        · exact rdT_3 hN (by rw [hbs]; exact hc)
      have HPC : Hid (packL (unp bs ni) = bs ↔ clean bs ni = true) := pack_clean hbl
      have HPL : Hid ((packL (unp bs ni)).length = sz ni) := by show _ = _; rw [packL_length, unp_length]
      obtain ⟨z, hzz⟩ : ∃ z, sz ni = z := ⟨_, rfl⟩
      rw [hzz] at hz hz4 hl hzq HD hbs hbl HPL
      have HB := Lib.hid hbs
      have HBL := Lib.hid hbl
      clear hN hN0 hN1 hzz hbl hbs
      obtain ⟨i0, hi, hz0, hz1, hz2⟩ := info_parts int_info
      go_enter Tryd.func48, Tryd.ntmps48
      go_wp2_with fail
      refine HS.out.mono ?_
      rintro e w1 ⟨rfl, h1, k1⟩
      have HR := Lib.hid (V.refraw_any w1 br Ob l q (z : Int) h1 hlen (by omega))
      go_wp2_with fail
      refine HR.out.mono ?_
      rintro e w3 (⟨h0, _⟩ | ⟨_, ⟨h0, _⟩ | ⟨_, A2, c2, rfl, hO3, h3, k3⟩⟩)
      · omega
      · omega
      rw [Int.toNat_natCast] at hO3 h3 ⊢
      rw [HB.out] at hO3
      have hK3 := keep_bb k1 k3
      obtain ⟨A', c', e', hzc, hrd, hA', _⟩ := hO3.form
      simp only [Value.slice.injEq] at e'
      obtain ⟨rfl, _, rfl⟩ := e'
      rw [HBL.out] at hzc
      have HRD := Lib.hid hrd
      have HAD := Lib.hid hA'
      clear hO3 k1 k3 h1 HR HS hrd hA' hzq
      go_wp2
      go_loopw [10, 11] (fun v i wr => ∃ k : Nat, k ≤ ni ∧ i = .int .i64 k ∧ (∃ B d, v = .slice B k d ∧ Own wr 3 1 (Fresh w3) (.slice B k d) k (ivs (unp bs k))) ∧ Keep NoB w3 wr) (fun _ i _ => ni - (intOf i).toNat)
      case atStart => exact ⟨0, Nat.zero_le _, rfl, ⟨none, 0, rfl, Own.nil _ _ _ _⟩, Keep.refl _ _⟩
      case round =>
        obtain ⟨k, hk, rfl, ⟨D, d, rfl, hO⟩, hK⟩ := hrel
        by_cases hlt : k < ni
        · have hq4 : k / 4 < bs.length := by rw [HBL.out]; omega
          obtain ⟨ad, rfl, hc⟩ := HRD.out (by omega)
          obtain ⟨_, hadf⟩ := HAD.out ad rfl
          obtain ⟨g, hg⟩ : ∃ g, ad.block = g := ⟨_, rfl⟩
          rw [hg] at hadf
          subst hadf
          have cb : wr.cell? ⟨g, k / 4, none⟩ = some (.int .u8 (bs[k / 4].toNat : Int)) := by
            have h1 := hK.cell (hc (k / 4) (V.bv bs[k / 4]) (by simp [hq4])) id
            have e : (⟨g, 0, none⟩ : Addr).add (k / 4) = ⟨g, k / 4, none⟩ := by unfold Addr.add; by_cases hj : k / 4 = 0 <;> simp [hj]
            rw [e] at h1
            exact h1
          have hv : bs[k / 4].toNat < 256 := UInt8.toNat_lt _
          have HV : Hid (bs[k / 4].toNat / 4 ^ (k % 4) % 4 = pc bs k) := by
            show _ = _
            have := pc_four hq4 (j := k % 4) (by omega)
            rw [show 4 * (k / 4) + k % 4 = k by omega] at this
            exact this.symm
          have HZ : Hid (ivs (unp bs (k + 1)) = ivs (unp bs k) ++ [.int .i64 ((pc bs k : Int) + 1)]) := by show _ = _; rw [unp_succ]; simp
          generalize bs[k / 4].toNat = v at cb hv HV
          have hq1 : ((k : Int).tdiv 4) = ((k / 4 : Nat) : Int) := by rw [Int.tdiv_eq_ediv_of_nonneg (by omega)]; omega
          have hr1 : ((k : Int).tmod 4) = ((k % 4 : Nat) : Int) := by rw [Int.tmod_eq_emod_of_nonneg (by omega)]; omega
          obtain ⟨kq, hkq⟩ : ∃ kq, k / 4 = kq := ⟨_, rfl⟩
          obtain ⟨kr, hkr⟩ : ∃ kr, k % 4 = kr := ⟨_, rfl⟩
          have hkz : kq < z := by omega
          have hkr4 : kr < 4 := by omega
          rw [hkq] at cb hq1
          rw [hkr] at HV hr1
          clear hq4 hc hg hkq hkr HAD HRD
          go_wp2
          go_loop [12, 13] (fun x j => ∃ jn : Nat, jn ≤ kr ∧ j = .int .i64 (jn : Int) ∧ x = .int .i64 ((v / 4 ^ jn : Nat) : Int)) (fun _ j => kr - (intOf j).toNat)
          case atStart => exact ⟨0, by omega, rfl, by simp⟩
          case round =>
            obtain ⟨jn, hjn, rfl, rfl⟩ := hrel
            have hd : v / 4 ^ jn < 256 := Nat.lt_of_le_of_lt (Nat.div_le_self _ _) hv
            by_cases hjl : jn < kr
            · have hs : v / 4 ^ jn / 4 = v / 4 ^ (jn + 1) := by rw [Nat.pow_succ, Nat.div_div_eq_div_mul]
              have HSS := Lib.hid hs
              generalize v / 4 ^ jn = y at hd HSS ⊢
              clear hs
              have hdv : ((y : Int).tdiv 4) = ((y / 4 : Nat) : Int) := by rw [Int.tdiv_eq_ediv_of_nonneg (by omega)]; omega
              go_wp2
              go_round
              case rel => exact ⟨jn + 1, by omega, by go_num, by rw [← HSS.out]; go_num⟩
              case measure => simp [intOf]; omega
            · obtain rfl : jn = kr := by omega
              have HV2 := HV.out
              have hmd : ∀ y : Nat, ((y : Int).tmod 4) = ((y % 4 : Nat) : Int) := fun y => by rw [Int.tmod_eq_emod_of_nonneg (by omega)]; omega
              have hmd2 := hmd (v / 4 ^ jn)
              rw [HV2] at hmd2
              have hpc := pc_lt bs k
              clear hmd HV HV2
              generalize v / 4 ^ jn = y at hd hmd2
              generalize pc bs k = pcv at hmd2 hpc HZ
              go_wp2_with (at_builtin; refine wpList_append_rd _ rfl (.tmp 54) (.tmp 58) _ rfl 3 1 8 i0 _ Tryd.underlying22 hi hz0 hz1 hz2 rfl (by decide) _ k _ _ 1 _ [.int .i64 ((pcv : Int) + 1)] rfl (hO.1.alloc _) rfl (rd_made (by simp) rfl) rfl (by simp [Value.oneCell']) (by unfold maxLen; omega) (by omega) ?_; intro B5 d5 w5 hrow5 hg5 hv5; obtain ⟨hO5, hK5⟩ := own_after hO.2 (hK.alloc _) hg5 hv5 hrow5; clear hrow5 hg5 hv5)
              go_roundw
              case rel => exact ⟨k + 1, by omega, by go_num, ⟨B5, d5, rfl, by rw [HZ.out]; exact hO5⟩, hK5⟩
              case measure => simp [intOf]; omega
        · obtain rfl : k = ni := by omega
          have hzb := HBL.out
          subst hzb
          clear HBL
          have HT := Lib.hid (fun w hr => rtypesB_any D (unp bs k) k d w hr (unp_length bs k) (unp_known bs k) (by omega))
          have r1 : Rd wr D (ivs (unp bs k)) := by
            obtain ⟨A', c', e, hr⟩ := own_rdI hO
            cases e; exact hr
          have HO := Lib.hid hO
          clear hO
          go_wp2_with fail
          refine (HT.out _ r1).mono ?_
          rintro e w5 ⟨v5, rfl, hO5, k5⟩
          obtain ⟨A5, c5, rfl, hLc, hr5, hA5, hm5⟩ := hO5.form
          have hE := V.encL_len k
          have hEp : 0 < (V.encL k).length := by rw [V.encL_length k (by omega)]; exact V.wd_pos k
          have hL : (bytesT (unp bs k)).length = (V.encL k).length + bs.length := by unfold bytesT; rw [List.length_append, HPL.out, unp_length]
          obtain ⟨ad, rfl, hc5⟩ := hr5 (by omega)
          obtain ⟨_, hadf⟩ := hA5 ad rfl
          obtain ⟨g, hg⟩ : ∃ g, ad.block = g := ⟨_, rfl⟩
          rw [hg] at hadf
          subst hadf
          rw [hL] at hLc ⊢
          obtain ⟨E, hEE⟩ : ∃ E, (V.encL k).length = E := ⟨_, rfl⟩
          rw [hEE] at hLc hE hEp ⊢
          have hAD : 0 < bs.length → (if c5 = E then some (⟨g, 0, none⟩ : Addr) else some ⟨g, E, none⟩) = some ⟨g, E, none⟩ := fun h => if_neg (by omega)
          have hrt : V.Rd w5 (if c5 = E then some (⟨g, 0, none⟩ : Addr) else some ⟨g, E, none⟩) (packL (unp bs k)) := fun h0 => by
            rw [HPL.out] at h0
            refine ⟨_, hAD h0, fun j u hu => ?_⟩
            have h1 := hc5 (E + j) u (by unfold bytesT; rw [unp_length]; show (List.map _ _)[_]? = _; rw [List.map_append, List.getElem?_append_right (by simp; omega), List.length_map, hEE, show E + j - E = j by omega]; exact hu)
            have e1 : (⟨g, 0, none⟩ : Addr).add (E + j) = ⟨g, E + j, none⟩ := by unfold Addr.add; rw [if_neg (by omega)]; simp
            have e2 : (⟨g, E, none⟩ : Addr).add j = ⟨g, E + j, none⟩ := by unfold Addr.add; by_cases hj : j = 0 <;> simp [hj]
            rw [e1] at h1
            rw [e2]; exact h1
          have hrb : V.Rd w5 A2 bs := (HRD.out.keep hK (fun _ _ _ => id)).keep k5 (fun _ _ _ => id)
          obtain ⟨S1, hS1⟩ : ∃ S1, V.str (packL (unp bs k)) = S1 := ⟨_, rfl⟩
          obtain ⟨S2, hS2⟩ : ∃ S2, V.str bs = S2 := ⟨_, rfl⟩
          have HS1 := Lib.hid hS1
          have HS2 := Lib.hid hS2
          have HHL := Lib.hid hLc
          have hwE : wrap64 (E : Int) = (E : Int) := by unfold wrap64; omega
          clear hS1 hS2 hAD hc5 hO5 hr5 hA5 hg hEE hE hL hLc r1 HT
          go_wp2
          refine wp_region_sh ((0, false) :: (1, false) :: (2, false) :: (3, false) :: (4, false) :: (5, false) :: (6, false) :: (7, false) :: (8, false) :: (9, false) :: (10, false) :: (11, false) :: (12, false) :: (13, false) :: []) (fun w' => Keep NoB w5 w') (by kernel_rfl) (by kernel_rfl) (by rfl) (by kernel_rfl) (stable_keep w5) (Keep.refl NoB w5).drew ?_
          refine shM_step rfl rfl rfl (by rfl) (by rfl) ?_
          apply Exists.intro
          refine ⟨fun z0 K hK => ?_, ?_, ?_⟩
          · go_big_quiet_op
            exact hK _ rfl
          · kernel_rfl
          refine shM_step rfl rfl rfl (by rfl) (by rfl) ?_
          apply Exists.intro
          refine ⟨fun z0 K hK => ?_, ?_, ?_⟩
          · go_big_quiet_op
            exact hK _ rfl
          · kernel_rfl
          refine shM_step rfl rfl rfl (by rfl) (by rfl) ?_
          apply Exists.intro
          refine ⟨fun z0 K hK => ?_, ?_, ?_⟩
          · go_big_quiet_op
            exact hK _ rfl
          · kernel_rfl
          refine shM_step rfl rfl rfl (by rfl) (by rfl) ?_
          apply Exists.intro
          refine ⟨fun z0 K hK => ?_, ?_, ?_⟩
          · go_big_quiet_op
            exact hK _ rfl
          · kernel_rfl
          refine shM_step rfl rfl rfl (by rfl) (by rfl) ?_
          apply Exists.intro
          refine ⟨fun z0 K hK => ?_, ?_, ?_⟩
          · go_big_quiet_op
            exact hK _ rfl
          · kernel_rfl
          refine shM_step rfl rfl rfl (by rfl) (by rfl) ?_
          apply Exists.intro
          refine ⟨fun z0 K hK => ?_, ?_, ?_⟩
          · go_big_quiet_op
            exact hK _ rfl
          · kernel_rfl
          refine shM_step rfl rfl rfl (by rfl) (by rfl) ?_
          apply Exists.intro
          refine ⟨fun z0 K hK => ?_, ?_, ?_⟩
          · go_big_quiet_op
            exact hK _ rfl
          · kernel_rfl
          refine shM_step rfl rfl rfl (by rfl) (by rfl) ?_
          apply Exists.intro
          refine ⟨fun z0 K hK => ?_, ?_, ?_⟩
          · go_big_quiet_op
            exact hK _ rfl
          · kernel_rfl
          refine shM_step rfl rfl rfl (by rfl) (by rfl) ?_
          apply Exists.intro
          refine ⟨fun z0 K hK => ?_, ?_, ?_⟩
          · have q1 : ∀ y : KW z0.w, (convert 23 9 (.slice (if c5 = E then some (⟨g, 0, none⟩ : Addr) else some ⟨g, E, none⟩) bs.length (c5 - E))).run Tryd.prog y.w = .ok (.string S1) y.w := fun y => by have := V.conv_rd (c := (c5 - E)) (rd_n hrt (keepN z0.has y.keep)); rw [HPL.out, HS1.out] at this; exact this
            go_big_quiet_op
            exact hK _ rfl
          · kernel_rfl
          refine shM_step rfl rfl rfl (by rfl) (by rfl) ?_
          apply Exists.intro
          refine ⟨fun z0 K hK => ?_, ?_, ?_⟩
          · go_big_quiet_op
            exact hK _ rfl
          · kernel_rfl
          refine shM_step rfl rfl rfl (by rfl) (by rfl) ?_
          apply Exists.intro
          refine ⟨fun z0 K hK => ?_, ?_, ?_⟩
          · have q2 : ∀ y : KW z0.w, (convert 23 9 (.slice A2 bs.length c2)).run Tryd.prog y.w = .ok (.string S2) y.w := fun y => by have := V.conv_rd (c := c2) (rd_n hrb (keepN z0.has y.keep)); rw [HS2.out] at this; exact this
            go_big_quiet_op
            exact hK _ rfl
          · kernel_rfl
          refine shM_step rfl rfl rfl (by rfl) (by rfl) ?_
          apply Exists.intro
          refine ⟨fun z0 K hK => ?_, ?_, ?_⟩
          · go_big_quiet_op
            exact hK _ rfl
          · kernel_rfl
          refine shM_step rfl rfl rfl (by rfl) (by rfl) ?_
          apply Exists.intro
          refine ⟨fun z0 K hK => ?_, ?_, ?_⟩
          · go_big_quiet_op
            exact hK _ rfl
          · kernel_rfl
          refine shM_step rfl rfl rfl (by rfl) (by rfl) ?_
          apply Exists.intro
          refine ⟨fun z0 K hK => ?_, ?_, ?_⟩
          · go_big_quiet_op
            exact hK _ rfl
          · kernel_rfl
          refine shM_nil (fun y0 => ?_)
          have hy := y0.has
          generalize y0.w = w6 at hy ⊢
          clear hrt
          generalize (if c5 = E then some (⟨g, 0, none⟩ : Addr) else some ⟨g, E, none⟩) = AE
          have hEQ : (S1.toList == S2.toList) = clean bs k := by
            rw [← HS1.out, ← HS2.out, str_beq, Bool.eq_iff_iff, decide_eq_true_iff]
            exact HPC.out
          have hK6 := keep_nb (keep_nb (keep_nb hK3 hK) k5) hy
          have h6 := ((h3.keep hK (fun _ _ => id)).keep k5 (fun _ _ => id)).keep hy (fun _ _ => id)
          have hO6 := (HO.out.keepN k5).keepN hy
          have hs3 := hK3.size
          generalize (S1.toList == S2.toList) = eqb at hEQ ⊢
          clear hrb HS1 HS2 HHL hwE
          go_wp2
          go_ret2
          subst hEQ
          refine ⟨D, k, d, _, ?_, fun y hy => ?_, h6, hK6⟩
          · cases hc : clean bs k
            · rw [HD.out.2 hc]; rfl
            · rw [HD.out.1 hc]; rfl
          · cases hc : clean bs k
            · rw [HD.out.2 hc] at hy; cases hy
            · rw [HD.out.1 hc] at hy
              injection hy with hy
              subst hy
              exact ⟨(unp_length bs k).symm, rfl, hO6.mono (fun j hj _ => by unfold Fresh at hj ⊢; omega)⟩
  · have HD := Lib.hid (rdT_1 hN hr)
    have hr3 : ((r : Int) != 0) = true := by rw [bne_iff_ne]; omega
    clear hN0 hN1 hN hr
    go_enter Tryd.func48, Tryd.ntmps48
    go_wp2_with fail
    refine HS.out.mono ?_
    rintro e w1 ⟨rfl, h1, k1⟩
    go_wp2
    go_ret2
    exact rdr_none HD.out h1 k1

end Go.Proofs.YtieejecodfeodaaDoor.S

namespace Go.Proofs.YtieejecodfeodaaDoor.S
open Go.RowKit W

set_option maxRecDepth 100000 in
set_option maxHeartbeats 4000000 in
theorem rdecodeS_any (w : World) (br : Nat) (Ob : Nat → Prop) (l : List UInt8) (p : Nat) (h : V.RefAt w br Ob l p) (hlen : l.length ≤ 140737488355328) :
    Calls Tryd.prog 15 #[.pointer (some ⟨br, 0, none⟩)] w (ShpR w br (fun w' q => V.RefAt w' br Ob l q) (decS l p)) := by
  have HU := Lib.hid (rread_any w br Ob l p 16 (by omega) h hlen)
  cases hR : rdT l p 16 with
  | none =>
    have HD := Lib.hid (decS_none hR)
    rw [hR] at HU
    go_enter Tryd.func15, Tryd.ntmps15
    go_wp2_with fail
    refine HU.out.mono ?_
    rintro e w1 ⟨A1, n1, c1, q, rfl, _, h1, k1⟩
    go_wp2
    go_ret2
    exact shp_none HD.out h1 k1
  | some x =>
    obtain ⟨xs, qx⟩ := x
    obtain ⟨hk, hml, _⟩ := rdT_ok hR
    have HL : Hid (xs.length ≤ 16) := hml
    rw [hR] at HU
    cases ho : okS xs
    · have HD := Lib.hid (decS_no hR ho)
      have HI := Lib.hid (fun (A : Option Addr) (c : Nat) (w : World) hr => rchkS_any A xs xs.length c w hr rfl (by have := HL.out; omega) 60 (chkS_no ho))
      clear hR ho hk hml
      go_enter Tryd.func15, Tryd.ntmps15
      go_wp2_with fail
      refine HU.out.mono ?_
      rintro e w1 ⟨A1, n1, c1, q, rfl, hO, h1, k1⟩
      obtain ⟨rfl, rfl, hO1⟩ := hO _ rfl
      have r1 : Rd w1 A1 (ivs xs) := by
        obtain ⟨A', c', e, hr⟩ := own_rdI hO1
        cases e; exact hr
      clear hO hO1
      go_wp2_with (go_at_call 23; refine (HI.out _ _ _ r1).mono ?_; rintro e w2 ⟨rfl, k2⟩)
      go_ret2
      exact shp_none HD.out (h1.keep k2 (fun _ _ => id)) (keep_nb k1 k2)
    · have HD := Lib.hid (decS_some hR ho)
      have HI := Lib.hid (fun (A : Option Addr) (c : Nat) (w : World) hr => rchkS_any A xs xs.length c w hr rfl (by have := HL.out; omega) 0 (chkS_ok ho))
      clear hR ho hk hml
      go_enter Tryd.func15, Tryd.ntmps15
      go_wp2_with fail
      refine HU.out.mono ?_
      rintro e w1 ⟨A1, n1, c1, q, rfl, hO, h1, k1⟩
      obtain ⟨rfl, rfl, hO1⟩ := hO _ rfl
      have r1 : Rd w1 A1 (ivs xs) := by
        obtain ⟨A', c', e, hr⟩ := own_rdI hO1
        cases e; exact hr
      have HO1 := Lib.hid hO1
      clear hO hO1
      go_wp2_with (go_at_call 23; refine (HI.out _ _ _ r1).mono ?_; rintro e w2 ⟨rfl, k2⟩)
      go_ret2
      rw [HD.out]
      exact ⟨_, _, rfl, HO1.out.keepN k2, h1.keep k2 (fun _ _ => id), fun y hy => (by injection hy with hy; rw [← hy]), keep_nb k1 k2⟩

theorem decG_1 {l : List UInt8} {p : Nat} (h : rdT l p 64 = none) : decG l p = none := by unfold decG; rw [h]
theorem decG_2 {l : List UInt8} {p : Nat} {x : List Int × Nat} (h : rdT l p 64 = some x) (h2 : rdT l x.2 64 = none) : decG l p = none := by unfold decG; rw [h]; dsimp only; rw [h2]
theorem decG_3 {l : List UInt8} {p : Nat} {x y : List Int × Nat} (h : rdT l p 64 = some x) (h2 : rdT l x.2 64 = some y) (ho : okG x.1 y.1 = false) : decG l p = none := by
  unfold decG; rw [h]; dsimp only; rw [h2]; exact if_neg (by rw [ho]; decide)
theorem decG_4 {l : List UInt8} {p : Nat} {x y : List Int × Nat} (h : rdT l p 64 = some x) (h2 : rdT l x.2 64 = some y) (ho : okG x.1 y.1 = true) : decG l p = some ((x.1, y.1), y.2) := by
  unfold decG; rw [h]; dsimp only; rw [h2]; exact if_pos ho

set_option maxRecDepth 100000 in
set_option maxHeartbeats 4000000 in
theorem rdecodeG_any (w : World) (br : Nat) (Ob : Nat → Prop) (l : List UInt8) (p : Nat) (hO : ∀ k, Ob k → k < w.heap.size) (h : V.RefAt w br Ob l p) (hlen : l.length ≤ 140737488355328) :
    Calls Tryd.prog 30 #[.pointer (some ⟨br, 0, none⟩)] w (SigR w br (fun w' q => V.RefAt w' br Ob l q) (decG l p)) := by
  have hbr := ref_lt h
  have bz := Blk.new w 26 #[.slice none 0 0, .slice none 0 0]
  have k0 := (Keep.refl NoB w).alloc (.cells #[.slice none 0 0, .slice none 0 0] 26)
  have h0 := h.keep k0 (fun _ _ => id)
  have HU := Lib.hid (rread_any _ br Ob l p 64 (by omega) h0 hlen)
  have HOb : Hid (∀ k, Ob k → ¬ (k = w.heap.size)) := fun k hk e => by have := hO k hk; omega
  clear h h0
  cases hR : rdT l p 64 with
  | none =>
    have HD := Lib.hid (decG_1 hR)
    rw [hR] at HU
    go_enter Tryd.func30, Tryd.ntmps30
    go_wp2_with fail
    refine HU.out.mono ?_
    rintro e w1 ⟨A1, n1, c1, q, rfl, _, h1, k1⟩
    have bz1 := bz.keep k1 (fun e => by omega)
    obtain ⟨z0, z1⟩ := blk2 bz1
    have fz := fun i => bz1.frozen i
    have HBZ := Lib.hid (fun u v => blk_put2 bz1 u v)
    have gK := (k0.mono (O' := fun k => k = br) (fun _ hf _ => hf.elim)).trans k1 (fun _ h _ => h)
    clear bz bz1 k0 k1
    go_wp2
    refine bodyPost_ret (ret_sig rfl rfl (HBZ.out _ _) rfl) rfl ?_
    exact sig_none HD.out (h1.keep (keep_at2 w1 w.heap.size _ _) HOb.out) (keep_put2 gK (Nat.le_refl _) _ _)
  | some x =>
    obtain ⟨xs, qx⟩ := x
    obtain ⟨hk, hml, _⟩ := rdT_ok hR
    rw [hR] at HU
    have HU2 := Lib.hid (fun (w : World) (h : V.RefAt w br Ob l qx) => rread_any w br Ob l qx 64 (by omega) h hlen)
    have HO1 : Hid (w.heap.size < (w.alloc (.cells #[.slice none 0 0, .slice none 0 0] 26)).heap.size) := by show _ < _; simp
    cases hR2 : rdT l qx 64 with
    | none =>
      have HD := Lib.hid (decG_2 hR hR2)
      rw [hR2] at HU2
      clear hR hR2 hk
      go_enter Tryd.func30, Tryd.ntmps30
      go_wp2_with fail
      refine HU.out.mono ?_
      rintro e w1 ⟨A1, n1, c1, q, rfl, hq, h1, k1⟩
      obtain ⟨rfl, rfl, _⟩ := hq _ rfl
      have bz1 := bz.keep k1 (fun e => by omega)
      have gK := (k0.mono (O' := fun k => k = br) (fun _ hf _ => hf.elim)).trans k1 (fun _ h _ => h)
      clear bz k0 hq
      go_wp2_with fail
      refine (HU2.out _ h1).mono ?_
      rintro e w2 ⟨A2, n2, c2, q2, rfl, _, h2, k2⟩
      have bz2 := (bz1.keep k2 (fun e => by omega)).alloc (.cells #[.slice A1 xs.length c1, .slice A2 n2 c2] 26)
      have h3 := h2.keep ((Keep.refl NoB w2).alloc (.cells #[.slice A1 xs.length c1, .slice A2 n2 c2] 26)) (fun _ _ => id)
      obtain ⟨z0, z1⟩ := blk2 bz2
      have fz := fun i => bz2.frozen i
      have HBZ := Lib.hid (fun u v => blk_put2 bz2 u v)
      replace gK := (keep_bb gK k2).alloc (.cells #[.slice A1 xs.length c1, .slice A2 n2 c2] 26)
      clear bz1 bz2 k2 k1 h2
      go_wp2
      refine bodyPost_ret (ret_sig rfl rfl (HBZ.out _ _) rfl) rfl ?_
      exact sig_none HD.out (h3.keep (keep_at2 _ w.heap.size _ _) HOb.out) (keep_put2 gK (Nat.le_refl _) _ _)
    | some y =>
      obtain ⟨ys, qy⟩ := y
      obtain ⟨hk2, hml2, _⟩ := rdT_ok hR2
      rw [hR2] at HU2
      have HI : Hid ((okG xs ys = false → decG l p = none ∧ ∀ (A : Option Addr) (ca : Nat) (B : Option Addr) (cb : Nat) (w : World), Rd w A (ivs xs) → Rd w B (ivs ys) → Calls Tryd.prog 35 #[.agg #[.slice A xs.length ca, .slice B ys.length cb]] w fun e w' => e = .returned (.int .i64 61) ∧ Keep NoB w w') ∧
        (okG xs ys = true → decG l p = some ((xs, ys), qy) ∧ ∀ (A : Option Addr) (ca : Nat) (B : Option Addr) (cb : Nat) (w : World), Rd w A (ivs xs) → Rd w B (ivs ys) → Calls Tryd.prog 35 #[.agg #[.slice A xs.length ca, .slice B ys.length cb]] w fun e w' => e = .returned (.int .i64 0) ∧ Keep NoB w w')) :=
        ⟨fun ho => ⟨decG_3 hR hR2 ho, fun A ca B cb w ha hr => rchkG_any A xs xs.length ca B ys ys.length cb w ha hr rfl rfl (by omega) (by omega) 61 (chkG_no ho)⟩, fun ho => ⟨decG_4 hR hR2 ho, fun A ca B cb w ha hr => rchkG_any A xs xs.length ca B ys ys.length cb w ha hr rfl rfl (by omega) (by omega) 0 (chkG_ok ho)⟩⟩
      clear hR hR2 hk hk2
      go_enter Tryd.func30, Tryd.ntmps30
      go_wp2_with fail
      refine HU.out.mono ?_
      rintro e w1 ⟨A1, n1, c1, q, rfl, hq, h1, k1⟩
      obtain ⟨rfl, rfl, hO1⟩ := hq _ rfl
      have bz1 := bz.keep k1 (fun e => by omega)
      have gK := (k0.mono (O' := fun k => k = br) (fun _ hf _ => hf.elim)).trans k1 (fun _ h _ => h)
      replace hO1 := hO1.mono (O' := fun k => w.heap.size < k) (fun k hf _ => by have := HO1.out; unfold Fresh at hf; omega)
      have hs1 : w.heap.size < w1.heap.size := bz1.lt
      clear bz k0 hq k1 HO1
      go_wp2_with fail
      refine (HU2.out _ h1).mono ?_
      rintro e w2 ⟨A2, n2, c2, q2, rfl, hq2, h2, k2⟩
      obtain ⟨rfl, rfl, hO2⟩ := hq2 _ rfl
      replace hO2 := (hO2.mono (O' := fun k => w.heap.size < k) (fun k hf _ => by unfold Fresh at hf; omega)).keepN ((Keep.refl NoB w2).alloc (.cells #[.slice A1 xs.length c1, .slice A2 ys.length c2] 26))
      replace hO1 := (hO1.keep k2 (fun k hk e => by omega)).keepN ((Keep.refl NoB w2).alloc (.cells #[.slice A1 xs.length c1, .slice A2 ys.length c2] 26))
      have bz2 := (bz1.keep k2 (fun e => by omega)).alloc (.cells #[.slice A1 xs.length c1, .slice A2 ys.length c2] 26)
      have bg2 := Blk.new w2 26 #[.slice A1 xs.length c1, .slice A2 ys.length c2]
      have h3 := h2.keep ((Keep.refl NoB w2).alloc (.cells #[.slice A1 xs.length c1, .slice A2 ys.length c2] 26)) (fun _ _ => id)
      replace gK := (keep_bb gK k2).alloc (.cells #[.slice A1 xs.length c1, .slice A2 ys.length c2] 26)
      have r1 : Rd (w2.alloc (.cells #[.slice A1 xs.length c1, .slice A2 ys.length c2] 26)) A1 (ivs xs) := by
        obtain ⟨A', c', e, hr⟩ := own_rdI hO1
        cases e; exact hr
      have r2 : Rd (w2.alloc (.cells #[.slice A1 xs.length c1, .slice A2 ys.length c2] 26)) A2 (ivs ys) := by
        obtain ⟨A', c', e, hr⟩ := own_rdI hO2
        cases e; exact hr
      clear bz1 hq2 k2 h1 h2 HU HU2
      cases ho : okG xs ys
      · obtain ⟨hD, hI⟩ := HI.out.1 ho
        have HD := Lib.hid hD
        have HI2 := Lib.hid hI
        clear hD hI HI ho hO1 hO2
        go_wp2_with fail
        refine (HI2.out _ _ _ _ _ r1 r2).mono ?_
        rintro e w3 ⟨rfl, k3⟩
        have bz3 := bz2.keep k3 id
        obtain ⟨z0, z1⟩ := blk2 bz3
        have fz := fun i => bz3.frozen i
        have HBZ := Lib.hid (fun u v => blk_put2 bz3 u v)
        replace h3 := h3.keep k3 (fun _ _ => id)
        replace gK := keep_nb gK k3
        clear bz2 bz3 k3 r1 r2 HI2 bg2
        go_wp2
        refine bodyPost_ret (ret_sig rfl rfl (HBZ.out _ _) rfl) rfl ?_
        exact sig_none HD.out (h3.keep (keep_at2 w3 w.heap.size _ _) HOb.out) (keep_put2 gK (Nat.le_refl _) _ _)
      · obtain ⟨hD, hI⟩ := HI.out.2 ho
        have HD := Lib.hid hD
        have HI2 := Lib.hid hI
        clear hD hI HI ho
        go_wp2_with fail
        refine (HI2.out _ _ _ _ _ r1 r2).mono ?_
        rintro e w3 ⟨rfl, k3⟩
        have bz3 := bz2.keep k3 id
        obtain ⟨z0, z1⟩ := blk2 bz3
        obtain ⟨g0, g1⟩ := blk2 (bg2.keep k3 id)
        have fz := fun i => bz3.frozen i
        have HBZ := Lib.hid (fun u v => blk_put2 bz3 u v)
        replace h3 := h3.keep k3 (fun _ _ => id)
        have HP1 := Lib.hid (own_put2 (hO1.keepN k3) (Nat.le_refl _) (.slice A1 xs.length c1) (.slice A2 ys.length c2))
        have HP2 := Lib.hid (own_put2 (hO2.keepN k3) (Nat.le_refl _) (.slice A1 xs.length c1) (.slice A2 ys.length c2))
        replace gK := keep_nb gK k3
        clear bz2 bz3 k3 r1 r2 HI2 hO1 hO2 bg2
        go_wp2
        refine bodyPost_ret (ret_sig rfl rfl (HBZ.out _ _) rfl) rfl ?_
        rw [HD.out]
        exact ⟨_, _, _, rfl, HP1.out, HP2.out, h3.keep (keep_at2 w3 w.heap.size _ _) HOb.out, fun y hy => (by injection hy with hy; rw [← hy]), keep_put2 gK (Nat.le_refl _) _ _⟩

end Go.Proofs.YtieejecodfeodaaDoor.S

namespace Go.Proofs.YtieejecodfeodaaDoor.W
open Go.RowKit


set_option maxRecDepth 100000 in
set_option maxHeartbeats 4000000 in
theorem types_any (S : ByteArray) (s : List UInt8) (w : World) (hL : LetAt w) (hs : Hid (S.data.toList = s)) (h1 : S.size ≤ 9223372036854775807) :
    Calls Tryd.prog 49 #[.string S] w (TypesR w s) := by
  have HSZ := Lib.hid (size_of hs.out)
  by_cases hlong : 1024 < S.size
  · have HU : Hid (untxt s = none) := untxt_none (by rw [← HSZ.out]; omega)
    go_enter Tryd.func49, Tryd.ntmps49
    go_wp2
    go_ret2
    exact types_none HU.out (Keep.refl _ _)
  · obtain ⟨i0, hi, hz0, hz1, hz2⟩ := info_parts int_info
    go_enter Tryd.func49, Tryd.ntmps49
    go_wp2_with (at_make; refine wpList_make_own _ rfl _ _ 22 rfl w.heap.size 3 i0 _ 1 Tryd.underlying22 hi hz0 hz1 _ _ _ S.size rfl rfl rfl (by rw [hz2]; omega) (by unfold maxLen; omega) (Nat.le_refl _) ?_; intro w1 hrow1 hg1)
    have hO1 : Own w1 3 1 (Fresh w) (.slice (some ⟨w.heap.size, 0, none⟩) 0 S.size) 0 (ivs ((s.take 0).map unlet)) := Own.of_row hrow1 (fun _ h => h)
    have hK1 : Keep NoB w w1 := (Keep.refl NoB w).grown hg1 (fun g e _ => by cases e)
    have hsz1 : w.heap.size ≤ w1.heap.size := hK1.size
    clear hrow1 hg1
    have hk0 : (w1.iter S 0).heap[w1.heap.size]? = some (.stringIter S 0) := World.iter_heap w1 S 0
    have hO0 : Own (w1.iter S 0) 3 1 (Fresh w) (.slice (some ⟨w.heap.size, 0, none⟩) 0 S.size) 0 (ivs ((s.take 0).map unlet)) := hO1.keepN ((Keep.refl NoB w1).alloc _)
    have hK0 : Keep NoB w (w1.iter S 0) := hK1.alloc _
    go_loopw [4] (fun v wr => ∃ k : Nat, k ≤ S.size ∧ wr.heap[w1.heap.size]? = some (.stringIter S k) ∧ (∃ B d, v = .slice B k d ∧ Own wr 3 1 (Fresh w) (.slice B k d) k (ivs ((s.take k).map unlet))) ∧ Hid (((s.take k).all fun c => decide (unlet c ≠ 0)) = true) ∧ Keep NoB w wr)
      (fun _ wr => S.size - wr.iterPos w1.heap.size)
    case atStart => exact ⟨0, Nat.zero_le _, hk0, ⟨_, _, rfl, hO0⟩, rfl, hK0⟩
    case round =>
      obtain ⟨k, hk, hit, ⟨B, d, rfl, hO⟩, hall, hK⟩ := hrel
      clear hO0 hK0 hk0 hO1 hK1
      have hmu : Hid (wr.iterPos w1.heap.size = k) := by show _ = _; simp [World.iterPos, hit]
      by_cases hlt : k < S.size
      · have hks : k < s.length := by rw [← HSZ.out]; exact hlt
        have HT := Lib.hid (show s.take (k + 1) = s.take k ++ [s[k]] from List.take_succ_eq_append_getElem hks)
        have HM := Lib.hid (List.getElem_mem hks)
        have hbt := byte_at hs.out k hlt hks
        by_cases hb : (S[k]'hlt).toNat < 128
        · have hnext : ∀ ty, (Instr.next (.pointer (some ⟨w1.heap.size, 0, none⟩)) true ty).run Tryd.prog wr = _ := fun ty => Lib.run_next_ascii_at wr w1.heap.size S k ty hit hlt hb
          rw [hbt] at hnext hb
          have HB := Lib.hid (unletZ_byte s[k])
          generalize s[k] = c at hnext hb HT HM HB
          have hO2 := hO.iterAt hit (k + 1)
          have hit2 := Lib.iterAt_heap wr w1.heap.size S k (k + 1) hit
          have hK2 := hK.iterAt hsz1 S (k + 1)
          generalize wr.iterAt w1.heap.size S (k + 1) = w2 at hnext hO2 hit2 hK2
          have hL2 := hL.keep hK2
          clear hbt hO hK hit
          by_cases hc : unlet c = 0
          · have HU : Hid (untxt s = none) := untxt_none (fun h => by have := (List.all_eq_true.1 h.2) c HM.out; simp [hc] at this)
            have e0 : unletZ (c.toNat : Int) = 0 := HB.out.trans hc
            have HLT : Hid (Calls Tryd.prog 78 #[.int .i32 (c.toNat : Int)] w2 fun e w' => e = .returned (.tuple #[.int .i64 0, .bool false]) ∧ w2 = w') := by
              have := lettered_any (c.toNat : Int) w2 hL2
              rw [e0] at this
              exact this
            clear HB hc e0
            go_wp2_with (go_at_call 78; refine HLT.out.mono ?_; rintro e w' ⟨rfl, rfl⟩)
            go_ret2
            exact types_none HU.out hK2
          · have e0 : unletZ (c.toNat : Int) = unlet c := HB.out
            have HLT : Hid (Calls Tryd.prog 78 #[.int .i32 (c.toNat : Int)] w2 fun e w' => e = .returned (.tuple #[.int .i64 (unlet c), .bool true]) ∧ w2 = w') := by
              have := lettered_any (c.toNat : Int) w2 hL2
              rw [e0, show decide (unlet c ≠ 0) = true by simpa using hc] at this
              exact this
            have hall2 : Hid (((s.take (k + 1)).all fun c => decide (unlet c ≠ 0)) = true) := by show _ = _; rw [HT.out, List.all_append, hall.out]; simp [hc]
            have HZ : Hid (ivs ((s.take (k + 1)).map unlet) = ivs ((s.take k).map unlet) ++ [.int .i64 (unlet c)]) := by show _ = _; rw [HT.out]; simp
            clear HB hc e0 HT hall HM
            go_wp2_with (first
              | (go_at_call 78; refine HLT.out.mono ?_; rintro e w' ⟨rfl, rfl⟩)
              | (at_builtin; refine wpList_append_rd _ rfl (.tmp 27) (.tmp 29) _ rfl 3 1 8 i0 _ Tryd.underlying22 hi hz0 hz1 hz2 rfl (by decide) _ k _ _ 1 _ [.int .i64 (unlet c)] rfl (hO2.1.alloc _) rfl (rd_made rfl rfl) rfl (by simp [Value.oneCell']) (by unfold maxLen; omega) (by omega) ?_; intro B2 d2 w3 hrow3 hg3 hv3; rw [← HZ.out] at hrow3; have hit3 := (hg3.block w1.heap.size (by have := (Array.getElem?_eq_some_iff.1 hit2).1; simp; omega) (fun e => own_iter hO2 hit2 e.symm)).trans ((Below.heap_alloc w2 _ w1.heap.size (Array.getElem?_eq_some_iff.1 hit2).1).trans hit2); obtain ⟨hO3, hK3⟩ := own_after hO2.2 (hK2.alloc _) hg3 hv3 hrow3; clear hrow3 hg3 hv3))
            go_roundw
            case rel => exact ⟨k + 1, by omega, hit3, ⟨B2, d2, rfl, hO3⟩, hall2, hK3⟩
            case measure =>
              have hmu2 : w3.iterPos w1.heap.size = k + 1 := by simp [World.iterPos, hit3]
              rw [hmu.out, hmu2]
              omega
        · have hnext : ∀ ty, (Instr.next (.pointer (some ⟨w1.heap.size, 0, none⟩)) true ty).run Tryd.prog wr = _ := fun ty => Lib.run_next_any_at wr w1.heap.size S k ty hit hlt
          have hbig := decode_big S k (by rw [get_at k hlt]; omega)
          have HB : Hid (unletZ ((Utf8.decode S k).1 : Int) = 0) := unletZ_big (by omega)
          have hc : unlet s[k] = 0 := by
            have := unletZ_byte s[k]
            rw [unletZ_big (by rw [← hbt]; omega)] at this
            exact this.symm
          have HU : Hid (untxt s = none) := untxt_none (fun h => by have := (List.all_eq_true.1 h.2) s[k] HM.out; simp [hc] at this)
          have hK2 := hK.iterAt hsz1 S (k + (Utf8.decode S k).2)
          generalize wr.iterAt w1.heap.size S (k + (Utf8.decode S k).2) = w2 at hnext hK2
          generalize (Utf8.decode S k).1 = r at hnext HB hbig
          have hL2 := hL.keep hK2
          have HLT : Hid (Calls Tryd.prog 78 #[.int .i32 (r : Int)] w2 fun e w' => e = .returned (.tuple #[.int .i64 0, .bool false]) ∧ w2 = w') := by
            have := lettered_any (r : Int) w2 hL2
            rw [HB.out] at this
            exact this
          clear hbt hO hK hit HT HM hc hb
          go_wp2_with (go_at_call 78; refine HLT.out.mono ?_; rintro e w' ⟨rfl, rfl⟩)
          go_ret2
          exact types_none HU.out hK2
      · obtain hkn : k = s.length := by rw [← HSZ.out]; omega
        have hnext : ∀ ty, (Instr.next (.pointer (some ⟨w1.heap.size, 0, none⟩)) true ty).run Tryd.prog wr = _ := fun ty => Lib.run_next_end_at wr w1.heap.size S k ty hit hlt
        subst hkn
        rw [List.take_length] at hO hall
        have HU : Hid (untxt s = some (s.map unlet)) := untxt_some (by rw [← HSZ.out]; omega) hall.out
        go_wp2
        go_ret2
        exact types_some HU.out hO hK

end Go.Proofs.YtieejecodfeodaaDoor.W

namespace Go.Proofs.YtieejecodfeodaaDoor.W
open Go.RowKit

/-- The type found among the first letters. -/
def upto (c : UInt8) (j : Nat) : Int := if unlet c < j then unlet c else 0
theorem unlet_range (c : UInt8) : 0 ≤ unlet c ∧ unlet c ≤ 4 := by
  rcases unlet_known c with h | h
  · omega
  · have := (known_iff _).1 h; omega
theorem upto_hit {c : UInt8} {j : Nat} (h1 : 1 ≤ j) (h : letC (j : Int) = [c]) (h4 : j ≤ 4) : upto c (j + 1) = j := by
  have hu := unlet_of (by rw [known_iff]; omega) h
  unfold upto; rw [hu, if_pos (by omega)]
theorem upto_miss {c : UInt8} {j : Nat} (h1 : 1 ≤ j) (h : ¬ letC (j : Int) = [c]) : upto c (j + 1) = upto c j := by
  have hr := unlet_range c
  have hne : unlet c ≠ j := fun e => by
    by_cases h0 : unlet c = 0
    · omega
    · have := unlet_let h0
      rw [e] at this
      exact h this
  unfold upto
  by_cases h2 : unlet c < j
  · rw [if_pos (by omega), if_pos h2]
  · rw [if_neg (by omega), if_neg h2]
theorem upto_all (c : UInt8) : upto c 5 = unlet c := by have := unlet_range c; unfold upto; rw [if_pos (by omega)]
theorem upto_one (c : UInt8) : upto c 1 = 0 := by
  have := unlet_range c
  unfold upto
  split <;> omega

set_option maxRecDepth 100000 in
set_option maxHeartbeats 4000000 in
theorem rtypes_any (S : ByteArray) (s : List UInt8) (w : World) (hs : Hid (S.data.toList = s)) (h1 : S.size ≤ 9223372036854775807) :
    Calls Tryd.prog 50 #[.string S] w (TypesR w s) := by
  have HSZ := Lib.hid (size_of hs.out)
  by_cases hlong : 1024 < S.size
  · have HU : Hid (untxt s = none) := untxt_none (by rw [← HSZ.out]; omega)
    go_enter Tryd.func50, Tryd.ntmps50
    go_wp2
    go_ret2
    exact types_none HU.out (Keep.refl _ _)
  · obtain ⟨i0, hi, hz0, hz1, hz2⟩ := info_parts int_info
    go_enter Tryd.func50, Tryd.ntmps50
    go_wp2
    go_loopw [4, 5, 6, 7] (fun v i _ _ wr => ∃ k : Nat, k ≤ S.size ∧ i = .int .i64 k ∧ (∃ B d, v = .slice B k d ∧ Own wr 3 1 (Fresh w) (.slice B k d) k (ivs ((s.take k).map unlet))) ∧ Hid (((s.take k).all fun c => decide (unlet c ≠ 0)) = true) ∧ Keep NoB w wr)
      (fun _ i _ _ _ => S.size - (intOf i).toNat)
    case atStart => exact ⟨0, Nat.zero_le _, rfl, ⟨none, 0, rfl, Own.nil _ _ _ _⟩, rfl, Keep.refl _ _⟩
    case round =>
      obtain ⟨k, hk, rfl, ⟨B, d, rfl, hO⟩, hall, hK⟩ := hrel
      by_cases hlt : k < S.size
      · have hks : k < s.length := by rw [← HSZ.out]; exact hlt
        have HT := Lib.hid (show s.take (k + 1) = s.take k ++ [s[k]] from List.take_succ_eq_append_getElem hks)
        have HM := Lib.hid (List.getElem_mem hks)
        have HX : Hid (S.data.toList.drop k = s[k] :: s.drop (k + 1)) := by show _ = _; rw [hs.out]; exact List.drop_eq_getElem_cons hks
        generalize s[k] = c at HT HM HX
        have HE : Hid ((S.extract k (k + 1)).toList = [c]) := by
          show _ = _
          rw [ByteArray.toList_eq, ByteArray.data_extract, Array.toList_extract]
          simp [List.extract, HX.out]
        obtain ⟨wo, rfl⟩ : ∃ wo : World, wo = wr := ⟨_, rfl⟩
        go_wp2
        go_loopw [6, 7] (fun t j wr => ∃ m : Nat, 1 ≤ m ∧ m ≤ 5 ∧ j = .int .i64 m ∧ (∃ u, t = .int .i64 u ∧ Hid (u = upto c m)) ∧ Keep NoB wo wr) (fun _ j _ => 5 - (intOf j).toNat)
        case atStart => exact ⟨1, by omega, by omega, rfl, ⟨0, rfl, (upto_one c).symm⟩, Keep.refl _ _⟩
        case round =>
          obtain ⟨m, hm1, hm5, rfl, ⟨u, rfl, hu⟩, hK2⟩ := hrel
          by_cases hm : m < 5
          · by_cases hh : letC (m : Int) = [c]
            · have HN := Lib.hid (upto_hit hm1 hh (by omega))
              have hq : (letC (m : Int) == (S.extract k (k + 1)).toList) = true := by rw [HE.out, hh]; simp
              clear hh
              go_wp2
              go_quiet ((go_at_call 79; exact Calls.quiet_of_same ((rletter_any m _).mono fun _ _ h => ⟨h.1, h.2.symm⟩)))
              go_wp2
              go_roundw
              case rel => exact ⟨m + 1, by omega, by omega, by go_num, ⟨_, rfl, HN.out.symm⟩, hK2.drewN _⟩
              case measure => simp [intOf]; omega
            · have HN := Lib.hid (upto_miss hm1 hh)
              have hq : (letC (m : Int) == (S.extract k (k + 1)).toList) = false := by rw [HE.out, beq_eq_false_iff_ne]; exact hh
              clear hh
              go_wp2
              go_quiet ((go_at_call 79; exact Calls.quiet_of_same ((rletter_any m _).mono fun _ _ h => ⟨h.1, h.2.symm⟩)))
              go_wp2
              go_roundw
              case rel => exact ⟨m + 1, by omega, by omega, by go_num, ⟨u, rfl, hu.out.trans HN.out.symm⟩, hK2.drewN _⟩
              case measure => simp [intOf]; omega
          · obtain rfl : m = 5 := by omega
            have hu' : Hid (u = unlet c) := hu.out.trans (upto_all c)
            have hO2 := hO.keepN hK2
            have hK3 := keepN hK hK2
            by_cases hc : unlet c = 0
            · have HU : Hid (untxt s = none) := untxt_none (fun h => by have := (List.all_eq_true.1 h.2) c HM.out; simp [hc] at this)
              obtain rfl : u = 0 := hu'.out.trans hc
              clear hc
              go_wp2
              go_ret2
              exact types_none HU.out hK3
            · have hall2 : Hid (((s.take (k + 1)).all fun c => decide (unlet c ≠ 0)) = true) := by show _ = _; rw [HT.out, List.all_append, hall.out]; simp [hc]
              have HZ : Hid (ivs ((s.take (k + 1)).map unlet) = ivs ((s.take k).map unlet) ++ [.int .i64 u]) := by show _ = _; rw [HT.out, hu'.out]; simp
              have hq : (u == 0) = false := by rw [beq_eq_false_iff_ne, hu'.out]; exact hc
              clear hc HT hall HM hu hu' HE HX
              go_wp2_with (at_builtin; refine wpList_append_rd _ rfl (.tmp 32) (.tmp 34) _ rfl 3 1 8 i0 _ Tryd.underlying22 hi hz0 hz1 hz2 rfl (by decide) _ k _ _ 1 _ [.int .i64 u] rfl (hO2.1.alloc _) rfl (rd_made rfl rfl) rfl (by simp [Value.oneCell']) (by unfold maxLen; omega) (by omega) ?_; intro B2 d2 w3 hrow3 hg3 hv3; rw [← HZ.out] at hrow3; obtain ⟨hO3, hK4⟩ := own_after hO2.2 (hK3.alloc _) hg3 hv3 hrow3; clear hrow3 hg3 hv3)
              go_roundw
              case rel => exact ⟨k + 1, by omega, by go_num, ⟨B2, d2, rfl, hO3⟩, hall2, hK4⟩
              case measure => simp [intOf]; omega
      · obtain hkn : k = s.length := by rw [← HSZ.out]; omega
        subst hkn
        rw [List.take_length] at hO hall
        have HU : Hid (untxt s = some (s.map unlet)) := untxt_some (by rw [← HSZ.out]; omega) hall.out
        go_wp2
        go_ret2
        exact types_some HU.out hO hK

end Go.Proofs.YtieejecodfeodaaDoor.W

namespace Go.Proofs.YtieejecodfeodaaDoor.S
open Go.RowKit W

def rsL (R : Option (List Int)) : List Int := match R with
  | none => []
  | some x => x
def rsE (R : Option (List Int)) : Int := match R with
  | none => 60
  | some _ => 0
def ReadR (w : World) (R : Option (List Int)) (e : Ending) (w' : World) : Prop :=
  ∃ v, e = .returned (.tuple #[v, .int .i64 (rsE R)]) ∧ Own w' 3 1 (Fresh w) v (rsL R).length (ivs (rsL R)) ∧ Keep NoB w w'
theorem read_none {w w' : World} {R : Option (List Int)} (hR : R = none) (hk : Keep NoB w w') : ReadR w R (.returned (.tuple #[.slice none 0 0, .int .i64 60])) w' := by
  subst hR; exact ⟨_, rfl, Own.nil _ _ _ _, hk⟩
theorem shS_ok {l : List Int} (h : okS l = true) : shS l = txt l := if_pos h
theorem shS_no {l : List Int} (h : okS l = false) : shS l = [] := if_neg (by rw [h]; decide)
theorem shG_ok {a r : List Int} (h : okG a r = true) : shG a r = txt a ++ 62 :: txt r := if_pos h
theorem shG_no {a r : List Int} (h : okG a r = false) : shG a r = [] := if_neg (by rw [h]; decide)
theorem tE_none {s : List UInt8} (h : untxt s = none) : tE s = 20 ∧ tN s = 0 := by unfold tE tN; rw [h]; exact ⟨rfl, rfl⟩
theorem tE_some {s : List UInt8} {l : List Int} (h : untxt s = some l) : tE s = 0 ∧ tL s = l ∧ tN s = l.length := by
  have hl := tL_length s
  have h2 : tL s = l := by unfold tL; rw [h]; rfl
  refine ⟨by unfold tE; rw [h]; rfl, h2, ?_⟩
  rw [← hl, h2]
theorem rdS_1 {s : List UInt8} (h : untxt s = none) : rdS s = none := by unfold rdS; rw [h]
theorem rdS_2 {s : List UInt8} {l : List Int} (h : untxt s = some l) (ho : okS l = false) : rdS s = none := by unfold rdS; rw [h]; exact if_neg (by rw [ho]; decide)
theorem rdS_3 {s : List UInt8} {l : List Int} (h : untxt s = some l) (ho : okS l = true) : rdS s = some l := by unfold rdS; rw [h]; exact if_pos ho
theorem untxt_len {s : List UInt8} {l : List Int} (h : untxt s = some l) : l.length ≤ 1024 := by
  by_cases h2 : s.length ≤ 1024 ∧ (s.all fun c => decide (unlet c ≠ 0)) = true
  · rw [untxt_some h2.1 h2.2] at h
    injection h with h
    rw [← h, List.length_map]; exact h2.1
  · rw [untxt_none h2] at h; cases h
theorem str_mid (a b : List UInt8) : W.str a ++ (⟨#[62]⟩ : ByteArray) ++ W.str b = W.str (a ++ 62 :: b) := by
  apply ByteArray.ext
  simp [ByteArray.data_append]
theorem txt_le (l : List Int) : (txt l).length ≤ 1024 := by
  unfold txt
  split
  · rename_i h
    rw [flat_let_length _ h.2]; exact h.1
  · simp

theorem types_no (S : ByteArray) (s : List UInt8) (w : World) (hL : LetAt w) (hs : Hid (S.data.toList = s)) (h1 : S.size ≤ 9223372036854775807) (h : untxt s = none) :
    Calls Tryd.prog 49 #[.string S] w fun e w' => ∃ B d, e = .returned (.tuple #[.slice B 0 d, .int .i64 20]) ∧ Keep NoB w w' := by
  refine (types_any S s w hL hs h1).mono ?_
  rintro e w' ⟨B, d, rfl, _, hk⟩
  rw [(tE_none h).1, (tE_none h).2]
  exact ⟨B, d, rfl, hk⟩
theorem types_yes (S : ByteArray) (s : List UInt8) (l : List Int) (w : World) (hL : LetAt w) (hs : Hid (S.data.toList = s)) (h1 : S.size ≤ 9223372036854775807) (h : untxt s = some l) :
    Calls Tryd.prog 49 #[.string S] w fun e w' => ∃ B d, e = .returned (.tuple #[.slice B l.length d, .int .i64 0]) ∧ Own w' 3 1 (Fresh w) (.slice B l.length d) l.length (ivs l) ∧ Keep NoB w w' := by
  obtain ⟨e1, e2, e3⟩ := tE_some h
  have := types_any S s w hL hs h1
  unfold TypesR at this
  rw [e1, e2, e3] at this
  exact this

theorem rtypes_no (S : ByteArray) (s : List UInt8) (w : World) (hs : Hid (S.data.toList = s)) (h1 : S.size ≤ 9223372036854775807) (h : untxt s = none) :
    Calls Tryd.prog 50 #[.string S] w fun e w' => ∃ B d, e = .returned (.tuple #[.slice B 0 d, .int .i64 20]) ∧ Keep NoB w w' := by
  refine (rtypes_any S s w hs h1).mono ?_
  rintro e w' ⟨B, d, rfl, _, hk⟩
  rw [(tE_none h).1, (tE_none h).2]
  exact ⟨B, d, rfl, hk⟩
theorem rtypes_yes (S : ByteArray) (s : List UInt8) (l : List Int) (w : World) (hs : Hid (S.data.toList = s)) (h1 : S.size ≤ 9223372036854775807) (h : untxt s = some l) :
    Calls Tryd.prog 50 #[.string S] w fun e w' => ∃ B d, e = .returned (.tuple #[.slice B l.length d, .int .i64 0]) ∧ Own w' 3 1 (Fresh w) (.slice B l.length d) l.length (ivs l) ∧ Keep NoB w w' := by
  obtain ⟨e1, e2, e3⟩ := tE_some h
  have := rtypes_any S s w hs h1
  unfold TypesR at this
  rw [e1, e2, e3] at this
  exact this

set_option maxRecDepth 100000 in
set_option maxHeartbeats 2000000 in
theorem showS_any (A : Option Addr) (l : List Int) (na c : Nat) (w : World) (hL : LetAt w) (hr : Rd w A (ivs l)) (hn : Hid (l.length = na)) (hm : na ≤ 9223372036854775807) :
    Calls Tryd.prog 24 #[.slice A na c] w fun e w' => e = .returned (.string (W.str (shS l))) ∧ Keep NoB w w' := by
  cases ho : okS l
  · have HC := Lib.hid (fun w hr => chkS_any A l na c w hr hn hm 60 (chkS_no ho))
    rw [shS_no ho]
    clear ho
    go_enter Tryd.func24, Tryd.ntmps24
    go_wp2_with (go_at_call 22; refine (HC.out _ hr).mono ?_; rintro e w1 ⟨rfl, k1⟩)
    go_ret
    exact ⟨rfl, k1⟩
  · have HC := Lib.hid (fun w hr => chkS_any A l na c w hr hn hm 0 (chkS_ok ho))
    have HT := Lib.hid (fun w hL hr => text_any A l na c w hL hr hn hm)
    rw [shS_ok ho]
    clear ho
    go_enter Tryd.func24, Tryd.ntmps24
    go_wp2_with fail
    refine (HC.out _ hr).mono ?_
    rintro e w1 ⟨rfl, k1⟩
    go_wp2_with fail
    refine (HT.out _ (hL.keep k1) (hr.keepN k1)).mono ?_
    rintro e w2 ⟨rfl, k2⟩
    go_wp2
    go_ret
    exact ⟨rfl, keepN k1 k2⟩

set_option maxRecDepth 100000 in
set_option maxHeartbeats 2000000 in
theorem rshowS_any (A : Option Addr) (l : List Int) (na c : Nat) (w : World) (hr : Rd w A (ivs l)) (hn : Hid (l.length = na)) (hm : na ≤ 9223372036854775807) :
    Calls Tryd.prog 25 #[.slice A na c] w fun e w' => e = .returned (.string (W.str (shS l))) ∧ Keep NoB w w' := by
  cases ho : okS l
  · have HC := Lib.hid (fun w hr => rchkS_any A l na c w hr hn hm 60 (chkS_no ho))
    rw [shS_no ho]
    clear ho
    go_enter Tryd.func25, Tryd.ntmps25
    go_wp2_with (go_at_call 23; refine (HC.out _ hr).mono ?_; rintro e w1 ⟨rfl, k1⟩)
    go_ret
    exact ⟨rfl, k1⟩
  · have HC := Lib.hid (fun w hr => rchkS_any A l na c w hr hn hm 0 (chkS_ok ho))
    have HT := Lib.hid (fun w hr => rtext_any A l na c w hr hn hm)
    rw [shS_ok ho]
    clear ho
    go_enter Tryd.func25, Tryd.ntmps25
    go_wp2_with fail
    refine (HC.out _ hr).mono ?_
    rintro e w1 ⟨rfl, k1⟩
    go_wp2_with fail
    refine (HT.out _ (hr.keepN k1)).mono ?_
    rintro e w2 ⟨rfl, k2⟩
    go_wp2
    go_ret
    exact ⟨rfl, keepN k1 k2⟩

set_option maxRecDepth 100000 in
set_option maxHeartbeats 2000000 in
theorem readS_any (S : ByteArray) (s : List UInt8) (w : World) (hL : LetAt w) (hs : Hid (S.data.toList = s)) (h1 : S.size ≤ 9223372036854775807) :
    Calls Tryd.prog 18 #[.string S] w (ReadR w (rdS s)) := by
  cases hu : untxt s with
  | none =>
    have HT := Lib.hid (types_no S s w hL hs h1 hu)
    have HD := Lib.hid (rdS_1 hu)
    clear hu
    go_enter Tryd.func18, Tryd.ntmps18
    go_wp2_with fail
    refine HT.out.mono ?_
    rintro e w1 ⟨B, d, rfl, k1⟩
    go_wp2
    go_ret2
    exact read_none HD.out k1
  | some l =>
    have HT := Lib.hid (types_yes S s l w hL hs h1 hu)
    have hlen := untxt_len hu
    cases ho : okS l
    · have HD := Lib.hid (rdS_2 hu ho)
      have HI := Lib.hid (fun A c w hr => ifS_no A l l.length c w hr rfl (by omega) ho)
      clear hu ho hlen
      go_enter Tryd.func18, Tryd.ntmps18
      go_wp2_with fail
      refine HT.out.mono ?_
      rintro e w1 ⟨B, d, rfl, hO, k1⟩
      have r1 : Rd w1 B (ivs l) := by
        obtain ⟨A', c', e, hr⟩ := own_rdI hO
        cases e; exact hr
      go_wp2_with fail
      refine (HI.out _ _ _ r1).mono ?_
      rintro e w2 ⟨rfl, k2⟩
      go_wp2
      go_ret2
      exact read_none HD.out (keepN k1 k2)
    · have HD := Lib.hid (rdS_3 hu ho)
      have HI := Lib.hid (fun A c w hr => ifS_yes A l l.length c w hr rfl (by omega) ho)
      clear hu ho hlen
      go_enter Tryd.func18, Tryd.ntmps18
      go_wp2_with fail
      refine HT.out.mono ?_
      rintro e w1 ⟨B, d, rfl, hO, k1⟩
      have r1 : Rd w1 B (ivs l) := by
        obtain ⟨A', c', e, hr⟩ := own_rdI hO
        cases e; exact hr
      have HO := Lib.hid hO
      clear hO
      go_wp2_with fail
      refine (HI.out _ _ _ r1).mono ?_
      rintro e w2 ⟨rfl, k2⟩
      go_wp2
      go_ret2
      rw [HD.out]
      exact ⟨_, rfl, HO.out.keepN k2, keepN k1 k2⟩

set_option maxRecDepth 100000 in
set_option maxHeartbeats 2000000 in
theorem rreadS_any (S : ByteArray) (s : List UInt8) (w : World) (hs : Hid (S.data.toList = s)) (h1 : S.size ≤ 9223372036854775807) :
    Calls Tryd.prog 19 #[.string S] w (ReadR w (rdS s)) := by
  cases hu : untxt s with
  | none =>
    have HT := Lib.hid (rtypes_no S s w hs h1 hu)
    have HD := Lib.hid (rdS_1 hu)
    clear hu
    go_enter Tryd.func19, Tryd.ntmps19
    go_wp2_with fail
    refine HT.out.mono ?_
    rintro e w1 ⟨B, d, rfl, k1⟩
    go_wp2
    go_ret2
    exact read_none HD.out k1
  | some l =>
    have HT := Lib.hid (rtypes_yes S s l w hs h1 hu)
    have hlen := untxt_len hu
    have HI : Hid ((okS l = false → rdS s = none ∧ ∀ A c w, Rd w A (ivs l) → Calls Tryd.prog 23 #[.slice A l.length c] w fun e w' => e = .returned (.int .i64 60) ∧ Keep NoB w w') ∧ (okS l = true → rdS s = some l ∧ ∀ A c w, Rd w A (ivs l) → Calls Tryd.prog 23 #[.slice A l.length c] w fun e w' => e = .returned (.int .i64 0) ∧ Keep NoB w w')) :=
      ⟨fun ho => ⟨rdS_2 hu ho, fun A c w hr => rchkS_any A l l.length c w hr rfl (by omega) 60 (chkS_no ho)⟩, fun ho => ⟨rdS_3 hu ho, fun A c w hr => rchkS_any A l l.length c w hr rfl (by omega) 0 (chkS_ok ho)⟩⟩
    clear hu hlen
    go_enter Tryd.func19, Tryd.ntmps19
    go_wp2_with fail
    refine HT.out.mono ?_
    rintro e w1 ⟨B, d, rfl, hO, k1⟩
    have r1 : Rd w1 B (ivs l) := by
      obtain ⟨A', c', e, hr⟩ := own_rdI hO
      cases e; exact hr
    have HO := Lib.hid hO
    clear hO
    cases ho : okS l
    · obtain ⟨hD, hC⟩ := HI.out.1 ho
      have HD := Lib.hid hD
      have HC := Lib.hid hC
      clear hD hC HI ho
      go_wp2_with (go_at_call 23; refine (HC.out _ _ _ r1).mono ?_; rintro e w2 ⟨rfl, k2⟩)
      go_ret2
      exact read_none HD.out (keepN k1 k2)
    · obtain ⟨hD, hC⟩ := HI.out.2 ho
      have HD := Lib.hid hD
      have HC := Lib.hid hC
      clear hD hC HI ho
      go_wp2_with (go_at_call 23; refine (HC.out _ _ _ r1).mono ?_; rintro e w2 ⟨rfl, k2⟩)
      go_ret2
      rw [HD.out]
      exact ⟨_, rfl, HO.out.keepN k2, keepN k1 k2⟩

set_option maxRecDepth 100000 in
set_option maxHeartbeats 4000000 in
theorem showG_any (A : Option Addr) (a : List Int) (na ca : Nat) (B : Option Addr) (r : List Int) (nb cb : Nat) (w : World) (hL : LetAt w) (ha : Rd w A (ivs a)) (hr : Rd w B (ivs r)) (hna : Hid (a.length = na)) (hnb : Hid (r.length = nb)) (hn6 : na ≤ 4611686018427387903) (hm6 : nb ≤ 4611686018427387903) :
    Calls Tryd.prog 36 #[.agg #[.slice A na ca, .slice B nb cb]] w fun e w' => e = .returned (.string (W.str (shG a r))) ∧ Keep NoB w w' := by
  have bx := Blk.new w 26 #[.slice A na ca, .slice B nb cb]
  have k0 := (Keep.refl NoB w).alloc (.cells #[.slice A na ca, .slice B nb cb] 26)
  cases ho : okG a r
  · have HC := Lib.hid (fun w ha hr => chkG_any A a na ca B r nb cb w ha hr hna hnb hn6 hm6 61 (chkG_no ho))
    rw [shG_no ho]
    clear ho
    go_enter Tryd.func36, Tryd.ntmps36
    go_wp2_with (go_at_call 34; refine (HC.out _ (ha.keepN k0) (hr.keepN k0)).mono ?_; rintro e w1 ⟨rfl, k1⟩)
    go_ret
    exact ⟨rfl, keepN k0 k1⟩
  · have HC := Lib.hid (fun w ha hr => chkG_any A a na ca B r nb cb w ha hr hna hnb hn6 hm6 0 (chkG_ok ho))
    have HTa := Lib.hid (fun w hL hr => text_any A a na ca w hL hr hna (by omega))
    have HTb := Lib.hid (fun w hL hr => text_any B r nb cb w hL hr hnb (by omega))
    rw [shG_ok ho, ← str_mid]
    have q1 : (W.str (txt a)).size ≤ 1024 := by rw [size_of (s := txt a) (by simp)]; exact txt_le a
    have q2 : (W.str (txt r)).size ≤ 1024 := by rw [size_of (s := txt r) (by simp)]; exact txt_le r
    generalize W.str (txt a) = S1 at HTa q1 ⊢
    generalize W.str (txt r) = S2 at HTb q2 ⊢
    have q3 : ¬ 9223372036854775807 < S1.size + 1 := by omega
    have q4 : ¬ 9223372036854775807 < S1.size + 1 + S2.size := by omega
    have HL := Lib.hid hL
    clear ho hL
    go_enter Tryd.func36, Tryd.ntmps36
    go_wp2_with fail
    refine (HC.out _ (ha.keepN k0) (hr.keepN k0)).mono ?_
    rintro e w2 ⟨rfl, k1⟩
    obtain ⟨c0, c1⟩ := blk2 (bx.keep k1 id)
    have gK := keepN k0 k1
    have ha2 := ha.keepN gK
    have hr2 := hr.keepN gK
    clear bx k0 k1 ha hr HC
    go_wp2
    refine wp_region_sh ((0, false) :: (1, false) :: (2, false) :: (3, false) :: (4, false) :: (5, false) :: (6, false) :: (7, false) :: (8, false) :: []) (fun w' => Keep NoB w2 w') (by kernel_rfl) (by kernel_rfl) (by rfl) (by kernel_rfl) (stable_keep w2) (Keep.refl NoB w2).drew ?_
    refine shM_step rfl rfl rfl (by rfl) (by rfl) ?_
    apply Exists.intro
    refine ⟨fun z K hK => ?_, ?_, ?_⟩
    · go_big_quiet_op
      exact hK _ rfl
    · kernel_rfl
    refine shM_step rfl rfl rfl (by rfl) (by rfl) ?_
    apply Exists.intro
    refine ⟨fun z K hK => ?_, ?_, ?_⟩
    · have d0 : ∀ y : KW z.w, y.w.cell? ⟨w.heap.size, 0, none⟩ = some (.slice A na ca) := fun y => Keep.cell (keepN z.has y.keep) c0 id
      go_big_quiet_op
      exact hK _ rfl
    · kernel_rfl
    refine shM_step rfl rfl rfl (by rfl) (by rfl) ?_
    apply Exists.intro
    refine ⟨fun z K hK => ?_, ?_, ?_⟩
    · go_big_quiet_op
      apply Exists.intro
      refine ⟨fun y => ?_, ?_⟩
      · go_at_call 54
        exact kept_of (HTa.out _ (LetAt.keep HL.out (keepN gK (keepN z.has y.keep))) (ha2.keepN (keepN z.has y.keep)))
      · exact hK _ rfl
    · kernel_rfl
    refine shM_step rfl rfl rfl (by rfl) (by rfl) ?_
    apply Exists.intro
    refine ⟨fun z K hK => ?_, ?_, ?_⟩
    · go_big_quiet_op
      exact hK _ rfl
    · kernel_rfl
    refine shM_step rfl rfl rfl (by rfl) (by rfl) ?_
    apply Exists.intro
    refine ⟨fun z K hK => ?_, ?_, ?_⟩
    · go_big_quiet_op
      exact hK _ rfl
    · kernel_rfl
    refine shM_step rfl rfl rfl (by rfl) (by rfl) ?_
    apply Exists.intro
    refine ⟨fun z K hK => ?_, ?_, ?_⟩
    · have d1 : ∀ y : KW z.w, y.w.cell? ⟨w.heap.size, 1, none⟩ = some (.slice B nb cb) := fun y => Keep.cell (keepN z.has y.keep) c1 id
      go_big_quiet_op
      exact hK _ rfl
    · kernel_rfl
    refine shM_step rfl rfl rfl (by rfl) (by rfl) ?_
    apply Exists.intro
    refine ⟨fun z K hK => ?_, ?_, ?_⟩
    · go_big_quiet_op
      apply Exists.intro
      refine ⟨fun y => ?_, ?_⟩
      · go_at_call 54
        exact kept_of (HTb.out _ (LetAt.keep HL.out (keepN gK (keepN z.has y.keep))) (hr2.keepN (keepN z.has y.keep)))
      · exact hK _ rfl
    · kernel_rfl
    refine shM_step rfl rfl rfl (by rfl) (by rfl) ?_
    apply Exists.intro
    refine ⟨fun z K hK => ?_, ?_, ?_⟩
    · go_big_quiet_op
      exact hK _ rfl
    · kernel_rfl
    refine shM_step rfl rfl rfl (by rfl) (by rfl) ?_
    apply Exists.intro
    refine ⟨fun z K hK => ?_, ?_, ?_⟩
    · go_big_quiet_op
      exact hK _ rfl
    · kernel_rfl
    refine shM_nil (fun z => ?_)
    have hz := z.has
    generalize z.w = w6 at hz ⊢
    go_wp2
    go_ret
    exact ⟨rfl, keepN gK hz⟩

set_option maxRecDepth 100000 in
set_option maxHeartbeats 4000000 in
theorem rshowG_any (A : Option Addr) (a : List Int) (na ca : Nat) (B : Option Addr) (r : List Int) (nb cb : Nat) (w : World) (ha : Rd w A (ivs a)) (hr : Rd w B (ivs r)) (hna : Hid (a.length = na)) (hnb : Hid (r.length = nb)) (hn6 : na ≤ 4611686018427387903) (hm6 : nb ≤ 4611686018427387903) :
    Calls Tryd.prog 37 #[.agg #[.slice A na ca, .slice B nb cb]] w fun e w' => e = .returned (.string (W.str (shG a r))) ∧ Keep NoB w w' := by
  have bx := Blk.new w 26 #[.slice A na ca, .slice B nb cb]
  have k0 := (Keep.refl NoB w).alloc (.cells #[.slice A na ca, .slice B nb cb] 26)
  cases ho : okG a r
  · have HC := Lib.hid (fun w ha hr => rchkG_any A a na ca B r nb cb w ha hr hna hnb hn6 hm6 61 (chkG_no ho))
    rw [shG_no ho]
    clear ho
    go_enter Tryd.func37, Tryd.ntmps37
    go_wp2_with (go_at_call 35; refine (HC.out _ (ha.keepN k0) (hr.keepN k0)).mono ?_; rintro e w1 ⟨rfl, k1⟩)
    go_ret
    exact ⟨rfl, keepN k0 k1⟩
  · have HC := Lib.hid (fun w ha hr => rchkG_any A a na ca B r nb cb w ha hr hna hnb hn6 hm6 0 (chkG_ok ho))
    have HTa := Lib.hid (fun w hr => rtext_any A a na ca w hr hna (by omega))
    have HTb := Lib.hid (fun w hr => rtext_any B r nb cb w hr hnb (by omega))
    rw [shG_ok ho, ← str_mid]
    have q1 : (W.str (txt a)).size ≤ 1024 := by rw [size_of (s := txt a) (by simp)]; exact txt_le a
    have q2 : (W.str (txt r)).size ≤ 1024 := by rw [size_of (s := txt r) (by simp)]; exact txt_le r
    generalize W.str (txt a) = S1 at HTa q1 ⊢
    generalize W.str (txt r) = S2 at HTb q2 ⊢
    have q3 : ¬ 9223372036854775807 < S1.size + 1 := by omega
    have q4 : ¬ 9223372036854775807 < S1.size + 1 + S2.size := by omega
    clear ho
    go_enter Tryd.func37, Tryd.ntmps37
    go_wp2_with fail
    refine (HC.out _ (ha.keepN k0) (hr.keepN k0)).mono ?_
    rintro e w2 ⟨rfl, k1⟩
    obtain ⟨c0, c1⟩ := blk2 (bx.keep k1 id)
    have gK := keepN k0 k1
    have ha2 := ha.keepN gK
    have hr2 := hr.keepN gK
    clear bx k0 k1 ha hr HC
    go_wp2
    refine wp_region_sh ((0, false) :: (1, false) :: (2, false) :: (3, false) :: (4, false) :: (5, false) :: (6, false) :: (7, false) :: (8, false) :: []) (fun w' => Keep NoB w2 w') (by kernel_rfl) (by kernel_rfl) (by rfl) (by kernel_rfl) (stable_keep w2) (Keep.refl NoB w2).drew ?_
    refine shM_step rfl rfl rfl (by rfl) (by rfl) ?_
    apply Exists.intro
    refine ⟨fun z K hK => ?_, ?_, ?_⟩
    · go_big_quiet_op
      exact hK _ rfl
    · kernel_rfl
    refine shM_step rfl rfl rfl (by rfl) (by rfl) ?_
    apply Exists.intro
    refine ⟨fun z K hK => ?_, ?_, ?_⟩
    · have d0 : ∀ y : KW z.w, y.w.cell? ⟨w.heap.size, 0, none⟩ = some (.slice A na ca) := fun y => Keep.cell (keepN z.has y.keep) c0 id
      go_big_quiet_op
      exact hK _ rfl
    · kernel_rfl
    refine shM_step rfl rfl rfl (by rfl) (by rfl) ?_
    apply Exists.intro
    refine ⟨fun z K hK => ?_, ?_, ?_⟩
    · go_big_quiet_op
      apply Exists.intro
      refine ⟨fun y => ?_, ?_⟩
      · go_at_call 55
        exact kept_of (HTa.out _ (ha2.keepN (keepN z.has y.keep)))
      · exact hK _ rfl
    · kernel_rfl
    refine shM_step rfl rfl rfl (by rfl) (by rfl) ?_
    apply Exists.intro
    refine ⟨fun z K hK => ?_, ?_, ?_⟩
    · go_big_quiet_op
      exact hK _ rfl
    · kernel_rfl
    refine shM_step rfl rfl rfl (by rfl) (by rfl) ?_
    apply Exists.intro
    refine ⟨fun z K hK => ?_, ?_, ?_⟩
    · go_big_quiet_op
      exact hK _ rfl
    · kernel_rfl
    refine shM_step rfl rfl rfl (by rfl) (by rfl) ?_
    apply Exists.intro
    refine ⟨fun z K hK => ?_, ?_, ?_⟩
    · have d1 : ∀ y : KW z.w, y.w.cell? ⟨w.heap.size, 1, none⟩ = some (.slice B nb cb) := fun y => Keep.cell (keepN z.has y.keep) c1 id
      go_big_quiet_op
      exact hK _ rfl
    · kernel_rfl
    refine shM_step rfl rfl rfl (by rfl) (by rfl) ?_
    apply Exists.intro
    refine ⟨fun z K hK => ?_, ?_, ?_⟩
    · go_big_quiet_op
      apply Exists.intro
      refine ⟨fun y => ?_, ?_⟩
      · go_at_call 55
        exact kept_of (HTb.out _ (hr2.keepN (keepN z.has y.keep)))
      · exact hK _ rfl
    · kernel_rfl
    refine shM_step rfl rfl rfl (by rfl) (by rfl) ?_
    apply Exists.intro
    refine ⟨fun z K hK => ?_, ?_, ?_⟩
    · go_big_quiet_op
      exact hK _ rfl
    · kernel_rfl
    refine shM_step rfl rfl rfl (by rfl) (by rfl) ?_
    apply Exists.intro
    refine ⟨fun z K hK => ?_, ?_, ?_⟩
    · go_big_quiet_op
      exact hK _ rfl
    · kernel_rfl
    refine shM_nil (fun z => ?_)
    have hz := z.has
    generalize z.w = w6 at hz ⊢
    go_wp2
    go_ret
    exact ⟨rfl, keepN gK hz⟩

end Go.Proofs.YtieejecodfeodaaDoor.S

namespace Go.Proofs.YtieejecodfeodaaDoor.S
open Go.RowKit W

abbrev Sp := Option (List Int × List Int)
def spA (R : Sp) : List Int := match R with
  | none => []
  | some x => x.1
def spB (R : Sp) : List Int := match R with
  | none => []
  | some x => x.2
def spE (R : Sp) : Int := match R with
  | none => 61
  | some _ => 0
/-- How ReadSignature ends. -/
def SgT (w : World) (R : Sp) (e : Ending) (w' : World) : Prop :=
  ∃ v1 v2, e = .returned (.tuple #[.agg #[v1, v2], .int .i64 (spE R)]) ∧ Own w' 3 1 (Fresh w) v1 (spA R).length (ivs (spA R)) ∧ Own w' 3 1 (Fresh w) v2 (spB R).length (ivs (spB R)) ∧ Keep NoB w w'
theorem sgt_none {w w' : World} {R : Sp} (hR : R = none) (hk : Keep NoB w w') : SgT w R (.returned (.tuple #[.agg #[.slice none 0 0, .slice none 0 0], .int .i64 61])) w' := by
  subst hR
  exact ⟨_, _, rfl, Own.nil _ _ _ _, Own.nil _ _ _ _, hk⟩
theorem rdG_0 {s : List UInt8} (h : ¬ arr s < s.length) : rdG s = none := if_neg h
theorem rdG_1 {s : List UInt8} (h : arr s < s.length) (h1 : untxt (s.take (arr s)) = none) : rdG s = none := by unfold rdG; rw [if_pos h, h1]
theorem rdG_2 {s : List UInt8} {a : List Int} (h : arr s < s.length) (h1 : untxt (s.take (arr s)) = some a) (h2 : untxt (s.drop (arr s + 1)) = none) : rdG s = none := by unfold rdG; rw [if_pos h, h1, h2]
theorem rdG_3 {s : List UInt8} {a r : List Int} (h : arr s < s.length) (h1 : untxt (s.take (arr s)) = some a) (h2 : untxt (s.drop (arr s + 1)) = some r) (ho : okG a r = false) : rdG s = none := by
  unfold rdG; rw [if_pos h, h1, h2]; exact if_neg (by rw [ho]; decide)
theorem rdG_4 {s : List UInt8} {a r : List Int} (h : arr s < s.length) (h1 : untxt (s.take (arr s)) = some a) (h2 : untxt (s.drop (arr s + 1)) = some r) (ho : okG a r = true) : rdG s = some (a, r) := by
  unfold rdG; rw [if_pos h, h1, h2]; exact if_pos ho
theorem str_fit {s l : List UInt8} (h : s.length ≤ 9223372036854775807) (hl : l.length ≤ s.length) : (W.str l).size ≤ 9223372036854775807 := by rw [size_of (s := l) (by simp)]; omega
theorem size_alloc_lt (w : World) (o : Obj) : w.heap.size < (w.alloc o).heap.size := by simp

set_option maxRecDepth 100000 in
set_option maxHeartbeats 4000000 in
theorem readG_any (S : ByteArray) (s : List UInt8) (w : World) (hL0 : LetAt w) (hs : Hid (S.data.toList = s)) (h1 : S.size ≤ 9223372036854775807) :
    Calls Tryd.prog 31 #[.string S] w (SgT w (rdG s)) := by
  have hsl : s.length ≤ 9223372036854775807 := by rw [← size_of hs.out]; exact h1
  have HH := Lib.hid (fun w => halves_any S s w hs h1)
  have bz := Blk.new w 26 #[.slice none 0 0, .slice none 0 0]
  have k0 := (Keep.refl NoB w).alloc (.cells #[.slice none 0 0, .slice none 0 0] 26)
  have hlt0 := Lib.hid (size_alloc_lt w (.cells #[.slice none 0 0, .slice none 0 0] 26))
  have HL := Lib.hid hL0
  clear hL0
  by_cases hlt : arr s < s.length
  · have HZ := Lib.hid (fun w => (HH.out w).mono (R' := fun e w' => e = .returned (.tuple #[.string (W.str (s.take (arr s))), .string (W.str (s.drop (arr s + 1))), .bool true]) ∧ Keep NoB w w') (fun e w' ⟨h, hk⟩ => ⟨h.elim (fun h => h.2) (fun h => absurd hlt h.1), hk⟩))
    have hl1 : (W.str (s.take (arr s))).size ≤ 9223372036854775807 := str_fit hsl (by simp; omega)
    have hl2 : (W.str (s.drop (arr s + 1))).size ≤ 9223372036854775807 := str_fit hsl (by simp)
    cases hu : untxt (s.take (arr s)) with
    | none =>
      have HT := Lib.hid (fun w hL => types_no (W.str (s.take (arr s))) (s.take (arr s)) w hL rfl hl1 hu)
      have HD := Lib.hid (rdG_1 hlt hu)
      generalize W.str (s.take (arr s)) = SA at HZ HT
      generalize W.str (s.drop (arr s + 1)) = SB at HZ
      clear HH hl1 hl2 hu hlt hsl
      go_enter Tryd.func31, Tryd.ntmps31
      go_wp2_with fail
      refine (HZ.out _).mono ?_
      rintro e w1 ⟨rfl, k1⟩
      have bz1 := bz.keep k1 id
      have gK := keepN k0 k1
      clear bz k0 k1
      go_wp2_with fail
      refine (HT.out _ (HL.out.keep gK)).mono ?_
      rintro e w2 ⟨B1, d1, rfl, k2⟩
      have bz2 := bz1.keep k2 id
      obtain ⟨z0, z1⟩ := blk2 bz2
      have fz := fun i => bz2.frozen i
      have HBZ := Lib.hid (fun u v => blk_put2 bz2 u v)
      replace gK := keepN gK k2
      clear bz1 bz2 k2
      go_wp2
      refine bodyPost_ret (ret_sig rfl rfl (HBZ.out _ _) rfl) rfl ?_
      exact sgt_none HD.out (keep_put2 gK (Nat.le_refl _) _ _)
    | some a =>
      have HT := Lib.hid (fun w hL => types_yes (W.str (s.take (arr s))) (s.take (arr s)) a w hL rfl hl1 hu)
      have hla := untxt_len hu
      cases hv : untxt (s.drop (arr s + 1)) with
      | none =>
        have HT2 := Lib.hid (fun w hL => types_no (W.str (s.drop (arr s + 1))) (s.drop (arr s + 1)) w hL rfl hl2 hv)
        have HD := Lib.hid (rdG_2 hlt hu hv)
        generalize W.str (s.take (arr s)) = SA at HZ HT
        generalize W.str (s.drop (arr s + 1)) = SB at HZ HT2
        clear HH hl1 hl2 hu hv hlt hsl hla
        go_enter Tryd.func31, Tryd.ntmps31
        go_wp2_with fail
        refine (HZ.out _).mono ?_
        rintro e w1 ⟨rfl, k1⟩
        have bz1 := bz.keep k1 id
        have gK := keepN k0 k1
        clear bz k0 k1
        go_wp2_with fail
        refine (HT.out _ (HL.out.keep gK)).mono ?_
        rintro e w2 ⟨B1, d1, rfl, hO1, k2⟩
        replace bz1 := bz1.keep k2 id
        replace gK := keepN gK k2
        clear hO1 k2
        go_wp2_with fail
        refine (HT2.out _ (HL.out.keep gK)).mono ?_
        rintro e w3 ⟨B2, d2, rfl, k3⟩
        have bz2 := bz1.keep k3 id
        obtain ⟨z0, z1⟩ := blk2 bz2
        have fz := fun i => bz2.frozen i
        have HBZ := Lib.hid (fun u v => blk_put2 bz2 u v)
        replace gK := keepN gK k3
        clear bz1 bz2 k3
        go_wp2
        refine bodyPost_ret (ret_sig rfl rfl (HBZ.out _ _) rfl) rfl ?_
        exact sgt_none HD.out (keep_put2 gK (Nat.le_refl _) _ _)
      | some r =>
        have HT2 := Lib.hid (fun w hL => types_yes (W.str (s.drop (arr s + 1))) (s.drop (arr s + 1)) r w hL rfl hl2 hv)
        have hlb := untxt_len hv
        have HI : Hid ((okG a r = false → rdG s = none ∧ ∀ (A : Option Addr) (ca : Nat) (B : Option Addr) (cb : Nat) (w : World), Rd w A (ivs a) → Rd w B (ivs r) → Calls Tryd.prog 58 #[.agg #[.slice A a.length ca, .slice B r.length cb]] w fun e w' => e = .returned (.tuple #[.agg #[.slice none 0 0, .slice none 0 0], .int .i64 61]) ∧ Keep NoB w w') ∧
          (okG a r = true → rdG s = some (a, r) ∧ ∀ (A : Option Addr) (ca : Nat) (B : Option Addr) (cb : Nat) (w : World), Rd w A (ivs a) → Rd w B (ivs r) → Calls Tryd.prog 58 #[.agg #[.slice A a.length ca, .slice B r.length cb]] w fun e w' => e = .returned (.tuple #[.agg #[.slice A a.length ca, .slice B r.length cb], .int .i64 0]) ∧ Keep NoB w w')) :=
          ⟨fun ho => ⟨rdG_3 hlt hu hv ho, fun A ca B cb w ha hr => ifG_no A a _ ca B r _ cb w ha hr rfl rfl (by omega) (by omega) ho⟩, fun ho => ⟨rdG_4 hlt hu hv ho, fun A ca B cb w ha hr => ifG_yes A a _ ca B r _ cb w ha hr rfl rfl (by omega) (by omega) ho⟩⟩
        generalize W.str (s.take (arr s)) = SA at HZ HT
        generalize W.str (s.drop (arr s + 1)) = SB at HZ HT2
        clear HH hl1 hl2 hu hv hlt hsl hla hlb
        go_enter Tryd.func31, Tryd.ntmps31
        go_wp2_with fail
        refine (HZ.out _).mono ?_
        rintro e w1 ⟨rfl, k1⟩
        have bz1 := bz.keep k1 id
        have gK := keepN k0 k1
        have hs1 := bz1.lt
        clear bz k0 k1
        go_wp2_with fail
        refine (HT.out _ (HL.out.keep gK)).mono ?_
        rintro e w2 ⟨B1, d1, rfl, hO1, k2⟩
        replace bz1 := bz1.keep k2 id
        replace hO1 := hO1.mono (O' := fun k => w.heap.size < k) (fun k hf _ => by unfold Fresh at hf; omega)
        replace gK := keepN gK k2
        have hs2 := bz1.lt
        clear k2
        go_wp2_with fail
        refine (HT2.out _ (HL.out.keep gK)).mono ?_
        rintro e w3 ⟨B2, d2, rfl, hO2, k3⟩
        replace bz1 := bz1.keep k3 id
        replace hO2 := hO2.mono (O' := fun k => w.heap.size < k) (fun k hf _ => by unfold Fresh at hf; omega)
        replace hO1 := hO1.keepN k3
        replace gK := keepN gK k3
        have r1 : Rd w3 B1 (ivs a) := by
          obtain ⟨A', c', e, hr⟩ := own_rdI hO1
          cases e; exact hr
        have r2 : Rd w3 B2 (ivs r) := by
          obtain ⟨A', c', e, hr⟩ := own_rdI hO2
          cases e; exact hr
        clear k3 HT HT2 HZ
        cases ho : okG a r
        · obtain ⟨hD, hI⟩ := HI.out.1 ho
          have HD := Lib.hid hD
          have HI2 := Lib.hid hI
          clear hD hI HI ho hO1 hO2
          go_wp2_with fail
          refine (HI2.out _ _ _ _ _ r1 r2).mono ?_
          rintro e w4 ⟨rfl, k4⟩
          have bz2 := bz1.keep k4 id
          obtain ⟨z0, z1⟩ := blk2 bz2
          have fz := fun i => bz2.frozen i
          have HBZ := Lib.hid (fun u v => blk_put2 bz2 u v)
          replace gK := keepN gK k4
          clear bz1 bz2 k4 r1 r2 HI2
          go_wp2
          refine bodyPost_ret (ret_sig rfl rfl (HBZ.out _ _) rfl) rfl ?_
          exact sgt_none HD.out (keep_put2 gK (Nat.le_refl _) _ _)
        · obtain ⟨hD, hI⟩ := HI.out.2 ho
          have HD := Lib.hid hD
          have HI2 := Lib.hid hI
          clear hD hI HI ho
          go_wp2_with fail
          refine (HI2.out _ _ _ _ _ r1 r2).mono ?_
          rintro e w4 ⟨rfl, k4⟩
          have bz2 := bz1.keep k4 id
          obtain ⟨z0, z1⟩ := blk2 bz2
          have fz := fun i => bz2.frozen i
          have HBZ := Lib.hid (fun u v => blk_put2 bz2 u v)
          have HP1 := Lib.hid (own_put2 (hO1.keepN k4) (Nat.le_refl _) (.slice B1 a.length d1) (.slice B2 r.length d2))
          have HP2 := Lib.hid (own_put2 (hO2.keepN k4) (Nat.le_refl _) (.slice B1 a.length d1) (.slice B2 r.length d2))
          replace gK := keepN gK k4
          clear bz1 bz2 k4 r1 r2 HI2 hO1 hO2
          go_wp2
          refine bodyPost_ret (ret_sig rfl rfl (HBZ.out _ _) rfl) rfl ?_
          rw [HD.out]
          exact ⟨_, _, rfl, HP1.out, HP2.out, keep_put2 gK (Nat.le_refl _) _ _⟩
  · have HZ := Lib.hid (fun w => (HH.out w).mono (R' := fun e w' => e = .returned (.tuple #[.string ⟨#[]⟩, .string ⟨#[]⟩, .bool false]) ∧ Keep NoB w w') (fun e w' ⟨h, hk⟩ => ⟨h.elim (fun h => absurd h.1 hlt) (fun h => h.2), hk⟩))
    have HD := Lib.hid (rdG_0 hlt)
    clear HH hlt hsl
    go_enter Tryd.func31, Tryd.ntmps31
    go_wp2_with fail
    refine (HZ.out _).mono ?_
    rintro e w1 ⟨rfl, k1⟩
    have bz1 := bz.keep k1 id
    obtain ⟨z0, z1⟩ := blk2 bz1
    have fz := fun i => bz1.frozen i
    have HBZ := Lib.hid (fun u v => blk_put2 bz1 u v)
    have gK := keepN k0 k1
    clear bz k0 k1 bz1
    go_wp2
    refine bodyPost_ret (ret_sig rfl rfl (HBZ.out _ _) rfl) rfl ?_
    exact sgt_none HD.out (keep_put2 gK (Nat.le_refl _) _ _)

theorem sig_info : (Tryd.prog.info? 26).map (fun i => (i.zero, i.size, i.bytes)) = some (some (.agg #[.slice none 0 0, .slice none 0 0]), 2, 48) := by kernel_rfl
theorem ret_sig1 {fn : Func} {p : Tmp} {tmps : Array Value} {w : World} {g : Nat} {u v : Value} (h : fn.results = #[.cell p 26]) (hp : tmps.getD p undef = .pointer (some ⟨g, 0, none⟩)) (hb : Blk w g 26 #[u, v]) :
    (results fn tmps).run Tryd.prog w = .ok (.agg #[u, v]) w :=
  results_cell_row h tmps w g 26 #[u, v] (0, 0) _ hp hb Tryd.underlying26 rfl sig_size
theorem blk_put0 {W : World} {g : Nat} {x y : Value} (h : Blk W g 26 #[x, y]) (u : Value) : Blk (W.setCell ⟨g, 0, none⟩ u) g 26 #[u, y] := by
  have := h.put 0 u
  simpa using this
theorem blk_put1 {W : World} {g : Nat} {x y : Value} (h : Blk W g 26 #[x, y]) (u : Value) : Blk (W.setCell ⟨g, 1, none⟩ u) g 26 #[x, u] := by
  have := h.put 1 u
  simpa using this
theorem own_fresh {w W : World} {g n : Nat} {v : Value} {xs : List Value} (h : Own W 3 1 (fun k => g < k) v n xs) (hg : w.heap.size ≤ g) : Own W 3 1 (Fresh w) v n xs := h.mono (fun k hk _ => by unfold Fresh; omega)

set_option maxRecDepth 100000 in
set_option maxHeartbeats 2000000 in
theorem copy_any (A : Option Addr) (a : List Int) (na ca : Nat) (B : Option Addr) (r : List Int) (nb cb : Nat) (w : World) (ha : Rd w A (ivs a)) (hr : Rd w B (ivs r)) (hna : Hid (a.length = na)) (hnb : Hid (r.length = nb)) (hn6 : na ≤ 100) (hm6 : nb ≤ 100) :
    Calls Tryd.prog 26 #[.agg #[.slice A na ca, .slice B nb cb]] w fun e w' => ∃ v1 v2, e = .returned (.agg #[v1, v2]) ∧ Own w' 3 1 (Fresh w) v1 na (ivs a) ∧ Own w' 3 1 (Fresh w) v2 nb (ivs r) ∧ Keep NoB w w' := by
  obtain ⟨i0, hi, hz0, hz1, hz2⟩ := info_parts int_info
  have bx := ((Blk.new w 26 #[.slice A na ca, .slice B nb cb]).alloc (.cells #[.slice none 0 0, .slice none 0 0] 26)).alloc (.cells #[.slice none 0 0, .slice none 0 0] 26)
  have by0 := (Blk.new (w.alloc (.cells #[.slice A na ca, .slice B nb cb] 26)) 26 #[.slice none 0 0, .slice none 0 0]).alloc (.cells #[.slice none 0 0, .slice none 0 0] 26)
  have bc := Blk.new ((w.alloc (.cells #[.slice A na ca, .slice B nb cb] 26)).alloc (.cells #[.slice none 0 0, .slice none 0 0] 26)) 26 #[.slice none 0 0, .slice none 0 0]
  simp only [World.size_alloc] at bc by0
  have k0 := (((Keep.refl NoB w).alloc (.cells #[.slice A na ca, .slice B nb cb] 26)).alloc (.cells #[.slice none 0 0, .slice none 0 0] 26)).alloc (.cells #[.slice none 0 0, .slice none 0 0] 26)
  go_enter Tryd.func26, Tryd.ntmps26
  have hr0 := Lib.hid hr
  have ha0 := Lib.hid (ha.keepN k0)
  have hAl := ivs_one a
  have hRl := ivs_one r
  have hal : (ivs a).length = na * 1 := by simp [hna.out]
  have hrl : (ivs r).length = nb * 1 := by simp [hnb.out]
  have HI := Lib.hid (And.intro hAl hRl)
  clear hr ha hAl hRl
  go_wp2_with (first
    | (at_builtin; refine wpList_append_rd _ rfl (.tmp 6) (.tmp 8) _ rfl 3 1 8 i0 _ Tryd.underlying22 hi hz0 hz1 hz2 rfl (by decide) (.slice none 0 0) 0 [] A na ca (ivs a) rfl (World.ownsRow_nil _ _ _ _) rfl ha0.out hal HI.out.1 (by unfold maxLen; omega) (by omega) ?_; intro A5 c5 w5 hrow5 hg5 hv5; rw [Nat.zero_add] at hrow5 hv5 ⊢; have k5 : Keep NoB w w5 := k0.grown hg5 (fun g e _ => by cases e); have bx5 := bx.grown hg5 (by simp [Value.ownBlock]); have by5 := by0.grown hg5 (by simp [Value.ownBlock]); have bc5 := bc.grown hg5 (by simp [Value.ownBlock]); obtain ⟨x0, x1⟩ := blk2 bx5; obtain ⟨y0, y1⟩ := blk2 bc5; have fy := fun i => bc5.frozen i; clear hg5 bx by0 bc k0)
    | (at_builtin; have k6 := k5.setCell (p := ⟨w.heap.size + 1 + 1, 0, none⟩) (fun h => absurd h (by simp; omega)) (.slice A5 na c5); have bc6 := blk_put0 bc5 (.slice A5 na c5); have by6 := by5.far (p := ⟨w.heap.size + 1 + 1, 0, none⟩) (by simp) (.slice A5 na c5); clear x0 x1 y0 y1 fy; refine wpList_append_rd _ rfl (.tmp 12) (.tmp 14) _ rfl 3 1 8 i0 _ Tryd.underlying22 hi hz0 hz1 hz2 rfl (by decide) (.slice none 0 0) 0 [] B nb cb (ivs r) rfl (World.ownsRow_nil _ _ _ _) rfl (hr0.out.keepN k6) hrl HI.out.2 (by unfold maxLen; omega) (by omega) ?_; intro A7 c7 w7 hrow7 hg7 hv7; rw [Nat.zero_add] at hrow7 hv7 ⊢; have k7 : Keep NoB _ w7 := (Keep.refl NoB _).grown hg7 (fun g e _ => by cases e); have bc7 := bc6.grown hg7 (by simp [Value.ownBlock]); have by7 := by6.grown hg7 (by simp [Value.ownBlock]); obtain ⟨u0, u1⟩ := blk2 bc7; obtain ⟨t0, t1⟩ := blk2 by7; have fu := fun i => bc7.frozen i; have ft := fun i => by7.frozen i))
  have hs5 := by5.lt
  have hs7 := by7.lt
  have hsz : (w5.setCell ⟨w.heap.size + 1 + 1, 0, none⟩ (.slice A5 na c5)).heap.size = w5.heap.size := by simp [World.setCell]
  have hb5 := bc5.lt
  have hO5 : Own w5 3 1 (fun k => w.heap.size + 2 < k) (.slice A5 na c5) na (ivs a) := ⟨by simpa using hrow5, fun g e => by
    rcases hv5 with h | h
    · rw [h] at e; cases e
    · rw [h] at e; cases e; simp⟩
  have hO7 : Own w7 3 1 (fun k => w.heap.size + 2 < k) (.slice A7 nb c7) nb (ivs r) := ⟨by simpa using hrow7, fun g e => by
    rcases hv7 with h | h
    · rw [h] at e; cases e
    · rw [h] at e; cases e; omega⟩
  have hO57 := (hO5.keep (O' := fun k => k = w.heap.size + 1 ∨ k = w.heap.size + 2) ((Keep.refl _ w5).setCell (p := ⟨w.heap.size + 1 + 1, 0, none⟩) (fun _ => .inr rfl) (.slice A5 na c5)) (fun k hk e => by omega)).keepN k7
  have hQ : Keep (fun k => k = w.heap.size + 1 ∨ k = w.heap.size + 2) w7 (((w7.setCell ⟨w.heap.size + 1 + 1, 1, none⟩ (.slice A7 nb c7)).setCell ⟨w.heap.size + 1, 0, none⟩ (.slice A5 na c5)).setCell ⟨w.heap.size + 1, 1, none⟩ (.slice A7 nb c7)) :=
    (((Keep.refl _ w7).setCell (p := ⟨w.heap.size + 1 + 1, 1, none⟩) (fun _ => .inr rfl) _).setCell (p := ⟨w.heap.size + 1, 0, none⟩) (fun _ => .inl rfl) _).setCell (p := ⟨w.heap.size + 1, 1, none⟩) (fun _ => .inl rfl) _
  refine bodyPost_ret (ret_sig1 rfl rfl (blk_put2 (by7.far (p := ⟨w.heap.size + 1 + 1, 1, none⟩) (by simp) _) _ _)) rfl ?_
  exact ⟨_, _, rfl, own_fresh (hO57.keep hQ (fun k hk e => by omega)) (by omega), own_fresh (hO7.keep hQ (fun k hk e => by omega)) (by omega), (keepN k6 k7).trans hQ (fun k e hl => by omega)⟩

theorem own_of (S : ByteArray) (s : List UInt8) (l : List Int) (w : World) (hL : LetAt w) (hs : Hid (S.data.toList = s)) (h1 : S.size ≤ 9223372036854775807) (h : untxt s = some l) :
    Calls Tryd.prog 40 #[.string S] w fun e w' => ∃ B d, e = .returned (.slice B l.length d) ∧ Own w' 3 1 (Fresh w) (.slice B l.length d) l.length (ivs l) ∧ Keep NoB w w' := by
  have HT := Lib.hid (types_yes S s l w hL hs h1 h)
  clear h
  go_enter Tryd.func40, Tryd.ntmps40
  go_wp2_with fail
  refine HT.out.mono ?_
  rintro e w1 ⟨B, d, rfl, hO, k1⟩
  have HO := Lib.hid hO
  clear hO
  go_wp2
  go_ret
  exact ⟨_, _, rfl, HO.out, k1⟩

set_option maxRecDepth 100000 in
set_option maxHeartbeats 2000000 in
theorem own_sig (S T : ByteArray) (s t : List UInt8) (a r : List Int) (w : World) (hL0 : LetAt w) (hs : Hid (S.data.toList = s)) (ht : Hid (T.data.toList = t)) (h1 : S.size ≤ 9223372036854775807) (h2 : T.size ≤ 9223372036854775807) (hu : untxt s = some a) (hv : untxt t = some r) :
    Calls Tryd.prog 41 #[.string S, .string T] w fun e w' => ∃ A1 c1 A2 c2, e = .returned (.agg #[.slice A1 a.length c1, .slice A2 r.length c2]) ∧ Own w' 3 1 (Fresh w) (.slice A1 a.length c1) a.length (ivs a) ∧ Own w' 3 1 (Fresh w) (.slice A2 r.length c2) r.length (ivs r) ∧ Keep NoB w w' := by
  have HA := Lib.hid (fun w hL => own_of S s a w hL hs h1 hu)
  have HB := Lib.hid (fun w hL => own_of T t r w hL ht h2 hv)
  have HL := Lib.hid hL0
  have bz := Blk.new w 26 #[.slice none 0 0, .slice none 0 0]
  have k0 := (Keep.refl NoB w).alloc (.cells #[.slice none 0 0, .slice none 0 0] 26)
  clear hu hv hL0
  go_enter Tryd.func41, Tryd.ntmps41
  go_wp2_with fail
  refine (HA.out _ (HL.out.keep k0)).mono ?_
  rintro e w1 ⟨A1, c1, rfl, hO1, k1⟩
  replace bz := bz.keep k1 id
  replace hO1 := hO1.mono (O' := fun k => w.heap.size < k) (fun k hf _ => by unfold Fresh at hf; simp at hf; omega)
  have gK := keepN k0 k1
  have hs1 := bz.lt
  clear k0 k1
  go_wp2_with fail
  refine (HB.out _ (HL.out.keep gK)).mono ?_
  rintro e w2 ⟨A2, c2, rfl, hO2, k2⟩
  replace bz := bz.keep k2 id
  replace hO2 := hO2.mono (O' := fun k => w.heap.size < k) (fun k hf _ => by unfold Fresh at hf; omega)
  replace hO1 := hO1.keepN k2
  replace gK := keepN gK k2
  obtain ⟨z0, z1⟩ := blk2 bz
  have fz := fun i => bz.frozen i
  have HBZ := Lib.hid (fun u v => blk_put2 bz u v)
  have HP1 := Lib.hid (own_put2 hO1 (Nat.le_refl _) (.slice A1 a.length c1) (.slice A2 r.length c2))
  have HP2 := Lib.hid (own_put2 hO2 (Nat.le_refl _) (.slice A1 a.length c1) (.slice A2 r.length c2))
  clear bz k2 hO1 hO2
  go_wp2
  refine bodyPost_ret (ret_sig1 rfl rfl (HBZ.out _ _)) rfl ?_
  exact ⟨_, _, _, _, rfl, HP1.out, HP2.out, keep_put2 gK (Nat.le_refl _) _ _⟩

end Go.Proofs.YtieejecodfeodaaDoor.S
