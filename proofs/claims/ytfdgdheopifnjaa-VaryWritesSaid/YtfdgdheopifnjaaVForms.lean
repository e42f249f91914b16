/-
  VaryForms: whatever bytes, and bound, the law returns true. No conditions.
-/
import Derived.Test.YtfdgdheopifnjaaVAlive
import Derived.Test.YtfdgdheopifnjaaVReel2
import Derived.Test.YtfdgdheopifnjaaVOrder
namespace Go.Proofs.Ytfdgdheopifnjaa
open Go.ChangeShapes Go.WideShapes Go.ChangeAt Go.RowKit

theorem nx_ok (l : List UInt8) (h : (nx l).2.2 = 0) : encL (nx l).1 = l.take (nx l).2.1 ∧ 1 ≤ (nx l).2.1 := by
  rcases l with _ | ⟨b, r⟩
  · simp [nx] at h
  · rw [nx_cons] at h ⊢
    have hb := b.toNat_lt
    have h9 := (td_rng b.toNat (by simpa using hb))
    split at h
    · simp at h
    · rename_i hl
      rw [if_neg hl]
      split at h
      · simp at h
      · rename_i hw
        rw [if_neg hw]
        obtain ⟨k, hk⟩ : ∃ k, td b.toNat = k + 1 := ⟨td b.toNat - 1, by omega⟩
        have h2 := dc_width b (r.take k) (td b.toNat) rfl (by simp; omega)
        rw [hk] at h2 hw ⊢
        rw [List.take_succ_cons] at hw ⊢
        exact ⟨h2.2.1 (by omega), by simp⟩
theorem nx_errs (l : List UInt8) : (nx l).2.2 = 0 ∨ (nx l).2.2 = 10 ∨ (nx l).2.2 = 11 := by
  rcases l with _ | ⟨b, r⟩
  · exact .inr (.inl rfl)
  · rw [nx_cons]
    split
    · exact .inr (.inl rfl)
    · split
      · exact .inr (.inr rfl)
      · exact .inl rfl

/-- Reading in a Reel of new memory keeps all that lay. -/
theorem rnumber_at (w w0 : World) (br : Nat) (l : List UInt8) (p most : Nat) (N M : Int) (v er q : Nat) (h : ReelAt w br (Fresh w0) l p) (hk : Keep NoB w0 w) (hb : l.length ≤ 140737488355328) (hN : N = most) (hM : M = v) (hs : NumR l p most = (v, er, q)) :
    Calls Try.prog 25 #[.pointer (some ⟨br, 0, none⟩), .int .u64 N] w fun e w' => e = .returned (.tuple #[.int .u64 M, .int .i64 er]) ∧ ReelAt w' br (Fresh w0) l q ∧ Keep NoB w0 w' := by
  subst hN hM
  refine (rnumber_any w br (Fresh w0) l p most h hb).mono ?_
  rintro e w' ⟨he, h1, h2⟩
  rw [hs] at he h1
  exact ⟨he, h1, hk.trans h2 (fun k e hk' => by have := h.1; unfold Fresh at this; omega)⟩

theorem numR_ok (l : List UInt8) (p most n d : Nat) (h : nx (l.drop p) = (n, d, 0)) (hm : n ≤ most) : NumR l p most = (n, 0, p + d) := by
  have : ¬ most < n := by omega
  unfold NumR bnd; rw [h]; simp [this]
theorem numR_big (l : List UInt8) (p most n d : Nat) (h : nx (l.drop p) = (n, d, 0)) (hm : most < n) : NumR l p most = (0, 12, p) := by
  unfold NumR bnd; rw [h]; simp [hm]
theorem numR_err (l : List UInt8) (p most r : Nat) (h : nx (l.drop p) = (0, 0, r)) (hr : r ≠ 0) : NumR l p most = (0, r, p) := by
  unfold NumR bnd; rw [h]; simp [hr]

theorem wd_zero : wd 0 = 1 := by decide

set_option maxRecDepth 100000 in
set_option maxHeartbeats 4000000 in
theorem forms_walk (w : World) (A : Option Addr) (l : List UInt8) (c most : Nat) (hr : Rd w A l) (hc : l.length ≤ c) (_hcm : c ≤ 9223372036854775807) :
    Calls Try.prog 9 #[.slice A l.length c, .int .u64 most] w fun e w' => e = .returned (.bool true) ∧ Keep NoB w w' := by
  by_cases hlen : l.length ≤ 200
  · go_enter Try.func9, Try.ntmps9
    go_wp2_with fail
    refine (alive_any _).mono ?_
    rintro e w1 ⟨rfl, hk1⟩
    go_wp2_with fail
    have hr1 := hr.keep hk1 (fun _ _ _ => id)
    refine (on_any w1 A l c hr1 (by omega)).mono ?_
    rintro e w2 ⟨br, rfl, h2, hk2⟩
    have h2' : ReelAt w2 br (Fresh w) l 0 := h2.mono (fun k hk' _ => Nat.le_trans hk1.size hk')
    have hk2' := keepN hk1 hk2
    clear h2 hk2 hk1 hr1
    go_wp2_with fail
    go_loopw [26] (fun i wr => ∃ k p : Nat, k ≤ p ∧ i = .int .i64 k ∧ ReelAt wr br (Fresh w) l p ∧ Keep NoB w wr) (fun i _ => l.length + 1 - (intOf i).toNat)
    case atStart => exact ⟨0, 0, Nat.le_refl _, rfl, h2', hk2'⟩
    case round =>
      clear h2' hk2'
      obtain ⟨k, p, hkp, rfl, hR, hK⟩ := hrel
      have hpl := hR.2.1
      have hx := nx_width (l.drop p)
      have hok := nx_ok (l.drop p)
      have her := nx_errs (l.drop p)
      have hez := nx_err (l.drop p)
      rw [List.length_drop] at hx
      obtain ⟨⟨n, d, r⟩, hn⟩ : ∃ t, nx (l.drop p) = t := ⟨_, rfl⟩
      rw [hn] at hx hok her hez
      have HN := Lib.hid hn
      clear hn
      dsimp only at hx hok her hez
      by_cases hr0 : r = 0
      · subst hr0
        obtain ⟨he, hd1⟩ := hok rfl
        have HE := Lib.hid he
        have HX := Lib.hid hx.2.2.2
        have hx1 := hx.1
        clear hez her hx he hok
        by_cases hm : n ≤ most
        · have HNR := Lib.hid (numR_ok l p most n d HN.out hm)
          obtain ⟨ad, rfl, _⟩ := hr (by omega)
          have hcp : ¬ c = p := by omega
          go_wp2_with fail
          refine (at_any wr br (Fresh w) l p hR).mono ?_
          rintro e w3 ⟨rfl, rfl⟩
          go_wp2_with fail
          refine (rnumber_at wr w br l p most _ _ n 0 (p + d) hR hK (by omega) rfl rfl HNR.out).mono ?_
          rintro e w3 ⟨rfl, h3, hk3⟩
          clear hR hK
          go_wp2_with fail
          refine (number_any n _).mono ?_
          rintro e w4 ⟨rfl, hk4⟩
          have h4 := h3.keep hk4 (fun _ _ => id)
          have hk4' := keepN hk3 hk4
          clear h3 hk3 hk4
          go_wp2_with fail
          refine (at_any w4 br (Fresh w) l (p + d) h4).mono ?_
          rintro e w5 ⟨rfl, rfl⟩
          have hcv : (convert 27 9 (.slice (some (ad.add p)) d (c - p))).run Try.prog w4 = .ok (.string (str (encL n))) w4 := by
            have hp := (hr.keep hk4' (fun _ _ _ => id)).part (c := c) (k := p) (m := d) hc
            rw [if_neg hcp] at hp
            have h := conv_rd (c := c - p) hp
            have hl2 : ((l.drop p).take d).length = d := by simp; omega
            rw [hl2, ← HE.out] at h
            exact h
          go_wp2
          go_roundw
          case rel => exact ⟨k + 1, p + d, by omega, by go_num, h4, hk4'⟩
          case measure => simp [intOf]; omega
        · have hm' : most < n := by omega
          have HNR := Lib.hid (numR_big l p most n d HN.out hm')
          have HNT := Lib.hid (numR_ok l p 18446744073709551615 n d HN.out (by have := HX.out; omega))
          go_wp2_with fail
          refine (at_any wr br (Fresh w) l p hR).mono ?_
          rintro e w3 ⟨rfl, rfl⟩
          go_wp2_with fail
          refine (rnumber_at wr w br l p most _ _ 0 12 p hR hK (by omega) rfl rfl HNR.out).mono ?_
          rintro e w3 ⟨rfl, h3, hk3⟩
          clear hR hK
          go_wp2_with fail
          refine (rnumber_at w3 w br l p 18446744073709551615 _ _ n 0 (p + d) h3 hk3 (by omega) rfl rfl HNT.out).mono ?_
          rintro e w4 ⟨rfl, h4, hk4⟩
          clear h3 hk3
          go_wp2
          go_ret
          exact ⟨rfl, hk4⟩
      · obtain ⟨hn0, hd0⟩ := hez hr0
        subst hn0 hd0
        have HNR := Lib.hid (numR_err l p most r HN.out hr0)
        have HNT := Lib.hid (numR_err l p 18446744073709551615 r HN.out hr0)
        have hr' : ((r : Int) == 0) = false := by rw [beq_eq_false_iff_ne]; omega
        have hr2 : r = 10 ∨ r = 11 := by omega
        clear hok hez hx hr0
        rcases hr2 with rfl | rfl
        all_goals
          clear her hr'
          go_wp2_with fail
          refine (at_any wr br (Fresh w) l p hR).mono ?_
          rintro e w3 ⟨rfl, rfl⟩
          go_wp2_with fail
          refine (rnumber_at wr w br l p most _ _ 0 _ p hR hK (by omega) rfl rfl HNR.out).mono ?_
          rintro e w3 ⟨rfl, h3, hk3⟩
          clear hR hK
          go_wp2_with fail
          refine (rnumber_at w3 w br l p 18446744073709551615 _ _ 0 _ p h3 hk3 (by omega) rfl rfl HNT.out).mono ?_
          rintro e w4 ⟨rfl, h4, hk4⟩
          clear h3 hk3
          go_wp2_with fail
          refine (at_any w4 br (Fresh w) l p h4).mono ?_
          rintro e w5 ⟨rfl, rfl⟩
          go_wp2_with fail
          refine (rwidth_any 0 _).mono ?_
          rintro e w5 ⟨rfl, rfl⟩
          rw [wd_zero]
          go_wp2
          go_ret
          exact ⟨rfl, hk4⟩
  · go_enter Try.func9, Try.ntmps9
    go_wp2_with fail
    refine (alive_any _).mono ?_
    rintro e w1 ⟨rfl, hk1⟩
    go_wp2
    go_ret
    exact ⟨rfl, hk1⟩

end Go.Proofs.Ytfdgdheopifnjaa
