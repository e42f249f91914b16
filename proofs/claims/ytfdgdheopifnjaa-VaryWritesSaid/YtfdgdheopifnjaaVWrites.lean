/-
  VaryWrites: whatever calls, the law returns true. Conditions: the slices lie in memory.
-/
import Derived.Test.YtfdgdheopifnjaaVWritesU
import Derived.Test.YtfdgdheopifnjaaVReads
namespace Go.Proofs.Ytfdgdheopifnjaa
open Go.RowKit

set_option maxRecDepth 100000 in
set_option maxHeartbeats 16000000 in
theorem writes_walk (w : World) (A : Option Addr) (l : List OpV) (c : Nat) (ho : Ops w A l) (hlen : l.length ≤ 9223372036854775807) (hb : ∀ o ∈ l, o.b.length ≤ 140737488355328) :
    Calls Try.prog 3 #[.slice A l.length c] w fun e w' => e = .returned (.bool true) ∧ Keep NoB w w' := by
  by_cases hl : l.length ≤ 100
  · by_cases ht : 20000 < total l
    · go_enter Try.func3, Try.ntmps3
      go_wp2_with fail
      refine (great_short w A l c ho hl hb true (by show _ = _; simp [ht])).mono ?_
      rintro e w2 ⟨rfl, rfl⟩
      go_wp2
      go_ret
      exact ⟨rfl, Keep.refl _ _⟩
    · have hT := Lib.hid (fun k => outs_len (l.take k))
      have hT2 := Lib.hid (total_take l)
      have hT3 := Lib.hid (total_mem l)
      have hSn := Lib.hid (outs_snoc l)
      go_enter Try.func3, Try.ntmps3
      go_wp2_with fail
      refine (great_short w A l c ho hl hb false (by show _ = _; simp; omega)).mono ?_
      rintro e w2 ⟨rfl, rfl⟩
      go_wp2
      have hWn := WSt.new (Keep.refl NoB w)
      have hKn := (Keep.refl NoB w).alloc (.cells #[.pointer none, .int .i64 0] 26)
      obtain ⟨tb, htb⟩ : ∃ tb, w.heap.size = tb := ⟨_, rfl⟩
      rw [htb] at hWn ⊢
      go_loopw [4, 15] (fun v i wr => ∃ (k : Nat) (xs : List UInt8) (A4 : Option Addr) (c4 : Nat), k ≤ l.length ∧ Hid (xs = outs (l.take k)) ∧ v = .slice A4 xs.length c4 ∧ i = .int .i64 (k : Int) ∧ WSt w wr tb NoB (.slice A4 xs.length c4) xs xs ∧ Keep NoB w wr) (fun _ i _ => l.length - (intOf i).toNat)
      case atStart => exact ⟨0, [], none, 0, Nat.zero_le _, by simp [outs, Hid], rfl, rfl, hWn, hKn⟩
      case round =>
        clear hWn hKn
        obtain ⟨k, xs, A4, c4, hkl, hX, rfl, rfl, hW, hK⟩ := hrel
        have hxl : xs.length ≤ 20900 := by
          have h1 := hT.out k; have h2 := hT2.out k
          rw [← hX.out, List.length_take] at h1
          omega
        by_cases hlt : k < l.length
        · obtain ⟨wo, rfl⟩ : ∃ wo, wo = wr := ⟨_, rfl⟩
          have qT := tape_same tb
          obtain ⟨g, off, rfl, hi⟩ := ho.2 (by omega)
          have hok := ho.1 l[k] (List.getElem_mem _)
          have HO := hi k hlt
          have hbl := hT3.out k hlt
          have hN : Hid (outs (l.take (k + 1)) = xs ++ outL l[k]) := by show _ = _; rw [hSn.out k hlt, ← hX.out]
          unfold outL at hN
          obtain ⟨o, hoe⟩ : ∃ o, l[k] = o := ⟨_, rfl⟩
          rw [hoe] at HO hok hbl hN
          clear hoe hi hX
          obtain ⟨kind, m, n, lo, hi', B, b, c'⟩ := o
          obtain ⟨_, okm, okn, okl, okh⟩ := hok
          dsimp only at okm okn okl okh hbl hN
          obtain ⟨q0, _, q2, q3, _, q5, qr, _⟩ := HO.keep hK
          dsimp only at q0 q2 q3 q5 qr
          have hkk0 : (0 : Int) ≤ (k : Int) := by omega
          have hkk1 : (k : Int) < (l.length : Int) := by omega
          go_wp2_with fail
          refine (twin_any wo B b c' qr (by omega)).mono ?_
          rintro e w1 ⟨v6, rfl, hv6, hk1⟩
          have hv6' : OwnB w1 (Btw wo w1) v6 b := ⟨hv6.1, fun g e => ⟨hv6.2 g e, (hv6.1.lt g e).2⟩⟩
          obtain ⟨A6, c6, rfl, hc6, hr6, _⟩ := hv6.form
          have hW1 := (hW.apart (O' := Btw wo w1) (fun k h => h.1)).keep hk1 (fun _ hf => hf.elim)
          have hK1 := keepN hK hk1
          have hO6 : ∀ k, Btw wo w1 k → k < w1.heap.size := fun k h => h.2
          have hs1 := hK1.size
          have hsr := hK.size
          clear hv6 hr6 hW q0 q2 q3 q5 qr
          obtain ⟨q0, _, q2, q3, _, q5, qr, _⟩ := HO.keep hK1
          dsimp only at q0 q2 q3 q5 qr
          go_wp2
          go_quiet (first | (go_at_call 12; exact Calls.quiet_of_same (width_same _ _)) | (go_at_call 13; exact Calls.quiet_of_same (rwidth_same _ _)) | (go_at_call 14; exact Calls.quiet_of_same (zig_same _ _ okl.1 okl.2)) | (go_at_call 15; exact Calls.quiet_of_same (rzig_same _ _ okl.1 okl.2)) | (go_at_call 16; exact Calls.quiet_of_same (zag_same _ _ okn)) | (go_at_call 17; exact Calls.quiet_of_same (rzag_same _ _ okn)))
          obtain ⟨wq, hwq⟩ : ∃ wq, w1.drewN nq = wq := ⟨_, rfl⟩
          have hkq : Keep NoB w1 wq := hwq ▸ (Keep.refl NoB w1).drewN nq
          have hzq : wq.heap.size = w1.heap.size := by rw [← hwq]; rfl
          rw [hwq]
          clear hwq q0 q2 q3 q5 qr
          replace hW1 := hW1.keep hkq (fun _ hf => hf.elim)
          replace hv6' := hv6'.keep hkq (fun _ _ => id)
          replace hK1 := keepN hK1 hkq
          have hOq : ∀ k, Btw wo w1 k → k < wq.heap.size := fun k h => by have := h.2; omega
          have hsq := hK1.size
          obtain ⟨q0, _, q2, q3, _, q5, qr, _⟩ := HO.keep hK1
          dsimp only at q0 q2 q3 q5 qr
          clear hkq hO6 hs1
          by_cases hk0 : kind = 0
          · subst hk0
            have hN' := hN.out
            rw [if_pos rfl] at hN'
            clear hN
            obtain ⟨zs, hzs⟩ : ∃ zs, xs ++ encL n = zs := ⟨_, rfl⟩
            rw [hzs] at hN'
            have hN := Lib.hid hN'
            have HZ := Lib.hid hzs.symm
            clear hN'
            go_wp2_with fail
            refine (refnum_any n _ (Lib.hid okn)).mono ?_
            rintro e w2 ⟨v8, rfl, hv8, hk2⟩
            obtain ⟨A8, c8, rfl, _, r8, _⟩ := hv8.form
            have hW2 := hW1.keep hk2 (fun _ hf => hf.elim)
            have hv62 := hv6'.keep hk2 (fun _ _ => id)
            have hK2 := keepN hK1 hk2
            have hO2 : ∀ k, Btw wo w1 k → k < w2.heap.size := fun k h => Nat.lt_of_lt_of_le (hOq k h) hk2.size
            have hl8 := congrArg List.length hzs
            rw [List.length_append] at hl8
            have hz9 : zs.length ≤ 20900 := by
              have h1 := hT.out (k + 1); have h2 := hT2.out (k + 1)
              rw [hN.out, List.length_take] at h1
              omega
            go_wp2_with (at_builtin; refine wpList_append_rd _ rfl _ _ rfl (.slice A4 xs.length c4) xs (encL n) A8 c8 rfl hW2.own rfl r8 (by omega) ?_; intro v' w3 h3own hg3 hat3; obtain ⟨hW3, hk3⟩ := hW2.appended hO2 hK2.size h3own hg3 hat3; rw [hzs] at h3own hW3; obtain ⟨A5, c5, rfl⟩ := own_form h3own; have hv63 := own_oth hv62 hk3; have hK3 := keep_oth hK2 hk3; have hO3 : ∀ k, Btw wo w1 k → k < w3.heap.size := (fun k h => Nat.lt_of_lt_of_le (hO2 k h) hk3.size); have hQ := HO.keep hK3; obtain ⟨p0, _, p2, p3, _, p5, pr, _⟩ := hQ; dsimp only at p0 p2 p3 p5 pr; clear h3own hg3 hat3)
            refine (wst_number w w3 tb (Btw wo w1) _ xs zs zs n hW3 hO3 hK3.size (by omega) HZ).mono ?_
            rintro e w4 ⟨rfl, hW4, hk4⟩
            have hv64 := own_oth hv63 hk4
            have hK4 := keep_oth hK3 hk4
            clear hW3 hv63 hK3 p0 p2 p3 p5 pr hW2 hv62 hK2 hk2 hk3 hk4 hW1 hv6' hK1 hv8 r8 q0 q2 q3 q5 qr hzs hl8
            have hzl : zs.length ≤ 20900 := by
              have h1 := hT.out (k + 1); have h2 := hT2.out (k + 1)
              rw [hN.out, List.length_take] at h1
              omega
            obtain ⟨_, _, _, _, _, q5, qr, _⟩ := HO.keep hK4
            dsimp only at q5 qr
            have hcA : ∀ n, (convert 27 9 (.slice A6 b.length c6)).run Try.prog (w4.drewN n) = .ok (.string (str b)) (w4.drewN n) := fun n => by
              obtain ⟨_, _, e6, _, r6, _⟩ := (hv64.keep ((Keep.refl NoB w4).drewN n) (fun _ _ => id)).form
              simp only [Value.slice.injEq, true_and] at e6
              obtain ⟨rfl, rfl⟩ := e6
              exact conv_rd r6
            have hcB : ∀ n, (convert 27 9 (.slice B b.length c')).run Try.prog (w4.drewN n) = .ok (.string (str b)) (w4.drewN n) := fun n => conv_rd (qr.keep ((Keep.refl NoB w4).drewN n) (fun _ _ _ => id))
            have hbl9 : b.length ≤ 9223372036854775807 := by omega
            go_wp2
            go_quiet (fail)
            obtain ⟨w5, hw5⟩ : ∃ w5, w4.drewN nq = w5 := ⟨_, rfl⟩
            have hk5 : Keep NoB w4 w5 := hw5 ▸ (Keep.refl NoB w4).drewN nq
            rw [hw5]
            clear hw5 hcA hcB q5 qr
            replace hW4 := hW4.keep hk5 (fun _ hf => hf.elim)
            replace hv64 := hv64.keep hk5 (fun _ _ => id)
            replace hK4 := keepN hK4 hk5
            clear hk5
            go_wp2
            go_loopw [144] (fun i wx => ∃ (j : Nat) (b' : List UInt8), j ≤ b.length ∧ i = .int .i64 (j : Int) ∧ b'.length = b.length ∧ OwnB wx (Btw wo w1) (.slice A6 b.length c6) b' ∧ Keep (Btw wo w1) w5 wx) (fun i _ => b.length - (intOf i).toNat)
            case atStart => exact ⟨0, b, Nat.zero_le _, rfl, rfl, hv64, Keep.refl _ _⟩
            case round =>
              clear hv64
              obtain ⟨j, b', hj, rfl, hb', hOx, hKx⟩ := hrel
              by_cases hlj : j < b.length
              · obtain ⟨gx, rfl⟩ := own_head hOx hb' (by omega)
                obtain ⟨zx, fx⟩ := own_cell hOx hb' hlj
                go_wp2
                go_roundw
                case rel =>
                  obtain ⟨l'', e1, e2, e3⟩ := own_put hOx hb' hlj rfl hKx
                  exact ⟨j + 1, l'', by omega, by go_num, e1, e2, e3⟩
                case measure => simp [intOf]; omega
              · obtain rfl : j = b.length := by omega
                obtain ⟨wp, rfl⟩ : ∃ wp, wp = wr := ⟨_, rfl⟩
                have hW6 := hW4.keep hKx (fun _ h => h)
                have hK6 : Keep NoB w wp := hK4.trans hKx (fun k h hk => by have := h.1; omega)
                clear hOx hKx hW4 hK4
                go_wp2_with fail
                refine (wst_all w wp tb (Btw wo w1) _ zs zs hW6 (by omega)).mono ?_
                rintro e w7 ⟨A9, c9, rfl, hv9, hk9⟩
                have hv9' : OwnB w7 (Btw wp w7) (.slice A9 zs.length c9) zs := hv9.mono (fun k h1 h2 => ⟨h1, h2⟩)
                have hW7 := (hW6.apart (O' := Btw wp w7) (fun k h => h.1)).keep hk9 (fun _ hf => hf.elim)
                have hK7 := keepN hK6 hk9
                obtain ⟨_, _, e9, _, r9, _⟩ := hv9.form
                simp only [Value.slice.injEq, true_and] at e9
                obtain ⟨rfl, rfl⟩ := e9
                obtain ⟨_, _, e5, r5⟩ := hW7.form
                simp only [Value.slice.injEq, true_and] at e5
                obtain ⟨rfl, rfl⟩ := e5
                have vA := conv_rd (c := c9) r9
                have vB := conv_rd (c := c5) r5
                have hs6 := hK6.size
                clear hW6 hK6 hv9 r9 r5 hk9
                go_wp2
                go_loopw [162] (fun i wx => ∃ (j : Nat) (b' : List UInt8), j ≤ zs.length ∧ i = .int .i64 (j : Int) ∧ b'.length = zs.length ∧ OwnB wx (Btw wp w7) (.slice A9 zs.length c9) b' ∧ Keep (Btw wp w7) w7 wx) (fun i _ => zs.length - (intOf i).toNat)
                case atStart => exact ⟨0, zs, Nat.zero_le _, rfl, rfl, hv9', Keep.refl _ _⟩
                case round =>
                  clear hv9' vA vB
                  obtain ⟨j, b'', hj', rfl, hb'', hOy, hKy⟩ := hrel
                  by_cases hlz : j < zs.length
                  · obtain ⟨gy, rfl⟩ := own_head hOy hb'' (by omega)
                    obtain ⟨zy, fy⟩ := own_cell hOy hb'' hlz
                    go_wp2
                    go_roundw
                    case rel =>
                      obtain ⟨l'', e1, e2, e3⟩ := own_put hOy hb'' hlz rfl hKy
                      exact ⟨j + 1, l'', by omega, by go_num, e1, e2, e3⟩
                    case measure => simp [intOf]; omega
                  · obtain rfl : j = zs.length := by omega
                    have hW8 := (hW7.keep hKy (fun _ h => h)).apart (O' := NoB) (fun _ hf => hf.elim)
                    have hK8 := hK7.trans hKy (O := NoB) (fun k h hk => by have := h.1; omega)
                    clear hOy hKy hW7 hK7
                    go_wp2
                    go_roundw
                    case rel => exact ⟨k + 1, zs, A5, c5, by omega, Lib.hid hN.out.symm, rfl, by go_num, hW8, hK8⟩
                    case measure => simp [intOf]; omega
          · by_cases hk1k : kind = 1
            · subst hk1k
              have hN' := hN.out
              rw [if_neg hk0, if_pos rfl] at hN'
              have hzlt := zig_lt lo okl.1 okl.2
              clear hN hk0
              obtain ⟨zs, hzs⟩ : ∃ zs, xs ++ encL (zig lo) = zs := ⟨_, rfl⟩
              rw [hzs] at hN'
              have hN := Lib.hid hN'
              have HZ := Lib.hid hzs.symm
              clear hN'
              go_wp2_with fail
              refine (rzig_any lo _ okl.1 okl.2).mono ?_
              rintro e w9 ⟨rfl, rfl⟩
              go_wp2_with fail
              refine (refnum_any (zig lo) _ (Lib.hid hzlt)).mono ?_
              rintro e w2 ⟨v8, rfl, hv8, hk2⟩
              obtain ⟨A8, c8, rfl, _, r8, _⟩ := hv8.form
              have hW2 := hW1.keep hk2 (fun _ hf => hf.elim)
              have hv62 := hv6'.keep hk2 (fun _ _ => id)
              have hK2 := keepN hK1 hk2
              have hO2 : ∀ k, Btw wo w1 k → k < w2.heap.size := fun k h => Nat.lt_of_lt_of_le (hOq k h) hk2.size
              have hl8 := congrArg List.length hzs
              rw [List.length_append] at hl8
              have hz9 : zs.length ≤ 20900 := by
                have h1 := hT.out (k + 1); have h2 := hT2.out (k + 1)
                rw [hN.out, List.length_take] at h1
                omega
              go_wp2_with (at_builtin; refine wpList_append_rd _ rfl _ _ rfl (.slice A4 xs.length c4) xs (encL (zig lo)) A8 c8 rfl hW2.own rfl r8 (by omega) ?_; intro v' w3 h3own hg3 hat3; obtain ⟨hW3, hk3⟩ := hW2.appended hO2 hK2.size h3own hg3 hat3; rw [hzs] at h3own hW3; obtain ⟨A5, c5, rfl⟩ := own_form h3own; have hv63 := own_oth hv62 hk3; have hK3 := keep_oth hK2 hk3; have hO3 : ∀ k, Btw wo w1 k → k < w3.heap.size := (fun k h => Nat.lt_of_lt_of_le (hO2 k h) hk3.size); have hQ := HO.keep hK3; obtain ⟨p0, _, p2, p3, _, p5, pr, _⟩ := hQ; dsimp only at p0 p2 p3 p5 pr; clear h3own hg3 hat3)
              refine (wst_signed w w3 tb (Btw wo w1) _ xs zs zs lo okl.1 okl.2 hW3 hO3 hK3.size (by omega) HZ).mono ?_
              rintro e w4 ⟨rfl, hW4, hk4⟩
              have hv64 := own_oth hv63 hk4
              have hK4 := keep_oth hK3 hk4
              clear hW3 hv63 hK3 p0 p2 p3 p5 pr hW2 hv62 hK2 hk2 hk3 hk4 hW1 hv6' hK1 hv8 r8 q0 q2 q3 q5 qr hzs hl8
              have hzl : zs.length ≤ 20900 := by
                have h1 := hT.out (k + 1); have h2 := hT2.out (k + 1)
                rw [hN.out, List.length_take] at h1
                omega
              obtain ⟨_, _, _, _, _, q5, qr, _⟩ := HO.keep hK4
              dsimp only at q5 qr
              have hcA : ∀ n, (convert 27 9 (.slice A6 b.length c6)).run Try.prog (w4.drewN n) = .ok (.string (str b)) (w4.drewN n) := fun n => by
                obtain ⟨_, _, e6, _, r6, _⟩ := (hv64.keep ((Keep.refl NoB w4).drewN n) (fun _ _ => id)).form
                simp only [Value.slice.injEq, true_and] at e6
                obtain ⟨rfl, rfl⟩ := e6
                exact conv_rd r6
              have hcB : ∀ n, (convert 27 9 (.slice B b.length c')).run Try.prog (w4.drewN n) = .ok (.string (str b)) (w4.drewN n) := fun n => conv_rd (qr.keep ((Keep.refl NoB w4).drewN n) (fun _ _ _ => id))
              have hbl9 : b.length ≤ 9223372036854775807 := by omega
              go_wp2
              go_quiet (fail)
              obtain ⟨w5, hw5⟩ : ∃ w5, w4.drewN nq = w5 := ⟨_, rfl⟩
              have hk5 : Keep NoB w4 w5 := hw5 ▸ (Keep.refl NoB w4).drewN nq
              rw [hw5]
              clear hw5 hcA hcB q5 qr
              replace hW4 := hW4.keep hk5 (fun _ hf => hf.elim)
              replace hv64 := hv64.keep hk5 (fun _ _ => id)
              replace hK4 := keepN hK4 hk5
              clear hk5
              go_wp2
              go_loopw [144] (fun i wx => ∃ (j : Nat) (b' : List UInt8), j ≤ b.length ∧ i = .int .i64 (j : Int) ∧ b'.length = b.length ∧ OwnB wx (Btw wo w1) (.slice A6 b.length c6) b' ∧ Keep (Btw wo w1) w5 wx) (fun i _ => b.length - (intOf i).toNat)
              case atStart => exact ⟨0, b, Nat.zero_le _, rfl, rfl, hv64, Keep.refl _ _⟩
              case round =>
                clear hv64
                obtain ⟨j, b', hj, rfl, hb', hOx, hKx⟩ := hrel
                by_cases hlj : j < b.length
                · obtain ⟨gx, rfl⟩ := own_head hOx hb' (by omega)
                  obtain ⟨zx, fx⟩ := own_cell hOx hb' hlj
                  go_wp2
                  go_roundw
                  case rel =>
                    obtain ⟨l'', e1, e2, e3⟩ := own_put hOx hb' hlj rfl hKx
                    exact ⟨j + 1, l'', by omega, by go_num, e1, e2, e3⟩
                  case measure => simp [intOf]; omega
                · obtain rfl : j = b.length := by omega
                  obtain ⟨wp, rfl⟩ : ∃ wp, wp = wr := ⟨_, rfl⟩
                  have hW6 := hW4.keep hKx (fun _ h => h)
                  have hK6 : Keep NoB w wp := hK4.trans hKx (fun k h hk => by have := h.1; omega)
                  clear hOx hKx hW4 hK4
                  go_wp2_with fail
                  refine (wst_all w wp tb (Btw wo w1) _ zs zs hW6 (by omega)).mono ?_
                  rintro e w7 ⟨A9, c9, rfl, hv9, hk9⟩
                  have hv9' : OwnB w7 (Btw wp w7) (.slice A9 zs.length c9) zs := hv9.mono (fun k h1 h2 => ⟨h1, h2⟩)
                  have hW7 := (hW6.apart (O' := Btw wp w7) (fun k h => h.1)).keep hk9 (fun _ hf => hf.elim)
                  have hK7 := keepN hK6 hk9
                  obtain ⟨_, _, e9, _, r9, _⟩ := hv9.form
                  simp only [Value.slice.injEq, true_and] at e9
                  obtain ⟨rfl, rfl⟩ := e9
                  obtain ⟨_, _, e5, r5⟩ := hW7.form
                  simp only [Value.slice.injEq, true_and] at e5
                  obtain ⟨rfl, rfl⟩ := e5
                  have vA := conv_rd (c := c9) r9
                  have vB := conv_rd (c := c5) r5
                  have hs6 := hK6.size
                  clear hW6 hK6 hv9 r9 r5 hk9
                  go_wp2
                  go_loopw [162] (fun i wx => ∃ (j : Nat) (b' : List UInt8), j ≤ zs.length ∧ i = .int .i64 (j : Int) ∧ b'.length = zs.length ∧ OwnB wx (Btw wp w7) (.slice A9 zs.length c9) b' ∧ Keep (Btw wp w7) w7 wx) (fun i _ => zs.length - (intOf i).toNat)
                  case atStart => exact ⟨0, zs, Nat.zero_le _, rfl, rfl, hv9', Keep.refl _ _⟩
                  case round =>
                    clear hv9' vA vB
                    obtain ⟨j, b'', hj', rfl, hb'', hOy, hKy⟩ := hrel
                    by_cases hlz : j < zs.length
                    · obtain ⟨gy, rfl⟩ := own_head hOy hb'' (by omega)
                      obtain ⟨zy, fy⟩ := own_cell hOy hb'' hlz
                      go_wp2
                      go_roundw
                      case rel =>
                        obtain ⟨l'', e1, e2, e3⟩ := own_put hOy hb'' hlz rfl hKy
                        exact ⟨j + 1, l'', by omega, by go_num, e1, e2, e3⟩
                      case measure => simp [intOf]; omega
                    · obtain rfl : j = zs.length := by omega
                      have hW8 := (hW7.keep hKy (fun _ h => h)).apart (O' := NoB) (fun _ hf => hf.elim)
                      have hK8 := hK7.trans hKy (O := NoB) (fun k h hk => by have := h.1; omega)
                      clear hOy hKy hW7 hK7
                      go_wp2
                      go_roundw
                      case rel => exact ⟨k + 1, zs, A5, c5, by omega, Lib.hid hN.out.symm, rfl, by go_num, hW8, hK8⟩
                      case measure => simp [intOf]; omega
            · by_cases hk2k : kind = 2
              · subst hk2k
                have hN' := hN.out
                rw [if_neg hk0, if_neg hk1k, if_pos rfl] at hN'
                clear hN hk0 hk1k
                obtain ⟨y8, hy8⟩ : ∃ y, encL b.length ++ b = y := ⟨_, rfl⟩
                have hB8 := refbytes_any wq B b c' qr (by omega)
                rw [hy8] at hB8 hN'
                have HB8 := Lib.hid hB8
                obtain ⟨zs, hzs⟩ : ∃ zs, xs ++ y8 = zs := ⟨_, rfl⟩
                rw [hzs] at hN'
                have hN := Lib.hid hN'
                have HZ : Hid (zs = xs ++ (encL b.length ++ b)) := by show _ = _; rw [hy8]; exact hzs.symm
                clear hB8 hy8
                clear hN'
                go_wp2_with fail
                refine HB8.out.mono ?_
                rintro e w2 ⟨v8, rfl, hv8, hk2⟩
                obtain ⟨A8, c8, rfl, _, r8, _⟩ := hv8.form
                have hW2 := hW1.keep hk2 (fun _ hf => hf.elim)
                have hv62 := hv6'.keep hk2 (fun _ _ => id)
                have hK2 := keepN hK1 hk2
                have hO2 : ∀ k, Btw wo w1 k → k < w2.heap.size := fun k h => Nat.lt_of_lt_of_le (hOq k h) hk2.size
                have hl8 := congrArg List.length hzs
                rw [List.length_append] at hl8
                have hz9 : zs.length ≤ 20900 := by
                  have h1 := hT.out (k + 1); have h2 := hT2.out (k + 1)
                  rw [hN.out, List.length_take] at h1
                  omega
                go_wp2_with (at_builtin; refine wpList_append_rd _ rfl _ _ rfl (.slice A4 xs.length c4) xs y8 A8 c8 rfl hW2.own rfl r8 (by omega) ?_; intro v' w3 h3own hg3 hat3; obtain ⟨hW3, hk3⟩ := hW2.appended hO2 hK2.size h3own hg3 hat3; rw [hzs] at h3own hW3; obtain ⟨A5, c5, rfl⟩ := own_form h3own; have hv63 := own_oth hv62 hk3; have hK3 := keep_oth hK2 hk3; have hO3 : ∀ k, Btw wo w1 k → k < w3.heap.size := (fun k h => Nat.lt_of_lt_of_le (hO2 k h) hk3.size); have hQ := HO.keep hK3; obtain ⟨p0, _, p2, p3, _, p5, pr, _⟩ := hQ; dsimp only at p0 p2 p3 p5 pr; clear h3own hg3 hat3)
                have hl9 := encL_len b.length
                refine (wst_bytes w w3 tb (Btw wo w1) _ xs zs zs b A6 c6 hW3 hv63 hO3 hK3.size (by omega) HZ).mono ?_
                rintro e w4 ⟨rfl, hW4, hk4⟩
                have hv64 := own_oth hv63 hk4
                have hK4 := keep_oth hK3 hk4
                clear hW3 hv63 hK3 p0 p2 p3 p5 pr hW2 hv62 hK2 hk2 hk3 hk4 hW1 hv6' hK1 hv8 r8 q0 q2 q3 q5 qr hzs hl8
                have hzl : zs.length ≤ 20900 := by
                  have h1 := hT.out (k + 1); have h2 := hT2.out (k + 1)
                  rw [hN.out, List.length_take] at h1
                  omega
                obtain ⟨_, _, _, _, _, q5, qr, _⟩ := HO.keep hK4
                dsimp only at q5 qr
                have hcA : ∀ n, (convert 27 9 (.slice A6 b.length c6)).run Try.prog (w4.drewN n) = .ok (.string (str b)) (w4.drewN n) := fun n => by
                  obtain ⟨_, _, e6, _, r6, _⟩ := (hv64.keep ((Keep.refl NoB w4).drewN n) (fun _ _ => id)).form
                  simp only [Value.slice.injEq, true_and] at e6
                  obtain ⟨rfl, rfl⟩ := e6
                  exact conv_rd r6
                have hcB : ∀ n, (convert 27 9 (.slice B b.length c')).run Try.prog (w4.drewN n) = .ok (.string (str b)) (w4.drewN n) := fun n => conv_rd (qr.keep ((Keep.refl NoB w4).drewN n) (fun _ _ _ => id))
                have hbl9 : b.length ≤ 9223372036854775807 := by omega
                go_wp2
                go_quiet (fail)
                obtain ⟨w5, hw5⟩ : ∃ w5, w4.drewN nq = w5 := ⟨_, rfl⟩
                have hk5 : Keep NoB w4 w5 := hw5 ▸ (Keep.refl NoB w4).drewN nq
                rw [hw5]
                clear hw5 hcA hcB q5 qr
                replace hW4 := hW4.keep hk5 (fun _ hf => hf.elim)
                replace hv64 := hv64.keep hk5 (fun _ _ => id)
                replace hK4 := keepN hK4 hk5
                clear hk5
                go_wp2
                go_loopw [144] (fun i wx => ∃ (j : Nat) (b' : List UInt8), j ≤ b.length ∧ i = .int .i64 (j : Int) ∧ b'.length = b.length ∧ OwnB wx (Btw wo w1) (.slice A6 b.length c6) b' ∧ Keep (Btw wo w1) w5 wx) (fun i _ => b.length - (intOf i).toNat)
                case atStart => exact ⟨0, b, Nat.zero_le _, rfl, rfl, hv64, Keep.refl _ _⟩
                case round =>
                  clear hv64
                  obtain ⟨j, b', hj, rfl, hb', hOx, hKx⟩ := hrel
                  by_cases hlj : j < b.length
                  · obtain ⟨gx, rfl⟩ := own_head hOx hb' (by omega)
                    obtain ⟨zx, fx⟩ := own_cell hOx hb' hlj
                    go_wp2
                    go_roundw
                    case rel =>
                      obtain ⟨l'', e1, e2, e3⟩ := own_put hOx hb' hlj rfl hKx
                      exact ⟨j + 1, l'', by omega, by go_num, e1, e2, e3⟩
                    case measure => simp [intOf]; omega
                  · obtain rfl : j = b.length := by omega
                    obtain ⟨wp, rfl⟩ : ∃ wp, wp = wr := ⟨_, rfl⟩
                    have hW6 := hW4.keep hKx (fun _ h => h)
                    have hK6 : Keep NoB w wp := hK4.trans hKx (fun k h hk => by have := h.1; omega)
                    clear hOx hKx hW4 hK4
                    go_wp2_with fail
                    refine (wst_all w wp tb (Btw wo w1) _ zs zs hW6 (by omega)).mono ?_
                    rintro e w7 ⟨A9, c9, rfl, hv9, hk9⟩
                    have hv9' : OwnB w7 (Btw wp w7) (.slice A9 zs.length c9) zs := hv9.mono (fun k h1 h2 => ⟨h1, h2⟩)
                    have hW7 := (hW6.apart (O' := Btw wp w7) (fun k h => h.1)).keep hk9 (fun _ hf => hf.elim)
                    have hK7 := keepN hK6 hk9
                    obtain ⟨_, _, e9, _, r9, _⟩ := hv9.form
                    simp only [Value.slice.injEq, true_and] at e9
                    obtain ⟨rfl, rfl⟩ := e9
                    obtain ⟨_, _, e5, r5⟩ := hW7.form
                    simp only [Value.slice.injEq, true_and] at e5
                    obtain ⟨rfl, rfl⟩ := e5
                    have vA := conv_rd (c := c9) r9
                    have vB := conv_rd (c := c5) r5
                    have hs6 := hK6.size
                    clear hW6 hK6 hv9 r9 r5 hk9
                    go_wp2
                    go_loopw [162] (fun i wx => ∃ (j : Nat) (b' : List UInt8), j ≤ zs.length ∧ i = .int .i64 (j : Int) ∧ b'.length = zs.length ∧ OwnB wx (Btw wp w7) (.slice A9 zs.length c9) b' ∧ Keep (Btw wp w7) w7 wx) (fun i _ => zs.length - (intOf i).toNat)
                    case atStart => exact ⟨0, zs, Nat.zero_le _, rfl, rfl, hv9', Keep.refl _ _⟩
                    case round =>
                      clear hv9' vA vB
                      obtain ⟨j, b'', hj', rfl, hb'', hOy, hKy⟩ := hrel
                      by_cases hlz : j < zs.length
                      · obtain ⟨gy, rfl⟩ := own_head hOy hb'' (by omega)
                        obtain ⟨zy, fy⟩ := own_cell hOy hb'' hlz
                        go_wp2
                        go_roundw
                        case rel =>
                          obtain ⟨l'', e1, e2, e3⟩ := own_put hOy hb'' hlz rfl hKy
                          exact ⟨j + 1, l'', by omega, by go_num, e1, e2, e3⟩
                        case measure => simp [intOf]; omega
                      · obtain rfl : j = zs.length := by omega
                        have hW8 := (hW7.keep hKy (fun _ h => h)).apart (O' := NoB) (fun _ hf => hf.elim)
                        have hK8 := hK7.trans hKy (O := NoB) (fun k h hk => by have := h.1; omega)
                        clear hOy hKy hW7 hK7
                        go_wp2
                        go_roundw
                        case rel => exact ⟨k + 1, zs, A5, c5, by omega, Lib.hid hN.out.symm, rfl, by go_num, hW8, hK8⟩
                        case measure => simp [intOf]; omega
              · have hN' := hN.out
                rw [if_neg hk0, if_neg hk1k, if_neg hk2k, List.append_nil] at hN'
                have t0 : (kind == 0) = false := by rw [beq_eq_false_iff_ne]; exact hk0
                have t1 : (kind == 1) = false := by rw [beq_eq_false_iff_ne]; exact hk1k
                have t2 : (kind == 2) = false := by rw [beq_eq_false_iff_ne]; exact hk2k
                clear hN hk0 hk1k hk2k
                obtain ⟨zs, rfl⟩ : ∃ zs, zs = xs := ⟨_, rfl⟩
                have hN := Lib.hid hN'
                clear hN'
                obtain ⟨A5, rfl⟩ : ∃ A5, A5 = A4 := ⟨_, rfl⟩
                obtain ⟨c5, rfl⟩ : ∃ c5, c5 = c4 := ⟨_, rfl⟩
                obtain ⟨w4, rfl⟩ : ∃ w4, w4 = wq := ⟨_, rfl⟩
                have hW4 := hW1
                have hv64 := hv6'
                have hK4 := hK1
                clear hW1 hv6' hK1
                have hzl : zs.length ≤ 20900 := by
                  have h1 := hT.out (k + 1); have h2 := hT2.out (k + 1)
                  rw [hN.out, List.length_take] at h1
                  omega
                obtain ⟨_, _, _, _, _, q5, qr, _⟩ := HO.keep hK4
                dsimp only at q5 qr
                have hcA : ∀ n, (convert 27 9 (.slice A6 b.length c6)).run Try.prog (w4.drewN n) = .ok (.string (str b)) (w4.drewN n) := fun n => by
                  obtain ⟨_, _, e6, _, r6, _⟩ := (hv64.keep ((Keep.refl NoB w4).drewN n) (fun _ _ => id)).form
                  simp only [Value.slice.injEq, true_and] at e6
                  obtain ⟨rfl, rfl⟩ := e6
                  exact conv_rd r6
                have hcB : ∀ n, (convert 27 9 (.slice B b.length c')).run Try.prog (w4.drewN n) = .ok (.string (str b)) (w4.drewN n) := fun n => conv_rd (qr.keep ((Keep.refl NoB w4).drewN n) (fun _ _ _ => id))
                have hbl9 : b.length ≤ 9223372036854775807 := by omega
                go_wp2
                go_quiet (fail)
                obtain ⟨w5, hw5⟩ : ∃ w5, w4.drewN nq = w5 := ⟨_, rfl⟩
                have hk5 : Keep NoB w4 w5 := hw5 ▸ (Keep.refl NoB w4).drewN nq
                rw [hw5]
                clear hw5 hcA hcB q5 qr
                replace hW4 := hW4.keep hk5 (fun _ hf => hf.elim)
                replace hv64 := hv64.keep hk5 (fun _ _ => id)
                replace hK4 := keepN hK4 hk5
                clear hk5
                go_wp2
                go_loopw [144] (fun i wx => ∃ (j : Nat) (b' : List UInt8), j ≤ b.length ∧ i = .int .i64 (j : Int) ∧ b'.length = b.length ∧ OwnB wx (Btw wo w1) (.slice A6 b.length c6) b' ∧ Keep (Btw wo w1) w5 wx) (fun i _ => b.length - (intOf i).toNat)
                case atStart => exact ⟨0, b, Nat.zero_le _, rfl, rfl, hv64, Keep.refl _ _⟩
                case round =>
                  clear hv64
                  obtain ⟨j, b', hj, rfl, hb', hOx, hKx⟩ := hrel
                  by_cases hlj : j < b.length
                  · obtain ⟨gx, rfl⟩ := own_head hOx hb' (by omega)
                    obtain ⟨zx, fx⟩ := own_cell hOx hb' hlj
                    go_wp2
                    go_roundw
                    case rel =>
                      obtain ⟨l'', e1, e2, e3⟩ := own_put hOx hb' hlj rfl hKx
                      exact ⟨j + 1, l'', by omega, by go_num, e1, e2, e3⟩
                    case measure => simp [intOf]; omega
                  · obtain rfl : j = b.length := by omega
                    obtain ⟨wp, rfl⟩ : ∃ wp, wp = wr := ⟨_, rfl⟩
                    have hW6 := hW4.keep hKx (fun _ h => h)
                    have hK6 : Keep NoB w wp := hK4.trans hKx (fun k h hk => by have := h.1; omega)
                    clear hOx hKx hW4 hK4
                    go_wp2_with fail
                    refine (wst_all w wp tb (Btw wo w1) _ zs zs hW6 (by omega)).mono ?_
                    rintro e w7 ⟨A9, c9, rfl, hv9, hk9⟩
                    have hv9' : OwnB w7 (Btw wp w7) (.slice A9 zs.length c9) zs := hv9.mono (fun k h1 h2 => ⟨h1, h2⟩)
                    have hW7 := (hW6.apart (O' := Btw wp w7) (fun k h => h.1)).keep hk9 (fun _ hf => hf.elim)
                    have hK7 := keepN hK6 hk9
                    obtain ⟨_, _, e9, _, r9, _⟩ := hv9.form
                    simp only [Value.slice.injEq, true_and] at e9
                    obtain ⟨rfl, rfl⟩ := e9
                    obtain ⟨_, _, e5, r5⟩ := hW7.form
                    simp only [Value.slice.injEq, true_and] at e5
                    obtain ⟨rfl, rfl⟩ := e5
                    have vA := conv_rd (c := c9) r9
                    have vB := conv_rd (c := c5) r5
                    have hs6 := hK6.size
                    clear hW6 hK6 hv9 r9 r5 hk9
                    go_wp2
                    go_loopw [162] (fun i wx => ∃ (j : Nat) (b' : List UInt8), j ≤ zs.length ∧ i = .int .i64 (j : Int) ∧ b'.length = zs.length ∧ OwnB wx (Btw wp w7) (.slice A9 zs.length c9) b' ∧ Keep (Btw wp w7) w7 wx) (fun i _ => zs.length - (intOf i).toNat)
                    case atStart => exact ⟨0, zs, Nat.zero_le _, rfl, rfl, hv9', Keep.refl _ _⟩
                    case round =>
                      clear hv9' vA vB
                      obtain ⟨j, b'', hj', rfl, hb'', hOy, hKy⟩ := hrel
                      by_cases hlz : j < zs.length
                      · obtain ⟨gy, rfl⟩ := own_head hOy hb'' (by omega)
                        obtain ⟨zy, fy⟩ := own_cell hOy hb'' hlz
                        go_wp2
                        go_roundw
                        case rel =>
                          obtain ⟨l'', e1, e2, e3⟩ := own_put hOy hb'' hlz rfl hKy
                          exact ⟨j + 1, l'', by omega, by go_num, e1, e2, e3⟩
                        case measure => simp [intOf]; omega
                      · obtain rfl : j = zs.length := by omega
                        have hW8 := (hW7.keep hKy (fun _ h => h)).apart (O' := NoB) (fun _ hf => hf.elim)
                        have hK8 := hK7.trans hKy (O := NoB) (fun k h hk => by have := h.1; omega)
                        clear hOy hKy hW7 hK7
                        go_wp2
                        go_roundw
                        case rel => exact ⟨k + 1, zs, A5, c5, by omega, Lib.hid hN.out.symm, rfl, by go_num, hW8, hK8⟩
                        case measure => simp [intOf]; omega
        · obtain rfl : k = l.length := by omega
          obtain ⟨_, _, e5, r5⟩ := hW.form
          simp only [Value.slice.injEq, true_and] at e5
          obtain ⟨rfl, rfl⟩ := e5
          have HQ := Lib.hid (fun (w' : World) (hk : Keep NoB wr w') => conv_rd (c := c4) (r5.keep hk (fun _ _ _ => id)))
          have hkd : Keep NoB wr wr.drew := (Keep.refl NoB wr).drew
          have hWd := hW.keep hkd (fun _ hf => hf.elim)
          go_wp2
          go_region_held (fun w' => (convert 27 9 (.slice A4 xs.length c4)).run Try.prog w' = .ok (.string (str xs)) w')
            (first | exact HQ.out _ hkd | exact HQ.out _ (keepN hkd hk7))
            ((go_at_call 23; refine (wst_all w wr.drew tb NoB _ xs xs hWd (by omega)).mono ?_; rintro e w7 ⟨A9, c9, rfl, hv9, hk7⟩; obtain ⟨_, _, e9, _, r9, _⟩ := hv9.form; simp only [Value.slice.injEq, true_and] at e9; obtain ⟨rfl, rfl⟩ := e9; have hcv := conv_rd (c := c9) r9))
          all_goals go_wp2
          all_goals go_ret
          all_goals exact ⟨rfl, keepN hK.drew hk7⟩
  · go_enter Try.func3, Try.ntmps3
    go_wp2_with fail
    refine (great_long w A l c ho hlen (by omega)).mono ?_
    rintro e w2 ⟨rfl, rfl⟩
    go_wp2
    go_ret
    exact ⟨rfl, Keep.refl _ _⟩

end Go.Proofs.Ytfdgdheopifnjaa
