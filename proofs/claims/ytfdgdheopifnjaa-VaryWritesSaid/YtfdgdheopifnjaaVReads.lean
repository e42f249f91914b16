/-
  VaryReads: whatever bytes, and calls, the law returns true. Conditions: the slices lie in memory.
-/
import Derived.Test.YtfdgdheopifnjaaVReadsU
import Derived.Test.YtfdgdheopifnjaaVBack2
namespace Go.Proofs.Ytfdgdheopifnjaa
open Go.RowKit

/-- Blocks laid between two worlds. -/
def Btw (w w' : World) : Nat → Prop := fun k => w.heap.size ≤ k ∧ k < w'.heap.size

theorem vnumber_at (w : World) (br : Nat) (O : Nat → Prop) (s : List UInt8) (p n : Nat) (h : ReelAt w br O s p) (hlen : s.length ≤ 140737488355328) (v er q : Nat) (hs : Hid (NumR s p n = (v, er, q))) :
    Calls Try.prog 25 #[.pointer (some ⟨br, 0, none⟩), .int .u64 (n : Int)] w fun e w' => e = .returned (.tuple #[.int .u64 (v : Int), .int .i64 (er : Int)]) ∧ ReelAt w' br O s q ∧ Keep (fun k => k = br) w w' := by
  have := rnumber_any w br O s p n h hlen
  rw [hs.out] at this
  exact this
theorem vsigned_at (w : World) (br : Nat) (O : Nat → Prop) (s : List UInt8) (p : Nat) (lo hi : Int) (h : ReelAt w br O s p) (hlen : s.length ≤ 140737488355328) (v : Int) (er q : Nat) (hs : Hid (SigR s p lo hi = (v, er, q))) :
    Calls Try.prog 27 #[.pointer (some ⟨br, 0, none⟩), .int .i64 lo, .int .i64 hi] w fun e w' => e = .returned (.tuple #[.int .i64 v, .int .i64 (er : Int)]) ∧ ReelAt w' br O s q ∧ Keep (fun k => k = br) w w' := by
  have := rsigned_any w br O s p lo hi h hlen
  rw [hs.out] at this
  exact this
theorem dnumber_at (w : World) (br : Nat) (O : Nat → Prop) (s : List UInt8) (p n : Nat) (h : RefAt w br O s p) (hlen : s.length ≤ 140737488355328) (v er q : Nat) (hs : Hid (NumR s p n = (v, er, q))) :
    Calls Try.prog 26 #[.pointer (some ⟨br, 0, none⟩), .int .u64 (n : Int)] w fun e w' => e = .returned (.tuple #[.int .u64 (v : Int), .int .i64 (er : Int)]) ∧ RefAt w' br O s q ∧ Keep (fun k => k = br) w w' := by
  have := refnumber_any w br O s p n h hlen
  rw [hs.out] at this
  exact this
theorem dsigned_at (w : World) (br : Nat) (O : Nat → Prop) (s : List UInt8) (p : Nat) (lo hi : Int) (h : RefAt w br O s p) (hlen : s.length ≤ 140737488355328) (v : Int) (er q : Nat) (hs : Hid (SigR s p lo hi = (v, er, q))) :
    Calls Try.prog 28 #[.pointer (some ⟨br, 0, none⟩), .int .i64 lo, .int .i64 hi] w fun e w' => e = .returned (.tuple #[.int .i64 v, .int .i64 (er : Int)]) ∧ RefAt w' br O s q ∧ Keep (fun k => k = br) w w' := by
  have := refsigned_any w br O s p lo hi h hlen
  rw [hs.out] at this
  exact this

theorem at_same (w : World) (br : Nat) (O : Nat → Prop) (l : List UInt8) (p : Nat) (h : ReelAt w br O l p) :
    Calls Try.prog 33 #[.pointer (some ⟨br, 0, none⟩)] w fun e w' => e = .returned (.int .i64 p) ∧ w' = w :=
  (at_any w br O l p h).mono fun _ _ ⟨h1, h2⟩ => ⟨h1, h2.symm⟩

theorem RefAt.new {w : World} {A : Option Addr} {l : List UInt8} {c : Nat} {O : Nat → Prop} (h : OwnB w O (.slice A l.length c) l) (hO : O w.heap.size) :
    RefAt (w.alloc (.cells #[.slice A l.length c, .int .i64 0] 45)) w.heap.size O l 0 := by
  obtain ⟨A', c', e, hc, hr, hA, hm⟩ := h.form
  simp only [Value.slice.injEq, true_and] at e
  obtain ⟨rfl, rfl⟩ := e
  refine ⟨hO, Nat.zero_le _, A, c, Blk.new _ _ _, hr.keep ((Keep.refl NoB w).alloc _) (fun _ _ _ => id), hc, hm, fun ad e => ⟨(hA ad e).1, ?_⟩⟩
  have := (h.1.lt ad.block (by rw [e]; rfl)).2
  simp; omega

set_option maxRecDepth 100000 in
set_option maxHeartbeats 16000000 in
theorem reads_walk (w : World) (A0 : Option Addr) (b : List UInt8) (c0 : Nat) (A : Option Addr) (l : List OpV) (c : Nat) (hr : Rd w A0 b) (ho : Ops w A l) (hlen : l.length ≤ 9223372036854775807) (hb : ∀ o ∈ l, o.b.length ≤ 140737488355328) (hb0 : b.length ≤ 140737488355328) :
    Calls Try.prog 4 #[.slice A0 b.length c0, .slice A l.length c] w fun e w' => e = .returned (.bool true) ∧ Keep NoB w w' := by
  by_cases hl : l.length ≤ 100
  · by_cases ht : 20000 < total l
    · go_enter Try.func4, Try.ntmps4
      go_wp2_with fail
      refine (great_short w A l c ho hl hb true (by show _ = _; simp [ht])).mono ?_
      rintro e w2 ⟨rfl, rfl⟩
      go_wp2
      go_ret
      exact ⟨rfl, Keep.refl _ _⟩
    · by_cases hbl : 20000 < b.length
      · go_enter Try.func4, Try.ntmps4
        go_wp2_with fail
        refine (great_short w A l c ho hl hb false (by show _ = _; simp; omega)).mono ?_
        rintro e w2 ⟨rfl, rfl⟩
        go_wp2
        go_ret
        exact ⟨rfl, Keep.refl _ _⟩
      · go_enter Try.func4, Try.ntmps4
        go_wp2_with fail
        refine (great_short w A l c ho hl hb false (by show _ = _; simp; omega)).mono ?_
        rintro e w2 ⟨rfl, rfl⟩
        go_wp2_with fail
        refine (twin_any w A0 b c0 hr hb0).mono ?_
        rintro e w1 ⟨v1, rfl, hv1, hk1⟩
        have hv1' : OwnB w1 (Btw w w1) v1 b := ⟨hv1.1, fun g e => ⟨hv1.2 g e, (hv1.1.lt g e).2⟩⟩
        obtain ⟨A1, c1, rfl, hc1, hr1, _⟩ := hv1.form
        clear hv1
        go_wp2_with fail
        refine (on_any w1 A1 b c1 hr1 hb0).mono ?_
        rintro e w2 ⟨br, rfl, hR2, hk2⟩
        have hR2' : ReelAt w2 br (Btw w1 w2) b 0 := hR2.mono (fun k h1 h2 => ⟨h1, h2⟩)
        clear hR2
        go_wp2_with fail
        refine (twin_any w2 A0 b c0 ((hr.keep hk1 (fun _ _ _ => id)).keep hk2 (fun _ _ _ => id)) hb0).mono ?_
        rintro e w3 ⟨v3, rfl, hv3, hk3⟩
        obtain ⟨A3, c3, rfl, hc3, hr3, _⟩ := hv3.form
        have hS := RefAt.new hv3 hk3.size
        have hRa := (hR2'.keep hk3 (fun _ _ => id)).keep ((Keep.refl NoB w3).alloc (.cells #[.slice A3 b.length c3, .int .i64 0] 45)) (fun _ _ => id)
        have hva := ((hv1'.keep hk2 (fun _ _ => id)).keep hk3 (fun _ _ => id)).keep ((Keep.refl NoB w3).alloc (.cells #[.slice A3 b.length c3, .int .i64 0] 45)) (fun _ _ => id)
        have hka := (keepN (keepN hk1 hk2) hk3).alloc (.cells #[.slice A3 b.length c3, .int .i64 0] 45)
        have hs1 := hk1.size
        have hs2 := hk2.size
        have hs3 := hk3.size
        clear hv3 hr3 hR2' hv1' hr1
        obtain ⟨wA, hwA⟩ : ∃ wA, w3.alloc (.cells #[.slice A3 b.length c3, .int .i64 0] 45) = wA := ⟨_, rfl⟩
        have hsz : wA.heap.size = w3.heap.size + 1 := by rw [← hwA]; simp
        obtain ⟨sr, hsr⟩ : ∃ sr, w3.heap.size = sr := ⟨_, rfl⟩
        rw [hsr] at hS
        rw [hwA] at hS hRa hva hka
        go_wp2_with fail
        try rw [hwA]
        try rw [hsr]
        clear hwA
        go_loopw [46] (fun i wr => ∃ (k : Nat) (l' : List UInt8), k ≤ b.length ∧ i = .int .i64 (k : Int) ∧ l'.length = b.length ∧ OwnB wr (Btw w w1) (.slice A1 b.length c1) l' ∧ Keep (Btw w w1) wA wr) (fun i _ => b.length - (intOf i).toNat)
        case atStart => exact ⟨0, b, Nat.zero_le _, rfl, rfl, hva, Keep.refl _ _⟩
        case round =>
          obtain ⟨k, l', hk, rfl, hl', hO, hK⟩ := hrel
          by_cases hlt : k < b.length
          · obtain ⟨g, rfl⟩ := own_head hO hl' (by omega)
            obtain ⟨z, fz⟩ := own_cell hO hl' hlt
            go_wp2
            go_roundw
            case rel =>
              obtain ⟨l'', e1, e2, e3⟩ := own_put hO hl' hlt rfl hK
              exact ⟨k + 1, l'', by omega, by go_num, e1, e2, e3⟩
            case measure => simp [intOf]; omega
          · obtain rfl : k = b.length := by omega
            have hRb := hRa.keep hK (fun k h1 h2 => by have := h1.1; have := h2.2; omega)
            have hSb := (hS.mono (O' := Btw w2 wA) (fun k h1 h2 => ⟨h1, h2⟩)).keep hK (fun k h1 h2 => by have := h1.1; have := h2.2; omega)
            have hKb : Keep NoB w wr := hka.trans hK (fun k h hk => by have := h.1; omega)
            have hsb := hK.size
            clear hRa hS hka hva hO hK
            have hbr0 := hRb.1
            have hsr0 := hSb.1
            go_wp2_with fail
            go_loopw [58] (fun i wr => ∃ (k p : Nat), k ≤ l.length ∧ i = .int .i64 (k : Int) ∧ ReelAt wr br (Btw w1 w2) b p ∧ RefAt wr sr (Btw w2 wA) b p ∧ Keep NoB w wr ∧ wA.heap.size ≤ wr.heap.size) (fun i _ => l.length - (intOf i).toNat)
            case atStart => exact ⟨0, 0, Nat.zero_le _, rfl, hRb, hSb, hKb, hsb⟩
            case round =>
              clear hRb hSb hKb hsb
              obtain ⟨k, p, hkl, rfl, hR, hS, hK, hZ⟩ := hrel
              have hdr : ∀ k, Btw w1 w2 k → ¬ k = sr := fun k h1 e => by subst e; have := h1.2; have := hsr0.1; omega
              have hds : ∀ k, Btw w2 wA k → ¬ k = br := fun k h1 e => by subst e; have := h1.1; have := hbr0.2; omega
              have hdn : ∀ k, k = br ∨ k = sr → k < w.heap.size → NoB k := fun k h1 h2 => by have := hbr0.1; have := hsr0.1; omega
              by_cases hlt : k < l.length
              · obtain ⟨g, off, rfl, hi⟩ := ho.2 (by omega)
                have hok := ho.1 l[k] (List.getElem_mem _)
                have HO := hi k hlt
                obtain ⟨o, hoe⟩ : ∃ o, l[k] = o := ⟨_, rfl⟩
                rw [hoe] at HO hok
                clear hoe hi
                obtain ⟨kind, m, n, lo, hi', B, bb, c'⟩ := o
                obtain ⟨_, okm, okn, okl, okh⟩ := hok
                dsimp only at okm okn okl okh
                obtain ⟨q0, _⟩ := HO.keep hK
                dsimp only at q0
                by_cases hk0 : kind = 0
                · subst hk0
                  obtain ⟨⟨v, er, q⟩, hs⟩ : ∃ t, NumR b p n = t := ⟨_, rfl⟩
                  have HS := Lib.hid hs
                  clear hs
                  obtain ⟨_, _, q2, _⟩ := HO.keep hK
                  dsimp only at q2
                  go_wp2_with fail
                  refine (vnumber_at wr br _ b p n hR hb0 v er q HS).mono ?_
                  rintro e w4 ⟨rfl, h4, hk4⟩
                  have g4 := hS.keep hk4 hds
                  have hK4 : Keep NoB w w4 := hK.trans hk4 (fun k e hk => hdn k (.inl e) hk)
                  obtain ⟨_, _, q2, _⟩ := HO.keep hK4
                  dsimp only at q2
                  go_wp2_with fail
                  refine (dnumber_at w4 sr _ b p n g4 hb0 v er q HS).mono ?_
                  rintro e w5 ⟨rfl, g5, hk5'⟩
                  have h5 := h4.keep hk5' hdr
                  have hk5 : Keep NoB w w5 := hK4.trans hk5' (fun k e hk => hdn k (.inr e) hk)
                  have hz5 : wA.heap.size ≤ w5.heap.size := Nat.le_trans hZ (Nat.le_trans hk4.size hk5'.size)
                  obtain ⟨E, hE⟩ : ∃ E, Hid (E = if q < b.length then 13 else 0) := ⟨_, Lib.hid rfl⟩
                  obtain ⟨_, _, hb5, _⟩ := g5.cells
                  have z5 := hb5.cell 1
                  simp at z5
                  clear hb5 hK4 h4 g4 hk4 hk5' hS hR hK hZ
                  go_wp2
                  go_quiet (first | (go_at_call 33; exact Calls.quiet_of_same (at_same _ br _ b q (h5.keep ((Keep.refl NoB _).drewN _) (fun _ _ => id)))) | (go_at_call 34; exact Calls.quiet_of (end_quiet _ br _ b q (h5.keep ((Keep.refl NoB _).drewN _) (fun _ _ => id)) E hE)) | (go_at_call 35; exact Calls.quiet_of (refend_any _ sr _ b q (g5.keep ((Keep.refl NoB _).drewN _) (fun _ _ => id)) E hE)))
                  go_wp2
                  go_roundw
                  case rel => exact ⟨k + 1, q, by omega, by go_num, h5.keep ((Keep.refl NoB _).drewN _) (fun _ _ => id), g5.keep ((Keep.refl NoB _).drewN _) (fun _ _ => id), hk5.drewN _, hz5⟩
                  case measure => simp [intOf]; omega
                · by_cases hk1 : kind = 1
                  · subst hk1
                    clear hk0
                    obtain ⟨⟨v, er, q⟩, hs⟩ : ∃ t, SigR b p lo hi' = t := ⟨_, rfl⟩
                    have HS := Lib.hid hs
                    clear hs
                    have HQ : Hid (∀ w', Keep NoB w w' → w'.cell? ⟨g, off + k * 6 + 3, none⟩ = some (.int .i64 lo) ∧ w'.cell? ⟨g, off + k * 6 + 4, none⟩ = some (.int .i64 hi')) := by
                      show ∀ _, _ → _
                      intro w' hk'
                      obtain ⟨_, _, _, q3, q4, _⟩ := HO.keep hk'
                      exact ⟨q3, q4⟩
                    have hkk0 : (0 : Int) ≤ (k : Int) := by omega
                    have hkk1 : (k : Int) < (l.length : Int) := by omega
                    have hRd := hR.keep ((Keep.refl NoB wr).drew) (fun _ _ => id)
                    have hKd := hK.drew
                    obtain ⟨q3, q4⟩ := HQ.out _ hK
                    go_wp2
                    go_region_held (fun w' => w'.cell? ⟨g, off + k * 6 + 3, none⟩ = some (.int .i64 lo) ∧ w'.cell? ⟨g, off + k * 6 + 4, none⟩ = some (.int .i64 hi'))
                      (first | exact HQ.out _ hKd | exact HQ.out _ hK4)
                      ((go_at_call 27; refine (vsigned_at wr.drew br _ b p lo hi' hRd hb0 v er q HS).mono ?_; rintro e w4 ⟨rfl, h4, hk4'⟩; have hK4 : Keep NoB w w4 := hKd.trans hk4' (fun k e hk => hdn k (.inl e) hk)))
                    have hk4 : Keep (fun k => k = br) wr w4 := ((Keep.refl _ wr).drew).trans hk4' (fun _ h _ => h)
                    have g4 := hS.keep hk4 hds
                    have g4d := g4.keep ((Keep.refl NoB w4).drew) (fun _ _ => id)
                    have hK4d := hK4.drew
                    clear q3 q4
                    obtain ⟨q3, q4⟩ := HQ.out _ hK4
                    go_wp2
                    go_region_held (fun w' => w'.cell? ⟨g, off + k * 6 + 3, none⟩ = some (.int .i64 lo) ∧ w'.cell? ⟨g, off + k * 6 + 4, none⟩ = some (.int .i64 hi'))
                      (first | exact HQ.out _ hK4d | exact HQ.out _ hk5)
                      ((go_at_call 28; refine (dsigned_at w4.drew sr _ b p lo hi' g4d hb0 v er q HS).mono ?_; rintro e w5 ⟨rfl, g5, hk5''⟩; have hk5 : Keep NoB w w5 := hK4d.trans hk5'' (fun k e hk => hdn k (.inr e) hk)))
                    have hk5' : Keep (fun k => k = sr) w4 w5 := ((Keep.refl _ w4).drew).trans hk5'' (fun _ h _ => h)
                    have h5 := h4.keep hk5' hdr
                    have hz5 : wA.heap.size ≤ w5.heap.size := Nat.le_trans hZ (Nat.le_trans hk4.size hk5'.size)
                    obtain ⟨E, hE⟩ : ∃ E, Hid (E = if q < b.length then 13 else 0) := ⟨_, Lib.hid rfl⟩
                    obtain ⟨_, _, hb5, _⟩ := g5.cells
                    have z5 := hb5.cell 1
                    simp at z5
                    clear hb5
                    clear hK4 h4 g4 hk4 hk5' hS hR hK hZ hRd g4d hk4' hk5'' hK4d hKd q3 q4 HQ
                    go_wp2
                    go_quiet (first | (go_at_call 33; exact Calls.quiet_of_same (at_same _ br _ b q (h5.keep ((Keep.refl NoB _).drewN _) (fun _ _ => id)))) | (go_at_call 34; exact Calls.quiet_of (end_quiet _ br _ b q (h5.keep ((Keep.refl NoB _).drewN _) (fun _ _ => id)) E hE)) | (go_at_call 35; exact Calls.quiet_of (refend_any _ sr _ b q (g5.keep ((Keep.refl NoB _).drewN _) (fun _ _ => id)) E hE)))
                    go_wp2
                    go_roundw
                    case rel => exact ⟨k + 1, q, by omega, by go_num, h5.keep ((Keep.refl NoB _).drewN _) (fun _ _ => id), g5.keep ((Keep.refl NoB _).drewN _) (fun _ _ => id), hk5.drewN _, hz5⟩
                    case measure => simp [intOf]; omega
                  · by_cases hk2 : kind = 2
                    · subst hk2
                      clear hk0 hk1
                      obtain ⟨⟨x, er, q⟩, hs⟩ : ∃ t, BytR b p (max m 0).toNat = t := ⟨_, rfl⟩
                      have HS := Lib.hid hs
                      clear hs
                      obtain ⟨_, q1, _⟩ := HO.keep hK
                      dsimp only at q1
                      go_wp2_with fail
                      refine (ubytes wr br _ b p m hR hb0 okm.1 okm.2 x er q HS).mono ?_
                      rintro e w4 ⟨Ax, cx, rfl, hx0, h4, hk4⟩
                      have hx4 : OwnB w4 (Btw wr w4) (.slice Ax x.length cx) x := hx0.mono (fun k h1 h2 => ⟨h1, h2⟩)
                      have g4 := hS.keep hk4 hds
                      have hK4 : Keep NoB w w4 := hK.trans hk4 (fun k e hk => hdn k (.inl e) hk)
                      obtain ⟨_, q1, _⟩ := HO.keep hK4
                      dsimp only at q1
                      go_wp2_with fail
                      refine (urefbytes w4 sr _ b p m g4 hb0 okm.1 okm.2 x er q HS).mono ?_
                      rintro e w5 ⟨Ay, cy, rfl, hy5, g5, hk5'⟩
                      have h5 := h4.keep hk5' hdr
                      have hk5 : Keep NoB w w5 := hK4.trans hk5' (fun k e hk => hdn k (.inr e) hk)
                      have hz5 : wA.heap.size ≤ w5.heap.size := Nat.le_trans hZ (Nat.le_trans hk4.size hk5'.size)
                      have hx5 := hx4.keep hk5' (fun k h1 e => by subst e; have := h1.1; have := hsr0.2; omega)
                      obtain ⟨_, _, ex, _, rx, _⟩ := hx5.form
                      obtain ⟨_, _, ey, _, ry, _⟩ := hy5.form
                      simp only [Value.slice.injEq, true_and] at ex ey
                      obtain ⟨rfl, rfl⟩ := ex
                      obtain ⟨rfl, rfl⟩ := ey
                      have vx := conv_rd (c := cx) rx
                      have vy := conv_rd (c := cy) ry
                      have hxl : x.length ≤ 9223372036854775807 := by have := hx5.le; unfold maxLen at this; omega
                      clear hK4 h4 g4 hk4 hk5' hS hR hK hx0 hx4 hy5 rx ry
                      go_wp2_with fail
                      go_loopw [170] (fun i wq => ∃ (j : Nat) (x' : List UInt8), j ≤ x.length ∧ i = .int .i64 (j : Int) ∧ x'.length = x.length ∧ OwnB wq (Btw wr w4) (.slice Ax x.length cx) x' ∧ Keep (Btw wr w4) w5 wq) (fun i _ => x.length - (intOf i).toNat)
                      case atStart => exact ⟨0, x, Nat.zero_le _, rfl, rfl, hx5, Keep.refl _ _⟩
                      case round =>
                        clear hx5 vx vy
                        obtain ⟨j, x', hj, rfl, hx', hO, hKq⟩ := hrel
                        by_cases hlj : j < x.length
                        · obtain ⟨gx, rfl⟩ := own_head hO hx' (by omega)
                          obtain ⟨zx, fx⟩ := own_cell hO hx' hlj
                          go_wp2
                          go_roundw
                          case rel =>
                            obtain ⟨l'', e1, e2, e3⟩ := own_put hO hx' hlj rfl hKq
                            exact ⟨j + 1, l'', by omega, by go_num, e1, e2, e3⟩
                          case measure => simp [intOf]; omega
                        · obtain rfl : j = x.length := by omega
                          replace h5 := h5.keep hKq (fun k h1 h2 => by have := h1.2; have := h2.1; omega)
                          replace g5 := g5.keep hKq (fun k h1 h2 => by have := h1.2; have := h2.1; omega)
                          replace hk5 := hk5.trans hKq (O := NoB) (fun k h hk => by have := h.1; omega)
                          replace hz5 := Nat.le_trans hz5 hKq.size
                          clear hO hKq
                          obtain ⟨E, hE⟩ : ∃ E, Hid (E = if q < b.length then 13 else 0) := ⟨_, Lib.hid rfl⟩
                          obtain ⟨_, _, hb5, _⟩ := g5.cells
                          have z5 := hb5.cell 1
                          simp at z5
                          clear hb5
                          go_wp2
                          go_quiet (first | (go_at_call 33; exact Calls.quiet_of_same (at_same _ br _ b q (h5.keep ((Keep.refl NoB _).drewN _) (fun _ _ => id)))) | (go_at_call 34; exact Calls.quiet_of (end_quiet _ br _ b q (h5.keep ((Keep.refl NoB _).drewN _) (fun _ _ => id)) E hE)) | (go_at_call 35; exact Calls.quiet_of (refend_any _ sr _ b q (g5.keep ((Keep.refl NoB _).drewN _) (fun _ _ => id)) E hE)))
                          go_wp2
                          go_roundw
                          case rel => exact ⟨k + 1, q, by omega, by go_num, h5.keep ((Keep.refl NoB _).drewN _) (fun _ _ => id), g5.keep ((Keep.refl NoB _).drewN _) (fun _ _ => id), hk5.drewN _, hz5⟩
                          case measure => simp [intOf]; omega
                    · by_cases hk3 : kind = 3
                      · subst hk3
                        clear hk0 hk1 hk2
                        obtain ⟨⟨x, er, q⟩, hs⟩ : ∃ t, RawR b p m = t := ⟨_, rfl⟩
                        have HS := Lib.hid hs
                        clear hs
                        obtain ⟨_, q1, _⟩ := HO.keep hK
                        dsimp only at q1
                        go_wp2_with fail
                        refine (uraw wr br _ b p m hR hb0 okm.2 x er q HS).mono ?_
                        rintro e w4 ⟨Ax, cx, rfl, hx0, h4, hk4⟩
                        have hx4 : OwnB w4 (Btw wr w4) (.slice Ax x.length cx) x := hx0.mono (fun k h1 h2 => ⟨h1, h2⟩)
                        have g4 := hS.keep hk4 hds
                        have hK4 : Keep NoB w w4 := hK.trans hk4 (fun k e hk => hdn k (.inl e) hk)
                        obtain ⟨_, q1, _⟩ := HO.keep hK4
                        dsimp only at q1
                        go_wp2_with fail
                        refine (urefraw w4 sr _ b p m g4 hb0 okm.2 x er q HS).mono ?_
                        rintro e w5 ⟨Ay, cy, rfl, hy5, g5, hk5'⟩
                        have h5 := h4.keep hk5' hdr
                        have hk5 : Keep NoB w w5 := hK4.trans hk5' (fun k e hk => hdn k (.inr e) hk)
                        have hz5 : wA.heap.size ≤ w5.heap.size := Nat.le_trans hZ (Nat.le_trans hk4.size hk5'.size)
                        have hx5 := hx4.keep hk5' (fun k h1 e => by subst e; have := h1.1; have := hsr0.2; omega)
                        obtain ⟨_, _, ex, _, rx, _⟩ := hx5.form
                        obtain ⟨_, _, ey, _, ry, _⟩ := hy5.form
                        simp only [Value.slice.injEq, true_and] at ex ey
                        obtain ⟨rfl, rfl⟩ := ex
                        obtain ⟨rfl, rfl⟩ := ey
                        have vx := conv_rd (c := cx) rx
                        have vy := conv_rd (c := cy) ry
                        have hxl : x.length ≤ 9223372036854775807 := by have := hx5.le; unfold maxLen at this; omega
                        clear hK4 h4 g4 hk4 hk5' hS hR hK hx0 hx4 hy5 rx ry
                        go_wp2_with fail
                        go_loopw [214] (fun i wq => ∃ (j : Nat) (x' : List UInt8), j ≤ x.length ∧ i = .int .i64 (j : Int) ∧ x'.length = x.length ∧ OwnB wq (Btw wr w4) (.slice Ax x.length cx) x' ∧ Keep (Btw wr w4) w5 wq) (fun i _ => x.length - (intOf i).toNat)
                        case atStart => exact ⟨0, x, Nat.zero_le _, rfl, rfl, hx5, Keep.refl _ _⟩
                        case round =>
                          clear hx5 vx vy
                          obtain ⟨j, x', hj, rfl, hx', hO, hKq⟩ := hrel
                          by_cases hlj : j < x.length
                          · obtain ⟨gx, rfl⟩ := own_head hO hx' (by omega)
                            obtain ⟨zx, fx⟩ := own_cell hO hx' hlj
                            go_wp2
                            go_roundw
                            case rel =>
                              obtain ⟨l'', e1, e2, e3⟩ := own_put hO hx' hlj rfl hKq
                              exact ⟨j + 1, l'', by omega, by go_num, e1, e2, e3⟩
                            case measure => simp [intOf]; omega
                          · obtain rfl : j = x.length := by omega
                            replace h5 := h5.keep hKq (fun k h1 h2 => by have := h1.2; have := h2.1; omega)
                            replace g5 := g5.keep hKq (fun k h1 h2 => by have := h1.2; have := h2.1; omega)
                            replace hk5 := hk5.trans hKq (O := NoB) (fun k h hk => by have := h.1; omega)
                            replace hz5 := Nat.le_trans hz5 hKq.size
                            clear hO hKq
                            obtain ⟨E, hE⟩ : ∃ E, Hid (E = if q < b.length then 13 else 0) := ⟨_, Lib.hid rfl⟩
                            obtain ⟨_, _, hb5, _⟩ := g5.cells
                            have z5 := hb5.cell 1
                            simp at z5
                            clear hb5
                            go_wp2
                            go_quiet (first | (go_at_call 33; exact Calls.quiet_of_same (at_same _ br _ b q (h5.keep ((Keep.refl NoB _).drewN _) (fun _ _ => id)))) | (go_at_call 34; exact Calls.quiet_of (end_quiet _ br _ b q (h5.keep ((Keep.refl NoB _).drewN _) (fun _ _ => id)) E hE)) | (go_at_call 35; exact Calls.quiet_of (refend_any _ sr _ b q (g5.keep ((Keep.refl NoB _).drewN _) (fun _ _ => id)) E hE)))
                            go_wp2
                            go_roundw
                            case rel => exact ⟨k + 1, q, by omega, by go_num, h5.keep ((Keep.refl NoB _).drewN _) (fun _ _ => id), g5.keep ((Keep.refl NoB _).drewN _) (fun _ _ => id), hk5.drewN _, hz5⟩
                            case measure => simp [intOf]; omega
                      · have t0 : (kind == 0) = false := by rw [beq_eq_false_iff_ne]; exact hk0
                        have t1 : (kind == 1) = false := by rw [beq_eq_false_iff_ne]; exact hk1
                        have t2 : (kind == 2) = false := by rw [beq_eq_false_iff_ne]; exact hk2
                        have t3 : (kind == 3) = false := by rw [beq_eq_false_iff_ne]; exact hk3
                        clear hk0 hk1 hk2 hk3
                        obtain ⟨q, rfl⟩ : ∃ q, q = p := ⟨_, rfl⟩
                        have h5 := hR
                        have g5 := hS
                        have hk5 := hK
                        have hz5 := hZ
                        clear hR hS hK hZ
                        obtain ⟨E, hE⟩ : ∃ E, Hid (E = if q < b.length then 13 else 0) := ⟨_, Lib.hid rfl⟩
                        obtain ⟨_, _, hb5, _⟩ := g5.cells
                        have z5 := hb5.cell 1
                        simp at z5
                        clear hb5
                        go_wp2
                        go_quiet (first | (go_at_call 33; exact Calls.quiet_of_same (at_same _ br _ b q (h5.keep ((Keep.refl NoB _).drewN _) (fun _ _ => id)))) | (go_at_call 34; exact Calls.quiet_of (end_quiet _ br _ b q (h5.keep ((Keep.refl NoB _).drewN _) (fun _ _ => id)) E hE)) | (go_at_call 35; exact Calls.quiet_of (refend_any _ sr _ b q (g5.keep ((Keep.refl NoB _).drewN _) (fun _ _ => id)) E hE)))
                        go_wp2
                        go_roundw
                        case rel => exact ⟨k + 1, q, by omega, by go_num, h5.keep ((Keep.refl NoB _).drewN _) (fun _ _ => id), g5.keep ((Keep.refl NoB _).drewN _) (fun _ _ => id), hk5.drewN _, hz5⟩
                        case measure => simp [intOf]; omega
              · obtain rfl : k = l.length := by omega
                obtain ⟨_, _, hb5, _⟩ := hS.cells
                have z5 := hb5.cell 1
                simp at z5
                clear hb5
                go_wp2
                go_quiet ((go_at_call 33; exact Calls.quiet_of_same (at_same _ br _ b p (hR.keep ((Keep.refl NoB _).drewN _) (fun _ _ => id)))))
                go_wp2
                go_ret
                exact ⟨rfl, hK.drewN _⟩
  · go_enter Try.func4, Try.ntmps4
    go_wp2_with fail
    refine (great_long w A l c ho hlen (by omega)).mono ?_
    rintro e w2 ⟨rfl, rfl⟩
    go_wp2
    go_ret
    exact ⟨rfl, Keep.refl _ _⟩

end Go.Proofs.Ytfdgdheopifnjaa
