/-
  VaryBack: whatever calls, of 100 and of 20000 bytes together, and cut, the law returns true, and all read as they did. Conditions: the slices lie in memory.
-/
import Derived.Test.YtfdgdheopifnjaaVBack2
namespace Go.Proofs.Ytfdgdheopifnjaa
open Go.RowKit

theorem all_at2 (w w0 : World) (bt : Nat) (l : List UInt8) (h : TapeAt w bt (Fresh w0) l) (hb : l.length ≤ 140737488355328) (hk : Keep NoB w0 w) :
    Calls Try.prog 23 #[.pointer (some ⟨bt, 0, none⟩)] w fun e w' => ∃ A c, e = .returned (.slice A l.length c) ∧ Rd w' A l ∧ l.length ≤ c ∧ c ≤ maxLen ∧ Keep NoB w0 w' := by
  refine (all_any w bt _ l h hb).mono ?_
  rintro e w' ⟨v, he, hv, hk'⟩
  obtain ⟨A, c, rfl, hc, hr, _, hm⟩ := hv.form
  exact ⟨A, c, he, hr, hc, hm, keepN hk hk'⟩

theorem on_at2 (w w0 : World) (A : Option Addr) (l : List UInt8) (n c : Nat) (hn : n = l.length) (hr : Rd w A l) (hb : l.length ≤ 140737488355328) (hk : Keep NoB w0 w) :
    Calls Try.prog 24 #[.slice A n c] w fun e w' => ∃ br, e = .returned (.pointer (some ⟨br, 0, none⟩)) ∧ ReelAt w' br (Fresh w0) l 0 ∧ Keep NoB w0 w' := by
  subst hn
  refine (on_any w A l c hr (by omega)).mono ?_
  rintro e w' ⟨br, he, h1, h2⟩
  exact ⟨br, he, h1.mono (fun k hk' _ => Nat.le_trans hk.size hk'), keepN hk h2⟩

theorem Rd.beg {w : World} {A : Option Addr} {l : List UInt8} (h : Rd w A l) (m : Nat) : Rd w A (l.take m) := fun h0 => by
  have h0' : 0 < l.length ∧ 0 < m := by simp at h0; omega
  obtain ⟨ad, rfl, hcell⟩ := h h0'.1
  refine ⟨ad, rfl, fun j u hu => hcell j u ?_⟩
  obtain ⟨hj, hju⟩ := List.getElem?_eq_some_iff.1 hu
  simp at hj hju
  exact List.getElem?_eq_some_iff.2 ⟨by simp; omega, by simpa using hju⟩

set_option maxRecDepth 100000 in
set_option maxHeartbeats 8000000 in
theorem vback_walk (w : World) (A : Option Addr) (l : List OpV) (c cut : Nat) (ho : Ops w A l) (hlen : l.length ≤ 9223372036854775807) (hb : ∀ o ∈ l, o.b.length ≤ 140737488355328) (hcut : cut < 65536) :
    Calls Try.prog 6 #[.slice A l.length c, .int .u16 cut] w fun e w' => e = .returned (.bool true) ∧ Keep NoB w w' := by
  by_cases hl : l.length ≤ 100
  · by_cases ht : 20000 < total l
    · go_enter Try.func6, Try.ntmps6
      go_wp2_with fail
      refine (alive_any _).mono ?_
      rintro e w1 ⟨rfl, hk1⟩
      go_wp2_with fail
      refine (great_short w1 A l c (ho.keep hk1) hl hb true (by show _ = _; simp [ht])).mono ?_
      rintro e w2 ⟨rfl, rfl⟩
      go_wp2
      go_ret
      exact ⟨rfl, hk1⟩
    · have hF := Lib.hid (bk_full l [] ho.1 (fun o h => by have := hb o h; omega))
      have hC := Lib.hid (fun c => bk_cut l [] c ho.1 (fun o h => by have := hb o h; omega))
      have hT := Lib.hid (fun k => outs_len (l.take k))
      have hT2 := Lib.hid (total_take l)
      have hT3 := Lib.hid (total_mem l)
      have hS := Lib.hid (outs_snoc l)
      go_enter Try.func6, Try.ntmps6
      go_wp2_with fail
      refine (alive_any _).mono ?_
      rintro e w1 ⟨rfl, hk1⟩
      go_wp2_with fail
      refine (great_short w1 A l c (ho.keep hk1) hl hb false (by show _ = _; simp; omega)).mono ?_
      rintro e w2 ⟨rfl, rfl⟩
      go_wp2
      go_loopw [21] (fun i wr => ∃ (k : Nat) (xs : List UInt8), k ≤ l.length ∧ Hid (xs = outs (l.take k)) ∧ i = .int .i64 k ∧ TapeAt wr w1.heap.size (Fresh w) xs ∧ Keep NoB w wr) (fun i _ => l.length - (intOf i).toNat)
      case atStart => exact ⟨0, [], Nat.zero_le _, by simp [outs, Hid], rfl, (TapeAt.new w1).mono (fun k e _ => by subst e; exact hk1.size), hk1.alloc _⟩
      case round =>
        clear hk1
        obtain ⟨k, xs, hkl, hX, rfl, hTp, hK⟩ := hrel
        have hxl : xs.length ≤ 20900 := by
          have h1 := hT.out k; have h2 := hT2.out k
          rw [← hX.out, List.length_take] at h1
          omega
        by_cases hlt : k < l.length
        · obtain ⟨g, off, rfl, hi⟩ := ho.2 (by omega)
          have hok := ho.1 l[k] (List.getElem_mem _)
          obtain ⟨q0, q1, q2, q3, q4, q5, _, qc, qm⟩ := (hi k hlt).keep hK
          obtain ⟨_, _, _, _, _, _, qr, _⟩ := hi k hlt
          have hbl := hT3.out k hlt
          have hN : Hid (outs (l.take (k + 1)) = xs ++ outL l[k]) := by show _ = _; rw [hS.out k hlt, ← hX.out]
          unfold outL at hN
          obtain ⟨o, hoe⟩ : ∃ o, l[k] = o := ⟨_, rfl⟩
          rw [hoe] at q0 q1 q2 q3 q4 q5 qr qc qm hok hbl hN
          clear hoe hX hi
          obtain ⟨kind, m, n, lo, hi', B, b, c'⟩ := o
          obtain ⟨_, _, _, okl, _⟩ := hok
          dsimp only at q0 q1 q2 q3 q4 q5 qr qc qm okl hbl hN
          have hTa := hTp.keep ((Keep.refl NoB wr).alloc (.cells (opCs kind m n lo hi' B b.length c') 31)) (fun _ _ => id)
          have hKa := hK.alloc (.cells (opCs kind m n lo hi' B b.length c') 31)
          by_cases hk0 : kind = 0
          · subst hk0
            have hN' := hN.out
            rw [if_pos rfl] at hN'
            have hN'' := Lib.hid hN'
            clear hN hN'
            go_wp2_with fail
            refine (wnumber_at _ w w1.heap.size xs _ n _ hTa hKa (by omega) rfl hN'').mono ?_
            rintro e w3 ⟨rfl, h3, hk3⟩
            go_wp2
            go_roundw
            case rel => exact ⟨k + 1, _, by omega, rfl, by go_num, h3, hk3⟩
            case measure => simp [intOf]; omega
          · by_cases hk1 : kind = 1
            · subst hk1
              have hN' := hN.out
              rw [if_neg hk0, if_pos rfl] at hN'
              have hN'' := Lib.hid hN'
              clear hN hN' hk0
              go_wp2_with fail
              refine (wsigned_at _ w w1.heap.size xs _ lo okl.1 okl.2 hTa hKa (by omega) hN'').mono ?_
              rintro e w3 ⟨rfl, h3, hk3⟩
              go_wp2
              go_roundw
              case rel => exact ⟨k + 1, _, by omega, rfl, by go_num, h3, hk3⟩
              case measure => simp [intOf]; omega
            · by_cases hk2 : kind = 2
              · subst hk2
                have hN' := hN.out
                rw [if_neg hk0, if_neg hk1, if_pos rfl] at hN'
                have hN'' := Lib.hid hN'
                clear hN hN' hk0 hk1
                go_wp2_with fail
                refine (wbytes_at _ w w1.heap.size xs _ b B c' qr hTa hKa (by omega) hN'').mono ?_
                rintro e w3 ⟨rfl, h3, hk3⟩
                go_wp2
                go_roundw
                case rel => exact ⟨k + 1, _, by omega, rfl, by go_num, h3, hk3⟩
                case measure => simp [intOf]; omega
              · have hN' := hN.out
                rw [if_neg hk0, if_neg hk1, if_neg hk2, List.append_nil] at hN'
                have hN'' := Lib.hid hN'.symm
                have t0 : (kind == 0) = false := by rw [beq_eq_false_iff_ne]; exact hk0
                have t1 : (kind == 1) = false := by rw [beq_eq_false_iff_ne]; exact hk1
                have t2 : (kind == 2) = false := by rw [beq_eq_false_iff_ne]; exact hk2
                clear hN hN' hk0 hk1 hk2
                go_wp2
                go_roundw
                case rel => exact ⟨k + 1, _, by omega, hN''.out, by go_num, hTa, hKa⟩
                case measure => simp [intOf]; omega
        · obtain rfl : k = l.length := by omega
          have hX' : Hid (xs = outs l) := by show _ = _; rw [hX.out, List.take_length]
          have hF' : Hid (some xs.length = bkP xs 0 l) := by
            show _ = _
            have := hF.out
            rw [List.nil_append, ← hX'.out] at this
            simpa using this.symm
          clear hF hT hT2 hT3 hS hX
          go_wp2_with fail
          refine (all_at2 _ w w1.heap.size xs hTp (by omega) hK).mono ?_
          rintro e w3 ⟨A3, c3, rfl, hr3, hc3, hm3, hk3⟩
          unfold maxLen at hm3
          go_wp2_with fail
          refine (on_at2 w3 w3 A3 xs _ c3 rfl hr3 (by omega) (Keep.refl _ _)).mono ?_
          rintro e w4 ⟨br, rfl, h4, hk4⟩
          have ho3 := ho.keep hk3
          go_wp2_with fail
          refine (back_any w4 w3 br xs 0 A l c h4 hk4 (by omega) ho3 hl (some xs.length) hF').mono ?_
          rintro e w5 ⟨he5, h5, hk5⟩
          simp only [Option.isSome_some] at he5
          subst he5
          have h5' := h5 _ rfl
          clear h5 hF' h4 hk4
          go_wp2_with fail
          refine (end_any w5 br _ xs _ h5').mono ?_
          rintro e w6 ⟨he6, hk6⟩
          rw [if_neg (by omega)] at he6
          subst he6
          have h6 := h5'.keep hk6 (fun _ _ => id)
          have hk6' := keepN hk5 hk6
          clear h5' hk5 hk6
          go_wp2_with fail
          refine (at_any w6 br _ xs _ h6).mono ?_
          rintro e w7 ⟨rfl, rfl⟩
          by_cases hx0 : xs.length = 0
          · go_wp2
            go_ret
            exact ⟨rfl, keepN hk3 hk6'⟩
          · have hr6 := hr3.keep hk6' (fun _ _ _ => id)
            have hmn := Nat.mod_lt cut (show 0 < xs.length by omega)
            have hm0 : 0 ≤ (cut : Int) % (xs.length : Int) := Int.emod_nonneg _ (by omega)
            have hm1 : (cut : Int) % (xs.length : Int) < (xs.length : Int) := Int.emod_lt_of_pos _ (by omega)
            have ho6 := ho3.keep hk6'
            have hcl : cut % xs.length = (xs.take (cut % xs.length)).length := by rw [List.length_take]; omega
            have hC' : Hid (none = bkP (xs.take (cut % xs.length)) 0 l) := by
              show _ = _
              have := hC.out (xs.take (cut % xs.length)) (by rw [← hX'.out]; exact List.take_prefix _ _) (by rw [← hX'.out]; omega)
              rw [List.nil_append] at this
              exact this.symm
            have hle : (xs.take (cut % xs.length)).length ≤ 140737488355328 := by omega
            have hrb := hr6.beg (cut % xs.length)
            have hk67 := Lib.hid (keepN hk3 hk6')
            clear hC hX'
            obtain ⟨ys, hys⟩ : ∃ ys, xs.take (cut % xs.length) = ys := ⟨_, rfl⟩
            rw [hys] at hcl hC' hle hrb
            clear hys
            go_wp2_with fail
            refine (on_at2 w6 w6 A3 ys _ c3 rfl hrb hle (Keep.refl _ _)).mono ?_
            rintro e w8 ⟨br2, rfl, h8, hk8⟩
            go_wp2_with fail
            refine (back_any w8 w6 br2 ys 0 A l c h8 hk8 hle ho6 hl none hC').mono ?_
            rintro e w9 ⟨he9, _, hk9⟩
            simp only [Option.isSome_none] at he9
            subst he9
            go_wp2
            go_ret
            exact ⟨rfl, keepN hk67.out hk9⟩
  · go_enter Try.func6, Try.ntmps6
    go_wp2_with fail
    refine (alive_any _).mono ?_
    rintro e w1 ⟨rfl, hk1⟩
    go_wp2_with fail
    refine (great_long w1 A l c (ho.keep hk1) hlen (by omega)).mono ?_
    rintro e w2 ⟨rfl, rfl⟩
    go_wp2
    go_ret
    exact ⟨rfl, hk1⟩

end Go.Proofs.Ytfdgdheopifnjaa
