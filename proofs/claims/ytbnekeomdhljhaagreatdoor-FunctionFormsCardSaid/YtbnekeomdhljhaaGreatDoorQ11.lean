/-
  What the document's Named answers. Conditions: the name's length fits an int64.
  The document's Types and Check of layer function. Conditions: the function's lists lie in memory, and are no longer than statements go through.
  What the document's read of layer shape answers: the types at its Reel's place. Conditions: the Reel reads bytes in memory, no more than 2^47.
  What the document's Decode and DecodeSignature answer. Conditions: the Reel reads bytes in memory, no more than 2^47.
  The document's Decode of a function. Conditions: the Reel reads bytes in memory, no more than 2^47.
  The iterator of an instruction's operands: it brings each operand that there is, in order, with its functions as they lie in memory when it comes. Conditions: kinds are from 0 to 10.
  What Show answers. Conditions: the listed package-level variables hold what their initialisers lay; numbers fit an int64.
  What write puts on a Tape: an operand's bytes. Conditions: the number is one of the kind; no more than 2^47 bytes in all.
-/
import Derived.Test.YtbnekeomdhljhaaGreatDoorQ8
import Derived.Test.YtbnekeomdhljhaaGreatDoorQ9
import Derived.Test.YtbnekeomdhljhaaGreatDoorQ10
import Derived.Test.YtbnekeomdhljhaaGreatDoorQ3
import Derived.Test.YtbnekeomdhljhaaGreatDoorQ5
import Derived.Test.YtbnekeomdhljhaaGreatDoorQ7
import Derived.Test.YtbnekeomdhljhaaGreatDoorQ6
import Derived.Test.YtbnekeomdhljhaaGreatDoorQ2
namespace Go.Proofs.YtbnekeomdhljhaaGreatDoor.F
open Go.RowKit W

set_option maxRecDepth 100000 in
set_option maxHeartbeats 4000000 in
theorem rnamed_any (S : ByteArray) (s : List UInt8) (w : World) (hs : Hid (S.data.toList = s)) (hm : S.size ≤ 9223372036854775807) (R : Int) (hR : Hid (chkN s = R)) :
    Calls Tryz.prog 17 #[.string S] w fun e w' => e = .returned (.int .i64 R) ∧ w = w' := by
  have HZ : Hid (S.size = s.length) := sz_len hs.out
  have HL := Lib.hid (fun (c : UInt8) (w : World) => rletter_any c w)
  by_cases h0 : S.size = 0
  · obtain rfl : 71 = R := by rw [← hR.out]; exact (chkN_no (by rw [List.length_eq_zero_iff.1 (HZ.out.symm.trans h0)]; rfl)).symm
    clear hR
    have hq0 : (S.size : Int) < 1 := by omega
    go_enter Tryz.func17, Tryz.ntmps17
    go_wp2
    go_ret
    exact ⟨rfl, rfl⟩
  have hq0 : ¬ (S.size : Int) < 1 := by omega
  by_cases h1 : 32 < S.size
  · obtain rfl : 71 = R := by rw [← hR.out]; exact (chkN_no (okN_long (by rw [← HZ.out]; omega))).symm
    clear hR
    go_enter Tryz.func17, Tryz.ntmps17
    go_wp2
    go_ret
    exact ⟨rfl, rfl⟩
  have hp : 0 < S.size := by omega
  have HH : Hid (headB s = letB (S[0]'hp)) := by show _ = _; rw [str_at hs.out hp (by rw [← HZ.out]; omega)]; exact headB_at _
  go_enter Tryz.func17, Tryz.ntmps17
  go_wp2
  go_loop [3] (fun i => ∃ k : Nat, k ≤ S.size ∧ i = .int .i64 k ∧ Hid ((s.take k).all inB = true ∧ (0 < k → headB s = true))) (fun i => S.size - (intOf i).toNat)
  case atStart => exact ⟨0, Nat.zero_le _, rfl, rfl, fun h => absurd h (by omega)⟩
  case round =>
    obtain ⟨k, hk, rfl, ht⟩ := hrel
    by_cases hlt : k < S.size
    · have hks : k < s.length := by rw [← HZ.out]; exact hlt
      have HE := Lib.hid (str_at hs.out hlt hks)
      have HA := Lib.hid (fun w => HL.out (S[k]'hlt) w)
      have HI : Hid (inB s[k] = (letB (S[k]'hlt) || digB (S[k]'hlt))) := by show _ = _; rw [HE.out]; rfl
      have HT := Lib.hid (fun h => in_step hks ht.out.1 h)
      have HN := Lib.hid (fun h => in_no hks h)
      have HDG := Lib.hid (digB_iff (S[k]'hlt))
      have HK : Hid (k = 0 → headB s = letB (S[k]'hlt)) := fun e => by subst e; exact HH.out
      have HK2 := Lib.hid ht.out.2
      clear HH ht HE
      cases hl : letB (S[k]'hlt)
      · rw [hl] at HA HI HK
        by_cases hk0 : k = 0
        · obtain rfl : 71 = R := by rw [← hR.out]; exact (chkN_no (okN_head (HK.out hk0))).symm
          have hqk : ((k : Int) == 0) = true := by rw [beq_iff_eq]; omega
          clear hR HT HN HI HK HK2 hl HDG hk0
          by_cases g1 : ((S[k]'hlt).toNat : Int) < 48
          · go_wp2_with (go_at_call 66; refine (HA.out _).mono ?_; rintro e w2 ⟨rfl, rfl⟩)
            go_ret
            exact ⟨rfl, rfl⟩
          · by_cases g2 : ((S[k]'hlt).toNat : Int) ≤ 57
            · have g1 : (48 : Int) ≤ ((S[k]'hlt).toNat : Int) := by omega
              go_wp2_with (go_at_call 66; refine (HA.out _).mono ?_; rintro e w2 ⟨rfl, rfl⟩)
              go_ret
              exact ⟨rfl, rfl⟩
            · have g1 : (48 : Int) ≤ ((S[k]'hlt).toNat : Int) := by omega
              go_wp2_with (go_at_call 66; refine (HA.out _).mono ?_; rintro e w2 ⟨rfl, rfl⟩)
              go_ret
              exact ⟨rfl, rfl⟩
        · have hqk : ((k : Int) == 0) = false := by rw [beq_eq_false_iff_ne]; omega
          cases hd : digB (S[k]'hlt)
          · rw [hd] at HI HDG
            obtain rfl : 71 = R := by rw [← hR.out]; exact (chkN_no (okN_in (HN.out HI.out))).symm
            have hdg : ¬ (48 ≤ (S[k]'hlt).toNat ∧ (S[k]'hlt).toNat ≤ 57) := fun h => by have := HDG.out.2 h; cases this
            clear hR HT HN HI HK HK2 hl hd HDG
            by_cases g1 : ((S[k]'hlt).toNat : Int) < 48
            · clear hdg
              go_wp2_with (go_at_call 66; refine (HA.out _).mono ?_; rintro e w2 ⟨rfl, rfl⟩)
              go_ret
              exact ⟨rfl, rfl⟩
            · have g2 : ¬ ((S[k]'hlt).toNat : Int) ≤ 57 := by omega
              have g3 : (!decide (((S[k]'hlt).toNat : Int) ≤ 57)) = true := by rw [decide_eq_false g2]; rfl
              have g4 : (48 : Int) ≤ ((S[k]'hlt).toNat : Int) := by omega
              clear hdg
              go_wp2_with (go_at_call 66; refine (HA.out _).mono ?_; rintro e w2 ⟨rfl, rfl⟩)
              go_ret
              exact ⟨rfl, rfl⟩
          · rw [hd] at HI HDG
            have HV := Lib.hid (HT.out HI.out)
            obtain ⟨g1', g2'⟩ := HDG.out.1 rfl
            have g1 : ¬ ((S[k]'hlt).toNat : Int) < 48 := by omega
            have g2 : ((S[k]'hlt).toNat : Int) ≤ 57 := by omega
            clear g1' g2'
            have HK3 := Lib.hid (HK2.out (by omega))
            clear HT HN HI HK HK2 hl hd HDG
            go_wp2_with (go_at_call 66; refine (HA.out _).mono ?_; rintro e w2 ⟨rfl, rfl⟩)
            go_round
            case rel => exact ⟨k + 1, by omega, by go_num, HV.out, fun _ => HK3.out⟩
            case measure => simp [intOf]; omega
      · rw [hl] at HA HI HK
        have HV := Lib.hid (HT.out (by rw [HI.out]; rfl))
        have HK3 : Hid (headB s = true) := by
          rcases Nat.eq_zero_or_pos k with h | h
          · exact HK.out h
          · exact HK2.out h
        clear HT HN HI HK HK2 hl HDG
        by_cases g1 : ((S[k]'hlt).toNat : Int) < 48
        · go_wp2_with (go_at_call 66; refine (HA.out _).mono ?_; rintro e w2 ⟨rfl, rfl⟩)
          go_round
          case rel => exact ⟨k + 1, by omega, by go_num, HV.out, fun _ => HK3.out⟩
          case measure => simp [intOf]; omega
        · by_cases g2 : ((S[k]'hlt).toNat : Int) ≤ 57
          · go_wp2_with (go_at_call 66; refine (HA.out _).mono ?_; rintro e w2 ⟨rfl, rfl⟩)
            go_round
            case rel => exact ⟨k + 1, by omega, by go_num, HV.out, fun _ => HK3.out⟩
            case measure => simp [intOf]; omega
          · go_wp2_with (go_at_call 66; refine (HA.out _).mono ?_; rintro e w2 ⟨rfl, rfl⟩)
            go_round
            case rel => exact ⟨k + 1, by omega, by go_num, HV.out, fun _ => HK3.out⟩
            case measure => simp [intOf]; omega
    · obtain rfl : 0 = R := by
        rw [← hR.out]
        have e1 := ht.out.1
        rw [List.take_of_length_le (by rw [← HZ.out]; omega)] at e1
        exact (chkN_ok ((okN_iff s).2 ⟨by rw [← HZ.out]; omega, ht.out.2 (by omega), e1⟩)).symm
      clear hR ht HH
      go_wp2
      go_ret
      exact ⟨rfl, rfl⟩

end Go.Proofs.YtbnekeomdhljhaaGreatDoor.F

namespace Go.Proofs.YtbnekeomdhljhaaGreatDoor.F
open Go.RowKit W

/-- Behind an append: the row, and what stays, above a block. -/
theorem above_after {w W W' : World} {E size n b : Nat} {v v' : Value} {xs : List Value} (ho : ∀ g, v.ownBlock = some g → b < g) (hb : w.heap.size ≤ b) (hK : Keep NoB w W) (hbW : b < W.heap.size) (hg : W.grownBy W' v.ownBlock)
    (hv : v'.ownBlock = v.ownBlock ∨ v'.ownBlock = some W.heap.size) (hrow : W'.ownsRow 0 E size v' n xs) : Own W' E size (fun k => b < k) v' n xs ∧ Keep NoB w W' ∧ Keep (fun k => b < k) W W' := by
  refine ⟨⟨hrow, fun g e => ?_⟩, hK.grown hg (fun g e h => by have := ho g e; omega), (Keep.refl _ W).grown hg (fun g e _ => ho g e)⟩
  rcases hv with h | h
  · exact ho g (h ▸ e)
  · rw [h] at e; cases e; exact hbW

theorem rd_ltN {W : World} {A : Option Addr} {xs : List Value} (h : Rd W A xs) {ad : Addr} (e : A = some ad) (h0 : 0 < xs.length) : ad.block < W.heap.size := by
  obtain ⟨g, off, e2, hc⟩ := h h0
  rw [e] at e2
  injection e2 with e2
  subst e2
  exact World.block_lt_of_cell? W _ (hc 0 _ (List.getElem?_eq_getElem h0))
theorem rd_above {W W' : World} {O : Nat → Prop} {A : Option Addr} {xs : List Value} (h : Rd W A xs) (hA : ∀ ad, A = some ad → 0 < xs.length → ¬ O ad.block) (hk : Keep O W W') : Rd W' A xs := fun h0 => by
  obtain ⟨g, off, e, hc⟩ := h h0
  exact ⟨g, off, e, fun j u hu => hk.cell (hc j u hu) (show ¬ O g from hA _ e h0)⟩

set_option maxRecDepth 100000 in
set_option maxHeartbeats 8000000 in
theorem rtypes_any (v : FV) (f : Fu) (w : World) (h : FnAt w v f) (hs : SmF v) :
    Calls Tryz.prog 76 #[v.val] w fun e w' => ∃ u, e = .returned u ∧ Own w' 3 1 (Fresh w) u (sl f).length (ivs (sl f)) ∧ Keep NoB w w' := by
  obtain ⟨i0, hi, hz0, hz1, hz2⟩ := info_parts int_info
  have bx := Blk.new w 27 v.cells
  have k0 := (Keep.refl NoB w).alloc (.cells v.cells 27)
  have HF := Lib.hid (h.keepN k0)
  have HF0 := Lib.hid h
  have hl : (sl f).length = v.na + v.nb + v.nl := by rw [sl_length, h.la, h.lb, h.ll]
  have hsl : ivs (sl f) = (ivs f.ar ++ ivs f.rs) ++ ivs f.lc := by unfold sl; simp
  rw [hl, hsl]
  have HA1 := Lib.hid (show (ivs f.ar).length = v.na * 1 by simp [h.la])
  have HB1 := Lib.hid (show (ivs f.rs).length = v.nb * 1 by simp [h.lb])
  have HL1 := Lib.hid (show (ivs f.lc).length = v.nl * 1 by simp [h.ll])
  have HA2 := Lib.hid (ivs_one f.ar)
  have HB2 := Lib.hid (ivs_one f.rs)
  have HL2 := Lib.hid (ivs_one f.lc)
  obtain ⟨q1, q2, q3, q4, q5⟩ := hs
  obtain ⟨s0, A, na, ca, B, nb, cb, L, nl, cl, D, nd, cd⟩ := v
  unfold FV.val FV.cells at *
  dsimp only at HA1 HB1 HL1 q1 q2 q3 q4 q5
  clear h hl hsl
  obtain ⟨c0, c1, c2, c3, c4⟩ := blk5 (v := ⟨s0, A, na, ca, B, nb, cb, L, nl, cl, D, nd, cd⟩) bx
  dsimp only at c0 c1 c2 c3 c4
  generalize hxa : ivs f.ar = xa at HA1 HA2
  generalize hxb : ivs f.rs = xb at HB1 HB2
  generalize hxl : ivs f.lc = xl at HL1 HL2
  have HRA : Hid (Rd (w.alloc (.cells #[.string s0, .slice A na ca, .slice B nb cb, .slice L nl cl, .slice D nd cd] 27)) A xa) := hxa ▸ HF.out.ra
  have HRB : Hid (Rd (w.alloc (.cells #[.string s0, .slice A na ca, .slice B nb cb, .slice L nl cl, .slice D nd cd] 27)) B xb) := hxb ▸ HF.out.rb
  have HRL : Hid (Rd (w.alloc (.cells #[.string s0, .slice A na ca, .slice B nb cb, .slice L nl cl, .slice D nd cd] 27)) L xl) := hxl ▸ HF.out.rl
  have hsz : w.heap.size < (w.alloc (.cells #[.string s0, .slice A na ca, .slice B nb cb, .slice L nl cl, .slice D nd cd] 27)).heap.size := by simp
  have hRLb : ∀ ad, L = some ad → 0 < xl.length → ¬ (w.heap.size < ad.block) := fun ad e h0 => by
    have h1 := rd_ltN HF0.out.rl e (by rw [hxl]; exact h0)
    omega
  clear hxa hxb hxl HF HF0
  go_enter Tryz.func76, Tryz.ntmps76
  generalize hw1 : w.alloc (.cells #[.string s0, .slice A na ca, .slice B nb cb, .slice L nl cl, .slice D nd cd] 27) = w1 at bx k0 HRA HRB HRL c0 c1 c2 c3 c4 hsz
  go_wp2_with (first
    | (at_builtin; refine wpList_append_rd _ rfl (.tmp 4) (.tmp 7) _ rfl 3 1 8 i0 _ Tryz.underlying22 hi hz0 hz1 hz2 rfl (by decide) (.slice none 0 0) 0 [] A na ca xa rfl (World.ownsRow_nil _ _ _ _) rfl HRA.out HA1.out HA2.out (by unfold maxLen; omega) (by omega) ?_; intro A5 c5 w5 hrow5 hg5 hv5; rw [Nat.zero_add] at hrow5 hv5 ⊢; rw [List.nil_append] at hrow5; clear hw1; obtain ⟨hO5, hK5, hk5⟩ := above_after (w := w) (b := w.heap.size) (fun g e => by cases e) (Nat.le_refl _) k0 hsz hg5 hv5 hrow5; have bx5 := bx.keep hk5 (Nat.lt_irrefl _); have HRB5 := Lib.hid (HRB.out.keepN ((Keep.refl NoB w1).grown hg5 (fun g e _ => by cases e))); have HRL5 := Lib.hid (HRL.out.keepN ((Keep.refl NoB w1).grown hg5 (fun g e _ => by cases e))); have hz5 := hg5.size; clear hrow5 hg5 hv5 hk5 k0 c0 c1 c2 c3 c4 bx; obtain ⟨c0, c1, c2, c3, c4⟩ := blk5 (v := ⟨s0, A, na, ca, B, nb, cb, L, nl, cl, D, nd, cd⟩) bx5; dsimp only at c0 c1 c2 c3 c4)
    | (at_builtin; refine wpList_append_rd _ rfl (.tmp 9) (.tmp 12) _ rfl 3 1 8 i0 _ Tryz.underlying22 hi hz0 hz1 hz2 rfl (by decide) (.slice A5 na c5) (na) (xa) B nb cb xb rfl hO5.1 rfl HRB5.out HB1.out HB2.out (by unfold maxLen; omega) (by omega) ?_; intro A6 c6 w6 hrow6 hg6 hv6; obtain ⟨hO6, hK6, hk6⟩ := above_after (w := w) (b := w.heap.size) hO5.2 (Nat.le_refl _) hK5 (Nat.lt_of_lt_of_le hsz hz5) hg6 hv6 hrow6; have bx6 := bx5.keep hk6 (Nat.lt_irrefl _); have hz6 := Nat.le_trans hz5 hg6.size; have HRL6 := Lib.hid (rd_above HRL5.out hRLb hk6); clear hrow6 hg6 hv6 c0 c1 c2 c3 c4 bx5; obtain ⟨c0, c1, c2, c3, c4⟩ := blk5 (v := ⟨s0, A, na, ca, B, nb, cb, L, nl, cl, D, nd, cd⟩) bx6; dsimp only at c0 c1 c2 c3 c4)
    | (at_builtin; refine wpList_append_rd _ rfl (.tmp 14) (.tmp 16) _ rfl 3 1 8 i0 _ Tryz.underlying22 hi hz0 hz1 hz2 rfl (by decide) (.slice A6 (na + nb) c6) (na + nb) (xa ++ xb) L nl cl xl rfl hO6.1 rfl HRL6.out HL1.out HL2.out (by unfold maxLen; omega) (by omega) ?_; intro A7 c7 w7 hrow7 hg7 hv7; obtain ⟨hO7, hK7, hk7⟩ := above_after (w := w) (b := w.heap.size) hO6.2 (Nat.le_refl _) hK6 (Nat.lt_of_lt_of_le hsz hz6) hg7 hv7 hrow7; have bx7 := bx6.keep hk7 (Nat.lt_irrefl _); have hz7 := Nat.le_trans hz6 hg7.size; clear hrow7 hg7 hv7 c0 c1 c2 c3 c4 bx6; obtain ⟨c0, c1, c2, c3, c4⟩ := blk5 (v := ⟨s0, A, na, ca, B, nb, cb, L, nl, cl, D, nd, cd⟩) bx7; dsimp only at c0 c1 c2 c3 c4))
  go_ret
  rw [List.append_assoc] at hO7
  exact ⟨_, rfl, hO7.mono (fun k hk _ => Nat.le_of_lt hk), hK7⟩


set_option maxRecDepth 100000 in
set_option maxHeartbeats 8000000 in
theorem rcheck_any (v : FV) (f : Fu) (w : World) (h : FnAt w v f) (hs : SmF v) (R : Int) (hR : Hid (chkF f = R)) :
    Calls Tryz.prog 19 #[v.val] w fun e w' => e = .returned (.int .i64 R) ∧ Keep NoB w w' := by
  have bx := Blk.new w 27 v.cells
  have k0 := (Keep.refl NoB w).alloc (.cells v.cells 27)
  have HF := Lib.hid (h.keepN k0)
  have HX := Lib.hid bx
  have HN := Lib.hid (fun w (R : Int) hR => rnamed_any v.S f.nm w h.nm (by have := hs.sz; omega) R hR)
  have HG := Lib.hid (fun w1 (hk : Keep NoB (w.alloc (.cells v.cells 27)) w1) (R : Int) hR => S.rchkG_any v.A f.ar v.na v.ca v.B f.rs v.nb v.cb w1 (HF.out.keepN hk).ra (HF.out.keepN hk).rb h.la h.lb (by have := hs.na; omega) (by have := hs.nb; omega) R hR)
  have HB := Lib.hid (fun w1 (hk : Keep NoB (w.alloc (.cells v.cells 27)) w1) (R : Int) hR => C.rcchk_any v.D f.bd v.nd v.cd w1 (HF.out.keepN hk).rd h.ld h.hI (by have := hs.nd; omega) R hR)
  have HT := Lib.hid (fun w1 (hk : Keep NoB (w.alloc (.cells v.cells 27)) w1) => rtypes_any v f w1 (HF.out.keepN hk) hs)
  have hlen : (sl f).length = v.na + v.nb + v.nl := by rw [sl_length, h.la, h.lb, h.ll]
  rw [hlen] at HT
  have HLL := Lib.hid h.ll
  have HLN : Hid (f.ar.length + f.rs.length + f.lc.length = v.na + v.nb + v.nl) := by show _ = _; rw [h.la, h.lb, h.ll]
  have HRL := Lib.hid (fun w1 (hk : Keep NoB (w.alloc (.cells v.cells 27)) w1) => (HF.out.keepN hk).rl)
  obtain ⟨q1, q2, q3, q4, q5⟩ := hs
  obtain ⟨s0, A, na, ca, B, nb, cb, L, nl, cl, D, nd, cd⟩ := v
  unfold FV.val FV.cells at *
  dsimp only at HN HG HB HT HLL HLN q2 q3 q4 HRL
  clear bx h HF hlen
  cases h1 : okN f.nm
  · have HN2 := Lib.hid (fun w => HN.out w 71 (chkN_no h1))
    obtain rfl : 70 = R := by rw [← hR.out]; exact (chkF_no (okF_not (by rw [h1]; simp))).symm
    clear HN hR h1
    go_enter Tryz.func19, Tryz.ntmps19
    obtain ⟨c0, c1, c2, c3, c4⟩ := blk5 (v := ⟨s0, A, na, ca, B, nb, cb, L, nl, cl, D, nd, cd⟩) HX.out
    dsimp only at c0 c1 c2 c3 c4
    go_wp2_with fail
    refine (HN2.out _).mono ?_
    rintro e w1 ⟨rfl, rfl⟩
    go_wp2
    go_ret
    exact ⟨rfl, k0⟩
  have HN2 := Lib.hid (fun w => HN.out w 0 (chkN_ok h1))
  cases h2 : S.okG f.ar f.rs
  · have HG2 := Lib.hid (fun w hk => HG.out w hk 61 (S.chkG_no h2))
    obtain rfl : 70 = R := by rw [← hR.out]; exact (chkF_no (okF_not (by rw [h2]; simp))).symm
    clear HN HG hR h1 h2
    go_enter Tryz.func19, Tryz.ntmps19
    obtain ⟨c0, c1, c2, c3, c4⟩ := blk5 (v := ⟨s0, A, na, ca, B, nb, cb, L, nl, cl, D, nd, cd⟩) HX.out
    dsimp only at c0 c1 c2 c3 c4
    go_wp2_with fail
    refine (HN2.out _).mono ?_
    rintro e w1 ⟨rfl, rfl⟩
    clear c0 c1 c2 c3 c4
    obtain ⟨c0, c1, c2, c3, c4⟩ := blk5 (v := ⟨s0, A, na, ca, B, nb, cb, L, nl, cl, D, nd, cd⟩) HX.out
    dsimp only at c0 c1 c2 c3 c4
    go_wp2_with fail
    refine (HG2.out _ (Keep.refl _ _)).mono ?_
    rintro e w2 ⟨rfl, k1⟩
    go_wp2
    go_ret
    exact ⟨rfl, keepN k0 k1⟩
  have HG2 := Lib.hid (fun w hk => HG.out w hk 0 (S.chkG_ok h2))
  cases h4 : C.okB f.bd
  · have HB2 := Lib.hid (fun w hk => HB.out w hk 50 (C.chkB_no h4))
    obtain rfl : 70 = R := by rw [← hR.out]; exact (chkF_no (okF_not (by rw [h4]; simp))).symm
    clear HN HG HB hR h1 h2 h4
    go_enter Tryz.func19, Tryz.ntmps19
    obtain ⟨c0, c1, c2, c3, c4⟩ := blk5 (v := ⟨s0, A, na, ca, B, nb, cb, L, nl, cl, D, nd, cd⟩) HX.out
    dsimp only at c0 c1 c2 c3 c4
    go_wp2_with fail
    refine (HN2.out _).mono ?_
    rintro e w1 ⟨rfl, rfl⟩
    clear c0 c1 c2 c3 c4
    obtain ⟨c0, c1, c2, c3, c4⟩ := blk5 (v := ⟨s0, A, na, ca, B, nb, cb, L, nl, cl, D, nd, cd⟩) HX.out
    dsimp only at c0 c1 c2 c3 c4
    go_wp2_with fail
    refine (HG2.out _ (Keep.refl _ _)).mono ?_
    rintro e w2 ⟨rfl, k1⟩
    clear c0 c1 c2 c3 c4
    obtain ⟨c0, c1, c2, c3, c4⟩ := blk5 (v := ⟨s0, A, na, ca, B, nb, cb, L, nl, cl, D, nd, cd⟩) (HX.out.keep k1 id)
    dsimp only at c0 c1 c2 c3 c4
    go_wp2_with fail
    refine (HB2.out _ k1).mono ?_
    rintro e w3 ⟨rfl, k2⟩
    replace k1 := keepN k1 k2
    clear k2
    go_wp2
    go_ret
    exact ⟨rfl, keepN k0 k1⟩
  have HB2 := Lib.hid (fun w hk => HB.out w hk 0 (C.chkB_ok h4))
  by_cases h5 : 64 < na + nb + nl
  · obtain rfl : 70 = R := by rw [← hR.out]; exact (chkF_no (okF_not (by rw [HLN.out]; omega))).symm
    clear HN HG HB hR h1 h2 h4
    go_enter Tryz.func19, Tryz.ntmps19
    obtain ⟨c0, c1, c2, c3, c4⟩ := blk5 (v := ⟨s0, A, na, ca, B, nb, cb, L, nl, cl, D, nd, cd⟩) HX.out
    dsimp only at c0 c1 c2 c3 c4
    go_wp2_with fail
    refine (HN2.out _).mono ?_
    rintro e w1 ⟨rfl, rfl⟩
    clear c0 c1 c2 c3 c4
    obtain ⟨c0, c1, c2, c3, c4⟩ := blk5 (v := ⟨s0, A, na, ca, B, nb, cb, L, nl, cl, D, nd, cd⟩) HX.out
    dsimp only at c0 c1 c2 c3 c4
    go_wp2_with fail
    refine (HG2.out _ (Keep.refl _ _)).mono ?_
    rintro e w2 ⟨rfl, k1⟩
    clear c0 c1 c2 c3 c4
    obtain ⟨c0, c1, c2, c3, c4⟩ := blk5 (v := ⟨s0, A, na, ca, B, nb, cb, L, nl, cl, D, nd, cd⟩) (HX.out.keep k1 id)
    dsimp only at c0 c1 c2 c3 c4
    go_wp2_with fail
    refine (HB2.out _ k1).mono ?_
    rintro e w3 ⟨rfl, k2⟩
    replace k1 := keepN k1 k2
    clear k2
    clear c0 c1 c2 c3 c4
    obtain ⟨c0, c1, c2, c3, c4⟩ := blk5 (v := ⟨s0, A, na, ca, B, nb, cb, L, nl, cl, D, nd, cd⟩) (HX.out.keep k1 id)
    dsimp only at c0 c1 c2 c3 c4
    go_wp2_with fail
    refine (HT.out _ k1).mono ?_
    rintro e w4 ⟨u, rfl, hO, k2⟩
    obtain ⟨A4, c4', rfl, _, _, _, _⟩ := hO.form
    replace k1 := keepN k1 k2
    clear k2 hO
    go_wp2
    go_ret
    exact ⟨rfl, keepN k0 k1⟩
  have HO : Hid (f.lc.all knownB = true → chkF f = 0) := fun h3 => chkF_ok ((okF_iff f).2 ⟨h1, h2, h3, h4, by rw [HLN.out]; omega⟩)
  have HO2 : Hid (f.lc.all knownB = false → chkF f = 70) := fun h3 => chkF_no (okF_not (by rw [h3]; simp))
  clear HN HG HB h1 h2 h4
  go_enter Tryz.func19, Tryz.ntmps19
  obtain ⟨c0, c1, c2, c3, c4⟩ := blk5 (v := ⟨s0, A, na, ca, B, nb, cb, L, nl, cl, D, nd, cd⟩) HX.out
  dsimp only at c0 c1 c2 c3 c4
  go_wp2_with fail
  refine (HN2.out _).mono ?_
  rintro e w1 ⟨rfl, rfl⟩
  clear c0 c1 c2 c3 c4
  obtain ⟨c0, c1, c2, c3, c4⟩ := blk5 (v := ⟨s0, A, na, ca, B, nb, cb, L, nl, cl, D, nd, cd⟩) HX.out
  dsimp only at c0 c1 c2 c3 c4
  go_wp2_with fail
  refine (HG2.out _ (Keep.refl _ _)).mono ?_
  rintro e w2 ⟨rfl, k1⟩
  clear c0 c1 c2 c3 c4
  obtain ⟨c0, c1, c2, c3, c4⟩ := blk5 (v := ⟨s0, A, na, ca, B, nb, cb, L, nl, cl, D, nd, cd⟩) (HX.out.keep k1 id)
  dsimp only at c0 c1 c2 c3 c4
  go_wp2_with fail
  refine (HB2.out _ k1).mono ?_
  rintro e w3 ⟨rfl, k2⟩
  replace k1 := keepN k1 k2
  clear k2
  clear c0 c1 c2 c3 c4
  obtain ⟨c0, c1, c2, c3, c4⟩ := blk5 (v := ⟨s0, A, na, ca, B, nb, cb, L, nl, cl, D, nd, cd⟩) (HX.out.keep k1 id)
  dsimp only at c0 c1 c2 c3 c4
  go_wp2_with fail
  refine (HT.out _ k1).mono ?_
  rintro e w4 ⟨u, rfl, hO, k2⟩
  obtain ⟨A4, c4', rfl, _, _, _, _⟩ := hO.form
  replace k1 := keepN k1 k2
  clear k2 hO
  clear c0 c1 c2 c3 c4
  have HK1 := Lib.hid k1
  have HK0 := Lib.hid k0
  clear k1 k0 HN2 HG2 HB2 HT
  go_wp2
  go_loopw [3] (fun i wr => ∃ k : Nat, k ≤ nl ∧ i = .int .i64 (k : Int) ∧ Hid ((f.lc.take k).all knownB = true) ∧ Keep NoB (w.alloc (.cells #[.string s0, .slice A na ca, .slice B nb cb, .slice L nl cl, .slice D nd cd] 27)) wr) (fun i _ => nl - (intOf i).toNat)
  case atStart => exact ⟨0, Nat.zero_le _, rfl, rfl, HK1.out⟩
  case round =>
    obtain ⟨k, hk, rfl, ht, hK⟩ := hrel
    obtain ⟨c0, c1, c2, c3, c4⟩ := blk5 (v := ⟨s0, A, na, ca, B, nb, cb, L, nl, cl, D, nd, cd⟩) (HX.out.keep hK id)
    dsimp only at c0 c1 c2 c3 c4
    by_cases hlt : k < nl
    · have hkl : k < f.lc.length := by rw [HLL.out]; exact hlt
      obtain ⟨g, off, rfl, hc⟩ := rdI_at (HRL.out _ hK) (by omega)
      have ck := hc k hkl
      have HY := Lib.hid (fun h => S.all_step (p := knownB) hkl ht.out h)
      have HNO := Lib.hid (fun h => S.all_no (p := knownB) hkl h)
      have HKn := Lib.hid (fun w => rknown_any f.lc[k] w)
      clear hc ht
      generalize f.lc[k] = t at ck HY HNO HKn
      obtain ⟨b, hb⟩ : ∃ b, knownB t = b := ⟨_, rfl⟩
      rw [hb] at HY HNO HKn
      clear hb
      cases b
      · obtain rfl : 70 = R := by rw [← hR.out]; exact (HO2.out (HNO.out rfl)).symm
        clear hR HO HO2 HY HNO
        go_wp2_with (go_at_call 77; refine (HKn.out _).mono ?_; rintro e w9 ⟨rfl, rfl⟩)
        go_ret
        exact ⟨rfl, keepN HK0.out hK⟩
      · have HV := Lib.hid (HY.out rfl)
        clear hR HO HO2 HY HNO
        go_wp2_with (go_at_call 77; refine (HKn.out _).mono ?_; rintro e w9 ⟨rfl, rfl⟩)
        go_roundw
        case rel => exact ⟨k + 1, by omega, by go_num, HV, hK⟩
        case measure => simp [intOf]; omega
    · obtain rfl : 0 = R := by
        rw [← hR.out]
        have e1 := ht.out
        rw [List.take_of_length_le (by rw [HLL.out]; omega)] at e1
        exact (HO.out e1).symm
      clear hR HO HO2
      go_wp2
      go_ret
      exact ⟨rfl, keepN HK0.out hK⟩

end Go.Proofs.YtbnekeomdhljhaaGreatDoor.F

namespace Go.Proofs.YtbnekeomdhljhaaGreatDoor.S
open Go.RowKit W

/-- How the document's read ends. -/
def RdR (w : World) (br : Nat) (At : World → Nat → Prop) (R : Option (List Int × Nat)) (e : Ending) (w' : World) : Prop :=
  ∃ A n c q, e = .returned (.tuple #[.slice A n c, .bool R.isSome]) ∧ (∀ y, R = some y → n = y.1.length ∧ q = y.2 ∧ Own w' 3 1 (Fresh w) (.slice A n c) n (ivs y.1)) ∧ At w' q ∧ Keep (fun k => k = br) w w'
theorem rdr_none {w w' : World} {br q : Nat} {At : World → Nat → Prop} {R : Option (List Int × Nat)} {A : Option Addr} {n c : Nat} (hR : R = none) (h : At w' q) (hk : Keep (fun k => k = br) w w') : RdR w br At R (.returned (.tuple #[.slice A n c, .bool false])) w' := by
  subst hR
  exact ⟨A, n, c, q, rfl, fun _ h => (by cases h), h, hk⟩
theorem pack_clean {b : List UInt8} {n : Nat} (hb : b.length = sz n) : packL (unp b n) = b ↔ clean b n = true := by
  constructor
  · intro h
    have := (unp_pack (unp_known b n)).2
    rw [h, unp_length] at this
    exact this
  · exact pack_unp hb

theorem str_beq (a b : List UInt8) : ((V.str a).toList == (V.str b).toList) = decide (a = b) := by
  rw [ByteArray.toList_eq, ByteArray.toList_eq, Bool.eq_iff_iff, beq_iff_eq, decide_eq_true_iff]

set_option maxRecDepth 100000 in
set_option maxHeartbeats 4000000 in
theorem rread_any (w : World) (br : Nat) (Ob : Nat → Prop) (l : List UInt8) (p most : Nat) (hm : most ≤ 64) (h : V.RefAt w br Ob l p) (hlen : l.length ≤ 140737488355328) :
    Calls Tryz.prog 118 #[.pointer (some ⟨br, 0, none⟩), .int .u64 most] w (RdR w br (fun w' q => V.RefAt w' br Ob l q) (rdT l p most)) := by
  have hbr := ref_lt h
  have HS := Lib.hid (V.refnumber_any w br Ob l p most h hlen)
  obtain ⟨ni, r, q, hN, hN0, hN1⟩ := num_case l p most
  rw [hN] at HS
  clear h
  by_cases hr : r = 0
  · subst hr
    obtain ⟨hn1, hn2⟩ := hN0 rfl
    have hz : sz ni ≤ 16 := by unfold sz; omega
    have hz4 : ni ≤ 4 * sz ni := by unfold sz; omega
    have hzq : ((ni : Int) + 3).tdiv 4 = ((sz ni : Nat) : Int) := by unfold sz; rw [Int.tdiv_eq_ediv_of_nonneg (by omega)]; omega
    by_cases hl : l.length < q + sz ni
    · have HD := Lib.hid (rdT_2 hN hl)
      obtain ⟨z, hzz⟩ : ∃ z, sz ni = z := ⟨_, rfl⟩
      rw [hzz] at hz hz4 hl hzq
      clear hN hN0 hN1 hzz
      go_enter Tryz.func118, Tryz.ntmps118
      go_wp2_with fail
      refine HS.out.mono ?_
      rintro e w1 ⟨rfl, h1, k1⟩
      have HR := Lib.hid (V.refraw_any w1 br Ob l q (z : Int) h1 hlen (by omega))
      go_wp2_with fail
      refine HR.out.mono ?_
      rintro e w3 (⟨h0, _⟩ | ⟨_, ⟨_, rfl, h3, k3⟩ | ⟨h0, _⟩⟩)
      · omega
      · go_wp2
        go_ret2
        exact rdr_none HD.out h3 (keep_bb k1 k3)
      · omega
    · obtain ⟨bs, hbs⟩ : ∃ bs, (l.drop q).take (sz ni) = bs := ⟨_, rfl⟩
      have hbl : bs.length = sz ni := by rw [← hbs]; simp; omega
      have HD : Hid ((clean bs ni = true → rdT l p most = some (unp bs ni, q + sz ni)) ∧ (clean bs ni = false → rdT l p most = none)) := by
        refine ⟨fun hc => ?_, fun hc => ?_⟩
        · rw [rdT_4 hN hl (by rw [hbs]; exact hc), hbs]
        · exact rdT_3 hN (by rw [hbs]; exact hc)
      have HPC : Hid (packL (unp bs ni) = bs ↔ clean bs ni = true) := pack_clean hbl
      have HPL : Hid ((packL (unp bs ni)).length = sz ni) := by show _ = _; rw [packL_length, unp_length]
      obtain ⟨z, hzz⟩ : ∃ z, sz ni = z := ⟨_, rfl⟩
      rw [hzz] at hz hz4 hl hzq HD hbs hbl HPL
      have HB := Lib.hid hbs
      have HBL := Lib.hid hbl
      clear hN hN0 hN1 hzz hbl hbs
      obtain ⟨i0, hi, hz0, hz1, hz2⟩ := info_parts int_info
      go_enter Tryz.func118, Tryz.ntmps118
      go_wp2_with fail
      refine HS.out.mono ?_
      rintro e w1 ⟨rfl, h1, k1⟩
      have HR := Lib.hid (V.refraw_any w1 br Ob l q (z : Int) h1 hlen (by omega))
      go_wp2_with fail
      refine HR.out.mono ?_
      rintro e w3 (⟨h0, _⟩ | ⟨_, ⟨h0, _⟩ | ⟨_, A2, c2, rfl, hO3, h3, k3⟩⟩)
      · omega
      · omega
      rw [Int.toNat_natCast] at hO3 h3 ⊢
      rw [HB.out] at hO3
      have hK3 := keep_bb k1 k3
      obtain ⟨A', c', e', hzc, hrd, hA', _⟩ := hO3.form
      simp only [Value.slice.injEq] at e'
      obtain ⟨rfl, _, rfl⟩ := e'
      rw [HBL.out] at hzc
      have HRD := Lib.hid hrd
      have HAD := Lib.hid hA'
      clear hO3 k1 k3 h1 HR HS hrd hA' hzq
      go_wp2
      go_loopw [10, 11] (fun v i wr => ∃ k : Nat, k ≤ ni ∧ i = .int .i64 k ∧ (∃ B d, v = .slice B k d ∧ Own wr 3 1 (Fresh w3) (.slice B k d) k (ivs (unp bs k))) ∧ Keep NoB w3 wr) (fun _ i _ => ni - (intOf i).toNat)
      case atStart => exact ⟨0, Nat.zero_le _, rfl, ⟨none, 0, rfl, Own.nil _ _ _ _⟩, Keep.refl _ _⟩
      case round =>
        obtain ⟨k, hk, rfl, ⟨D, d, rfl, hO⟩, hK⟩ := hrel
        by_cases hlt : k < ni
        · have hq4 : k / 4 < bs.length := by rw [HBL.out]; omega
          obtain ⟨ad, rfl, hc⟩ := HRD.out (by omega)
          obtain ⟨_, hadf⟩ := HAD.out ad rfl
          obtain ⟨g, hg⟩ : ∃ g, ad.block = g := ⟨_, rfl⟩
          rw [hg] at hadf
          subst hadf
          have cb : wr.cell? ⟨g, k / 4, none⟩ = some (.int .u8 (bs[k / 4].toNat : Int)) := by
            have h1 := hK.cell (hc (k / 4) (V.bv bs[k / 4]) (by simp [hq4])) id
            have e : (⟨g, 0, none⟩ : Addr).add (k / 4) = ⟨g, k / 4, none⟩ := by unfold Addr.add; by_cases hj : k / 4 = 0 <;> simp [hj]
            rw [e] at h1
            exact h1
          have hv : bs[k / 4].toNat < 256 := UInt8.toNat_lt _
          have HV : Hid (bs[k / 4].toNat / 4 ^ (k % 4) % 4 = pc bs k) := by
            show _ = _
            have := pc_four hq4 (j := k % 4) (by omega)
            rw [show 4 * (k / 4) + k % 4 = k by omega] at this
            exact this.symm
          have HZ : Hid (ivs (unp bs (k + 1)) = ivs (unp bs k) ++ [.int .i64 ((pc bs k : Int) + 1)]) := by show _ = _; rw [unp_succ]; simp
          generalize bs[k / 4].toNat = v at cb hv HV
          have hq1 : ((k : Int).tdiv 4) = ((k / 4 : Nat) : Int) := by rw [Int.tdiv_eq_ediv_of_nonneg (by omega)]; omega
          have hr1 : ((k : Int).tmod 4) = ((k % 4 : Nat) : Int) := by rw [Int.tmod_eq_emod_of_nonneg (by omega)]; omega
          obtain ⟨kq, hkq⟩ : ∃ kq, k / 4 = kq := ⟨_, rfl⟩
          obtain ⟨kr, hkr⟩ : ∃ kr, k % 4 = kr := ⟨_, rfl⟩
          have hkz : kq < z := by omega
          have hkr4 : kr < 4 := by omega
          rw [hkq] at cb hq1
          rw [hkr] at HV hr1
          clear hq4 hc hg hkq hkr HAD HRD
          go_wp2
          go_loop [12, 13] (fun x j => ∃ jn : Nat, jn ≤ kr ∧ j = .int .i64 (jn : Int) ∧ x = .int .i64 ((v / 4 ^ jn : Nat) : Int)) (fun _ j => kr - (intOf j).toNat)
          case atStart => exact ⟨0, by omega, rfl, by simp⟩
          case round =>
            obtain ⟨jn, hjn, rfl, rfl⟩ := hrel
            have hd : v / 4 ^ jn < 256 := Nat.lt_of_le_of_lt (Nat.div_le_self _ _) hv
            by_cases hjl : jn < kr
            · have hs : v / 4 ^ jn / 4 = v / 4 ^ (jn + 1) := by rw [Nat.pow_succ, Nat.div_div_eq_div_mul]
              have HSS := Lib.hid hs
              generalize v / 4 ^ jn = y at hd HSS ⊢
              clear hs
              have hdv : ((y : Int).tdiv 4) = ((y / 4 : Nat) : Int) := by rw [Int.tdiv_eq_ediv_of_nonneg (by omega)]; omega
              go_wp2
              go_round
              case rel => exact ⟨jn + 1, by omega, by go_num, by rw [← HSS.out]; go_num⟩
              case measure => simp [intOf]; omega
            · obtain rfl : jn = kr := by omega
              have HV2 := HV.out
              have hmd : ∀ y : Nat, ((y : Int).tmod 4) = ((y % 4 : Nat) : Int) := fun y => by rw [Int.tmod_eq_emod_of_nonneg (by omega)]; omega
              have hmd2 := hmd (v / 4 ^ jn)
              rw [HV2] at hmd2
              have hpc := pc_lt bs k
              clear hmd HV HV2
              generalize v / 4 ^ jn = y at hd hmd2
              generalize pc bs k = pcv at hmd2 hpc HZ
              go_wp2_with (at_builtin; refine wpList_append_rd _ rfl (.tmp 54) (.tmp 58) _ rfl 3 1 8 i0 _ Tryz.underlying22 hi hz0 hz1 hz2 rfl (by decide) _ k _ _ 1 _ [.int .i64 ((pcv : Int) + 1)] rfl (hO.1.alloc _) rfl (rd_made (by simp) rfl) rfl (by simp [Value.oneCell']) (by unfold maxLen; omega) (by omega) ?_; intro B5 d5 w5 hrow5 hg5 hv5; obtain ⟨hO5, hK5⟩ := own_after hO.2 (hK.alloc _) hg5 hv5 hrow5; clear hrow5 hg5 hv5)
              go_roundw
              case rel => exact ⟨k + 1, by omega, by go_num, ⟨B5, d5, rfl, by rw [HZ.out]; exact hO5⟩, hK5⟩
              case measure => simp [intOf]; omega
        · obtain rfl : k = ni := by omega
          have hzb := HBL.out
          subst hzb
          clear HBL
          have HT := Lib.hid (fun w hr => rtypesB_any D (unp bs k) k d w hr (unp_length bs k) (unp_known bs k) (by omega))
          have r1 : Rd wr D (ivs (unp bs k)) := by
            obtain ⟨A', c', e, hr⟩ := own_rdI hO
            cases e; exact hr
          have HO := Lib.hid hO
          clear hO
          go_wp2_with fail
          refine (HT.out _ r1).mono ?_
          rintro e w5 ⟨v5, rfl, hO5, k5⟩
          obtain ⟨A5, c5, rfl, hLc, hr5, hA5, hm5⟩ := hO5.form
          have hE := V.encL_len k
          have hEp : 0 < (V.encL k).length := by rw [V.encL_length k (by omega)]; exact V.wd_pos k
          have hL : (bytesT (unp bs k)).length = (V.encL k).length + bs.length := by unfold bytesT; rw [List.length_append, HPL.out, unp_length]
          obtain ⟨ad, rfl, hc5⟩ := hr5 (by omega)
          obtain ⟨_, hadf⟩ := hA5 ad rfl
          obtain ⟨g, hg⟩ : ∃ g, ad.block = g := ⟨_, rfl⟩
          rw [hg] at hadf
          subst hadf
          rw [hL] at hLc ⊢
          obtain ⟨E, hEE⟩ : ∃ E, (V.encL k).length = E := ⟨_, rfl⟩
          rw [hEE] at hLc hE hEp ⊢
          have hAD : 0 < bs.length → (if c5 = E then some (⟨g, 0, none⟩ : Addr) else some ⟨g, E, none⟩) = some ⟨g, E, none⟩ := fun h => if_neg (by omega)
          have hrt : V.Rd w5 (if c5 = E then some (⟨g, 0, none⟩ : Addr) else some ⟨g, E, none⟩) (packL (unp bs k)) := fun h0 => by
            rw [HPL.out] at h0
            refine ⟨_, hAD h0, fun j u hu => ?_⟩
            have h1 := hc5 (E + j) u (by unfold bytesT; rw [unp_length]; show (List.map _ _)[_]? = _; rw [List.map_append, List.getElem?_append_right (by simp; omega), List.length_map, hEE, show E + j - E = j by omega]; exact hu)
            have e1 : (⟨g, 0, none⟩ : Addr).add (E + j) = ⟨g, E + j, none⟩ := by unfold Addr.add; rw [if_neg (by omega)]; simp
            have e2 : (⟨g, E, none⟩ : Addr).add j = ⟨g, E + j, none⟩ := by unfold Addr.add; by_cases hj : j = 0 <;> simp [hj]
            rw [e1] at h1
            rw [e2]; exact h1
          have hrb : V.Rd w5 A2 bs := (HRD.out.keep hK (fun _ _ _ => id)).keep k5 (fun _ _ _ => id)
          obtain ⟨S1, hS1⟩ : ∃ S1, V.str (packL (unp bs k)) = S1 := ⟨_, rfl⟩
          obtain ⟨S2, hS2⟩ : ∃ S2, V.str bs = S2 := ⟨_, rfl⟩
          have HS1 := Lib.hid hS1
          have HS2 := Lib.hid hS2
          have HHL := Lib.hid hLc
          have hwE : wrap64 (E : Int) = (E : Int) := by unfold wrap64; omega
          clear hS1 hS2 hAD hc5 hO5 hr5 hA5 hg hEE hE hL hLc r1 HT
          go_wp2
          refine wp_region_sh ((0, false) :: (1, false) :: (2, false) :: (3, false) :: (4, false) :: (5, false) :: (6, false) :: (7, false) :: (8, false) :: (9, false) :: (10, false) :: (11, false) :: (12, false) :: (13, false) :: []) (fun w' => Keep NoB w5 w') (by kernel_rfl) (by kernel_rfl) (by rfl) (by kernel_rfl) (stable_keep w5) (Keep.refl NoB w5).drew ?_
          refine shM_step rfl rfl rfl (by rfl) (by rfl) ?_
          apply Exists.intro
          refine ⟨fun z0 K hK => ?_, ?_, ?_⟩
          · go_big_quiet_op
            exact hK _ rfl
          · kernel_rfl
          refine shM_step rfl rfl rfl (by rfl) (by rfl) ?_
          apply Exists.intro
          refine ⟨fun z0 K hK => ?_, ?_, ?_⟩
          · go_big_quiet_op
            exact hK _ rfl
          · kernel_rfl
          refine shM_step rfl rfl rfl (by rfl) (by rfl) ?_
          apply Exists.intro
          refine ⟨fun z0 K hK => ?_, ?_, ?_⟩
          · go_big_quiet_op
            exact hK _ rfl
          · kernel_rfl
          refine shM_step rfl rfl rfl (by rfl) (by rfl) ?_
          apply Exists.intro
          refine ⟨fun z0 K hK => ?_, ?_, ?_⟩
          · go_big_quiet_op
            exact hK _ rfl
          · kernel_rfl
          refine shM_step rfl rfl rfl (by rfl) (by rfl) ?_
          apply Exists.intro
          refine ⟨fun z0 K hK => ?_, ?_, ?_⟩
          · go_big_quiet_op
            exact hK _ rfl
          · kernel_rfl
          refine shM_step rfl rfl rfl (by rfl) (by rfl) ?_
          apply Exists.intro
          refine ⟨fun z0 K hK => ?_, ?_, ?_⟩
          · go_big_quiet_op
            exact hK _ rfl
          · kernel_rfl
          refine shM_step rfl rfl rfl (by rfl) (by rfl) ?_
          apply Exists.intro
          refine ⟨fun z0 K hK => ?_, ?_, ?_⟩
          · go_big_quiet_op
            exact hK _ rfl
          · kernel_rfl
          refine shM_step rfl rfl rfl (by rfl) (by rfl) ?_
          apply Exists.intro
          refine ⟨fun z0 K hK => ?_, ?_, ?_⟩
          · go_big_quiet_op
            exact hK _ rfl
          · kernel_rfl
          refine shM_step rfl rfl rfl (by rfl) (by rfl) ?_
          apply Exists.intro
          refine ⟨fun z0 K hK => ?_, ?_, ?_⟩
          · have q1 : ∀ y : KW z0.w, (convert 28 9 (.slice (if c5 = E then some (⟨g, 0, none⟩ : Addr) else some ⟨g, E, none⟩) bs.length (c5 - E))).run Tryz.prog y.w = .ok (.string S1) y.w := fun y => by have := V.conv_rd (c := (c5 - E)) (rd_n hrt (keepN z0.has y.keep)); rw [HPL.out, HS1.out] at this; exact this
            go_big_quiet_op
            exact hK _ rfl
          · kernel_rfl
          refine shM_step rfl rfl rfl (by rfl) (by rfl) ?_
          apply Exists.intro
          refine ⟨fun z0 K hK => ?_, ?_, ?_⟩
          · go_big_quiet_op
            exact hK _ rfl
          · kernel_rfl
          refine shM_step rfl rfl rfl (by rfl) (by rfl) ?_
          apply Exists.intro
          refine ⟨fun z0 K hK => ?_, ?_, ?_⟩
          · have q2 : ∀ y : KW z0.w, (convert 28 9 (.slice A2 bs.length c2)).run Tryz.prog y.w = .ok (.string S2) y.w := fun y => by have := V.conv_rd (c := c2) (rd_n hrb (keepN z0.has y.keep)); rw [HS2.out] at this; exact this
            go_big_quiet_op
            exact hK _ rfl
          · kernel_rfl
          refine shM_step rfl rfl rfl (by rfl) (by rfl) ?_
          apply Exists.intro
          refine ⟨fun z0 K hK => ?_, ?_, ?_⟩
          · go_big_quiet_op
            exact hK _ rfl
          · kernel_rfl
          refine shM_step rfl rfl rfl (by rfl) (by rfl) ?_
          apply Exists.intro
          refine ⟨fun z0 K hK => ?_, ?_, ?_⟩
          · go_big_quiet_op
            exact hK _ rfl
          · kernel_rfl
          refine shM_step rfl rfl rfl (by rfl) (by rfl) ?_
          apply Exists.intro
          refine ⟨fun z0 K hK => ?_, ?_, ?_⟩
          · go_big_quiet_op
            exact hK _ rfl
          · kernel_rfl
          refine shM_nil (fun y0 => ?_)
          have hy := y0.has
          generalize y0.w = w6 at hy ⊢
          clear hrt
          generalize (if c5 = E then some (⟨g, 0, none⟩ : Addr) else some ⟨g, E, none⟩) = AE
          have hEQ : (S1.toList == S2.toList) = clean bs k := by
            rw [← HS1.out, ← HS2.out, str_beq, Bool.eq_iff_iff, decide_eq_true_iff]
            exact HPC.out
          have hK6 := keep_nb (keep_nb (keep_nb hK3 hK) k5) hy
          have h6 := ((h3.keep hK (fun _ _ => id)).keep k5 (fun _ _ => id)).keep hy (fun _ _ => id)
          have hO6 := (HO.out.keepN k5).keepN hy
          have hs3 := hK3.size
          generalize (S1.toList == S2.toList) = eqb at hEQ ⊢
          clear hrb HS1 HS2 HHL hwE
          go_wp2
          go_ret2
          subst hEQ
          refine ⟨D, k, d, _, ?_, fun y hy => ?_, h6, hK6⟩
          · cases hc : clean bs k
            · rw [HD.out.2 hc]; rfl
            · rw [HD.out.1 hc]; rfl
          · cases hc : clean bs k
            · rw [HD.out.2 hc] at hy; cases hy
            · rw [HD.out.1 hc] at hy
              injection hy with hy
              subst hy
              exact ⟨(unp_length bs k).symm, rfl, hO6.mono (fun j hj _ => by unfold Fresh at hj ⊢; omega)⟩
  · have HD := Lib.hid (rdT_1 hN hr)
    have hr3 : ((r : Int) != 0) = true := by rw [bne_iff_ne]; omega
    clear hN0 hN1 hN hr
    go_enter Tryz.func118, Tryz.ntmps118
    go_wp2_with fail
    refine HS.out.mono ?_
    rintro e w1 ⟨rfl, h1, k1⟩
    go_wp2
    go_ret2
    exact rdr_none HD.out h1 k1

end Go.Proofs.YtbnekeomdhljhaaGreatDoor.S

namespace Go.Proofs.YtbnekeomdhljhaaGreatDoor.S
open Go.RowKit W

theorem decG_1 {l : List UInt8} {p : Nat} (h : rdT l p 64 = none) : decG l p = none := by unfold decG; rw [h]
theorem decG_2 {l : List UInt8} {p : Nat} {x : List Int × Nat} (h : rdT l p 64 = some x) (h2 : rdT l x.2 64 = none) : decG l p = none := by unfold decG; rw [h]; dsimp only; rw [h2]
theorem decG_3 {l : List UInt8} {p : Nat} {x y : List Int × Nat} (h : rdT l p 64 = some x) (h2 : rdT l x.2 64 = some y) (ho : okG x.1 y.1 = false) : decG l p = none := by
  unfold decG; rw [h]; dsimp only; rw [h2]; exact if_neg (by rw [ho]; decide)
theorem decG_4 {l : List UInt8} {p : Nat} {x y : List Int × Nat} (h : rdT l p 64 = some x) (h2 : rdT l x.2 64 = some y) (ho : okG x.1 y.1 = true) : decG l p = some ((x.1, y.1), y.2) := by
  unfold decG; rw [h]; dsimp only; rw [h2]; exact if_pos ho

set_option maxRecDepth 100000 in
set_option maxHeartbeats 4000000 in
theorem rdecodeG_any (w : World) (br : Nat) (Ob : Nat → Prop) (l : List UInt8) (p : Nat) (hO : ∀ k, Ob k → k < w.heap.size) (h : V.RefAt w br Ob l p) (hlen : l.length ≤ 140737488355328) :
    Calls Tryz.prog 60 #[.pointer (some ⟨br, 0, none⟩)] w (SigR w br (fun w' q => V.RefAt w' br Ob l q) (decG l p)) := by
  have hbr := ref_lt h
  have bz := Blk.new w 24 #[.slice none 0 0, .slice none 0 0]
  have k0 := (Keep.refl NoB w).alloc (.cells #[.slice none 0 0, .slice none 0 0] 24)
  have h0 := h.keep k0 (fun _ _ => id)
  have HU := Lib.hid (rread_any _ br Ob l p 64 (by omega) h0 hlen)
  have HOb : Hid (∀ k, Ob k → ¬ (k = w.heap.size)) := fun k hk e => by have := hO k hk; omega
  clear h h0
  cases hR : rdT l p 64 with
  | none =>
    have HD := Lib.hid (decG_1 hR)
    rw [hR] at HU
    go_enter Tryz.func60, Tryz.ntmps60
    go_wp2_with fail
    refine HU.out.mono ?_
    rintro e w1 ⟨A1, n1, c1, q, rfl, _, h1, k1⟩
    have bz1 := bz.keep k1 (fun e => by omega)
    obtain ⟨z0, z1⟩ := blk2 bz1
    have fz := fun i => bz1.frozen i
    have HBZ := Lib.hid (fun u v => blk_put2 bz1 u v)
    have gK := (k0.mono (O' := fun k => k = br) (fun _ hf _ => hf.elim)).trans k1 (fun _ h _ => h)
    clear bz bz1 k0 k1
    go_wp2
    refine bodyPost_ret (ret_sig rfl rfl (HBZ.out _ _) rfl) rfl ?_
    exact sig_none HD.out (h1.keep (keep_at2 w1 w.heap.size _ _) HOb.out) (keep_put2 gK (Nat.le_refl _) _ _)
  | some x =>
    obtain ⟨xs, qx⟩ := x
    obtain ⟨hk, hml, _⟩ := rdT_ok hR
    rw [hR] at HU
    have HU2 := Lib.hid (fun (w : World) (h : V.RefAt w br Ob l qx) => rread_any w br Ob l qx 64 (by omega) h hlen)
    have HO1 : Hid (w.heap.size < (w.alloc (.cells #[.slice none 0 0, .slice none 0 0] 24)).heap.size) := by show _ < _; simp
    cases hR2 : rdT l qx 64 with
    | none =>
      have HD := Lib.hid (decG_2 hR hR2)
      rw [hR2] at HU2
      clear hR hR2 hk
      go_enter Tryz.func60, Tryz.ntmps60
      go_wp2_with fail
      refine HU.out.mono ?_
      rintro e w1 ⟨A1, n1, c1, q, rfl, hq, h1, k1⟩
      obtain ⟨rfl, rfl, _⟩ := hq _ rfl
      have bz1 := bz.keep k1 (fun e => by omega)
      have gK := (k0.mono (O' := fun k => k = br) (fun _ hf _ => hf.elim)).trans k1 (fun _ h _ => h)
      clear bz k0 hq
      go_wp2_with fail
      refine (HU2.out _ h1).mono ?_
      rintro e w2 ⟨A2, n2, c2, q2, rfl, _, h2, k2⟩
      have bz2 := (bz1.keep k2 (fun e => by omega)).alloc (.cells #[.slice A1 xs.length c1, .slice A2 n2 c2] 24)
      have h3 := h2.keep ((Keep.refl NoB w2).alloc (.cells #[.slice A1 xs.length c1, .slice A2 n2 c2] 24)) (fun _ _ => id)
      obtain ⟨z0, z1⟩ := blk2 bz2
      have fz := fun i => bz2.frozen i
      have HBZ := Lib.hid (fun u v => blk_put2 bz2 u v)
      replace gK := (keep_bb gK k2).alloc (.cells #[.slice A1 xs.length c1, .slice A2 n2 c2] 24)
      clear bz1 bz2 k2 k1 h2
      go_wp2
      refine bodyPost_ret (ret_sig rfl rfl (HBZ.out _ _) rfl) rfl ?_
      exact sig_none HD.out (h3.keep (keep_at2 _ w.heap.size _ _) HOb.out) (keep_put2 gK (Nat.le_refl _) _ _)
    | some y =>
      obtain ⟨ys, qy⟩ := y
      obtain ⟨hk2, hml2, _⟩ := rdT_ok hR2
      rw [hR2] at HU2
      have HI : Hid ((okG xs ys = false → decG l p = none ∧ ∀ (A : Option Addr) (ca : Nat) (B : Option Addr) (cb : Nat) (w : World), Rd w A (ivs xs) → Rd w B (ivs ys) → Calls Tryz.prog 74 #[.agg #[.slice A xs.length ca, .slice B ys.length cb]] w fun e w' => e = .returned (.int .i64 61) ∧ Keep NoB w w') ∧
        (okG xs ys = true → decG l p = some ((xs, ys), qy) ∧ ∀ (A : Option Addr) (ca : Nat) (B : Option Addr) (cb : Nat) (w : World), Rd w A (ivs xs) → Rd w B (ivs ys) → Calls Tryz.prog 74 #[.agg #[.slice A xs.length ca, .slice B ys.length cb]] w fun e w' => e = .returned (.int .i64 0) ∧ Keep NoB w w')) :=
        ⟨fun ho => ⟨decG_3 hR hR2 ho, fun A ca B cb w ha hr => rchkG_any A xs xs.length ca B ys ys.length cb w ha hr rfl rfl (by omega) (by omega) 61 (chkG_no ho)⟩, fun ho => ⟨decG_4 hR hR2 ho, fun A ca B cb w ha hr => rchkG_any A xs xs.length ca B ys ys.length cb w ha hr rfl rfl (by omega) (by omega) 0 (chkG_ok ho)⟩⟩
      clear hR hR2 hk hk2
      go_enter Tryz.func60, Tryz.ntmps60
      go_wp2_with fail
      refine HU.out.mono ?_
      rintro e w1 ⟨A1, n1, c1, q, rfl, hq, h1, k1⟩
      obtain ⟨rfl, rfl, hO1⟩ := hq _ rfl
      have bz1 := bz.keep k1 (fun e => by omega)
      have gK := (k0.mono (O' := fun k => k = br) (fun _ hf _ => hf.elim)).trans k1 (fun _ h _ => h)
      replace hO1 := hO1.mono (O' := fun k => w.heap.size < k) (fun k hf _ => by have := HO1.out; unfold Fresh at hf; omega)
      have hs1 : w.heap.size < w1.heap.size := bz1.lt
      clear bz k0 hq k1 HO1
      go_wp2_with fail
      refine (HU2.out _ h1).mono ?_
      rintro e w2 ⟨A2, n2, c2, q2, rfl, hq2, h2, k2⟩
      obtain ⟨rfl, rfl, hO2⟩ := hq2 _ rfl
      replace hO2 := (hO2.mono (O' := fun k => w.heap.size < k) (fun k hf _ => by unfold Fresh at hf; omega)).keepN ((Keep.refl NoB w2).alloc (.cells #[.slice A1 xs.length c1, .slice A2 ys.length c2] 24))
      replace hO1 := (hO1.keep k2 (fun k hk e => by omega)).keepN ((Keep.refl NoB w2).alloc (.cells #[.slice A1 xs.length c1, .slice A2 ys.length c2] 24))
      have bz2 := (bz1.keep k2 (fun e => by omega)).alloc (.cells #[.slice A1 xs.length c1, .slice A2 ys.length c2] 24)
      have bg2 := Blk.new w2 24 #[.slice A1 xs.length c1, .slice A2 ys.length c2]
      have h3 := h2.keep ((Keep.refl NoB w2).alloc (.cells #[.slice A1 xs.length c1, .slice A2 ys.length c2] 24)) (fun _ _ => id)
      replace gK := (keep_bb gK k2).alloc (.cells #[.slice A1 xs.length c1, .slice A2 ys.length c2] 24)
      have r1 : Rd (w2.alloc (.cells #[.slice A1 xs.length c1, .slice A2 ys.length c2] 24)) A1 (ivs xs) := by
        obtain ⟨A', c', e, hr⟩ := own_rdI hO1
        cases e; exact hr
      have r2 : Rd (w2.alloc (.cells #[.slice A1 xs.length c1, .slice A2 ys.length c2] 24)) A2 (ivs ys) := by
        obtain ⟨A', c', e, hr⟩ := own_rdI hO2
        cases e; exact hr
      clear bz1 hq2 k2 h1 h2 HU HU2
      cases ho : okG xs ys
      · obtain ⟨hD, hI⟩ := HI.out.1 ho
        have HD := Lib.hid hD
        have HI2 := Lib.hid hI
        clear hD hI HI ho hO1 hO2
        go_wp2_with fail
        refine (HI2.out _ _ _ _ _ r1 r2).mono ?_
        rintro e w3 ⟨rfl, k3⟩
        have bz3 := bz2.keep k3 id
        obtain ⟨z0, z1⟩ := blk2 bz3
        have fz := fun i => bz3.frozen i
        have HBZ := Lib.hid (fun u v => blk_put2 bz3 u v)
        replace h3 := h3.keep k3 (fun _ _ => id)
        replace gK := keep_nb gK k3
        clear bz2 bz3 k3 r1 r2 HI2 bg2
        go_wp2
        refine bodyPost_ret (ret_sig rfl rfl (HBZ.out _ _) rfl) rfl ?_
        exact sig_none HD.out (h3.keep (keep_at2 w3 w.heap.size _ _) HOb.out) (keep_put2 gK (Nat.le_refl _) _ _)
      · obtain ⟨hD, hI⟩ := HI.out.2 ho
        have HD := Lib.hid hD
        have HI2 := Lib.hid hI
        clear hD hI HI ho
        go_wp2_with fail
        refine (HI2.out _ _ _ _ _ r1 r2).mono ?_
        rintro e w3 ⟨rfl, k3⟩
        have bz3 := bz2.keep k3 id
        obtain ⟨z0, z1⟩ := blk2 bz3
        obtain ⟨g0, g1⟩ := blk2 (bg2.keep k3 id)
        have fz := fun i => bz3.frozen i
        have HBZ := Lib.hid (fun u v => blk_put2 bz3 u v)
        replace h3 := h3.keep k3 (fun _ _ => id)
        have HP1 := Lib.hid (own_put2 (hO1.keepN k3) (Nat.le_refl _) (.slice A1 xs.length c1) (.slice A2 ys.length c2))
        have HP2 := Lib.hid (own_put2 (hO2.keepN k3) (Nat.le_refl _) (.slice A1 xs.length c1) (.slice A2 ys.length c2))
        replace gK := keep_nb gK k3
        clear bz2 bz3 k3 r1 r2 HI2 hO1 hO2 bg2
        go_wp2
        refine bodyPost_ret (ret_sig rfl rfl (HBZ.out _ _) rfl) rfl ?_
        rw [HD.out]
        exact ⟨_, _, _, rfl, HP1.out, HP2.out, h3.keep (keep_at2 w3 w.heap.size _ _) HOb.out, fun y hy => (by injection hy with hy; rw [← hy]), keep_put2 gK (Nat.le_refl _) _ _⟩

end Go.Proofs.YtbnekeomdhljhaaGreatDoor.S

namespace Go.Proofs.YtbnekeomdhljhaaGreatDoor.F
open Go.RowKit W

theorem st_of {l : List UInt8} {p q1 q2 q3 q4 : Nat} {s : List UInt8} {a r b : List Int} {d : List C.I3} (h1 : nmR l p = some (s, q1)) (h2 : S.decG l q1 = some ((a, r), q2)) (h3 : lcR l q2 = some (b, q3)) (h4 : C.decB l q3 = some (d, q4)) : st l p 4 = some (⟨s, a, r, b, d⟩, q4) := by
  show ((((some (nilF, p)).bind (stN l)).bind (stG l)).bind (stL l)).bind (stB l) = _
  simp only [Option.bind_some, stN, h1, Option.map_some, stG, h2, stL, h3, stB, h4]
/-- What the document's Bytes answers of a name. -/
def RnG (w : World) (At : World → Nat → Prop) (R : Option (List UInt8 × Nat)) (A : Option Addr) (n c : Nat) (E : Int) (w' : World) : Prop :=
  (R = none ∧ E ≠ 0 ∧ ∃ q, At w' q) ∨ (∃ s q, R = some (s, q) ∧ E = 0 ∧ V.OwnB w' (Fresh w) (.slice A n c) s ∧ s.length = n ∧ At w' q)
theorem rname_any (w : World) (br : Nat) (Ob : Nat → Prop) (l : List UInt8) (p : Nat) (h : V.RefAt w br Ob l p) (hlen : l.length ≤ 140737488355328) :
    Calls Tryz.prog 59 #[.pointer (some ⟨br, 0, none⟩), .int .i64 32] w fun e w' => ∃ A n c E, e = .returned (.tuple #[.slice A n c, .int .i64 E]) ∧ RnG w (fun w' q => V.RefAt w' br Ob l q) (nmR l p) A n c E w' ∧ Keep (fun k => k = br) w w' := by
  have HB := V.refbytesr_any w br Ob l p 32 h hlen (by omega) (by omega)
  rw [show (max (32 : Int) 0).toNat = 32 from rfl] at HB
  have hx := V.bnd_width (l.drop p) 32
  have hp := h.2.1
  rw [List.length_drop] at hx
  have hb0 : ∃ b, V.bnd (V.nx (l.drop p)) 32 = b := ⟨_, rfl⟩
  obtain ⟨⟨n, d, r⟩, hb⟩ := hb0
  rw [hb] at HB hx
  dsimp only at hx
  refine HB.mono ?_
  rintro e w1 (⟨hr, rfl, h1, k1⟩ | ⟨hr, (⟨hs, rfl, h1, k1⟩ | ⟨hs, A, c, rfl, hO, h1, k1⟩)⟩)
  · exact ⟨_, _, _, _, rfl, .inl ⟨nmR_1 hb hr, by dsimp only at hr ⊢; omega, p, h1⟩, k1⟩
  · dsimp only at hr hs
    subst hr
    exact ⟨_, _, _, _, rfl, .inl ⟨nmR_2 hb (by omega), by decide, p, h1⟩, k1⟩
  · dsimp only at hr hs hO h1 ⊢
    subst hr
    rw [Int.toNat_natCast] at hO h1 ⊢
    have hns : ¬ l.length < p + d + n := by omega
    exact ⟨_, _, _, _, rfl, .inr ⟨_, _, nmR_3 hb hns, rfl, hO, by rw [List.length_take, List.length_drop]; omega, h1⟩, k1⟩
theorem blk2F {w : World} {g : Nat} {t : TypeId} {u v : Value} (h : Blk w g t #[u, v]) : w.cell? ⟨g, 0, none⟩ = some u ∧ w.cell? ⟨g, 1, none⟩ = some v := ⟨h.cell 0, h.cell 1⟩
theorem nez {E : Int} (h : E ≠ 0) : (E != 0) = true := bne_iff_ne.2 h

set_option maxRecDepth 100000 in
set_option maxHeartbeats 8000000 in
theorem rdecodeF_any (w : World) (br : Nat) (Ob : Nat → Prop) (l : List UInt8) (p : Nat) (hO : ∀ k, Ob k → k < w.heap.size) (h : V.RefAt w br Ob l p) (hlen : l.length ≤ 140737488355328) :
    Calls Tryz.prog 14 #[.pointer (some ⟨br, 0, none⟩)] w (FunR w (fun k => k = br) (fun w' q => V.RefAt w' br Ob l q) (decF l p)) := by
  have hbr := S.ref_lt h
  have bz := Blk.new w 27 nilV.cells
  have k0 := (Keep.refl (fun k => k = br) w).alloc (.cells nilV.cells 27)
  unfold nilV FV.cells at bz k0
  generalize hw0 : w.alloc (.cells #[.string ⟨#[]⟩, .slice none 0 0, .slice none 0 0, .slice none 0 0, .slice none 0 0] 27) = w0 at bz k0
  have gs : w.heap.size + 1 ≤ w0.heap.size := by rw [← hw0]; simp
  have hat : V.RefAt w0 br Ob l p := by rw [← hw0]; exact h.keep ((Keep.refl NoB w).alloc _) (fun _ _ => id)
  have HPL : Hid (∀ k, Ob k → ¬ k = w.heap.size) := fun k hk e => by have := hO k hk; omega
  have HOB := Lib.hid hO
  have HN := Lib.hid (rname_any w0 br Ob l p hat hlen)
  clear h hO hat
  go_enter Tryz.func14, Tryz.ntmps14
  go_wp2_with fail
  clear hw0
  refine HN.out.mono ?_
  rintro e w1 ⟨A0, n0, c0, E0, rfl, hG, k1⟩
  have gK := k0.trans k1 (fun _ h _ => h)
  replace bz := bz.keep k1 (fun e => by omega)
  have gsB := Nat.le_trans gs k1.size
  clear HN k0 k1
  rcases hG with ⟨hn, hE, q0, h1⟩ | ⟨s, q1, hn, rfl, hON, hln, h1⟩
  · have HM := Lib.hid (decF_1 hn)
    have hE0 := nez hE
    obtain ⟨z0, z1, z2, z3, z4⟩ := blk5 (v := nilV) bz
    have fz := fun i => bz.frozen i
    have HB := Lib.hid (blk_put5 bz nilV)
    have HK9 := Lib.hid (gK.trans (keep_at5 _ w.heap.size nilV) (fun k e hk => by omega))
    have HA9 := Lib.hid (h1.keep (keep_at5 _ w.heap.size nilV) HPL.out)
    unfold nilV at z0 z1 z2 z3 z4
    dsimp only at z0 z1 z2 z3 z4
    clear gK bz h1 hn hE  HOB
    go_wp2
    refine bodyPost_ret (ret_funE (v := nilV) rfl rfl HB.out rfl) rfl ?_
    exact .inl ⟨HM.out, rfl, ⟨_, HA9.out⟩, HK9.out⟩
  · have HD := Lib.hid ((S.rdecodeG_any w1 br Ob l q1 (fun k hk => by have := HOB.out k hk; omega) h1 hlen).mono fun e w' h => sgG_of h)
    have HNM := Lib.hid hn
    have HN1 := Lib.hid (And.intro hON hln)
    clear hn hON hln h1
    go_wp2_with fail
    refine HD.out.mono ?_
    rintro e w2 ⟨A1, n1, c1, B1, m1, d1, E1, rfl, hG, k2⟩
    have ka := (Keep.refl NoB w2).alloc (.cells #[.slice A1 n1 c1, .slice B1 m1 d1] 24)
    have k2a := k2.trans ka (fun _ hf _ => hf.elim)
    replace gK := gK.trans k2a (fun _ h _ => h)
    have gb := Blk.new w2 24 #[.slice A1 n1 c1, .slice B1 m1 d1]
    replace bz := bz.keep k2a (fun e => by omega)
    have gs2 := k2.size
    have gsC := Nat.le_trans gsB gs2
    have gsD := Nat.le_trans gsB k2a.size
    replace HN1 := Lib.hid (And.intro (HN1.out.1.keep k2a (fun k hk e => by unfold Fresh at hk; omega)) HN1.out.2)
    clear HD k2a k2
    rcases hG with ⟨hn, hE, q2, h2⟩ | ⟨a, r, q2, hn, rfl, hA1, hB1, h2⟩
    · have HM := Lib.hid (decF_2 HNM.out hn)
      have hE0 := nez hE
      replace h2 := h2.keep ka (fun _ _ => id)
      obtain ⟨z0, z1, z2, z3, z4⟩ := blk5 (v := nilV) bz
      have fz := fun i => bz.frozen i
      have HB := Lib.hid (blk_put5 bz nilV)
      have HK9 := Lib.hid (gK.trans (keep_at5 _ w.heap.size nilV) (fun k e hk => by omega))
      have HA9 := Lib.hid (h2.keep (keep_at5 _ w.heap.size nilV) HPL.out)
      unfold nilV at z0 z1 z2 z3 z4
      dsimp only at z0 z1 z2 z3 z4
      clear gK bz h2 hn hE  HOB ka gb HNM HN1
      go_wp2
      refine bodyPost_ret (ret_funE (v := nilV) rfl rfl HB.out rfl) rfl ?_
      exact .inl ⟨HM.out, rfl, ⟨_, HA9.out⟩, HK9.out⟩
    · replace h2 := h2.keep ka (fun _ _ => id)
      have HG1 := Lib.hid hn
      have HO1 := Lib.hid (And.intro (hA1.keepN ka) (hB1.keepN ka))
      clear hA1 hB1 hn ka
      have HD := Lib.hid ((S.rdecodeG_any _ br Ob l q2 (fun k hk => by have := HOB.out k hk; omega) h2 hlen).mono fun e w' h => sgG_of h)
      clear h2
      go_wp2_with fail
      refine HD.out.mono ?_
      rintro e w3 ⟨A2, n2, c2, B2, m2, d2, E2, rfl, hG, k3⟩
      have ka := (Keep.refl NoB w3).alloc (.cells #[.slice A2 n2 c2, .slice B2 m2 d2] 24)
      have k3a := k3.trans ka (fun _ hf _ => hf.elim)
      replace gK := gK.trans k3a (fun _ h _ => h)
      replace gb := gb.keep k3a (fun e => by omega)
      have gc := Blk.new w3 24 #[.slice A2 n2 c2, .slice B2 m2 d2]
      replace bz := bz.keep k3a (fun e => by omega)
      have gs3 := k3.size
      simp only [World.size_alloc] at gs3
      have gsE : w.heap.size + 1 ≤ w3.heap.size := by omega
      have gsF := Nat.le_trans gsD k3a.size
      replace HN1 := Lib.hid (And.intro (HN1.out.1.keep k3a (fun k hk e => by unfold Fresh at hk; omega)) HN1.out.2)
      replace HO1 := Lib.hid (And.intro (HO1.out.1.keep k3a (fun k hk e => by unfold Fresh at hk; omega)) (HO1.out.2.keep k3a (fun k hk e => by unfold Fresh at hk; omega)))
      clear HD k3a k3
      rcases hG with ⟨hn, hE, q3, h3⟩ | ⟨b, r2, q3, hn, rfl, hA2, hB2, h3⟩
      · have HM := Lib.hid (decF_3 HNM.out HG1.out (lcR_1 hn))
        have hE0 := nez hE
        replace h3 := h3.keep ka (fun _ _ => id)
        obtain ⟨z0, z1, z2, z3, z4⟩ := blk5 (v := nilV) bz
        have fz := fun i => bz.frozen i
        have HB := Lib.hid (blk_put5 bz nilV)
        have HK9 := Lib.hid (gK.trans (keep_at5 _ w.heap.size nilV) (fun k e hk => by omega))
        have HA9 := Lib.hid (h3.keep (keep_at5 _ w.heap.size nilV) HPL.out)
        unfold nilV at z0 z1 z2 z3 z4
        dsimp only at z0 z1 z2 z3 z4
        clear gK bz h3 hn hE  HOB ka gb gc HNM HN1 HG1 HO1
        go_wp2
        refine bodyPost_ret (ret_funE (v := nilV) rfl rfl HB.out rfl) rfl ?_
        exact .inl ⟨HM.out, rfl, ⟨_, HA9.out⟩, HK9.out⟩
      · replace h3 := h3.keep ka (fun _ _ => id)
        obtain ⟨e20, e21⟩ := blk2F gc
        have hm2 := own_len hB2
        by_cases hr : r2 = []
        · subst hr
          obtain rfl : m2 = 0 := hm2.symm
          have HG2 := Lib.hid (lcR_3 hn)
          have HO2 := Lib.hid (hA2.keepN ka)
          clear hA2 hB2 hn ka hm2
          have HD := Lib.hid ((C.rcdecode_any _ br Ob l q3 (fun k hk => by have := HOB.out k hk; omega) h3 hlen).mono fun e w' h => bdG_of h)
          clear h3
          go_wp2_with fail
          refine HD.out.mono ?_
          rintro e w4 ⟨A3, n3, c3, E3, rfl, hG, k4⟩
          replace gK := gK.trans k4 (fun _ h _ => h)
          replace gb := gb.keep k4 (fun e => by omega)
          replace gc := gc.keep k4 (fun e => by omega)
          replace bz := bz.keep k4 (fun e => by omega)
          have gs4 := k4.size
          simp only [World.size_alloc] at gs4
          have gsG := Nat.le_trans gsF k4.size
          replace HN1 := Lib.hid (And.intro (HN1.out.1.keep k4 (fun k hk e => by unfold Fresh at hk; omega)) HN1.out.2)
          replace HO1 := Lib.hid (And.intro (HO1.out.1.keep k4 (fun k hk e => by unfold Fresh at hk; omega)) (HO1.out.2.keep k4 (fun k hk e => by unfold Fresh at hk; omega)))
          replace HO2 := Lib.hid (HO2.out.keep k4 (fun k hk e => by unfold Fresh at hk; omega))
          clear HD k4 e20 e21
          obtain ⟨e10, e11⟩ := blk2F gb
          obtain ⟨e20, e21⟩ := blk2F gc
          have cv : (convert 28 9 (.slice A0 n0 c0)).run Tryz.prog w4 = .ok (.string (V.str s)) w4 := by
            obtain ⟨A', c', e, hr', _⟩ := S.own_rd HN1.out.1
            injection e with e1 e2 e3
            subst e1
            rw [← HN1.out.2]; exact V.conv_rd hr'
          have ka := (Keep.refl NoB w4).alloc (.cells #[.string (V.str s), .slice A1 n1 c1, .slice B1 m1 d1, .slice A2 n2 c2, .slice A3 n3 c3] 27)
          replace gK := gK.trans ka (fun _ hf _ => hf.elim)
          replace bz := bz.keep ka id
          rcases hG with ⟨hn, hE, q4, h4⟩ | ⟨xs, q4, hn, rfl, hA3, hI3, h4⟩
          · have HM := Lib.hid (decF_4 HNM.out HG1.out HG2.out hn)
            have hE0 := nez hE
            replace h4 := h4.keep ka (fun _ _ => id)
            obtain ⟨z0, z1, z2, z3, z4⟩ := blk5 (v := nilV) bz
            have fz := fun i => bz.frozen i
            have HB := Lib.hid (blk_put5 bz nilV)
            have HK9 := Lib.hid (gK.trans (keep_at5 _ w.heap.size nilV) (fun k e hk => by omega))
            have HA9 := Lib.hid (h4.keep (keep_at5 _ w.heap.size nilV) HPL.out)
            unfold nilV at z0 z1 z2 z3 z4
            dsimp only at z0 z1 z2 z3 z4
            clear gK bz h4 hn hE  HOB ka gb gc HNM HN1 HG1 HO1 HG2 HO2
            go_wp2
            refine bodyPost_ret (ret_funE (v := nilV) rfl rfl HB.out rfl) rfl ?_
            exact .inl ⟨HM.out, rfl, ⟨_, HA9.out⟩, HK9.out⟩
          · have HM0 := Lib.hid (decF_5 HNM.out HG1.out HG2.out hn)
            have HST := Lib.hid (st_of HNM.out HG1.out HG2.out hn)
            have hOF : OwnF _ (fun k => w.heap.size < k) ⟨V.str s, A1, n1, c1, B1, m1, d1, A2, n2, c2, A3, n3, c3⟩ ⟨s, a, r, b, xs⟩ :=
              OwnF.keepN (W := w4) ⟨rfl, HO1.out.1.mono (fun k hk _ => by unfold Fresh at hk; omega), HO1.out.2.mono (fun k hk _ => by unfold Fresh at hk; omega), HO2.out.mono (fun k hk _ => by unfold Fresh at hk; simp only [World.size_alloc] at hk; omega), hA3.mono (fun k hk _ => by unfold Fresh at hk; simp only [World.size_alloc] at hk; omega), hI3⟩ ka
            replace h4 := h4.keep ka (fun _ _ => id)
            have bf := Blk.new w4 27 (FV.cells ⟨V.str s, A1, n1, c1, B1, m1, d1, A2, n2, c2, A3, n3, c3⟩)
            have hsm := smF_of HST.out hOF
            have HC := Lib.hid (rcheck_any _ _ _ hOF.fn hsm _ rfl)
            clear HNM HN1 HG1 HO1 HG2 HO2 hn hA3 ka hsm HST HOB gb gc
            unfold FV.val at *
            unfold FV.cells at *
            dsimp only at *
            generalize hf : (⟨s, a, r, b, xs⟩ : Fu) = f at *
            clear hf
            cases ho : okF f
            · rw [chkF_no ho] at HC
              have HM : Hid (decF l p = none) := HM0.out.trans (ifF_no ho)
              have HX := Lib.hid (And.intro gK (And.intro bz h4))
              clear HM0 ho gK bz h4 hOF bf
              go_wp2_with fail
              refine HC.out.mono ?_
              rintro e w6 ⟨rfl, k6⟩
              obtain ⟨gK, bz, h4⟩ := HX.out
              replace bz := bz.keep k6 id
              replace gK := gK.trans k6 (fun _ h _ => h.elim)
              replace h4 := h4.keep k6 (fun _ _ => id)
              obtain ⟨z0, z1, z2, z3, z4⟩ := blk5 (v := nilV) bz
              have fz := fun i => bz.frozen i
              have HB := Lib.hid (blk_put5 bz nilV)
              have HK9 := Lib.hid (gK.trans (keep_at5 _ w.heap.size nilV) (fun k e hk => by omega))
              have HA9 := Lib.hid (h4.keep (keep_at5 _ w.heap.size nilV) HPL.out)
              unfold nilV at z0 z1 z2 z3 z4
              dsimp only at z0 z1 z2 z3 z4
              clear gK bz h4 HC HX k6
              go_wp2
              refine bodyPost_ret (ret_funE (v := nilV) rfl rfl HB.out rfl) rfl ?_
              exact .inl ⟨HM.out, rfl, ⟨_, HA9.out⟩, HK9.out⟩
            · rw [chkF_ok ho] at HC
              have HM : Hid (decF l p = some (f, q4)) := HM0.out.trans (ifF_ok ho)
              have HX := Lib.hid (And.intro gK (And.intro bz (And.intro h4 (And.intro hOF bf))))
              clear HM0 ho gK bz h4 hOF bf
              go_wp2_with fail
              refine HC.out.mono ?_
              rintro e w6 ⟨rfl, k6⟩
              obtain ⟨gK, bz, h4, hOF, bf⟩ := HX.out
              replace bz := bz.keep k6 id
              replace bf := bf.keep k6 id
              replace gK := gK.trans k6 (fun _ h _ => h.elim)
              replace h4 := h4.keep k6 (fun _ _ => id)
              replace hOF := hOF.keepN k6
              obtain ⟨z0, z1, z2, z3, z4⟩ := blk5 (v := nilV) bz
              obtain ⟨y0, y1, y2, y3, y4⟩ := blk5 (v := ⟨V.str s, A1, n1, c1, B1, m1, d1, A2, n2, c2, A3, n3, c3⟩) bf
              have fz := fun i => bz.frozen i
              have HB := Lib.hid (blk_put5 bz ⟨V.str s, A1, n1, c1, B1, m1, d1, A2, n2, c2, A3, n3, c3⟩)
              have HK9 := Lib.hid (gK.trans (keep_at5 _ w.heap.size ⟨V.str s, A1, n1, c1, B1, m1, d1, A2, n2, c2, A3, n3, c3⟩) (fun k e hk => by omega))
              have HA9 := Lib.hid (h4.keep (keep_at5 _ w.heap.size ⟨V.str s, A1, n1, c1, B1, m1, d1, A2, n2, c2, A3, n3, c3⟩) HPL.out)
              have HO9 := Lib.hid ((hOF.keep (keep_at5 w6 w.heap.size ⟨V.str s, A1, n1, c1, B1, m1, d1, A2, n2, c2, A3, n3, c3⟩) (fun k hk e => by omega)).mono (P' := Fresh w) (fun k hk _ => by unfold Fresh; omega))
              unfold nilV at z0 z1 z2 z3 z4
              dsimp only at z0 z1 z2 z3 z4 y0 y1 y2 y3 y4
              clear gK bz h4 hOF bf HC HX k6
              go_wp2
              refine bodyPost_ret (ret_funE (v := ⟨V.str s, A1, n1, c1, B1, m1, d1, A2, n2, c2, A3, n3, c3⟩) rfl rfl HB.out rfl) rfl ?_
              exact .inr ⟨f, q4, _, HM.out, rfl, HO9.out, HA9.out, HK9.out⟩
        · have hl2 : 0 < m2 := by rw [← hm2]; exact List.length_pos_iff.2 hr
          have HM := Lib.hid (decF_3 HNM.out HG1.out (lcR_2 hn hr))
          have hlb : decide ((0 : Int) < (m2 : Int)) = true := by rw [decide_eq_true_iff]; omega
          obtain ⟨z0, z1, z2, z3, z4⟩ := blk5 (v := nilV) bz
          have fz := fun i => bz.frozen i
          have HB := Lib.hid (blk_put5 bz nilV)
          have HK9 := Lib.hid (gK.trans (keep_at5 _ w.heap.size nilV) (fun k e hk => by omega))
          have HA9 := Lib.hid (h3.keep (keep_at5 _ w.heap.size nilV) HPL.out)
          unfold nilV at z0 z1 z2 z3 z4
          dsimp only at z0 z1 z2 z3 z4
          clear gK bz h3 hn  HOB ka gb gc HNM HN1 HG1 HO1 hm2 hr hA2 hB2
          go_wp2
          refine bodyPost_ret (ret_funE (v := nilV) rfl rfl HB.out rfl) rfl ?_
          exact .inl ⟨HM.out, rfl, ⟨_, HA9.out⟩, HK9.out⟩

end Go.Proofs.YtbnekeomdhljhaaGreatDoor.F

namespace Go.Proofs.YtbnekeomdhljhaaGreatDoor.O
open Go.RowKit Go.Shelf
attribute [local go_sem] Oper.semAt_some

/-- An operand that comes: its kind, its number, its functions. -/
structure Part where
  k : Int
  n : Int
  sh : Value
  gu : Value
def Part.key (x : Part) : Int × Int := (x.k, x.n)
abbrev partE (x : Part) : Array Value := #[opV x.k x.sh x.gu, .int .i64 x.n]
/-- The operands that there are. -/
def partsL (ka kb a b : Int) : List (Int × Int) := if ka = 0 then [] else if kb = 0 then [(ka, a)] else [(ka, a), (kb, b)]
/-- What is known of one that comes: its place, its functions. -/
def PartN (ka kb a b : Int) (pre : List Part) (x : Part) (W : World) : Prop := (∃ post, pre.map Part.key ++ x.key :: post = partsL ka kb a b) ∧ FnAt x.k x.sh x.gu W

theorem parts_0 {ka kb a b : Int} (h : ka = 0) : partsL ka kb a b = [] := by unfold partsL; rw [if_pos h]
theorem parts_1 {ka kb a b : Int} (h : ka ≠ 0) (h' : kb = 0) : partsL ka kb a b = [(ka, a)] := by unfold partsL; rw [if_neg h, if_pos h']
theorem parts_2 {ka kb a b : Int} (h : ka ≠ 0) (h' : kb ≠ 0) : partsL ka kb a b = [(ka, a), (kb, b)] := by unfold partsL; rw [if_neg h, if_neg h']

theorem run_index_nums (a b : Int) (w : World) : (Instr.index 237 (.agg #[.int .i64 a, .int .i64 b]) (.int .i64 0)).run Tryz.prog w = .ok (.int .i64 a) w ∧
    (Instr.index 237 (.agg #[.int .i64 a, .int .i64 b]) (.int .i64 1)).run Tryz.prog w = .ok (.int .i64 b) w := by
  have hs : (sizeOf 2).run Tryz.prog w = .ok 1 w := Tryz.sizeOf2 w
  unfold Instr.index
  constructor
  · simp [run_underlying Tryz.underlying237, asIntOf, hs, part]
  · simp [run_underlying Tryz.underlying237, asIntOf, hs, part]

set_option maxRecDepth 100000 in
set_option maxHeartbeats 4000000 in
theorem parts1_in (m : Nat) (q : Row) (op a b : Int) (Bx Br : Nat) (hka : 0 ≤ q.ka ∧ q.ka ≤ 10) (hkb : 0 ≤ q.kb ∧ q.kb ≤ 10) (I : List Part → World → Prop)
    (hbx : ∀ pre W, I pre W → Blk W Bx 74 #[.int .i64 op, .int .i64 a, .int .i64 b]) (hbr : ∀ pre W, I pre W → Blk W Br 200 (cells9 q)) :
    Brings Tryz.prog m (m + 1) 169 #[.pointer (some ⟨Bx, 0, none⟩), .pointer (some ⟨Br, 0, none⟩)] partE I (PartN q.ka q.kb a b) (fun xs => xs.map Part.key = partsL q.ka q.kb a b) := by
  intro L J hJk hJI hY W h0
  refine callsIn_of_wp Tryz.func169 rfl trivial ?_ rfl
  simp only [Tryz.ntmps169, List.size_toArray, List.length_cons, List.length_nil, Nat.reduceAdd, Nat.reduceSub, Array.replicate_succ, Array.replicate_zero, List.push_toArray, List.append_toArray, List.nil_append, List.cons_append]
  have x0 := hbx _ _ (hJI _ _ h0)
  have c1 : W.cell? ⟨Bx, 1, none⟩ = some (.int .i64 a) := x0.cell 1
  have c2 : W.cell? ⟨Bx, 2, none⟩ = some (.int .i64 b) := x0.cell 2
  clear x0
  gi_wp2
  gi_loopw [11] (fun i wr => ∃ (k : Nat) (pre : List Part), k ≤ 2 ∧ i = .int .i64 (k : Int) ∧ Hid (pre.map Part.key = [(q.ka, a), (q.kb, b)].take k ∧ (1 ≤ k → q.ka ≠ 0) ∧ (2 ≤ k → q.kb ≠ 0)) ∧ J pre wr)
    (fun i _ => 2 - (intOf i).toNat)
  case atStart => exact ⟨0, [], by omega, rfl, ⟨rfl, fun h => by omega, fun h => by omega⟩, h0⟩
  case round =>
    obtain ⟨k, pre, hk, rfl, HP, hJ⟩ := hrel
    have r0 := hbr _ _ (hJI _ _ hJ)
    have d1 : wr.cell? ⟨Br, 1, none⟩ = some (.int .i64 q.ka) := r0.cell 1
    have d2 : wr.cell? ⟨Br, 2, none⟩ = some (.int .i64 q.kb) := r0.cell 2
    clear r0 c1 c2
    have hix := fun w => run_index_nums a b w
    have hi0 := fun w => (hix w).1
    have hi1 := fun w => (hix w).2
    clear hix
    obtain rfl | rfl | rfl : k = 0 ∨ k = 1 ∨ k = 2 := by omega
    · by_cases hz : q.ka = 0
      · have hS : Hid (pre.map Part.key = partsL q.ka q.kb a b) := by show _ = _; rw [HP.out.1, parts_0 hz]; rfl
        have e0 : (q.ka == 0) = true := by rw [beq_iff_eq]; exact hz
        clear HP hz hka hkb
        rw [show ((0 : Nat) : Int) = 0 from rfl]
        gi_wp2
        refine ⟨trivial, ?_⟩
        gi_wp2
        refine ⟨fun _ h => (by cases h), ?_⟩
        gi_wp2
        refine bodyPost_ret (results_none rfl _ _ _) rfl ?_
        exact ⟨⟨_, rfl⟩, pre, hS.out, hJ⟩
      · have e0 : (q.ka == 0) = false := by rw [beq_eq_false_iff_ne]; exact hz
        have HN : Hid (pre.map Part.key ++ (q.ka, a) :: (if q.kb = 0 then [] else [(q.kb, b)]) = partsL q.ka q.kb a b) := by show _ = _; rw [HP.out.1]; unfold partsL; rw [if_neg hz]; split <;> rfl
        have HQ : Hid (∀ x : Part, x.key = (q.ka, a) → (pre ++ [x]).map Part.key = [(q.ka, a), (q.kb, b)].take 1) := by intro x hx; rw [List.map_append, HP.out.1]; simp [hx]
        have hp1 := HP.out.2.1
        have HZ : Hid ((1 ≤ 1 → q.ka ≠ 0) ∧ (2 ≤ 1 → q.kb ≠ 0)) := ⟨fun _ => hz, fun h => by omega⟩
        clear HP hz hp1
        rw [show ((0 : Nat) : Int) = 0 from rfl]
        gi_wp2_with (refine ⟨trivial, ?_⟩; gi_at_call 156; refine (callsIn_wide.2 (operandOf_any q.ka hka _)).mono ?_; rintro e w1 ⟨sh, gu, rfl, hF, k1⟩; have hJ1 := hJk _ _ _ hJ k1; obtain ⟨fn, tmps, assign, body, hy, hR⟩ := hY pre ⟨q.ka, a, sh, gu⟩ w1 hJ1 ⟨⟨_, HN.out⟩, hF⟩; dsimp only [partE] at hy)
        refine hR.mono ?_
        rintro e W3 ⟨rfl, hJ3⟩
        gi_wp2
        go_roundw
        case rel => exact ⟨1, pre ++ [_], by omega, rfl, ⟨HQ.out _ rfl, HZ.out⟩, hJ3⟩
        case measure => simp [intOf]
    · by_cases hz : q.kb = 0
      · have hS : Hid (pre.map Part.key = partsL q.ka q.kb a b) := by show _ = _; rw [HP.out.1, parts_1 (HP.out.2.1 (by omega)) hz]; rfl
        have e0 : (q.kb == 0) = true := by rw [beq_iff_eq]; exact hz
        clear HP hz hka hkb
        rw [show ((1 : Nat) : Int) = 1 from rfl]
        gi_wp2
        refine ⟨trivial, ?_⟩
        gi_wp2
        refine ⟨fun _ h => (by cases h), ?_⟩
        gi_wp2
        refine bodyPost_ret (results_none rfl _ _ _) rfl ?_
        exact ⟨⟨_, rfl⟩, pre, hS.out, hJ⟩
      · have e0 : (q.kb == 0) = false := by rw [beq_eq_false_iff_ne]; exact hz
        have HN : Hid (pre.map Part.key ++ (q.kb, b) :: [] = partsL q.ka q.kb a b) := by show _ = _; rw [HP.out.1, parts_2 (HP.out.2.1 (by omega)) hz]; rfl
        have HQ : Hid (∀ x : Part, x.key = (q.kb, b) → (pre ++ [x]).map Part.key = [(q.ka, a), (q.kb, b)].take 2) := by intro x hx; rw [List.map_append, HP.out.1]; simp [hx]
        have hp1 := HP.out.2.1
        have HZ : Hid ((1 ≤ 2 → q.ka ≠ 0) ∧ (2 ≤ 2 → q.kb ≠ 0)) := ⟨fun _ => hp1 (by omega), fun _ => hz⟩
        clear HP hz hp1
        rw [show ((1 : Nat) : Int) = 1 from rfl]
        gi_wp2_with (refine ⟨trivial, ?_⟩; gi_at_call 156; refine (callsIn_wide.2 (operandOf_any q.kb hkb _)).mono ?_; rintro e w1 ⟨sh, gu, rfl, hF, k1⟩; have hJ1 := hJk _ _ _ hJ k1; obtain ⟨fn, tmps, assign, body, hy, hR⟩ := hY pre ⟨q.kb, b, sh, gu⟩ w1 hJ1 ⟨⟨_, HN.out⟩, hF⟩; dsimp only [partE] at hy)
        refine hR.mono ?_
        rintro e W3 ⟨rfl, hJ3⟩
        gi_wp2
        go_roundw
        case rel => exact ⟨2, pre ++ [_], by omega, rfl, ⟨HQ.out _ rfl, HZ.out⟩, hJ3⟩
        case measure => simp [intOf]
    · have hS : Hid (pre.map Part.key = partsL q.ka q.kb a b) := by show _ = _; rw [HP.out.1, parts_2 (HP.out.2.1 (by omega)) (HP.out.2.2 (by omega))]; rfl
      clear HP hka hkb
      rw [show ((2 : Nat) : Int) = 2 from rfl]
      gi_wp2
      go_end0
      exact ⟨⟨_, rfl⟩, pre, hS.out, hJ⟩

end Go.Proofs.YtbnekeomdhljhaaGreatDoor.O

namespace Go.Proofs.YtbnekeomdhljhaaGreatDoor.O
open Go.RowKit Go.Shelf
attribute [local go_sem] Oper.semAt_some

theorem blk_own {β : Type} (B g : Nat) (t : TypeId) (cs : β → Array Value) : OwnFrom B (fun s W => Blk W g t (cs s)) := by
  intro s X Y row h hg hrow
  refine (hg.block g h.lt (fun e => ?_)).trans h
  obtain ⟨_, o, ho, hc⟩ := hrow g e.symm
  rw [show X.heap[g]? = _ from h] at ho
  cases ho; cases hc
theorem keep_own {β : Type} {B : Nat} {w0 : World} (O : Nat → Prop) (hB : w0.heap.size ≤ B) : OwnFrom B (fun (_ : β) W => Keep O w0 W) := by
  intro s X Y row h hg hrow
  exact h.grown hg (fun g e hl => by have := (hrow g e).1; omega)
theorem fnAt_own {β : Type} (B : Nat) (k : Int) (sh gu : Value) : OwnFrom B (fun (_ : β) W => FnAt k sh gu W) := by
  intro s X Y row h hg hrow
  have hc : ∀ p v, X.cell? p = some v → Y.cell? p = some v := fun p v hp => cell_kept hp hg (fun r e => (hrow r e).2)
  rcases h with h | h | ⟨h, b, c, h1, h2, h3, h4⟩
  · exact .inl h
  · exact .inr (.inl h)
  · exact .inr (.inr ⟨h, b, c, h1, h2, hc _ _ h3, hc _ _ h4⟩)
theorem ownFrom_const {β : Type} (B : Nat) (p : Prop) : OwnFrom B (fun (_ : β) (_ : World) => p) := fun _ _ _ _ h _ _ => h
theorem keepsFrom_one {B g : Nat} {W W' : World} (h : Keep (fun k => k = g) W W') (hg : g < B) : KeepsFrom B W W' :=
  ⟨h.size, fun k _ hk hh _ => (h.block k (Array.getElem?_eq_some_iff.1 hh).1 (fun e => by omega)).trans hh⟩

set_option maxHeartbeats 1000000 in
theorem parts_any (q : Row) (op a b : Int) (w : World) : Calls Tryz.prog 147 #[rowV q, instV op a b] w fun e w' =>
    e = .returned (.func (.func 169) #[] #[.pointer (some ⟨w.heap.size + 1, 0, none⟩), .pointer (some ⟨w.heap.size, 0, none⟩)]) ∧ Blk w' w.heap.size 200 (cells9 q) ∧ Blk w' (w.heap.size + 1) 74 #[.int .i64 op, .int .i64 a, .int .i64 b] ∧ Keep NoB w w' := by
  go_enter Tryz.func147, Tryz.ntmps147
  go_wp2
  go_ret
  have h1 := Blk.new (w.alloc (.cells (cells9 q) 200)) 74 #[.int .i64 op, .int .i64 a, .int .i64 b]
  rw [World.size_alloc] at h1
  exact ⟨rfl, (Blk.new _ _ _).alloc _, h1, ((Keep.refl NoB w).alloc _).alloc _⟩

/-- The text of the operands that have come. -/
def textP (l : List (Int × Int)) : List UInt8 := l.flatMap fun x => 32 :: word x.1 x.2
theorem textP_parts (ka kb a b : Int) (h : ka = 0 → kb = 0) : textP (partsL ka kb a b) = partL ka a ++ partL kb b := by
  unfold partsL partL textP
  split
  · rename_i hz
    rw [if_pos (h hz)]; rfl
  · split
    · simp
    · simp
theorem kinds_none (op : Int) : (rowAt op).ka = 0 → (rowAt op).kb = 0 := by
  have := rowAt_all (p := fun r => decide (r.ka = 0 → r.kb = 0)) (by decide) (by decide) op
  exact of_decide_eq_true this

theorem textP_snoc (l : List (Int × Int)) (x : Int × Int) : textP (l ++ [x]) = textP l ++ 32 :: word x.1 x.2 := by unfold textP; simp
theorem textP_len : ∀ (l : List (Int × Int)), (∀ x ∈ l, I64 x.2) → (textP l).length ≤ 22 * l.length
  | [], _ => Nat.zero_le _
  | x :: l, h => by
    have h1 := word_len x.1 x.2 (h x (by simp))
    have h2 := textP_len l (fun y hy => h y (by simp [hy]))
    have e : textP (x :: l) = (32 :: word x.1 x.2) ++ textP l := by unfold textP; simp
    rw [e]
    simp
    omega
theorem parts_mem {ka kb a b : Int} {x : Int × Int} (h : x ∈ partsL ka kb a b) : x.1 ≠ 0 ∧ (x.2 = a ∨ x.2 = b) := by
  unfold partsL at h
  split at h
  · cases h
  · split at h
    · rename_i h1 h2; simp at h; subst h; exact ⟨h1, .inl rfl⟩
    · rename_i h1 h2
      simp at h
      rcases h with rfl | rfl
      · exact ⟨h1, .inl rfl⟩
      · exact ⟨h2, .inr rfl⟩
theorem parts_len (ka kb a b : Int) : (partsL ka kb a b).length ≤ 2 := by unfold partsL; split <;> (try split) <;> simp
theorem part_facts {ka kb a b : Int} {pre : List Part} {x : Part} {W : World} (h : PartN ka kb a b pre x W) (ha : I64 a) (hb : I64 b) : x.k ≠ 0 ∧ I64 x.n ∧ (textP (pre.map Part.key)).length ≤ 44 := by
  obtain ⟨⟨post, hp⟩, _⟩ := h
  have h64 : ∀ y ∈ partsL ka kb a b, I64 y.2 := fun y hy => by rcases (parts_mem hy).2 with e | e <;> rw [e] <;> assumption
  have hx := parts_mem (x := x.key) (by rw [← hp]; simp)
  have hl := congrArg List.length hp
  have h2 := parts_len ka kb a b
  have hx64 := h64 x.key (by rw [← hp]; simp)
  have ht := textP_len (pre.map Part.key) (fun y hy => h64 y (by rw [← hp]; exact List.mem_append_left _ hy))
  simp at hl ht
  exact ⟨hx.1, hx64, by omega⟩
theorem name_len (op : Int) : (rowAt op).name.length ≤ 7 := by
  have := rowAt_all (p := fun r => decide (r.name.length ≤ 7)) (by decide) (by decide) op
  exact of_decide_eq_true this

theorem Keep_putObj {O : Nat → Prop} {w W : World} {D : Nat} {o : Obj} (h : Keep O w W) (hD : w.heap.size ≤ D) : Keep O w (W.putObj D o) := h.grown (grownBy_putObj' W D o) (fun g e hl => by cases e; omega)
theorem str_sp (s d : List UInt8) : str s ++ ((⟨#[32]⟩ : ByteArray) ++ str d) = str (s ++ 32 :: d) := by
  apply ByteArray.ext
  simp [ByteArray.data_append]

theorem show_end {w2 W w3 : World} {bt : Nat} {cs : Array Value} {t : TypeId} {u : Value} (h : Blk (w3.setCell ⟨bt, 0, none⟩ u) bt t cs) (h2 : Keep (fun k => k = bt) w2 W) (k4 : Keep NoB W w3) (hlt : bt < w2.heap.size) :
    (Exit.normal = Exit.normal) ∧ (Blk (w3.setCell ⟨bt, 0, none⟩ u) bt t cs ∧ Keep (fun k => k = bt) w2 (w3.setCell ⟨bt, 0, none⟩ u)) ∧ KeepsFrom w2.heap.size W (w3.setCell ⟨bt, 0, none⟩ u) :=
  ⟨rfl, ⟨h, (h2.trans k4 (fun _ hf _ => hf.elim)).setCell (fun _ => rfl) _⟩, keepsFrom_one (Keep.setCell (O := fun k => k = bt) (p := ⟨bt, 0, none⟩) (k4.mono (fun _ hf _ => hf.elim)) (fun _ => rfl) u) hlt⟩

/-- The activation at the head of the loop's body. -/
def showAct (op a b : Int) (r : Row) (g h : Nat) (x : Part) (Bo : Nat) : Act :=
  { tmps := #[instV op a b, .pointer (some ⟨g, 0, none⟩), .string ⟨#[]⟩, .pointer (some ⟨h, 0, none⟩), .bool true, .pointer (some ⟨h + 1, 0, none⟩), .pointer (some ⟨Bo, 0, none⟩), .int .i64 x.n, .tuple #[rowV r, .bool true],
      instV op a b, .tuple #[rowV r, .bool true], rowV r, .bool true, .bool true, .bool false, .pointer (some ⟨h, 0, none⟩), .string (str r.name), rowV r, instV op a b,
      .func (.func 169) #[] #[.pointer (some ⟨h + 1 + 1 + 1, 0, none⟩), .pointer (some ⟨h + 1 + 1, 0, none⟩)], .agg #[.int .i64 x.k, .int .i64 (lo x.k), .int .i64 (hi x.k), x.sh, x.gu], .int .i64 x.n,
      undef, undef, undef, undef, undef, undef, undef, undef], defers := [] }

end Go.Proofs.YtbnekeomdhljhaaGreatDoor.O

namespace Go.Proofs.YtbnekeomdhljhaaGreatDoor.O
open Go.RowKit

/-- Block k holds cells. -/
def CellsAt (W : World) (k : Nat) : Prop := ∃ cs t f, W.heap[k]? = some (.cells cs t f)
theorem CellsAt.lt {W : World} {k : Nat} (h : CellsAt W k) : k < W.heap.size := by obtain ⟨_, _, _, h⟩ := h; exact (Array.getElem?_eq_some_iff.1 h).1
theorem Blk.cellsAt {w : World} {g : Nat} {t : TypeId} {cs : Array Value} (h : Blk w g t cs) : CellsAt w g := ⟨cs, t, (0, 0), h⟩
theorem own_cells {w : World} {O : Nat → Prop} {v : Value} {l : List UInt8} (h : V.OwnB w O v l) : ∀ g, v.ownBlock = some g → CellsAt w g := by
  intro g e
  rcases h.1.2 with ⟨rfl, _⟩ | ⟨g', cap, cur, rfl, _, hh, _⟩
  · simp [Value.ownBlock] at e
  · simp [Value.ownBlock] at e
    subst e
    exact ⟨_, _, _, hh⟩
/-- A Tape's blocks are cells. -/
theorem tape_cells {w : World} {bt : Nat} {O : Nat → Prop} {l : List UInt8} (h : V.TapeAt w bt O l) : V.TapeAt w bt (fun k => O k ∧ CellsAt w k) l := by
  rcases h.2 with ⟨hb, hl⟩ | ⟨bs, v, ho, hb, hs, hv⟩
  · exact ⟨⟨h.1, Blk.cellsAt hb⟩, .inl ⟨hb, hl⟩⟩
  · exact ⟨⟨h.1, Blk.cellsAt hb⟩, .inr ⟨bs, v, ⟨ho, Blk.cellsAt hs⟩, hb, hs, hv.1, fun g e => ⟨hv.2 g e, own_cells hv g e⟩⟩⟩
/-- A step that turns none of a Tape's blocks leaves it. -/
theorem tape_grown {w w' : World} {row : Option Nat} {bt : Nat} {O : Nat → Prop} {l : List UInt8} (h : V.TapeAt w bt O l) (hg : w.grownBy w' row) (hr : ∀ r, row = some r → ¬ O r) : V.TapeAt w' bt O l := by
  have hk : Keep (fun k => some k = row) w w' := ⟨hg.os, hg.tape, hg.output, hg.size, fun k hk hn => hg.block k hk hn⟩
  exact h.keep hk (fun k ho e => hr k e.symm ho)

/-- What write leaves. -/
def WroteR (w : World) (bt : Nat) (O : Nat → Prop) (xs : List UInt8) (e : Ending) (w' : World) : Prop := e = .returned (.tuple #[]) ∧ V.TapeAt w' bt (V.More O w w') xs ∧ Keep O w w'

set_option maxHeartbeats 1000000 in
theorem write_any (k n : Int) (sh gu : Value) (bt : Nat) (O : Nat → Prop) (l : List UInt8) (w : World) (hk : k ≠ 0) (hn : inK k n = true) (h64 : -9223372036854775808 ≤ n ∧ n ≤ 9223372036854775807)
    (h : V.TapeAt w bt O l) (hO : ∀ k, O k → k < w.heap.size) (hb : l.length + 9 ≤ 140737488355328) :
    Calls Tryz.prog 148 #[opV k sh gu, .pointer (some ⟨bt, 0, none⟩), .int .i64 n] w (WroteR w bt O (l ++ encP k n)) := by
  have hK := (Keep.refl NoB w).alloc (.cells #[.int .i64 k, .int .i64 (lo k), .int .i64 (hi k), sh, gu] 209)
  have h1 := h.keep hK (fun _ _ => id)
  have hO1 : ∀ j, O j → j < (w.alloc (.cells #[.int .i64 k, .int .i64 (lo k), .int .i64 (hi k), sh, gu] 209)).heap.size := by intro j hj; have := hO j hj; simp; omega
  have hsz : (w.alloc (.cells #[.int .i64 k, .int .i64 (lo k), .int .i64 (hi k), sh, gu] 209)).heap.size = w.heap.size + 1 := by simp
  by_cases h1k : k = 1
  · subst h1k
    have HE : Hid (encP 1 n = V.encL (V.zig n)) := rfl
    have HS := Lib.hid (V.tsigned_any _ bt O l n h64.1 h64.2 h1 hO1 hb)
    clear hk hn hO hb h h1 hO1
    unfold opV
    go_enter Tryz.func148, Tryz.ntmps148
    go_wp2_with fail
    refine HS.out.mono ?_
    rintro e w2 ⟨rfl, h2, k2⟩
    go_wp2
    go_end0
    rw [HE.out]
    refine ⟨rfl, h2.mono ?_, hK.mono (fun _ hf _ => hf.elim) |>.trans k2 (fun _ ho _ => ho)⟩
    rintro j (hj | ⟨hj1, hj2⟩) _
    · exact .inl hj
    · exact .inr ⟨by omega, hj2⟩
  · have hn0 : 0 ≤ n := by
      have := (of_decide_eq_true hn).1
      unfold lo at this
      rw [if_neg h1k] at this
      split at this <;> omega
    obtain ⟨m, rfl⟩ := Int.eq_ofNat_of_zero_le hn0
    have HE : Hid (encP k m = V.encL m) := by show _ = _; unfold encP; rw [if_neg hk, if_neg h1k]; rfl
    have HS := Lib.hid (V.tnumber_any _ bt O l m h1 hO1 hb)
    have q1 : (k == 1) = false := by rw [beq_eq_false_iff_ne]; exact h1k
    have hm : (m : Int) ≤ 9223372036854775807 := h64.2
    have hw : IntKind.u64.wrap (m : Int) = (m : Int) := by simp [IntKind.wrap, IntKind.bits, IntKind.signed]; omega
    clear hk hn hO hb h h1 hO1 h1k h64
    unfold opV
    go_enter Tryz.func148, Tryz.ntmps148
    go_wp2_with fail
    refine HS.out.mono ?_
    rintro e w2 ⟨rfl, h2, k2⟩
    go_wp2
    go_end0
    rw [HE.out]
    refine ⟨rfl, h2.mono ?_, hK.mono (fun _ hf _ => hf.elim) |>.trans k2 (fun _ ho _ => ho)⟩
    rintro j (hj | ⟨hj1, hj2⟩) _
    · exact .inl hj
    · exact .inr ⟨by omega, hj2⟩

end Go.Proofs.YtbnekeomdhljhaaGreatDoor.O
