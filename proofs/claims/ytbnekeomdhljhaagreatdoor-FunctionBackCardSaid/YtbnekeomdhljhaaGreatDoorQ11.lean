/-
  An argument that is a slice of bytes, opened: an address from which a list of bytes stands. No conditions.
  Functions that are no greater than statements go through; small facts that the laws share. No conditions.
  What the document's Named answers. Conditions: the name's length fits an int64.
  The document's Types and Check of layer function. Conditions: the function's lists lie in memory, and are no longer than statements go through.
  The iterator of an instruction's operands: it brings each operand that there is, in order, with its functions as they lie in memory when it comes. Conditions: kinds are from 0 to 10.
  What Show answers. Conditions: the listed package-level variables hold what their initialisers lay; numbers fit an int64.
  What write puts on a Tape: an operand's bytes. Conditions: the number is one of the kind; no more than 2^47 bytes in all.
  What Encode answers. Condition: numbers fit an int64.
  Show and Encode of any instruction; the law's own bytes, of, alive. Conditions: the listed package-level variables hold what their initialisers lay; numbers fit an int64.
  What the document's Encode answers. Conditions: the operands fit an int64.
  What Encode of layer code answers, the program's and the document's: a body's bytes. Conditions: the list lies in memory; numbers fit an int64.
  What the document's Bytes and Encode of layer code answer. Conditions: the list lies in memory; numbers fit an int64.
-/
import Derived.OpenShut
import Derived.ProofKit
import Derived.SizedLaws
import Derived.Test.YtbnekeomdhljhaaGreatDoorQ2
import Derived.Test.YtbnekeomdhljhaaGreatDoorQ10
import Derived.Test.YtbnekeomdhljhaaGreatDoorQ8
import Derived.Test.YtbnekeomdhljhaaGreatDoorQ9
import Derived.Test.YtbnekeomdhljhaaGreatDoorQ5
import Derived.Test.YtbnekeomdhljhaaGreatDoorQ7
import Derived.Test.YtbnekeomdhljhaaGreatDoorQ6
import Derived.Test.YtbnekeomdhljhaaGreatDoorQ3
namespace Go.Proofs.YtbnekeomdhljhaaGreatDoor.V
open Go.ChangeShapes Go.WideShapes Go.ChangeAt Go.RowKit

theorem cellsU8 : Tryz.prog.cellsOf 5 = 1 := by kernel_rfl

theorem u8_bounds {n : Int} (h : (Lit.int .u8 n).wf = true) : 0 ≤ n ∧ n < 256 := by
  have hmin : IntKind.u8.min = 0 := rfl
  have hmax : IntKind.u8.max = 255 := rfl
  simp only [Lit.wf, Bool.and_eq_true, decide_eq_true_eq] at h
  omega

/-- The bytes of a list of numbers that fit bytes. -/
def toU8 (zs : List Int) : List UInt8 := zs.map fun z => UInt8.ofNat z.toNat
theorem bvs_toU8 (zs : List Int) (h : ∀ n ∈ zs, (Lit.int .u8 n).wf = true) : bvs (toU8 zs) = zs.map (Value.int .u8) := by
  unfold bvs toU8
  rw [List.map_map]
  apply List.map_congr_left
  intro z hz
  obtain ⟨h0, h1⟩ := u8_bounds (h z hz)
  show Value.int .u8 (((UInt8.ofNat z.toNat).toNat : Nat) : Int) = _
  rw [UInt8.toNat_ofNat', Nat.mod_eq_of_lt (show z.toNat < 2 ^ 8 by omega)]
  congr 1
  omega

set_option maxRecDepth 100000 in
theorem read_bytes {H : Type} {enc : TypeId × Value → H} {W : World} {base : Nat} {spare : Nat → Bool} {held : Bool} {fuel : Nat} {cs : List Value} {x : DataW H × List MemPlace}
    (h : DataW.trod enc Tryz.prog W base spare held fuel 28 cs = some x) : ∃ A l c, cs = [.slice A l.length c] ∧ Rd W A l ∧ l.length ≤ c ∧ c ≤ maxLen := by
  rcases open_ints Tryz.underlying28 Tryz.underlying5 cellsU8 h with ⟨hcs, _⟩ | ⟨a, len, cap, zs, hcs, _, hl, hm, hz, _, hcell, hwz⟩
  · exact ⟨none, [], 0, hcs, Rd.none_ _ _, Nat.le_refl _, Nat.zero_le _⟩
  · have hzl : len ≤ zs.length := by rw [hz]; split <;> omega
    have hlen : (toU8 (zs.take len)).length = len := by simp [toU8]; omega
    refine ⟨some a, toU8 (zs.take len), cap, by rw [hlen]; exact hcs, fun _ => ⟨a, rfl, fun j u hu => ?_⟩, by rw [hlen]; exact hl, hm⟩
    rw [bvs_toU8 _ (fun n hn => hwz n (List.mem_of_mem_take hn))] at hu
    obtain ⟨hj, hju⟩ := List.getElem?_eq_some_iff.1 hu
    have hj' : j < len := by simp at hj; omega
    have hc := hcell j (by omega)
    rw [hc]
    simp at hju
    rw [← hju]
    simp [List.getD, List.getElem?_eq_getElem (show j < zs.length by omega)]

section
variable {H : Type} {enc : TypeId × Value → H} {w : World} {base b0 : Nat} {spare : Nat → Bool} {held : Bool} {r : Reach} {v : Value} {d : DataW H} {p : List MemPlace}
set_option maxRecDepth 100000 in
theorem open_bytes (hv : Value.okWide Tryz.prog w r b0 28 v) (h : DataW.Trod enc Tryz.prog w base spare held 28 v d p) : ∃ A l c, v = .slice A l.length c ∧ Rd w A l ∧ l.length ≤ c ∧ c ≤ maxLen := by
  obtain ⟨a0, len, cap, rfl⟩ := okWide_slice Tryz.underlying28 hv
  obtain ⟨fuel, hf⟩ := h
  obtain ⟨A, l, c, hcs, hr, hc, hm⟩ := read_bytes hf
  simp only [Value.cells, List.cons.injEq, Value.slice.injEq, and_true] at hcs
  obtain ⟨rfl, rfl, rfl⟩ := hcs
  exact ⟨_, l, _, rfl, hr, hc, hm⟩
end

end Go.Proofs.YtbnekeomdhljhaaGreatDoor.V

namespace Go.Proofs.YtbnekeomdhljhaaGreatDoor.F
open Go.RowKit Go.ChangeShapes Go.WideShapes W

theorem sm_own {W W0 : World} {P : Nat → Prop} {o v : FV} {f : Fu} (ho : OwnF W P o f) (h : FnAt W0 v f) (hs : SmF v) : SmF o := by
  have h1 := ho.fn
  have e0 := sz_len h1.nm
  have e1 := sz_len h.nm
  exact ⟨by have := hs.sz; omega, by have := hs.na; have := h1.la; have := h.la; omega, by have := hs.nb; have := h1.lb; have := h.lb; omega, by have := hs.nl; have := h1.ll; have := h.ll; omega, by have := hs.nd; have := h1.ld; have := h.ld; omega⟩
theorem sm_ok {W : World} {P : Nat → Prop} {v : FV} {f : Fu} (ho : OwnF W P v f) (hf : okF f = true) : SmF v := by
  obtain ⟨h1, h2, _, h4, h5⟩ := (okF_iff f).1 hf
  have h6 := ((okN_iff _).1 h1).1
  have h7 := (C.okB_parts h4).2.1
  have hn := ho.fn
  have e0 := sz_len hn.nm
  have := hn.la
  have := hn.lb
  have := hn.ll
  have := hn.ld
  exact ⟨by omega, by omega, by omega, by omega, by omega⟩
theorem sm_nil : SmF nilV := ⟨Nat.zero_le _, Nat.zero_le _, Nat.zero_le _, Nat.zero_le _, Nat.zero_le _⟩
theorem own_rdB {w : World} {O : Nat → Prop} {v : Value} {l : List UInt8} (h : V.OwnB w O v l) : ∃ A c, v = .slice A l.length c ∧ V.Rd w A l ∧ (∀ ad, A = some ad → ad.block < w.heap.size) := S.own_rd h

set_option maxRecDepth 100000 in
/-- An argument's slice lies in a block that there is. -/
theorem slice_block {W : World} {b0 len cap : Nat} {A : Option Addr} (hv : Value.okWide Tryz.prog W .any b0 28 (.slice A len cap)) : ∀ ad, A = some ad → ad.block < W.heap.size := by
  rintro ad rfl
  simp only [Value.okWide, Tryz.underlying28, Cell.okWide, Cell.ok] at hv
  obtain ⟨_, _, _, _, row, cells, hs, _⟩ := hv
  unfold World.shape? at hs
  rcases Nat.lt_or_ge ad.block W.heap.size with h | h
  · exact h
  · rw [Array.getElem?_eq_none h] at hs; cases hs

end Go.Proofs.YtbnekeomdhljhaaGreatDoor.F

namespace Go.Proofs.YtbnekeomdhljhaaGreatDoor.F
open Go.RowKit W

set_option maxRecDepth 100000 in
set_option maxHeartbeats 4000000 in
theorem rnamed_any (S : ByteArray) (s : List UInt8) (w : World) (hs : Hid (S.data.toList = s)) (hm : S.size ≤ 9223372036854775807) (R : Int) (hR : Hid (chkN s = R)) :
    Calls Tryz.prog 17 #[.string S] w fun e w' => e = .returned (.int .i64 R) ∧ w = w' := by
  have HZ : Hid (S.size = s.length) := sz_len hs.out
  have HL := Lib.hid (fun (c : UInt8) (w : World) => rletter_any c w)
  by_cases h0 : S.size = 0
  · obtain rfl : 71 = R := by rw [← hR.out]; exact (chkN_no (by rw [List.length_eq_zero_iff.1 (HZ.out.symm.trans h0)]; rfl)).symm
    clear hR
    have hq0 : (S.size : Int) < 1 := by omega
    go_enter Tryz.func17, Tryz.ntmps17
    go_wp2
    go_ret
    exact ⟨rfl, rfl⟩
  have hq0 : ¬ (S.size : Int) < 1 := by omega
  by_cases h1 : 32 < S.size
  · obtain rfl : 71 = R := by rw [← hR.out]; exact (chkN_no (okN_long (by rw [← HZ.out]; omega))).symm
    clear hR
    go_enter Tryz.func17, Tryz.ntmps17
    go_wp2
    go_ret
    exact ⟨rfl, rfl⟩
  have hp : 0 < S.size := by omega
  have HH : Hid (headB s = letB (S[0]'hp)) := by show _ = _; rw [str_at hs.out hp (by rw [← HZ.out]; omega)]; exact headB_at _
  go_enter Tryz.func17, Tryz.ntmps17
  go_wp2
  go_loop [3] (fun i => ∃ k : Nat, k ≤ S.size ∧ i = .int .i64 k ∧ Hid ((s.take k).all inB = true ∧ (0 < k → headB s = true))) (fun i => S.size - (intOf i).toNat)
  case atStart => exact ⟨0, Nat.zero_le _, rfl, rfl, fun h => absurd h (by omega)⟩
  case round =>
    obtain ⟨k, hk, rfl, ht⟩ := hrel
    by_cases hlt : k < S.size
    · have hks : k < s.length := by rw [← HZ.out]; exact hlt
      have HE := Lib.hid (str_at hs.out hlt hks)
      have HA := Lib.hid (fun w => HL.out (S[k]'hlt) w)
      have HI : Hid (inB s[k] = (letB (S[k]'hlt) || digB (S[k]'hlt))) := by show _ = _; rw [HE.out]; rfl
      have HT := Lib.hid (fun h => in_step hks ht.out.1 h)
      have HN := Lib.hid (fun h => in_no hks h)
      have HDG := Lib.hid (digB_iff (S[k]'hlt))
      have HK : Hid (k = 0 → headB s = letB (S[k]'hlt)) := fun e => by subst e; exact HH.out
      have HK2 := Lib.hid ht.out.2
      clear HH ht HE
      cases hl : letB (S[k]'hlt)
      · rw [hl] at HA HI HK
        by_cases hk0 : k = 0
        · obtain rfl : 71 = R := by rw [← hR.out]; exact (chkN_no (okN_head (HK.out hk0))).symm
          have hqk : ((k : Int) == 0) = true := by rw [beq_iff_eq]; omega
          clear hR HT HN HI HK HK2 hl HDG hk0
          by_cases g1 : ((S[k]'hlt).toNat : Int) < 48
          · go_wp2_with (go_at_call 66; refine (HA.out _).mono ?_; rintro e w2 ⟨rfl, rfl⟩)
            go_ret
            exact ⟨rfl, rfl⟩
          · by_cases g2 : ((S[k]'hlt).toNat : Int) ≤ 57
            · have g1 : (48 : Int) ≤ ((S[k]'hlt).toNat : Int) := by omega
              go_wp2_with (go_at_call 66; refine (HA.out _).mono ?_; rintro e w2 ⟨rfl, rfl⟩)
              go_ret
              exact ⟨rfl, rfl⟩
            · have g1 : (48 : Int) ≤ ((S[k]'hlt).toNat : Int) := by omega
              go_wp2_with (go_at_call 66; refine (HA.out _).mono ?_; rintro e w2 ⟨rfl, rfl⟩)
              go_ret
              exact ⟨rfl, rfl⟩
        · have hqk : ((k : Int) == 0) = false := by rw [beq_eq_false_iff_ne]; omega
          cases hd : digB (S[k]'hlt)
          · rw [hd] at HI HDG
            obtain rfl : 71 = R := by rw [← hR.out]; exact (chkN_no (okN_in (HN.out HI.out))).symm
            have hdg : ¬ (48 ≤ (S[k]'hlt).toNat ∧ (S[k]'hlt).toNat ≤ 57) := fun h => by have := HDG.out.2 h; cases this
            clear hR HT HN HI HK HK2 hl hd HDG
            by_cases g1 : ((S[k]'hlt).toNat : Int) < 48
            · clear hdg
              go_wp2_with (go_at_call 66; refine (HA.out _).mono ?_; rintro e w2 ⟨rfl, rfl⟩)
              go_ret
              exact ⟨rfl, rfl⟩
            · have g2 : ¬ ((S[k]'hlt).toNat : Int) ≤ 57 := by omega
              have g3 : (!decide (((S[k]'hlt).toNat : Int) ≤ 57)) = true := by rw [decide_eq_false g2]; rfl
              have g4 : (48 : Int) ≤ ((S[k]'hlt).toNat : Int) := by omega
              clear hdg
              go_wp2_with (go_at_call 66; refine (HA.out _).mono ?_; rintro e w2 ⟨rfl, rfl⟩)
              go_ret
              exact ⟨rfl, rfl⟩
          · rw [hd] at HI HDG
            have HV := Lib.hid (HT.out HI.out)
            obtain ⟨g1', g2'⟩ := HDG.out.1 rfl
            have g1 : ¬ ((S[k]'hlt).toNat : Int) < 48 := by omega
            have g2 : ((S[k]'hlt).toNat : Int) ≤ 57 := by omega
            clear g1' g2'
            have HK3 := Lib.hid (HK2.out (by omega))
            clear HT HN HI HK HK2 hl hd HDG
            go_wp2_with (go_at_call 66; refine (HA.out _).mono ?_; rintro e w2 ⟨rfl, rfl⟩)
            go_round
            case rel => exact ⟨k + 1, by omega, by go_num, HV.out, fun _ => HK3.out⟩
            case measure => simp [intOf]; omega
      · rw [hl] at HA HI HK
        have HV := Lib.hid (HT.out (by rw [HI.out]; rfl))
        have HK3 : Hid (headB s = true) := by
          rcases Nat.eq_zero_or_pos k with h | h
          · exact HK.out h
          · exact HK2.out h
        clear HT HN HI HK HK2 hl HDG
        by_cases g1 : ((S[k]'hlt).toNat : Int) < 48
        · go_wp2_with (go_at_call 66; refine (HA.out _).mono ?_; rintro e w2 ⟨rfl, rfl⟩)
          go_round
          case rel => exact ⟨k + 1, by omega, by go_num, HV.out, fun _ => HK3.out⟩
          case measure => simp [intOf]; omega
        · by_cases g2 : ((S[k]'hlt).toNat : Int) ≤ 57
          · go_wp2_with (go_at_call 66; refine (HA.out _).mono ?_; rintro e w2 ⟨rfl, rfl⟩)
            go_round
            case rel => exact ⟨k + 1, by omega, by go_num, HV.out, fun _ => HK3.out⟩
            case measure => simp [intOf]; omega
          · go_wp2_with (go_at_call 66; refine (HA.out _).mono ?_; rintro e w2 ⟨rfl, rfl⟩)
            go_round
            case rel => exact ⟨k + 1, by omega, by go_num, HV.out, fun _ => HK3.out⟩
            case measure => simp [intOf]; omega
    · obtain rfl : 0 = R := by
        rw [← hR.out]
        have e1 := ht.out.1
        rw [List.take_of_length_le (by rw [← HZ.out]; omega)] at e1
        exact (chkN_ok ((okN_iff s).2 ⟨by rw [← HZ.out]; omega, ht.out.2 (by omega), e1⟩)).symm
      clear hR ht HH
      go_wp2
      go_ret
      exact ⟨rfl, rfl⟩

end Go.Proofs.YtbnekeomdhljhaaGreatDoor.F

namespace Go.Proofs.YtbnekeomdhljhaaGreatDoor.F
open Go.RowKit W

/-- Behind an append: the row, and what stays, above a block. -/
theorem above_after {w W W' : World} {E size n b : Nat} {v v' : Value} {xs : List Value} (ho : ∀ g, v.ownBlock = some g → b < g) (hb : w.heap.size ≤ b) (hK : Keep NoB w W) (hbW : b < W.heap.size) (hg : W.grownBy W' v.ownBlock)
    (hv : v'.ownBlock = v.ownBlock ∨ v'.ownBlock = some W.heap.size) (hrow : W'.ownsRow 0 E size v' n xs) : Own W' E size (fun k => b < k) v' n xs ∧ Keep NoB w W' ∧ Keep (fun k => b < k) W W' := by
  refine ⟨⟨hrow, fun g e => ?_⟩, hK.grown hg (fun g e h => by have := ho g e; omega), (Keep.refl _ W).grown hg (fun g e _ => ho g e)⟩
  rcases hv with h | h
  · exact ho g (h ▸ e)
  · rw [h] at e; cases e; exact hbW

theorem rd_ltN {W : World} {A : Option Addr} {xs : List Value} (h : Rd W A xs) {ad : Addr} (e : A = some ad) (h0 : 0 < xs.length) : ad.block < W.heap.size := by
  obtain ⟨g, off, e2, hc⟩ := h h0
  rw [e] at e2
  injection e2 with e2
  subst e2
  exact World.block_lt_of_cell? W _ (hc 0 _ (List.getElem?_eq_getElem h0))
theorem rd_above {W W' : World} {O : Nat → Prop} {A : Option Addr} {xs : List Value} (h : Rd W A xs) (hA : ∀ ad, A = some ad → 0 < xs.length → ¬ O ad.block) (hk : Keep O W W') : Rd W' A xs := fun h0 => by
  obtain ⟨g, off, e, hc⟩ := h h0
  exact ⟨g, off, e, fun j u hu => hk.cell (hc j u hu) (show ¬ O g from hA _ e h0)⟩

set_option maxRecDepth 100000 in
set_option maxHeartbeats 8000000 in
theorem rtypes_any (v : FV) (f : Fu) (w : World) (h : FnAt w v f) (hs : SmF v) :
    Calls Tryz.prog 76 #[v.val] w fun e w' => ∃ u, e = .returned u ∧ Own w' 3 1 (Fresh w) u (sl f).length (ivs (sl f)) ∧ Keep NoB w w' := by
  obtain ⟨i0, hi, hz0, hz1, hz2⟩ := info_parts int_info
  have bx := Blk.new w 27 v.cells
  have k0 := (Keep.refl NoB w).alloc (.cells v.cells 27)
  have HF := Lib.hid (h.keepN k0)
  have HF0 := Lib.hid h
  have hl : (sl f).length = v.na + v.nb + v.nl := by rw [sl_length, h.la, h.lb, h.ll]
  have hsl : ivs (sl f) = (ivs f.ar ++ ivs f.rs) ++ ivs f.lc := by unfold sl; simp
  rw [hl, hsl]
  have HA1 := Lib.hid (show (ivs f.ar).length = v.na * 1 by simp [h.la])
  have HB1 := Lib.hid (show (ivs f.rs).length = v.nb * 1 by simp [h.lb])
  have HL1 := Lib.hid (show (ivs f.lc).length = v.nl * 1 by simp [h.ll])
  have HA2 := Lib.hid (ivs_one f.ar)
  have HB2 := Lib.hid (ivs_one f.rs)
  have HL2 := Lib.hid (ivs_one f.lc)
  obtain ⟨q1, q2, q3, q4, q5⟩ := hs
  obtain ⟨s0, A, na, ca, B, nb, cb, L, nl, cl, D, nd, cd⟩ := v
  unfold FV.val FV.cells at *
  dsimp only at HA1 HB1 HL1 q1 q2 q3 q4 q5
  clear h hl hsl
  obtain ⟨c0, c1, c2, c3, c4⟩ := blk5 (v := ⟨s0, A, na, ca, B, nb, cb, L, nl, cl, D, nd, cd⟩) bx
  dsimp only at c0 c1 c2 c3 c4
  generalize hxa : ivs f.ar = xa at HA1 HA2
  generalize hxb : ivs f.rs = xb at HB1 HB2
  generalize hxl : ivs f.lc = xl at HL1 HL2
  have HRA : Hid (Rd (w.alloc (.cells #[.string s0, .slice A na ca, .slice B nb cb, .slice L nl cl, .slice D nd cd] 27)) A xa) := hxa ▸ HF.out.ra
  have HRB : Hid (Rd (w.alloc (.cells #[.string s0, .slice A na ca, .slice B nb cb, .slice L nl cl, .slice D nd cd] 27)) B xb) := hxb ▸ HF.out.rb
  have HRL : Hid (Rd (w.alloc (.cells #[.string s0, .slice A na ca, .slice B nb cb, .slice L nl cl, .slice D nd cd] 27)) L xl) := hxl ▸ HF.out.rl
  have hsz : w.heap.size < (w.alloc (.cells #[.string s0, .slice A na ca, .slice B nb cb, .slice L nl cl, .slice D nd cd] 27)).heap.size := by simp
  have hRLb : ∀ ad, L = some ad → 0 < xl.length → ¬ (w.heap.size < ad.block) := fun ad e h0 => by
    have h1 := rd_ltN HF0.out.rl e (by rw [hxl]; exact h0)
    omega
  clear hxa hxb hxl HF HF0
  go_enter Tryz.func76, Tryz.ntmps76
  generalize hw1 : w.alloc (.cells #[.string s0, .slice A na ca, .slice B nb cb, .slice L nl cl, .slice D nd cd] 27) = w1 at bx k0 HRA HRB HRL c0 c1 c2 c3 c4 hsz
  go_wp2_with (first
    | (at_builtin; refine wpList_append_rd _ rfl (.tmp 4) (.tmp 7) _ rfl 3 1 8 i0 _ Tryz.underlying22 hi hz0 hz1 hz2 rfl (by decide) (.slice none 0 0) 0 [] A na ca xa rfl (World.ownsRow_nil _ _ _ _) rfl HRA.out HA1.out HA2.out (by unfold maxLen; omega) (by omega) ?_; intro A5 c5 w5 hrow5 hg5 hv5; rw [Nat.zero_add] at hrow5 hv5 ⊢; rw [List.nil_append] at hrow5; clear hw1; obtain ⟨hO5, hK5, hk5⟩ := above_after (w := w) (b := w.heap.size) (fun g e => by cases e) (Nat.le_refl _) k0 hsz hg5 hv5 hrow5; have bx5 := bx.keep hk5 (Nat.lt_irrefl _); have HRB5 := Lib.hid (HRB.out.keepN ((Keep.refl NoB w1).grown hg5 (fun g e _ => by cases e))); have HRL5 := Lib.hid (HRL.out.keepN ((Keep.refl NoB w1).grown hg5 (fun g e _ => by cases e))); have hz5 := hg5.size; clear hrow5 hg5 hv5 hk5 k0 c0 c1 c2 c3 c4 bx; obtain ⟨c0, c1, c2, c3, c4⟩ := blk5 (v := ⟨s0, A, na, ca, B, nb, cb, L, nl, cl, D, nd, cd⟩) bx5; dsimp only at c0 c1 c2 c3 c4)
    | (at_builtin; refine wpList_append_rd _ rfl (.tmp 9) (.tmp 12) _ rfl 3 1 8 i0 _ Tryz.underlying22 hi hz0 hz1 hz2 rfl (by decide) (.slice A5 na c5) (na) (xa) B nb cb xb rfl hO5.1 rfl HRB5.out HB1.out HB2.out (by unfold maxLen; omega) (by omega) ?_; intro A6 c6 w6 hrow6 hg6 hv6; obtain ⟨hO6, hK6, hk6⟩ := above_after (w := w) (b := w.heap.size) hO5.2 (Nat.le_refl _) hK5 (Nat.lt_of_lt_of_le hsz hz5) hg6 hv6 hrow6; have bx6 := bx5.keep hk6 (Nat.lt_irrefl _); have hz6 := Nat.le_trans hz5 hg6.size; have HRL6 := Lib.hid (rd_above HRL5.out hRLb hk6); clear hrow6 hg6 hv6 c0 c1 c2 c3 c4 bx5; obtain ⟨c0, c1, c2, c3, c4⟩ := blk5 (v := ⟨s0, A, na, ca, B, nb, cb, L, nl, cl, D, nd, cd⟩) bx6; dsimp only at c0 c1 c2 c3 c4)
    | (at_builtin; refine wpList_append_rd _ rfl (.tmp 14) (.tmp 16) _ rfl 3 1 8 i0 _ Tryz.underlying22 hi hz0 hz1 hz2 rfl (by decide) (.slice A6 (na + nb) c6) (na + nb) (xa ++ xb) L nl cl xl rfl hO6.1 rfl HRL6.out HL1.out HL2.out (by unfold maxLen; omega) (by omega) ?_; intro A7 c7 w7 hrow7 hg7 hv7; obtain ⟨hO7, hK7, hk7⟩ := above_after (w := w) (b := w.heap.size) hO6.2 (Nat.le_refl _) hK6 (Nat.lt_of_lt_of_le hsz hz6) hg7 hv7 hrow7; have bx7 := bx6.keep hk7 (Nat.lt_irrefl _); have hz7 := Nat.le_trans hz6 hg7.size; clear hrow7 hg7 hv7 c0 c1 c2 c3 c4 bx6; obtain ⟨c0, c1, c2, c3, c4⟩ := blk5 (v := ⟨s0, A, na, ca, B, nb, cb, L, nl, cl, D, nd, cd⟩) bx7; dsimp only at c0 c1 c2 c3 c4))
  go_ret
  rw [List.append_assoc] at hO7
  exact ⟨_, rfl, hO7.mono (fun k hk _ => Nat.le_of_lt hk), hK7⟩


set_option maxRecDepth 100000 in
set_option maxHeartbeats 8000000 in
theorem rcheck_any (v : FV) (f : Fu) (w : World) (h : FnAt w v f) (hs : SmF v) (R : Int) (hR : Hid (chkF f = R)) :
    Calls Tryz.prog 19 #[v.val] w fun e w' => e = .returned (.int .i64 R) ∧ Keep NoB w w' := by
  have bx := Blk.new w 27 v.cells
  have k0 := (Keep.refl NoB w).alloc (.cells v.cells 27)
  have HF := Lib.hid (h.keepN k0)
  have HX := Lib.hid bx
  have HN := Lib.hid (fun w (R : Int) hR => rnamed_any v.S f.nm w h.nm (by have := hs.sz; omega) R hR)
  have HG := Lib.hid (fun w1 (hk : Keep NoB (w.alloc (.cells v.cells 27)) w1) (R : Int) hR => S.rchkG_any v.A f.ar v.na v.ca v.B f.rs v.nb v.cb w1 (HF.out.keepN hk).ra (HF.out.keepN hk).rb h.la h.lb (by have := hs.na; omega) (by have := hs.nb; omega) R hR)
  have HB := Lib.hid (fun w1 (hk : Keep NoB (w.alloc (.cells v.cells 27)) w1) (R : Int) hR => C.rcchk_any v.D f.bd v.nd v.cd w1 (HF.out.keepN hk).rd h.ld h.hI (by have := hs.nd; omega) R hR)
  have HT := Lib.hid (fun w1 (hk : Keep NoB (w.alloc (.cells v.cells 27)) w1) => rtypes_any v f w1 (HF.out.keepN hk) hs)
  have hlen : (sl f).length = v.na + v.nb + v.nl := by rw [sl_length, h.la, h.lb, h.ll]
  rw [hlen] at HT
  have HLL := Lib.hid h.ll
  have HLN : Hid (f.ar.length + f.rs.length + f.lc.length = v.na + v.nb + v.nl) := by show _ = _; rw [h.la, h.lb, h.ll]
  have HRL := Lib.hid (fun w1 (hk : Keep NoB (w.alloc (.cells v.cells 27)) w1) => (HF.out.keepN hk).rl)
  obtain ⟨q1, q2, q3, q4, q5⟩ := hs
  obtain ⟨s0, A, na, ca, B, nb, cb, L, nl, cl, D, nd, cd⟩ := v
  unfold FV.val FV.cells at *
  dsimp only at HN HG HB HT HLL HLN q2 q3 q4 HRL
  clear bx h HF hlen
  cases h1 : okN f.nm
  · have HN2 := Lib.hid (fun w => HN.out w 71 (chkN_no h1))
    obtain rfl : 70 = R := by rw [← hR.out]; exact (chkF_no (okF_not (by rw [h1]; simp))).symm
    clear HN hR h1
    go_enter Tryz.func19, Tryz.ntmps19
    obtain ⟨c0, c1, c2, c3, c4⟩ := blk5 (v := ⟨s0, A, na, ca, B, nb, cb, L, nl, cl, D, nd, cd⟩) HX.out
    dsimp only at c0 c1 c2 c3 c4
    go_wp2_with fail
    refine (HN2.out _).mono ?_
    rintro e w1 ⟨rfl, rfl⟩
    go_wp2
    go_ret
    exact ⟨rfl, k0⟩
  have HN2 := Lib.hid (fun w => HN.out w 0 (chkN_ok h1))
  cases h2 : S.okG f.ar f.rs
  · have HG2 := Lib.hid (fun w hk => HG.out w hk 61 (S.chkG_no h2))
    obtain rfl : 70 = R := by rw [← hR.out]; exact (chkF_no (okF_not (by rw [h2]; simp))).symm
    clear HN HG hR h1 h2
    go_enter Tryz.func19, Tryz.ntmps19
    obtain ⟨c0, c1, c2, c3, c4⟩ := blk5 (v := ⟨s0, A, na, ca, B, nb, cb, L, nl, cl, D, nd, cd⟩) HX.out
    dsimp only at c0 c1 c2 c3 c4
    go_wp2_with fail
    refine (HN2.out _).mono ?_
    rintro e w1 ⟨rfl, rfl⟩
    clear c0 c1 c2 c3 c4
    obtain ⟨c0, c1, c2, c3, c4⟩ := blk5 (v := ⟨s0, A, na, ca, B, nb, cb, L, nl, cl, D, nd, cd⟩) HX.out
    dsimp only at c0 c1 c2 c3 c4
    go_wp2_with fail
    refine (HG2.out _ (Keep.refl _ _)).mono ?_
    rintro e w2 ⟨rfl, k1⟩
    go_wp2
    go_ret
    exact ⟨rfl, keepN k0 k1⟩
  have HG2 := Lib.hid (fun w hk => HG.out w hk 0 (S.chkG_ok h2))
  cases h4 : C.okB f.bd
  · have HB2 := Lib.hid (fun w hk => HB.out w hk 50 (C.chkB_no h4))
    obtain rfl : 70 = R := by rw [← hR.out]; exact (chkF_no (okF_not (by rw [h4]; simp))).symm
    clear HN HG HB hR h1 h2 h4
    go_enter Tryz.func19, Tryz.ntmps19
    obtain ⟨c0, c1, c2, c3, c4⟩ := blk5 (v := ⟨s0, A, na, ca, B, nb, cb, L, nl, cl, D, nd, cd⟩) HX.out
    dsimp only at c0 c1 c2 c3 c4
    go_wp2_with fail
    refine (HN2.out _).mono ?_
    rintro e w1 ⟨rfl, rfl⟩
    clear c0 c1 c2 c3 c4
    obtain ⟨c0, c1, c2, c3, c4⟩ := blk5 (v := ⟨s0, A, na, ca, B, nb, cb, L, nl, cl, D, nd, cd⟩) HX.out
    dsimp only at c0 c1 c2 c3 c4
    go_wp2_with fail
    refine (HG2.out _ (Keep.refl _ _)).mono ?_
    rintro e w2 ⟨rfl, k1⟩
    clear c0 c1 c2 c3 c4
    obtain ⟨c0, c1, c2, c3, c4⟩ := blk5 (v := ⟨s0, A, na, ca, B, nb, cb, L, nl, cl, D, nd, cd⟩) (HX.out.keep k1 id)
    dsimp only at c0 c1 c2 c3 c4
    go_wp2_with fail
    refine (HB2.out _ k1).mono ?_
    rintro e w3 ⟨rfl, k2⟩
    replace k1 := keepN k1 k2
    clear k2
    go_wp2
    go_ret
    exact ⟨rfl, keepN k0 k1⟩
  have HB2 := Lib.hid (fun w hk => HB.out w hk 0 (C.chkB_ok h4))
  by_cases h5 : 64 < na + nb + nl
  · obtain rfl : 70 = R := by rw [← hR.out]; exact (chkF_no (okF_not (by rw [HLN.out]; omega))).symm
    clear HN HG HB hR h1 h2 h4
    go_enter Tryz.func19, Tryz.ntmps19
    obtain ⟨c0, c1, c2, c3, c4⟩ := blk5 (v := ⟨s0, A, na, ca, B, nb, cb, L, nl, cl, D, nd, cd⟩) HX.out
    dsimp only at c0 c1 c2 c3 c4
    go_wp2_with fail
    refine (HN2.out _).mono ?_
    rintro e w1 ⟨rfl, rfl⟩
    clear c0 c1 c2 c3 c4
    obtain ⟨c0, c1, c2, c3, c4⟩ := blk5 (v := ⟨s0, A, na, ca, B, nb, cb, L, nl, cl, D, nd, cd⟩) HX.out
    dsimp only at c0 c1 c2 c3 c4
    go_wp2_with fail
    refine (HG2.out _ (Keep.refl _ _)).mono ?_
    rintro e w2 ⟨rfl, k1⟩
    clear c0 c1 c2 c3 c4
    obtain ⟨c0, c1, c2, c3, c4⟩ := blk5 (v := ⟨s0, A, na, ca, B, nb, cb, L, nl, cl, D, nd, cd⟩) (HX.out.keep k1 id)
    dsimp only at c0 c1 c2 c3 c4
    go_wp2_with fail
    refine (HB2.out _ k1).mono ?_
    rintro e w3 ⟨rfl, k2⟩
    replace k1 := keepN k1 k2
    clear k2
    clear c0 c1 c2 c3 c4
    obtain ⟨c0, c1, c2, c3, c4⟩ := blk5 (v := ⟨s0, A, na, ca, B, nb, cb, L, nl, cl, D, nd, cd⟩) (HX.out.keep k1 id)
    dsimp only at c0 c1 c2 c3 c4
    go_wp2_with fail
    refine (HT.out _ k1).mono ?_
    rintro e w4 ⟨u, rfl, hO, k2⟩
    obtain ⟨A4, c4', rfl, _, _, _, _⟩ := hO.form
    replace k1 := keepN k1 k2
    clear k2 hO
    go_wp2
    go_ret
    exact ⟨rfl, keepN k0 k1⟩
  have HO : Hid (f.lc.all knownB = true → chkF f = 0) := fun h3 => chkF_ok ((okF_iff f).2 ⟨h1, h2, h3, h4, by rw [HLN.out]; omega⟩)
  have HO2 : Hid (f.lc.all knownB = false → chkF f = 70) := fun h3 => chkF_no (okF_not (by rw [h3]; simp))
  clear HN HG HB h1 h2 h4
  go_enter Tryz.func19, Tryz.ntmps19
  obtain ⟨c0, c1, c2, c3, c4⟩ := blk5 (v := ⟨s0, A, na, ca, B, nb, cb, L, nl, cl, D, nd, cd⟩) HX.out
  dsimp only at c0 c1 c2 c3 c4
  go_wp2_with fail
  refine (HN2.out _).mono ?_
  rintro e w1 ⟨rfl, rfl⟩
  clear c0 c1 c2 c3 c4
  obtain ⟨c0, c1, c2, c3, c4⟩ := blk5 (v := ⟨s0, A, na, ca, B, nb, cb, L, nl, cl, D, nd, cd⟩) HX.out
  dsimp only at c0 c1 c2 c3 c4
  go_wp2_with fail
  refine (HG2.out _ (Keep.refl _ _)).mono ?_
  rintro e w2 ⟨rfl, k1⟩
  clear c0 c1 c2 c3 c4
  obtain ⟨c0, c1, c2, c3, c4⟩ := blk5 (v := ⟨s0, A, na, ca, B, nb, cb, L, nl, cl, D, nd, cd⟩) (HX.out.keep k1 id)
  dsimp only at c0 c1 c2 c3 c4
  go_wp2_with fail
  refine (HB2.out _ k1).mono ?_
  rintro e w3 ⟨rfl, k2⟩
  replace k1 := keepN k1 k2
  clear k2
  clear c0 c1 c2 c3 c4
  obtain ⟨c0, c1, c2, c3, c4⟩ := blk5 (v := ⟨s0, A, na, ca, B, nb, cb, L, nl, cl, D, nd, cd⟩) (HX.out.keep k1 id)
  dsimp only at c0 c1 c2 c3 c4
  go_wp2_with fail
  refine (HT.out _ k1).mono ?_
  rintro e w4 ⟨u, rfl, hO, k2⟩
  obtain ⟨A4, c4', rfl, _, _, _, _⟩ := hO.form
  replace k1 := keepN k1 k2
  clear k2 hO
  clear c0 c1 c2 c3 c4
  have HK1 := Lib.hid k1
  have HK0 := Lib.hid k0
  clear k1 k0 HN2 HG2 HB2 HT
  go_wp2
  go_loopw [3] (fun i wr => ∃ k : Nat, k ≤ nl ∧ i = .int .i64 (k : Int) ∧ Hid ((f.lc.take k).all knownB = true) ∧ Keep NoB (w.alloc (.cells #[.string s0, .slice A na ca, .slice B nb cb, .slice L nl cl, .slice D nd cd] 27)) wr) (fun i _ => nl - (intOf i).toNat)
  case atStart => exact ⟨0, Nat.zero_le _, rfl, rfl, HK1.out⟩
  case round =>
    obtain ⟨k, hk, rfl, ht, hK⟩ := hrel
    obtain ⟨c0, c1, c2, c3, c4⟩ := blk5 (v := ⟨s0, A, na, ca, B, nb, cb, L, nl, cl, D, nd, cd⟩) (HX.out.keep hK id)
    dsimp only at c0 c1 c2 c3 c4
    by_cases hlt : k < nl
    · have hkl : k < f.lc.length := by rw [HLL.out]; exact hlt
      obtain ⟨g, off, rfl, hc⟩ := rdI_at (HRL.out _ hK) (by omega)
      have ck := hc k hkl
      have HY := Lib.hid (fun h => S.all_step (p := knownB) hkl ht.out h)
      have HNO := Lib.hid (fun h => S.all_no (p := knownB) hkl h)
      have HKn := Lib.hid (fun w => rknown_any f.lc[k] w)
      clear hc ht
      generalize f.lc[k] = t at ck HY HNO HKn
      obtain ⟨b, hb⟩ : ∃ b, knownB t = b := ⟨_, rfl⟩
      rw [hb] at HY HNO HKn
      clear hb
      cases b
      · obtain rfl : 70 = R := by rw [← hR.out]; exact (HO2.out (HNO.out rfl)).symm
        clear hR HO HO2 HY HNO
        go_wp2_with (go_at_call 77; refine (HKn.out _).mono ?_; rintro e w9 ⟨rfl, rfl⟩)
        go_ret
        exact ⟨rfl, keepN HK0.out hK⟩
      · have HV := Lib.hid (HY.out rfl)
        clear hR HO HO2 HY HNO
        go_wp2_with (go_at_call 77; refine (HKn.out _).mono ?_; rintro e w9 ⟨rfl, rfl⟩)
        go_roundw
        case rel => exact ⟨k + 1, by omega, by go_num, HV, hK⟩
        case measure => simp [intOf]; omega
    · obtain rfl : 0 = R := by
        rw [← hR.out]
        have e1 := ht.out
        rw [List.take_of_length_le (by rw [HLL.out]; omega)] at e1
        exact (HO.out e1).symm
      clear hR HO HO2
      go_wp2
      go_ret
      exact ⟨rfl, keepN HK0.out hK⟩

end Go.Proofs.YtbnekeomdhljhaaGreatDoor.F

namespace Go.Proofs.YtbnekeomdhljhaaGreatDoor.O
open Go.RowKit Go.Shelf
attribute [local go_sem] Oper.semAt_some

/-- An operand that comes: its kind, its number, its functions. -/
structure Part where
  k : Int
  n : Int
  sh : Value
  gu : Value
def Part.key (x : Part) : Int × Int := (x.k, x.n)
abbrev partE (x : Part) : Array Value := #[opV x.k x.sh x.gu, .int .i64 x.n]
/-- The operands that there are. -/
def partsL (ka kb a b : Int) : List (Int × Int) := if ka = 0 then [] else if kb = 0 then [(ka, a)] else [(ka, a), (kb, b)]
/-- What is known of one that comes: its place, its functions. -/
def PartN (ka kb a b : Int) (pre : List Part) (x : Part) (W : World) : Prop := (∃ post, pre.map Part.key ++ x.key :: post = partsL ka kb a b) ∧ FnAt x.k x.sh x.gu W

theorem parts_0 {ka kb a b : Int} (h : ka = 0) : partsL ka kb a b = [] := by unfold partsL; rw [if_pos h]
theorem parts_1 {ka kb a b : Int} (h : ka ≠ 0) (h' : kb = 0) : partsL ka kb a b = [(ka, a)] := by unfold partsL; rw [if_neg h, if_pos h']
theorem parts_2 {ka kb a b : Int} (h : ka ≠ 0) (h' : kb ≠ 0) : partsL ka kb a b = [(ka, a), (kb, b)] := by unfold partsL; rw [if_neg h, if_neg h']

theorem run_index_nums (a b : Int) (w : World) : (Instr.index 237 (.agg #[.int .i64 a, .int .i64 b]) (.int .i64 0)).run Tryz.prog w = .ok (.int .i64 a) w ∧
    (Instr.index 237 (.agg #[.int .i64 a, .int .i64 b]) (.int .i64 1)).run Tryz.prog w = .ok (.int .i64 b) w := by
  have hs : (sizeOf 2).run Tryz.prog w = .ok 1 w := Tryz.sizeOf2 w
  unfold Instr.index
  constructor
  · simp [run_underlying Tryz.underlying237, asIntOf, hs, part]
  · simp [run_underlying Tryz.underlying237, asIntOf, hs, part]

set_option maxRecDepth 100000 in
set_option maxHeartbeats 4000000 in
theorem parts1_in (m : Nat) (q : Row) (op a b : Int) (Bx Br : Nat) (hka : 0 ≤ q.ka ∧ q.ka ≤ 10) (hkb : 0 ≤ q.kb ∧ q.kb ≤ 10) (I : List Part → World → Prop)
    (hbx : ∀ pre W, I pre W → Blk W Bx 74 #[.int .i64 op, .int .i64 a, .int .i64 b]) (hbr : ∀ pre W, I pre W → Blk W Br 200 (cells9 q)) :
    Brings Tryz.prog m (m + 1) 169 #[.pointer (some ⟨Bx, 0, none⟩), .pointer (some ⟨Br, 0, none⟩)] partE I (PartN q.ka q.kb a b) (fun xs => xs.map Part.key = partsL q.ka q.kb a b) := by
  intro L J hJk hJI hY W h0
  refine callsIn_of_wp Tryz.func169 rfl trivial ?_ rfl
  simp only [Tryz.ntmps169, List.size_toArray, List.length_cons, List.length_nil, Nat.reduceAdd, Nat.reduceSub, Array.replicate_succ, Array.replicate_zero, List.push_toArray, List.append_toArray, List.nil_append, List.cons_append]
  have x0 := hbx _ _ (hJI _ _ h0)
  have c1 : W.cell? ⟨Bx, 1, none⟩ = some (.int .i64 a) := x0.cell 1
  have c2 : W.cell? ⟨Bx, 2, none⟩ = some (.int .i64 b) := x0.cell 2
  clear x0
  gi_wp2
  gi_loopw [11] (fun i wr => ∃ (k : Nat) (pre : List Part), k ≤ 2 ∧ i = .int .i64 (k : Int) ∧ Hid (pre.map Part.key = [(q.ka, a), (q.kb, b)].take k ∧ (1 ≤ k → q.ka ≠ 0) ∧ (2 ≤ k → q.kb ≠ 0)) ∧ J pre wr)
    (fun i _ => 2 - (intOf i).toNat)
  case atStart => exact ⟨0, [], by omega, rfl, ⟨rfl, fun h => by omega, fun h => by omega⟩, h0⟩
  case round =>
    obtain ⟨k, pre, hk, rfl, HP, hJ⟩ := hrel
    have r0 := hbr _ _ (hJI _ _ hJ)
    have d1 : wr.cell? ⟨Br, 1, none⟩ = some (.int .i64 q.ka) := r0.cell 1
    have d2 : wr.cell? ⟨Br, 2, none⟩ = some (.int .i64 q.kb) := r0.cell 2
    clear r0 c1 c2
    have hix := fun w => run_index_nums a b w
    have hi0 := fun w => (hix w).1
    have hi1 := fun w => (hix w).2
    clear hix
    obtain rfl | rfl | rfl : k = 0 ∨ k = 1 ∨ k = 2 := by omega
    · by_cases hz : q.ka = 0
      · have hS : Hid (pre.map Part.key = partsL q.ka q.kb a b) := by show _ = _; rw [HP.out.1, parts_0 hz]; rfl
        have e0 : (q.ka == 0) = true := by rw [beq_iff_eq]; exact hz
        clear HP hz hka hkb
        rw [show ((0 : Nat) : Int) = 0 from rfl]
        gi_wp2
        refine ⟨trivial, ?_⟩
        gi_wp2
        refine ⟨fun _ h => (by cases h), ?_⟩
        gi_wp2
        refine bodyPost_ret (results_none rfl _ _ _) rfl ?_
        exact ⟨⟨_, rfl⟩, pre, hS.out, hJ⟩
      · have e0 : (q.ka == 0) = false := by rw [beq_eq_false_iff_ne]; exact hz
        have HN : Hid (pre.map Part.key ++ (q.ka, a) :: (if q.kb = 0 then [] else [(q.kb, b)]) = partsL q.ka q.kb a b) := by show _ = _; rw [HP.out.1]; unfold partsL; rw [if_neg hz]; split <;> rfl
        have HQ : Hid (∀ x : Part, x.key = (q.ka, a) → (pre ++ [x]).map Part.key = [(q.ka, a), (q.kb, b)].take 1) := by intro x hx; rw [List.map_append, HP.out.1]; simp [hx]
        have hp1 := HP.out.2.1
        have HZ : Hid ((1 ≤ 1 → q.ka ≠ 0) ∧ (2 ≤ 1 → q.kb ≠ 0)) := ⟨fun _ => hz, fun h => by omega⟩
        clear HP hz hp1
        rw [show ((0 : Nat) : Int) = 0 from rfl]
        gi_wp2_with (refine ⟨trivial, ?_⟩; gi_at_call 156; refine (callsIn_wide.2 (operandOf_any q.ka hka _)).mono ?_; rintro e w1 ⟨sh, gu, rfl, hF, k1⟩; have hJ1 := hJk _ _ _ hJ k1; obtain ⟨fn, tmps, assign, body, hy, hR⟩ := hY pre ⟨q.ka, a, sh, gu⟩ w1 hJ1 ⟨⟨_, HN.out⟩, hF⟩; dsimp only [partE] at hy)
        refine hR.mono ?_
        rintro e W3 ⟨rfl, hJ3⟩
        gi_wp2
        go_roundw
        case rel => exact ⟨1, pre ++ [_], by omega, rfl, ⟨HQ.out _ rfl, HZ.out⟩, hJ3⟩
        case measure => simp [intOf]
    · by_cases hz : q.kb = 0
      · have hS : Hid (pre.map Part.key = partsL q.ka q.kb a b) := by show _ = _; rw [HP.out.1, parts_1 (HP.out.2.1 (by omega)) hz]; rfl
        have e0 : (q.kb == 0) = true := by rw [beq_iff_eq]; exact hz
        clear HP hz hka hkb
        rw [show ((1 : Nat) : Int) = 1 from rfl]
        gi_wp2
        refine ⟨trivial, ?_⟩
        gi_wp2
        refine ⟨fun _ h => (by cases h), ?_⟩
        gi_wp2
        refine bodyPost_ret (results_none rfl _ _ _) rfl ?_
        exact ⟨⟨_, rfl⟩, pre, hS.out, hJ⟩
      · have e0 : (q.kb == 0) = false := by rw [beq_eq_false_iff_ne]; exact hz
        have HN : Hid (pre.map Part.key ++ (q.kb, b) :: [] = partsL q.ka q.kb a b) := by show _ = _; rw [HP.out.1, parts_2 (HP.out.2.1 (by omega)) hz]; rfl
        have HQ : Hid (∀ x : Part, x.key = (q.kb, b) → (pre ++ [x]).map Part.key = [(q.ka, a), (q.kb, b)].take 2) := by intro x hx; rw [List.map_append, HP.out.1]; simp [hx]
        have hp1 := HP.out.2.1
        have HZ : Hid ((1 ≤ 2 → q.ka ≠ 0) ∧ (2 ≤ 2 → q.kb ≠ 0)) := ⟨fun _ => hp1 (by omega), fun _ => hz⟩
        clear HP hz hp1
        rw [show ((1 : Nat) : Int) = 1 from rfl]
        gi_wp2_with (refine ⟨trivial, ?_⟩; gi_at_call 156; refine (callsIn_wide.2 (operandOf_any q.kb hkb _)).mono ?_; rintro e w1 ⟨sh, gu, rfl, hF, k1⟩; have hJ1 := hJk _ _ _ hJ k1; obtain ⟨fn, tmps, assign, body, hy, hR⟩ := hY pre ⟨q.kb, b, sh, gu⟩ w1 hJ1 ⟨⟨_, HN.out⟩, hF⟩; dsimp only [partE] at hy)
        refine hR.mono ?_
        rintro e W3 ⟨rfl, hJ3⟩
        gi_wp2
        go_roundw
        case rel => exact ⟨2, pre ++ [_], by omega, rfl, ⟨HQ.out _ rfl, HZ.out⟩, hJ3⟩
        case measure => simp [intOf]
    · have hS : Hid (pre.map Part.key = partsL q.ka q.kb a b) := by show _ = _; rw [HP.out.1, parts_2 (HP.out.2.1 (by omega)) (HP.out.2.2 (by omega))]; rfl
      clear HP hka hkb
      rw [show ((2 : Nat) : Int) = 2 from rfl]
      gi_wp2
      go_end0
      exact ⟨⟨_, rfl⟩, pre, hS.out, hJ⟩

end Go.Proofs.YtbnekeomdhljhaaGreatDoor.O

namespace Go.Proofs.YtbnekeomdhljhaaGreatDoor.O
open Go.RowKit Go.Shelf
attribute [local go_sem] Oper.semAt_some

theorem blk_own {β : Type} (B g : Nat) (t : TypeId) (cs : β → Array Value) : OwnFrom B (fun s W => Blk W g t (cs s)) := by
  intro s X Y row h hg hrow
  refine (hg.block g h.lt (fun e => ?_)).trans h
  obtain ⟨_, o, ho, hc⟩ := hrow g e.symm
  rw [show X.heap[g]? = _ from h] at ho
  cases ho; cases hc
theorem keep_own {β : Type} {B : Nat} {w0 : World} (O : Nat → Prop) (hB : w0.heap.size ≤ B) : OwnFrom B (fun (_ : β) W => Keep O w0 W) := by
  intro s X Y row h hg hrow
  exact h.grown hg (fun g e hl => by have := (hrow g e).1; omega)
theorem fnAt_own {β : Type} (B : Nat) (k : Int) (sh gu : Value) : OwnFrom B (fun (_ : β) W => FnAt k sh gu W) := by
  intro s X Y row h hg hrow
  have hc : ∀ p v, X.cell? p = some v → Y.cell? p = some v := fun p v hp => cell_kept hp hg (fun r e => (hrow r e).2)
  rcases h with h | h | ⟨h, b, c, h1, h2, h3, h4⟩
  · exact .inl h
  · exact .inr (.inl h)
  · exact .inr (.inr ⟨h, b, c, h1, h2, hc _ _ h3, hc _ _ h4⟩)
theorem ownFrom_const {β : Type} (B : Nat) (p : Prop) : OwnFrom B (fun (_ : β) (_ : World) => p) := fun _ _ _ _ h _ _ => h
theorem keepsFrom_one {B g : Nat} {W W' : World} (h : Keep (fun k => k = g) W W') (hg : g < B) : KeepsFrom B W W' :=
  ⟨h.size, fun k _ hk hh _ => (h.block k (Array.getElem?_eq_some_iff.1 hh).1 (fun e => by omega)).trans hh⟩

set_option maxHeartbeats 1000000 in
theorem parts_any (q : Row) (op a b : Int) (w : World) : Calls Tryz.prog 147 #[rowV q, instV op a b] w fun e w' =>
    e = .returned (.func (.func 169) #[] #[.pointer (some ⟨w.heap.size + 1, 0, none⟩), .pointer (some ⟨w.heap.size, 0, none⟩)]) ∧ Blk w' w.heap.size 200 (cells9 q) ∧ Blk w' (w.heap.size + 1) 74 #[.int .i64 op, .int .i64 a, .int .i64 b] ∧ Keep NoB w w' := by
  go_enter Tryz.func147, Tryz.ntmps147
  go_wp2
  go_ret
  have h1 := Blk.new (w.alloc (.cells (cells9 q) 200)) 74 #[.int .i64 op, .int .i64 a, .int .i64 b]
  rw [World.size_alloc] at h1
  exact ⟨rfl, (Blk.new _ _ _).alloc _, h1, ((Keep.refl NoB w).alloc _).alloc _⟩

/-- The text of the operands that have come. -/
def textP (l : List (Int × Int)) : List UInt8 := l.flatMap fun x => 32 :: word x.1 x.2
theorem textP_parts (ka kb a b : Int) (h : ka = 0 → kb = 0) : textP (partsL ka kb a b) = partL ka a ++ partL kb b := by
  unfold partsL partL textP
  split
  · rename_i hz
    rw [if_pos (h hz)]; rfl
  · split
    · simp
    · simp
theorem kinds_none (op : Int) : (rowAt op).ka = 0 → (rowAt op).kb = 0 := by
  have := rowAt_all (p := fun r => decide (r.ka = 0 → r.kb = 0)) (by decide) (by decide) op
  exact of_decide_eq_true this

theorem textP_snoc (l : List (Int × Int)) (x : Int × Int) : textP (l ++ [x]) = textP l ++ 32 :: word x.1 x.2 := by unfold textP; simp
theorem textP_len : ∀ (l : List (Int × Int)), (∀ x ∈ l, I64 x.2) → (textP l).length ≤ 22 * l.length
  | [], _ => Nat.zero_le _
  | x :: l, h => by
    have h1 := word_len x.1 x.2 (h x (by simp))
    have h2 := textP_len l (fun y hy => h y (by simp [hy]))
    have e : textP (x :: l) = (32 :: word x.1 x.2) ++ textP l := by unfold textP; simp
    rw [e]
    simp
    omega
theorem parts_mem {ka kb a b : Int} {x : Int × Int} (h : x ∈ partsL ka kb a b) : x.1 ≠ 0 ∧ (x.2 = a ∨ x.2 = b) := by
  unfold partsL at h
  split at h
  · cases h
  · split at h
    · rename_i h1 h2; simp at h; subst h; exact ⟨h1, .inl rfl⟩
    · rename_i h1 h2
      simp at h
      rcases h with rfl | rfl
      · exact ⟨h1, .inl rfl⟩
      · exact ⟨h2, .inr rfl⟩
theorem parts_len (ka kb a b : Int) : (partsL ka kb a b).length ≤ 2 := by unfold partsL; split <;> (try split) <;> simp
theorem part_facts {ka kb a b : Int} {pre : List Part} {x : Part} {W : World} (h : PartN ka kb a b pre x W) (ha : I64 a) (hb : I64 b) : x.k ≠ 0 ∧ I64 x.n ∧ (textP (pre.map Part.key)).length ≤ 44 := by
  obtain ⟨⟨post, hp⟩, _⟩ := h
  have h64 : ∀ y ∈ partsL ka kb a b, I64 y.2 := fun y hy => by rcases (parts_mem hy).2 with e | e <;> rw [e] <;> assumption
  have hx := parts_mem (x := x.key) (by rw [← hp]; simp)
  have hl := congrArg List.length hp
  have h2 := parts_len ka kb a b
  have hx64 := h64 x.key (by rw [← hp]; simp)
  have ht := textP_len (pre.map Part.key) (fun y hy => h64 y (by rw [← hp]; exact List.mem_append_left _ hy))
  simp at hl ht
  exact ⟨hx.1, hx64, by omega⟩
theorem name_len (op : Int) : (rowAt op).name.length ≤ 7 := by
  have := rowAt_all (p := fun r => decide (r.name.length ≤ 7)) (by decide) (by decide) op
  exact of_decide_eq_true this

theorem Keep_putObj {O : Nat → Prop} {w W : World} {D : Nat} {o : Obj} (h : Keep O w W) (hD : w.heap.size ≤ D) : Keep O w (W.putObj D o) := h.grown (grownBy_putObj' W D o) (fun g e hl => by cases e; omega)
theorem str_sp (s d : List UInt8) : str s ++ ((⟨#[32]⟩ : ByteArray) ++ str d) = str (s ++ 32 :: d) := by
  apply ByteArray.ext
  simp [ByteArray.data_append]

theorem show_end {w2 W w3 : World} {bt : Nat} {cs : Array Value} {t : TypeId} {u : Value} (h : Blk (w3.setCell ⟨bt, 0, none⟩ u) bt t cs) (h2 : Keep (fun k => k = bt) w2 W) (k4 : Keep NoB W w3) (hlt : bt < w2.heap.size) :
    (Exit.normal = Exit.normal) ∧ (Blk (w3.setCell ⟨bt, 0, none⟩ u) bt t cs ∧ Keep (fun k => k = bt) w2 (w3.setCell ⟨bt, 0, none⟩ u)) ∧ KeepsFrom w2.heap.size W (w3.setCell ⟨bt, 0, none⟩ u) :=
  ⟨rfl, ⟨h, (h2.trans k4 (fun _ hf _ => hf.elim)).setCell (fun _ => rfl) _⟩, keepsFrom_one (Keep.setCell (O := fun k => k = bt) (p := ⟨bt, 0, none⟩) (k4.mono (fun _ hf _ => hf.elim)) (fun _ => rfl) u) hlt⟩

/-- The activation at the head of the loop's body. -/
def showAct (op a b : Int) (r : Row) (g h : Nat) (x : Part) (Bo : Nat) : Act :=
  { tmps := #[instV op a b, .pointer (some ⟨g, 0, none⟩), .string ⟨#[]⟩, .pointer (some ⟨h, 0, none⟩), .bool true, .pointer (some ⟨h + 1, 0, none⟩), .pointer (some ⟨Bo, 0, none⟩), .int .i64 x.n, .tuple #[rowV r, .bool true],
      instV op a b, .tuple #[rowV r, .bool true], rowV r, .bool true, .bool true, .bool false, .pointer (some ⟨h, 0, none⟩), .string (str r.name), rowV r, instV op a b,
      .func (.func 169) #[] #[.pointer (some ⟨h + 1 + 1 + 1, 0, none⟩), .pointer (some ⟨h + 1 + 1, 0, none⟩)], .agg #[.int .i64 x.k, .int .i64 (lo x.k), .int .i64 (hi x.k), x.sh, x.gu], .int .i64 x.n,
      undef, undef, undef, undef, undef, undef, undef, undef], defers := [] }

end Go.Proofs.YtbnekeomdhljhaaGreatDoor.O

namespace Go.Proofs.YtbnekeomdhljhaaGreatDoor.O
open Go.RowKit

/-- Block k holds cells. -/
def CellsAt (W : World) (k : Nat) : Prop := ∃ cs t f, W.heap[k]? = some (.cells cs t f)
theorem CellsAt.lt {W : World} {k : Nat} (h : CellsAt W k) : k < W.heap.size := by obtain ⟨_, _, _, h⟩ := h; exact (Array.getElem?_eq_some_iff.1 h).1
theorem Blk.cellsAt {w : World} {g : Nat} {t : TypeId} {cs : Array Value} (h : Blk w g t cs) : CellsAt w g := ⟨cs, t, (0, 0), h⟩
theorem own_cells {w : World} {O : Nat → Prop} {v : Value} {l : List UInt8} (h : V.OwnB w O v l) : ∀ g, v.ownBlock = some g → CellsAt w g := by
  intro g e
  rcases h.1.2 with ⟨rfl, _⟩ | ⟨g', cap, cur, rfl, _, hh, _⟩
  · simp [Value.ownBlock] at e
  · simp [Value.ownBlock] at e
    subst e
    exact ⟨_, _, _, hh⟩
/-- A Tape's blocks are cells. -/
theorem tape_cells {w : World} {bt : Nat} {O : Nat → Prop} {l : List UInt8} (h : V.TapeAt w bt O l) : V.TapeAt w bt (fun k => O k ∧ CellsAt w k) l := by
  rcases h.2 with ⟨hb, hl⟩ | ⟨bs, v, ho, hb, hs, hv⟩
  · exact ⟨⟨h.1, Blk.cellsAt hb⟩, .inl ⟨hb, hl⟩⟩
  · exact ⟨⟨h.1, Blk.cellsAt hb⟩, .inr ⟨bs, v, ⟨ho, Blk.cellsAt hs⟩, hb, hs, hv.1, fun g e => ⟨hv.2 g e, own_cells hv g e⟩⟩⟩
/-- A step that turns none of a Tape's blocks leaves it. -/
theorem tape_grown {w w' : World} {row : Option Nat} {bt : Nat} {O : Nat → Prop} {l : List UInt8} (h : V.TapeAt w bt O l) (hg : w.grownBy w' row) (hr : ∀ r, row = some r → ¬ O r) : V.TapeAt w' bt O l := by
  have hk : Keep (fun k => some k = row) w w' := ⟨hg.os, hg.tape, hg.output, hg.size, fun k hk hn => hg.block k hk hn⟩
  exact h.keep hk (fun k ho e => hr k e.symm ho)

/-- What write leaves. -/
def WroteR (w : World) (bt : Nat) (O : Nat → Prop) (xs : List UInt8) (e : Ending) (w' : World) : Prop := e = .returned (.tuple #[]) ∧ V.TapeAt w' bt (V.More O w w') xs ∧ Keep O w w'

set_option maxHeartbeats 1000000 in
theorem write_any (k n : Int) (sh gu : Value) (bt : Nat) (O : Nat → Prop) (l : List UInt8) (w : World) (hk : k ≠ 0) (hn : inK k n = true) (h64 : -9223372036854775808 ≤ n ∧ n ≤ 9223372036854775807)
    (h : V.TapeAt w bt O l) (hO : ∀ k, O k → k < w.heap.size) (hb : l.length + 9 ≤ 140737488355328) :
    Calls Tryz.prog 148 #[opV k sh gu, .pointer (some ⟨bt, 0, none⟩), .int .i64 n] w (WroteR w bt O (l ++ encP k n)) := by
  have hK := (Keep.refl NoB w).alloc (.cells #[.int .i64 k, .int .i64 (lo k), .int .i64 (hi k), sh, gu] 209)
  have h1 := h.keep hK (fun _ _ => id)
  have hO1 : ∀ j, O j → j < (w.alloc (.cells #[.int .i64 k, .int .i64 (lo k), .int .i64 (hi k), sh, gu] 209)).heap.size := by intro j hj; have := hO j hj; simp; omega
  have hsz : (w.alloc (.cells #[.int .i64 k, .int .i64 (lo k), .int .i64 (hi k), sh, gu] 209)).heap.size = w.heap.size + 1 := by simp
  by_cases h1k : k = 1
  · subst h1k
    have HE : Hid (encP 1 n = V.encL (V.zig n)) := rfl
    have HS := Lib.hid (V.tsigned_any _ bt O l n h64.1 h64.2 h1 hO1 hb)
    clear hk hn hO hb h h1 hO1
    unfold opV
    go_enter Tryz.func148, Tryz.ntmps148
    go_wp2_with fail
    refine HS.out.mono ?_
    rintro e w2 ⟨rfl, h2, k2⟩
    go_wp2
    go_end0
    rw [HE.out]
    refine ⟨rfl, h2.mono ?_, hK.mono (fun _ hf _ => hf.elim) |>.trans k2 (fun _ ho _ => ho)⟩
    rintro j (hj | ⟨hj1, hj2⟩) _
    · exact .inl hj
    · exact .inr ⟨by omega, hj2⟩
  · have hn0 : 0 ≤ n := by
      have := (of_decide_eq_true hn).1
      unfold lo at this
      rw [if_neg h1k] at this
      split at this <;> omega
    obtain ⟨m, rfl⟩ := Int.eq_ofNat_of_zero_le hn0
    have HE : Hid (encP k m = V.encL m) := by show _ = _; unfold encP; rw [if_neg hk, if_neg h1k]; rfl
    have HS := Lib.hid (V.tnumber_any _ bt O l m h1 hO1 hb)
    have q1 : (k == 1) = false := by rw [beq_eq_false_iff_ne]; exact h1k
    have hm : (m : Int) ≤ 9223372036854775807 := h64.2
    have hw : IntKind.u64.wrap (m : Int) = (m : Int) := by simp [IntKind.wrap, IntKind.bits, IntKind.signed]; omega
    clear hk hn hO hb h h1 hO1 h1k h64
    unfold opV
    go_enter Tryz.func148, Tryz.ntmps148
    go_wp2_with fail
    refine HS.out.mono ?_
    rintro e w2 ⟨rfl, h2, k2⟩
    go_wp2
    go_end0
    rw [HE.out]
    refine ⟨rfl, h2.mono ?_, hK.mono (fun _ hf _ => hf.elim) |>.trans k2 (fun _ ho _ => ho)⟩
    rintro j (hj | ⟨hj1, hj2⟩) _
    · exact .inl hj
    · exact .inr ⟨by omega, hj2⟩

end Go.Proofs.YtbnekeomdhljhaaGreatDoor.O

namespace Go.Proofs.YtbnekeomdhljhaaGreatDoor.O
open Go.RowKit Go.Shelf
attribute [local go_sem] Oper.semAt_some

/-- The bytes of the operands that have come. -/
def bytesP (l : List (Int × Int)) : List UInt8 := l.flatMap fun x => encP x.1 x.2
theorem bytesP_snoc (l : List (Int × Int)) (x : Int × Int) : bytesP (l ++ [x]) = bytesP l ++ encP x.1 x.2 := by unfold bytesP; simp
theorem encP_0 (n : Int) : encP 0 n = [] := rfl
theorem bytesP_parts (ka kb a b : Int) (h : ka = 0 → kb = 0) : bytesP (partsL ka kb a b) = encP ka a ++ encP kb b := by
  unfold partsL bytesP
  split
  · rename_i hz
    rw [hz, h hz]; rfl
  · split
    · rename_i h2; rw [h2]; simp [encP_0]
    · simp
theorem encP_len (k n : Int) : (encP k n).length ≤ 9 := by
  unfold encP
  split
  · exact Nat.zero_le _
  · split <;> exact V.encL_len _
theorem bytesP_len : ∀ (l : List (Int × Int)), (bytesP l).length ≤ 9 * l.length
  | [] => Nat.zero_le _
  | x :: l => by
    have h1 := encP_len x.1 x.2
    have h2 := bytesP_len l
    have e : bytesP (x :: l) = encP x.1 x.2 ++ bytesP l := by unfold bytesP; simp
    rw [e]
    simp
    omega
theorem parts_in {ka kb a b : Int} {x : Int × Int} (h : x ∈ partsL ka kb a b) (ha : inK ka a = true) (hb : inK kb b = true) : inK x.1 x.2 = true := by
  unfold partsL at h
  split at h
  · cases h
  · split at h
    · simp at h; subst h; exact ha
    · simp at h
      rcases h with rfl | rfl
      · exact ha
      · exact hb

/-- What a Tape in the loop is. -/
def TapeI (w : World) (bt Bx Br : Nat) (xs : List UInt8) (op a b : Int) (r : Row) (W : World) : Prop :=
  ∃ O, V.TapeAt W bt O xs ∧ (∀ k, O k → CellsAt W k ∧ w.heap.size ≤ k ∧ k ≠ Bx ∧ k ≠ Br) ∧ Blk W Bx 74 #[.int .i64 op, .int .i64 a, .int .i64 b] ∧ Blk W Br 200 (cells9 r) ∧ Keep NoB w W
theorem tapeI_own {β : Type} {B : Nat} {w : World} (hB : w.heap.size ≤ B) (bt Bx Br : Nat) (xs : β → List UInt8) (op a b : Int) (r : Row) : OwnFrom B (fun s W => TapeI w bt Bx Br (xs s) op a b r W) := by
  rintro s X Y row ⟨O, h1, h2, h3, h4, h5⟩ hg hrow
  have hO : ∀ k, row = some k → ¬ O k := fun k e ho => by
    obtain ⟨cs, t, f, hc⟩ := (h2 k ho).1
    obtain ⟨_, o, ho', hn⟩ := hrow k e
    rw [hc] at ho'; cases ho'; cases hn
  refine ⟨O, tape_grown h1 hg hO, fun k ho => ⟨?_, (h2 k ho).2⟩, blk_own (β := Unit) _ _ _ (fun _ => _) () _ _ _ h3 hg hrow, blk_own (β := Unit) _ _ _ (fun _ => _) () _ _ _ h4 hg hrow, keep_own (β := Unit) NoB hB () _ _ _ h5 hg hrow⟩
  obtain ⟨cs, t, f, hc⟩ := (h2 k ho).1
  exact ⟨cs, t, f, (hg.block k (Array.getElem?_eq_some_iff.1 hc).1 (fun e => hO k e.symm ho)).trans hc⟩
theorem tapeI_keep {w : World} {bt Bx Br : Nat} {xs : List UInt8} {op a b : Int} {r : Row} {W W' : World} (h : TapeI w bt Bx Br xs op a b r W) (hk : Keep NoB W W') : TapeI w bt Bx Br xs op a b r W' :=
  tapeI_own (β := Unit) (Nat.le_refl _) bt Bx Br (fun _ => xs) op a b r () W W' none h hk.grows (fun _ e => by cases e)

/-- A round: the Tape with so much more. -/
theorem tapeI_wrote {w : World} {bt Bx Br B : Nat} {xs ys : List UInt8} {op a b : Int} {r : Row} {W W' : World} {O : Nat → Prop} (hO : ∀ k, O k → CellsAt W k ∧ w.heap.size ≤ k ∧ k ≠ Bx ∧ k ≠ Br)
    (h3 : Blk W Bx 74 #[.int .i64 op, .int .i64 a, .int .i64 b]) (h4 : Blk W Br 200 (cells9 r)) (h5 : Keep NoB w W) (ht : V.TapeAt W' bt (V.More O W W') ys) (hk : Keep O W W') (hxy : ys = xs) :
    TapeI w bt Bx Br xs op a b r W' ∧ KeepsFrom B W W' := by
  subst hxy
  have hx := h3.lt
  have hr := h4.lt
  refine ⟨⟨_, tape_cells ht, ?_, h3.keep hk (fun h => (hO _ h).2.2.1 rfl), h4.keep hk (fun h => (hO _ h).2.2.2 rfl), h5.trans hk (fun k h hl => by have := (hO k h).2.1; omega)⟩, ?_⟩
  · rintro k ⟨h | ⟨h, _⟩, hc⟩
    · exact ⟨hc, (hO k h).2⟩
    · have := h5.size
      exact ⟨hc, by omega, by omega, by omega⟩
  · refine ⟨hk.size, fun k o _ hh hn => (hk.block k (Array.getElem?_eq_some_iff.1 hh).1 (fun ho => ?_)).trans hh⟩
    obtain ⟨cs, t, f, hc⟩ := (hO k ho).1
    rw [hh] at hc; cases hc; cases hn

/-- The activation at the head of the loop's body. -/
def encAct (op a b : Int) (r : Row) (g h q : Nat) (x : Part) (Bo : Nat) : Act :=
  { tmps := #[instV op a b, .pointer (some ⟨g, 0, none⟩), .slice none 0 0, .int .i64 0, .pointer (some ⟨h, 0, none⟩), .bool true, .pointer (some ⟨h + 1, 0, none⟩), .pointer (some ⟨Bo, 0, none⟩), .int .i64 x.n, .tuple #[rowV r, .bool true],
      instV op a b, .tuple #[rowV r, .bool true], rowV r, .bool true, .bool true, .bool false, .pointer (some ⟨g, 0, none⟩), .int .i64 op, .int .u64 op, .pointer (some ⟨h + 1, 0, none⟩), rowV r, instV op a b,
      .func (.func 169) #[] #[.pointer (some ⟨q + 1, 0, none⟩), .pointer (some ⟨q, 0, none⟩)], .agg #[.int .i64 x.k, .int .i64 (lo x.k), .int .i64 (hi x.k), x.sh, x.gu], .int .i64 x.n,
      undef, undef, undef, undef], defers := [] }

set_option maxRecDepth 100000 in
set_option maxHeartbeats 4000000 in
theorem encode_yes (op a b : Int) (w : World) (hok : okI op a b = true) (ha : I64 a) (hb : I64 b) :
    Calls Tryz.prog 102 #[instV op a b] w fun e w' => ∃ v, e = .returned (.tuple #[v, .int .i64 0]) ∧ V.OwnB w' (Fresh w) v (bytesI op a b) ∧ Keep NoB w w' := by
  obtain ⟨r, hr⟩ : ∃ r, rowAt op = r := ⟨_, rfl⟩
  have hka := kinds_ok op
  have hkn := kinds_none op
  obtain ⟨ho, hia, hib⟩ := ok_op hok
  obtain ⟨m, rfl⟩ := Int.eq_ofNat_of_zero_le (isOp_yes ho).1
  have hm : m < 30 := by have := (isOp_yes ho).2; omega
  have HT : Hid (bytesI m a b = V.encL m ++ bytesP (partsL r.ka r.kb a b)) := by show _ = _; unfold bytesI; rw [hr, bytesP_parts _ _ _ _ (hr ▸ hkn)]; rfl
  have HR := Lib.hid (fun w => rowFor_any m a b r w (by rw [rowR_ok hok]; exact hr))
  rw [hr] at hka hia hib
  rw [hok] at HR
  have HA := Lib.hid (And.intro ha hia)
  have HB := Lib.hid (And.intro hb hib)
  have hw64 : IntKind.u64.wrap (m : Int) = (m : Int) := by simp [IntKind.wrap, IntKind.bits, IntKind.signed]; omega
  clear hok hr hkn ha hb ho hia hib
  refine (callsIn_wide (n := 4)).1 ?_
  refine callsIn_of_wp_marks Tryz.func102 rfl trivial ?_ rfl
  simp only [Tryz.ntmps102, List.size_toArray, List.length_cons, List.length_nil, Nat.reduceAdd, Nat.reduceSub, Array.replicate_succ, Array.replicate_zero, List.push_toArray, List.append_toArray, List.nil_append, List.cons_append]
  gi_wp2_with (refine ⟨trivial, ?_⟩; gi_at_call 146; refine (callsIn_wide.2 (HR.out _)).mono ?_; rintro e w1 ⟨rfl, k1⟩; have bi := (Blk.new w 74 #[.int .i64 m, .int .i64 a, .int .i64 b]).keep k1 id; have i0 : ∀ o o', ((w1.alloc o).alloc o').cell? ⟨w.heap.size, 0, none⟩ = some (.int .i64 m) := fun o o' => ((bi.alloc o).alloc o').cell 0)
  have ht := V.TapeAt.new (w1.alloc (.cells (cells9 r) 200))
  rw [World.size_alloc] at ht
  have hl0 := V.encL_len m
  refine ⟨trivial, ?_⟩
  refine (callsIn_wide.2 (V.tnumber_any _ (w1.heap.size + 1) _ [] m ht (fun k e => by subst e; simp) (by simp))).mono ?_
  rintro e w2 ⟨rfl, ht2, k2⟩
  have hsz : w.heap.size < w1.heap.size := by have := k1.size; simp at this; omega
  have hs2 : w1.heap.size + 1 < w2.heap.size := by have := k2.size; simp at this; omega
  have bi2 := ((bi.alloc (.cells (cells9 r) 200)).alloc (.cells #[.pointer none, .int .i64 0] 146)).keep k2 (by omega)
  have br2 := ((Blk.new w1 200 (cells9 r)).alloc (.cells #[.pointer none, .int .i64 0] 146)).keep k2 (by omega)
  have hK2 : Keep NoB w w2 := ((keepN ((Keep.refl NoB w).alloc _) k1).alloc _ |>.alloc _).trans k2 (fun k e hl => by omega)
  obtain ⟨c0, c1, c2, c3, c4, c5, c6, c7, c8⟩ := blk9 br2
  have d0 : w2.cell? ⟨w.heap.size, 0, none⟩ = some (.int .i64 m) := bi2.cell 0
  have d1 : w2.cell? ⟨w.heap.size, 1, none⟩ = some (.int .i64 a) := bi2.cell 1
  have d2 : w2.cell? ⟨w.heap.size, 2, none⟩ = some (.int .i64 b) := bi2.cell 2
  have HT2 := Lib.hid ht2
  clear ht2 ht bi i0 bi2 br2 k1 k2
  gi_wp2_with (refine ⟨trivial, ?_⟩; gi_at_call 147; refine (callsIn_wide.2 (parts_any r m a b _)).mono ?_; rintro e w3 ⟨rfl, br, bx, k3⟩)
  have hK3 : Keep NoB w w3 := keepN hK2 k3
  have hI0 : TapeI w (w1.heap.size + 1) (w2.heap.size + 1) w2.heap.size (V.encL m ++ bytesP (([] : List Part).map Part.key)) m a b r w3 := by
    have h1 := tape_cells HT2.out
    have h2 := h1.keep k3 (fun _ _ => id)
    refine ⟨_, by simpa [bytesP] using h2, ?_, bx, br, hK3⟩
    rintro k ⟨hk, hc⟩
    have hlt := hc.lt
    obtain ⟨cs, t, f, hh⟩ := hc
    refine ⟨⟨cs, t, f, (k3.block k hlt id).trans hh⟩, ?_, by omega, by omega⟩
    rcases hk with rfl | ⟨hk, _⟩
    · omega
    · simp at hk; omega
  clear c0 c1 c2 c3 c4 c5 c6 c7 c8 d0 d1 d2 HT2 hs2 hw64 HR
  have hI : OwnFrom w3.heap.size (fun (pre : List Part) W => TapeI w (w1.heap.size + 1) (w2.heap.size + 1) w2.heap.size (V.encL m ++ bytesP (pre.map Part.key)) m a b r W) :=
    tapeI_own hK3.size (w1.heap.size + 1) (w2.heap.size + 1) w2.heap.size (fun pre : List Part => V.encL m ++ bytesP (pre.map Part.key)) m a b r
  refine wpIn_rangeFunc_brings (m := 2) (gf := 169) (lb := #[.pointer (some ⟨w2.heap.size + 1, 0, none⟩), .pointer (some ⟨w2.heap.size, 0, none⟩)]) rfl (enters_of Tryz.func169 (by kernel_rfl) rfl)
    (parts1_in 2 r m a b (w2.heap.size + 1) w2.heap.size ⟨hka.1, hka.2.1⟩ hka.2.2 (fun pre W => TapeI w (w1.heap.size + 1) (w2.heap.size + 1) w2.heap.size (V.encL m ++ bytesP (pre.map Part.key)) m a b r W)
      (fun pre W ⟨_, _, _, h, _⟩ => h) (fun pre W ⟨_, _, _, _, h, _⟩ => h)) (fun _ => rfl) hI hI0
    (fun pre x a' W => TapeI w (w1.heap.size + 1) (w2.heap.size + 1) w2.heap.size (V.encL m ++ bytesP (pre.map Part.key)) m a b r W ∧ (∃ post, pre.map Part.key ++ x.key :: post = partsL r.ka r.kb a b) ∧ ∃ Bo, Blk W Bo 209 #[.int .i64 x.k, .int .i64 (lo x.k), .int .i64 (hi x.k), x.sh, x.gu] ∧ a' = encAct m a b r w.heap.size w1.heap.size w2.heap.size x Bo) ?hax ?assign ?body ?done
  case hax =>
    rintro pre x a' s X Y row ⟨h1, h2, Bo, h5, h6⟩ hg hrow
    exact ⟨hI _ _ _ _ h1 hg hrow, h2, Bo, blk_own (β := Unit) _ _ _ (fun _ => _) () _ _ _ h5 hg hrow, h6⟩
  case assign =>
    rintro l pre ⟨k, n, sh, gu⟩ W hi hen
    have hk0 := (part_facts hen HA.out.1 HB.out.1).1
    have hen2 := Lib.hid hen.1
    have hi2 := Lib.hid hi
    rcases hen.2 with ⟨h0, _⟩ | ⟨_, h1, h2⟩ | ⟨_, b1, c1, h1, h2, _, _⟩
    · exact absurd h0 hk0
    all_goals
      simp only at h1 h2
      subst h1 h2
      clear hen hi
      dsimp only [partE, opV]
      gi_wp2
      exact ⟨⟨tapeI_keep hi2.out ((Keep.refl NoB W).alloc _), hen2.out, W.heap.size, Blk.new W _ _, rfl⟩, keepsFrom_keep ((Keep.refl NoB W).alloc _)⟩
  case body =>
    rintro l pre ⟨k, n, sh, gu⟩ a' W ⟨⟨O, ht, hO, bx2, br2, hKW⟩, hen, Bo, bo, rfl⟩
    obtain ⟨post, hp⟩ := hen
    have hmem : ((k, n) : Int × Int) ∈ partsL r.ka r.kb a b := by rw [← hp]; simp [Part.key]
    have hk0 : k ≠ 0 := (parts_mem hmem).1
    have hn64 : -9223372036854775808 ≤ n ∧ n ≤ 9223372036854775807 := by
      rcases (parts_mem hmem).2 with e | e
      · simp only at e; rw [e]; exact HA.out.1
      · simp only at e; rw [e]; exact HB.out.1
    have hin : inK k n = true := parts_in hmem HA.out.2 HB.out.2
    have hl1 := bytesP_len (pre.map Part.key)
    have hl2 := congrArg List.length hp
    have hl3 := parts_len r.ka r.kb a b
    simp at hl1 hl2
    have HC := Lib.hid (write_any k n sh gu (w1.heap.size + 1) O (V.encL m ++ bytesP (pre.map Part.key)) W hk0 hin hn64 ht (fun j hj => (hO j hj).1.lt) (by rw [List.length_append]; omega))
    have o0 : W.cell? ⟨Bo, 0, none⟩ = some (.int .i64 k) := bo.cell 0
    have o1 : W.cell? ⟨Bo, 1, none⟩ = some (.int .i64 (lo k)) := bo.cell 1
    have o2 : W.cell? ⟨Bo, 2, none⟩ = some (.int .i64 (hi k)) := bo.cell 2
    have o3 : W.cell? ⟨Bo, 3, none⟩ = some sh := bo.cell 3
    have o4 : W.cell? ⟨Bo, 4, none⟩ = some gu := bo.cell 4
    have HX : Hid ((V.encL m ++ bytesP (pre.map Part.key)) ++ encP k n = V.encL m ++ bytesP (pre.map Part.key ++ [(⟨k, n, sh, gu⟩ : Part).key])) := by
      show _ = _
      rw [bytesP_snoc, List.append_assoc]
      rfl
    have HE := Lib.hid (fun (W' : World) (h1 : V.TapeAt W' (w1.heap.size + 1) (V.More O W W') ((V.encL m ++ bytesP (pre.map Part.key)) ++ encP k n)) (h2 : Keep O W W') => tapeI_wrote (B := w3.heap.size) hO bx2 br2 hKW h1 h2 HX.out)
    clear hp hmem hk0 hn64 hin hl1 hl2 hl3 ht hO bx2 br2 hKW bo HX
    dsimp only [encAct]
    gi_wp2_with (refine ⟨trivial, ?_⟩; gi_at_call 148; refine (CallsIn.inRound l (callsIn_wide.2 HC.out)).mono ?_; rintro e w4 ⟨rfl, h4, k4⟩)
    exact HE.out _ h4 k4
  case done =>
    rintro D xs W hD hS ⟨O, ht, hO, _, _, hKW⟩ hK
    rw [hS, ← HT.out] at ht
    have hlen : (bytesI m a b).length ≤ 140737488355328 := by
      have h1 := bytesP_len (partsL r.ka r.kb a b)
      have h2 := parts_len r.ka r.kb a b
      rw [HT.out, List.length_append]; omega
    have HC := Lib.hid (V.all_any W (w1.heap.size + 1) O (bytesI m a b) ht hlen)
    clear ht hO hlen
    gi_wp2_with (refine ⟨trivial, ?_⟩; gi_at_call 97; refine (callsIn_wide.2 HC.out).mono ?_; rintro e w4 ⟨v, rfl, h4, k4⟩)
    have hK4 := (k4.block _ (Array.getElem?_eq_some_iff.1 hK).1 id).trans hK
    refine ⟨by simp, .inl ⟨_, _, rfl, run_takeDeferred hK4, ?_⟩⟩
    exact ⟨_, results_tmp2 rfl _ _ _, v, rfl, ⟨ownsRow_putObj h4.1 _ hK4 rfl, fun g e => Nat.le_trans hKW.size (h4.2 g e)⟩, Keep_putObj (keepN hKW k4) (Nat.le_trans hK3.size hD)⟩

end Go.Proofs.YtbnekeomdhljhaaGreatDoor.O

namespace Go.Proofs.YtbnekeomdhljhaaGreatDoor.O
open Go.RowKit

set_option maxHeartbeats 1000000 in
theorem encode_any (op a b : Int) (w : World) (ha : I64 a) (hb : I64 b) :
    Calls Tryz.prog 102 #[instV op a b] w fun e w' => ∃ v, e = .returned (.tuple #[v, .int .i64 (chk op a b)]) ∧ V.OwnB w' (Fresh w) v (encI op a b) ∧ Keep NoB w w' := by
  cases hok : okI op a b
  · have hK := (Keep.refl NoB w).alloc (.cells #[.int .i64 op, .int .i64 a, .int .i64 b] 74)
    have HR := Lib.hid (fun w => rowFor_any op a b row0 w (rowR_no hok))
    rw [hok] at HR
    have HX : Hid (encI op a b = [] ∧ chk op a b = 40) := ⟨by unfold encI; rw [if_neg (by rw [hok]; decide)], by unfold chk; rw [if_neg (by rw [hok]; decide)]⟩
    clear hok ha hb
    go_enter Tryz.func102, Tryz.ntmps102
    go_wp2_with fail
    refine (HR.out _).mono ?_
    rintro e w1 ⟨rfl, k1⟩
    go_wp2
    go_ret2
    rw [HX.out.1, HX.out.2]
    exact ⟨_, rfl, V.OwnB.nil _ _, (keepN hK k1).alloc _⟩
  · refine (encode_yes op a b w hok ha hb).mono ?_
    rintro e w' ⟨v, rfl, hv, hk⟩
    refine ⟨v, ?_, ?_, hk⟩
    · unfold chk; rw [if_pos hok]
    · unfold encI; rw [if_pos hok]; exact hv

theorem al_0 : showI 1 (-5) 0 = [105, 110, 116, 32, 45, 53] := by decide +kernel
theorem al_1 : showI 9 2 1 = [103, 101, 116, 32, 50, 32, 73] := by decide +kernel
theorem al_2 : showI 15 3 0 = [98, 105, 110, 32, 100, 105, 118] := by decide +kernel
theorem al_3 : showI 19 17 0 = [106, 122, 32, 49, 55] := by decide +kernel
theorem al_4 : encI 1 (-5) 0 = [1, 9] := by decide +kernel
theorem al_5 : encI 9 2 1 = [9, 2, 1] := by decide +kernel

end Go.Proofs.YtbnekeomdhljhaaGreatDoor.O

namespace Go.Proofs.YtbnekeomdhljhaaGreatDoor.O
open Go.RowKit

theorem own_app {w w1 w2 : World} {v v' : Value} {l m : List UInt8} (hv : V.OwnB w1 (Fresh w) v l) (hk : Keep NoB w w1) (hown : w2.ownsRow 0 5 1 v' (l ++ m).length (V.bvs (l ++ m))) (hg : w1.grownBy w2 v.ownBlock)
    (hat : v'.ownBlock = v.ownBlock ∨ v'.ownBlock = some w1.heap.size) : V.OwnB w2 (Fresh w) v' (l ++ m) ∧ Keep NoB w w2 := by
  refine ⟨⟨hown, fun g e => ?_⟩, hk.grown hg (fun g e hlt => by have := hv.2 g e; unfold Fresh at this; omega)⟩
  rcases hat with h | h
  · rw [h] at e; exact hv.2 g e
  · rw [h] at e
    injection e with e
    subst e
    exact hk.size
theorem own_keep {w w1 w2 : World} {v : Value} {l : List UInt8} (hv : V.OwnB w1 (Fresh w) v l) (hk : Keep NoB w1 w2) : V.OwnB w2 (Fresh w) v l := hv.keep hk (fun _ _ => id)

theorem nat_of {k n : Int} (h1 : k ≠ 1) (h : inK k n = true) : ∃ m : Nat, n = (m : Int) ∧ m ≤ 511 := by
  have := (in_bounds h).2.1 h1
  exact ⟨n.toNat, by omega, by omega⟩
theorem wrap_u64 {m : Nat} (h : m ≤ 511) : IntKind.u64.wrap (m : Int) = (m : Int) := by simp [IntKind.wrap, IntKind.bits, IntKind.signed]; omega

theorem kind_one (op : Int) : (rowAt op).ka = 1 → (rowAt op).kb = 0 := by
  have := rowAt_all (p := fun r => decide (r.ka = 1 → r.kb = 0)) (by decide) (by decide) op
  exact of_decide_eq_true this
theorem kind_two (op : Int) : (rowAt op).kb ≠ 1 := by
  have := rowAt_all (p := fun r => decide (r.kb ≠ 1)) (by decide) (by decide) op
  simpa using this

set_option maxHeartbeats 2000000 in
theorem rbytes_any (op a b : Int) (w : World) (hok : okI op a b = true) :
    Calls Tryz.prog 150 #[instV op a b] w fun e w' => ∃ v, e = .returned v ∧ V.OwnB w' (Fresh w) v (bytesI op a b) ∧ Keep NoB w w' := by
  obtain ⟨ho, hA, hB⟩ := ok_op hok
  have hb := isOp_yes ho
  obtain ⟨o, rfl⟩ := Int.eq_ofNat_of_zero_le hb.1
  have hwo := wrap_u64 (m := o) (by omega)
  have HO := Lib.hid (fun w => V.refnum_any o w (by show _ < _; omega))
  have HK := Lib.hid (fun w => rkinds_any (o : Int) w)
  have hkk := kinds_ok (o : Int)
  have hkn := kinds_none (o : Int)
  have HX : Hid (bytesI o a b = V.encL o ++ (encP (rowAt o).ka a ++ encP (rowAt o).kb b)) := rfl
  have hl1 := V.encL_len o
  have hk1 := kind_one (o : Int)
  have hkb := kind_two (o : Int)
  clear ho hok hb
  generalize (rowAt (o : Int)).ka = ka at *
  generalize (rowAt (o : Int)).kb = kb at *
  have bx0 := Blk.new w 74 #[.int .i64 o, .int .i64 a, .int .i64 b]
  have gK := (Keep.refl NoB w).alloc (.cells #[.int .i64 o, .int .i64 a, .int .i64 b] 74)
  by_cases h0 : ka = 0
  · have h00 := hkn h0
    subst h0 h00
    have HX2 : Hid (bytesI o a b = V.encL o) := by show _ = _; rw [HX.out]; simp [encP_0]
    clear HX hA hB hkk hkn hk1 hkb
    go_enter Tryz.func150, Tryz.ntmps150
    go_wp2_with fail
    refine (HO.out _).mono ?_
    rintro e w1 ⟨v, rfl, hv, k1⟩
    obtain ⟨x0, x1, x2⟩ := blk_inst (bx0.keep k1 id)
    go_wp2_with fail
    refine (HK.out _).mono ?_
    rintro e w2 ⟨rfl, rfl⟩
    go_wp2
    go_ret
    rw [HX2.out]
    exact ⟨v, rfl, hv.mono (fun k hk _ => by unfold Fresh at hk ⊢; simp at hk; omega), keepN gK k1⟩
  · have q0 : decide (0 < ka) = true := by rw [decide_eq_true_iff]; omega
    by_cases h1 : ka = 1
    · subst h1
      have h00 := hk1 rfl
      subst h00
      have HX2 : Hid (bytesI o a b = V.encL o ++ V.encL (V.zig a)) := by show _ = _; rw [HX.out]; unfold encP; simp
      have hb1 := in_bounds hA
      have HZ := Lib.hid (fun w => V.rzig_any a w hb1.1.1 hb1.1.2)
      have HN := Lib.hid (fun w => V.refnum_any (V.zig a) w (V.zig_lt a hb1.1.1 hb1.1.2))
      have hl2 := V.encL_len (V.zig a)
      clear HX hA hB hkk hkn hk1 hb1 h0
      go_enter Tryz.func150, Tryz.ntmps150
      go_wp2_with fail
      refine (HO.out _).mono ?_
      rintro e w1 ⟨v, rfl, hv, k1⟩
      have bx := bx0.keep k1 id
      have hv : V.OwnB w1 (Fresh w) v (V.encL o) := hv.mono (fun k hk _ => by unfold Fresh at hk ⊢; simp at hk; omega)
      replace gK := keepN gK k1
      obtain ⟨x0, x1, x2⟩ := blk_inst bx
      go_wp2_with fail
      refine (HK.out _).mono ?_
      rintro e w2 ⟨rfl, rfl⟩
      go_wp2_with fail
      refine (HZ.out _).mono ?_
      rintro e w2 ⟨rfl, rfl⟩
      go_wp2_with fail
      refine (HN.out _).mono ?_
      rintro e w3 ⟨v2, rfl, hv2, k2⟩
      obtain ⟨A2, c2, rfl, _, hr2, _, _⟩ := hv2.form
      have hv3 := own_keep hv k2
      replace gK := keepN gK k2
      go_wp2_with (at_builtin; refine V.wpList_append_rd _ rfl _ _ rfl v (V.encL o) (V.encL (V.zig a)) A2 c2 rfl hv3.1 rfl hr2 (by omega) ?_; intro v' w4 hown' hg hat)
      go_ret
      rw [HX2.out]
      have := own_app hv3 gK hown' hg hat
      exact ⟨v', rfl, this.1, this.2⟩
    · have q1 : (ka == 1) = false := by rw [beq_eq_false_iff_ne]; exact h1
      obtain ⟨m, rfl, hm⟩ := nat_of h1 hA
      have hwm := wrap_u64 hm
      have HN := Lib.hid (fun w => V.refnum_any m w (by show _ < _; omega))
      have hl2 := V.encL_len m
      have e1 : encP ka (m : Int) = V.encL m := by unfold encP; rw [if_neg h0, if_neg h1]; simp
      by_cases h2 : kb = 0
      · subst h2
        have HX2 : Hid (bytesI o (m : Int) b = V.encL o ++ V.encL m) := by show _ = _; rw [HX.out, e1, encP_0]; simp
        clear HX hA hB hkk hkn hk1 h0 h1 e1 hm
        go_enter Tryz.func150, Tryz.ntmps150
        go_wp2_with fail
        refine (HO.out _).mono ?_
        rintro e w1 ⟨v, rfl, hv, k1⟩
        have bx := bx0.keep k1 id
        have hv : V.OwnB w1 (Fresh w) v (V.encL o) := hv.mono (fun k hk _ => by unfold Fresh at hk ⊢; simp at hk; omega)
        replace gK := keepN gK k1
        obtain ⟨x0, x1, x2⟩ := blk_inst bx
        go_wp2_with fail
        refine (HK.out _).mono ?_
        rintro e w2 ⟨rfl, rfl⟩
        go_wp2_with fail
        refine (HN.out _).mono ?_
        rintro e w3 ⟨v2, rfl, hv2, k2⟩
        obtain ⟨A2, c2, rfl, _, hr2, _, _⟩ := hv2.form
        have hv3 := own_keep hv k2
        replace gK := keepN gK k2
        go_wp2_with (at_builtin; refine V.wpList_append_rd _ rfl _ _ rfl v (V.encL o) (V.encL m) A2 c2 rfl hv3.1 rfl hr2 (by omega) ?_; intro v' w4 hown' hg hat)
        go_ret
        rw [HX2.out]
        have := own_app hv3 gK hown' hg hat
        exact ⟨v', rfl, this.1, this.2⟩
      · have hkb1 : kb ≠ 1 := hkb
        obtain ⟨n, rfl, hn⟩ := nat_of hkb1 hB
        have hwn := wrap_u64 hn
        have q2 : decide (0 < kb) = true := by rw [decide_eq_true_iff]; omega
        have HN2 := Lib.hid (fun w => V.refnum_any n w (by show _ < _; omega))
        have hl3 := V.encL_len n
        have e2 : encP kb (n : Int) = V.encL n := by unfold encP; rw [if_neg h2, if_neg hkb1]; simp
        have HX2 : Hid (bytesI o (m : Int) (n : Int) = (V.encL o ++ V.encL m) ++ V.encL n) := by show _ = _; rw [HX.out, e1, e2]; simp
        clear HX hA hB hkk hkn hk1 h0 h1 e1 e2 hm hn h2 hkb hkb1
        go_enter Tryz.func150, Tryz.ntmps150
        go_wp2_with fail
        refine (HO.out _).mono ?_
        rintro e w1 ⟨v, rfl, hv, k1⟩
        have bx := bx0.keep k1 id
        have hv : V.OwnB w1 (Fresh w) v (V.encL o) := hv.mono (fun k hk _ => by unfold Fresh at hk ⊢; simp at hk; omega)
        replace gK := keepN gK k1
        obtain ⟨x0, x1, x2⟩ := blk_inst bx
        go_wp2_with fail
        refine (HK.out _).mono ?_
        rintro e w2 ⟨rfl, rfl⟩
        go_wp2_with fail
        refine (HN.out _).mono ?_
        rintro e w3 ⟨v2, rfl, hv2, k2⟩
        obtain ⟨A2, c2, rfl, _, hr2, _, _⟩ := hv2.form
        have hv3 := own_keep hv k2
        have bx2 := bx.keep k2 id
        replace gK := keepN gK k2
        clear x0 x1 x2
        go_wp2_with (at_builtin; refine V.wpList_append_rd _ rfl _ _ rfl v (V.encL o) (V.encL m) A2 c2 rfl hv3.1 rfl hr2 (by omega) ?_; intro v' w4 hown' hg hat; have hap := own_app hv3 gK hown' hg hat; have hne : some w.heap.size ≠ v.ownBlock := (hv3.not_blk bx2 (by decide)).symm; have bx4 := bx2.grown hg hne; obtain ⟨x0, x1, x2⟩ := blk_inst bx4)
        go_wp2_with fail
        refine (HN2.out _).mono ?_
        rintro e w5 ⟨v5, rfl, hv5, k5⟩
        obtain ⟨A5, c5, rfl, _, hr5, _, _⟩ := hv5.form
        have hv6 := own_keep hap.1 k5
        have gK6 := keepN hap.2 k5
        go_wp2_with (at_builtin; refine V.wpList_append_rd _ rfl _ _ rfl v' (V.encL o ++ V.encL m) (V.encL n) A5 c5 rfl hv6.1 rfl hr5 (by simp; omega) ?_; intro v7 w7 hown7 hg7 hat7)
        go_ret
        rw [HX2.out]
        have := own_app hv6 gK6 hown7 hg7 hat7
        exact ⟨v7, rfl, this.1, this.2⟩

end Go.Proofs.YtbnekeomdhljhaaGreatDoor.O

namespace Go.Proofs.YtbnekeomdhljhaaGreatDoor.C
open Go.RowKit O

theorem bytesI_len (op a b : Int) : (bytesI op a b).length ≤ 27 := by
  unfold bytesI
  have h1 := V.encL_len op.toNat
  have h2 := encP_len (O.rowAt op).ka a
  have h3 := encP_len (O.rowAt op).kb b
  rw [List.length_append, List.length_append]
  omega
theorem byt_len : ∀ (l : List I3), (byt l).length ≤ 27 * l.length
  | [] => Nat.zero_le _
  | x :: l => by
    have h1 := bytesI_len x.1 x.2.1 x.2.2
    have h2 := byt_len l
    have e : byt (x :: l) = bytesI x.1 x.2.1 x.2.2 ++ byt l := rfl
    rw [e, List.length_append]
    simp only [List.length_cons]; omega
theorem wrap_n {n : Nat} (h : n ≤ 512) : IntKind.u64.wrap (n : Int) = (n : Int) := by simp [IntKind.wrap, IntKind.bits, IntKind.signed]; omega
theorem encB_ok {l : List I3} (h : okB l = true) : encB l = bytesB l := if_pos h
theorem encB_no {l : List I3} (h : okB l = false) : encB l = [] := if_neg (by rw [h]; decide)
theorem enc_one (op a b : Int) (w : World) (h : okI op a b = true) (ha : O.I64 a) (hb : O.I64 b) :
    Calls Tryz.prog 102 #[instV op a b] w fun e w' => ∃ v, e = .returned (.tuple #[v, .int .i64 0]) ∧ V.OwnB w' (Fresh w) v (bytesI op a b) ∧ Keep NoB w w' :=
  encode_yes op a b w h ha hb
/-- How Encode ends. -/
def EncR (w : World) (bs : List UInt8) (E : Int) (e : Ending) (w' : World) : Prop := ∃ v, e = .returned (.tuple #[v, .int .i64 E]) ∧ V.OwnB w' (Fresh w) v bs ∧ Keep NoB w w'
theorem encR_none {w w' : World} {E : Int} (h : Keep NoB w w') : EncR w [] E (.returned (.tuple #[.slice none 0 0, .int .i64 E])) w' := ⟨_, rfl, V.OwnB.nil _ _, h⟩
theorem ownB_older {w w0 w' : World} {v : Value} {l : List UInt8} (h : V.OwnB w' (Fresh w0) v l) (hk : Keep NoB w w0) : V.OwnB w' (Fresh w) v l := h.mono (fun _ hf _ => Nat.le_trans hk.size hf)

set_option maxRecDepth 100000 in
set_option maxHeartbeats 4000000 in
theorem cencode_any (A : Option Addr) (l : List I3) (n c : Nat) (w : World) (hr : Rd w A (iis l)) (hn : Hid (l.length = n)) (hI : Hid (AllI l)) (hm : n ≤ 9223372036854775807) :
    Calls Tryz.prog 48 #[.slice A n c] w (EncR w (encB l) (chkB l)) := by
  have hr0 := Lib.hid hr
  cases ho : okB l
  · rw [encB_no ho, chkB_no ho]
    have HC := Lib.hid (fun w hr => cchk_any A l n c w hr hn hm 50 (chkB_no ho))
    clear ho hr
    go_enter Tryz.func48, Tryz.ntmps48
    go_wp2_with (go_at_call 73; refine (HC.out _ hr0.out).mono ?_; rintro e w1 ⟨rfl, k1⟩)
    go_ret2
    exact encR_none k1
  · rw [encB_ok ho, chkB_ok ho]
    obtain ⟨h1, h5, _, hall⟩ := okB_parts ho
    rw [hn.out] at h1 h5
    have HC := Lib.hid (fun w hr => cchk_any A l n c w hr hn hm 0 (chkB_ok ho))
    have HA : Hid (∀ (k : Nat) (hk : k < l.length), okI l[k].1 l[k].2.1 l[k].2.2 = true) := fun k hk => (item_parts (okB_at ho hk)).1
    have HB : Hid (bytesB l = V.encL n ++ byt l) := by show _ = _; unfold bytesB; rw [hn.out]
    have hw64 := wrap_n h5
    have hl0 := V.encL_len n
    clear ho hr hall
    go_enter Tryz.func48, Tryz.ntmps48
    go_wp2_with fail
    refine (HC.out _ hr0.out).mono ?_
    rintro e w1 ⟨rfl, k1⟩
    have ht := V.TapeAt.new w1
    have hr1 := Lib.hid (hr0.out.keepN (k1.alloc (.cells #[.pointer none, .int .i64 0] 146)))
    have gK := k1.alloc (.cells #[.pointer none, .int .i64 0] 146)
    have hsz : w.heap.size ≤ w1.heap.size := k1.size
    go_wp2_with fail
    refine (V.tnumber_any _ w1.heap.size _ [] n ht (fun k e => by subst e; simp) (by simp)).mono ?_
    rintro e w2 ⟨rfl, ht2, k2⟩
    replace gK := gK.trans k2 (fun k e hl => by omega)
    have hr2 := Lib.hid (hr1.out.keep k2 (fun ad e ho => by
      have hlt : 0 < (iis l).length := by rw [iis_length, hn.out]; omega
      obtain ⟨g, off, e2, hc⟩ := hr0.out hlt
      rw [e2] at e; cases e
      obtain ⟨u, hu⟩ : ∃ u, (iis l)[0]? = some u := ⟨_, List.getElem?_eq_getElem hlt⟩
      have := World.block_lt_of_cell? w _ (hc 0 u hu)
      simp at this ho; omega))
    clear hr1 ht k1 k2
    rw [List.nil_append] at ht2
    go_wp2_with (go_at_call 97; refine (V.all_any w2 w1.heap.size _ (V.encL n) ht2 (by omega)).mono ?_; rintro e w3 ⟨v3, rfl, h3, k3⟩)
    have h3' := ownB_older h3 gK
    replace gK := keepN gK k3
    have hr3 := Lib.hid (hr2.out.keepN k3)
    clear ht2 h3 k3 hr2 hsz HC
    have gsz := gK.size
    go_loopw [5, 20] (fun v i wr => ∃ k : Nat, k ≤ n ∧ i = .int .i64 k ∧ V.OwnB wr (Fresh w) v (V.encL n ++ byt (l.take k)) ∧ Keep NoB w wr) (fun _ i _ => n - (intOf i).toNat)
    case atStart => exact ⟨0, Nat.zero_le _, rfl, by rw [List.take_zero]; simpa [byt] using h3', gK⟩
    case round =>
      obtain ⟨k, hk, rfl, hO, hK⟩ := hrel
      have hR := hr0.out.keepN hK
      clear h3' gK gsz hr3
      by_cases hlt : k < n
      · have hkl : k < l.length := by rw [hn.out]; exact hlt
        obtain ⟨g, off, rfl, hc⟩ := rdJ_at hR (by omega)
        obtain ⟨c0, c1, c2⟩ := hc k hkl
        have HT := Lib.hid (show l.take (k + 1) = l.take k ++ [l[k]] from List.take_succ_eq_append_getElem hkl)
        have hab := hI.out l[k] (List.getElem_mem hkl)
        have hok := HA.out k hkl
        have hl1 := byt_len (l.take k)
        rw [List.length_take] at hl1
        clear hc
        generalize l[k] = x at c0 c1 c2 HT hab hok
        obtain ⟨op, a, b⟩ := x
        dsimp only at c0 c1 c2 hab hok
        have HE := Lib.hid (fun w => enc_one op a b w hok hab.1 hab.2)
        have HX : Hid ((V.encL n ++ byt (l.take k)) ++ bytesI op a b = V.encL n ++ byt (l.take (k + 1))) := by show _ = _; rw [HT.out, byt_snoc, List.append_assoc]
        have hl2 := bytesI_len op a b
        have hl3 : (V.encL n ++ byt (l.take k)).length ≤ 20000 := by rw [List.length_append]; omega
        have hO1 := own_keep hO ((Keep.refl NoB wr).alloc (.cells #[.int .i64 op, .int .i64 a, .int .i64 b] 74))
        have hK1 := hK.alloc (.cells #[.int .i64 op, .int .i64 a, .int .i64 b] 74)
        have hR1 := hR.keepN ((Keep.refl NoB wr).alloc (.cells #[.int .i64 op, .int .i64 a, .int .i64 b] 74))
        clear hab hok HT hl1 hO hK hR hl0
        go_wp2_with fail
        refine (HE.out _).mono ?_
        rintro e w4 ⟨v4, rfl, h4, k4⟩
        obtain ⟨A4, c4, rfl, _, hr4, _, _⟩ := h4.form
        have hO2 := own_keep hO1 k4
        have hK2 := keepN hK1 k4
        have hR2 := hR1.keepN k4
        clear h4 k4 hO1 hK1 hR1 c0 c1 c2
        go_wp2_with (at_builtin; refine V.wpList_append_rd _ rfl _ _ rfl _ (V.encL n ++ byt (l.take k)) (bytesI op a b) A4 c4 rfl hO2.1 rfl hr4 (by omega) ?_; intro v5 w5 hown hg hat; obtain ⟨hO3, hK3⟩ := own_app hO2 hK2 hown hg hat; rw [HX.out] at hO3; clear hown hg hat)
        go_roundw
        case rel => exact ⟨k + 1, by omega, by go_num, hO3, hK3⟩
        case measure => simp [intOf]; omega
      · obtain rfl : k = n := by omega
        rw [List.take_of_length_le (by rw [hn.out]; omega), ← HB.out] at hO
        go_wp2
        go_ret2
        exact ⟨_, rfl, hO, hK⟩

end Go.Proofs.YtbnekeomdhljhaaGreatDoor.C

namespace Go.Proofs.YtbnekeomdhljhaaGreatDoor.C
open Go.RowKit O

theorem rb_one (op a b : Int) (w : World) (h : okI op a b = true) :
    Calls Tryz.prog 150 #[instV op a b] w fun e w' => ∃ v, e = .returned v ∧ V.OwnB w' (Fresh w) v (bytesI op a b) ∧ Keep NoB w w' := O.rbytes_any op a b w h

set_option maxRecDepth 100000 in
set_option maxHeartbeats 4000000 in
theorem rcbytes_any (A : Option Addr) (l : List I3) (n c : Nat) (w : World) (hr : Rd w A (iis l)) (hn : Hid (l.length = n)) (ho : okB l = true) :
    Calls Tryz.prog 105 #[.slice A n c] w fun e w' => ∃ v, e = .returned v ∧ V.OwnB w' (Fresh w) v (bytesB l) ∧ Keep NoB w w' := by
  have hr0 := Lib.hid hr
  obtain ⟨h1, h5, _, hall⟩ := okB_parts ho
  rw [hn.out] at h1 h5
  have HA : Hid (∀ (k : Nat) (hk : k < l.length), okI l[k].1 l[k].2.1 l[k].2.2 = true) := fun k hk => (item_parts (okB_at ho hk)).1
  have HB : Hid (bytesB l = V.encL n ++ byt l) := by show _ = _; unfold bytesB; rw [hn.out]
  have hw64 := wrap_n h5
  have HN := Lib.hid (fun w => V.refnum_any n w (by show _ < _; omega))
  have hl0 := V.encL_len n
  clear ho hr hall
  go_enter Tryz.func105, Tryz.ntmps105
  go_wp2_with fail
  refine (HN.out _).mono ?_
  rintro e w1 ⟨v1, rfl, hv1, gK⟩
  go_wp2
  go_loopw [3, 4] (fun v i wr => ∃ k : Nat, k ≤ n ∧ i = .int .i64 k ∧ V.OwnB wr (Fresh w) v (V.encL n ++ byt (l.take k)) ∧ Keep NoB w wr) (fun _ i _ => n - (intOf i).toNat)
  case atStart => exact ⟨0, Nat.zero_le _, rfl, by rw [List.take_zero]; simpa [byt] using hv1, gK⟩
  case round =>
    obtain ⟨k, hk, rfl, hO, hK⟩ := hrel
    have hR := hr0.out.keepN hK
    clear hv1 gK
    by_cases hlt : k < n
    · have hkl : k < l.length := by rw [hn.out]; exact hlt
      obtain ⟨g, off, rfl, hc⟩ := rdJ_at hR (by omega)
      obtain ⟨c0, c1, c2⟩ := hc k hkl
      have HT := Lib.hid (show l.take (k + 1) = l.take k ++ [l[k]] from List.take_succ_eq_append_getElem hkl)
      have hok := HA.out k hkl
      have hl1 := byt_len (l.take k)
      rw [List.length_take] at hl1
      clear hc hR
      generalize l[k] = x at c0 c1 c2 HT hok
      obtain ⟨op, a, b⟩ := x
      dsimp only at c0 c1 c2 hok
      have HE := Lib.hid (fun w => rb_one op a b w hok)
      have HX : Hid ((V.encL n ++ byt (l.take k)) ++ bytesI op a b = V.encL n ++ byt (l.take (k + 1))) := by show _ = _; rw [HT.out, byt_snoc, List.append_assoc]
      have hl2 := bytesI_len op a b
      have hl3 : (V.encL n ++ byt (l.take k)).length ≤ 20000 := by rw [List.length_append]; omega
      clear hok HT hl1 hl0
      go_wp2_with fail
      refine (HE.out _).mono ?_
      rintro e w4 ⟨v4, rfl, h4, k4⟩
      obtain ⟨A4, c4, rfl, _, hr4, _, _⟩ := h4.form
      have hO2 := own_keep hO k4
      have hK2 := keepN hK k4
      clear h4 k4 hO hK c0 c1 c2
      go_wp2_with (at_builtin; refine V.wpList_append_rd _ rfl _ _ rfl _ (V.encL n ++ byt (l.take k)) (bytesI op a b) A4 c4 rfl hO2.1 rfl hr4 (by omega) ?_; intro v5 w5 hown hg hat; obtain ⟨hO3, hK3⟩ := own_app hO2 hK2 hown hg hat; rw [HX.out] at hO3; clear hown hg hat)
      go_roundw
      case rel => exact ⟨k + 1, by omega, by go_num, hO3, hK3⟩
      case measure => simp [intOf]; omega
    · obtain rfl : k = n := by omega
      rw [List.take_of_length_le (by rw [hn.out]; omega), ← HB.out] at hO
      go_wp2
      go_ret
      exact ⟨_, rfl, hO, hK⟩

end Go.Proofs.YtbnekeomdhljhaaGreatDoor.C
