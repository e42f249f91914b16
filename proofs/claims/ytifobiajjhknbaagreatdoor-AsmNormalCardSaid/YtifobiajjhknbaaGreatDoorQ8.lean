/-
  What Types answers. Conditions: the letters stand.
  What the document's Types answers. No conditions.
  What Show, Read and ShowSignature answer, the program's and the document's. Conditions: the lists lie in memory, the letters stand.
  What Show answers, the code's and the document's, of any value; the document's digits. Conditions: the variables that it reads hold what their initialisers lay; the value's number fits an int64.
  What the program's guess answers: the operands that a text is guessed to be. Conditions: the listed package-level variables hold what their initialisers lay; the text is not too long.
  The reader reads a shape. Conditions: the reader lies in memory, and the words; what is laid is laid.
  The reader's readShape. Conditions: the reader lies in memory, and the words; what is laid is laid.
  The reader has the next function: what of its memory holds then. Conditions: the reader lay in memory.
  The function that the reader reads is changed: its locals, its body. No program but its types; the reader lay in memory.
  The reader's readLocals. Conditions: the reader lies in memory, and the words; what is laid is laid; where a line said a function, there is one.
-/
import Derived.Test.YtifobiajjhknbaaGreatDoorQ4
import Derived.Test.YtifobiajjhknbaaGreatDoorQ7
import Derived.Test.YtifobiajjhknbaaGreatDoorQ5
namespace Go.Proofs.YtifobiajjhknbaaGreatDoor.W
open Go.RowKit


set_option maxRecDepth 100000 in
set_option maxHeartbeats 4000000 in
theorem types_any (S : ByteArray) (s : List UInt8) (w : World) (hL : LetAt w) (hs : Hid (S.data.toList = s)) (h1 : S.size ≤ 9223372036854775807) :
    Calls Tryz.prog 165 #[.string S] w (TypesR w s) := by
  have HSZ := Lib.hid (size_of hs.out)
  by_cases hlong : 1024 < S.size
  · have HU : Hid (untxt s = none) := untxt_none (by rw [← HSZ.out]; omega)
    go_enter Tryz.func165, Tryz.ntmps165
    go_wp2
    go_ret2
    exact types_none HU.out (Keep.refl _ _)
  · obtain ⟨i0, hi, hz0, hz1, hz2⟩ := info_parts int_info
    go_enter Tryz.func165, Tryz.ntmps165
    go_wp2_with (at_make; refine wpList_make_own _ rfl _ _ 30 rfl w.heap.size 3 i0 _ 1 Tryz.underlying30 hi hz0 hz1 _ _ _ S.size rfl rfl rfl (by rw [hz2]; omega) (by unfold maxLen; omega) (Nat.le_refl _) ?_; intro w1 hrow1 hg1)
    have hO1 : Own w1 3 1 (Fresh w) (.slice (some ⟨w.heap.size, 0, none⟩) 0 S.size) 0 (ivs ((s.take 0).map unlet)) := Own.of_row hrow1 (fun _ h => h)
    have hK1 : Keep NoB w w1 := (Keep.refl NoB w).grown hg1 (fun g e _ => by cases e)
    have hsz1 : w.heap.size ≤ w1.heap.size := hK1.size
    clear hrow1 hg1
    have hk0 : (w1.iter S 0).heap[w1.heap.size]? = some (.stringIter S 0) := World.iter_heap w1 S 0
    have hO0 : Own (w1.iter S 0) 3 1 (Fresh w) (.slice (some ⟨w.heap.size, 0, none⟩) 0 S.size) 0 (ivs ((s.take 0).map unlet)) := hO1.keepN ((Keep.refl NoB w1).alloc _)
    have hK0 : Keep NoB w (w1.iter S 0) := hK1.alloc _
    go_loopw [4] (fun v wr => ∃ k : Nat, k ≤ S.size ∧ wr.heap[w1.heap.size]? = some (.stringIter S k) ∧ (∃ B d, v = .slice B k d ∧ Own wr 3 1 (Fresh w) (.slice B k d) k (ivs ((s.take k).map unlet))) ∧ Hid (((s.take k).all fun c => decide (unlet c ≠ 0)) = true) ∧ Keep NoB w wr)
      (fun _ wr => S.size - wr.iterPos w1.heap.size)
    case atStart => exact ⟨0, Nat.zero_le _, hk0, ⟨_, _, rfl, hO0⟩, rfl, hK0⟩
    case round =>
      obtain ⟨k, hk, hit, ⟨B, d, rfl, hO⟩, hall, hK⟩ := hrel
      clear hO0 hK0 hk0 hO1 hK1
      have hmu : Hid (wr.iterPos w1.heap.size = k) := by show _ = _; simp [World.iterPos, hit]
      by_cases hlt : k < S.size
      · have hks : k < s.length := by rw [← HSZ.out]; exact hlt
        have HT := Lib.hid (show s.take (k + 1) = s.take k ++ [s[k]] from List.take_succ_eq_append_getElem hks)
        have HM := Lib.hid (List.getElem_mem hks)
        have hbt := byte_at hs.out k hlt hks
        by_cases hb : (S[k]'hlt).toNat < 128
        · have hnext : ∀ ty, (Instr.next (.pointer (some ⟨w1.heap.size, 0, none⟩)) true ty).run Tryz.prog wr = _ := fun ty => Lib.run_next_ascii_at wr w1.heap.size S k ty hit hlt hb
          rw [hbt] at hnext hb
          have HB := Lib.hid (unletZ_byte s[k])
          generalize s[k] = c at hnext hb HT HM HB
          have hO2 := hO.iterAt hit (k + 1)
          have hit2 := Lib.iterAt_heap wr w1.heap.size S k (k + 1) hit
          have hK2 := hK.iterAt hsz1 S (k + 1)
          generalize wr.iterAt w1.heap.size S (k + 1) = w2 at hnext hO2 hit2 hK2
          have hL2 := hL.keep hK2
          clear hbt hO hK hit
          by_cases hc : unlet c = 0
          · have HU : Hid (untxt s = none) := untxt_none (fun h => by have := (List.all_eq_true.1 h.2) c HM.out; simp [hc] at this)
            have e0 : unletZ (c.toNat : Int) = 0 := HB.out.trans hc
            have HLT : Hid (Calls Tryz.prog 214 #[.int .i32 (c.toNat : Int)] w2 fun e w' => e = .returned (.tuple #[.int .i64 0, .bool false]) ∧ w2 = w') := by
              have := lettered_any (c.toNat : Int) w2 hL2
              rw [e0] at this
              exact this
            clear HB hc e0
            go_wp2_with (go_at_call 214; refine HLT.out.mono ?_; rintro e w' ⟨rfl, rfl⟩)
            go_ret2
            exact types_none HU.out hK2
          · have e0 : unletZ (c.toNat : Int) = unlet c := HB.out
            have HLT : Hid (Calls Tryz.prog 214 #[.int .i32 (c.toNat : Int)] w2 fun e w' => e = .returned (.tuple #[.int .i64 (unlet c), .bool true]) ∧ w2 = w') := by
              have := lettered_any (c.toNat : Int) w2 hL2
              rw [e0, show decide (unlet c ≠ 0) = true by simpa using hc] at this
              exact this
            have hall2 : Hid (((s.take (k + 1)).all fun c => decide (unlet c ≠ 0)) = true) := by show _ = _; rw [HT.out, List.all_append, hall.out]; simp [hc]
            have HZ : Hid (ivs ((s.take (k + 1)).map unlet) = ivs ((s.take k).map unlet) ++ [.int .i64 (unlet c)]) := by show _ = _; rw [HT.out]; simp
            clear HB hc e0 HT hall HM
            go_wp2_with (first
              | (go_at_call 214; refine HLT.out.mono ?_; rintro e w' ⟨rfl, rfl⟩)
              | (at_builtin; refine wpList_append_rd _ rfl (.tmp 27) (.tmp 29) _ rfl 3 1 8 i0 _ Tryz.underlying30 hi hz0 hz1 hz2 rfl (by decide) _ k _ _ 1 _ [.int .i64 (unlet c)] rfl (hO2.1.alloc _) rfl (rd_made rfl rfl) rfl (by simp [Value.oneCell']) (by unfold maxLen; omega) (by omega) ?_; intro B2 d2 w3 hrow3 hg3 hv3; rw [← HZ.out] at hrow3; have hit3 := (hg3.block w1.heap.size (by have := (Array.getElem?_eq_some_iff.1 hit2).1; simp; omega) (fun e => own_iter hO2 hit2 e.symm)).trans ((Below.heap_alloc w2 _ w1.heap.size (Array.getElem?_eq_some_iff.1 hit2).1).trans hit2); obtain ⟨hO3, hK3⟩ := own_after hO2.2 (hK2.alloc _) hg3 hv3 hrow3; clear hrow3 hg3 hv3))
            go_roundw
            case rel => exact ⟨k + 1, by omega, hit3, ⟨B2, d2, rfl, hO3⟩, hall2, hK3⟩
            case measure =>
              have hmu2 : w3.iterPos w1.heap.size = k + 1 := by simp [World.iterPos, hit3]
              rw [hmu.out, hmu2]
              omega
        · have hnext : ∀ ty, (Instr.next (.pointer (some ⟨w1.heap.size, 0, none⟩)) true ty).run Tryz.prog wr = _ := fun ty => Lib.run_next_any_at wr w1.heap.size S k ty hit hlt
          have hbig := decode_big S k (by rw [get_at k hlt]; omega)
          have HB : Hid (unletZ ((Utf8.decode S k).1 : Int) = 0) := unletZ_big (by omega)
          have hc : unlet s[k] = 0 := by
            have := unletZ_byte s[k]
            rw [unletZ_big (by rw [← hbt]; omega)] at this
            exact this.symm
          have HU : Hid (untxt s = none) := untxt_none (fun h => by have := (List.all_eq_true.1 h.2) s[k] HM.out; simp [hc] at this)
          have hK2 := hK.iterAt hsz1 S (k + (Utf8.decode S k).2)
          generalize wr.iterAt w1.heap.size S (k + (Utf8.decode S k).2) = w2 at hnext hK2
          generalize (Utf8.decode S k).1 = r at hnext HB hbig
          have hL2 := hL.keep hK2
          have HLT : Hid (Calls Tryz.prog 214 #[.int .i32 (r : Int)] w2 fun e w' => e = .returned (.tuple #[.int .i64 0, .bool false]) ∧ w2 = w') := by
            have := lettered_any (r : Int) w2 hL2
            rw [HB.out] at this
            exact this
          clear hbt hO hK hit HT HM hc hb
          go_wp2_with (go_at_call 214; refine HLT.out.mono ?_; rintro e w' ⟨rfl, rfl⟩)
          go_ret2
          exact types_none HU.out hK2
      · obtain hkn : k = s.length := by rw [← HSZ.out]; omega
        have hnext : ∀ ty, (Instr.next (.pointer (some ⟨w1.heap.size, 0, none⟩)) true ty).run Tryz.prog wr = _ := fun ty => Lib.run_next_end_at wr w1.heap.size S k ty hit hlt
        subst hkn
        rw [List.take_length] at hO hall
        have HU : Hid (untxt s = some (s.map unlet)) := untxt_some (by rw [← HSZ.out]; omega) hall.out
        go_wp2
        go_ret2
        exact types_some HU.out hO hK

end Go.Proofs.YtifobiajjhknbaaGreatDoor.W

namespace Go.Proofs.YtifobiajjhknbaaGreatDoor.W
open Go.RowKit

end Go.Proofs.YtifobiajjhknbaaGreatDoor.W

namespace Go.Proofs.YtifobiajjhknbaaGreatDoor.S
open Go.RowKit W

def rsL (R : Option (List Int)) : List Int := match R with
  | none => []
  | some x => x
def rsE (R : Option (List Int)) : Int := match R with
  | none => 60
  | some _ => 0
def ReadR (w : World) (R : Option (List Int)) (e : Ending) (w' : World) : Prop :=
  ∃ v, e = .returned (.tuple #[v, .int .i64 (rsE R)]) ∧ Own w' 3 1 (Fresh w) v (rsL R).length (ivs (rsL R)) ∧ Keep NoB w w'
theorem read_none {w w' : World} {R : Option (List Int)} (hR : R = none) (hk : Keep NoB w w') : ReadR w R (.returned (.tuple #[.slice none 0 0, .int .i64 60])) w' := by
  subst hR; exact ⟨_, rfl, Own.nil _ _ _ _, hk⟩
theorem tE_none {s : List UInt8} (h : untxt s = none) : tE s = 20 ∧ tN s = 0 := by unfold tE tN; rw [h]; exact ⟨rfl, rfl⟩
theorem tE_some {s : List UInt8} {l : List Int} (h : untxt s = some l) : tE s = 0 ∧ tL s = l ∧ tN s = l.length := by
  have hl := tL_length s
  have h2 : tL s = l := by unfold tL; rw [h]; rfl
  refine ⟨by unfold tE; rw [h]; rfl, h2, ?_⟩
  rw [← hl, h2]
theorem rdS_1 {s : List UInt8} (h : untxt s = none) : rdS s = none := by unfold rdS; rw [h]
theorem rdS_2 {s : List UInt8} {l : List Int} (h : untxt s = some l) (ho : okS l = false) : rdS s = none := by unfold rdS; rw [h]; exact if_neg (by rw [ho]; decide)
theorem rdS_3 {s : List UInt8} {l : List Int} (h : untxt s = some l) (ho : okS l = true) : rdS s = some l := by unfold rdS; rw [h]; exact if_pos ho
theorem untxt_len {s : List UInt8} {l : List Int} (h : untxt s = some l) : l.length ≤ 1024 := by
  by_cases h2 : s.length ≤ 1024 ∧ (s.all fun c => decide (unlet c ≠ 0)) = true
  · rw [untxt_some h2.1 h2.2] at h
    injection h with h
    rw [← h, List.length_map]; exact h2.1
  · rw [untxt_none h2] at h; cases h
theorem types_no (S : ByteArray) (s : List UInt8) (w : World) (hL : LetAt w) (hs : Hid (S.data.toList = s)) (h1 : S.size ≤ 9223372036854775807) (h : untxt s = none) :
    Calls Tryz.prog 165 #[.string S] w fun e w' => ∃ B d, e = .returned (.tuple #[.slice B 0 d, .int .i64 20]) ∧ Keep NoB w w' := by
  refine (types_any S s w hL hs h1).mono ?_
  rintro e w' ⟨B, d, rfl, _, hk⟩
  rw [(tE_none h).1, (tE_none h).2]
  exact ⟨B, d, rfl, hk⟩
theorem types_yes (S : ByteArray) (s : List UInt8) (l : List Int) (w : World) (hL : LetAt w) (hs : Hid (S.data.toList = s)) (h1 : S.size ≤ 9223372036854775807) (h : untxt s = some l) :
    Calls Tryz.prog 165 #[.string S] w fun e w' => ∃ B d, e = .returned (.tuple #[.slice B l.length d, .int .i64 0]) ∧ Own w' 3 1 (Fresh w) (.slice B l.length d) l.length (ivs l) ∧ Keep NoB w w' := by
  obtain ⟨e1, e2, e3⟩ := tE_some h
  have := types_any S s w hL hs h1
  unfold TypesR at this
  rw [e1, e2, e3] at this
  exact this

set_option maxRecDepth 100000 in
set_option maxHeartbeats 2000000 in
theorem readS_any (S : ByteArray) (s : List UInt8) (w : World) (hL : LetAt w) (hs : Hid (S.data.toList = s)) (h1 : S.size ≤ 9223372036854775807) :
    Calls Tryz.prog 163 #[.string S] w (ReadR w (rdS s)) := by
  cases hu : untxt s with
  | none =>
    have HT := Lib.hid (types_no S s w hL hs h1 hu)
    have HD := Lib.hid (rdS_1 hu)
    clear hu
    go_enter Tryz.func163, Tryz.ntmps163
    go_wp2_with fail
    refine HT.out.mono ?_
    rintro e w1 ⟨B, d, rfl, k1⟩
    go_wp2
    go_ret2
    exact read_none HD.out k1
  | some l =>
    have HT := Lib.hid (types_yes S s l w hL hs h1 hu)
    have hlen := untxt_len hu
    cases ho : okS l
    · have HD := Lib.hid (rdS_2 hu ho)
      have HI := Lib.hid (fun A c w hr => ifS_no A l l.length c w hr rfl (by omega) ho)
      clear hu ho hlen
      go_enter Tryz.func163, Tryz.ntmps163
      go_wp2_with fail
      refine HT.out.mono ?_
      rintro e w1 ⟨B, d, rfl, hO, k1⟩
      have r1 : Rd w1 B (ivs l) := by
        obtain ⟨A', c', e, hr⟩ := own_rdI hO
        cases e; exact hr
      go_wp2_with fail
      refine (HI.out _ _ _ r1).mono ?_
      rintro e w2 ⟨rfl, k2⟩
      go_wp2
      go_ret2
      exact read_none HD.out (keepN k1 k2)
    · have HD := Lib.hid (rdS_3 hu ho)
      have HI := Lib.hid (fun A c w hr => ifS_yes A l l.length c w hr rfl (by omega) ho)
      clear hu ho hlen
      go_enter Tryz.func163, Tryz.ntmps163
      go_wp2_with fail
      refine HT.out.mono ?_
      rintro e w1 ⟨B, d, rfl, hO, k1⟩
      have r1 : Rd w1 B (ivs l) := by
        obtain ⟨A', c', e, hr⟩ := own_rdI hO
        cases e; exact hr
      have HO := Lib.hid hO
      clear hO
      go_wp2_with fail
      refine (HI.out _ _ _ r1).mono ?_
      rintro e w2 ⟨rfl, k2⟩
      go_wp2
      go_ret2
      rw [HD.out]
      exact ⟨_, rfl, HO.out.keepN k2, keepN k1 k2⟩

end Go.Proofs.YtifobiajjhknbaaGreatDoor.S

namespace Go.Proofs.YtifobiajjhknbaaGreatDoor.W
open Go.RowKit

/-! ### guess, Read -/

/-- strconv.ParseInt at base 10, 64 bits: the number, whatever the error. -/
theorem parse_any (S : ByteArray) (s : List UInt8) (w : World) (hs : S.data.toList = s) (hl : S.size ≤ 281474976710656) (h : Laid w) :
    Calls Tryz.prog 208 #[.string S, .int .i64 10, .int .i64 64] w fun e w' => ∃ er, e = .returned (.tuple #[.int .i64 (pI s), er]) ∧ Keep NoB w w' := by
  have e64 : Lib.parseIntB 64 S.data.toList = Lib.atoiAll s := by rw [Lib.parseIntB_64, hs]
  unfold pI
  rcases ha : Lib.atoiAll s with v | _ | _
  · rw [ha] at e64
    refine (Tryz.strconv_ParseInt_10_at64_ok S (by omega) v e64 w).mono ?_
    rintro e w' ⟨rfl, hw⟩
    refine ⟨_, rfl, ?_⟩
    rcases hw with rfl | ⟨t, rfl⟩
    · exact Keep.refl _ _
    · exact Keep.of_below (Lib.bytesWorld_below _ _ _)
  · rw [ha] at e64
    obtain ⟨tp, p, hv⟩ := h.syn
    refine (Tryz.strconv_ParseInt_10_at64_syntax_var S hl e64 tp p w hv).mono ?_
    rintro e w' ⟨N, rfl, _, _, hb⟩
    exact ⟨_, rfl, Keep.of_below hb⟩
  · rw [ha] at e64
    obtain ⟨tp, p, hv⟩ := h.rng
    refine (Tryz.strconv_ParseInt_10_at64_range_var S hl e64 tp p w hv).mono ?_
    rintro e w' ⟨N, rfl, _, _, hb⟩
    rw [Lib.intSat_64, hs]
    exact ⟨_, rfl, Keep.of_below hb⟩

end Go.Proofs.YtifobiajjhknbaaGreatDoor.W

namespace Go.Proofs.YtifobiajjhknbaaGreatDoor.O
open Go.RowKit

/-- What strings.Cut reads besides its text. -/
def CutAt (w : World) : Prop := ∃ m, w.cell? ⟨3, 0, none⟩ = some (.int .i64 m)
theorem CutAt.keep {w w' : World} (h : CutAt w) (hk : Keep NoB w w') : CutAt w' := by
  obtain ⟨m, hm⟩ := h
  exact ⟨m, hk.cell hm id⟩
theorem cut_any (S : ByteArray) (s : List UInt8) (w : World) (hs : S.data.toList = s) (hl : S.size ≤ 200000) (h : CutAt w) :
    Calls Tryz.prog 216 #[.string S, .string ⟨#[32]⟩] w fun e w' => ∃ b, e = .returned (.tuple #[.string (str (Lib.cut s [32]).1), .string (str (Lib.cut s [32]).2.1), .bool b]) ∧ Keep NoB w w' := by
  obtain ⟨m, hm⟩ := h
  refine (Tryz.strings_Cut S ⟨#[32]⟩ m w (by omega) hm).mono ?_
  rintro e w' ⟨rfl, n, rfl⟩
  rw [hs]
  exact ⟨_, rfl, (Keep.refl NoB w).drewN n⟩
theorem str_list (s : List UInt8) : (str s).data.toList = s := by simp
theorem str_size (s : List UInt8) : (str s).size = s.length := _root_.Go.Proofs.YtifobiajjhknbaaGreatDoor.W.size_of (str_list s)

set_option maxHeartbeats 1000000 in
theorem guess_dig (k : Int) (S : ByteArray) (s : List UInt8) (w : World) (hk : digK k = true) (hs : S.data.toList = s) (hl : S.size ≤ 200000) (h : LaidO w) :
    Calls Tryz.prog 207 #[.string S] w fun e w' => e = .returned (.int .i64 (gK k s)) ∧ Keep NoB w w' := by
  have HX : Hid (gK k s = W.pI s) := by show _ = _; unfold gK; rw [if_pos hk]
  have HF := Lib.hid (W.parse_any S s w hs (by omega) h.lib)
  clear h hk hs hl
  go_enter Tryz.func207, Tryz.ntmps207
  go_wp2_with fail
  refine HF.out.mono ?_
  rintro e w1 ⟨er, rfl, k1⟩
  go_wp2
  go_ret
  exact ⟨by rw [HX.out]; rfl, k1⟩

theorem own_first {w1 w : World} {B : Option Addr} {d : Nat} {x : Int} (h : Own w1 3 1 (Fresh w) (.slice B 1 d) 1 (ivs [x])) : ∃ g, B = some ⟨g, 0, none⟩ ∧ w1.cell? ⟨g, 0, none⟩ = some (.int .i64 x) := by
  obtain ⟨A, c, e, _, _, hr, ha⟩ := h.form
  injection e with e1 _ e2
  subst e1
  obtain ⟨g, off, e3, hc⟩ := hr (by simp)
  have h0 := (ha _ e3).2
  injection h0 with _ h0 _
  subst h0
  exact ⟨g, e3, hc 0 _ (by simp)⟩
/-- The error of a text that is no letter. -/
def letE (s : List UInt8) : Int := if W.tE s = 0 ∧ W.tN s = 1 then 0 else 40
theorem tE_tN (s : List UInt8) : W.tE s = 0 ∨ (W.tE s = 20 ∧ W.tN s = 0) := by
  unfold W.tE W.tN
  split
  · exact .inl rfl
  · exact .inr ⟨rfl, rfl⟩
set_option maxHeartbeats 1000000 in
theorem lettered_any (S : ByteArray) (s : List UInt8) (w : World) (hs : S.data.toList = s) (hl : S.size ≤ 200000) (h : LaidO w) :
    Calls Tryz.prog 154 #[.string S] w fun e w' => e = .returned (.tuple #[.int .i64 (ltrI s), .int .i64 (letE s)]) ∧ Keep NoB w w' := by
  have HF := Lib.hid (W.types_any S s w h.lets hs (by omega))
  have hlen := W.tL_length s
  clear h hs hl
  by_cases h0 : W.tE s = 0
  · by_cases h1 : W.tN s = 1
    · have HX : Hid (ltrI s = (W.tL s).getD 0 0 ∧ letE s = 0) := ⟨by unfold ltrI; rw [if_pos ⟨h0, h1⟩], by unfold letE; rw [if_pos ⟨h0, h1⟩]⟩
      obtain ⟨x, hx⟩ : ∃ x, W.tL s = [x] := by
        rw [h1] at hlen
        exact List.length_eq_one_iff.1 hlen
      rw [hx] at HX
      unfold W.TypesR at HF
      rw [h0, h1, hx] at HF
      clear h0 h1 hx hlen
      go_enter Tryz.func154, Tryz.ntmps154
      go_wp2_with fail
      refine HF.out.mono ?_
      rintro e w1 ⟨B, d, rfl, hO, k1⟩
      obtain ⟨ad, rfl, hc⟩ : ∃ ad, B = some ad ∧ w1.cell? ad = some (.int .i64 x) := by
        obtain ⟨g, rfl, hcell⟩ := own_first hO
        exact ⟨_, rfl, hcell⟩
      go_wp2
      go_ret2
      rw [HX.out.1, HX.out.2]
      exact ⟨rfl, k1⟩
    · have HX : Hid (ltrI s = 0 ∧ letE s = 40) := ⟨by unfold ltrI; rw [if_neg (fun h => h1 h.2)], by unfold letE; rw [if_neg (fun h => h1 h.2)]⟩
      unfold W.TypesR at HF
      rw [h0] at HF
      clear h0 hlen
      have hq : ((W.tN s : Int) != 1) = true := by rw [bne_iff_ne]; omega
      generalize W.tN s = n at HF hq
      clear h1
      go_enter Tryz.func154, Tryz.ntmps154
      go_wp2_with fail
      refine HF.out.mono ?_
      rintro e w1 ⟨B, d, rfl, hO, k1⟩
      go_wp2
      go_ret2
      rw [HX.out.1, HX.out.2]
      exact ⟨rfl, k1⟩
  · have HX : Hid (ltrI s = 0 ∧ letE s = 40) := ⟨by unfold ltrI; rw [if_neg (fun h => h0 h.1)], by unfold letE; rw [if_neg (fun h => h0 h.1)]⟩
    obtain ⟨h20, hn0⟩ := (tE_tN s).resolve_left h0
    unfold W.TypesR at HF
    rw [h20, hn0] at HF
    clear h0 h20 hn0 hlen
    go_enter Tryz.func154, Tryz.ntmps154
    go_wp2_with fail
    refine HF.out.mono ?_
    rintro e w1 ⟨B, d, rfl, hO, k1⟩
    go_wp2
    go_ret2
    rw [HX.out.1, HX.out.2]
    exact ⟨rfl, k1⟩

set_option maxHeartbeats 1000000 in
theorem guess_word (k : Int) (S : ByteArray) (s : List UInt8) (c : Nat) (w : World) (hk : wordK k = true) (hs : S.data.toList = s) (hl : S.size ≤ 200000) (h : LaidO w) (hc : w.cell? ⟨c, 0, none⟩ = some (fnV (readF k))) :
    Calls Tryz.prog 210 #[.string S, .pointer (some ⟨c, 0, none⟩)] w fun e w' => e = .returned (.int .i64 (gK k s)) ∧ Keep NoB w w' := by
  have hk := of_decide_eq_true hk
  have hkc : k = 8 ∨ k = 9 ∨ (k = 2 ∨ k = 3) := by omega
  clear hk
  rcases hkc with rfl | rfl | hk
  · have HF := Lib.hid (A.binOf_all S s w h.names hs)
    have HX : Hid (gK 8 s = A.ofI A.binNs s) := rfl
    have hc' : w.cell? ⟨c, 0, none⟩ = some (fnV 156) := hc
    clear h hs hl hc
    go_enter Tryz.func210, Tryz.ntmps210
    go_wp2_with fail
    refine HF.out.mono ?_
    rintro e w1 ⟨rfl, k1⟩
    go_wp2
    go_ret
    exact ⟨by rw [HX.out]; rfl, k1⟩
  · have HF := Lib.hid (A.unOf_all S s w h.names hs)
    have HX : Hid (gK 9 s = A.ofI A.unNs s) := rfl
    have hc' : w.cell? ⟨c, 0, none⟩ = some (fnV 158) := hc
    clear h hs hl hc
    go_enter Tryz.func210, Tryz.ntmps210
    go_wp2_with fail
    refine HF.out.mono ?_
    rintro e w1 ⟨rfl, k1⟩
    go_wp2
    go_ret
    exact ⟨by rw [HX.out]; rfl, k1⟩
  · have HF := Lib.hid (lettered_any S s w hs hl h)
    have HX : Hid (gK k s = ltrI s) := by rcases hk with rfl | rfl <;> rfl
    have hc' : w.cell? ⟨c, 0, none⟩ = some (fnV 154) := by rw [hc]; rcases hk with rfl | rfl <;> rfl
    clear h hs hl hc hk
    go_enter Tryz.func210, Tryz.ntmps210
    go_wp2_with fail
    refine HF.out.mono ?_
    rintro e w1 ⟨rfl, k1⟩
    go_wp2
    go_ret
    exact ⟨by rw [HX.out]; rfl, k1⟩

theorem kb_cases (op : Int) : (rowAt op).kb = 0 ∨ (rowAt op).kb = 3 := by
  have := rowAt_all (p := fun r => decide (r.kb = 0 ∨ r.kb = 3)) (by decide) (by decide) op
  simpa using this

theorem run_field_gu (k l m : Int) (sh gu : Value) (w : World) : (Instr.field 134 (.agg #[.int .i64 k, .int .i64 l, .int .i64 m, sh, gu]) 4).run Tryz.prog w = .ok gu w := by kernel_rfl

/-! ### guess -/
theorem dig_word {k : Int} (h : wordK k = true) : ¬ digK k = true := by
  have h := of_decide_eq_true h
  intro h2
  have h2 := of_decide_eq_true h2
  omega
theorem word_dig_no {k : Int} (h : wordK k = true) : ¬ digK k = true := dig_word h

set_option maxRecDepth 100000 in
set_option maxHeartbeats 4000000 in
theorem guess_00 (op ka kb A B : Int) (S : ByteArray) (s : List UInt8) (w : World) (hs : Hid (S.data.toList = s)) (hl : Hid (S.size ≤ 200000)) (_hL : Hid (LaidO w)) (hC : Hid (CutAt w)) (HKn : Hid (∀ w, Calls Tryz.prog 219 #[.int .i64 op] w fun e w' => e = .returned (.tuple #[.int .i64 ka, .int .i64 kb]) ∧ Keep NoB w w'))
    (hA : Hid (A = 0)) (hB : Hid (B = 0)) (h0 : ka = 0) (h1 : kb = 0) :
    Calls Tryz.prog 218 #[.int .i64 op, .string S] w fun e w' => e = .returned (instV op A B) ∧ Keep NoB w w' := by
  have HCt := Lib.hid (fun w hw => cut_any S s w hs.out hl.out hw)
  have hcl := Lib.hid (cut_len s)
  have hsz : Hid (S.size = s.length) := Lib.hid (_root_.Go.Proofs.YtifobiajjhknbaaGreatDoor.W.size_of hs.out)
  subst h0
  subst h1
  have gK := ((Keep.refl NoB w).alloc (.cells #[.int .i64 0, .int .i64 0, .int .i64 0] 37)).alloc (.cells #[.int .i64 op, .int .i64 0, .int .i64 0] 37)
  have bo := (Blk.new w 37 #[.int .i64 0, .int .i64 0, .int .i64 0]).alloc (.cells #[.int .i64 op, .int .i64 0, .int .i64 0] 37)
  have bx := Blk.new (w.alloc (.cells #[.int .i64 0, .int .i64 0, .int .i64 0] 37)) 37 #[.int .i64 op, .int .i64 0, .int .i64 0]
  rw [World.size_alloc] at bx
  generalize (Lib.cut s [32]).1 = s1 at *
  generalize (Lib.cut s [32]).2.1 = s2 at *
  go_enter Tryz.func218, Tryz.ntmps218
  go_wp2_with fail
  refine (HCt.out _ (hC.out.keep gK)).mono ?_
  rintro e w1 ⟨bb, rfl, k1⟩
  replace bo := bo.keep k1 id
  replace bx := bx.keep k1 id
  replace gK := keepN gK k1
  clear k1
  go_wp2_with fail
  refine (HKn.out _).mono ?_
  rintro e w2 ⟨rfl, k1⟩
  replace bo := bo.keep k1 id
  replace bx := bx.keep k1 id
  replace gK := keepN gK k1
  clear k1
  have hz := bx.lt
  have hzo := bo.lt
  have fx := fun i => bx.frozen i
  have fo := fun i => bo.frozen i
  obtain ⟨c0, c1, c2⟩ := blk_inst bx
  obtain ⟨o0, o1, o2⟩ := blk_inst bo
  go_wp2
  refine bodyPost_ret (v := instV op 0 0) (by simp [results, Tryz.results218, go_sem, o0, o1, o2]) rfl ⟨by rw [hA.out, hB.out], ?_⟩
  repeat' first | exact gK | refine Keep.setCell ?_ (fun h => absurd h (by simp)) _


set_option maxRecDepth 100000 in
set_option maxHeartbeats 4000000 in
theorem guess_d0 (op ka kb A B : Int) (S : ByteArray) (s : List UInt8) (w : World) (hs : Hid (S.data.toList = s)) (hl : Hid (S.size ≤ 200000)) (hL : Hid (LaidO w)) (hC : Hid (CutAt w)) (HKn : Hid (∀ w, Calls Tryz.prog 219 #[.int .i64 op] w fun e w' => e = .returned (.tuple #[.int .i64 ka, .int .i64 kb]) ∧ Keep NoB w w'))
    (hA : Hid (A = gK ka (Lib.cut s [32]).1)) (hB : Hid (B = 0)) (h0 : ka ≠ 0) (h1 : kb = 0) (hk0 : Hid (digK ka = true ∧ 0 ≤ ka ∧ ka ≤ 10)) :
    Calls Tryz.prog 218 #[.int .i64 op, .string S] w fun e w' => e = .returned (instV op A B) ∧ Keep NoB w w' := by
  have HCt := Lib.hid (fun w hw => cut_any S s w hs.out hl.out hw)
  have hcl := Lib.hid (cut_len s)
  have hsz : Hid (S.size = s.length) := Lib.hid (_root_.Go.Proofs.YtifobiajjhknbaaGreatDoor.W.size_of hs.out)
  have q0 : (ka != 0) = true := by rw [bne_iff_ne]; exact h0
  subst h1
  have gK := ((Keep.refl NoB w).alloc (.cells #[.int .i64 0, .int .i64 0, .int .i64 0] 37)).alloc (.cells #[.int .i64 op, .int .i64 0, .int .i64 0] 37)
  have bo := (Blk.new w 37 #[.int .i64 0, .int .i64 0, .int .i64 0]).alloc (.cells #[.int .i64 op, .int .i64 0, .int .i64 0] 37)
  have bx := Blk.new (w.alloc (.cells #[.int .i64 0, .int .i64 0, .int .i64 0] 37)) 37 #[.int .i64 op, .int .i64 0, .int .i64 0]
  rw [World.size_alloc] at bx
  generalize (Lib.cut s [32]).1 = s1 at *
  generalize (Lib.cut s [32]).2.1 = s2 at *
  go_enter Tryz.func218, Tryz.ntmps218
  go_wp2_with fail
  refine (HCt.out _ (hC.out.keep gK)).mono ?_
  rintro e w1 ⟨bb, rfl, k1⟩
  replace bo := bo.keep k1 id
  replace bx := bx.keep k1 id
  replace gK := keepN gK k1
  clear k1
  go_wp2_with fail
  refine (HKn.out _).mono ?_
  rintro e w2 ⟨rfl, k1⟩
  replace bo := bo.keep k1 id
  replace bx := bx.keep k1 id
  replace gK := keepN gK k1
  clear k1
  have HO := Lib.hid (fun w => operandOf_any ka ⟨hk0.out.2.1, hk0.out.2.2⟩ w)
  go_wp2_with fail
  refine (HO.out _).mono ?_
  rintro e w3 ⟨sh, gu, rfl, hF, k1⟩
  replace bo := bo.keep k1 id
  replace bx := bx.keep k1 id
  replace gK := keepN gK k1
  clear k1
  obtain ⟨rfl, rfl⟩ : sh = fnV 205 ∧ gu = fnV 207 := by
    rcases hF with ⟨h, _⟩ | ⟨_, h⟩ | ⟨h, _⟩
    · exact absurd h h0
    · exact h
    · exact absurd hk0.out.1 (dig_word h)
  clear hF
  dsimp only [opV]
  have hfd := fun w => run_field_gu ka (lo ka) (hi ka) (fnV 205) (fnV 207) w
  go_wp2_with fail
  refine (guess_dig ka (str s1) s1 _ hk0.out.1 (str_list _) (by rw [str_size]; have := hcl.out; have := hsz.out; have := hl.out; omega) (hL.out.keep gK)).mono ?_
  rintro e w4 ⟨rfl, k1⟩
  replace bo := bo.keep k1 id
  replace bx := bx.keep k1 id
  replace gK := keepN gK k1
  clear k1
  clear hfd
  rw [← hA.out]
  have hz := bx.lt
  have hzo := bo.lt
  have fx := fun i => bx.frozen i
  have fo := fun i => bo.frozen i
  obtain ⟨c0, c1, c2⟩ := blk_inst bx
  obtain ⟨o0, o1, o2⟩ := blk_inst bo
  go_wp2
  refine bodyPost_ret (v := instV op A 0) (by simp [results, Tryz.results218, go_sem, o0, o1, o2]) rfl ⟨by rw [hB.out], ?_⟩
  repeat' first | exact gK | refine Keep.setCell ?_ (fun h => absurd h (by simp)) _


set_option maxRecDepth 100000 in
set_option maxHeartbeats 4000000 in
theorem guess_w0 (op ka kb A B : Int) (S : ByteArray) (s : List UInt8) (w : World) (hs : Hid (S.data.toList = s)) (hl : Hid (S.size ≤ 200000)) (hL : Hid (LaidO w)) (hC : Hid (CutAt w)) (HKn : Hid (∀ w, Calls Tryz.prog 219 #[.int .i64 op] w fun e w' => e = .returned (.tuple #[.int .i64 ka, .int .i64 kb]) ∧ Keep NoB w w'))
    (hA : Hid (A = gK ka (Lib.cut s [32]).1)) (hB : Hid (B = 0)) (h0 : ka ≠ 0) (h1 : kb = 0) (hk0 : Hid (wordK ka = true ∧ 0 ≤ ka ∧ ka ≤ 10)) :
    Calls Tryz.prog 218 #[.int .i64 op, .string S] w fun e w' => e = .returned (instV op A B) ∧ Keep NoB w w' := by
  have HCt := Lib.hid (fun w hw => cut_any S s w hs.out hl.out hw)
  have hcl := Lib.hid (cut_len s)
  have hsz : Hid (S.size = s.length) := Lib.hid (_root_.Go.Proofs.YtifobiajjhknbaaGreatDoor.W.size_of hs.out)
  have q0 : (ka != 0) = true := by rw [bne_iff_ne]; exact h0
  subst h1
  have gK := ((Keep.refl NoB w).alloc (.cells #[.int .i64 0, .int .i64 0, .int .i64 0] 37)).alloc (.cells #[.int .i64 op, .int .i64 0, .int .i64 0] 37)
  have bo := (Blk.new w 37 #[.int .i64 0, .int .i64 0, .int .i64 0]).alloc (.cells #[.int .i64 op, .int .i64 0, .int .i64 0] 37)
  have bx := Blk.new (w.alloc (.cells #[.int .i64 0, .int .i64 0, .int .i64 0] 37)) 37 #[.int .i64 op, .int .i64 0, .int .i64 0]
  rw [World.size_alloc] at bx
  generalize (Lib.cut s [32]).1 = s1 at *
  generalize (Lib.cut s [32]).2.1 = s2 at *
  go_enter Tryz.func218, Tryz.ntmps218
  go_wp2_with fail
  refine (HCt.out _ (hC.out.keep gK)).mono ?_
  rintro e w1 ⟨bb, rfl, k1⟩
  replace bo := bo.keep k1 id
  replace bx := bx.keep k1 id
  replace gK := keepN gK k1
  clear k1
  go_wp2_with fail
  refine (HKn.out _).mono ?_
  rintro e w2 ⟨rfl, k1⟩
  replace bo := bo.keep k1 id
  replace bx := bx.keep k1 id
  replace gK := keepN gK k1
  clear k1
  have HO := Lib.hid (fun w => operandOf_any ka ⟨hk0.out.2.1, hk0.out.2.2⟩ w)
  go_wp2_with fail
  refine (HO.out _).mono ?_
  rintro e w3 ⟨sh, gu, rfl, hF, k1⟩
  replace bo := bo.keep k1 id
  replace bx := bx.keep k1 id
  replace gK := keepN gK k1
  clear k1
  obtain ⟨bb, cc, rfl, rfl, hcc⟩ : ∃ b c, sh = boxV 209 b ∧ gu = boxV 210 c ∧ w3.cell? ⟨c, 0, none⟩ = some (fnV (readF ka)) := by
    rcases hF with ⟨h, _⟩ | ⟨h, _⟩ | ⟨_, b, c, h1, h2, _, h4⟩
    · exact absurd h h0
    · exact absurd h (word_dig_no hk0.out.1)
    · exact ⟨b, c, h1, h2, h4⟩
  have hcc := Lib.hid hcc
  clear hF
  dsimp only [opV]
  have hfd := fun w => run_field_gu ka (lo ka) (hi ka) (boxV 209 bb) (boxV 210 cc) w
  go_wp2_with fail
  refine (guess_word ka (str s1) s1 cc _ hk0.out.1 (str_list _) (by rw [str_size]; have := hcl.out; have := hsz.out; have := hl.out; omega) (hL.out.keep gK) hcc.out).mono ?_
  rintro e w4 ⟨rfl, k1⟩
  replace bo := bo.keep k1 id
  replace bx := bx.keep k1 id
  replace gK := keepN gK k1
  clear k1
  clear hfd
  rw [← hA.out]
  have hz := bx.lt
  have hzo := bo.lt
  have fx := fun i => bx.frozen i
  have fo := fun i => bo.frozen i
  obtain ⟨c0, c1, c2⟩ := blk_inst bx
  obtain ⟨o0, o1, o2⟩ := blk_inst bo
  go_wp2
  refine bodyPost_ret (v := instV op A 0) (by simp [results, Tryz.results218, go_sem, o0, o1, o2]) rfl ⟨by rw [hB.out], ?_⟩
  repeat' first | exact gK | refine Keep.setCell ?_ (fun h => absurd h (by simp)) _


set_option maxRecDepth 100000 in
set_option maxHeartbeats 4000000 in
theorem guess_dw (op ka kb A B : Int) (S : ByteArray) (s : List UInt8) (w : World) (hs : Hid (S.data.toList = s)) (hl : Hid (S.size ≤ 200000)) (hL : Hid (LaidO w)) (hC : Hid (CutAt w)) (HKn : Hid (∀ w, Calls Tryz.prog 219 #[.int .i64 op] w fun e w' => e = .returned (.tuple #[.int .i64 ka, .int .i64 kb]) ∧ Keep NoB w w'))
    (hA : Hid (A = gK ka (Lib.cut s [32]).1)) (hB : Hid (B = gK kb (Lib.cut s [32]).2.1)) (h0 : ka ≠ 0) (h1 : kb ≠ 0) (hk0 : Hid (digK ka = true ∧ 0 ≤ ka ∧ ka ≤ 10)) (hk1 : Hid (wordK kb = true ∧ 0 ≤ kb ∧ kb ≤ 10)) :
    Calls Tryz.prog 218 #[.int .i64 op, .string S] w fun e w' => e = .returned (instV op A B) ∧ Keep NoB w w' := by
  have HCt := Lib.hid (fun w hw => cut_any S s w hs.out hl.out hw)
  have hcl := Lib.hid (cut_len s)
  have hsz : Hid (S.size = s.length) := Lib.hid (_root_.Go.Proofs.YtifobiajjhknbaaGreatDoor.W.size_of hs.out)
  have q0 : (ka != 0) = true := by rw [bne_iff_ne]; exact h0
  have q1 : (kb != 0) = true := by rw [bne_iff_ne]; exact h1
  have gK := ((Keep.refl NoB w).alloc (.cells #[.int .i64 0, .int .i64 0, .int .i64 0] 37)).alloc (.cells #[.int .i64 op, .int .i64 0, .int .i64 0] 37)
  have bo := (Blk.new w 37 #[.int .i64 0, .int .i64 0, .int .i64 0]).alloc (.cells #[.int .i64 op, .int .i64 0, .int .i64 0] 37)
  have bx := Blk.new (w.alloc (.cells #[.int .i64 0, .int .i64 0, .int .i64 0] 37)) 37 #[.int .i64 op, .int .i64 0, .int .i64 0]
  rw [World.size_alloc] at bx
  generalize (Lib.cut s [32]).1 = s1 at *
  generalize (Lib.cut s [32]).2.1 = s2 at *
  go_enter Tryz.func218, Tryz.ntmps218
  go_wp2_with fail
  refine (HCt.out _ (hC.out.keep gK)).mono ?_
  rintro e w1 ⟨bb, rfl, k1⟩
  replace bo := bo.keep k1 id
  replace bx := bx.keep k1 id
  replace gK := keepN gK k1
  clear k1
  go_wp2_with fail
  refine (HKn.out _).mono ?_
  rintro e w2 ⟨rfl, k1⟩
  replace bo := bo.keep k1 id
  replace bx := bx.keep k1 id
  replace gK := keepN gK k1
  clear k1
  have HO := Lib.hid (fun w => operandOf_any ka ⟨hk0.out.2.1, hk0.out.2.2⟩ w)
  go_wp2_with fail
  refine (HO.out _).mono ?_
  rintro e w3 ⟨sh, gu, rfl, hF, k1⟩
  replace bo := bo.keep k1 id
  replace bx := bx.keep k1 id
  replace gK := keepN gK k1
  clear k1
  obtain ⟨rfl, rfl⟩ : sh = fnV 205 ∧ gu = fnV 207 := by
    rcases hF with ⟨h, _⟩ | ⟨_, h⟩ | ⟨h, _⟩
    · exact absurd h h0
    · exact h
    · exact absurd hk0.out.1 (dig_word h)
  clear hF
  dsimp only [opV]
  have hfd := fun w => run_field_gu ka (lo ka) (hi ka) (fnV 205) (fnV 207) w
  go_wp2_with fail
  refine (guess_dig ka (str s1) s1 _ hk0.out.1 (str_list _) (by rw [str_size]; have := hcl.out; have := hsz.out; have := hl.out; omega) (hL.out.keep gK)).mono ?_
  rintro e w4 ⟨rfl, k1⟩
  replace bo := bo.keep k1 id
  replace bx := bx.keep k1 id
  replace gK := keepN gK k1
  clear k1
  clear hfd
  rw [← hA.out]
  have bo2 := bo
  have hz := bx.lt
  have fx := fun i => bx.frozen i
  have c0 := bx.cell 0
  have c1 := bx.cell 1
  have c2 := bx.cell 2
  have bx2 := bx.put 1 (.int .i64 A)
  have bo3 := bo.far (p := ⟨w.heap.size + 1, 1, none⟩) (by simp) (.int .i64 A)
  have gK2 : Keep NoB w (w4.setCell ⟨w.heap.size + 1, 1, none⟩ (.int .i64 A)) := gK.setCell (fun h => by have : w.heap.size + 1 < w.heap.size := h; omega) _
  have HO := Lib.hid (fun w => operandOf_any kb ⟨hk1.out.2.1, hk1.out.2.2⟩ w)
  go_wp2_with fail
  refine (HO.out _).mono ?_
  rintro e w5 ⟨sh, gu, rfl, hF, k1⟩
  clear bx bo gK hz fx c0 c1 c2 bo2
  have bx := bx2.keep k1 id
  have bo := bo3.keep k1 id
  have gK := keepN gK2 k1
  clear k1 bx2 bo3 gK2
  obtain ⟨bb, cc, rfl, rfl, hcc⟩ : ∃ b c, sh = boxV 209 b ∧ gu = boxV 210 c ∧ w5.cell? ⟨c, 0, none⟩ = some (fnV (readF kb)) := by
    rcases hF with ⟨h, _⟩ | ⟨h, _⟩ | ⟨_, b, c, h1, h2, _, h4⟩
    · exact absurd h h1
    · exact absurd h (word_dig_no hk1.out.1)
    · exact ⟨b, c, h1, h2, h4⟩
  have hcc := Lib.hid hcc
  clear hF
  dsimp only [opV]
  have hfd := fun w => run_field_gu kb (lo kb) (hi kb) (boxV 209 bb) (boxV 210 cc) w
  go_wp2_with fail
  refine (guess_word kb (str s2) s2 cc _ hk1.out.1 (str_list _) (by rw [str_size]; have := hcl.out; have := hsz.out; have := hl.out; omega) (hL.out.keep gK) hcc.out).mono ?_
  rintro e w6 ⟨rfl, k1⟩
  replace bo := bo.keep k1 id
  replace bx := bx.keep k1 id
  replace gK := keepN gK k1
  clear k1
  rw [← hB.out]
  have hz := bx.lt
  have hzo := bo.lt
  have fx := fun i => bx.frozen i
  have fo := fun i => bo.frozen i
  obtain ⟨c0, c1, c2⟩ := blk_inst bx
  obtain ⟨o0, o1, o2⟩ := blk_inst bo
  go_wp2
  refine bodyPost_ret (v := instV op A B) (by simp [results, Tryz.results218, go_sem, o0, o1, o2]) rfl ⟨rfl, ?_⟩
  repeat' first | exact gK | refine Keep.setCell ?_ (fun h => absurd h (by simp)) _

end Go.Proofs.YtifobiajjhknbaaGreatDoor.O

namespace Go.Proofs.YtifobiajjhknbaaGreatDoor.M
open Go.RowKit W

section
variable {B : Nat} {W W' : World} {T : Nat → Tg} {R : Tg → Row} {F : Tg → Option Mp}
/-- A row is appended to. -/
theorem Parts.app {t0 : Tg} {v' : Value} {n' : Nat} {xs' : List Value} (h : Parts B W T R F) (hB : B ≤ W.heap.size) (ht0 : okT t0) (hs : sole t0) (hF : F t0 = none) (hg : W.grownBy W' (R t0).v.ownBlock) (hr : W'.ownsRow 0 (R t0).E (R t0).sz v' n' xs') (hv : v'.ownBlock = (R t0).v.ownBlock ∨ v'.ownBlock = some W.heap.size) :
    Parts B W' (tagN T W.heap.size W'.heap.size t0) (upR R t0 ⟨(R t0).E, (R t0).sz, v', n', xs'⟩) F ∧ Rnd (BS T) (BS (tagN T W.heap.size W'.heap.size t0)) W W' ∧ Keep (fun k => T k = t0) W W' := by
  have h0 := h.row t0 ht0
  have hk : Keep (fun k => T k = t0) W W' := (Keep.refl _ W).grown hg (fun j e _ => (h0.2 j e).trans hs.1)
  refine ⟨h.grow hB ht0 hs hF hk ⟨hr, fun g e => ?_⟩, Parts.rnd ht0.1 hk, hk⟩
  rcases hv with e1 | e1
  · exact .inl ((h0.2 g (by rw [← e1]; exact e)).trans hs.1)
  · rw [e1] at e; cases e; exact .inr (Nat.le_refl _)
/-- A new row, that a call handed out. -/
theorem Parts.fresh {t0 : Tg} {r : Row} (h : Parts B W T R F) (hB : B ≤ W.heap.size) (ht0 : okT t0) (hs : sole t0) (hF : F t0 = none) (hk : Keep NoB W W') (hr : r.own W' (Fresh W)) :
    Parts B W' (tagN T W.heap.size W'.heap.size t0) (upR R t0 r) F ∧ Rnd (BS T) (BS (tagN T W.heap.size W'.heap.size t0)) W W' :=
  ⟨h.grow hB ht0 hs hF hk.noB (hr.mono (fun _ e _ => .inr e)), Parts.rnd ht0.1 hk.noB⟩
theorem rnd_keep (hk : Keep NoB W W') : Rnd (BS T) (BS T) W W' := Rnd.of_keep hk.noB
/-- A cell of the reader is written. -/
theorem Parts.cell {rb i : Nat} {u : Value} (h : Parts B W T R F) (hr : T rb = .rd) : Parts B (W.setCell ⟨rb, i, none⟩ u) T R F ∧ Rnd (BS T) (BS T) W (W.setCell ⟨rb, i, none⟩ u) := by
  have hk : Keep (fun k => k = rb) W (W.setCell ⟨rb, i, none⟩ u) := (Keep.refl (fun k => k = rb) W).setCell (p := ⟨rb, i, none⟩) (fun _ => rfl) u
  exact ⟨h.keep hk (fun k (e : k = rb) => by rw [e, hr]; exact fun h2 => h2.2 rfl), Rnd.of_keep (hk.mono (fun k e _ => by unfold BS; rw [e, hr]; exact Tg.noConfusion))⟩
end
theorem getElem_snoc {α : Type} {l : List α} {x : α} {i : Nat} (h : i < (l ++ [x]).length) : (∃ h' : i < l.length, (l ++ [x])[i] = l[i]) ∨ (i = l.length ∧ (l ++ [x])[i] = x) := by
  by_cases h' : i < l.length
  · exact .inl ⟨h', List.getElem_append_left h'⟩
  · have : i = l.length := by simp at h; omega
    subst this
    exact .inr ⟨rfl, by simp⟩

/-- The next shape is there. -/
theorem rdr_shape {B : Nat} {W W1 W3 : World} {T : Nat → Tg} {rb : Nat} {v : RV} {es : List I.SE} {fs : List I.FE} {ls : List LE} {R : Tg → Row} {F : Tg → Option Mp} {p : PS} {N : Nat}
    (h : Rdr B W T rb v es fs ls R F p N) (hB : B ≤ W.heap.size) (hk : Keep NoB W W1) {A : Option Addr} {n c : Nat} {x : List Int} (hx : Own W1 3 1 (Fresh W) (.slice A n c) n (ivs x)) (hn : n ≤ 1000) {o : Obj}
    {A' : Option Addr} {c' : Nat} (hr : W3.ownsRow 0 53 1 (.slice A' (v.nx + 1) c') (v.nx + 1) (I.svs es ++ [.slice A n c])) (hg : (W1.alloc o).grownBy W3 (Value.slice v.X v.nx v.cx).ownBlock) (hv : (Value.slice A' (v.nx + 1) c').ownBlock = (Value.slice v.X v.nx v.cx).ownBlock ∨ (Value.slice A' (v.nx + 1) c').ownBlock = some (W1.alloc o).heap.size) :
    ∃ T', Rnd (BS T) (BS T') W (W3.setCell ⟨rb, 0, none⟩ (.slice A' (v.nx + 1) c')) ∧ ∃ v' es' R', v'.ln = v.ln ∧ Rdr B (W3.setCell ⟨rb, 0, none⟩ (.slice A' (v.nx + 1) c')) T' rb v' es' fs ls R' F ⟨⟨p.im.sh ++ [x], p.im.fn⟩, p.last, p.nums, p.labs, p.ms⟩ (N + 1) := by
  have hsz := hk.size
  have ok1 : okT (.se es.length) := ⟨Tg.noConfusion, Tg.noConfusion⟩
  have s1 : sole (.se es.length) := ⟨rfl, by intro t e; cases t <;> first | exact e | cases e⟩
  have s2 : sole .sh := ⟨rfl, by intro t e; cases t <;> first | exact e | cases e⟩
  have ok2 : okT .sh := ⟨Tg.noConfusion, Tg.noConfusion⟩
  obtain ⟨q1, r1⟩ := h.pa.fresh (t0 := .se es.length) (r := ⟨3, 1, .slice A n c, n, ivs x⟩) hB ok1 s1 (h.fno _ (fun i => Tg.noConfusion) Tg.noConfusion) hk hx
  have ka := (Keep.refl NoB W1).alloc o
  have q2 := q1.keepN ka
  have e1 : upR R (.se es.length) ⟨3, 1, .slice A n c, n, ivs x⟩ .sh = _ := (upR_ne _ _ Tg.noConfusion).trans h.rsh
  obtain ⟨q3, r3, k3⟩ := q2.app (t0 := .sh) (v' := .slice A' (v.nx + 1) c') (n' := v.nx + 1) (xs' := I.svs es ++ [.slice A n c]) (by simp; omega) ok2 s2 (h.fno _ (fun i => Tg.noConfusion) Tg.noConfusion) (by rw [e1]; exact hg) (by rw [e1]; exact hr) (by rw [e1]; exact hv)
  rw [e1] at q3
  have t1 : tagN T W.heap.size W1.heap.size (.se es.length) rb = .rd := (tagN_old (h.pa.fit rb (by rw [h.tb]; exact Tg.noConfusion)).2).trans h.tb
  have b2 : Blk (W1.alloc o) rb 82 v.cells := (h.bk.keep hk id).keep ka id
  have t2 := (tagN_old (t := .sh) (b := W3.heap.size) b2.lt).trans t1
  have b3 := b2.keep k3 (by show ¬ _ = _; rw [t1]; exact Tg.noConfusion)
  obtain ⟨q4, r4⟩ := q3.cell (i := 0) (u := .slice A' (v.nx + 1) c') t2
  have b4 := b3.put 0 (.slice A' (v.nx + 1) c')
  refine ⟨_, ((r1.trans (rnd_keep ka)).trans r3).trans r4, { v with X := A', nx := v.nx + 1, cx := c' }, es ++ [(⟨A, n, c⟩, x)], _, rfl, ⟨q4, b4, t2, ?_, ?_, ?_, ?_, ?_, ?_, ?_, h.fnm, ?_, ?_, ?_, ?_, ?_, h.fno, ?_, ?_, h.lb, h.lf, h.la, ?_, ?_, ?_, ?_, ?_, ?_, h.fsm, ?_⟩⟩
  · rw [upR_eq, I.svs_append]; rfl
  · intro i hi
    rw [upR_ne _ _ Tg.noConfusion]
    rcases getElem_snoc hi with ⟨h', e⟩ | ⟨rfl, e⟩
    · rw [e, upR_ne _ _ (by intro e2; injection e2 with e2; omega)]; exact h.rse i h'
    · rw [e, upR_eq]
  · exact ((upR_ne _ _ Tg.noConfusion).trans (upR_ne _ _ Tg.noConfusion)).trans h.rfn
  · exact fun i hi => ((upR_ne _ _ Tg.noConfusion).trans (upR_ne _ _ Tg.noConfusion)).trans (h.rfa i hi)
  · exact fun i hi => ((upR_ne _ _ Tg.noConfusion).trans (upR_ne _ _ Tg.noConfusion)).trans (h.rfb i hi)
  · exact fun i hi => ((upR_ne _ _ Tg.noConfusion).trans (upR_ne _ _ Tg.noConfusion)).trans (h.rfl_ i hi)
  · exact fun i hi => ((upR_ne _ _ Tg.noConfusion).trans (upR_ne _ _ Tg.noConfusion)).trans (h.rbd i hi)
  · exact ((upR_ne _ _ Tg.noConfusion).trans (upR_ne _ _ Tg.noConfusion)).trans h.rlb
  · exact fun i hi => ((upR_ne _ _ Tg.noConfusion).trans (upR_ne _ _ Tg.noConfusion)).trans (h.rnm i hi)
  · exact ((upR_ne _ _ Tg.noConfusion).trans (upR_ne _ _ Tg.noConfusion)).trans h.rmn
  · obtain ⟨m, h1, h2⟩ := h.fnu; exact ⟨m, by omega, h2⟩
  · intro i hi; obtain ⟨m, h1, h2⟩ := h.fpl i hi; exact ⟨m, by omega, h2⟩
  · exact ⟨by rw [upR_ne _ _ Tg.noConfusion, upR_ne _ _ Tg.noConfusion]; exact h.rno.1, fun i => by rw [upR_ne _ _ Tg.noConfusion, upR_ne _ _ Tg.noConfusion]; exact h.rno.2 i⟩
  · have e := h.im; unfold I.imOf at e ⊢; rw [← e]; simp
  · have := h.bx; simp; omega
  · have := h.by_; omega
  · have := h.bm; show p.ms.length ≤ _; omega
  · intro i hi; have := h.bd i hi; omega
  · intro i hi; have := h.bl i hi; omega
  · intro i hi
    rcases getElem_snoc hi with ⟨h', e⟩ | ⟨rfl, e⟩
    · rw [e]; exact h.esm i h'
    · rw [e]; show n ≤ _; omega
  · exact h.wm

end Go.Proofs.YtifobiajjhknbaaGreatDoor.M

namespace Go.Proofs.YtifobiajjhknbaaGreatDoor.M
open Go.RowKit W

/-- The reader, in a world behind w0, of blocks that are newer. -/
def RdAt (w0 W : World) (T : Nat → Tg) (rb : Nat) (p : PS) (N ln : Nat) : Prop :=
  Keep NoB w0 W ∧ ∃ v es fs ls R F, v.ln = ln ∧ Rdr w0.heap.size W T rb v es fs ls R F p N
/-- What is laid ahead. -/
def EnvM (w : World) : Prop := O.LaidO w ∧ O.CutAt w
theorem EnvM.keep {w w' : World} (h : EnvM w) (hk : Keep NoB w w') : EnvM w' := ⟨h.1.keep hk, h.2.keep hk⟩
/-- How a try of the reader ends. -/
def TryR (w0 W : World) (T : Nat → Tg) (rb : Nat) (p : PS) (N ln : Nat) (q : Option PS) (e : Ending) (W' : World) : Prop :=
  ∃ T', Rnd (BS T) (BS T') W W' ∧ ((q = none ∧ e = .returned (.bool false) ∧ RdAt w0 W' T' rb p N ln) ∨ (∃ p', q = some p' ∧ e = .returned (.bool true) ∧ RdAt w0 W' T' rb (p'.to p.last) (N + 2) ln))
section
variable {w0 W W' : World} {T T' : Nat → Tg} {rb N ln : Nat} {p : PS} {q : Option PS}
theorem Rdr.keepN {B : Nat} {v : RV} {es : List I.SE} {fs : List I.FE} {ls : List LE} {R : Tg → Row} {F : Tg → Option Mp} (h : Rdr B W T rb v es fs ls R F p N) (hk : Keep NoB W W') : Rdr B W' T rb v es fs ls R F p N :=
  { h with pa := h.pa.keepN hk, bk := h.bk.keep hk id }
theorem RdAt.keepN (h : RdAt w0 W T rb p N ln) (hk : Keep NoB W W') : RdAt w0 W' T rb p N ln := by
  obtain ⟨h1, v, es, fs, ls, R, F, h2, h3⟩ := h
  exact ⟨_root_.Go.Proofs.YtifobiajjhknbaaGreatDoor.keepN h1 hk, v, es, fs, ls, R, F, h2, h3.keepN hk⟩
theorem keep_rnd {R : Tg → Row} {F : Tg → Option Mp} (P : Parts w0.heap.size W T R F) (h : Keep NoB w0 W) (hr : Rnd (BS T) (BS T') W W') : Keep NoB w0 W' :=
  h.trans hr.keep (fun k h2 hl => by have := (P.fit k h2).1; omega)
theorem try_no (h : RdAt w0 W T rb p N ln) (hk : Keep NoB W W') (hq : q = none) : TryR w0 W T rb p N ln q (.returned (.bool false)) W' :=
  ⟨T, rnd_keep hk, .inl ⟨hq, rfl, h.keepN hk⟩⟩
end
theorem shapeM_info : (Tryz.prog.info? 53).map (fun i => (i.zero, i.size, i.bytes)) = some (some (.slice none 0 0), 1, 24) := by kernel_rfl
theorem rdS_fit {s : Bs} {x : List Int} (h : S.rdS s = some x) : x.length ≤ 16 := by
  unfold S.rdS at h
  split at h
  · cases h
  · split at h
    · rename_i ho
      injection h with h
      subst h
      exact ((S.okS_iff _).1 ho).1.2
    · cases h
/-- More lines. -/
theorem Rdr.more {B : Nat} {W : World} {T : Nat → Tg} {rb : Nat} {v : RV} {es : List I.SE} {fs : List I.FE} {ls : List LE} {R : Tg → Row} {F : Tg → Option Mp} {p : PS} {N : Nat}
    (h : Rdr B W T rb v es fs ls R F p N) : Rdr B W T rb v es fs ls R F p (N + 1) :=
  { h with
    fnu := by obtain ⟨n, h1, h2⟩ := h.fnu; exact ⟨n, by omega, h2⟩
    fpl := fun i hi => by obtain ⟨n, h1, h2⟩ := h.fpl i hi; exact ⟨n, by omega, h2⟩
    bx := by have := h.bx; omega
    by_ := by have := h.by_; omega
    bm := by have := h.bm; omega
    bd := fun i hi => by have := h.bd i hi; omega
    bl := fun i hi => by have := h.bl i hi; omega }
theorem pShape_no1 {p : PS} {ws : List Bs} (h : p.last ≠ 0) : pShape p ws = none := by
  unfold pShape; split
  · exact if_neg (fun h2 => h h2.1)
  · rfl
theorem pShape_no2 {p : PS} {ws : List Bs} (h : ws.length ≠ 2) : pShape p ws = none := by
  unfold pShape; split
  · exact absurd rfl h
  · rfl
theorem pShape_no3 {p : PS} {a b : Bs} (h : a ≠ shapeW) : pShape p [a, b] = none := if_neg (fun h2 => h h2.2)
theorem pShape_yes {p : PS} {b : Bs} (h : p.last = 0) : pShape p [shapeW, b] = (S.rdS b).map fun x => PS.mk ⟨p.im.sh ++ [x], p.im.fn⟩ 0 p.nums p.labs p.ms := if_pos ⟨h, rfl⟩

set_option maxRecDepth 100000 in
set_option maxHeartbeats 4000000 in
theorem readShape_any (w0 W : World) (T : Nat → Tg) (rb : Nat) (p : PS) (N ln : Nat) (hE : Hid (EnvM w0)) (h : RdAt w0 W T rb p N ln) (hN : N ≤ 300000) (A : Option Addr) (ws : List Bs) (n c : Nat) (hw : Rd W A (sv ws)) (hn : ws.length = n) (hnc : n ≤ c) (hwl : ∀ x ∈ ws, x.length ≤ 140000) :
    Calls Tryz.prog 106 #[.pointer (some ⟨rb, 0, none⟩), .slice A n c] W (TryR w0 W T rb p N ln (pShape p ws)) := by
  have HR := Lib.hid h
  obtain ⟨hk0, v, es, fs, ls, R, F, hln, hr⟩ := h
  obtain ⟨c0, c1, c2, c3, c4, c5, c6⟩ := rd_cells hr.bk
  have hla := hr.la
  rw [hla] at c3
  have HW := Lib.hid hr
  have HK := Lib.hid hk0
  have HLn := Lib.hid hln
  clear hr hk0 c1 c2 c4 c5 c6 hln
  by_cases h1 : p.last = 0
  · by_cases h2 : n = 2
    · subst h2
      obtain ⟨a, b, rfl⟩ : ∃ a b, ws = [a, b] := by
        match ws, hn with
        | [a, b], _ => exact ⟨a, b, rfl⟩
      obtain ⟨g, off, rfl, hcs⟩ := sv_at hw (by simp)
      have s0 := hcs 0 (by simp)
      have s1 := hcs 1 (by simp)
      simp only [List.getElem_cons_zero, List.getElem_cons_succ, Nat.add_zero] at s0 s1
      rw [h1] at c3
      by_cases h3 : a = shapeW
      · subst h3
        have hbl : b.length ≤ 140000 := hwl b (by simp)
        have HRd := Lib.hid (S.readS_any (str b) b W (hE.out.1.lets.keep HK.out) (Lib.hid (by simp)) (by rw [size_of (S := str b) (s := b) (by simp)]; omega))
        have HP := Lib.hid (pShape_yes (p := p) (b := b) h1)
        obtain ⟨x, hx⟩ : ∃ x, S.rdS b = x := ⟨_, rfl⟩
        rw [hx] at HRd HP
        have HX := Lib.hid hx
        clear hwl hcs hw hx hn
        generalize str b = SB at *
        unfold S.ReadR at HRd
        cases x with
        | none =>
          go_enter Tryz.func106, Tryz.ntmps106
          go_wp2_with fail
          refine HRd.out.mono ?_
          rintro e w1 ⟨u, rfl, hu, k1⟩
          go_wp2
          go_ret
          exact try_no HR.out k1 HP.out
        | some x =>
          dsimp only [S.rsL, S.rsE] at HRd
          go_enter Tryz.func106, Tryz.ntmps106
          go_wp2_with fail
          refine HRd.out.mono ?_
          rintro e w1 ⟨u, rfl, hu, k1⟩
          obtain ⟨A1, d1, rfl, _⟩ := hu.form
          have hbk := HW.out.bk.keep k1 id
          obtain ⟨q0, _⟩ := rd_cells hbk
          have hro := HW.out.pa.row .sh ⟨Tg.noConfusion, Tg.noConfusion⟩
          rw [HW.out.rsh] at hro
          have hro1 : World.ownsRow (w1.alloc (.cells #[.slice A1 x.length d1] 53)) 0 53 1 (.slice v.X v.nx v.cx) v.nx (I.svs es) := (hro.keepN k1).1.alloc (.cells #[.slice A1 x.length d1] 53)
          have hnx : v.nx ≤ 300000 := by
            have h5 := hro1.1
            have h6 := HW.out.bx
            rw [I.svs_length] at h5
            omega
          have hne : some rb ≠ (Value.slice v.X v.nx v.cx).ownBlock := fun e => by
            have h5 : T rb = .sh := hro.2 rb e.symm
            rw [HW.out.tb] at h5; cases h5
          have hb2 := hbk.alloc (.cells #[.slice A1 x.length d1] 53)
          have hx1000 : x.length ≤ 1000 := by
            have h5 := rdS_fit HX.out
            omega
          obtain ⟨i0, hi, hz0, hz1, hz2⟩ := info_parts shapeM_info
          have HU := Lib.hid (And.intro hu k1)
          clear hro hbk hu k1
          go_wp2_with (at_builtin; refine wpList_append_rd _ rfl (.tmp 37) (.tmp 39) _ rfl 53 1 24 i0 _ Tryz.underlying24 hi hz0 hz1 hz2 rfl (by decide) _ v.nx _ _ 1 _ [.slice A1 x.length d1] rfl hro1 rfl rd_one rfl (by simp [Value.oneCell']) (by unfold maxLen; omega) (by omega) ?_; intro A2 c2 w3 hrow3 hg3 hv3; have hb3 := hb2.grown hg3 hne; have d0 := hb3.cell 0; have f0 := hb3.frozen 0; simp only [RV.cells, List.getElem?_toArray, List.getElem?_cons_zero] at d0)
          go_ret
          obtain ⟨T', r1, v', es', R', hv', hr'⟩ := rdr_shape HW.out HK.out.size HU.out.2 HU.out.1 hx1000 hrow3 hg3 hv3
          exact ⟨T', r1, .inr ⟨_, HP.out, rfl, keep_rnd HW.out.pa HK.out r1, v', es', fs, ls, R', F, hv'.trans HLn.out, hr'.more⟩⟩
      · have HP := Lib.hid (pShape_no3 (p := p) (b := b) h3)
        have hne : (a == [115, 104, 97, 112, 101]) = false := by rw [beq_eq_false_iff_ne]; exact h3
        go_enter Tryz.func106, Tryz.ntmps106
        go_wp2
        go_ret
        exact try_no HR.out (Keep.refl _ _) HP.out
    · have HP := Lib.hid (pShape_no2 (p := p) (ws := ws) (by omega))
      rw [h1] at c3
      have hn2 : ((n : Int) == 2) = false := by rw [beq_eq_false_iff_ne]; omega
      go_enter Tryz.func106, Tryz.ntmps106
      go_wp2
      go_ret
      exact try_no HR.out (Keep.refl _ _) HP.out
  · have HP := Lib.hid (pShape_no1 (ws := ws) h1)
    have hl2 : (((p.last : Nat) : Int) == 0) = false := by rw [beq_eq_false_iff_ne]; omega
    go_enter Tryz.func106, Tryz.ntmps106
    go_wp2
    go_ret
    exact try_no HR.out (Keep.refl _ _) HP.out

end Go.Proofs.YtifobiajjhknbaaGreatDoor.M

namespace Go.Proofs.YtifobiajjhknbaaGreatDoor.M
open Go.RowKit W

theorem mvs_ext {mb : Nat} {ls : List LE} (l : LE) : ∀ {ms : List Mn}, (∀ m ∈ ms, m.k = 1 → m.fn < ls.length) → mvs mb (ls ++ [l]) ms = mvs mb ls ms
  | [], _ => rfl
  | m :: r, h => by
    have ih := mvs_ext (mb := mb) l (ms := r) (fun x hx => h x (List.mem_cons_of_mem _ hx))
    have e : among mb (ls ++ [l]) m = among mb ls m := by
      unfold among
      split
      · rfl
      · split
        · rename_i h1
          rw [List.getElem?_append_left (h m (by simp) h1)]
        · rfl
    unfold mvs at ih ⊢
    rw [List.flatMap_cons, List.flatMap_cons, ih]
    unfold mnC
    rw [e]
/-- Rows of no function yet. -/
theorem rdr_pair {B : Nat} {W W1 : World} {T : Nat → Tg} {rb : Nat} {v : RV} {es : List I.SE} {fs : List I.FE} {ls : List LE} {R : Tg → Row} {F : Tg → Option Mp} {p : PS} {N : Nat}
    (h : Rdr B W T rb v es fs ls R F p N) (hB : B ≤ W.heap.size) (hk : Keep NoB W W1) {r1 r2 : Row} (h1 : r1.own W1 (Fresh W)) (h2 : r2.own W1 (Fresh W)) :
    Rdr B W1 (tagN T W.heap.size W1.heap.size (.fa fs.length)) rb v es fs ls (upR (upR R (.fa fs.length) r1) (.fb fs.length) r2) F p N ∧ Rnd (BS T) (BS (tagN T W.heap.size W1.heap.size (.fa fs.length))) W W1 := by
  refine ⟨{ h with pa := h.pa.pair hB hk h1 h2, bk := h.bk.keep hk id, tb := (tagN_old (h.pa.fit rb (by rw [h.tb]; exact Tg.noConfusion)).2).trans h.tb, rsh := ?_, rse := ?_, rfn := ?_, rfa := ?_, rfb := ?_, rfl_ := ?_, rbd := ?_, rlb := ?_, rnm := ?_, rmn := ?_, rno := ?_ }, Parts.rnd (t0 := .fa fs.length) Tg.noConfusion hk.noB⟩
  · simp [upR]; exact h.rsh
  · intro i hi; simp [upR]; exact h.rse i hi
  · simp [upR]; exact h.rfn
  · intro i hi; have hne : ¬ i = fs.length := by omega
    simp [upR, hne]; exact h.rfa i hi
  · intro i hi; have hne : ¬ i = fs.length := by omega
    simp [upR, hne]; exact h.rfb i hi
  · intro i hi; simp [upR]; exact h.rfl_ i hi
  · intro i hi; simp [upR]; exact h.rbd i hi
  · simp [upR]; exact h.rlb
  · intro i hi; simp [upR]; exact h.rnm i hi
  · simp [upR]; exact h.rmn
  · exact ⟨by simp [upR]; exact h.rno.1, fun i => by simp [upR]; exact h.rno.2 i⟩
/-- A name's number is noted. -/
theorem rdr_nums {B : Nat} {W W1 : World} {T : Nat → Tg} {rb : Nat} {v : RV} {es : List I.SE} {fs : List I.FE} {ls : List LE} {R : Tg → Row} {F : Tg → Option Mp} {p : PS} {N n : Nat} {f : Pl}
    (h : Rdr B W T rb v es fs ls R F p N) (hn : n ≤ N + 1) (hg : W.grownBy W1 (some v.mb)) (hM : OMap Tryz.prog 9 3 v.mb n f W1) :
    ∃ F', Rdr B W1 T rb v es fs ls R F' ⟨p.im, p.last, f, p.labs, p.ms⟩ (N + 1) ∧ Rnd (BS T) (BS T) W W1 := by
  obtain ⟨m, hm1, hm2⟩ := h.fnu
  obtain ⟨q1, q2⟩ := h.pa.set hm2 h.rno.1 hg hM
  have hne : rb ≠ v.mb := by
    have h1 := (h.pa.map _ _ hm2).2.1
    have h2 := h.tb
    rintro rfl
    rw [h1] at h2; cases h2
  refine ⟨_, { h with pa := q1, bk := h.bk.grown hg (by simpa using hne), fnu := ⟨n, hn, upR_eq _ _ _⟩, fpl := ?_, fno := ?_, bx := by have := h.bx; omega, by_ := by have := h.by_; omega, bm := by have := h.bm; show p.ms.length ≤ _; omega, bd := fun i hi => by have := h.bd i hi; omega, bl := fun i hi => by have := h.bl i hi; omega }, q2⟩
  · intro i hi
    obtain ⟨n', h1, h2⟩ := h.fpl i hi
    exact ⟨n', by omega, (upR_ne _ _ Tg.noConfusion).trans h2⟩
  · intro t h1 h2
    exact (upR_ne _ _ h2).trans (h.fno t h1 h2)
section
variable {B : Nat} {W : World} {T : Nat → Tg} {R : Tg → Row} {F : Tg → Option Mp}
/-- A row that is none. -/
theorem Parts.nil (h : Parts B W T R F) (t0 : Tg) (E sz : Nat) : Parts B W T (upR R t0 ⟨E, sz, .slice none 0 0, 0, []⟩) F := by
  refine ⟨fun t ht => ?_, h.map, h.fit⟩
  by_cases e : t = t0
  · subst e; rw [upR_eq]; exact Own.nil _ _ _ _
  · rw [upR_ne _ _ e]; exact h.row t ht
end

set_option maxHeartbeats 1000000 in
/-- The next function is there. -/
theorem rdr_func {B : Nat} {W Wd Wc We Wi : World} {T : Nat → Tg} {rb : Nat} {v : RV} {es : List I.SE} {fs : List I.FE} {ls : List LE} {R : Tg → Row} {F : Tg → Option Mp} {p : PS} {N : Nat}
    (h : Rdr B W T rb v es fs ls R F p N) (hB : B ≤ W.heap.size) (hk : Keep NoB W Wd) {S : ByteArray} {nm : Bs} {A A2 : Option Addr} {na ca nb cb : Nat} {ar rs : List Int}
    (hnm : S.data.toList = nm) (hnl : S.size ≤ 140000) (hna : na ≤ 140000) (hnb : nb ≤ 140000) (h1 : R (.fa fs.length) = ⟨3, 1, .slice A na ca, na, ivs ar⟩) (h2 : R (.fb fs.length) = ⟨3, 1, .slice A2 nb cb, nb, ivs rs⟩) {o : Obj}
    {Y' : Option Addr} {cy' : Nat} (hk9 : Keep NoB Wc We) (hr : Wc.ownsRow 0 35 5 (.slice Y' (v.ny + 1) cy') (v.ny + 1) (I.fvs fs ++ [.string S, .slice A na ca, .slice A2 nb cb, .slice none 0 0, .slice none 0 0])) (hg : Wd.grownBy Wc (Value.slice v.Y v.ny v.cy).ownBlock) (hv : (Value.slice Y' (v.ny + 1) cy').ownBlock = (Value.slice v.Y v.ny v.cy).ownBlock ∨ (Value.slice Y' (v.ny + 1) cy').ownBlock = some Wd.heap.size)
    {Wf : World} (hWf : We.setCell ⟨rb, 1, none⟩ (.slice Y' (v.ny + 1) cy') = Wf)
    {L' : Option Addr} {cl' : Nat} (hr2 : Wi.ownsRow 0 84 2 (.slice L' (v.nl + 1) cl') (v.nl + 1) (lvs ls ++ [.slice none 0 0, .map (some Wf.heap.size)])) (hg2 : ((Wf.alloc (.map #[] 0)).alloc o).grownBy Wi (Value.slice v.L v.nl v.cl).ownBlock) (hv2 : (Value.slice L' (v.nl + 1) cl').ownBlock = (Value.slice v.L v.nl v.cl).ownBlock ∨ (Value.slice L' (v.nl + 1) cl').ownBlock = some ((Wf.alloc (.map #[] 0)).alloc o).heap.size) :
    ∃ T', Rnd (BS T) (BS T') W (Wi.setCell ⟨rb, 5, none⟩ (.slice L' (v.nl + 1) cl')) ∧ ∃ v' fs' ls' R' F', v'.ln = v.ln ∧ Rdr B (Wi.setCell ⟨rb, 5, none⟩ (.slice L' (v.nl + 1) cl')) T' rb v' es fs' ls' R' F' ⟨⟨p.im.sh, p.im.fn ++ [⟨nm, ar, rs, [], []⟩]⟩, p.last, p.nums, p.labs ++ [lb0], p.ms⟩ (N + 1) := by
  subst hWf
  have hsz := hk.size
  have s1 : sole .fn := ⟨rfl, by intro t e; cases t <;> first | exact e | cases e⟩
  have s2 : sole .lb := ⟨rfl, by intro t e; cases t <;> first | exact e | cases e⟩
  have s3 : sole (.pl ls.length) := ⟨rfl, by intro t e; cases t <;> first | exact e | cases e⟩
  have o1 : okT .fn := ⟨Tg.noConfusion, Tg.noConfusion⟩
  have o2 : okT .lb := ⟨Tg.noConfusion, Tg.noConfusion⟩
  have o3 : okT (.pl ls.length) := ⟨Tg.noConfusion, Tg.noConfusion⟩
  have q0 := ((((h.pa.keepN hk).nil (.fl fs.length) 3 1).nil (.bd fs.length) 37 3).nil (.nm ls.length) 9 1)
  have e0 : upR (upR (upR R (.fl fs.length) ⟨3, 1, .slice none 0 0, 0, []⟩) (.bd fs.length) ⟨37, 3, .slice none 0 0, 0, []⟩) (.nm ls.length) ⟨9, 1, .slice none 0 0, 0, []⟩ .fn = R .fn := by simp only [upR, reduceCtorEq, if_false]
  rw [h.rfn] at e0
  obtain ⟨q1, r1, k1⟩ := q0.app (t0 := .fn) (v' := .slice Y' (v.ny + 1) cy') (n' := v.ny + 1) (xs' := I.fvs fs ++ [.string S, .slice A na ca, .slice A2 nb cb, .slice none 0 0, .slice none 0 0]) (by omega) o1 s1 (h.fno _ (fun i => Tg.noConfusion) Tg.noConfusion) (by rw [e0]; exact hg) (by rw [e0]; exact hr) (by rw [e0]; exact hv)
  rw [e0] at q1
  have b1 := h.bk.keep hk id
  have t1 := (tagN_old (t := .fn) (b := Wc.heap.size) b1.lt).trans h.tb
  have b2 := (b1.keep k1 (by show ¬ _ = _; rw [h.tb]; exact Tg.noConfusion)).keep hk9 id
  have hsz9 := hk9.size
  obtain ⟨q2, r2⟩ := (q1.keepN hk9).cell (i := 1) (u := .slice Y' (v.ny + 1) cy') t1
  have b3 := b2.put 1 (.slice Y' (v.ny + 1) cy')
  have hszf : (We.setCell ⟨rb, 1, none⟩ (.slice Y' (v.ny + 1) cy')).heap.size = We.heap.size := by simp [World.setCell]
  have hsz1 := k1.size
  generalize We.setCell ⟨rb, 1, none⟩ (.slice Y' (v.ny + 1) cy') = Wf at *
  have q3 := q2.make (t0 := .pl ls.length) (by omega) o3 s3 (by simp only [upR, reduceCtorEq, if_false]; exact h.rno.2 _)
  have b4 := b3.alloc (.map #[] 0)
  have r3 : Rnd (BS (tagN T Wd.heap.size Wc.heap.size .fn)) (BS (tagN (tagN T Wd.heap.size Wc.heap.size .fn) Wf.heap.size (Wf.heap.size + 1) (.pl ls.length))) Wf (Wf.alloc (.map #[] 0)) := by
    have := Parts.rnd (T := tagN T Wd.heap.size Wc.heap.size .fn) (t0 := .pl ls.length) Tg.noConfusion (((Keep.refl NoB Wf).alloc (.map #[] 0)).noB)
    rwa [World.size_alloc] at this
  have t3 := (tagN_old (t := .pl ls.length) (b := Wf.heap.size + 1) b3.lt).trans t1
  have ka := (Keep.refl NoB (Wf.alloc (.map #[] 0))).alloc o
  have q4 := q3.keepN ka
  have b5 := b4.alloc o
  have e4 : upR (upR (upR (upR R (.fl fs.length) ⟨3, 1, .slice none 0 0, 0, []⟩) (.bd fs.length) ⟨37, 3, .slice none 0 0, 0, []⟩) (.nm ls.length) ⟨9, 1, .slice none 0 0, 0, []⟩) .fn ⟨35, 5, .slice Y' (v.ny + 1) cy', v.ny + 1, I.fvs fs ++ [.string S, .slice A na ca, .slice A2 nb cb, .slice none 0 0, .slice none 0 0]⟩ .lb = R .lb := by simp only [upR, reduceCtorEq, if_false]
  rw [h.rlb] at e4
  obtain ⟨q5, r5, k5⟩ := q4.app (t0 := .lb) (v' := .slice L' (v.nl + 1) cl') (n' := v.nl + 1) (xs' := lvs ls ++ [.slice none 0 0, .map (some Wf.heap.size)]) (by simp; omega) o2 s2 ((upR_ne _ _ Tg.noConfusion).trans (h.fno _ (fun i => Tg.noConfusion) Tg.noConfusion)) (by rw [e4]; exact hg2) (by rw [e4]; exact hr2) (by rw [e4]; exact hv2)
  rw [e4] at q5
  have t5 := (tagN_old (t := .lb) (b := Wi.heap.size) b5.lt).trans t3
  have b6 := b5.keep k5 (by show ¬ _ = _; rw [t3]; exact Tg.noConfusion)
  obtain ⟨q6, r6⟩ := q5.cell (i := 5) (u := .slice L' (v.nl + 1) cl') t5
  have b7 := b6.put 5 (.slice L' (v.nl + 1) cl')
  have hlf := h.lf
  refine ⟨_, ((((((((rnd_keep hk).trans r1).trans (rnd_keep hk9)).trans r2).trans r3)).trans (rnd_keep ka)).trans r5).trans r6, { v with Y := Y', ny := v.ny + 1, cy := cy', L := L', nl := v.nl + 1, cl := cl' }, fs ++ [(⟨S, A, na, ca, A2, nb, cb, none, 0, 0, none, 0, 0⟩, ⟨nm, ar, rs, [], []⟩)], ls ++ [⟨none, 0, 0, Wf.heap.size, [], fun _ => none⟩], _, _, rfl,
    { pa := q6, bk := b7, tb := t5, rsh := ?_, rse := ?_, rfn := ?_, rfa := ?_, rfb := ?_, rfl_ := ?_, rbd := ?_, fnm := ?_, rlb := ?_, rnm := ?_, rmn := ?_, fnu := ?_, fpl := ?_, fno := ?_, rno := ?_, im := ?_, lb := ?_, lf := ?_, la := h.la, bx := ?_, by_ := ?_, bm := ?_, bd := ?_, bl := ?_, esm := h.esm, fsm := ?_, wm := ?_ }⟩
  · simp [upR]; exact h.rsh
  · intro i hi; simp [upR]; exact h.rse i hi
  · simp only [upR, reduceCtorEq, if_false, if_true]; rw [I.fvs_append]; rfl
  · intro i hi; simp only [upR, reduceCtorEq, if_false]
    rcases getElem_snoc hi with ⟨h', e⟩ | ⟨rfl, e⟩
    · rw [e]; exact h.rfa i h'
    · rw [e]; exact h1
  · intro i hi; simp only [upR, reduceCtorEq, if_false]
    rcases getElem_snoc hi with ⟨h', e⟩ | ⟨rfl, e⟩
    · rw [e]; exact h.rfb i h'
    · rw [e]; exact h2
  · intro i hi; simp only [upR, reduceCtorEq, if_false]
    rcases getElem_snoc hi with ⟨h', e⟩ | ⟨rfl, e⟩
    · rw [e, if_neg (by intro e2; injection e2 with e2; omega)]; exact h.rfl_ i h'
    · rw [e, if_pos rfl]; rfl
  · intro i hi; simp only [upR, reduceCtorEq, if_false]
    rcases getElem_snoc hi with ⟨h', e⟩ | ⟨rfl, e⟩
    · rw [e, if_neg (by intro e2; injection e2 with e2; omega)]; exact h.rbd i h'
    · rw [e, if_pos rfl]; rfl
  · intro i hi
    rcases getElem_snoc hi with ⟨h', e⟩ | ⟨rfl, e⟩
    · rw [e]; exact h.fnm i h'
    · rw [e]; exact ⟨hnm, fun x hx => nomatch hx⟩
  · simp only [upR, reduceCtorEq, if_false, if_true]; rw [lvs_append]; rfl
  · intro i hi; simp only [upR, reduceCtorEq, if_false]
    rcases getElem_snoc hi with ⟨h', e⟩ | ⟨rfl, e⟩
    · rw [e, if_neg (by intro e2; injection e2 with e2; omega)]; exact h.rnm i h'
    · rw [e, if_pos rfl]; rfl
  · simp only [upR, reduceCtorEq, if_false]
    rw [mvs_ext _ h.wm]; exact h.rmn
  · obtain ⟨m, g1, g2⟩ := h.fnu; exact ⟨m, by omega, (upR_ne _ _ Tg.noConfusion).trans g2⟩
  · intro i hi
    rcases getElem_snoc hi with ⟨h', e⟩ | ⟨rfl, e⟩
    · obtain ⟨m, g1, g2⟩ := h.fpl i h'
      rw [e]
      exact ⟨m, by omega, (upR_ne _ _ (by intro e2; injection e2 with e2; omega)).trans g2⟩
    · rw [e]; exact ⟨0, Nat.zero_le _, upR_eq _ _ _⟩
  · intro t g1 g2; exact (upR_ne _ _ (g1 _)).trans (h.fno t g1 g2)
  · exact ⟨by simp only [upR, reduceCtorEq, if_false]; exact h.rno.1, fun i => by simp only [upR, reduceCtorEq, if_false]; exact h.rno.2 i⟩
  · have e := h.im; unfold I.imOf at e ⊢; rw [← e]; simp
  · rw [List.map_append, h.lb]; rfl
  · simp; omega
  · have := h.bx; omega
  · have := h.by_; simp; omega
  · have := h.bm; show p.ms.length ≤ _; omega
  · intro i hi
    rcases getElem_snoc hi with ⟨h', e⟩ | ⟨rfl, e⟩
    · have := h.bd i h'; rw [e]; omega
    · rw [e]; exact Nat.zero_le _
  · intro i hi
    rcases getElem_snoc hi with ⟨h', e⟩ | ⟨rfl, e⟩
    · have := h.bl i h'; rw [e]; omega
    · rw [e]; exact Nat.zero_le _
  · intro i hi
    rcases getElem_snoc hi with ⟨h', e⟩ | ⟨rfl, e⟩
    · rw [e]; exact h.fsm i h'
    · rw [e]; exact ⟨by show S.size ≤ _; omega, by show na ≤ _; omega, by show nb ≤ _; omega, Nat.zero_le _, Nat.zero_le _⟩
  · intro m hm e; have := h.wm m hm e; simp; omega

/-- While the next function is noted. -/
theorem func_mid {B : Nat} {W Wd Wc We : World} {T : Nat → Tg} {rb : Nat} {v : RV} {es : List I.SE} {fs : List I.FE} {ls : List LE} {R : Tg → Row} {F : Tg → Option Mp} {p : PS} {N : Nat}
    (h : Rdr B W T rb v es fs ls R F p N) (hk : Keep NoB W Wd) (hg : Wd.grownBy Wc (Value.slice v.Y v.ny v.cy).ownBlock) (hk9 : Keep NoB Wc We) (u : Value) (o o' : Obj) :
    Blk We rb 82 v.cells ∧ Blk (We.setCell ⟨rb, 1, none⟩ u) rb 82 (v.cells.setIfInBounds 1 u) ∧
    (((We.setCell ⟨rb, 1, none⟩ u).alloc o').alloc o).ownsRow 0 84 2 (.slice v.L v.nl v.cl) v.nl (lvs ls) ∧
    (∀ Wi, (((We.setCell ⟨rb, 1, none⟩ u).alloc o').alloc o).grownBy Wi (Value.slice v.L v.nl v.cl).ownBlock → Blk Wi rb 82 (v.cells.setIfInBounds 1 u)) := by
  have o1 : okT .fn := ⟨Tg.noConfusion, Tg.noConfusion⟩
  have o2 : okT .lb := ⟨Tg.noConfusion, Tg.noConfusion⟩
  have hf := h.pa.row .fn o1
  rw [h.rfn] at hf
  have hl := h.pa.row .lb o2
  rw [h.rlb] at hl
  have ne1 : some rb ≠ (Value.slice v.Y v.ny v.cy).ownBlock := fun e => by
    have h5 : T rb = .fn := hf.2 rb e.symm
    rw [h.tb] at h5; cases h5
  have ne2 : some rb ≠ (Value.slice v.L v.nl v.cl).ownBlock := fun e => by
    have h5 : T rb = .lb := hl.2 rb e.symm
    rw [h.tb] at h5; cases h5
  have b1 := ((h.bk.keep hk id).grown hg ne1).keep hk9 id
  have b2 := b1.put 1 u
  have k1 : Keep (fun k => T k = .fn) Wd We := ((Keep.refl _ Wd).grown hg (fun j e _ => hf.2 j e)).trans hk9 (fun _ hf _ => hf.elim)
  have k2 : Keep (fun k => k = rb) We (We.setCell ⟨rb, 1, none⟩ u) := (Keep.refl (fun k => k = rb) We).setCell (p := ⟨rb, 1, none⟩) (fun _ => rfl) u
  have r1 : Own We 84 2 (fun k => T k = .lb) (.slice v.L v.nl v.cl) v.nl (lvs ls) := Own.keep (Own.keepN hl hk) k1 (fun k (e : T k = .lb) (e2 : T k = .fn) => by rw [e] at e2; cases e2)
  have r2 := r1.keep k2 (fun k (e : T k = .lb) (e2 : k = rb) => by rw [e2, h.tb] at e; cases e)
  exact ⟨b1, b2, ((r2.keepN ((Keep.refl NoB _).alloc o')).keepN ((Keep.refl NoB _).alloc o)).1, fun Wi hgi => ((b2.alloc o').alloc o).grown hgi ne2⟩

end Go.Proofs.YtifobiajjhknbaaGreatDoor.M

namespace Go.Proofs.YtifobiajjhknbaaGreatDoor.M
open Go.RowKit W

theorem tagN_same (T : Nat → Tg) (a : Nat) (t : Tg) : tagN T a a t = T := by
  funext k
  exact if_neg (by omega)
section
variable {B : Nat} {W W' : World} {T : Nat → Tg} {R : Tg → Row} {F : Tg → Option Mp}
/-- A cell of a row is written. -/
theorem Parts.put {t0 : Tg} {g n c E sz : Nat} {xs : List Value} (h : Parts B W T R F) (hB : B ≤ W.heap.size) (ht0 : okT t0) (hs : sole t0) (hF : F t0 = none) (hR : R t0 = ⟨E, sz, .slice (some ⟨g, 0, none⟩) n c, n, xs⟩) (j : Nat) (u : Value) :
    Parts B (W.setCell ⟨g, j, none⟩ u) T (upR R t0 ⟨E, sz, .slice (some ⟨g, 0, none⟩) n c, n, xs.set j u⟩) F ∧ Rnd (BS T) (BS T) W (W.setCell ⟨g, j, none⟩ u) ∧ T g = t0 := by
  have h0 := h.row t0 ht0
  rw [hR] at h0
  have hg : T g = t0 := (h0.2 g rfl).trans hs.1
  have h1 : World.ownsRow W 0 E sz (.slice (some ⟨g, 0, none⟩) n c) n xs := h0.1
  obtain ⟨h2, h3⟩ := h1.stored j u
  have hk : Keep (fun k => T k = t0) W (W.setCell ⟨g, j, none⟩ u) := (Keep.refl _ W).grown h3 (fun k e _ => by cases e; exact hg)
  have hsz : (W.setCell ⟨g, j, none⟩ u).heap.size = W.heap.size := by simp [World.setCell]
  have q := h.grow (r := ⟨E, sz, .slice (some ⟨g, 0, none⟩) n c, n, xs.set j u⟩) hB ht0 hs hF hk ⟨h2, fun k e => .inl (by cases e; exact hg)⟩
  rw [hsz, tagN_same] at q
  have r := Parts.rnd ht0.1 hk
  rw [hsz, tagN_same] at r
  exact ⟨q, r, hg⟩
end
theorem fvs_set : ∀ (fs : List I.FE) (e e' : I.FE) (j : Nat) (u : Value), j < 5 → e'.1.cells.toList = e.1.cells.toList.set j u → I.fvs (fs ++ [e']) = (I.fvs (fs ++ [e])).set (fs.length * 5 + j) u
  | [], e, e', j, u, hj, h => by
    rw [List.nil_append, List.nil_append]
    unfold I.fvs
    rw [List.flatMap_cons, List.flatMap_cons, List.flatMap_nil, List.append_nil, List.append_nil, List.length_nil, Nat.zero_mul, Nat.zero_add]
    exact h
  | x :: fs, e, e', j, u, hj, h => by
    have ih := fvs_set fs e e' j u hj h
    unfold I.fvs at ih ⊢
    rw [List.cons_append, List.flatMap_cons, ih, List.cons_append, List.flatMap_cons, List.set_append_right _ _ (by rw [I.cells_len, List.length_cons]; omega), I.cells_len, List.length_cons]
    congr 2
    omega
/-- The last function is another one. -/
theorem rdr_last {B : Nat} {W W' : World} {T T' : Nat → Tg} {rb : Nat} {v : RV} {es : List I.SE} {fs : List I.FE} {e e' : I.FE} {ls : List LE} {R R' : Tg → Row} {F : Tg → Option Mp} {p : PS} {N : Nat}
    (h : Rdr B W T rb v es (fs ++ [e]) ls R F p N) (q : Parts B W' T' R' F) (hb : Blk W' rb 82 v.cells) (tb : T' rb = .rd)
    (hR : ∀ t, t ≠ .fn → t ≠ .fl fs.length → t ≠ .bd fs.length → R' t = R t) (h1 : R' .fn = ⟨35, 5, .slice v.Y v.ny v.cy, v.ny, I.fvs (fs ++ [e'])⟩)
    (h2 : R' (.fl fs.length) = ⟨3, 1, .slice e'.1.L e'.1.nl e'.1.cl, e'.1.nl, ivs e'.2.lc⟩) (h3 : R' (.bd fs.length) = ⟨37, 3, .slice e'.1.D e'.1.nd e'.1.cd, e'.1.nd, C.iis e'.2.bd⟩)
    (h4 : e'.1.S = e.1.S ∧ (e'.1.A = e.1.A ∧ e'.1.na = e.1.na ∧ e'.1.ca = e.1.ca) ∧ (e'.1.B = e.1.B ∧ e'.1.nb = e.1.nb ∧ e'.1.cb = e.1.cb)) (h5 : e'.2.nm = e.2.nm ∧ e'.2.ar = e.2.ar ∧ e'.2.rs = e.2.rs) (h6 : C.AllI e'.2.bd) (h7 : _root_.Go.Proofs.YtifobiajjhknbaaGreatDoor.F.LgF e'.1) (h8 : e'.2.bd.length ≤ N + 1)
    (g : _root_.Go.Proofs.YtifobiajjhknbaaGreatDoor.F.Fu → _root_.Go.Proofs.YtifobiajjhknbaaGreatDoor.F.Fu) (hg : e'.2 = g e.2) : Rdr B W' T' rb v es (fs ++ [e']) ls R' F ⟨⟨p.im.sh, upd g p.im.fn⟩, p.last, p.nums, p.labs, p.ms⟩ (N + 1) := by
  have hi : ∀ {i : Nat} (hi : i < (fs ++ [e']).length), (∃ (h1 : i < (fs ++ [e]).length) (h2 : i < fs.length), (fs ++ [e'])[i] = fs[i] ∧ (fs ++ [e])[i] = fs[i]) ∨ (i = fs.length ∧ (fs ++ [e'])[i] = e') := by
    intro i hi
    rcases getElem_snoc hi with ⟨h', e1⟩ | ⟨e1, e2⟩
    · exact .inl ⟨by simp; omega, h', e1, List.getElem_append_left h'⟩
    · exact .inr ⟨e1, e2⟩
  have hl : (fs ++ [e])[fs.length]'(by simp) = e := by simp
  have hlt : fs.length < (fs ++ [e]).length := by simp
  have him : p.im.fn = fs.map (fun e => e.2) ++ [e.2] := by rw [← h.im]; simp [I.imOf]
  have hbl := h.bl
  refine { h with pa := q, bk := hb, tb := tb, rsh := (hR _ Tg.noConfusion Tg.noConfusion Tg.noConfusion).trans h.rsh, rse := fun i hi => (hR _ Tg.noConfusion Tg.noConfusion Tg.noConfusion).trans (h.rse i hi), rfn := h1, rfa := ?_, rfb := ?_, rfl_ := ?_, rbd := ?_, fnm := ?_, rlb := (hR _ Tg.noConfusion Tg.noConfusion Tg.noConfusion).trans h.rlb, rnm := fun i hi => (hR _ Tg.noConfusion Tg.noConfusion Tg.noConfusion).trans (h.rnm i hi), rmn := (hR _ Tg.noConfusion Tg.noConfusion Tg.noConfusion).trans h.rmn, fnu := ?_, fpl := ?_, rno := ⟨by rw [hR _ Tg.noConfusion Tg.noConfusion Tg.noConfusion]; exact h.rno.1, fun i => by rw [hR _ Tg.noConfusion Tg.noConfusion Tg.noConfusion]; exact h.rno.2 i⟩, im := ?_, lf := ?_, bx := ?_, by_ := ?_, bm := ?_, bd := ?_, bl := ?_, fsm := ?_ }
  · intro i hi2
    rcases hi hi2 with ⟨g1, g2, e1, e2⟩ | ⟨rfl, e1⟩
    · rw [hR _ Tg.noConfusion Tg.noConfusion Tg.noConfusion, e1, ← e2]; exact h.rfa i g1
    · rw [hR _ Tg.noConfusion Tg.noConfusion Tg.noConfusion, e1, h.rfa _ hlt, hl, h4.2.1.1, h4.2.1.2.1, h4.2.1.2.2, h5.2.1]
  · intro i hi2
    rcases hi hi2 with ⟨g1, g2, e1, e2⟩ | ⟨rfl, e1⟩
    · rw [hR _ Tg.noConfusion Tg.noConfusion Tg.noConfusion, e1, ← e2]; exact h.rfb i g1
    · rw [hR _ Tg.noConfusion Tg.noConfusion Tg.noConfusion, e1, h.rfb _ hlt, hl, h4.2.2.1, h4.2.2.2.1, h4.2.2.2.2, h5.2.2]
  · intro i hi2
    rcases hi hi2 with ⟨g1, g2, e1, e2⟩ | ⟨rfl, e1⟩
    · rw [hR _ Tg.noConfusion (by intro x; injection x with x; omega) Tg.noConfusion, e1, ← e2]; exact h.rfl_ i g1
    · rw [e1]; exact h2
  · intro i hi2
    rcases hi hi2 with ⟨g1, g2, e1, e2⟩ | ⟨rfl, e1⟩
    · rw [hR _ Tg.noConfusion Tg.noConfusion (by intro x; injection x with x; omega), e1, ← e2]; exact h.rbd i g1
    · rw [e1]; exact h3
  · intro i hi2
    rcases hi hi2 with ⟨g1, g2, e1, e2⟩ | ⟨rfl, e1⟩
    · rw [e1, ← e2]; exact h.fnm i g1
    · rw [e1, h4.1, h5.1]
      have := (h.fnm _ hlt).1
      rw [hl] at this
      exact ⟨this, h6⟩
  · obtain ⟨n, g1, g2⟩ := h.fnu; exact ⟨n, by omega, g2⟩
  · intro i hi2; obtain ⟨n, g1, g2⟩ := h.fpl i hi2; exact ⟨n, by omega, g2⟩
  · dsimp only
    rw [him, upd_append, ← hg, ← h.im]
    simp [I.imOf]
  · have := h.lf; simp at this ⊢; exact this
  · have := h.bx; omega
  · have := h.by_; simp at this ⊢; omega
  · have := h.bm; show p.ms.length ≤ _; omega
  · intro i hi2
    rcases hi hi2 with ⟨g1, g2, e1, e2⟩ | ⟨rfl, e1⟩
    · have := h.bd i g1
      rw [e1, ← e2]; omega
    · rw [e1]; exact h8
  · intro i hi2; have := h.bl i hi2; omega
  · intro i hi2
    rcases hi hi2 with ⟨g1, g2, e1, e2⟩ | ⟨rfl, e1⟩
    · rw [e1, ← e2]; exact h.fsm i g1
    · rw [e1]; exact h7
/-- Its locals are noted. -/
theorem rdr_local {B : Nat} {W W1 : World} {T : Nat → Tg} {rb : Nat} {v : RV} {es : List I.SE} {fs : List I.FE} {e : I.FE} {ls : List LE} {R : Tg → Row} {F : Tg → Option Mp} {p : PS} {N g : Nat}
    (h : Rdr B W T rb v es (fs ++ [e]) ls R F p N) (hB : B ≤ W.heap.size) (hk : Keep NoB W W1) {A : Option Addr} {n c : Nat} {t : List Int} (ht : Own W1 3 1 (Fresh W) (.slice A n c) n (ivs t)) (hn : n ≤ 140000) (hY : v.Y = some ⟨g, 0, none⟩) :
    ∃ T', Rnd (BS T) (BS T') W (W1.setCell ⟨g, fs.length * 5 + 3, none⟩ (.slice A n c)) ∧ ∃ fs' R', Rdr B (W1.setCell ⟨g, fs.length * 5 + 3, none⟩ (.slice A n c)) T' rb v es fs' ls R' F ⟨⟨p.im.sh, upd (fun f => { f with lc := t }) p.im.fn⟩, p.last, p.nums, p.labs, p.ms⟩ (N + 1) := by
  have hsz := hk.size
  have s1 : sole (.fl fs.length) := ⟨rfl, by intro t e; cases t <;> first | exact e | cases e⟩
  have s2 : sole .fn := ⟨rfl, by intro t e; cases t <;> first | exact e | cases e⟩
  have o1 : okT (.fl fs.length) := ⟨Tg.noConfusion, Tg.noConfusion⟩
  have o2 : okT .fn := ⟨Tg.noConfusion, Tg.noConfusion⟩
  obtain ⟨q1, r1⟩ := h.pa.fresh (t0 := .fl fs.length) (r := ⟨3, 1, .slice A n c, n, ivs t⟩) hB o1 s1 (h.fno _ (fun i => Tg.noConfusion) Tg.noConfusion) hk ht
  have e1 : upR R (.fl fs.length) ⟨3, 1, .slice A n c, n, ivs t⟩ .fn = ⟨35, 5, .slice (some ⟨g, 0, none⟩) v.ny v.cy, v.ny, I.fvs (fs ++ [e])⟩ := by rw [upR_ne _ _ Tg.noConfusion, h.rfn, hY]
  obtain ⟨q2, r2, hg⟩ := q1.put (by omega) o2 s2 (h.fno _ (fun i => Tg.noConfusion) Tg.noConfusion) e1 (fs.length * 5 + 3) (.slice A n c)
  have t1 : tagN T W.heap.size W1.heap.size (.fl fs.length) rb = .rd := (tagN_old (h.pa.fit rb (by rw [h.tb]; exact Tg.noConfusion)).2).trans h.tb
  have hne : rb ≠ g := by rintro rfl; rw [hg] at t1; cases t1
  have b2 := (h.bk.keep hk id).far (p := ⟨g, fs.length * 5 + 3, none⟩) hne (.slice A n c)
  have hlt : fs.length < (fs ++ [e]).length := by simp
  have hl : (fs ++ [e])[fs.length]'(by simp) = e := by simp
  obtain ⟨ev, ef⟩ := e
  obtain ⟨S0, A0, na0, ca0, B0, nb0, cb0, L0, nl0, cl0, D0, nd0, cd0⟩ := ev
  have hfs := h.fsm _ hlt
  have hbd := h.bd _ hlt
  have hnm := h.fnm _ hlt
  have hrb := h.rbd _ hlt
  rw [hl] at hfs hbd hnm hrb
  refine ⟨_, r1.trans r2, fs ++ [(⟨S0, A0, na0, ca0, B0, nb0, cb0, A, n, c, D0, nd0, cd0⟩, { ef with lc := t })], _, rdr_last (e' := (⟨S0, A0, na0, ca0, B0, nb0, cb0, A, n, c, D0, nd0, cd0⟩, { ef with lc := t })) h q2 b2 t1 (fun t h1 h2 h3 => (upR_ne _ _ h1).trans (upR_ne _ _ h2)) ?_ ?_ ?_ ⟨rfl, ⟨rfl, rfl, rfl⟩, ⟨rfl, rfl, rfl⟩⟩ ⟨rfl, rfl, rfl⟩ hnm.2 ⟨hfs.sz, hfs.na, hfs.nb, by show n ≤ _; omega, hfs.nd⟩ (by show ef.bd.length ≤ _; dsimp only at hbd; omega) _ rfl⟩
  · rw [upR_eq, fvs_set fs (⟨S0, A0, na0, ca0, B0, nb0, cb0, L0, nl0, cl0, D0, nd0, cd0⟩, ef) (⟨S0, A0, na0, ca0, B0, nb0, cb0, A, n, c, D0, nd0, cd0⟩, { ef with lc := t }) 3 (.slice A n c) (by omega) rfl, hY]
  · rw [upR_ne _ _ Tg.noConfusion, upR_eq]
  · rw [upR_ne _ _ Tg.noConfusion, upR_ne _ _ Tg.noConfusion]; exact hrb
/-- Its next instruction is noted. -/
theorem rdr_body {B : Nat} {W Wd Wc We : World} {T : Nat → Tg} {rb : Nat} {v : RV} {es : List I.SE} {fs : List I.FE} {e : I.FE} {ls : List LE} {R : Tg → Row} {F : Tg → Option Mp} {p : PS} {N g : Nat}
    (h : Rdr B W T rb v es (fs ++ [e]) ls R F p N) (hB : B ≤ W.heap.size) (hk : Keep NoB W Wd) (hN : N ≤ 300000) {D' : Option Addr} {cd' : Nat} {x : C.I3} (hx : C.AllI [x]) (hY : v.Y = some ⟨g, 0, none⟩)
    (hg : Wd.grownBy Wc (Value.slice e.1.D e.1.nd e.1.cd).ownBlock) (hr : Wc.ownsRow 0 37 3 (.slice D' (e.1.nd + 1) cd') (e.1.nd + 1) (C.iis e.2.bd ++ [.int .i64 x.1, .int .i64 x.2.1, .int .i64 x.2.2])) (hv : (Value.slice D' (e.1.nd + 1) cd').ownBlock = (Value.slice e.1.D e.1.nd e.1.cd).ownBlock ∨ (Value.slice D' (e.1.nd + 1) cd').ownBlock = some Wd.heap.size) (hk9 : Keep NoB Wc We) :
    ∃ T', Rnd (BS T) (BS T') W (We.setCell ⟨g, fs.length * 5 + 4, none⟩ (.slice D' (e.1.nd + 1) cd')) ∧ ∃ fs' R', Rdr B (We.setCell ⟨g, fs.length * 5 + 4, none⟩ (.slice D' (e.1.nd + 1) cd')) T' rb v es fs' ls R' F ⟨⟨p.im.sh, upd (fun f => { f with bd := f.bd ++ [x] }) p.im.fn⟩, p.last, p.nums, p.labs, p.ms⟩ (N + 1) := by
  have hsz := hk.size
  have hsz2 := hk9.size
  have s1 : sole (.bd fs.length) := ⟨rfl, by intro t e; cases t <;> first | exact e | cases e⟩
  have s2 : sole .fn := ⟨rfl, by intro t e; cases t <;> first | exact e | cases e⟩
  have o1 : okT (.bd fs.length) := ⟨Tg.noConfusion, Tg.noConfusion⟩
  have o2 : okT .fn := ⟨Tg.noConfusion, Tg.noConfusion⟩
  have hlt : fs.length < (fs ++ [e]).length := by simp
  have hl : (fs ++ [e])[fs.length]'(by simp) = e := by simp
  have hfs := h.fsm _ hlt
  have hbd := h.bd _ hlt
  have hnm := h.fnm _ hlt
  have hrb := h.rbd _ hlt
  have hrl := h.rfl_ _ hlt
  rw [hl] at hfs hbd hnm hrb hrl
  have hnd : e.1.nd = e.2.bd.length := by
    have h5 := (h.pa.row (.bd fs.length) o1).1.1
    rw [hrb] at h5
    have h6 : (C.iis e.2.bd).length = e.1.nd * 3 := h5
    rw [C.iis_length] at h6
    omega
  obtain ⟨q1, r1, k1⟩ := (h.pa.keepN hk).app (t0 := .bd fs.length) (v' := .slice D' (e.1.nd + 1) cd') (n' := e.1.nd + 1) (xs' := C.iis e.2.bd ++ [.int .i64 x.1, .int .i64 x.2.1, .int .i64 x.2.2]) (by omega) o1 s1 (h.fno _ (fun i => Tg.noConfusion) Tg.noConfusion) (by rw [hrb]; exact hg) (by rw [hrb]; exact hr) (by rw [hrb]; exact hv)
  rw [hrb] at q1
  have q2 := q1.keepN hk9
  have hsz1 := k1.size
  have e1 : upR R (.bd fs.length) ⟨37, 3, .slice D' (e.1.nd + 1) cd', e.1.nd + 1, C.iis e.2.bd ++ [.int .i64 x.1, .int .i64 x.2.1, .int .i64 x.2.2]⟩ .fn = ⟨35, 5, .slice (some ⟨g, 0, none⟩) v.ny v.cy, v.ny, I.fvs (fs ++ [e])⟩ := by rw [upR_ne _ _ Tg.noConfusion, h.rfn, hY]
  obtain ⟨q3, r3, hgt⟩ := q2.put (by omega) o2 s2 (h.fno _ (fun i => Tg.noConfusion) Tg.noConfusion) e1 (fs.length * 5 + 4) (.slice D' (e.1.nd + 1) cd')
  have b1 := h.bk.keep hk id
  have t1 := (tagN_old (t := .bd fs.length) (b := Wc.heap.size) b1.lt).trans h.tb
  have hne : rb ≠ g := by rintro rfl; rw [hgt] at t1; cases t1
  have b2 := ((b1.keep k1 (by show ¬ _ = _; rw [h.tb]; exact Tg.noConfusion)).keep hk9 id).far (p := ⟨g, fs.length * 5 + 4, none⟩) hne (.slice D' (e.1.nd + 1) cd')
  clear hl
  obtain ⟨ev, ef⟩ := e
  obtain ⟨S0, A0, na0, ca0, B0, nb0, cb0, L0, nl0, cl0, D0, nd0, cd0⟩ := ev
  dsimp only at *
  refine ⟨_, (((rnd_keep hk).trans r1).trans (rnd_keep hk9)).trans r3, fs ++ [(⟨S0, A0, na0, ca0, B0, nb0, cb0, L0, nl0, cl0, D', nd0 + 1, cd'⟩, { ef with bd := ef.bd ++ [x] })], _, rdr_last (e' := (⟨S0, A0, na0, ca0, B0, nb0, cb0, L0, nl0, cl0, D', nd0 + 1, cd'⟩, { ef with bd := ef.bd ++ [x] })) h q3 b2 t1 (fun t h1 h2 h3 => (upR_ne _ _ h1).trans (upR_ne _ _ h3)) ?_ ?_ ?_ ⟨rfl, ⟨rfl, rfl, rfl⟩, ⟨rfl, rfl, rfl⟩⟩ ⟨rfl, rfl, rfl⟩ ?_ ⟨hfs.sz, hfs.na, hfs.nb, hfs.nl, by show nd0 + 1 ≤ _; omega⟩ (by simp; omega) _ rfl⟩
  · rw [upR_eq, fvs_set fs (⟨S0, A0, na0, ca0, B0, nb0, cb0, L0, nl0, cl0, D0, nd0, cd0⟩, ef) (⟨S0, A0, na0, ca0, B0, nb0, cb0, L0, nl0, cl0, D', nd0 + 1, cd'⟩, { ef with bd := ef.bd ++ [x] }) 4 (.slice D' (nd0 + 1) cd') (by omega) rfl, hY]
  · rw [upR_ne _ _ Tg.noConfusion, upR_ne _ _ Tg.noConfusion]; exact hrl
  · rw [upR_ne _ _ Tg.noConfusion, upR_eq, C.iis_append]; rfl
  · intro y hy
    rcases List.mem_append.1 hy with hy | hy
    · exact hnm.2 y hy
    · exact hx y hy

end Go.Proofs.YtifobiajjhknbaaGreatDoor.M

namespace Go.Proofs.YtifobiajjhknbaaGreatDoor.M
open Go.RowKit W

/-- The function that is being read, where it lies. -/
theorem rdr_split {B : Nat} {W : World} {T : Nat → Tg} {rb : Nat} {v : RV} {es : List I.SE} {fs : List I.FE} {ls : List LE} {R : Tg → Row} {F : Tg → Option Mp} {p : PS} {N : Nat}
    (h : Rdr B W T rb v es fs ls R F p N) (hne : p.im.fn ≠ []) : ∃ fs' e g, fs = fs' ++ [e] ∧ v.Y = some ⟨g, 0, none⟩ ∧ v.ny = fs'.length + 1 ∧ (∀ j u, j < 5 → e.1.cells.toList[j]? = some u → W.cell? ⟨g, fs'.length * 5 + j, none⟩ = some u) ∧ ∀ j, W.frozen? ⟨g, j, none⟩ = false := by
  have hfs : fs ≠ [] := by
    rintro rfl
    apply hne
    rw [← h.im]; rfl
  obtain ⟨fs', e, hfe⟩ := (List.eq_nil_or_concat fs).resolve_left hfs
  rw [List.concat_eq_append] at hfe
  subst hfe
  have o2 : okT .fn := ⟨Tg.noConfusion, Tg.noConfusion⟩
  have h0 := h.pa.row .fn o2
  rw [h.rfn] at h0
  have h1 : Own W 35 5 (fun k => T k = mk .fn) (.slice v.Y v.ny v.cy) v.ny (I.fvs (fs' ++ [e])) := h0
  obtain ⟨A, c, e1, _, _, hr, ha⟩ := h1.form
  injection e1 with e1 _ e3
  subst e1 e3
  obtain ⟨g, off, hY, hc⟩ := hr (by rw [I.fvs_length]; simp)
  have h2 := (ha _ hY).2
  injection h2 with _ h2 _
  subst h2
  have hny : v.ny = fs'.length + 1 := by
    have h5 := h1.1.1
    rw [I.fvs_length] at h5
    simp at h5
    omega
  refine ⟨fs', e, g, rfl, hY, hny, fun j u hj hu => ?_, fun j => ?_⟩
  · have := hc (fs'.length * 5 + j) u (by rw [I.fvs_at (fs' ++ [e]) fs'.length j (by simp) hj]; simpa using hu)
    rwa [Nat.zero_add] at this
  · have h6 : World.ownsRow W 0 35 5 (.slice v.Y v.ny v.cy) v.ny (I.fvs (fs' ++ [e])) := h1.1
    rw [hY] at h6
    exact h6.frozenAt j
theorem pLocal_no1 {p : PS} {ws : List Bs} (h : p.last ≠ 1) : pLocal p ws = none := by
  unfold pLocal; split
  · exact if_neg (fun h2 => h h2.1)
  · rfl
theorem pLocal_no2 {p : PS} {ws : List Bs} (h : ws.length ≠ 2) : pLocal p ws = none := by
  unfold pLocal; split
  · exact absurd rfl h
  · rfl
theorem pLocal_no3 {p : PS} {a b : Bs} (h : a ≠ localW) : pLocal p [a, b] = none := if_neg (fun h2 => h h2.2)
theorem pLocal_yes {p : PS} {b : Bs} (h : p.last = 1) : pLocal p [localW, b] = (W.untxt b).map fun t => PS.mk ⟨p.im.sh, upd (fun f => { f with lc := t }) p.im.fn⟩ 2 p.nums p.labs p.ms := if_pos ⟨h, rfl⟩
theorem untxt_len {s : Bs} {l : List Int} (h : W.untxt s = some l) : l.length = s.length := by
  unfold W.untxt at h
  split at h
  · injection h with h; subst h; simp
  · cases h

set_option maxRecDepth 100000 in
set_option maxHeartbeats 4000000 in
theorem readLocals_any (w0 W : World) (T : Nat → Tg) (rb : Nat) (p : PS) (N ln : Nat) (hE : Hid (EnvM w0)) (h : RdAt w0 W T rb p N ln) (hN : N ≤ 300000) (hfn : 1 ≤ p.last → p.im.fn ≠ []) (A : Option Addr) (ws : List Bs) (n c : Nat) (hw : Rd W A (sv ws)) (hn : ws.length = n) (hnc : n ≤ c) (hwl : ∀ x ∈ ws, x.length ≤ 140000) :
    Calls Tryz.prog 108 #[.pointer (some ⟨rb, 0, none⟩), .slice A n c] W (TryR w0 W T rb p N ln (pLocal p ws)) := by
  have HR := Lib.hid h
  obtain ⟨hk0, v, es, fs, ls, R, F, hln, hr⟩ := h
  obtain ⟨c0, c1, c2, c3, c4, c5, c6⟩ := rd_cells hr.bk
  have hla := hr.la
  rw [hla] at c3
  have HW := Lib.hid hr
  have HK := Lib.hid hk0
  have HLn := Lib.hid hln
  clear hr hk0 c0 c1 c2 c4 c5 c6 hln
  by_cases h1 : p.last = 1
  · rw [h1] at c3
    by_cases h2 : n = 2
    · subst h2
      obtain ⟨a, b, rfl⟩ : ∃ a b, ws = [a, b] := by
        match ws, hn with
        | [a, b], _ => exact ⟨a, b, rfl⟩
      obtain ⟨g, off, rfl, hcs⟩ := sv_at hw (by simp)
      have s0 := hcs 0 (by simp)
      have s1 := hcs 1 (by simp)
      simp only [List.getElem_cons_zero, List.getElem_cons_succ, Nat.add_zero] at s0 s1
      by_cases h3 : a = localW
      · subst h3
        have hbl : b.length ≤ 140000 := hwl b (by simp)
        have HP := Lib.hid (pLocal_yes (p := p) (b := b) h1)
        have hbz : (str b).size ≤ 9223372036854775807 := by rw [size_of (S := str b) (s := b) (by simp)]; omega
        cases hu : _root_.Go.Proofs.YtifobiajjhknbaaGreatDoor.W.untxt b with
        | none =>
          have HT := Lib.hid (S.types_no (str b) b W (hE.out.1.lets.keep HK.out) (Lib.hid (by simp)) hbz hu)
          rw [hu] at HP
          clear hwl hcs hw hn hu
          generalize str b = SB at *
          go_enter Tryz.func108, Tryz.ntmps108
          go_wp2_with fail
          refine HT.out.mono ?_
          rintro e w1 ⟨B1, d1, rfl, k1⟩
          go_wp2
          go_ret
          exact try_no HR.out k1 HP.out
        | some t =>
          have HT := Lib.hid (S.types_yes (str b) b t W (hE.out.1.lets.keep HK.out) (Lib.hid (by simp)) hbz hu)
          rw [hu] at HP
          have htl : t.length ≤ 140000 := by rw [untxt_len hu]; exact hbl
          clear hwl hcs hw hn hu
          generalize str b = SB at *
          obtain ⟨fs', e0, g1, hfs, hY, hny, hcl, hfz⟩ := rdr_split HW.out (hfn (by omega))
          have hnyb := HW.out.by_
          have hcy := Lib.hid hcl
          obtain ⟨_, q1, _⟩ := rd_cells HW.out.bk
          rw [hY, hny] at q1
          have HC := Lib.hid (fun w1 (k1 : Keep NoB W w1) => current_any w1 rb g1 fs'.length v.cy (k1.cell q1 id) (by rw [hfs] at hnyb; simp at hnyb; omega))
          have q3 := hcl 3 _ (by omega) (show e0.1.cells.toList[3]? = some (.slice e0.1.L e0.1.nl e0.1.cl) from rfl)
          have hlt1 : g1 < W.heap.size := World.block_lt_of_cell? W _ q3
          have HF := Lib.hid hfz
          clear hcl hfz q1
          go_enter Tryz.func108, Tryz.ntmps108
          go_wp2_with fail
          refine HT.out.mono ?_
          rintro e w1 ⟨B1, d1, rfl, ho, k1⟩
          go_wp2_with fail
          refine (HC.out w1 k1).mono ?_
          rintro e w2 ⟨rfl, q, rfl⟩
          have k2 : Keep NoB W (w1.drewN q) := k1.drewN q
          have x3 := k2.cell q3 id
          have xf : (w1.drewN q).frozen? ⟨g1, fs'.length * 5 + 3, none⟩ = false := by
            have := HF.out (fs'.length * 5 + 3)
            unfold World.frozen? at this ⊢
            rw [k2.block g1 hlt1 id]
            exact this
          have ho2 := ho.keepN ((Keep.refl NoB w1).drewN q)
          clear q3 HT HC
          generalize w1.drewN q = w3 at *
          go_wp2
          go_ret
          subst hfs
          obtain ⟨T', r1, fs2, R', hr'⟩ := rdr_local HW.out HK.out.size k2 ho2 (by omega) hY
          exact ⟨T', r1, .inr ⟨_, HP.out, rfl, keep_rnd HW.out.pa HK.out r1, v, es, fs2, ls, R', F, HLn.out, hr'.more⟩⟩
      · have HP := Lib.hid (pLocal_no3 (p := p) (b := b) h3)
        have hne : (a == [108, 111, 99, 97, 108]) = false := by rw [beq_eq_false_iff_ne]; exact h3
        go_enter Tryz.func108, Tryz.ntmps108
        go_wp2
        go_ret
        exact try_no HR.out (Keep.refl _ _) HP.out
    · have HP := Lib.hid (pLocal_no2 (p := p) (ws := ws) (by omega))
      have hn2 : ((n : Int) == 2) = false := by rw [beq_eq_false_iff_ne]; omega
      go_enter Tryz.func108, Tryz.ntmps108
      go_wp2
      go_ret
      exact try_no HR.out (Keep.refl _ _) HP.out
  · have HP := Lib.hid (pLocal_no1 (ws := ws) h1)
    have hl2 : (((p.last : Nat) : Int) == 1) = false := by rw [beq_eq_false_iff_ne]; omega
    go_enter Tryz.func108, Tryz.ntmps108
    go_wp2
    go_ret
    exact try_no HR.out (Keep.refl _ _) HP.out

end Go.Proofs.YtifobiajjhknbaaGreatDoor.M
