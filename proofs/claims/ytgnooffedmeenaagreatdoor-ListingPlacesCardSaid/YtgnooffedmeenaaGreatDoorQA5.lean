/-
  Which shapes and signatures may be: what Check, CheckSignature, Cell and Same answer, the program's and the document's; what the laws' Great and Copy answer. Conditions: the lists lie in memory.
  What pack answers: types' bytes. Conditions: the list lies in memory, holds types, no more than 64.
  What the document's Types answers: types' bytes. Conditions: the list lies in memory, holds types, no more than 64.
  What Encode and EncodeSignature answer, the program's and the document's: their bytes, if they may be. Conditions: the lists lie in memory.
  The iterator of the pieces of bytes, two bits each, from the lowest of each byte on. Conditions: the bytes lie in memory; a round keeps them.
  What types answers: the types that were laid into bytes, if nothing is behind them. Conditions: the bytes lie in memory.
  What unpack and Decode of layer shape answer: the types, and the shape, at a Reel's place. Conditions: the Reel reads bytes in memory, no more than 2^47.
  What DecodeSignature answers: the signature at a Reel's place. Conditions: the Reel reads bytes in memory, no more than 2^47.
  What the document's read of layer shape answers: the types at its Reel's place. Conditions: the Reel reads bytes in memory, no more than 2^47.
  What the document's Decode and DecodeSignature answer. Conditions: the Reel reads bytes in memory, no more than 2^47.
  What Types answers. Conditions: the letters stand.
  What the document's Types answers. No conditions.
  What Show, Read and ShowSignature answer, the program's and the document's. Conditions: the lists lie in memory, the letters stand.
  What Check, Count, ifBody and hasPlace of layer code answer: is a list a body, and how many have an op? Conditions: the list lies in memory.
  What Count, ifBody and hasPlace of layer code answer. Conditions: the list lies in memory.
  What the document's Check, Count and Head of layer code answer, and its Lists: are two lists the same? Conditions: lists lie in memory; numbers fit an int64.
  The plain mathematics of layer listing, eighth part: how long lines and listings are at most. No program.
  A range over a function whose body owns blocks that change (p: which ones), maps among them, and that may be left ahead of its end. No program. The iterator changes only blocks that it made itself; the body only what is its own, or new.
  A range over a function that may be left ahead of its end: the iterator changes only blocks that it made itself, and makes no cells of one type; the body changes only what is its own, or new; what the iterator reads is kept by both. No program.
  A map from pairs of numbers (a struct of two) to numbers, that a call makes: what each key has. No program, no conditions.
  Strings as cells, and lists of them in memory. No program but its types.
  The plain mathematics of a text that is gone through rune by rune, where only bytes below 128 are looked for: what the library's IndexFunc and FieldsFunc answer, in bytes. No program, no conditions.
-/
import Derived.DeepKeys4
import Derived.Laws.RangeAny
import Derived.Laws.RangeString
import Derived.Laws.ResultCell
import Derived.Laws.Rows
import Derived.Lib.DecodeN
import Derived.Lib.ItoaLen
import Derived.Maps.Keyed
import Derived.Maps.Own
import Derived.Maps.OwnIn
import Derived.Maps.OwnOps
import Derived.Maps.OwnSet
import Derived.Maps.Views
import Derived.Shelf.GgClosure.StringsIndexFunc
import Derived.Shelf.Strings.FieldsFuncAny
import Derived.StillTailTactics
import Derived.WalkArith
import Derived.Test.YtgnooffedmeenaaGreatDoorQA4
import Derived.Test.YtgnooffedmeenaaGreatDoorQA3
import Derived.Test.YtgnooffedmeenaaGreatDoorQA2
namespace Go.Proofs.YtgnooffedmeenaaGreatDoor.S
open Go.RowKit W

theorem blk2 {w : World} {g : Nat} {t : TypeId} {a0 a1 : Value} (h : Blk w g t #[a0, a1]) : w.cell? ⟨g, 0, none⟩ = some a0 ∧ w.cell? ⟨g, 1, none⟩ = some a1 := ⟨h.cell 0, h.cell 1⟩
theorem okS_len {l : List Int} (h : ¬ (1 ≤ l.length ∧ l.length ≤ 16)) : okS l = false := by unfold okS; rw [decide_eq_false h]; rfl
theorem okS_all {l : List Int} (h : l.all heldB = false) : okS l = false := by unfold okS; rw [h, Bool.and_false]
theorem okS_mk {l : List Int} (h : 1 ≤ l.length ∧ l.length ≤ 16) (h2 : l.all heldB = true) : okS l = true := (okS_iff l).2 ⟨h, h2⟩
theorem okG_len {a r : List Int} (h : ¬ (a.length + r.length ≤ 64)) : okG a r = false := by unfold okG; rw [decide_eq_false h]; rfl
theorem okG_args {a r : List Int} (h : a.all knownB = false) : okG a r = false := by unfold okG; rw [h, Bool.false_and, Bool.and_false]
theorem okG_res {a r : List Int} (h : r.all heldB = false) : okG a r = false := by unfold okG; rw [h, Bool.and_false, Bool.and_false]
theorem okG_mk {a r : List Int} (h : a.length + r.length ≤ 64) (h2 : a.all knownB = true) (h3 : r.all heldB = true) : okG a r = true := (okG_iff a r).2 ⟨h, h2, h3⟩
set_option maxRecDepth 100000 in
set_option maxHeartbeats 2000000 in
theorem chkS_any (A : Option Addr) (l : List Int) (n c : Nat) (w : World) (hr : Rd w A (ivs l)) (hn : Hid (l.length = n)) (hm : n ≤ 9223372036854775807) (R : Int) (hR : Hid (chkS l = R)) :
    Calls Tryz.prog 117 #[.slice A n c] w fun e w' => e = .returned (.int .i64 R) ∧ Keep NoB w w' := by
  by_cases h0 : n = 0
  · subst h0
    obtain rfl : 60 = R := by rw [← hR.out]; exact (chkS_no (okS_len (by rw [hn.out]; omega))).symm
    go_enter Tryz.func117, Tryz.ntmps117
    go_wp2
    go_ret
    exact ⟨rfl, Keep.refl _ _⟩
  have hq1 : ((n : Int) == 0) = false := by rw [beq_eq_false_iff_ne]; omega
  by_cases h1 : 16 < n
  · obtain rfl : 60 = R := by rw [← hR.out]; exact (chkS_no (okS_len (by rw [hn.out]; omega))).symm
    clear hR h0
    go_enter Tryz.func117, Tryz.ntmps117
    go_wp2
    go_ret
    exact ⟨rfl, Keep.refl _ _⟩
  have HC0 := Lib.hid (fun w hr (R : Bool) hR => allS_any A l n c w hr hn hm R hR)
  cases hh : l.all heldB
  · obtain rfl : 60 = R := by rw [← hR.out]; exact (chkS_no (okS_all hh)).symm
    have HC := Lib.hid (fun w hr => HC0.out w hr _ hh.symm)
    clear hh hR HC0 h0
    go_enter Tryz.func117, Tryz.ntmps117
    go_wp2_with (go_at_call 174; refine (HC.out _ hr).mono ?_; rintro e w1 ⟨rfl, k1⟩)
    go_ret
    exact ⟨rfl, k1⟩
  · obtain rfl : 0 = R := by rw [← hR.out]; exact (chkS_ok (okS_mk (by rw [hn.out]; omega) hh)).symm
    have HC := Lib.hid (fun w hr => HC0.out w hr _ hh.symm)
    clear hh hR HC0 h0
    go_enter Tryz.func117, Tryz.ntmps117
    go_wp2_with (go_at_call 174; refine (HC.out _ hr).mono ?_; rintro e w1 ⟨rfl, k1⟩)
    go_ret
    exact ⟨rfl, k1⟩

set_option maxRecDepth 100000 in
set_option maxHeartbeats 2000000 in
theorem rchkS_any (A : Option Addr) (l : List Int) (n c : Nat) (w : World) (hr : Rd w A (ivs l)) (hn : Hid (l.length = n)) (hm : n ≤ 9223372036854775807) (R : Int) (hR : Hid (chkS l = R)) :
    Calls Tryz.prog 148 #[.slice A n c] w fun e w' => e = .returned (.int .i64 R) ∧ Keep NoB w w' := by
  have HC0 := Lib.hid (fun w hr (R : Bool) hR => rheld_any A l n c w hr hn hm R hR)
  by_cases h0 : n = 0
  · obtain rfl : 60 = R := by rw [← hR.out]; exact (chkS_no (okS_len (by rw [hn.out]; omega))).symm
    have hq1 : (n : Int) < 1 := by omega
    cases hh : l.all heldB
    all_goals
      have HC := Lib.hid (fun w hr => HC0.out w hr _ hh.symm)
      clear hh hR HC0 h0
      go_enter Tryz.func148, Tryz.ntmps148
      go_wp2_with (go_at_call 170; refine (HC.out _ hr).mono ?_; rintro e w1 ⟨rfl, k1⟩)
      go_ret
      exact ⟨rfl, k1⟩
  by_cases h1 : 16 < n
  · obtain rfl : 60 = R := by rw [← hR.out]; exact (chkS_no (okS_len (by rw [hn.out]; omega))).symm
    have hq1 : ¬ (n : Int) < 1 := by omega
    cases hh : l.all heldB
    all_goals
      have HC := Lib.hid (fun w hr => HC0.out w hr _ hh.symm)
      clear hh hR HC0 h0
      go_enter Tryz.func148, Tryz.ntmps148
      go_wp2_with (go_at_call 170; refine (HC.out _ hr).mono ?_; rintro e w1 ⟨rfl, k1⟩)
      go_ret
      exact ⟨rfl, k1⟩
  have hq1 : ¬ (n : Int) < 1 := by omega
  cases hh : l.all heldB
  · obtain rfl : 60 = R := by rw [← hR.out]; exact (chkS_no (okS_all hh)).symm
    have HC := Lib.hid (fun w hr => HC0.out w hr _ hh.symm)
    clear hh hR HC0 h0
    go_enter Tryz.func148, Tryz.ntmps148
    go_wp2_with (go_at_call 170; refine (HC.out _ hr).mono ?_; rintro e w1 ⟨rfl, k1⟩)
    go_ret
    exact ⟨rfl, k1⟩
  · obtain rfl : 0 = R := by rw [← hR.out]; exact (chkS_ok (okS_mk (by rw [hn.out]; omega) hh)).symm
    have HC := Lib.hid (fun w hr => HC0.out w hr _ hh.symm)
    clear hh hR HC0 h0
    go_enter Tryz.func148, Tryz.ntmps148
    go_wp2_with (go_at_call 170; refine (HC.out _ hr).mono ?_; rintro e w1 ⟨rfl, k1⟩)
    go_ret
    exact ⟨rfl, k1⟩

set_option maxRecDepth 100000 in
set_option maxHeartbeats 4000000 in
theorem chkG_any (A : Option Addr) (a : List Int) (n c : Nat) (B : Option Addr) (r : List Int) (m d : Nat) (w : World) (ha : Rd w A (ivs a)) (hr : Rd w B (ivs r)) (hn : Hid (a.length = n)) (hm : Hid (r.length = m)) (hn6 : n ≤ 4611686018427387903) (hm6 : m ≤ 4611686018427387903) (R : Int) (hR : Hid (chkG a r = R)) :
    Calls Tryz.prog 102 #[.agg #[.slice A n c, .slice B m d]] w fun e w' => e = .returned (.int .i64 R) ∧ Keep NoB w w' := by
  have bx := Blk.new w 34 #[.slice A n c, .slice B m d]
  have k0 := (Keep.refl NoB w).alloc (.cells #[.slice A n c, .slice B m d] 34)
  by_cases h1 : 64 < n + m
  · obtain rfl : 61 = R := by rw [← hR.out]; exact (chkG_no (okG_len (by rw [hn.out, hm.out]; omega))).symm
    have hq : (64 : Int) < (n : Int) + (m : Int) := by omega
    clear hR
    go_enter Tryz.func102, Tryz.ntmps102
    go_wp2
    go_ret
    exact ⟨rfl, k0⟩
  have hq : ¬ (64 : Int) < (n : Int) + (m : Int) := by omega
  have HA := Lib.hid (fun w hr (R : Bool) hR => allK_any A a n c w hr hn (by omega) R hR)
  have HB := Lib.hid (fun w hr (R : Bool) hR => allH_any B r m d w hr hm (by omega) R hR)
  cases h2 : a.all knownB
  · obtain rfl : 61 = R := by rw [← hR.out]; exact (chkG_no (okG_args h2)).symm
    have HA2 := Lib.hid (fun w hr => HA.out w hr _ h2.symm)
    clear h2 hR HA HB
    go_enter Tryz.func102, Tryz.ntmps102
    go_wp2_with (go_at_call 160; refine (HA2.out _ (ha.keepN k0)).mono ?_; rintro e w1 ⟨rfl, k1⟩)
    go_ret
    exact ⟨rfl, keepN k0 k1⟩
  have HA2 := Lib.hid (fun w hr => HA.out w hr _ h2.symm)
  cases h3 : r.all heldB
  · obtain rfl : 61 = R := by rw [← hR.out]; exact (chkG_no (okG_res h3)).symm
    have HB2 := Lib.hid (fun w hr => HB.out w hr _ h3.symm)
    clear h2 h3 hR HA HB
    go_enter Tryz.func102, Tryz.ntmps102
    go_wp2_with fail
    refine (HA2.out _ (ha.keepN k0)).mono ?_
    rintro e w1 ⟨rfl, k1⟩
    obtain ⟨c0, c1⟩ := blk2 (bx.keep k1 id)
    have hr1 := (hr.keepN k0).keepN k1
    go_wp2_with fail
    refine (HB2.out _ hr1).mono ?_
    rintro e w2 ⟨rfl, k2⟩
    go_wp2
    go_ret
    exact ⟨rfl, keepN (keepN k0 k1) k2⟩
  · obtain rfl : 0 = R := by rw [← hR.out]; exact (chkG_ok (okG_mk (by rw [hn.out, hm.out]; omega) h2 h3)).symm
    have HB2 := Lib.hid (fun w hr => HB.out w hr _ h3.symm)
    clear h2 h3 hR HA HB
    go_enter Tryz.func102, Tryz.ntmps102
    go_wp2_with fail
    refine (HA2.out _ (ha.keepN k0)).mono ?_
    rintro e w1 ⟨rfl, k1⟩
    obtain ⟨c0, c1⟩ := blk2 (bx.keep k1 id)
    have hr1 := (hr.keepN k0).keepN k1
    go_wp2_with fail
    refine (HB2.out _ hr1).mono ?_
    rintro e w2 ⟨rfl, k2⟩
    go_wp2
    go_ret
    exact ⟨rfl, keepN (keepN k0 k1) k2⟩

set_option maxRecDepth 100000 in
set_option maxHeartbeats 4000000 in
theorem rchkG_any (A : Option Addr) (a : List Int) (n c : Nat) (B : Option Addr) (r : List Int) (m d : Nat) (w : World) (ha : Rd w A (ivs a)) (hr : Rd w B (ivs r)) (hn : Hid (a.length = n)) (hm : Hid (r.length = m)) (hn6 : n ≤ 4611686018427387903) (hm6 : m ≤ 4611686018427387903) (R : Int) (hR : Hid (chkG a r = R)) :
    Calls Tryz.prog 110 #[.agg #[.slice A n c, .slice B m d]] w fun e w' => e = .returned (.int .i64 R) ∧ Keep NoB w w' := by
  have bx := Blk.new w 34 #[.slice A n c, .slice B m d]
  have k0 := (Keep.refl NoB w).alloc (.cells #[.slice A n c, .slice B m d] 34)
  have HB := Lib.hid (fun w hr (R : Bool) hR => rheld_any B r m d w hr hm (by omega) R hR)
  cases h3 : r.all heldB
  · obtain rfl : 61 = R := by rw [← hR.out]; exact (chkG_no (okG_res h3)).symm
    have HB2 := Lib.hid (fun w hr => HB.out w hr _ h3.symm)
    clear h3 hR HB
    go_enter Tryz.func110, Tryz.ntmps110
    go_wp2_with (go_at_call 170; refine (HB2.out _ (hr.keepN k0)).mono ?_; rintro e w1 ⟨rfl, k1⟩)
    go_ret
    exact ⟨rfl, keepN k0 k1⟩
  have HB2 := Lib.hid (fun w hr => HB.out w hr _ h3.symm)
  by_cases h1 : 64 < n + m
  · obtain rfl : 61 = R := by rw [← hR.out]; exact (chkG_no (okG_len (by rw [hn.out, hm.out]; omega))).symm
    have hq : (64 : Int) < (n : Int) + (m : Int) := by omega
    clear h3 hR HB
    go_enter Tryz.func110, Tryz.ntmps110
    go_wp2_with fail
    refine (HB2.out _ (hr.keepN k0)).mono ?_
    rintro e w1 ⟨rfl, k1⟩
    obtain ⟨c0, c1⟩ := blk2 (bx.keep k1 id)
    go_wp2
    go_ret
    exact ⟨rfl, keepN k0 k1⟩
  have hq : ¬ (64 : Int) < (n : Int) + (m : Int) := by omega
  have HO : Hid (a.all knownB = true → chkG a r = 0) := fun h2 => chkG_ok (okG_mk (by rw [hn.out, hm.out]; omega) h2 h3)
  clear h3 HB
  go_enter Tryz.func110, Tryz.ntmps110
  go_wp2_with fail
  refine (HB2.out _ (hr.keepN k0)).mono ?_
  rintro e w1 ⟨rfl, k1⟩
  have bx1 := bx.keep k1 id
  obtain ⟨c0, c1⟩ := blk2 bx1
  have k2 := keepN k0 k1
  clear bx k1 k0 HB2
  go_wp2
  clear c0 c1
  go_loopw [4] (fun i wr => ∃ k : Nat, k ≤ n ∧ i = .int .i64 k ∧ Hid ((a.take k).all knownB = true) ∧ Blk wr w.heap.size 34 #[.slice A n c, .slice B m d] ∧ Keep NoB w wr) (fun i _ => n - (intOf i).toNat)
  case atStart => exact ⟨0, Nat.zero_le _, rfl, rfl, bx1, k2⟩
  case round =>
    clear bx1 k2
    obtain ⟨k, hk, rfl, ht, hb, hK⟩ := hrel
    obtain ⟨c0, c1⟩ := blk2 hb
    by_cases hlt : k < n
    · have hka : k < a.length := by rw [hn.out]; exact hlt
      obtain ⟨ga, oa, rfl, hca⟩ := rdI_at ha (by omega)
      have ca := hK.cell (hca k hka) id
      have HT := Lib.hid (fun h => all_step (p := knownB) hka ht.out h)
      have HN := Lib.hid (fun h => all_no (p := knownB) hka h)
      clear hca ha ht
      generalize a[k] = x at ca HT HN
      by_cases h1 : x < 1
      · obtain rfl : 61 = R := by rw [← hR.out]; exact (chkG_no (okG_args (HN.out (by rw [known_not]; omega)))).symm
        clear HT HN hR HO
        go_wp2
        go_ret
        exact ⟨rfl, hK⟩
      · by_cases h4 : 4 < x
        · obtain rfl : 61 = R := by rw [← hR.out]; exact (chkG_no (okG_args (HN.out (by rw [known_not]; omega)))).symm
          clear HT HN hR HO
          go_wp2
          go_ret
          exact ⟨rfl, hK⟩
        · have HV := Lib.hid (HT.out (by rw [known_iff]; omega))
          clear HT HN hR HO
          go_wp2
          go_roundw
          case rel => exact ⟨k + 1, by omega, by go_num, HV, hb, hK⟩
          case measure => simp [intOf]; omega
    · obtain rfl : 0 = R := by
        rw [← hR.out]
        have e1 := ht.out
        rw [List.take_of_length_le (by rw [hn.out]; omega)] at e1
        exact (HO.out e1).symm
      clear hR HO
      go_wp2
      go_ret
      exact ⟨rfl, hK⟩

set_option maxRecDepth 100000 in
set_option maxHeartbeats 4000000 in
theorem rsame_any (A1 : Option Addr) (a1 : List Int) (n1 c1 : Nat) (B1 : Option Addr) (r1 : List Int) (m1 d1 : Nat) (A2 : Option Addr) (a2 : List Int) (n2 c2 : Nat) (B2 : Option Addr) (r2 : List Int) (m2 d2 : Nat) (w : World)
    (ha1 : Rd w A1 (ivs a1)) (hr1 : Rd w B1 (ivs r1)) (ha2 : Rd w A2 (ivs a2)) (hr2 : Rd w B2 (ivs r2)) (hn1 : Hid (a1.length = n1)) (hm1 : Hid (r1.length = m1)) (hn2 : Hid (a2.length = n2)) (hm2 : Hid (r2.length = m2))
    (qn1 : n1 ≤ 9223372036854775807) (qm1 : m1 ≤ 9223372036854775807) (qn2 : n2 ≤ 9223372036854775807) (qm2 : m2 ≤ 9223372036854775807) (R : Bool) (hR : Hid (R = decide (a1 = a2 ∧ r1 = r2))) :
    Calls Tryz.prog 51 #[.agg #[.slice A1 n1 c1, .slice B1 m1 d1], .agg #[.slice A2 n2 c2, .slice B2 m2 d2]] w fun e w' => e = .returned (.bool R) ∧ Keep NoB w w' := by
  have bx := (Blk.new w 34 #[.slice A1 n1 c1, .slice B1 m1 d1]).alloc (.cells #[.slice A2 n2 c2, .slice B2 m2 d2] 34)
  have by2 := Blk.new (w.alloc (.cells #[.slice A1 n1 c1, .slice B1 m1 d1] 34)) 34 #[.slice A2 n2 c2, .slice B2 m2 d2]
  have k0 := ((Keep.refl NoB w).alloc (.cells #[.slice A1 n1 c1, .slice B1 m1 d1] 34)).alloc (.cells #[.slice A2 n2 c2, .slice B2 m2 d2] 34)
  rw [World.size_alloc] at by2
  have HA := Lib.hid (fun w h h' (R : Bool) hR => ints_any A1 A2 a1 a2 n1 n2 c1 c2 w h h' hn1 hn2 qn1 qn2 R hR)
  have HB := Lib.hid (fun w h h' (R : Bool) hR => ints_any B1 B2 r1 r2 m1 m2 d1 d2 w h h' hm1 hm2 qm1 qm2 R hR)
  by_cases q1 : a1 = a2
  by_cases q2 : r1 = r2
  · skip
    have HA2 := Lib.hid (fun w h h' => HA.out w h h' true (show _ = _ from (decide_eq_true q1).symm))
    have HB2 := Lib.hid (fun w h h' => HB.out w h h' true (show _ = _ from (decide_eq_true q2).symm))
    obtain rfl : R = true := by rw [hR.out, decide_eq_true_iff]; exact ⟨q1, q2⟩
    clear HA HB hR
    go_enter Tryz.func51, Tryz.ntmps51
    go_wp2_with fail
    refine (HA2.out _ (ha1.keepN k0) (ha2.keepN k0)).mono ?_
    rintro e w1 ⟨rfl, k1⟩
    obtain ⟨x0, x1⟩ := blk2 (bx.keep k1 id)
    obtain ⟨y0, y1⟩ := blk2 (by2.keep k1 id)
    go_wp2_with fail
    refine (HB2.out _ ((hr1.keepN k0).keepN k1) ((hr2.keepN k0).keepN k1)).mono ?_
    rintro e w2 ⟨rfl, k2⟩
    go_wp2
    go_ret
    exact ⟨rfl, keepN (keepN k0 k1) k2⟩
  · skip
    have HA2 := Lib.hid (fun w h h' => HA.out w h h' true (show _ = _ from (decide_eq_true q1).symm))
    have HB2 := Lib.hid (fun w h h' => HB.out w h h' false (show _ = _ from (decide_eq_false q2).symm))
    obtain rfl : R = false := by rw [hR.out, decide_eq_false_iff_not]; exact fun h => q2 h.2
    clear HA HB hR
    go_enter Tryz.func51, Tryz.ntmps51
    go_wp2_with fail
    refine (HA2.out _ (ha1.keepN k0) (ha2.keepN k0)).mono ?_
    rintro e w1 ⟨rfl, k1⟩
    obtain ⟨x0, x1⟩ := blk2 (bx.keep k1 id)
    obtain ⟨y0, y1⟩ := blk2 (by2.keep k1 id)
    go_wp2_with fail
    refine (HB2.out _ ((hr1.keepN k0).keepN k1) ((hr2.keepN k0).keepN k1)).mono ?_
    rintro e w2 ⟨rfl, k2⟩
    go_wp2
    go_ret
    exact ⟨rfl, keepN (keepN k0 k1) k2⟩
  by_cases q2 : r1 = r2
  · skip
    have HA2 := Lib.hid (fun w h h' => HA.out w h h' false (show _ = _ from (decide_eq_false q1).symm))
    have HB2 := Lib.hid (fun w h h' => HB.out w h h' true (show _ = _ from (decide_eq_true q2).symm))
    obtain rfl : R = false := by rw [hR.out, decide_eq_false_iff_not]; exact fun h => q1 h.1
    clear HA HB hR
    go_enter Tryz.func51, Tryz.ntmps51
    go_wp2_with fail
    refine (HA2.out _ (ha1.keepN k0) (ha2.keepN k0)).mono ?_
    rintro e w1 ⟨rfl, k1⟩
    obtain ⟨x0, x1⟩ := blk2 (bx.keep k1 id)
    obtain ⟨y0, y1⟩ := blk2 (by2.keep k1 id)
    go_wp2_with fail
    refine (HB2.out _ ((hr1.keepN k0).keepN k1) ((hr2.keepN k0).keepN k1)).mono ?_
    rintro e w2 ⟨rfl, k2⟩
    go_wp2
    go_ret
    exact ⟨rfl, keepN (keepN k0 k1) k2⟩
  · skip
    have HA2 := Lib.hid (fun w h h' => HA.out w h h' false (show _ = _ from (decide_eq_false q1).symm))
    have HB2 := Lib.hid (fun w h h' => HB.out w h h' false (show _ = _ from (decide_eq_false q2).symm))
    obtain rfl : R = false := by rw [hR.out, decide_eq_false_iff_not]; exact fun h => q1 h.1
    clear HA HB hR
    go_enter Tryz.func51, Tryz.ntmps51
    go_wp2_with fail
    refine (HA2.out _ (ha1.keepN k0) (ha2.keepN k0)).mono ?_
    rintro e w1 ⟨rfl, k1⟩
    obtain ⟨x0, x1⟩ := blk2 (bx.keep k1 id)
    obtain ⟨y0, y1⟩ := blk2 (by2.keep k1 id)
    go_wp2_with fail
    refine (HB2.out _ ((hr1.keepN k0).keepN k1) ((hr2.keepN k0).keepN k1)).mono ?_
    rintro e w2 ⟨rfl, k2⟩
    go_wp2
    go_ret
    exact ⟨rfl, keepN (keepN k0 k1) k2⟩

set_option maxRecDepth 100000 in
set_option maxHeartbeats 2000000 in
theorem great_no (S A B : Option Addr) (k c0 n c m d : Nat) (w : World) (h1 : k ≤ 100) (h2 : n ≤ 100) (h3 : m ≤ 100) :
    Calls Tryz.prog 44 #[.slice S k c0, .agg #[.slice A n c, .slice B m d]] w fun e w' => e = .returned (.int .i64 0) ∧ Keep NoB w w' := by
  go_enter Tryz.func44, Tryz.ntmps44
  go_wp2
  go_ret
  exact ⟨rfl, (Keep.refl _ _).alloc _⟩
set_option maxRecDepth 100000 in
set_option maxHeartbeats 2000000 in
theorem great_yes (S A B : Option Addr) (k c0 n c m d : Nat) (w : World) (h : ¬ (k ≤ 100 ∧ n ≤ 100 ∧ m ≤ 100)) :
    Calls Tryz.prog 44 #[.slice S k c0, .agg #[.slice A n c, .slice B m d]] w fun e w' => e = .returned (.int .i64 1) ∧ Keep NoB w w' := by
  by_cases h1 : k ≤ 100
  · by_cases h2 : n ≤ 100
    · have h3 : ¬ m ≤ 100 := by omega
      clear h
      go_enter Tryz.func44, Tryz.ntmps44
      go_wp2
      go_ret
      exact ⟨rfl, (Keep.refl _ _).alloc _⟩
    · clear h
      go_enter Tryz.func44, Tryz.ntmps44
      go_wp2
      go_ret
      exact ⟨rfl, (Keep.refl _ _).alloc _⟩
  · clear h
    go_enter Tryz.func44, Tryz.ntmps44
    go_wp2
    go_ret
    exact ⟨rfl, (Keep.refl _ _).alloc _⟩

end Go.Proofs.YtgnooffedmeenaaGreatDoor.S

namespace Go.Proofs.YtgnooffedmeenaaGreatDoor.S
open Go.RowKit W

end Go.Proofs.YtgnooffedmeenaaGreatDoor.S

namespace Go.Proofs.YtgnooffedmeenaaGreatDoor.S
open Go.RowKit W

end Go.Proofs.YtgnooffedmeenaaGreatDoor.S

namespace Go.Proofs.YtgnooffedmeenaaGreatDoor.S
open Go.RowKit W

end Go.Proofs.YtgnooffedmeenaaGreatDoor.S

namespace Go.Proofs.YtgnooffedmeenaaGreatDoor.S
open Go.RowKit Go.Shelf W
attribute [local go_sem] Oper.semAt_some

/-- What a round keeps: the bytes. -/
def RdK (A : Option Addr) (b : List UInt8) (W W' : World) : Prop := V.Rd W A b → V.Rd W' A b
theorem RdK.trans {A : Option Addr} {b : List UInt8} {X Y Z : World} (h : RdK A b X Y) (h' : RdK A b Y Z) : RdK A b X Z := fun hr => h' (h hr)
theorem RdK.putObj {A : Option Addr} {b : List UInt8} (W : World) (l : Nat) (o o' : Obj) (hl : W.heap[l]? = some o) (ho : o.isCells = false) : RdK A b W (W.putObj l o') := fun hr h0 => by
  obtain ⟨ad, e, hc⟩ := hr h0
  refine ⟨ad, e, fun j u hu => ?_⟩
  have h1 := hc j u hu
  have hne : (ad.add j).block ≠ l := by
    intro e2
    unfold World.cell? at h1
    rw [e2, hl] at h1
    cases o with
    | cells cs t f => cases ho
    | _ => simp at h1
  exact (World.cell?_of_block (World.putObj_heap_other hne)).trans h1
end Go.Proofs.YtgnooffedmeenaaGreatDoor.S

namespace Go.Proofs.YtgnooffedmeenaaGreatDoor.S
open Go.RowKit Go.Shelf W
attribute [local go_sem] Oper.semAt_some

end Go.Proofs.YtgnooffedmeenaaGreatDoor.S

namespace Go.Proofs.YtgnooffedmeenaaGreatDoor.S
open Go.RowKit W

end Go.Proofs.YtgnooffedmeenaaGreatDoor.S

namespace Go.Proofs.YtgnooffedmeenaaGreatDoor.S
open Go.RowKit W

abbrev Sg := Option ((List Int × List Int) × Nat)
theorem blk_put2 {W : World} {g : Nat} {x y : Value} (h : Blk W g 34 #[x, y]) (u v : Value) : Blk ((W.setCell ⟨g, 0, none⟩ u).setCell ⟨g, 1, none⟩ v) g 34 #[u, v] := by
  have := (h.put 0 u).put 1 v
  simpa using this
theorem sig_size : (Tryz.prog.info? 34).map (·.size) = some 2 := by kernel_rfl
end Go.Proofs.YtgnooffedmeenaaGreatDoor.S

namespace Go.Proofs.YtgnooffedmeenaaGreatDoor.S
open Go.RowKit W

end Go.Proofs.YtgnooffedmeenaaGreatDoor.S

namespace Go.Proofs.YtgnooffedmeenaaGreatDoor.S
open Go.RowKit W

end Go.Proofs.YtgnooffedmeenaaGreatDoor.S

namespace Go.Proofs.YtgnooffedmeenaaGreatDoor.W
open Go.RowKit


end Go.Proofs.YtgnooffedmeenaaGreatDoor.W

namespace Go.Proofs.YtgnooffedmeenaaGreatDoor.W
open Go.RowKit

end Go.Proofs.YtgnooffedmeenaaGreatDoor.W

namespace Go.Proofs.YtgnooffedmeenaaGreatDoor.S
open Go.RowKit W

theorem shS_ok {l : List Int} (h : okS l = true) : shS l = txt l := if_pos h
theorem shS_no {l : List Int} (h : okS l = false) : shS l = [] := if_neg (by rw [h]; decide)
theorem shG_ok {a r : List Int} (h : okG a r = true) : shG a r = txt a ++ 62 :: txt r := if_pos h
theorem shG_no {a r : List Int} (h : okG a r = false) : shG a r = [] := if_neg (by rw [h]; decide)
theorem str_mid (a b : List UInt8) : W.str a ++ (⟨#[62]⟩ : ByteArray) ++ W.str b = W.str (a ++ 62 :: b) := by
  apply ByteArray.ext
  simp [ByteArray.data_append]
theorem txt_le (l : List Int) : (txt l).length ≤ 1024 := by
  unfold txt
  split
  · rename_i h
    rw [flat_let_length _ h.2]; exact h.1
  · simp

set_option maxRecDepth 100000 in
set_option maxHeartbeats 2000000 in
theorem showS_any (A : Option Addr) (l : List Int) (na c : Nat) (w : World) (hL : LetAt w) (hr : Rd w A (ivs l)) (hn : Hid (l.length = na)) (hm : na ≤ 9223372036854775807) :
    Calls Tryz.prog 144 #[.slice A na c] w fun e w' => e = .returned (.string (W.str (shS l))) ∧ Keep NoB w w' := by
  cases ho : okS l
  · have HC := Lib.hid (fun w hr => chkS_any A l na c w hr hn hm 60 (chkS_no ho))
    rw [shS_no ho]
    clear ho
    go_enter Tryz.func144, Tryz.ntmps144
    go_wp2_with (go_at_call 117; refine (HC.out _ hr).mono ?_; rintro e w1 ⟨rfl, k1⟩)
    go_ret
    exact ⟨rfl, k1⟩
  · have HC := Lib.hid (fun w hr => chkS_any A l na c w hr hn hm 0 (chkS_ok ho))
    have HT := Lib.hid (fun w hL hr => text_any A l na c w hL hr hn hm)
    rw [shS_ok ho]
    clear ho
    go_enter Tryz.func144, Tryz.ntmps144
    go_wp2_with fail
    refine (HC.out _ hr).mono ?_
    rintro e w1 ⟨rfl, k1⟩
    go_wp2_with fail
    refine (HT.out _ (hL.keep k1) (hr.keepN k1)).mono ?_
    rintro e w2 ⟨rfl, k2⟩
    go_wp2
    go_ret
    exact ⟨rfl, keepN k1 k2⟩

set_option maxRecDepth 100000 in
set_option maxHeartbeats 2000000 in
theorem rshowS_any (A : Option Addr) (l : List Int) (na c : Nat) (w : World) (hr : Rd w A (ivs l)) (hn : Hid (l.length = na)) (hm : na ≤ 9223372036854775807) :
    Calls Tryz.prog 82 #[.slice A na c] w fun e w' => e = .returned (.string (W.str (shS l))) ∧ Keep NoB w w' := by
  cases ho : okS l
  · have HC := Lib.hid (fun w hr => rchkS_any A l na c w hr hn hm 60 (chkS_no ho))
    rw [shS_no ho]
    clear ho
    go_enter Tryz.func82, Tryz.ntmps82
    go_wp2_with (go_at_call 148; refine (HC.out _ hr).mono ?_; rintro e w1 ⟨rfl, k1⟩)
    go_ret
    exact ⟨rfl, k1⟩
  · have HC := Lib.hid (fun w hr => rchkS_any A l na c w hr hn hm 0 (chkS_ok ho))
    have HT := Lib.hid (fun w hr => rtext_any A l na c w hr hn hm)
    rw [shS_ok ho]
    clear ho
    go_enter Tryz.func82, Tryz.ntmps82
    go_wp2_with fail
    refine (HC.out _ hr).mono ?_
    rintro e w1 ⟨rfl, k1⟩
    go_wp2_with fail
    refine (HT.out _ (hr.keepN k1)).mono ?_
    rintro e w2 ⟨rfl, k2⟩
    go_wp2
    go_ret
    exact ⟨rfl, keepN k1 k2⟩

set_option maxRecDepth 100000 in
set_option maxHeartbeats 4000000 in
theorem showG_any (A : Option Addr) (a : List Int) (na ca : Nat) (B : Option Addr) (r : List Int) (nb cb : Nat) (w : World) (hL : LetAt w) (ha : Rd w A (ivs a)) (hr : Rd w B (ivs r)) (hna : Hid (a.length = na)) (hnb : Hid (r.length = nb)) (hn6 : na ≤ 4611686018427387903) (hm6 : nb ≤ 4611686018427387903) :
    Calls Tryz.prog 145 #[.agg #[.slice A na ca, .slice B nb cb]] w fun e w' => e = .returned (.string (W.str (shG a r))) ∧ Keep NoB w w' := by
  have bx := Blk.new w 34 #[.slice A na ca, .slice B nb cb]
  have k0 := (Keep.refl NoB w).alloc (.cells #[.slice A na ca, .slice B nb cb] 34)
  cases ho : okG a r
  · have HC := Lib.hid (fun w ha hr => chkG_any A a na ca B r nb cb w ha hr hna hnb hn6 hm6 61 (chkG_no ho))
    rw [shG_no ho]
    clear ho
    go_enter Tryz.func145, Tryz.ntmps145
    go_wp2_with (go_at_call 102; refine (HC.out _ (ha.keepN k0) (hr.keepN k0)).mono ?_; rintro e w1 ⟨rfl, k1⟩)
    go_ret
    exact ⟨rfl, keepN k0 k1⟩
  · have HC := Lib.hid (fun w ha hr => chkG_any A a na ca B r nb cb w ha hr hna hnb hn6 hm6 0 (chkG_ok ho))
    have HTa := Lib.hid (fun w hL hr => text_any A a na ca w hL hr hna (by omega))
    have HTb := Lib.hid (fun w hL hr => text_any B r nb cb w hL hr hnb (by omega))
    rw [shG_ok ho, ← str_mid]
    have q1 : (W.str (txt a)).size ≤ 1024 := by rw [size_of (s := txt a) (by simp)]; exact txt_le a
    have q2 : (W.str (txt r)).size ≤ 1024 := by rw [size_of (s := txt r) (by simp)]; exact txt_le r
    generalize W.str (txt a) = S1 at HTa q1 ⊢
    generalize W.str (txt r) = S2 at HTb q2 ⊢
    have q3 : ¬ 9223372036854775807 < S1.size + 1 := by omega
    have q4 : ¬ 9223372036854775807 < S1.size + 1 + S2.size := by omega
    have HL := Lib.hid hL
    clear ho hL
    go_enter Tryz.func145, Tryz.ntmps145
    go_wp2_with fail
    refine (HC.out _ (ha.keepN k0) (hr.keepN k0)).mono ?_
    rintro e w2 ⟨rfl, k1⟩
    obtain ⟨c0, c1⟩ := blk2 (bx.keep k1 id)
    have gK := keepN k0 k1
    have ha2 := ha.keepN gK
    have hr2 := hr.keepN gK
    clear bx k0 k1 ha hr HC
    go_wp2
    refine wp_region_sh ((0, false) :: (1, false) :: (2, false) :: (3, false) :: (4, false) :: (5, false) :: (6, false) :: (7, false) :: (8, false) :: []) (fun w' => Keep NoB w2 w') (by kernel_rfl) (by kernel_rfl) (by rfl) (by kernel_rfl) (stable_keep w2) (Keep.refl NoB w2).drew ?_
    refine shM_step rfl rfl rfl (by rfl) (by rfl) ?_
    apply Exists.intro
    refine ⟨fun z K hK => ?_, ?_, ?_⟩
    · go_big_quiet_op
      exact hK _ rfl
    · kernel_rfl
    refine shM_step rfl rfl rfl (by rfl) (by rfl) ?_
    apply Exists.intro
    refine ⟨fun z K hK => ?_, ?_, ?_⟩
    · have d0 : ∀ y : KW z.w, y.w.cell? ⟨w.heap.size, 0, none⟩ = some (.slice A na ca) := fun y => Keep.cell (keepN z.has y.keep) c0 id
      go_big_quiet_op
      exact hK _ rfl
    · kernel_rfl
    refine shM_step rfl rfl rfl (by rfl) (by rfl) ?_
    apply Exists.intro
    refine ⟨fun z K hK => ?_, ?_, ?_⟩
    · go_big_quiet_op
      apply Exists.intro
      refine ⟨fun y => ?_, ?_⟩
      · go_at_call 146
        exact kept_of (HTa.out _ (LetAt.keep HL.out (keepN gK (keepN z.has y.keep))) (ha2.keepN (keepN z.has y.keep)))
      · exact hK _ rfl
    · kernel_rfl
    refine shM_step rfl rfl rfl (by rfl) (by rfl) ?_
    apply Exists.intro
    refine ⟨fun z K hK => ?_, ?_, ?_⟩
    · go_big_quiet_op
      exact hK _ rfl
    · kernel_rfl
    refine shM_step rfl rfl rfl (by rfl) (by rfl) ?_
    apply Exists.intro
    refine ⟨fun z K hK => ?_, ?_, ?_⟩
    · go_big_quiet_op
      exact hK _ rfl
    · kernel_rfl
    refine shM_step rfl rfl rfl (by rfl) (by rfl) ?_
    apply Exists.intro
    refine ⟨fun z K hK => ?_, ?_, ?_⟩
    · have d1 : ∀ y : KW z.w, y.w.cell? ⟨w.heap.size, 1, none⟩ = some (.slice B nb cb) := fun y => Keep.cell (keepN z.has y.keep) c1 id
      go_big_quiet_op
      exact hK _ rfl
    · kernel_rfl
    refine shM_step rfl rfl rfl (by rfl) (by rfl) ?_
    apply Exists.intro
    refine ⟨fun z K hK => ?_, ?_, ?_⟩
    · go_big_quiet_op
      apply Exists.intro
      refine ⟨fun y => ?_, ?_⟩
      · go_at_call 146
        exact kept_of (HTb.out _ (LetAt.keep HL.out (keepN gK (keepN z.has y.keep))) (hr2.keepN (keepN z.has y.keep)))
      · exact hK _ rfl
    · kernel_rfl
    refine shM_step rfl rfl rfl (by rfl) (by rfl) ?_
    apply Exists.intro
    refine ⟨fun z K hK => ?_, ?_, ?_⟩
    · go_big_quiet_op
      exact hK _ rfl
    · kernel_rfl
    refine shM_step rfl rfl rfl (by rfl) (by rfl) ?_
    apply Exists.intro
    refine ⟨fun z K hK => ?_, ?_, ?_⟩
    · go_big_quiet_op
      exact hK _ rfl
    · kernel_rfl
    refine shM_nil (fun z => ?_)
    have hz := z.has
    generalize z.w = w6 at hz ⊢
    go_wp2
    go_ret
    exact ⟨rfl, keepN gK hz⟩

set_option maxRecDepth 100000 in
set_option maxHeartbeats 4000000 in
theorem rshowG_any (A : Option Addr) (a : List Int) (na ca : Nat) (B : Option Addr) (r : List Int) (nb cb : Nat) (w : World) (ha : Rd w A (ivs a)) (hr : Rd w B (ivs r)) (hna : Hid (a.length = na)) (hnb : Hid (r.length = nb)) (hn6 : na ≤ 4611686018427387903) (hm6 : nb ≤ 4611686018427387903) :
    Calls Tryz.prog 83 #[.agg #[.slice A na ca, .slice B nb cb]] w fun e w' => e = .returned (.string (W.str (shG a r))) ∧ Keep NoB w w' := by
  have bx := Blk.new w 34 #[.slice A na ca, .slice B nb cb]
  have k0 := (Keep.refl NoB w).alloc (.cells #[.slice A na ca, .slice B nb cb] 34)
  cases ho : okG a r
  · have HC := Lib.hid (fun w ha hr => rchkG_any A a na ca B r nb cb w ha hr hna hnb hn6 hm6 61 (chkG_no ho))
    rw [shG_no ho]
    clear ho
    go_enter Tryz.func83, Tryz.ntmps83
    go_wp2_with (go_at_call 110; refine (HC.out _ (ha.keepN k0) (hr.keepN k0)).mono ?_; rintro e w1 ⟨rfl, k1⟩)
    go_ret
    exact ⟨rfl, keepN k0 k1⟩
  · have HC := Lib.hid (fun w ha hr => rchkG_any A a na ca B r nb cb w ha hr hna hnb hn6 hm6 0 (chkG_ok ho))
    have HTa := Lib.hid (fun w hr => rtext_any A a na ca w hr hna (by omega))
    have HTb := Lib.hid (fun w hr => rtext_any B r nb cb w hr hnb (by omega))
    rw [shG_ok ho, ← str_mid]
    have q1 : (W.str (txt a)).size ≤ 1024 := by rw [size_of (s := txt a) (by simp)]; exact txt_le a
    have q2 : (W.str (txt r)).size ≤ 1024 := by rw [size_of (s := txt r) (by simp)]; exact txt_le r
    generalize W.str (txt a) = S1 at HTa q1 ⊢
    generalize W.str (txt r) = S2 at HTb q2 ⊢
    have q3 : ¬ 9223372036854775807 < S1.size + 1 := by omega
    have q4 : ¬ 9223372036854775807 < S1.size + 1 + S2.size := by omega
    clear ho
    go_enter Tryz.func83, Tryz.ntmps83
    go_wp2_with fail
    refine (HC.out _ (ha.keepN k0) (hr.keepN k0)).mono ?_
    rintro e w2 ⟨rfl, k1⟩
    obtain ⟨c0, c1⟩ := blk2 (bx.keep k1 id)
    have gK := keepN k0 k1
    have ha2 := ha.keepN gK
    have hr2 := hr.keepN gK
    clear bx k0 k1 ha hr HC
    go_wp2
    refine wp_region_sh ((0, false) :: (1, false) :: (2, false) :: (3, false) :: (4, false) :: (5, false) :: (6, false) :: (7, false) :: (8, false) :: []) (fun w' => Keep NoB w2 w') (by kernel_rfl) (by kernel_rfl) (by rfl) (by kernel_rfl) (stable_keep w2) (Keep.refl NoB w2).drew ?_
    refine shM_step rfl rfl rfl (by rfl) (by rfl) ?_
    apply Exists.intro
    refine ⟨fun z K hK => ?_, ?_, ?_⟩
    · go_big_quiet_op
      exact hK _ rfl
    · kernel_rfl
    refine shM_step rfl rfl rfl (by rfl) (by rfl) ?_
    apply Exists.intro
    refine ⟨fun z K hK => ?_, ?_, ?_⟩
    · have d0 : ∀ y : KW z.w, y.w.cell? ⟨w.heap.size, 0, none⟩ = some (.slice A na ca) := fun y => Keep.cell (keepN z.has y.keep) c0 id
      go_big_quiet_op
      exact hK _ rfl
    · kernel_rfl
    refine shM_step rfl rfl rfl (by rfl) (by rfl) ?_
    apply Exists.intro
    refine ⟨fun z K hK => ?_, ?_, ?_⟩
    · go_big_quiet_op
      apply Exists.intro
      refine ⟨fun y => ?_, ?_⟩
      · go_at_call 84
        exact kept_of (HTa.out _ (ha2.keepN (keepN z.has y.keep)))
      · exact hK _ rfl
    · kernel_rfl
    refine shM_step rfl rfl rfl (by rfl) (by rfl) ?_
    apply Exists.intro
    refine ⟨fun z K hK => ?_, ?_, ?_⟩
    · go_big_quiet_op
      exact hK _ rfl
    · kernel_rfl
    refine shM_step rfl rfl rfl (by rfl) (by rfl) ?_
    apply Exists.intro
    refine ⟨fun z K hK => ?_, ?_, ?_⟩
    · go_big_quiet_op
      exact hK _ rfl
    · kernel_rfl
    refine shM_step rfl rfl rfl (by rfl) (by rfl) ?_
    apply Exists.intro
    refine ⟨fun z K hK => ?_, ?_, ?_⟩
    · have d1 : ∀ y : KW z.w, y.w.cell? ⟨w.heap.size, 1, none⟩ = some (.slice B nb cb) := fun y => Keep.cell (keepN z.has y.keep) c1 id
      go_big_quiet_op
      exact hK _ rfl
    · kernel_rfl
    refine shM_step rfl rfl rfl (by rfl) (by rfl) ?_
    apply Exists.intro
    refine ⟨fun z K hK => ?_, ?_, ?_⟩
    · go_big_quiet_op
      apply Exists.intro
      refine ⟨fun y => ?_, ?_⟩
      · go_at_call 84
        exact kept_of (HTb.out _ (hr2.keepN (keepN z.has y.keep)))
      · exact hK _ rfl
    · kernel_rfl
    refine shM_step rfl rfl rfl (by rfl) (by rfl) ?_
    apply Exists.intro
    refine ⟨fun z K hK => ?_, ?_, ?_⟩
    · go_big_quiet_op
      exact hK _ rfl
    · kernel_rfl
    refine shM_step rfl rfl rfl (by rfl) (by rfl) ?_
    apply Exists.intro
    refine ⟨fun z K hK => ?_, ?_, ?_⟩
    · go_big_quiet_op
      exact hK _ rfl
    · kernel_rfl
    refine shM_nil (fun z => ?_)
    have hz := z.has
    generalize z.w = w6 at hz ⊢
    go_wp2
    go_ret
    exact ⟨rfl, keepN gK hz⟩

end Go.Proofs.YtgnooffedmeenaaGreatDoor.S

namespace Go.Proofs.YtgnooffedmeenaaGreatDoor.C
open Go.RowKit O

theorem goes_gen (op a b tgt : Int) (t : Bool) (w : World) (h1 : goesN op a b = tgt) (h2 : goesI op a b = t) :
    Calls Tryz.prog 106 #[instV op a b] w fun e w' => e = .returned (.tuple #[.int .i64 tgt, .bool t]) ∧ Keep NoB w w' := by subst h1 h2; exact goes_any op a b w
theorem ends_gen (op a b : Int) (t : Bool) (w : World) (h : endsI op a b = t) :
    Calls Tryz.prog 164 #[instV op a b] w fun e w' => e = .returned (.bool t) ∧ Keep NoB w w' := by subst h; exact ends_any op a b w
theorem chk_gen (op a b c : Int) (w : World) (h : chk op a b = c) :
    Calls Tryz.prog 165 #[instV op a b] w fun e w' => e = .returned (.int .i64 c) ∧ Keep NoB w w' := by subst h; exact check_any op a b w
theorem blk3 {w : World} {g : Nat} {t : TypeId} {a0 a1 a2 : Value} (h : Blk w g t #[a0, a1, a2]) : w.cell? ⟨g, 0, none⟩ = some a0 ∧ w.cell? ⟨g, 1, none⟩ = some a1 ∧ w.cell? ⟨g, 2, none⟩ = some a2 := ⟨h.cell 0, h.cell 1, h.cell 2⟩

set_option maxRecDepth 100000 in
set_option maxHeartbeats 4000000 in
theorem cchk_any (A : Option Addr) (l : List I3) (n c : Nat) (w : World) (hr : Rd w A (iis l)) (hn : Hid (l.length = n)) (hm : n ≤ 9223372036854775807) (R : Int) (hR : Hid (chkB l = R)) :
    Calls Tryz.prog 105 #[.slice A n c] w fun e w' => e = .returned (.int .i64 R) ∧ Keep NoB w w' := by
  by_cases h0 : n = 0
  · subst h0
    obtain rfl : 50 = R := by rw [← hR.out, List.length_eq_zero_iff.1 hn.out]; rfl
    go_enter Tryz.func105, Tryz.ntmps105
    go_wp2
    go_ret
    exact ⟨rfl, Keep.refl _ _⟩
  have hz : ((n : Int) == 0) = false := by rw [beq_eq_false_iff_ne]; omega
  by_cases h5 : 512 < n
  · obtain rfl : 50 = R := by rw [← hR.out, chkB_no (okB_long (by rw [hn.out]; omega))]
    have hq : decide ((512 : Int) < (n : Int)) = true := by rw [decide_eq_true_iff]; omega
    clear h5 h0
    go_enter Tryz.func105, Tryz.ntmps105
    go_wp2
    go_ret
    exact ⟨rfl, Keep.refl _ _⟩
  have hq : decide ((512 : Int) < (n : Int)) = false := by rw [decide_eq_false_iff_not]; omega
  obtain ⟨m, rfl⟩ : ∃ m, n = m + 1 := ⟨n - 1, by omega⟩
  have hz2 : ((m : Int) + 1 == 0) = false := by rw [beq_eq_false_iff_ne]; omega
  have hq2 : decide ((512 : Int) < (m : Int) + 1) = false := by rw [decide_eq_false_iff_not]; omega
  have hl0 : 0 < l.length := by rw [hn.out]; omega
  obtain ⟨g, off, rfl, hc⟩ := rdJ_at hr hl0
  have hml : m < l.length := by rw [hn.out]; omega
  obtain ⟨c0, c1, c2⟩ := hc m hml
  have HC := Lib.hid hc
  have hlast : Hid (lastB l = eB l[m]) := by
    show _ = _
    rw [lastB_at hl0]
    congr 2
    rw [hn.out]; omega
  clear hc hr h0 h5 hl0
  generalize l[m] = x at c0 c1 c2 hlast
  obtain ⟨op, a, b⟩ := x
  dsimp only at c0 c1 c2
  cases he : endsI op a b
  · obtain rfl : 50 = R := by rw [← hR.out, chkB_no (okB_last (by rw [hlast.out]; exact he))]
    have HE := Lib.hid (fun w => ends_gen op a b _ w he)
    clear he hlast HC hR
    go_enter Tryz.func105, Tryz.ntmps105
    go_wp2_with (go_at_call 164; refine (HE.out _).mono ?_; rintro e w1 ⟨rfl, k1⟩)
    go_ret
    exact ⟨rfl, k1⟩
  have HL : Hid (lastB l = true) := by show _ = _; rw [hlast.out]; exact he
  have HE := Lib.hid (fun w => ends_gen op a b _ w he)
  clear he hlast
  go_enter Tryz.func105, Tryz.ntmps105
  go_wp2_with (go_at_call 164; refine (HE.out _).mono ?_; rintro e w1 ⟨rfl, k1⟩)
  clear c0 c1 c2 HE hml
  go_loopw [27] (fun i wr => ∃ k : Nat, k ≤ m + 1 ∧ i = .int .i64 k ∧ Hid ((l.take k).all (itemB (m + 1)) = true) ∧ Keep NoB w wr) (fun i _ => m + 1 - (intOf i).toNat)
  case atStart => exact ⟨0, Nat.zero_le _, rfl, rfl, k1⟩
  case round =>
    obtain ⟨k, hk, rfl, hall, hK⟩ := hrel
    by_cases hlt : k < m + 1
    · have hkl : k < l.length := by rw [hn.out]; exact hlt
      obtain ⟨d0, d1, d2⟩ := HC.out k hkl
      have c0 := hK.cell d0 id
      have c1 := hK.cell d1 id
      have c2 := hK.cell d2 id
      have HT := Lib.hid (show l.take (k + 1) = l.take k ++ [l[k]] from List.take_succ_eq_append_getElem hkl)
      have HN : Hid (itemB l.length l[k] = false → 50 = R) := fun h => by rw [← hR.out, chkB_no (okB_item (all_no hkl h))]
      rw [hn.out] at HN
      clear d0 d1 d2
      generalize l[k] = x at c0 c1 c2 HT HN
      obtain ⟨op, a, b⟩ := x
      dsimp only at c0 c1 c2
      obtain ⟨tgt, hto⟩ : ∃ tgt, goesN op a b = tgt := ⟨_, rfl⟩
      have hb : 0 ≤ tgt ∧ tgt ≤ 511 := by rw [← hto]; exact gN_in (op, a, b)
      have HG := Lib.hid (fun w => goes_gen op a b tgt _ w hto rfl)
      have bx := Blk.new wr 55 #[.int .i64 op, .int .i64 a, .int .i64 b]
      have gK := hK.alloc (.cells #[.int .i64 op, .int .i64 a, .int .i64 b] 55)
      cases ho : okI op a b
      · obtain rfl := HN.out (item_no1 ho)
        have HO := Lib.hid (fun w => chk_gen op a b 40 w (by unfold chk; rw [ho]; rfl))
        clear ho hto HN HT HL hall hK hR
        go_wp2_with fail
        refine (HG.out _).mono ?_
        rintro e w2 ⟨rfl, k2⟩
        replace bx := bx.keep k2 id
        replace gK := keepN gK k2
        obtain ⟨x0, x1, x2⟩ := blk3 bx
        go_wp2_with (go_at_call 165; refine (HO.out _).mono ?_; rintro e w3 ⟨rfl, k3⟩)
        go_ret
        exact ⟨rfl, keepN gK k3⟩
      have HO := Lib.hid (fun w => chk_gen op a b 0 w (by unfold chk; rw [ho]; rfl))
      by_cases ht : tgt < ((m + 1 : Nat) : Int)
      · have ht2 : ¬ ((m : Int) + 1 ≤ tgt) := by omega
        have ha2 : Hid ((l.take (k + 1)).all (itemB (m + 1)) = true) := by
          show _ = _
          rw [HT.out, List.all_append, hall.out]
          simp only [List.all_cons, List.all_nil, Bool.and_true, Bool.true_and]
          exact item_yes ho (by show goesN op a b < _; rw [hto]; exact ht)
        clear ho hto HN HT HL hall hK hR ht
        go_wp2_with fail
        refine (HG.out _).mono ?_
        rintro e w2 ⟨rfl, k2⟩
        replace bx := bx.keep k2 id
        replace gK := keepN gK k2
        obtain ⟨x0, x1, x2⟩ := blk3 bx
        go_wp2_with (go_at_call 165; refine (HO.out _).mono ?_; rintro e w3 ⟨rfl, k3⟩)
        go_roundw
        case rel => exact ⟨k + 1, by omega, by go_num, ha2, keepN gK k3⟩
        case measure => simp [intOf]; omega
      · obtain rfl := HN.out (item_no2 (by show ¬ goesN op a b < _; rw [hto]; exact ht))
        have ht2 : ((m : Int) + 1 ≤ tgt) := by omega
        clear ho hto HN HT HL hall hK hR ht
        go_wp2_with fail
        refine (HG.out _).mono ?_
        rintro e w2 ⟨rfl, k2⟩
        replace bx := bx.keep k2 id
        replace gK := keepN gK k2
        obtain ⟨x0, x1, x2⟩ := blk3 bx
        go_wp2_with (go_at_call 165; refine (HO.out _).mono ?_; rintro e w3 ⟨rfl, k3⟩)
        go_ret
        exact ⟨rfl, keepN gK k3⟩
    · obtain rfl : 0 = R := by
        rw [← hR.out, chkB_ok (okB_mk (by rw [hn.out]; have := decide_eq_false_iff_not.1 hq; omega) HL.out ?_)]
        have := hall.out
        rw [List.take_of_length_le (by rw [hn.out]; omega)] at this
        rw [hn.out]; exact this
      clear HC hR
      go_wp2
      go_ret
      exact ⟨rfl, hK⟩

end Go.Proofs.YtgnooffedmeenaaGreatDoor.C

namespace Go.Proofs.YtgnooffedmeenaaGreatDoor.C
open Go.RowKit O

end Go.Proofs.YtgnooffedmeenaaGreatDoor.C

namespace Go.Proofs.YtgnooffedmeenaaGreatDoor.C
open Go.RowKit O

theorem rgoes_gen (op a b tgt : Int) (t : Bool) (w : World) (h1 : goesN op a b = tgt) (h2 : goesI op a b = t) (ha : O.I64 a) (hb : O.I64 b) :
    Calls Tryz.prog 50 #[instV op a b] w fun e w' => e = .returned (.tuple #[.int .i64 tgt, .bool t]) ∧ Keep NoB w w' := by subst h1 h2; exact rgoes_any op a b w ha hb
theorem rends_gen (op a b : Int) (t : Bool) (w : World) (h : endsI op a b = t) (ha : O.I64 a) (hb : O.I64 b) :
    Calls Tryz.prog 171 #[instV op a b] w fun e w' => e = .returned (.bool t) ∧ Keep NoB w w' := by subst h; exact rends_any op a b w ha hb
/-- The numbers of a list fit. -/
def AllI (l : List I3) : Prop := ∀ x ∈ l, O.I64 x.2.1 ∧ O.I64 x.2.2

set_option maxRecDepth 100000 in
set_option maxHeartbeats 4000000 in
theorem rcchk_any (A : Option Addr) (l : List I3) (n c : Nat) (w : World) (hr : Rd w A (iis l)) (hn : Hid (l.length = n)) (hI : Hid (AllI l)) (hm : n ≤ 9223372036854775807) (R : Int) (hR : Hid (chkB l = R)) :
    Calls Tryz.prog 111 #[.slice A n c] w fun e w' => e = .returned (.int .i64 R) ∧ Keep NoB w w' := by
  by_cases h0 : n = 0
  · subst h0
    obtain rfl : 50 = R := by rw [← hR.out, List.length_eq_zero_iff.1 hn.out]; rfl
    go_enter Tryz.func111, Tryz.ntmps111
    go_wp2
    go_ret
    exact ⟨rfl, Keep.refl _ _⟩
  by_cases h5 : 512 < n
  · obtain rfl : 50 = R := by rw [← hR.out, chkB_no (okB_long (by rw [hn.out]; omega))]
    have hq : decide ((512 : Int) < (n : Int)) = true := by rw [decide_eq_true_iff]; omega
    have hz : decide ((n : Int) < 1) = false := by rw [decide_eq_false_iff_not]; omega
    clear h5 h0
    go_enter Tryz.func111, Tryz.ntmps111
    go_wp2
    go_ret
    exact ⟨rfl, Keep.refl _ _⟩
  obtain ⟨m, rfl⟩ : ∃ m, n = m + 1 := ⟨n - 1, by omega⟩
  have hz2 : decide ((m : Int) + 1 < 1) = false := by rw [decide_eq_false_iff_not]; omega
  have hq2 : decide ((512 : Int) < (m : Int) + 1) = false := by rw [decide_eq_false_iff_not]; omega
  have hm5 : m + 1 ≤ 512 := by omega
  have hl0 : 0 < l.length := by rw [hn.out]; omega
  obtain ⟨g, off, rfl, hc⟩ := rdJ_at hr hl0
  have HC := Lib.hid hc
  clear hc hr h0 h5
  go_enter Tryz.func111, Tryz.ntmps111
  go_wp2
  go_loopw [4] (fun i wr => ∃ k : Nat, k ≤ m + 1 ∧ i = .int .i64 k ∧ Hid ((l.take k).all (itemB (m + 1)) = true) ∧ Keep NoB w wr) (fun i _ => m + 1 - (intOf i).toNat)
  case atStart => exact ⟨0, Nat.zero_le _, rfl, rfl, Keep.refl _ _⟩
  case round =>
    obtain ⟨k, hk, rfl, hall, hK⟩ := hrel
    by_cases hlt : k < m + 1
    · have hkl : k < l.length := by rw [hn.out]; exact hlt
      obtain ⟨d0, d1, d2⟩ := HC.out k hkl
      have c0 := hK.cell d0 id
      have c1 := hK.cell d1 id
      have c2 := hK.cell d2 id
      have HT := Lib.hid (show l.take (k + 1) = l.take k ++ [l[k]] from List.take_succ_eq_append_getElem hkl)
      have HN : Hid (itemB l.length l[k] = false → 50 = R) := fun h => by rw [← hR.out, chkB_no (okB_item (all_no hkl h))]
      have hab := hI.out l[k] (List.getElem_mem hkl)
      rw [hn.out] at HN
      generalize l[k] = x at d0 d1 d2 c0 c1 c2 HT HN hab
      obtain ⟨op, a, b⟩ := x
      dsimp only at d0 d1 d2 c0 c1 c2 hab
      have ha := Lib.hid hab.1
      have hb' := Lib.hid hab.2
      have HD : Hid (∀ w', Keep NoB w w' → w'.cell? ⟨g, off + k * 3, none⟩ = some (.int .i64 op) ∧ w'.cell? ⟨g, off + k * 3 + 1, none⟩ = some (.int .i64 a) ∧ w'.cell? ⟨g, off + k * 3 + 2, none⟩ = some (.int .i64 b)) := fun w' h => ⟨h.cell d0 id, h.cell d1 id, h.cell d2 id⟩
      obtain ⟨tgt, hto⟩ : ∃ tgt, goesN op a b = tgt := ⟨_, rfl⟩
      have hb : 0 ≤ tgt ∧ tgt ≤ 511 := by rw [← hto]; exact gN_in (op, a, b)
      obtain ⟨t, htt⟩ : ∃ t, goesI op a b = t := ⟨_, rfl⟩
      have HG := Lib.hid (fun w => rgoes_gen op a b tgt t w hto htt ha.out hb'.out)
      clear d0 d1 d2 hab
      cases ho : okI op a b
      · obtain rfl := HN.out (item_no1 ho)
        have HO := Lib.hid (fun w => rcheck_gen op a b 40 w (by unfold chk; rw [ho]; rfl) ha.out hb'.out)
        clear ho hto HN HT hall hR htt
        go_wp2_with fail
        refine (HG.out _).mono ?_
        rintro e w2 ⟨rfl, k2⟩
        have gK := keepN hK k2
        obtain ⟨x0, x1, x2⟩ := HD.out _ gK
        clear c0 c1 c2
        go_wp2_with (go_at_call 114; refine (HO.out _).mono ?_; rintro e w3 ⟨rfl, k3⟩)
        go_ret
        exact ⟨rfl, keepN gK k3⟩
      have HO := Lib.hid (fun w => rcheck_gen op a b 0 w (by unfold chk; rw [ho]; rfl) ha.out hb'.out)
      by_cases ht : tgt < ((m + 1 : Nat) : Int)
      · have ht2 : ¬ ((m : Int) + 1 ≤ tgt) := by omega
        have ht3 : decide ((m : Int) + 1 ≤ tgt) = false := by rw [decide_eq_false_iff_not]; omega
        have ha2 : Hid ((l.take (k + 1)).all (itemB (m + 1)) = true) := by
          show _ = _
          rw [HT.out, List.all_append, hall.out]
          simp only [List.all_cons, List.all_nil, Bool.and_true, Bool.true_and]
          exact item_yes ho (by show goesN op a b < _; rw [hto]; exact ht)
        clear ho hto HN HT hall hR ht htt
        cases t
        all_goals
          go_wp2_with fail
          refine (HG.out _).mono ?_
          rintro e w2 ⟨rfl, k2⟩
          have gK := keepN hK k2
          obtain ⟨x0, x1, x2⟩ := HD.out _ gK
          clear c0 c1 c2
          go_wp2_with (go_at_call 114; refine (HO.out _).mono ?_; rintro e w3 ⟨rfl, k3⟩)
          go_roundw
          case rel => exact ⟨k + 1, by omega, by go_num, ha2, keepN gK k3⟩
          case measure => simp [intOf]; omega
      · obtain rfl := HN.out (item_no2 (by show ¬ goesN op a b < _; rw [hto]; exact ht))
        have ht2 : ((m : Int) + 1 ≤ tgt) := by omega
        obtain rfl : t = true := by
          cases t
          · have := gN_no (x := (op, a, b)) htt
            rw [show gN (op, a, b) = tgt from hto] at this
            omega
          · rfl
        clear ho hto HN HT hall hR ht htt
        go_wp2_with fail
        refine (HG.out _).mono ?_
        rintro e w2 ⟨rfl, k2⟩
        have gK := keepN hK k2
        obtain ⟨x0, x1, x2⟩ := HD.out _ gK
        clear c0 c1 c2
        go_wp2_with (go_at_call 114; refine (HO.out _).mono ?_; rintro e w3 ⟨rfl, k3⟩)
        go_ret
        exact ⟨rfl, keepN gK k3⟩
    · obtain rfl : k = m + 1 := by omega
      rw [List.take_of_length_le (by rw [hn.out]; omega)] at hall
      have hml : m < l.length := by rw [hn.out]; omega
      obtain ⟨d0, d1, d2⟩ := HC.out m hml
      have c0 := hK.cell d0 id
      have c1 := hK.cell d1 id
      have c2 := hK.cell d2 id
      have hlast : Hid (lastB l = eB l[m]) := by
        show _ = _
        rw [lastB_at hl0]
        congr 2
        rw [hn.out]; omega
      have hab := hI.out l[m] (List.getElem_mem hml)
      clear d0 d1 d2 HC
      generalize l[m] = x at c0 c1 c2 hlast hab
      obtain ⟨op, a, b⟩ := x
      dsimp only at c0 c1 c2 hab
      cases he : endsI op a b
      · obtain rfl : 50 = R := by rw [← hR.out, chkB_no (okB_last (by rw [hlast.out]; exact he))]
        have HE := Lib.hid (fun w => rends_gen op a b _ w he hab.1 hab.2)
        clear he hlast hR hab hall
        go_wp2_with (go_at_call 171; refine (HE.out _).mono ?_; rintro e w1 ⟨rfl, k1⟩)
        go_ret
        exact ⟨rfl, keepN hK k1⟩
      · obtain rfl : 0 = R := by
          rw [← hR.out, chkB_ok (okB_mk (by rw [hn.out]; exact hm5) (by rw [hlast.out]; exact he) (by rw [hn.out]; exact hall.out))]
        have HE := Lib.hid (fun w => rends_gen op a b _ w he hab.1 hab.2)
        clear he hlast hR hab hall
        go_wp2_with (go_at_call 171; refine (HE.out _).mono ?_; rintro e w1 ⟨rfl, k1⟩)
        go_ret
        exact ⟨rfl, keepN hK k1⟩

set_option maxRecDepth 100000 in
set_option maxHeartbeats 4000000 in
theorem lists_any (A B : Option Addr) (la lb : List I3) (n m c d : Nat) (w : World) (ha : Rd w A (iis la)) (hb : Rd w B (iis lb)) (hn : Hid (la.length = n)) (hm : Hid (lb.length = m))
    (h1 : n ≤ 9223372036854775807) (h2 : m ≤ 9223372036854775807) (R : Bool) (hR : Hid (R = decide (la = lb))) :
    Calls Tryz.prog 52 #[.slice A n c, .slice B m d] w fun e w' => e = .returned (.bool R) ∧ Keep NoB w w' := by
  by_cases hnm : n = m
  · subst hnm
    go_enter Tryz.func52, Tryz.ntmps52
    go_wp2
    go_loopw [5] (fun i wr => ∃ k : Nat, k ≤ n ∧ i = .int .i64 k ∧ Hid (la.take k = lb.take k) ∧ Keep NoB w wr) (fun i _ => n - (intOf i).toNat)
    case atStart => exact ⟨0, Nat.zero_le _, rfl, rfl, Keep.refl _ _⟩
    case round =>
      obtain ⟨k, hk, rfl, ht, hK⟩ := hrel
      by_cases hlt : k < n
      · have hka : k < la.length := by rw [hn.out]; exact hlt
        have hkb : k < lb.length := by rw [hm.out]; exact hlt
        obtain ⟨ga, oa, rfl, hca⟩ := rdJ_at ha (by omega)
        obtain ⟨gb, ob, rfl, hcb⟩ := rdJ_at hb (by omega)
        have ca0 := hK.cell (hca k hka).1 id
        have ca1 := hK.cell (hca k hka).2.1 id
        have ca2 := hK.cell (hca k hka).2.2 id
        have cb0 := hK.cell (hcb k hkb).1 id
        have cb1 := hK.cell (hcb k hkb).2.1 id
        have cb2 := hK.cell (hcb k hkb).2.2 id
        have HT := Lib.hid (show la.take (k + 1) = la.take k ++ [la[k]] from List.take_succ_eq_append_getElem hka)
        have HU := Lib.hid (show lb.take (k + 1) = lb.take k ++ [lb[k]] from List.take_succ_eq_append_getElem hkb)
        clear hca hcb
        by_cases he : la[k] = lb[k]
        · have HV : Hid (la.take (k + 1) = lb.take (k + 1)) := by show _ = _; rw [HT.out, HU.out, ht.out, he]
          rw [he] at ca0 ca1 ca2
          clear he HT HU ha hb
          generalize lb[k] = y at ca0 ca1 ca2 cb0 cb1 cb2
          obtain ⟨y0, y1, y2⟩ := y
          dsimp only at ca0 ca1 ca2 cb0 cb1 cb2
          go_wp2
          go_quiet (fail)
          go_wp2
          go_roundw
          case rel => exact ⟨k + 1, by omega, by go_num, HV, hK.drewN _⟩
          case measure => simp [intOf]; omega
        · have hf : R = false := by
            rw [hR.out, decide_eq_false_iff_not]
            intro e
            exact he (by simp [e])
          subst hf
          clear HT HU ha hb
          generalize la[k] = x at ca0 ca1 ca2 he
          generalize lb[k] = y at cb0 cb1 cb2 he
          obtain ⟨x0, x1, x2⟩ := x
          obtain ⟨y0, y1, y2⟩ := y
          dsimp only at ca0 ca1 ca2 cb0 cb1 cb2
          by_cases h0 : x0 = y0
          · subst h0
            by_cases h3 : x1 = y1
            · subst h3
              have hne : (x2 == y2) = false := by rw [beq_eq_false_iff_ne]; rintro rfl; exact he rfl
              clear he
              go_wp2
              go_quiet (fail)
              go_wp2
              go_ret
              exact ⟨rfl, hK.drewN _⟩
            · have hne : (x1 == y1) = false := by rw [beq_eq_false_iff_ne]; exact h3
              clear he h3
              go_wp2
              go_quiet (fail)
              go_wp2
              go_ret
              exact ⟨rfl, hK.drewN _⟩
          · have hne : (x0 == y0) = false := by rw [beq_eq_false_iff_ne]; exact h0
            clear he h0
            go_wp2
            go_quiet (fail)
            go_wp2
            go_ret
            exact ⟨rfl, hK.drewN _⟩
      · have hf : R = true := by
          rw [hR.out, decide_eq_true_iff]
          have e1 := ht.out
          rwa [List.take_of_length_le (by rw [hn.out]; omega), List.take_of_length_le (by rw [hm.out]; omega)] at e1
        subst hf
        go_wp2
        go_ret
        exact ⟨rfl, hK⟩
  · have hf : R = false := by
      rw [hR.out, decide_eq_false_iff_not]
      intro e
      exact hnm (by rw [← hn.out, ← hm.out, e])
    subst hf
    have hne : ((n : Int) != (m : Int)) = true := by rw [bne_iff_ne]; omega
    clear hnm
    go_enter Tryz.func52, Tryz.ntmps52
    go_wp2
    go_ret
    exact ⟨rfl, Keep.refl _ _⟩

end Go.Proofs.YtgnooffedmeenaaGreatDoor.C

namespace Go.Proofs.YtgnooffedmeenaaGreatDoor.M.L
open Go.RowKit

/-- An image that may be, and numbers that fit. -/
structure ImOk (p : I.Im) : Prop where
  ok : I.okI p = true
  hI : ∀ f ∈ p.fn, C.AllI f.bd
theorem ImOk.fn {p : I.Im} (h : ImOk p) {k : Nat} {f : F.Fu} (hf : p.fn[k]? = some f) : F.okF f = true ∧ C.AllI f.bd :=
  ⟨List.all_eq_true.1 ((I.okI_iff p).1 h.ok).2.2 _ (List.mem_of_getElem? hf), h.hI _ (List.mem_of_getElem? hf)⟩
theorem ImOk.ns {p : I.Im} (h : ImOk p) : p.sh.length ≤ 64 := ((I.okI_iff p).1 h.ok).1.1
theorem ImOk.nf {p : I.Im} (h : ImOk p) : p.fn.length ≤ 64 := ((I.okI_iff p).1 h.ok).1.2.1.2
theorem txI_le {x : C.I3} (h : O.I64 x.2.1 ∧ O.I64 x.2.2) : (O.textI x.1 x.2.1 x.2.2).length ≤ 60 := by
  have h1 := O.name_len x.1
  have h2 := O.word_len (O.rowAt x.1).ka x.2.1 h.1
  have h3 := O.word_len (O.rowAt x.1).kb x.2.2 h.2
  unfold O.textI O.partL
  rw [List.length_append, List.length_append]
  split <;> split <;> simp <;> omega
theorem note_le {i : Nat} (h : i ≤ 512) : (noteB i).length ≤ 24 := by
  have := Lib.itoa_length_le (i : Int) (by omega) (by omega)
  unfold noteB
  simp
  omega
theorem okN_le {s : Bs} (h : F.okN s = true) : s.length ≤ 32 := ((F.okN_iff s).1 h).1
theorem insn_none {x : C.I3} (hx : O.I64 x.2.1 ∧ O.I64 x.2.2) : (joinW (insL none x)).length ≤ 60 := by
  show (joinW (wordsX x)).length ≤ 60
  rw [join_words]
  exact txI_le hx
theorem insn_len {p : I.Im} (hp : I.okI p = true) (k : Nat) {x : C.I3} (hx : O.I64 x.2.1 ∧ O.I64 x.2.2) : (joinW (insL (NWp p k x) x)).length ≤ 60 := by
  cases hn : NWp p k x with
  | none => exact insn_none hx
  | some s =>
    have h3 := okN_le ((goodP hp).nok k x s hn).1
    have h4 := O.name_len x.1
    show ((O.rowAt x.1).name ++ 32 :: s).length ≤ 60
    simp
    omega
theorem ins_le {p : I.Im} (hp : I.okI p = true) (kind k : Nat) {i : Nat} (hi : i ≤ 512) {x : C.I3} (hx : O.I64 x.2.1 ∧ O.I64 x.2.2) : (insS kind p k i x).length ≤ 200 := by
  have h1 := note_le hi
  have h2 : (joinW (insL (if kind = 0 then NWp p k x else none) x)).length ≤ 60 := by
    split
    · exact insn_len hp k hx
    · exact insn_none hx
  have h3 : (if kind = 2 then noteB i else []).length ≤ 24 := by
    split
    · exact h1
    · simp
  unfold insS
  rw [List.length_append]
  omega
theorem say_le {p : I.Im} (hp : ImOk p) {kind : Nat} {lab : Nat → Nat → Bool} {l : Ln4} (hl : OkQ lab p l) : (sayQ kind p l).length ≤ 2300 := by
  obtain ⟨w, s, i, j⟩ := l
  have hw := hl.w
  dsimp only at hw
  have hw : w = 0 ∨ w = 1 ∨ w = 2 ∨ w = 3 ∨ w = 4 := by omega
  unfold sayQ
  rcases hw with rfl | rfl | rfl | rfl | rfl <;> dsimp only
  · have := S.txt_le (p.sh[s]?.getD [])
    show (shapeW ++ 32 :: S.shS _).length ≤ 2300
    unfold S.shS
    split <;> simp [shapeW] <;> omega
  · obtain ⟨_, f, hf, _⟩ := hl.f (fun h => nomatch h)
    dsimp only at hf
    rw [hf]
    have h2 := okN_le ((F.okF_iff f).1 (hp.fn hf).1).1
    have ha := S.txt_le f.ar
    have hb := S.txt_le f.rs
    show (funcW ++ 32 :: (f.nm ++ 32 :: S.shG f.ar f.rs)).length ≤ 2300
    unfold S.shG
    split <;> simp [funcW] <;> omega
  · have hc := S.txt_le (p.fn[i]?.getD fu0).lc
    show (localW ++ 32 :: W.txt _).length ≤ 2300
    simp [localW]
    omega
  · show ((LBp p i j).getD [] ++ [58]).length ≤ 2300
    rw [List.length_append]
    cases h : LBp p i j with
    | none => show ([] : Bs).length + 1 ≤ 2300; decide
    | some s =>
      have := okN_le ((goodP hp.ok).lok i j s h)
      show s.length + 1 ≤ 2300
      omega
  · obtain ⟨_, f, hf, hlt, _⟩ := hl.f (fun h => nomatch h)
    dsimp only at hf hlt
    have hlt := hlt (by omega)
    have hb := (ok_body (hp.fn hf).1).2.2.1
    show (insS kind p i j ((p.fn[i]?.getD fu0).bd[j]?.getD (0, 0, 0))).length ≤ 2300
    rw [hf]
    show (insS kind p i j (f.bd[j]?.getD (0, 0, 0))).length ≤ 2300
    rw [List.getElem?_eq_getElem hlt]
    exact Nat.le_trans (ins_le hp.ok kind i (by omega) ((hp.fn hf).2 _ (List.getElem_mem hlt))) (by omega)
theorem bodyQ_len {lab : Nat → Bool} {k : Nat} : ∀ n i : Nat, (bodyQ lab k i n).length ≤ 2 * n
  | 0, _ => Nat.le_refl _
  | n + 1, i => by
    have := bodyQ_len (lab := lab) (k := k) n (i + 1)
    rw [bodyQ, List.length_append, List.length_cons]
    split <;> simp <;> omega
theorem funcsQ_len {lab : Nat → Nat → Bool} : ∀ (q : List F.Fu) (k : Nat), (∀ f ∈ q, F.okF f = true) → (funcsQ lab k q).length ≤ 1026 * q.length
  | [], _, _ => Nat.le_refl _
  | f :: q, k, h => by
    have h1 := funcsQ_len (lab := lab) q (k + 1) (fun g hg => h g (by simp [hg]))
    have h2 := bodyQ_len (lab := lab k) (k := k) f.bd.length 0
    have h3 := (ok_body (h f (by simp))).2.2.1
    rw [funcsQ, List.length_append, List.length_cons]
    unfold funcQ
    rw [List.length_cons, List.length_append]
    split <;> simp <;> omega
theorem seqQ_len {p : I.Im} (hp : ImOk p) (lab : Nat → Nat → Bool) : (seqQ lab p).length ≤ 65728 := by
  have h1 := hp.ns
  have h2 := hp.nf
  have h3 := funcsQ_len (lab := lab) p.fn 0 (fun f hf => List.all_eq_true.1 ((I.okI_iff p).1 hp.ok).2.2 _ hf)
  unfold seqQ shapesQ
  rw [List.length_append, List.length_map, List.length_range]
  have : 1026 * p.fn.length ≤ 1026 * 64 := Nat.mul_le_mul_left _ h2
  omega
theorem textOf_le {M : Nat} : ∀ (l : List Bs), (∀ s ∈ l, s.length ≤ M) → (textOf l).length ≤ (M + 1) * l.length
  | [], _ => Nat.zero_le _
  | s :: l, h => by
    have h1 := h s (by simp)
    have h2 := textOf_le l (fun x hx => h x (by simp [hx]))
    rw [text_cons, List.length_append, List.length_cons, List.length_cons, Nat.mul_add, Nat.mul_one]
    omega
theorem textOf_pre {p : I.Im} (hp : ImOk p) {kind : Nat} {lab : Nat → Nat → Bool} {pre : List Ln4} (h : ∀ l ∈ pre, OkQ lab p l) (hl : pre.length ≤ 65728) : (textOf (pre.map (sayQ kind p))).length ≤ 2301 * 65728 := by
  refine Nat.le_trans (textOf_le (M := 2300) _ fun s hs => ?_) (Nat.mul_le_mul_left _ (by rw [List.length_map]; exact hl))
  obtain ⟨l, hl, rfl⟩ := List.mem_map.1 hs
  exact say_le hp (h l hl)
/-- All lines of a listing: each has its bounds; so many there are. -/
theorem allR_le {p : I.Im} (hp : ImOk p) (kind : Nat) : (∀ e ∈ allR kind p, e.1.length ≤ 2300 ∧ -1 ≤ e.2.1 ∧ e.2.1 ≤ 64 ∧ -1 ≤ e.2.2 ∧ e.2.2 ≤ 512) ∧ (allR kind p).length ≤ 65728 := by
  rw [← seqQ_lr]
  refine ⟨fun e he => ?_, by rw [List.length_map]; exact seqQ_len hp _⟩
  obtain ⟨l, hl, rfl⟩ := List.mem_map.1 he
  have ho := seqQ_ok hl
  refine ⟨say_le hp ho, ?_⟩
  unfold toLR
  dsimp only
  split
  · rename_i h4
    obtain ⟨_, f, hf, hlt, _⟩ := ho.f (by omega)
    have h1 := (List.getElem?_eq_some_iff.1 hf).1
    have h2 := hp.nf
    have h3 := hlt (by omega)
    have h5 := (ok_body (hp.fn hf).1).2.2.1
    dsimp only
    omega
  · dsimp only
    omega

end Go.Proofs.YtgnooffedmeenaaGreatDoor.M.L

namespace Go.Proofs.YtgnooffedmeenaaGreatDoor
open Go.RowKit Go.Shelf

abbrev BSet := Nat → Prop
/-- What an iterator does: it changes only what is as new as that, and not p's, and makes no cells. -/
structure IStep (B : Nat) (p : BSet) (W W' : World) : Prop where
  keep : Keep (fun k => B ≤ k ∧ ¬ p k) W W'
  cells : ∀ (k : Nat) (o : Obj), W'.heap[k]? = some o → o.isCells = true → W.heap[k]? = some o
/-- What holds is not touched by that. -/
def KeepsOut {β : Type} (B : Nat) (I : β → BSet → World → Prop) : Prop := ∀ s p W W', I s p W → IStep B p W W' → I s p W'
theorem IStep.alloc {B : Nat} {p : BSet} {W : World} (o : Obj) (ho : o.isCells = false) : IStep B p W (W.alloc o) := by
  refine ⟨(Keep.refl _ _).alloc _, fun k o' hk hc => ?_⟩
  have hl := (Array.getElem?_eq_some_iff.1 hk).1
  rw [World.size_alloc] at hl
  by_cases e : k = W.heap.size
  · subst e
    rw [World.alloc_heap_new] at hk
    cases hk
    rw [ho] at hc; cases hc
  · rw [Below.heap_alloc _ _ _ (by omega)] at hk
    exact hk
theorem IStep.trans {B : Nat} {p : BSet} {W W1 W2 : World} (h : IStep B p W W1) (h' : IStep B p W1 W2) : IStep B p W W2 :=
  ⟨h.keep.trans h'.keep (fun _ h _ => h), fun k o hk hc => h.cells k o (h'.cells k o hk hc) hc⟩
theorem IStep.putObj {B l : Nat} {p : BSet} {W : World} (o : Obj) (ho : o.isCells = false) (hB : B ≤ l) (hp : ¬ p l) : IStep B p W (W.putObj l o) := by
  refine ⟨(Keep.refl _ W).grown (grownBy_putObj' W l o) (fun g e hl => by cases e; exact ⟨hB, hp⟩), fun k o' hk hc => ?_⟩
  by_cases e : k = l
  · subst e
    have hl := (Array.getElem?_eq_some_iff.1 hk).1
    rw [World.putObj_heap_same (by simpa [World.putObj] using hl)] at hk
    cases hk
    rw [ho] at hc; cases hc
  · rwa [World.putObj_heap_other e] at hk
theorem IStep.mono {B B' : Nat} {p p' : BSet} {W W' : World} (h : IStep B p W W') (hB : B' ≤ B) (hp : ∀ k, p' k → p k) : IStep B' p' W W' :=
  ⟨h.keep.mono (fun k h2 _ => ⟨Nat.le_trans hB h2.1, fun h3 => h2.2 (hp k h3)⟩), h.cells⟩
/-- Only what is p's is changed; p takes in only what is new. -/
structure Rnd (p p' : BSet) (W W' : World) : Prop where
  own : ∀ k, k < W.heap.size → p' k → p k
  keep : Keep p W W'
theorem Rnd.refl (p : BSet) (W : World) : Rnd p p W W := ⟨fun _ _ h => h, Keep.refl _ _⟩
theorem Rnd.trans {p p1 p2 : BSet} {W W1 W2 : World} (h : Rnd p p1 W W1) (h' : Rnd p1 p2 W1 W2) : Rnd p p2 W W2 :=
  ⟨fun k hk h2 => h.own k hk (h'.own k (Nat.lt_of_lt_of_le hk h.keep.size) h2), h.keep.trans h'.keep (fun k h1 hk => h.own k hk h1)⟩
theorem Rnd.of_keep {p : BSet} {W W' : World} (h : Keep p W W') : Rnd p p W W' := ⟨fun _ _ h => h, h⟩
theorem Keep.noB {O : BSet} {W W' : World} (h : Keep NoB W W') : Keep O W W' := h.mono (fun _ hf => hf.elim)
theorem Rnd.not {p p' : BSet} {W W' : World} (h : Rnd p p' W W') {k : Nat} (hk : k < W.heap.size) (hn : ¬ p k) : ¬ p' k := fun h2 => hn (h.own k hk h2)
theorem Rnd.same {p p' : BSet} {W W' : World} (h : Rnd p p' W W') {k : Nat} (hk : k < W.heap.size) (hn : ¬ p k) : W'.heap[k]? = W.heap[k]? := h.keep.block k hk hn

section
variable {P : Program} {n : Nat}
/-- What is asked of the iterator. -/
def StopsM {α : Type} (P : Program) (m k : Nat) (gf : Nat) (lb : Array Value) (encs : α → Array Value) (bx : Nat) (o : Obj) (En : List α → α → Prop) (S Sp : List α → Prop) : Prop :=
  ∀ (L : Nat) (J Jx : List α → BSet → World → Prop) (p : BSet) (W : World), KeepsOut W.heap.size J → KeepsOut W.heap.size Jx →
    (∀ pre x p W1, J pre p W1 → En pre x → YieldAt Fence.wide m P L (encs x) W1 fun e W' => ∃ p', Rnd p p' W1 W' ∧ ((e = .returned (.bool true) ∧ J (pre ++ [x]) p' W') ∨ (e = .returned (.bool false) ∧ Jx (pre ++ [x]) p' W'))) →
    J [] p W → (∀ k, p k → k < W.heap.size) → W.heap[bx]? = some o → ¬ p bx →
    CallsIn Fence.wide k P gf (#[.func (.yield L) #[] #[]] ++ lb) W fun e W' => (∃ v, e = .returned v) ∧ ∃ p', ((∃ xs, S xs ∧ J xs p' W') ∨ (∃ pre, Sp pre ∧ Jx pre p' W'))

end
end Go.Proofs.YtgnooffedmeenaaGreatDoor

namespace Go.Proofs.YtgnooffedmeenaaGreatDoor
open Go.RowKit Go.Shelf

/-- What an iterator does: it changes only what is as new as that, and not p's, and makes no cells of type U. -/
structure IStepU (U : TypeId) (B : Nat) (p : BSet) (W W' : World) : Prop where
  keep : Keep (fun k => B ≤ k ∧ ¬ p k) W W'
  cells : ∀ (k : Nat) c fz, W'.heap[k]? = some (.cells c U fz) → W.heap[k]? = some (.cells c U fz)
/-- What holds is not touched by that. -/
def KeepsOutU (U : TypeId) {β : Type} (B : Nat) (I : β → BSet → World → Prop) : Prop := ∀ s p W W', I s p W → IStepU U B p W W' → I s p W'
section
variable {U : TypeId} {B : Nat} {p : BSet} {W W1 W2 : World}
theorem IStepU.refl (U : TypeId) (B : Nat) (p : BSet) (W : World) : IStepU U B p W W := ⟨Keep.refl _ _, fun _ _ _ h => h⟩
theorem IStepU.alloc (o : Obj) (ho : ∀ c fz, o ≠ .cells c U fz) : IStepU U B p W (W.alloc o) := by
  refine ⟨(Keep.refl _ _).alloc _, fun k c fz hk => ?_⟩
  have hl := (Array.getElem?_eq_some_iff.1 hk).1
  rw [World.size_alloc] at hl
  by_cases e : k = W.heap.size
  · subst e
    rw [World.alloc_heap_new] at hk
    cases hk
    exact absurd rfl (ho _ _)
  · rw [Below.heap_alloc _ _ _ (by omega)] at hk
    exact hk
theorem IStepU.trans (h : IStepU U B p W W1) (h' : IStepU U B p W1 W2) : IStepU U B p W W2 :=
  ⟨h.keep.trans h'.keep (fun _ h _ => h), fun k c fz hk => h.cells k c fz (h'.cells k c fz hk)⟩
theorem IStepU.putObj {l : Nat} (o : Obj) (ho : ∀ c fz, o ≠ .cells c U fz) (hB : B ≤ l) (hp : ¬ p l) : IStepU U B p W (W.putObj l o) := by
  refine ⟨(Keep.refl _ W).grown (grownBy_putObj' W l o) (fun g e hl => by cases e; exact ⟨hB, hp⟩), fun k c fz hk => ?_⟩
  by_cases e : k = l
  · subst e
    have hl := (Array.getElem?_eq_some_iff.1 hk).1
    rw [World.putObj_heap_same (by simpa [World.putObj] using hl)] at hk
    cases hk
    exact absurd rfl (ho _ _)
  · rwa [World.putObj_heap_other e] at hk
/-- A cell of a block of another type is written. -/
theorem IStepU.setCell {g : Nat} {T : TypeId} {cs : Array Value} (i : Nat) (v : Value) (hg : Blk W g T cs) (hT : T ≠ U) (hB : B ≤ g) (hp : ¬ p g) : IStepU U B p W (W.setCell ⟨g, i, none⟩ v) := by
  refine ⟨(Keep.refl _ W).setCell (p := ⟨g, i, none⟩) (fun _ => ⟨hB, hp⟩) v, fun k c fz hk => ?_⟩
  by_cases e : k = g
  · subst e
    have h2 : (W.setCell ⟨k, i, none⟩ v).heap[k]? = some (.cells (cs.setIfInBounds i v) T (0, 0)) := hg.put i v
    rw [h2] at hk
    cases hk
    exact absurd rfl hT
  · rwa [Below.heap_setCell _ _ _ _ e] at hk
theorem IStepU.drew (h : IStepU U B p W W1) : IStepU U B p W W1.drew := ⟨h.keep.drew, h.cells⟩
theorem IStepU.mono {B' : Nat} {p' : BSet} (h : IStepU U B p W W1) (hB : B' ≤ B) (hp : ∀ k, p' k → p k) : IStepU U B' p' W W1 :=
  ⟨h.keep.mono (fun k h2 _ => ⟨Nat.le_trans hB h2.1, fun h3 => h2.2 (hp k h3)⟩), h.cells⟩
end

section
variable {P : Program} {n : Nat}
/-- What is asked of the iterator. -/
def StopsU (U : TypeId) {α : Type} (P : Program) (m k : Nat) (gf : Nat) (lb : Array Value) (encs : α → Array Value) (H : World → Prop) (En : List α → α → Prop) (S Sp : List α → Prop) : Prop :=
  ∀ (L : Nat) (J Jx : List α → BSet → World → Prop) (p : BSet) (W : World), KeepsOutU U W.heap.size J → KeepsOutU U W.heap.size Jx → (∀ pre p W, J pre p W → ∀ k, p k → k < W.heap.size) →
    (∀ pre x p W1, J pre p W1 → En pre x → YieldAt Fence.wide m P L (encs x) W1 fun e W' => ∃ p', Rnd p p' W1 W' ∧ ((e = .returned (.bool true) ∧ J (pre ++ [x]) p' W') ∨ (e = .returned (.bool false) ∧ Jx (pre ++ [x]) p' W'))) →
    J [] p W → (∀ k, p k → k < W.heap.size) → H W → (∀ O W1 W2, (∀ k, O k → p k ∨ W.heap.size ≤ k) → H W1 → Keep O W1 W2 → H W2) →
    CallsIn Fence.wide k P gf (#[.func (.yield L) #[] #[]] ++ lb) W fun e W' => (∃ v, e = .returned v) ∧ ∃ p', ((∃ xs, S xs ∧ J xs p' W') ∨ (∃ pre, Sp pre ∧ Jx pre p' W'))

/-- How a round of the body may end. -/
def minePostU {α : Type} (I : List α → BSet → World → Prop) (Ix : Code → List α → BSet → World → Prop) (xs : List α) (p : BSet) (W : World) : Exit → Act → World → Prop
  | .normal, _, W' => ∃ p', Rnd p p' W W' ∧ I xs p' W'
  | .ret, _, W' => ∃ p', Rnd p p' W W' ∧ Ix .ret xs p' W'
  | .exit id, _, W' => ∃ p', Rnd p p' W W' ∧ Ix (.exit id) xs p' W'
  | .goto t, _, W' => ∃ p', Rnd p p' W W' ∧ Ix (.goto t) xs p' W'
  | .panic _, _, _ => False
  | .outgrown, _, _ => False

theorem wpIn_rangeFunc_U {U : TypeId} {α : Type} {g : Operand} {ps : Array Tmp} {assign body : Code} {Q : Exit → Act → World → Prop} {a : Act} {w : World} {m : Nat}
    {gf : Nat} {lb : Array Value} (hg : a.eval g = .func (.func gf) #[] lb) (eg : ∀ args w, (callFunc gf args).run P w = .ok (.enter gf args) w)
    {encs : α → Array Value} {H : World → Prop} {En : List α → α → Prop} {S Sp : List α → Prop} (hit : StopsU U P m (n - 1) gf lb encs H En S Sp) (hps : ∀ x, (encs x).size = ps.size)
    (I : List α → BSet → World → Prop) (Ix : Code → List α → BSet → World → Prop) (hI : KeepsOutU U w.heap.size I) (hIb : ∀ pre p W, I pre p W → ∀ k, p k → k < W.heap.size) (hIx : ∀ c, KeepsOutU U w.heap.size (Ix c)) {p0 : BSet} (h0 : I [] p0 w) (hp0 : ∀ k, p0 k → k < w.heap.size) (hH : H w) (hHk : ∀ O W1 W2, (∀ k, O k → p0 k ∨ w.heap.size ≤ k) → H W1 → Keep O W1 W2 → H W2)
    (Ax : List α → α → BSet → Act → World → Prop) (hAx : ∀ pre x a', KeepsOutU U w.heap.size (fun (_ : Unit) p W => Ax pre x p a' W))
    (hassign : ∀ (l : Nat) (pre : List α) (x : α) (p : BSet) (W : World), I pre p W → En pre x →
      assign.wpIn (Fence.wide.inRound l) m P (Exit.then (fun a' W' => ∃ p', Rnd p p' W W' ∧ Ax pre x p' a' W') (fun _ _ _ => False)) { tmps := (ps.zip (encs x)).foldl (fun t (p, v) => t.setIfInBounds p v) a.tmps, defers := [] } W)
    (hbody : ∀ (l : Nat) (pre : List α) (x : α) (p : BSet) (a' : Act) (W : World), En pre x → Ax pre x p a' W → body.wpIn (Fence.wide.inRound l) m P (minePostU I Ix (pre ++ [x]) p W) a' W)
    (hdone : ∀ (D : Nat) (xs : List α) (p : BSet) (W : World), w.heap.size ≤ D → ¬ p D → S xs → I xs p W → W.heap[D]? = some (.deferred (some [])) → Q .normal { a with defers := { target := .collected D, args := #[] } :: a.defers } W)
    (hstop : ∀ (D : Nat) (c : Code) (pre : List α) (p : BSet) (W : World), w.heap.size ≤ D → ¬ p D → Sp pre → Ix c pre p W → W.heap[D]? = some (.deferred (some [])) → c.wpIn Fence.wide n P Q { a with defers := { target := .collected D, args := #[] } :: a.defers } W) :
    (Code.rangeFunc g ps assign body).wpIn Fence.wide n P Q a w := by
  refine wpIn_rangeFunc fun fn _ => ?_
  obtain ⟨rec, hrec⟩ : ∃ rec : LoopState → Option Code → Loop, rec = fun st pe => { state := st, pending := pe, fn, tmps := a.tmps, params := ps, assign, body, defers := w.heap.size } := ⟨_, rfl⟩
  obtain ⟨W1, hW1⟩ : ∃ W1, (w.alloc (.deferred (some []))).alloc (.loop (rec .ready none)) = W1 := ⟨_, rfl⟩
  have hL1 : W1.heap[w.heap.size + 1]? = some (.loop (rec .ready none)) := by
    rw [← hW1]; have := World.alloc_heap_new (w.alloc (.deferred (some []))) (.loop (rec .ready none)); rwa [World.size_alloc] at this
  have hD1 : W1.heap[w.heap.size]? = some (.deferred (some [])) := by
    rw [← hW1]; exact (Below.heap_alloc _ _ _ (by simp)).trans (World.alloc_heap_new w _)
  have hs1 : W1.heap.size = w.heap.size + 2 := by rw [← hW1]; simp
  have hB1 : H W1 := by
    rw [← hW1]; exact hHk NoB _ _ (fun k h => h.elim) hH (((Keep.refl _ _).alloc _).alloc _)
  have hI1 : I [] p0 W1 := hI _ _ _ _ h0 (by rw [← hW1]; exact (IStepU.alloc _ (by intro _ _ h; cases h)).trans (IStepU.alloc _ (by intro _ _ h; cases h)))
  have hput : ∀ {β : Type} {I' : β → BSet → World → Prop} (_ : KeepsOutU U w.heap.size I') {s : β} {p : BSet} {W : World} (l' : Loop), I' s p W → ¬ p (w.heap.size + 1) → I' s p (W.putObj (w.heap.size + 1) (.loop l')) := by
    intro β I' h s p W l' hi hn
    exact h _ _ _ _ hi (IStepU.putObj _ (by intro _ _ h; cases h) (by omega) hn)
  refine ⟨w.heap.size + 1, [{ target := .collected w.heap.size, args := #[] }], W1, { target := .fn (.func gf) lb, args := #[.func (.yield (w.heap.size + 1)) #[] #[]] }, W1, gf,
    #[.func (.yield (w.heap.size + 1)) #[] #[]] ++ lb, W1, ?_, ?_, fun _ _ => trivial, ?_, (fun h => by cases h), ?_⟩
  · rw [← hW1, hrec]; exact run_enterLoop_outer _ _ _ _ _
  · simp only [resolve, hg]
    simp [go_sem]
  · simp [invoke, go_sem, eg]
  refine (hit (w.heap.size + 1)
    (fun pre pj W => ∃ p, (pj = fun k => p k ∨ k = w.heap.size + 1) ∧ (¬ p (w.heap.size + 1) ∧ ¬ p w.heap.size) ∧ I pre p W ∧ W.heap[w.heap.size + 1]? = some (.loop (rec .ready none)) ∧ W.heap[w.heap.size]? = some (.deferred (some [])))
    (fun pre pj W => ∃ p, (pj = fun k => p k ∨ k = w.heap.size + 1) ∧ (¬ p (w.heap.size + 1) ∧ ¬ p w.heap.size) ∧ ∃ c, Ix c pre p W ∧ W.heap[w.heap.size + 1]? = some (.loop (rec .done (some c))) ∧ W.heap[w.heap.size]? = some (.deferred (some [])))
    (fun k => p0 k ∨ k = w.heap.size + 1) W1 ?_ ?_ ?_ ?_ ⟨p0, rfl, ⟨fun h => by have := hp0 _ h; omega, fun h => by have := hp0 _ h; omega⟩, hI1, hL1, hD1⟩ ?_ hB1 ?_).mono ?_
  · rintro pre pj W W' ⟨p, rfl, hn, hi, hl, hd⟩ hk
    exact ⟨p, rfl, hn, hI _ _ _ _ hi (hk.mono (by omega) (fun k h2 => .inl h2)), (hk.keep.block _ (Array.getElem?_eq_some_iff.1 hl).1 (by rintro ⟨h, _⟩; omega)).trans hl, (hk.keep.block _ (Array.getElem?_eq_some_iff.1 hd).1 (by rintro ⟨h, _⟩; omega)).trans hd⟩
  · rintro pre pj W W' ⟨p, rfl, hn, c, hi, hl, hd⟩ hk
    exact ⟨p, rfl, hn, c, hIx c _ _ _ _ hi (hk.mono (by omega) (fun k h2 => .inl h2)), (hk.keep.block _ (Array.getElem?_eq_some_iff.1 hl).1 (by rintro ⟨h, _⟩; omega)).trans hl, (hk.keep.block _ (Array.getElem?_eq_some_iff.1 hd).1 (by rintro ⟨h, _⟩; omega)).trans hd⟩
  · rintro pre pj W ⟨p, rfl, _, hi, hl, _⟩ k (hk | rfl)
    · exact hIb _ _ _ hi k hk
    · exact (Array.getElem?_eq_some_iff.1 hl).1
  · rintro pre x pj W ⟨p, rfl, ⟨hnl, hnd⟩, hi, hl, hd⟩ hen
    have hlt : w.heap.size + 1 < W.heap.size := (Array.getElem?_eq_some_iff.1 hl).1
    have hy := run_yield (P := P) (args := encs x) hl (by rw [hrec]; exact hps x)
    rw [hrec] at hy
    refine ⟨fn, _, assign, body, hy, roundIn_of_wpIn trivial (wpIn_mono (hassign _ pre x p W hi hen) ?_)⟩
    clear hy
    intro e a₁ Wa hq
    cases e with
    | normal =>
      obtain ⟨p1, hr1, hax⟩ := hq
      have hl1 := (hr1.same hlt hnl).trans hl
      have hd1 := (hr1.same (by omega) hnd).trans hd
      have hnl1 := hr1.not hlt hnl
      have hnd1 := hr1.not (by omega) hnd
      have hlt1 : w.heap.size + 1 < Wa.heap.size := (Array.getElem?_eq_some_iff.1 hl1).1
      refine ⟨_, run_beginRound hl1 (by rw [hrec]), ?_⟩
      have hl2 : (Wa.putObj (w.heap.size + 1) (.loop { rec .ready none with state := .busy })).heap[w.heap.size + 1]? = some (.loop { rec .ready none with state := .busy }) := World.putObj_heap_same hlt1
      have hd2 : (Wa.putObj (w.heap.size + 1) (.loop { rec .ready none with state := .busy })).heap[w.heap.size]? = some (.deferred (some [])) := (World.putObj_heap_other (by omega)).trans hd1
      have hkl : Keep (fun k => p k ∨ k = w.heap.size + 1) W (Wa.putObj (w.heap.size + 1) (.loop { rec .ready none with state := .busy })) :=
        (hr1.keep.mono (fun k h _ => .inl h)).grown (grownBy_putObj' Wa (w.heap.size + 1) _) (fun g e _ => by cases e; exact .inr rfl)
      have hz2 : (Wa.putObj (w.heap.size + 1) (.loop { rec .ready none with state := .busy })).heap.size = Wa.heap.size := by simp [World.putObj]
      refine wpIn_mono (hbody _ pre x p1 a₁ _ hen (hput (hAx pre x a₁) (s := ()) _ hax hnl1)) ?_
      have fin : ∀ (jump : Option Code) (p2 : BSet) (W3 : World), Rnd p1 p2 (Wa.putObj (w.heap.size + 1) (.loop { rec .ready none with state := .busy })) W3 →
          (Instr.endRound (w.heap.size + 1) jump).run P W3 = .ok (.bool jump.isNone) (W3.putObj (w.heap.size + 1) (.loop (rec (if jump.isNone then .ready else .done) jump))) ∧
          (W3.putObj (w.heap.size + 1) (.loop (rec (if jump.isNone then .ready else .done) jump))).heap[w.heap.size + 1]? = some (.loop (rec (if jump.isNone then .ready else .done) jump)) ∧
          (W3.putObj (w.heap.size + 1) (.loop (rec (if jump.isNone then .ready else .done) jump))).heap[w.heap.size]? = some (.deferred (some [])) ∧
          (¬ p2 (w.heap.size + 1) ∧ ¬ p2 w.heap.size) ∧
          Rnd (fun k => p k ∨ k = w.heap.size + 1) (fun k => p2 k ∨ k = w.heap.size + 1) W (W3.putObj (w.heap.size + 1) (.loop (rec (if jump.isNone then .ready else .done) jump))) := fun jump p2 W3 hr2 => by
        have hl3 := (hr2.same (by rw [hz2]; exact hlt1) hnl1).trans hl2
        have hd3 := (hr2.same (by rw [hz2]; omega) hnd1).trans hd2
        have := run_endRound (P := P) jump hl3
        rw [hrec] at this ⊢
        refine ⟨this, World.putObj_heap_same (Array.getElem?_eq_some_iff.1 hl3).1, (World.putObj_heap_other (by omega)).trans hd3, ⟨hr2.not (by rw [hz2]; exact hlt1) hnl1, hr2.not (by rw [hz2]; omega) hnd1⟩, ⟨fun k hk h => ?_, ?_⟩⟩
        · rcases h with h | h
          · exact .inl (hr1.own k hk (hr2.own k (by rw [hz2]; exact Nat.lt_of_lt_of_le hk hr1.keep.size) h))
          · exact .inr h
        · rw [hrec] at hkl hr2
          exact (hkl.trans hr2.keep (fun k h hk => .inl (hr1.own k hk h))).grown (grownBy_putObj' W3 (w.heap.size + 1) _) (fun g e _ => by cases e; exact .inr rfl)
      rintro e a3 W3 hp
      cases e with
      | normal =>
        obtain ⟨p2, hr2, hi3⟩ := hp
        obtain ⟨hr, hl4, hd4, hn4, hR⟩ := fin none p2 W3 hr2
        exact ⟨_, _, hr, ⟨_, hR, .inl ⟨rfl, p2, rfl, hn4, hput hI _ hi3 hn4.1, hl4, hd4⟩⟩⟩
      | ret =>
        obtain ⟨p2, hr2, hi3⟩ := hp
        obtain ⟨hr, hl4, hd4, hn4, hR⟩ := fin (some .ret) p2 W3 hr2
        exact ⟨_, _, hr, ⟨_, hR, .inr ⟨rfl, p2, rfl, hn4, .ret, hput (hIx _) _ hi3 hn4.1, hl4, hd4⟩⟩⟩
      | exit id =>
        obtain ⟨p2, hr2, hi3⟩ := hp
        obtain ⟨hr, hl4, hd4, hn4, hR⟩ := fin (some (.exit id)) p2 W3 hr2
        exact ⟨_, _, hr, ⟨_, hR, .inr ⟨rfl, p2, rfl, hn4, .exit id, hput (hIx _) _ hi3 hn4.1, hl4, hd4⟩⟩⟩
      | goto t =>
        obtain ⟨p2, hr2, hi3⟩ := hp
        obtain ⟨hr, hl4, hd4, hn4, hR⟩ := fin (some (.goto t)) p2 W3 hr2
        exact ⟨_, _, hr, ⟨_, hR, .inr ⟨rfl, p2, rfl, hn4, .goto t, hput (hIx _) _ hi3 hn4.1, hl4, hd4⟩⟩⟩
      | panic ch => exact hp.elim
      | outgrown => exact hp.elim
    | exit id => exact hq
    | goto t => exact hq
    | ret => exact hq
    | panic c => exact hq
    | outgrown => exact hq
  · rintro k (h | h)
    · have := hp0 k h; omega
    · omega
  · intro O X1 X2 hO h1 h2
    refine hHk O X1 X2 (fun k hk => ?_) h1 h2
    rcases hO k hk with (h | h) | h
    · exact .inl h
    · exact .inr (by omega)
    · exact .inr (by omega)
  · rintro e W2 ⟨⟨v, rfl⟩, pj, (⟨xs, hS, p, rfl, hn, hi, hl, hd⟩ | ⟨pre, hSp, p, rfl, hn, c, hi, hl, hd⟩)⟩
    · exact ⟨none, _, by have := run_endLoop (P := P) hl (by rw [hrec]; simp); rw [hrec] at this; exact this, hdone _ xs p _ (Nat.le_refl _) hn.2 hS (hput hI _ hi hn.1) ((World.putObj_heap_other (by omega)).trans hd)⟩
    · exact ⟨some c, _, by have := run_endLoop (P := P) hl (by rw [hrec]; simp); rw [hrec] at this; exact this, hstop _ c pre p _ (Nat.le_refl _) hn.2 hSp (hput (hIx c) _ hi hn.1) ((World.putObj_heap_other (by omega)).trans hd)⟩
end
end Go.Proofs.YtgnooffedmeenaaGreatDoor

namespace Go.Proofs.YtgnooffedmeenaaGreatDoor
open Go.RowKit Go.Maps

/-- A key. -/
def pairV (x y : Int) : Value := .agg #[.int .i64 x, .int .i64 y]
/-- Keys are read. -/
structure PairKey (P : Program) (k : TypeId) : Prop where
  keyed : Keyed P k
  has : ∀ x y : Int, (Lit.int .i64 x).wf = true → (Lit.int .i64 y).wf = true → ∃ l, keyOf P k (pairV x y) = some l
/-- Block b is a map of at most n keys; each pair has what f says. -/
def PMap (P : Program) (k e : TypeId) (b n : Nat) (f : Int → Int → Option Nat) (w : World) : Prop :=
  ∃ D : DataW Unit, w.ownsMap P k (plainElem P e) b n D ∧ IsMap D ∧ ∀ (x y : Int) (l : Lit), keyOf P k (pairV x y) = some l → has D l = (f x y).isSome ∧ D.atKey l (.lit (.int .i64 0)) = .lit (.int .i64 (((f x y).getD 0 : Nat) : Int))
section
variable {P : Program} {k e t : TypeId} {b n : Nat} {f : Int → Int → Option Nat} {w w' : World}
theorem PMap.new (P : Program) (k e : TypeId) (w : World) : PMap P k e w.heap.size 0 (fun _ _ => none) (w.alloc (.map #[] 0)) :=
  ⟨.map [], World.ownsMap_made w P k _, isMap_empty, fun _ _ _ _ => ⟨rfl, rfl⟩⟩
theorem PMap.lt (h : PMap P k e b n f w) : b < w.heap.size := by obtain ⟨_, h, _⟩ := h; exact h.lt
theorem PMap.obj (h : PMap P k e b n f w) : ∃ es c, w.heap[b]? = some (.map es c) := by
  obtain ⟨_, ⟨es, c, hb, _⟩, _⟩ := h
  exact ⟨es, c, hb⟩
theorem PMap.keep {O : Nat → Prop} (h : PMap P k e b n f w) (hk : Keep O w w') (hb : ¬ O b) : PMap P k e b n f w' := by
  obtain ⟨D, ⟨es, c, h0, hr⟩, h2, h3⟩ := h
  exact ⟨D, ⟨es, c, (hk.block b (Array.getElem?_eq_some_iff.1 h0).1 hb).trans h0, hr⟩, h2, h3⟩
theorem PMap.same (h : PMap P k e b n f w) (hb : w'.heap[b]? = w.heap[b]?) : PMap P k e b n f w' := by
  obtain ⟨D, ⟨es, c, h0, hr⟩, h2, h3⟩ := h
  exact ⟨D, ⟨es, c, hb.trans h0, hr⟩, h2, h3⟩
theorem PMap.mono {m : Nat} (h : PMap P k e b n f w) (hm : n ≤ m) : PMap P k e b m f w := by
  obtain ⟨D, h1, h2, h3⟩ := h
  exact ⟨D, h1.mono hm, h2, h3⟩
theorem PMap.congr {g : Int → Int → Option Nat} (h : PMap P k e b n f w) (hg : ∀ x y, g x y = f x y) : PMap P k e b n g w := by
  obtain ⟨D, h1, h2, h3⟩ := h
  exact ⟨D, h1, h2, fun x y l hl => by rw [hg]; exact h3 x y l hl⟩
/-- What a store makes of f. -/
def setP (f : Int → Int → Option Nat) (x y : Int) (v : Nat) : Int → Int → Option Nat := fun a b => if a = x ∧ b = y then some v else f a b
theorem pairV_inj {a b x y : Int} (h : pairV a b = pairV x y) : a = x ∧ b = y := by
  unfold pairV at h
  injection h with h
  have h1 := congrArg (·[0]?) h
  have h2 := congrArg (·[1]?) h
  simp at h1 h2
  exact ⟨h1, h2⟩
/-- A store. -/
theorem PMap.update (h : PMap P k e b n f w) (K : PairKey P k) (ht : P.underlying t = some (.map k e)) (he : P.underlying e = some (.int .i64)) (hn : n < maxLen) (x y : Int) (v : Nat) (hx : (Lit.int .i64 x).wf = true) (hy : (Lit.int .i64 y).wf = true) (hv : (Lit.int .i64 (v : Int)).wf = true) :
    ∃ w', (Instr.mapUpdate t (.map (some b)) (pairV x y) (.int .i64 (v : Int))).run P w = .ok () w' ∧ PMap P k e b (n + 1) (setP f x y v) w' ∧ w.grownBy w' (some b) := by
  obtain ⟨D, h1, h2, h3⟩ := h
  obtain ⟨kl, hkl⟩ := K.has x y hx hy
  obtain ⟨w', hrun, r1, r2⟩ := h1.update K.keyed ht hn hkl (plainElem_int he hv)
  refine ⟨w', hrun, ⟨_, r1, h2.put _ _, fun a c l hl => ?_⟩, r2⟩
  unfold setP
  by_cases hc : a = x ∧ c = y
  · obtain ⟨rfl, rfl⟩ := hc
    rw [if_pos ⟨rfl, rfl⟩]
    rw [hkl] at hl
    injection hl with hl
    subst hl
    exact ⟨has_put_same h2 (K.keyed.key hkl) _, atKey_put_same h2 (K.keyed.key hkl) _ _⟩
  · rw [if_neg hc]
    have hne : l ≠ kl := by
      rintro rfl
      exact hc (pairV_inj (K.keyed.inj hl hkl))
    rw [has_put_other hne, atKey_put_other hne]
    exact h3 a c l hl
/-- A look. -/
theorem PMap.look (h : PMap P k e b n f w) (K : PairKey P k) (ht : P.underlying t = some (.map k e)) (he : P.underlying e = some (.int .i64)) (hz : (zeroValue e).run P w = .ok (.int .i64 0) w) (x y : Int) (hx : (Lit.int .i64 x).wf = true) (hy : (Lit.int .i64 y).wf = true) :
    (Instr.lookup t (.map (some b)) (pairV x y) false).run P w = .ok (.int .i64 (((f x y).getD 0 : Nat) : Int)) w := by
  obtain ⟨D, h1, h2, h3⟩ := h
  obtain ⟨kl, hkl⟩ := K.has x y hx hy
  obtain ⟨c, hrun, hat, _⟩ := h1.lookup_int K.keyed ht he hz hkl
  rw [(h3 x y kl hkl).2] at hat
  injection hat with hat
  injection hat with _ hat
  rw [hat]
  exact hrun
/-- A look, and whether it is there. -/
theorem PMap.look_ok (h : PMap P k e b n f w) (K : PairKey P k) (ht : P.underlying t = some (.map k e)) (he : P.underlying e = some (.int .i64)) (hz : (zeroValue e).run P w = .ok (.int .i64 0) w) (x y : Int) (hx : (Lit.int .i64 x).wf = true) (hy : (Lit.int .i64 y).wf = true) :
    (Instr.lookup t (.map (some b)) (pairV x y) true).run P w = .ok (.tuple #[.int .i64 (((f x y).getD 0 : Nat) : Int), .bool (f x y).isSome]) w := by
  obtain ⟨D, h1, h2, h3⟩ := h
  obtain ⟨kl, hkl⟩ := K.has x y hx hy
  obtain ⟨v, ps, hrun, hv⟩ := h1.look_ok K.keyed ht hz (plainElem_int he (by decide)) hkl
  obtain ⟨c, rfl, hc, _⟩ := plainElem_int_inv he hv
  rw [(h3 x y kl hkl).2] at hc
  rw [(h3 x y kl hkl).1] at hrun
  injection hc with hc _
  injection hc with hc
  injection hc with _ hc
  rw [hc]
  exact hrun
end
/-- A nil map: nothing is there. -/
theorem pair_nil {P : Program} {k e t : TypeId} {w : World} (K : PairKey P k) (ht : P.underlying t = some (.map k e)) (hz : (zeroValue e).run P w = .ok (.int .i64 0) w) (x y : Int) (hx : (Lit.int .i64 x).wf = true) (hy : (Lit.int .i64 y).wf = true) :
    (Instr.lookup t (.map none) (pairV x y) true).run P w = .ok (.tuple #[.int .i64 0, .bool false]) w := by
  obtain ⟨kl, hkl⟩ := K.has x y hx hy
  exact look_nil true K.keyed ht hz hkl
/-- A struct of two numbers is such a key. -/
theorem pairKey_of {P : Program} {k : TypeId} (K : Keyed P k) (h : ∀ x y : Int, (Lit.int .i64 x).wf = true → (Lit.int .i64 y).wf = true → ∃ l, keyOf P k (pairV x y) = some l) : PairKey P k := ⟨K, h⟩
end Go.Proofs.YtgnooffedmeenaaGreatDoor

namespace Go.Proofs.YtgnooffedmeenaaGreatDoor.M
open Go.RowKit W

abbrev sv (l : List Bs) : List Value := l.map fun s => .string (str s)
theorem extract_of {S : ByteArray} {s : Bs} (hs : S.data.toList = s) (f k : Nat) : S.extract f k = str ((s.drop f).take (k - f)) := by
  apply ByteArray.ext
  rw [ByteArray.data_extract]
  apply Array.ext'
  rw [Array.toList_extract, hs, List.extract_eq_take_drop]
theorem str_of {S : ByteArray} {s : Bs} (h : S.data.toList = s) : S = str s := by
  subst h
  apply ByteArray.ext
  rfl

end Go.Proofs.YtgnooffedmeenaaGreatDoor.M

namespace Go.Proofs.YtgnooffedmeenaaGreatDoor.M
open Go.RowKit Go.Lib

theorem decN_high (n b0 b1 b2 b3 : Nat) (h0 : 128 ≤ b0) (hn : 1 ≤ n) :
    128 ≤ (decodeN n b0 b1 b2 b3).1 ∧ 1 ≤ (decodeN n b0 b1 b2 b3).2 ∧ (decodeN n b0 b1 b2 b3).2 ≤ n ∧ (decodeN n b0 b1 b2 b3).2 ≤ 4 ∧ (2 ≤ (decodeN n b0 b1 b2 b3).2 → 128 ≤ b1) ∧ (3 ≤ (decodeN n b0 b1 b2 b3).2 → 128 ≤ b2) ∧ (4 ≤ (decodeN n b0 b1 b2 b3).2 → 128 ≤ b3) := by
  unfold decodeN
  repeat' split
  all_goals (simp only; omega)
theorem get_byte {S : ByteArray} {s : Bs} (hs : S.data.toList = s) {k : Nat} (hk : k < s.length) : S.get! k = s[k] := by
  subst hs
  have h : k < S.size := by simpa using hk
  simp [ByteArray.get!, getElem!_pos, h]
/-- What is looked for: a byte below 128 of some kind; as a question about runes. -/
def asR (q : UInt8 → Bool) (r : Nat) : Bool := decide (r < 128) && q r.toUInt8
def lowQ (q : UInt8 → Bool) : Prop := ∀ c : UInt8, 128 ≤ c.toNat → q c = false
theorem toU8 (c : UInt8) : c.toNat.toUInt8 = c := by simp
theorem step_at {q : UInt8 → Bool} (hq : lowQ q) {S : ByteArray} {s : Bs} (hs : S.data.toList = s) {k : Nat} (hk : k < s.length) :
    ∃ r w, Utf8.decode S k = (r, w) ∧ 1 ≤ w ∧ k + w ≤ s.length ∧ ((asR q r = true ∧ w = 1 ∧ q s[k] = true ∧ r = s[k].toNat) ∨ (asR q r = false ∧ ∀ c ∈ (s.drop k).take w, q c = false)) := by
  have hsz : S.size = s.length := W.size_of hs
  have g0 := get_byte hs hk
  by_cases h : s[k].toNat < 128
  · refine ⟨s[k].toNat, 1, ?_, Nat.le_refl _, by omega, ?_⟩
    · rw [decode_at, g0]
      unfold decodeN
      rw [if_pos h]
    · have e : asR q s[k].toNat = q s[k] := by unfold asR; rw [toU8, decide_eq_true h]; rfl
      cases hqk : q s[k] with
      | true => exact .inl ⟨by rw [e, hqk], rfl, rfl, rfl⟩
      | false =>
        refine .inr ⟨by rw [e, hqk], fun c hc => ?_⟩
        rw [List.drop_eq_getElem_cons hk] at hc
        rw [List.take_succ_cons, List.take_zero, List.mem_singleton] at hc
        rw [hc]; exact hqk
  · obtain ⟨h1, h2, h3, h4, h5, h6, h7⟩ := decN_high (S.size - k) (S.get! k).toNat (S.get! (k + 1)).toNat (S.get! (k + 2)).toNat (S.get! (k + 3)).toNat (by rw [g0]; omega) (by omega)
    rw [← decode_at] at h1 h2 h3 h4 h5 h6 h7
    obtain ⟨r, w, e⟩ : ∃ r w, Utf8.decode S k = (r, w) := ⟨_, _, rfl⟩
    rw [e] at h1 h2 h3 h4 h5 h6 h7
    dsimp only at h1 h2 h3 h4 h5 h6 h7
    refine ⟨r, w, e, h2, by omega, .inr ⟨by unfold asR; rw [decide_eq_false (by omega)]; rfl, fun c hc => ?_⟩⟩
    obtain ⟨j, hj, rfl⟩ := List.mem_iff_getElem.1 hc
    simp at hj
    rw [List.getElem_take, List.getElem_drop]
    apply hq
    have hj2 : j = 0 ∨ j = 1 ∨ j = 2 ∨ j = 3 := by omega
    rcases hj2 with rfl | rfl | rfl | rfl
    · exact by simpa using (by omega : 128 ≤ s[k].toNat)
    · have := h5 (by omega); rwa [get_byte hs (by omega)] at this
    · have := h6 (by omega); rwa [get_byte hs (by omega)] at this
    · have := h7 (by omega); rwa [get_byte hs (by omega)] at this

/-! ### Up to the first one -/

/-! ### Fields -/

end Go.Proofs.YtgnooffedmeenaaGreatDoor.M
