/-
  The document's in and Check. Conditions: none but that numbers fit an int64.
  The document's Ends and Goes. Conditions: none but that numbers fit an int64.
  What the document's Check, Count and Head of layer code answer, and its Lists: are two lists the same? Conditions: lists lie in memory; numbers fit an int64.
  A range over a function that is never left ahead of its end, whose iterator brings things of which something is known in the world in which each comes (En). No program, no conditions.
  The iterator of an instruction's operands: it brings each operand that there is, in order, with its functions as they lie in memory when it comes. Conditions: kinds are from 0 to 10.
  What Show answers. Conditions: the listed package-level variables hold what their initialisers lay; numbers fit an int64.
  Words for memory that the walks of vary share: what a step keeps (Keep), a slice of bytes that reads as a list (Rd), one that the call owns (OwnB), and append of the one onto the other. No conditions.
  The Tape: write, Number, Signed, Bytes, All, over a Tape in memory that holds the bytes l; and slices.Clone, Twin. Conditions: no more than 2^47 bytes in all.
  Tape.Number, Signed, Bytes over a Tape in memory; the law's own number: a number's bytes as a string. Conditions: no more than 2^47 bytes in all.
-/
import Derived.BigQuiet
import Derived.Deep.AppendLies
import Derived.Deep.Draws
import Derived.Deep.QuietTactic
import Derived.Deep.RegionHeld3
import Derived.Deep.RegionLaw
import Derived.LoopIn
import Derived.LoopNIn
import Derived.Maps.AppendAt
import Derived.OwnWalkIn
import Derived.RangeFuncBound
import Derived.RangeFuncCalls
import Derived.RangeFuncLeaves
import Derived.RangeFuncNested
import Derived.Shelf.Abstract
import Derived.Shelf.RegionOpen
import Derived.StillTailTactics
import Derived.TacticsInMore
import Derived.WalkKit
import Derived.Test.YtonpplpfipfnfaaGreatDoorQ3
import Derived.Test.YtonpplpfipfnfaaGreatDoorQ2
import Derived.Test.YtonpplpfipfnfaaGreatDoorQ1
namespace Go.Proofs.YtonpplpfipfnfaaGreatDoor.O
open Go.RowKit

set_option maxHeartbeats 1000000 in
theorem rin_any (k n : Int) (p : Bool) (w : World) (hp : Hid (inK k n = p)) (h0 : 0 ≤ k) (h1 : k ≤ 10) (hI : I64 n) :
    Calls Tryz.prog 64 #[.int .i64 k, .int .i64 n] w fun e w' => e = .returned (.bool p) ∧ Keep NoB w w' := by
  by_cases hk : k = 1
  · subst hk
    have : p = true := by
      rw [← hp.out]
      exact decide_eq_true hI
    subst this
    clear hp h0 h1 hI
    go_enter Tryz.func64, Tryz.ntmps64
    go_wp2
    go_ret
    exact ⟨rfl, Keep.refl _ _⟩
  · have hq : (k == 1) = false := by rw [beq_eq_false_iff_ne]; exact hk
    have HL := Lib.hid (fun w => rleast_any k w h0 h1 hk)
    have HM := Lib.hid (fun w => rmost_any k w h0 h1 hk)
    have hd : Hid (decide (lo k ≤ n ∧ n ≤ hi k) = p) := hp
    clear hp h0 h1 hk hI
    generalize lo k = L at HL hd
    generalize hi k = M at HM hd
    cases d1 : decide (L ≤ n)
    · have : p = false := by rw [← hd.out]; exact decide_eq_false fun h => of_decide_eq_false d1 h.1
      subst this
      clear hd
      go_enter Tryz.func64, Tryz.ntmps64
      go_wp2_with fail
      refine (HL.out _).mono ?_
      rintro e w1 ⟨rfl, rfl⟩
      go_wp2
      go_ret
      exact ⟨rfl, Keep.refl _ _⟩
    · cases d2 : decide (n ≤ M)
      · have : p = false := by rw [← hd.out]; exact decide_eq_false fun h => of_decide_eq_false d2 h.2
        subst this
        clear hd
        go_enter Tryz.func64, Tryz.ntmps64
        go_wp2_with fail
        refine (HL.out _).mono ?_
        rintro e w1 ⟨rfl, rfl⟩
        go_wp2_with fail
        refine (HM.out _).mono ?_
        rintro e w1 ⟨rfl, k1⟩
        go_wp2
        go_ret
        exact ⟨rfl, k1⟩
      · have : p = true := by rw [← hd.out]; exact decide_eq_true ⟨of_decide_eq_true d1, of_decide_eq_true d2⟩
        subst this
        clear hd
        go_enter Tryz.func64, Tryz.ntmps64
        go_wp2_with fail
        refine (HL.out _).mono ?_
        rintro e w1 ⟨rfl, rfl⟩
        go_wp2_with fail
        refine (HM.out _).mono ?_
        rintro e w1 ⟨rfl, k1⟩
        go_wp2
        go_ret
        exact ⟨rfl, k1⟩

theorem blk_inst {w : World} {g : Nat} {t : TypeId} {a0 a1 a2 : Value} (h : Blk w g t #[a0, a1, a2]) : w.cell? ⟨g, 0, none⟩ = some a0 ∧ w.cell? ⟨g, 1, none⟩ = some a1 ∧ w.cell? ⟨g, 2, none⟩ = some a2 := ⟨h.cell 0, h.cell 1, h.cell 2⟩

set_option maxHeartbeats 2000000 in
theorem rcheck_any (op a b : Int) (w : World) (ha : I64 a) (hb : I64 b) :
    Calls Tryz.prog 42 #[instV op a b] w fun e w' => e = .returned (.int .i64 (chk op a b)) ∧ Keep NoB w w' := by
  obtain ⟨j0, j1, l0, l1⟩ := kinds_ok op
  obtain ⟨p, hp⟩ : ∃ p, Hid (inK (rowAt op).ka a = p) := ⟨_, rfl⟩
  obtain ⟨q, hq⟩ : ∃ q, Hid (inK (rowAt op).kb b = q) := ⟨_, rfl⟩
  have HA := Lib.hid (fun w => rin_any (rowAt op).ka a p w hp j0 j1 ha)
  have HB := Lib.hid (fun w => rin_any (rowAt op).kb b q w hq l0 l1 hb)
  have HK := Lib.hid (fun w => rkinds_any op w)
  have HX : Hid (chk op a b = if (isOp op && p && q) = true then 0 else 40) := by show _ = _; unfold chk okI; rw [hp.out, hq.out]
  clear j0 j1 l0 l1 hp hq ha hb
  generalize (rowAt op).ka = j at HA HK
  generalize (rowAt op).kb = l at HB HK
  generalize chk op a b = c at HX ⊢
  have bx0 := Blk.new w 46 #[.int .i64 op, .int .i64 a, .int .i64 b]
  have gK := (Keep.refl NoB w).alloc (.cells #[.int .i64 op, .int .i64 a, .int .i64 b] 46)
  go_enter Tryz.func42, Tryz.ntmps42
  go_wp2_with fail
  refine (HK.out _).mono ?_
  rintro e w1 ⟨rfl, rfl⟩
  go_wp2_with fail
  refine (HA.out _).mono ?_
  rintro e w2 ⟨rfl, k2⟩
  have bx := bx0.keep k2 id
  replace gK := keepN gK k2
  clear k2 bx0
  obtain ⟨x0, x1, x2⟩ := blk_inst bx
  go_wp2_with fail
  refine (HB.out _).mono ?_
  rintro e w3 ⟨rfl, k3⟩
  have bx3 := bx.keep k3 id
  replace gK := keepN gK k3
  clear k3 bx x0 x1 x2 HA HB HK
  obtain ⟨x0, x1, x2⟩ := blk_inst bx3
  cases ho : isOp op
  · have hn := isOp_no ho
    have hc : c = 40 := by rw [HX.out, ho]; rfl
    subst hc
    by_cases h0 : op < 0
    · have d0 : decide (op < 0) = true := by simpa using h0
      clear hn HX ho h0
      go_wp2
      go_ret
      exact ⟨rfl, gK⟩
    · have d0 : decide (op < 0) = false := by simpa using h0
      have d1 : decide (30 ≤ op) = true := by rw [decide_eq_true_iff]; omega
      clear hn HX ho h0
      go_wp2
      go_ret
      exact ⟨rfl, gK⟩
  · have hn := isOp_yes ho
    have d0 : decide (op < 0) = false := by rw [decide_eq_false_iff_not]; omega
    have d1 : decide (30 ≤ op) = false := by rw [decide_eq_false_iff_not]; omega
    cases p
    · have hc : c = 40 := by rw [HX.out, ho]; rfl
      subst hc
      clear hn HX ho
      go_wp2
      go_ret
      exact ⟨rfl, gK⟩
    · cases q
      · have hc : c = 40 := by rw [HX.out, ho]; rfl
        subst hc
        clear hn HX ho
        go_wp2
        go_ret
        exact ⟨rfl, gK⟩
      · have hc : c = 0 := by rw [HX.out, ho]; rfl
        subst hc
        clear hn HX ho
        go_wp2
        go_ret
        exact ⟨rfl, gK⟩

end Go.Proofs.YtonpplpfipfnfaaGreatDoor.O

namespace Go.Proofs.YtonpplpfipfnfaaGreatDoor.O
open Go.RowKit

theorem op_cases {op : Int} (h : isOp op = true) : op = 0 ∨ op = 1 ∨ op = 2 ∨ op = 3 ∨ op = 4 ∨ op = 5 ∨ op = 6 ∨ op = 7 ∨ op = 8 ∨ op = 9 ∨ op = 10 ∨ op = 11 ∨ op = 12 ∨ op = 13 ∨ op = 14 ∨ op = 15 ∨ op = 16 ∨ op = 17 ∨ op = 18 ∨ op = 19 ∨ op = 20 ∨ op = 21 ∨ op = 22 ∨ op = 23 ∨ op = 24 ∨ op = 25 ∨ op = 26 ∨ op = 27 ∨ op = 28 ∨ op = 29 := by
  have := isOp_yes h
  omega
theorem fin_at {op : Int} (h : isOp op = true) : (rowAt op).fin = ((op == 18) || ((op == 24) || ((op == 25) || (op == 27)))) := by
  rcases op_cases h with rfl | rfl | rfl | rfl | rfl | rfl | rfl | rfl | rfl | rfl | rfl | rfl | rfl | rfl | rfl | rfl | rfl | rfl | rfl | rfl | rfl | rfl | rfl | rfl | rfl | rfl | rfl | rfl | rfl | rfl <;> rfl
theorem ten_at {op : Int} (h : isOp op = true) : decide ((rowAt op).ka = 10) = ((op == 18) || (op == 19)) := by
  rcases op_cases h with rfl | rfl | rfl | rfl | rfl | rfl | rfl | rfl | rfl | rfl | rfl | rfl | rfl | rfl | rfl | rfl | rfl | rfl | rfl | rfl | rfl | rfl | rfl | rfl | rfl | rfl | rfl | rfl | rfl | rfl <;> rfl
theorem rcheck_gen (op a b c : Int) (w : World) (h : chk op a b = c) (ha : I64 a) (hb : I64 b) :
    Calls Tryz.prog 42 #[instV op a b] w fun e w' => e = .returned (.int .i64 c) ∧ Keep NoB w w' := by subst h; exact rcheck_any op a b w ha hb

set_option maxHeartbeats 2000000 in
theorem rends_any (op a b : Int) (w : World) (ha : I64 a) (hb : I64 b) :
    Calls Tryz.prog 43 #[instV op a b] w fun e w' => e = .returned (.bool (endsI op a b)) ∧ Keep NoB w w' := by
  have bx0 := Blk.new w 46 #[.int .i64 op, .int .i64 a, .int .i64 b]
  have gK := (Keep.refl NoB w).alloc (.cells #[.int .i64 op, .int .i64 a, .int .i64 b] 46)
  cases hok : okI op a b
  · have HC := Lib.hid (fun w => rcheck_gen op a b 40 w (by unfold chk; rw [hok]; rfl) ha hb)
    have HX : Hid (endsI op a b = false) := by show _ = _; unfold endsI; rw [rowR_no hok]; rfl
    clear hok ha hb
    go_enter Tryz.func43, Tryz.ntmps43
    go_wp2_with fail
    refine (HC.out _).mono ?_
    rintro e w1 ⟨rfl, k1⟩
    go_wp2
    go_ret
    exact ⟨by rw [HX.out]; rfl, keepN gK k1⟩
  · have HC := Lib.hid (fun w => rcheck_gen op a b 0 w (by unfold chk; rw [hok]; rfl) ha hb)
    have HX : Hid (endsI op a b = ((op == 18) || ((op == 24) || ((op == 25) || (op == 27))))) := by show _ = _; unfold endsI; rw [rowR_ok hok, fin_at (ok_op hok).1]
    clear hok ha hb
    cases e1 : op == 18
    · cases e2 : op == 24
      · cases e3 : op == 25
        · cases e4 : op == 27
          · rw [e1, e2, e3, e4] at HX
            go_enter Tryz.func43, Tryz.ntmps43
            go_wp2_with fail
            refine (HC.out _).mono ?_
            rintro e w1 ⟨rfl, k1⟩
            have bx := bx0.keep k1 id
            obtain ⟨x0, x1, x2⟩ := blk_inst bx
            go_wp2
            go_ret
            exact ⟨by rw [HX.out]; rfl, keepN gK k1⟩
          · rw [e1, e2, e3, e4] at HX
            go_enter Tryz.func43, Tryz.ntmps43
            go_wp2_with fail
            refine (HC.out _).mono ?_
            rintro e w1 ⟨rfl, k1⟩
            have bx := bx0.keep k1 id
            obtain ⟨x0, x1, x2⟩ := blk_inst bx
            go_wp2
            go_ret
            exact ⟨by rw [HX.out]; rfl, keepN gK k1⟩
        · rw [e1, e2, e3] at HX
          go_enter Tryz.func43, Tryz.ntmps43
          go_wp2_with fail
          refine (HC.out _).mono ?_
          rintro e w1 ⟨rfl, k1⟩
          have bx := bx0.keep k1 id
          obtain ⟨x0, x1, x2⟩ := blk_inst bx
          go_wp2
          go_ret
          exact ⟨by rw [HX.out]; rfl, keepN gK k1⟩
      · rw [e1, e2] at HX
        go_enter Tryz.func43, Tryz.ntmps43
        go_wp2_with fail
        refine (HC.out _).mono ?_
        rintro e w1 ⟨rfl, k1⟩
        have bx := bx0.keep k1 id
        obtain ⟨x0, x1, x2⟩ := blk_inst bx
        go_wp2
        go_ret
        exact ⟨by rw [HX.out]; rfl, keepN gK k1⟩
    · rw [e1] at HX
      go_enter Tryz.func43, Tryz.ntmps43
      go_wp2_with fail
      refine (HC.out _).mono ?_
      rintro e w1 ⟨rfl, k1⟩
      have bx := bx0.keep k1 id
      obtain ⟨x0, x1, x2⟩ := blk_inst bx
      go_wp2
      go_ret
      exact ⟨by rw [HX.out]; rfl, keepN gK k1⟩

set_option maxHeartbeats 2000000 in
theorem rgoes_any (op a b : Int) (w : World) (ha : I64 a) (hb : I64 b) :
    Calls Tryz.prog 41 #[instV op a b] w fun e w' => e = .returned (.tuple #[.int .i64 (goesN op a b), .bool (goesI op a b)]) ∧ Keep NoB w w' := by
  have bx0 := Blk.new w 46 #[.int .i64 op, .int .i64 a, .int .i64 b]
  have gK := (Keep.refl NoB w).alloc (.cells #[.int .i64 op, .int .i64 a, .int .i64 b] 46)
  cases hok : okI op a b
  · have HC := Lib.hid (fun w => rcheck_gen op a b 40 w (by unfold chk; rw [hok]; rfl) ha hb)
    have h1 : goesI op a b = false := by unfold goesI; rw [rowR_no hok]; rfl
    have HX : Hid (goesN op a b = 0 ∧ goesI op a b = false) := ⟨by unfold goesN; rw [if_neg (by rw [h1]; decide)], h1⟩
    clear hok ha hb h1
    go_enter Tryz.func41, Tryz.ntmps41
    go_wp2_with fail
    refine (HC.out _).mono ?_
    rintro e w1 ⟨rfl, k1⟩
    go_wp2
    go_ret2
    exact ⟨pr2 HX.out.1.symm HX.out.2.symm, keepN gK k1⟩
  · have HC := Lib.hid (fun w => rcheck_gen op a b 0 w (by unfold chk; rw [hok]; rfl) ha hb)
    have h0 : goesI op a b = ((op == 18) || (op == 19)) := by unfold goesI; rw [rowR_ok hok, ten_at (ok_op hok).1]
    clear hok ha hb
    by_cases u1 : op = 18
    · have e1 : (op != 18) = false := by simp [u1]
      have h1 : goesI op a b = true := by rw [h0, u1]; rfl
      have HX : Hid (goesN op a b = a ∧ goesI op a b = true) := ⟨by unfold goesN; rw [if_pos h1], h1⟩
      clear h0 h1 u1
      go_enter Tryz.func41, Tryz.ntmps41
      go_wp2_with fail
      refine (HC.out _).mono ?_
      rintro e w1 ⟨rfl, k1⟩
      have bx := bx0.keep k1 id
      obtain ⟨x0, x1, x2⟩ := blk_inst bx
      go_wp2
      go_ret2
      exact ⟨pr2 HX.out.1.symm HX.out.2.symm, keepN gK k1⟩
    · have e1 : (op != 18) = true := by simp [u1]
      by_cases u2 : op = 19
      · have e2 : (op != 19) = false := by simp [u2]
        have h1 : goesI op a b = true := by rw [h0, u2]; rfl
        have HX : Hid (goesN op a b = a ∧ goesI op a b = true) := ⟨by unfold goesN; rw [if_pos h1], h1⟩
        clear h0 h1 u1 u2
        go_enter Tryz.func41, Tryz.ntmps41
        go_wp2_with fail
        refine (HC.out _).mono ?_
        rintro e w1 ⟨rfl, k1⟩
        have bx := bx0.keep k1 id
        obtain ⟨x0, x1, x2⟩ := blk_inst bx
        go_wp2
        go_ret2
        exact ⟨pr2 HX.out.1.symm HX.out.2.symm, keepN gK k1⟩
      · have e2 : (op != 19) = true := by simp [u2]
        have h1 : goesI op a b = false := by rw [h0]; simp [u1, u2]
        have HX : Hid (goesN op a b = 0 ∧ goesI op a b = false) := ⟨by unfold goesN; rw [if_neg (by rw [h1]; decide)], h1⟩
        clear h0 h1 u1 u2
        go_enter Tryz.func41, Tryz.ntmps41
        go_wp2_with fail
        refine (HC.out _).mono ?_
        rintro e w1 ⟨rfl, k1⟩
        have bx := bx0.keep k1 id
        obtain ⟨x0, x1, x2⟩ := blk_inst bx
        go_wp2
        go_ret2
        exact ⟨pr2 HX.out.1.symm HX.out.2.symm, keepN gK k1⟩

end Go.Proofs.YtonpplpfipfnfaaGreatDoor.O

namespace Go.Proofs.YtonpplpfipfnfaaGreatDoor.C
open Go.RowKit O

theorem rgoes_gen (op a b to : Int) (t : Bool) (w : World) (h1 : goesN op a b = to) (h2 : goesI op a b = t) (ha : O.I64 a) (hb : O.I64 b) :
    Calls Tryz.prog 41 #[instV op a b] w fun e w' => e = .returned (.tuple #[.int .i64 to, .bool t]) ∧ Keep NoB w w' := by subst h1 h2; exact rgoes_any op a b w ha hb
theorem rends_gen (op a b : Int) (t : Bool) (w : World) (h : endsI op a b = t) (ha : O.I64 a) (hb : O.I64 b) :
    Calls Tryz.prog 43 #[instV op a b] w fun e w' => e = .returned (.bool t) ∧ Keep NoB w w' := by subst h; exact rends_any op a b w ha hb
/-- The numbers of a list fit. -/
def AllI (l : List I3) : Prop := ∀ x ∈ l, O.I64 x.2.1 ∧ O.I64 x.2.2

set_option maxRecDepth 100000 in
set_option maxHeartbeats 4000000 in
theorem rcchk_any (A : Option Addr) (l : List I3) (n c : Nat) (w : World) (hr : Rd w A (iis l)) (hn : Hid (l.length = n)) (hI : Hid (AllI l)) (hm : n ≤ 9223372036854775807) (R : Int) (hR : Hid (chkB l = R)) :
    Calls Tryz.prog 18 #[.slice A n c] w fun e w' => e = .returned (.int .i64 R) ∧ Keep NoB w w' := by
  by_cases h0 : n = 0
  · subst h0
    obtain rfl : 50 = R := by rw [← hR.out, List.length_eq_zero_iff.1 hn.out]; rfl
    go_enter Tryz.func18, Tryz.ntmps18
    go_wp2
    go_ret
    exact ⟨rfl, Keep.refl _ _⟩
  by_cases h5 : 512 < n
  · obtain rfl : 50 = R := by rw [← hR.out, chkB_no (okB_long (by rw [hn.out]; omega))]
    have hq : decide ((512 : Int) < (n : Int)) = true := by rw [decide_eq_true_iff]; omega
    have hz : decide ((n : Int) < 1) = false := by rw [decide_eq_false_iff_not]; omega
    clear h5 h0
    go_enter Tryz.func18, Tryz.ntmps18
    go_wp2
    go_ret
    exact ⟨rfl, Keep.refl _ _⟩
  obtain ⟨m, rfl⟩ : ∃ m, n = m + 1 := ⟨n - 1, by omega⟩
  have hz2 : decide ((m : Int) + 1 < 1) = false := by rw [decide_eq_false_iff_not]; omega
  have hq2 : decide ((512 : Int) < (m : Int) + 1) = false := by rw [decide_eq_false_iff_not]; omega
  have hm5 : m + 1 ≤ 512 := by omega
  have hl0 : 0 < l.length := by rw [hn.out]; omega
  obtain ⟨g, off, rfl, hc⟩ := rdJ_at hr hl0
  have HC := Lib.hid hc
  clear hc hr h0 h5
  go_enter Tryz.func18, Tryz.ntmps18
  go_wp2
  go_loopw [4] (fun i wr => ∃ k : Nat, k ≤ m + 1 ∧ i = .int .i64 k ∧ Hid ((l.take k).all (itemB (m + 1)) = true) ∧ Keep NoB w wr) (fun i _ => m + 1 - (intOf i).toNat)
  case atStart => exact ⟨0, Nat.zero_le _, rfl, rfl, Keep.refl _ _⟩
  case round =>
    obtain ⟨k, hk, rfl, hall, hK⟩ := hrel
    by_cases hlt : k < m + 1
    · have hkl : k < l.length := by rw [hn.out]; exact hlt
      obtain ⟨d0, d1, d2⟩ := HC.out k hkl
      have c0 := hK.cell d0 id
      have c1 := hK.cell d1 id
      have c2 := hK.cell d2 id
      have HT := Lib.hid (show l.take (k + 1) = l.take k ++ [l[k]] from List.take_succ_eq_append_getElem hkl)
      have HN : Hid (itemB l.length l[k] = false → 50 = R) := fun h => by rw [← hR.out, chkB_no (okB_item (all_no hkl h))]
      have hab := hI.out l[k] (List.getElem_mem hkl)
      rw [hn.out] at HN
      generalize l[k] = x at d0 d1 d2 c0 c1 c2 HT HN hab
      obtain ⟨op, a, b⟩ := x
      dsimp only at d0 d1 d2 c0 c1 c2 hab
      have ha := Lib.hid hab.1
      have hb' := Lib.hid hab.2
      have HD : Hid (∀ w', Keep NoB w w' → w'.cell? ⟨g, off + k * 3, none⟩ = some (.int .i64 op) ∧ w'.cell? ⟨g, off + k * 3 + 1, none⟩ = some (.int .i64 a) ∧ w'.cell? ⟨g, off + k * 3 + 2, none⟩ = some (.int .i64 b)) := fun w' h => ⟨h.cell d0 id, h.cell d1 id, h.cell d2 id⟩
      obtain ⟨to, hto⟩ : ∃ to, goesN op a b = to := ⟨_, rfl⟩
      have hb : 0 ≤ to ∧ to ≤ 511 := by rw [← hto]; exact gN_in (op, a, b)
      obtain ⟨t, htt⟩ : ∃ t, goesI op a b = t := ⟨_, rfl⟩
      have HG := Lib.hid (fun w => rgoes_gen op a b to t w hto htt ha.out hb'.out)
      clear d0 d1 d2 hab
      cases ho : okI op a b
      · obtain rfl := HN.out (item_no1 ho)
        have HO := Lib.hid (fun w => rcheck_gen op a b 40 w (by unfold chk; rw [ho]; rfl) ha.out hb'.out)
        clear ho hto HN HT hall hR htt
        go_wp2_with fail
        refine (HG.out _).mono ?_
        rintro e w2 ⟨rfl, k2⟩
        have gK := keepN hK k2
        obtain ⟨x0, x1, x2⟩ := HD.out _ gK
        clear c0 c1 c2
        go_wp2_with (go_at_call 42; refine (HO.out _).mono ?_; rintro e w3 ⟨rfl, k3⟩)
        go_ret
        exact ⟨rfl, keepN gK k3⟩
      have HO := Lib.hid (fun w => rcheck_gen op a b 0 w (by unfold chk; rw [ho]; rfl) ha.out hb'.out)
      by_cases ht : to < ((m + 1 : Nat) : Int)
      · have ht2 : ¬ ((m : Int) + 1 ≤ to) := by omega
        have ht3 : decide ((m : Int) + 1 ≤ to) = false := by rw [decide_eq_false_iff_not]; omega
        have ha2 : Hid ((l.take (k + 1)).all (itemB (m + 1)) = true) := by
          show _ = _
          rw [HT.out, List.all_append, hall.out]
          simp only [List.all_cons, List.all_nil, Bool.and_true, Bool.true_and]
          exact item_yes ho (by show goesN op a b < _; rw [hto]; exact ht)
        clear ho hto HN HT hall hR ht htt
        cases t
        all_goals
          go_wp2_with fail
          refine (HG.out _).mono ?_
          rintro e w2 ⟨rfl, k2⟩
          have gK := keepN hK k2
          obtain ⟨x0, x1, x2⟩ := HD.out _ gK
          clear c0 c1 c2
          go_wp2_with (go_at_call 42; refine (HO.out _).mono ?_; rintro e w3 ⟨rfl, k3⟩)
          go_roundw
          case rel => exact ⟨k + 1, by omega, by go_num, ha2, keepN gK k3⟩
          case measure => simp [intOf]; omega
      · obtain rfl := HN.out (item_no2 (by show ¬ goesN op a b < _; rw [hto]; exact ht))
        have ht2 : ((m : Int) + 1 ≤ to) := by omega
        obtain rfl : t = true := by
          cases t
          · have := gN_no (x := (op, a, b)) htt
            rw [show gN (op, a, b) = to from hto] at this
            omega
          · rfl
        clear ho hto HN HT hall hR ht htt
        go_wp2_with fail
        refine (HG.out _).mono ?_
        rintro e w2 ⟨rfl, k2⟩
        have gK := keepN hK k2
        obtain ⟨x0, x1, x2⟩ := HD.out _ gK
        clear c0 c1 c2
        go_wp2_with (go_at_call 42; refine (HO.out _).mono ?_; rintro e w3 ⟨rfl, k3⟩)
        go_ret
        exact ⟨rfl, keepN gK k3⟩
    · obtain rfl : k = m + 1 := by omega
      rw [List.take_of_length_le (by rw [hn.out]; omega)] at hall
      have hml : m < l.length := by rw [hn.out]; omega
      obtain ⟨d0, d1, d2⟩ := HC.out m hml
      have c0 := hK.cell d0 id
      have c1 := hK.cell d1 id
      have c2 := hK.cell d2 id
      have hlast : Hid (lastB l = eB l[m]) := by
        show _ = _
        rw [lastB_at hl0]
        congr 2
        rw [hn.out]; omega
      have hab := hI.out l[m] (List.getElem_mem hml)
      clear d0 d1 d2 HC
      generalize l[m] = x at c0 c1 c2 hlast hab
      obtain ⟨op, a, b⟩ := x
      dsimp only at c0 c1 c2 hab
      cases he : endsI op a b
      · obtain rfl : 50 = R := by rw [← hR.out, chkB_no (okB_last (by rw [hlast.out]; exact he))]
        have HE := Lib.hid (fun w => rends_gen op a b _ w he hab.1 hab.2)
        clear he hlast hR hab hall
        go_wp2_with (go_at_call 43; refine (HE.out _).mono ?_; rintro e w1 ⟨rfl, k1⟩)
        go_ret
        exact ⟨rfl, keepN hK k1⟩
      · obtain rfl : 0 = R := by
          rw [← hR.out, chkB_ok (okB_mk (by rw [hn.out]; exact hm5) (by rw [hlast.out]; exact he) (by rw [hn.out]; exact hall.out))]
        have HE := Lib.hid (fun w => rends_gen op a b _ w he hab.1 hab.2)
        clear he hlast hR hab hall
        go_wp2_with (go_at_call 43; refine (HE.out _).mono ?_; rintro e w1 ⟨rfl, k1⟩)
        go_ret
        exact ⟨rfl, keepN hK k1⟩

set_option maxRecDepth 100000 in
set_option maxHeartbeats 4000000 in
theorem lists_any (A B : Option Addr) (la lb : List I3) (n m c d : Nat) (w : World) (ha : Rd w A (iis la)) (hb : Rd w B (iis lb)) (hn : Hid (la.length = n)) (hm : Hid (lb.length = m))
    (h1 : n ≤ 9223372036854775807) (h2 : m ≤ 9223372036854775807) (R : Bool) (hR : Hid (R = decide (la = lb))) :
    Calls Tryz.prog 15 #[.slice A n c, .slice B m d] w fun e w' => e = .returned (.bool R) ∧ Keep NoB w w' := by
  by_cases hnm : n = m
  · subst hnm
    go_enter Tryz.func15, Tryz.ntmps15
    go_wp2
    go_loopw [5] (fun i wr => ∃ k : Nat, k ≤ n ∧ i = .int .i64 k ∧ Hid (la.take k = lb.take k) ∧ Keep NoB w wr) (fun i _ => n - (intOf i).toNat)
    case atStart => exact ⟨0, Nat.zero_le _, rfl, rfl, Keep.refl _ _⟩
    case round =>
      obtain ⟨k, hk, rfl, ht, hK⟩ := hrel
      by_cases hlt : k < n
      · have hka : k < la.length := by rw [hn.out]; exact hlt
        have hkb : k < lb.length := by rw [hm.out]; exact hlt
        obtain ⟨ga, oa, rfl, hca⟩ := rdJ_at ha (by omega)
        obtain ⟨gb, ob, rfl, hcb⟩ := rdJ_at hb (by omega)
        have ca0 := hK.cell (hca k hka).1 id
        have ca1 := hK.cell (hca k hka).2.1 id
        have ca2 := hK.cell (hca k hka).2.2 id
        have cb0 := hK.cell (hcb k hkb).1 id
        have cb1 := hK.cell (hcb k hkb).2.1 id
        have cb2 := hK.cell (hcb k hkb).2.2 id
        have HT := Lib.hid (show la.take (k + 1) = la.take k ++ [la[k]] from List.take_succ_eq_append_getElem hka)
        have HU := Lib.hid (show lb.take (k + 1) = lb.take k ++ [lb[k]] from List.take_succ_eq_append_getElem hkb)
        clear hca hcb
        by_cases he : la[k] = lb[k]
        · have HV : Hid (la.take (k + 1) = lb.take (k + 1)) := by show _ = _; rw [HT.out, HU.out, ht.out, he]
          rw [he] at ca0 ca1 ca2
          clear he HT HU ha hb
          generalize lb[k] = y at ca0 ca1 ca2 cb0 cb1 cb2
          obtain ⟨y0, y1, y2⟩ := y
          dsimp only at ca0 ca1 ca2 cb0 cb1 cb2
          go_wp2
          go_quiet (fail)
          go_wp2
          go_roundw
          case rel => exact ⟨k + 1, by omega, by go_num, HV, hK.drewN _⟩
          case measure => simp [intOf]; omega
        · have hf : R = false := by
            rw [hR.out, decide_eq_false_iff_not]
            intro e
            exact he (by simp [e])
          subst hf
          clear HT HU ha hb
          generalize la[k] = x at ca0 ca1 ca2 he
          generalize lb[k] = y at cb0 cb1 cb2 he
          obtain ⟨x0, x1, x2⟩ := x
          obtain ⟨y0, y1, y2⟩ := y
          dsimp only at ca0 ca1 ca2 cb0 cb1 cb2
          by_cases h0 : x0 = y0
          · subst h0
            by_cases h3 : x1 = y1
            · subst h3
              have hne : (x2 == y2) = false := by rw [beq_eq_false_iff_ne]; rintro rfl; exact he rfl
              clear he
              go_wp2
              go_quiet (fail)
              go_wp2
              go_ret
              exact ⟨rfl, hK.drewN _⟩
            · have hne : (x1 == y1) = false := by rw [beq_eq_false_iff_ne]; exact h3
              clear he h3
              go_wp2
              go_quiet (fail)
              go_wp2
              go_ret
              exact ⟨rfl, hK.drewN _⟩
          · have hne : (x0 == y0) = false := by rw [beq_eq_false_iff_ne]; exact h0
            clear he h0
            go_wp2
            go_quiet (fail)
            go_wp2
            go_ret
            exact ⟨rfl, hK.drewN _⟩
      · have hf : R = true := by
          rw [hR.out, decide_eq_true_iff]
          have e1 := ht.out
          rwa [List.take_of_length_le (by rw [hn.out]; omega), List.take_of_length_le (by rw [hm.out]; omega)] at e1
        subst hf
        go_wp2
        go_ret
        exact ⟨rfl, hK⟩
  · have hf : R = false := by
      rw [hR.out, decide_eq_false_iff_not]
      intro e
      exact hnm (by rw [← hn.out, ← hm.out, e])
    subst hf
    have hne : ((n : Int) != (m : Int)) = true := by rw [bne_iff_ne]; omega
    clear hnm
    go_enter Tryz.func15, Tryz.ntmps15
    go_wp2
    go_ret
    exact ⟨rfl, Keep.refl _ _⟩

end Go.Proofs.YtonpplpfipfnfaaGreatDoor.C

namespace Go.Proofs.YtonpplpfipfnfaaGreatDoor
open Go.RowKit Go.Shelf

section
variable {P : Program} {n : Nat}

theorem Keep.grows {W W' : World} (h : Keep NoB W W') : W.grownBy W' none := ⟨h.os, h.tape, h.output, h.size, fun k hk _ => h.block k hk id⟩
theorem ownFrom_keeps {β : Type} {B : Nat} {I : β → World → Prop} (hI : OwnFrom B I) {s : β} {W W' : World} (h : I s W) (hk : Keep NoB W W') : I s W' := hI s W W' none h hk.grows (fun r e => by cases e)
theorem keepsFrom_keep {B : Nat} {W W' : World} (hk : Keep NoB W W') : KeepsFrom B W W' := ⟨hk.size, fun k _ _ h _ => (hk.block k (Array.getElem?_eq_some_iff.1 h).1 id).trans h⟩

/-- One round, out of the walks of the assignments and of the body, if the body comes to its end. -/
theorem yieldAt_end {L m : Nat} {r : Loop} {args : Array Value} {W : World} {R : World → Prop} (hl : W.heap[L]? = some (.loop r)) (hr : r.state = .ready) (hp : r.pending = none) (hs : args.size = r.params.size)
    (h : r.assign.wpIn (Fence.wide.inRound L) m P (Exit.then (fun a₁ W₁ => W₁.heap[L]? = some (.loop r) ∧
        r.body.wpIn (Fence.wide.inRound L) m P (fun e _ W₃ => e = .normal ∧ W₃.heap[L]? = some (.loop { r with state := .busy }) ∧ R (W₃.putObj L (.loop r))) a₁ (W₁.putObj L (.loop { r with state := .busy })))
        (fun _ _ _ => False)) { tmps := (r.params.zip args).foldl (fun t (p, v) => t.setIfInBounds p v) r.tmps, defers := [] } W) :
    YieldAt Fence.wide m P L args W fun e W' => e = .returned (.bool true) ∧ R W' := by
  refine ⟨r.fn, _, r.assign, r.body, run_yield hl hs, roundIn_of_wpIn trivial (wpIn_mono h ?_)⟩
  intro e a₁ W₁ hq
  cases e with
  | normal =>
    obtain ⟨h1, h2⟩ := hq
    refine ⟨_, run_beginRound h1 hr, wpIn_mono h2 ?_⟩
    rintro e₃ a₃ W₃ ⟨rfl, h3, h4⟩
    refine ⟨_, _, run_endRound none h3, rfl, ?_⟩
    have hb : ({ r with state := .busy } : Loop) = { r with state := .busy } := rfl
    have he : ({ ({ r with state := .busy } : Loop) with state := if (none : Option Code).isNone then LoopState.ready else .done, pending := none } : Loop) = r := by
      cases r; simp_all
    rw [he]; exact h4
  | exit id => exact hq
  | goto t => exact hq
  | ret => exact hq
  | panic c => exact hq
  | outgrown => exact hq

/-- What is asked of the iterator. -/
def Brings {α : Type} (P : Program) (m k : Nat) (gf : Nat) (lb : Array Value) (encs : α → Array Value) (I : List α → World → Prop) (En : List α → α → World → Prop) (S : List α → Prop) : Prop :=
  ∀ (L : Nat) (J : List α → World → Prop), (∀ pre W W', J pre W → Keep NoB W W' → J pre W') → (∀ pre W, J pre W → I pre W) →
    (∀ pre x W, J pre W → En pre x W → YieldAt Fence.wide m P L (encs x) W fun e W' => e = .returned (.bool true) ∧ J (pre ++ [x]) W') →
    ∀ W, J [] W → CallsIn Fence.wide k P gf (#[.func (.yield L) #[] #[]] ++ lb) W fun e W' => (∃ v, e = .returned v) ∧ ∃ xs, S xs ∧ J xs W'

theorem wpIn_rangeFunc_brings {α : Type} {g : Operand} {ps : Array Tmp} {assign body : Code} {Q : Exit → Act → World → Prop} {a : Act} {w : World} {m : Nat}
    {gf : Nat} {lb : Array Value} (hg : a.eval g = .func (.func gf) #[] lb) (eg : ∀ args w, (callFunc gf args).run P w = .ok (.enter gf args) w)
    {encs : α → Array Value} {I : List α → World → Prop} {En : List α → α → World → Prop} {S : List α → Prop} (hit : Brings P m (n - 1) gf lb encs I En S) (hps : ∀ x, (encs x).size = ps.size)
    (hI : OwnFrom w.heap.size I) (h0 : I [] w) (Ax : List α → α → Act → World → Prop) (hAx : ∀ pre x a', OwnFrom w.heap.size (fun (_ : Unit) W => Ax pre x a' W))
    (hassign : ∀ (l : Nat) (pre : List α) (x : α) (W : World), I pre W → En pre x W →
      assign.wpIn (Fence.wide.inRound l) m P (Exit.then (fun a' W' => Ax pre x a' W' ∧ KeepsFrom w.heap.size W W') (fun _ _ _ => False)) { tmps := (ps.zip (encs x)).foldl (fun t (p, v) => t.setIfInBounds p v) a.tmps, defers := [] } W)
    (hbody : ∀ (l : Nat) (pre : List α) (x : α) (a' : Act) (W : World), Ax pre x a' W → body.wpIn (Fence.wide.inRound l) m P (fun e _ W' => e = .normal ∧ I (pre ++ [x]) W' ∧ KeepsFrom w.heap.size W W') a' W)
    (hdone : ∀ (D : Nat) (xs : List α) (W : World), w.heap.size ≤ D → S xs → I xs W → W.heap[D]? = some (.deferred (some [])) → Q .normal { a with defers := { target := .collected D, args := #[] } :: a.defers } W) :
    (Code.rangeFunc g ps assign body).wpIn Fence.wide n P Q a w := by
  refine wpIn_rangeFunc fun fn _ => ?_
  obtain ⟨r, hr⟩ : ∃ r : Loop, r = { state := .ready, pending := none, fn, tmps := a.tmps, params := ps, assign, body, defers := w.heap.size } := ⟨_, rfl⟩
  obtain ⟨W1, hW1⟩ : ∃ W1, (w.alloc (.deferred (some []))).alloc (.loop r) = W1 := ⟨_, rfl⟩
  have hL1 : W1.heap[w.heap.size + 1]? = some (.loop r) := by
    rw [← hW1]; have := World.alloc_heap_new (w.alloc (.deferred (some []))) (.loop r); rwa [World.size_alloc] at this
  have hD1 : W1.heap[w.heap.size]? = some (.deferred (some [])) := by
    rw [← hW1]; exact (Below.heap_alloc _ _ _ (by simp)).trans (World.alloc_heap_new w _)
  refine ⟨w.heap.size + 1, [{ target := .collected w.heap.size, args := #[] }], W1, { target := .fn (.func gf) lb, args := #[.func (.yield (w.heap.size + 1)) #[] #[]] }, W1, gf,
    #[.func (.yield (w.heap.size + 1)) #[] #[]] ++ lb, W1, ?_, ?_, fun _ _ => trivial, ?_, (fun h => by cases h), ?_⟩
  · rw [← hW1, hr]; exact run_enterLoop_outer _ _ _ _ _
  · simp only [resolve, hg]
    simp [go_sem]
  · simp [invoke, go_sem, eg]
  refine (hit (w.heap.size + 1) (fun pre W => I pre W ∧ W.heap[w.heap.size + 1]? = some (.loop r) ∧ W.heap[w.heap.size]? = some (.deferred (some []))) ?_ (fun _ _ h => h.1) ?_ W1 ⟨by rw [← hW1]; exact hI.alloc _ (hI.alloc _ h0), hL1, hD1⟩).mono ?_
  · rintro pre W W' ⟨h1, h2, h3⟩ hk
    exact ⟨ownFrom_keeps hI h1 hk, (hk.block _ (Array.getElem?_eq_some_iff.1 h2).1 id).trans h2, (hk.block _ (Array.getElem?_eq_some_iff.1 h3).1 id).trans h3⟩
  · clear hL1 hW1 hD1
    subst hr
    rintro pre x W ⟨h1, h2, h3⟩ hen
    refine yieldAt_end h2 rfl rfl (hps x) ?_
    have ha := hassign (w.heap.size + 1) pre x W h1 hen
    refine wpIn_mono ha ?_
    intro e a₁ Wa hq
    cases e with
    | normal =>
      obtain ⟨hax, hka⟩ := hq
      have l2 := hka.same _ _ (by omega) h2 rfl
      have d2 := hka.same _ _ (Nat.le_refl _) h3 rfl
      refine ⟨l2, ?_⟩
      have lt2 := (Array.getElem?_eq_some_iff.1 l2).1
      refine wpIn_mono (hbody _ pre x a₁ _ ((hAx pre x a₁).putObj (s := ()) _ hax (by omega) l2 rfl)) ?_
      rintro e₃ a₃ W₃ ⟨rfl, h4, h5⟩
      have l3 := h5.same (w.heap.size + 1) _ (by omega) (World.putObj_heap_same lt2) rfl
      have d3 := h5.same w.heap.size _ (Nat.le_refl _) ((World.putObj_heap_other (by omega)).trans d2) rfl
      refine ⟨rfl, l3, hI.putObj _ h4 (by omega) l3 rfl, World.putObj_heap_same (Array.getElem?_eq_some_iff.1 l3).1, (World.putObj_heap_other (by omega)).trans d3⟩
    | exit id => exact hq
    | goto t => exact hq
    | ret => exact hq
    | panic c => exact hq
    | outgrown => exact hq
  · rintro e W2 ⟨⟨v, rfl⟩, xs, hS, h1, h2, h3⟩
    have hp : r.pending = none := by rw [hr]
    exact ⟨none, _, by have := run_endLoop (P := P) h2 (by rw [hr]; simp); rw [hp] at this; exact this, hdone _ xs _ (Nat.le_refl _) hS (hI.putObj _ h1 (by omega) h2 rfl) ((World.putObj_heap_other (by omega)).trans h3)⟩
end
end Go.Proofs.YtonpplpfipfnfaaGreatDoor

namespace Go.Proofs.YtonpplpfipfnfaaGreatDoor.O
open Go.RowKit Go.Shelf
attribute [local go_sem] Oper.semAt_some

/-- An operand that comes: its kind, its number, its functions. -/
structure Part where
  k : Int
  n : Int
  sh : Value
  gu : Value
def Part.key (x : Part) : Int × Int := (x.k, x.n)
abbrev partE (x : Part) : Array Value := #[opV x.k x.sh x.gu, .int .i64 x.n]
/-- The operands that there are. -/
def partsL (ka kb a b : Int) : List (Int × Int) := if ka = 0 then [] else if kb = 0 then [(ka, a)] else [(ka, a), (kb, b)]
/-- What is known of one that comes: its place, its functions. -/
def PartN (ka kb a b : Int) (pre : List Part) (x : Part) (W : World) : Prop := (∃ post, pre.map Part.key ++ x.key :: post = partsL ka kb a b) ∧ FnAt x.k x.sh x.gu W

theorem parts_0 {ka kb a b : Int} (h : ka = 0) : partsL ka kb a b = [] := by unfold partsL; rw [if_pos h]
theorem parts_1 {ka kb a b : Int} (h : ka ≠ 0) (h' : kb = 0) : partsL ka kb a b = [(ka, a)] := by unfold partsL; rw [if_neg h, if_pos h']
theorem parts_2 {ka kb a b : Int} (h : ka ≠ 0) (h' : kb ≠ 0) : partsL ka kb a b = [(ka, a), (kb, b)] := by unfold partsL; rw [if_neg h, if_neg h']

theorem run_index_nums (a b : Int) (w : World) : (Instr.index 145 (.agg #[.int .i64 a, .int .i64 b]) (.int .i64 0)).run Tryz.prog w = .ok (.int .i64 a) w ∧
    (Instr.index 145 (.agg #[.int .i64 a, .int .i64 b]) (.int .i64 1)).run Tryz.prog w = .ok (.int .i64 b) w := by
  have hs : (sizeOf 2).run Tryz.prog w = .ok 1 w := Tryz.sizeOf2 w
  unfold Instr.index
  constructor
  · simp [run_underlying Tryz.underlying145, asIntOf, hs, part]
  · simp [run_underlying Tryz.underlying145, asIntOf, hs, part]

set_option maxRecDepth 100000 in
set_option maxHeartbeats 4000000 in
theorem parts1_in (m : Nat) (q : Row) (op a b : Int) (Bx Br : Nat) (hka : 0 ≤ q.ka ∧ q.ka ≤ 10) (hkb : 0 ≤ q.kb ∧ q.kb ≤ 10) (I : List Part → World → Prop)
    (hbx : ∀ pre W, I pre W → Blk W Bx 46 #[.int .i64 op, .int .i64 a, .int .i64 b]) (hbr : ∀ pre W, I pre W → Blk W Br 95 (cells9 q)) :
    Brings Tryz.prog m (m + 1) 77 #[.pointer (some ⟨Bx, 0, none⟩), .pointer (some ⟨Br, 0, none⟩)] partE I (PartN q.ka q.kb a b) (fun xs => xs.map Part.key = partsL q.ka q.kb a b) := by
  intro L J hJk hJI hY W h0
  refine callsIn_of_wp Tryz.func77 rfl trivial ?_ rfl
  simp only [Tryz.ntmps77, List.size_toArray, List.length_cons, List.length_nil, Nat.reduceAdd, Nat.reduceSub, Array.replicate_succ, Array.replicate_zero, List.push_toArray, List.append_toArray, List.nil_append, List.cons_append]
  have x0 := hbx _ _ (hJI _ _ h0)
  have c1 : W.cell? ⟨Bx, 1, none⟩ = some (.int .i64 a) := x0.cell 1
  have c2 : W.cell? ⟨Bx, 2, none⟩ = some (.int .i64 b) := x0.cell 2
  clear x0
  gi_wp2
  gi_loopw [11] (fun i wr => ∃ (k : Nat) (pre : List Part), k ≤ 2 ∧ i = .int .i64 (k : Int) ∧ Hid (pre.map Part.key = [(q.ka, a), (q.kb, b)].take k ∧ (1 ≤ k → q.ka ≠ 0) ∧ (2 ≤ k → q.kb ≠ 0)) ∧ J pre wr)
    (fun i _ => 2 - (intOf i).toNat)
  case atStart => exact ⟨0, [], by omega, rfl, ⟨rfl, fun h => by omega, fun h => by omega⟩, h0⟩
  case round =>
    obtain ⟨k, pre, hk, rfl, HP, hJ⟩ := hrel
    have r0 := hbr _ _ (hJI _ _ hJ)
    have d1 : wr.cell? ⟨Br, 1, none⟩ = some (.int .i64 q.ka) := r0.cell 1
    have d2 : wr.cell? ⟨Br, 2, none⟩ = some (.int .i64 q.kb) := r0.cell 2
    clear r0 c1 c2
    have hix := fun w => run_index_nums a b w
    have hi0 := fun w => (hix w).1
    have hi1 := fun w => (hix w).2
    clear hix
    obtain rfl | rfl | rfl : k = 0 ∨ k = 1 ∨ k = 2 := by omega
    · by_cases hz : q.ka = 0
      · have hS : Hid (pre.map Part.key = partsL q.ka q.kb a b) := by show _ = _; rw [HP.out.1, parts_0 hz]; rfl
        have e0 : (q.ka == 0) = true := by rw [beq_iff_eq]; exact hz
        clear HP hz hka hkb
        rw [show ((0 : Nat) : Int) = 0 from rfl]
        gi_wp2
        refine ⟨trivial, ?_⟩
        gi_wp2
        refine ⟨fun _ h => (by cases h), ?_⟩
        gi_wp2
        refine bodyPost_ret (results_none rfl _ _ _) rfl ?_
        exact ⟨⟨_, rfl⟩, pre, hS.out, hJ⟩
      · have e0 : (q.ka == 0) = false := by rw [beq_eq_false_iff_ne]; exact hz
        have HN : Hid (pre.map Part.key ++ (q.ka, a) :: (if q.kb = 0 then [] else [(q.kb, b)]) = partsL q.ka q.kb a b) := by show _ = _; rw [HP.out.1]; unfold partsL; rw [if_neg hz]; split <;> rfl
        have HQ : Hid (∀ x : Part, x.key = (q.ka, a) → (pre ++ [x]).map Part.key = [(q.ka, a), (q.kb, b)].take 1) := by intro x hx; rw [List.map_append, HP.out.1]; simp [hx]
        have hp1 := HP.out.2.1
        have HZ : Hid ((1 ≤ 1 → q.ka ≠ 0) ∧ (2 ≤ 1 → q.kb ≠ 0)) := ⟨fun _ => hz, fun h => by omega⟩
        clear HP hz hp1
        rw [show ((0 : Nat) : Int) = 0 from rfl]
        gi_wp2_with (refine ⟨trivial, ?_⟩; gi_at_call 59; refine (callsIn_wide.2 (operandOf_any q.ka hka _)).mono ?_; rintro e w1 ⟨sh, gu, rfl, hF, k1⟩; have hJ1 := hJk _ _ _ hJ k1; obtain ⟨fn, tmps, assign, body, hy, hR⟩ := hY pre ⟨q.ka, a, sh, gu⟩ w1 hJ1 ⟨⟨_, HN.out⟩, hF⟩; dsimp only [partE] at hy)
        refine hR.mono ?_
        rintro e W3 ⟨rfl, hJ3⟩
        gi_wp2
        go_roundw
        case rel => exact ⟨1, pre ++ [_], by omega, rfl, ⟨HQ.out _ rfl, HZ.out⟩, hJ3⟩
        case measure => simp [intOf]
    · by_cases hz : q.kb = 0
      · have hS : Hid (pre.map Part.key = partsL q.ka q.kb a b) := by show _ = _; rw [HP.out.1, parts_1 (HP.out.2.1 (by omega)) hz]; rfl
        have e0 : (q.kb == 0) = true := by rw [beq_iff_eq]; exact hz
        clear HP hz hka hkb
        rw [show ((1 : Nat) : Int) = 1 from rfl]
        gi_wp2
        refine ⟨trivial, ?_⟩
        gi_wp2
        refine ⟨fun _ h => (by cases h), ?_⟩
        gi_wp2
        refine bodyPost_ret (results_none rfl _ _ _) rfl ?_
        exact ⟨⟨_, rfl⟩, pre, hS.out, hJ⟩
      · have e0 : (q.kb == 0) = false := by rw [beq_eq_false_iff_ne]; exact hz
        have HN : Hid (pre.map Part.key ++ (q.kb, b) :: [] = partsL q.ka q.kb a b) := by show _ = _; rw [HP.out.1, parts_2 (HP.out.2.1 (by omega)) hz]; rfl
        have HQ : Hid (∀ x : Part, x.key = (q.kb, b) → (pre ++ [x]).map Part.key = [(q.ka, a), (q.kb, b)].take 2) := by intro x hx; rw [List.map_append, HP.out.1]; simp [hx]
        have hp1 := HP.out.2.1
        have HZ : Hid ((1 ≤ 2 → q.ka ≠ 0) ∧ (2 ≤ 2 → q.kb ≠ 0)) := ⟨fun _ => hp1 (by omega), fun _ => hz⟩
        clear HP hz hp1
        rw [show ((1 : Nat) : Int) = 1 from rfl]
        gi_wp2_with (refine ⟨trivial, ?_⟩; gi_at_call 59; refine (callsIn_wide.2 (operandOf_any q.kb hkb _)).mono ?_; rintro e w1 ⟨sh, gu, rfl, hF, k1⟩; have hJ1 := hJk _ _ _ hJ k1; obtain ⟨fn, tmps, assign, body, hy, hR⟩ := hY pre ⟨q.kb, b, sh, gu⟩ w1 hJ1 ⟨⟨_, HN.out⟩, hF⟩; dsimp only [partE] at hy)
        refine hR.mono ?_
        rintro e W3 ⟨rfl, hJ3⟩
        gi_wp2
        go_roundw
        case rel => exact ⟨2, pre ++ [_], by omega, rfl, ⟨HQ.out _ rfl, HZ.out⟩, hJ3⟩
        case measure => simp [intOf]
    · have hS : Hid (pre.map Part.key = partsL q.ka q.kb a b) := by show _ = _; rw [HP.out.1, parts_2 (HP.out.2.1 (by omega)) (HP.out.2.2 (by omega))]; rfl
      clear HP hka hkb
      rw [show ((2 : Nat) : Int) = 2 from rfl]
      gi_wp2
      go_end0
      exact ⟨⟨_, rfl⟩, pre, hS.out, hJ⟩

end Go.Proofs.YtonpplpfipfnfaaGreatDoor.O

namespace Go.Proofs.YtonpplpfipfnfaaGreatDoor.O
open Go.RowKit Go.Shelf
attribute [local go_sem] Oper.semAt_some

theorem blk_own {β : Type} (B g : Nat) (t : TypeId) (cs : β → Array Value) : OwnFrom B (fun s W => Blk W g t (cs s)) := by
  intro s X Y row h hg hrow
  refine (hg.block g h.lt (fun e => ?_)).trans h
  obtain ⟨_, o, ho, hc⟩ := hrow g e.symm
  rw [show X.heap[g]? = _ from h] at ho
  cases ho; cases hc
theorem keep_own {β : Type} {B : Nat} {w0 : World} (O : Nat → Prop) (hB : w0.heap.size ≤ B) : OwnFrom B (fun (_ : β) W => Keep O w0 W) := by
  intro s X Y row h hg hrow
  exact h.grown hg (fun g e hl => by have := (hrow g e).1; omega)
theorem fnAt_own {β : Type} (B : Nat) (k : Int) (sh gu : Value) : OwnFrom B (fun (_ : β) W => FnAt k sh gu W) := by
  intro s X Y row h hg hrow
  have hc : ∀ p v, X.cell? p = some v → Y.cell? p = some v := fun p v hp => cell_kept hp hg (fun r e => (hrow r e).2)
  rcases h with h | h | ⟨h, b, c, h1, h2, h3, h4⟩
  · exact .inl h
  · exact .inr (.inl h)
  · exact .inr (.inr ⟨h, b, c, h1, h2, hc _ _ h3, hc _ _ h4⟩)
theorem ownFrom_const {β : Type} (B : Nat) (p : Prop) : OwnFrom B (fun (_ : β) (_ : World) => p) := fun _ _ _ _ h _ _ => h
theorem keepsFrom_one {B g : Nat} {W W' : World} (h : Keep (fun k => k = g) W W') (hg : g < B) : KeepsFrom B W W' :=
  ⟨h.size, fun k _ hk hh _ => (h.block k (Array.getElem?_eq_some_iff.1 hh).1 (fun e => by omega)).trans hh⟩

set_option maxHeartbeats 1000000 in
theorem parts_any (q : Row) (op a b : Int) (w : World) : Calls Tryz.prog 53 #[rowV q, instV op a b] w fun e w' =>
    e = .returned (.func (.func 77) #[] #[.pointer (some ⟨w.heap.size + 1, 0, none⟩), .pointer (some ⟨w.heap.size, 0, none⟩)]) ∧ Blk w' w.heap.size 95 (cells9 q) ∧ Blk w' (w.heap.size + 1) 46 #[.int .i64 op, .int .i64 a, .int .i64 b] ∧ Keep NoB w w' := by
  go_enter Tryz.func53, Tryz.ntmps53
  go_wp2
  go_ret
  have h1 := Blk.new (w.alloc (.cells (cells9 q) 95)) 46 #[.int .i64 op, .int .i64 a, .int .i64 b]
  rw [World.size_alloc] at h1
  exact ⟨rfl, (Blk.new _ _ _).alloc _, h1, ((Keep.refl NoB w).alloc _).alloc _⟩

/-- The text of the operands that have come. -/
def textP (l : List (Int × Int)) : List UInt8 := l.flatMap fun x => 32 :: word x.1 x.2
theorem textP_parts (ka kb a b : Int) (h : ka = 0 → kb = 0) : textP (partsL ka kb a b) = partL ka a ++ partL kb b := by
  unfold partsL partL textP
  split
  · rename_i hz
    rw [if_pos (h hz)]; rfl
  · split
    · simp
    · simp
theorem kinds_none (op : Int) : (rowAt op).ka = 0 → (rowAt op).kb = 0 := by
  have := rowAt_all (p := fun r => decide (r.ka = 0 → r.kb = 0)) (by decide) (by decide) op
  exact of_decide_eq_true this

theorem textP_snoc (l : List (Int × Int)) (x : Int × Int) : textP (l ++ [x]) = textP l ++ 32 :: word x.1 x.2 := by unfold textP; simp
theorem textP_len : ∀ (l : List (Int × Int)), (∀ x ∈ l, I64 x.2) → (textP l).length ≤ 22 * l.length
  | [], _ => Nat.zero_le _
  | x :: l, h => by
    have h1 := word_len x.1 x.2 (h x (by simp))
    have h2 := textP_len l (fun y hy => h y (by simp [hy]))
    have e : textP (x :: l) = (32 :: word x.1 x.2) ++ textP l := by unfold textP; simp
    rw [e]
    simp
    omega
theorem parts_mem {ka kb a b : Int} {x : Int × Int} (h : x ∈ partsL ka kb a b) : x.1 ≠ 0 ∧ (x.2 = a ∨ x.2 = b) := by
  unfold partsL at h
  split at h
  · cases h
  · split at h
    · rename_i h1 h2; simp at h; subst h; exact ⟨h1, .inl rfl⟩
    · rename_i h1 h2
      simp at h
      rcases h with rfl | rfl
      · exact ⟨h1, .inl rfl⟩
      · exact ⟨h2, .inr rfl⟩
theorem parts_len (ka kb a b : Int) : (partsL ka kb a b).length ≤ 2 := by unfold partsL; split <;> (try split) <;> simp
theorem part_facts {ka kb a b : Int} {pre : List Part} {x : Part} {W : World} (h : PartN ka kb a b pre x W) (ha : I64 a) (hb : I64 b) : x.k ≠ 0 ∧ I64 x.n ∧ (textP (pre.map Part.key)).length ≤ 44 := by
  obtain ⟨⟨post, hp⟩, _⟩ := h
  have h64 : ∀ y ∈ partsL ka kb a b, I64 y.2 := fun y hy => by rcases (parts_mem hy).2 with e | e <;> rw [e] <;> assumption
  have hx := parts_mem (x := x.key) (by rw [← hp]; simp)
  have hl := congrArg List.length hp
  have h2 := parts_len ka kb a b
  have hx64 := h64 x.key (by rw [← hp]; simp)
  have ht := textP_len (pre.map Part.key) (fun y hy => h64 y (by rw [← hp]; exact List.mem_append_left _ hy))
  simp at hl ht
  exact ⟨hx.1, hx64, by omega⟩
theorem name_len (op : Int) : (rowAt op).name.length ≤ 7 := by
  have := rowAt_all (p := fun r => decide (r.name.length ≤ 7)) (by decide) (by decide) op
  exact of_decide_eq_true this

theorem Keep_putObj {O : Nat → Prop} {w W : World} {D : Nat} {o : Obj} (h : Keep O w W) (hD : w.heap.size ≤ D) : Keep O w (W.putObj D o) := h.grown (grownBy_putObj' W D o) (fun g e hl => by cases e; omega)
theorem str_sp (s d : List UInt8) : str s ++ ((⟨#[32]⟩ : ByteArray) ++ str d) = str (s ++ 32 :: d) := by
  apply ByteArray.ext
  simp [ByteArray.data_append]

theorem show_end {w2 W w3 : World} {bt : Nat} {cs : Array Value} {t : TypeId} {u : Value} (h : Blk (w3.setCell ⟨bt, 0, none⟩ u) bt t cs) (h2 : Keep (fun k => k = bt) w2 W) (k4 : Keep NoB W w3) (hlt : bt < w2.heap.size) :
    (Exit.normal = Exit.normal) ∧ (Blk (w3.setCell ⟨bt, 0, none⟩ u) bt t cs ∧ Keep (fun k => k = bt) w2 (w3.setCell ⟨bt, 0, none⟩ u)) ∧ KeepsFrom w2.heap.size W (w3.setCell ⟨bt, 0, none⟩ u) :=
  ⟨rfl, ⟨h, (h2.trans k4 (fun _ hf _ => hf.elim)).setCell (fun _ => rfl) _⟩, keepsFrom_one (Keep.setCell (O := fun k => k = bt) (p := ⟨bt, 0, none⟩) (k4.mono (fun _ hf _ => hf.elim)) (fun _ => rfl) u) hlt⟩

/-- The activation at the head of the loop's body. -/
def showAct (op a b : Int) (r : Row) (g h : Nat) (x : Part) (Bo : Nat) : Act :=
  { tmps := #[instV op a b, .pointer (some ⟨g, 0, none⟩), .string ⟨#[]⟩, .pointer (some ⟨h, 0, none⟩), .bool true, .pointer (some ⟨h + 1, 0, none⟩), .pointer (some ⟨Bo, 0, none⟩), .int .i64 x.n, .tuple #[rowV r, .bool true],
      instV op a b, .tuple #[rowV r, .bool true], rowV r, .bool true, .bool true, .bool false, .pointer (some ⟨h, 0, none⟩), .string (str r.name), rowV r, instV op a b,
      .func (.func 77) #[] #[.pointer (some ⟨h + 1 + 1 + 1, 0, none⟩), .pointer (some ⟨h + 1 + 1, 0, none⟩)], .agg #[.int .i64 x.k, .int .i64 (lo x.k), .int .i64 (hi x.k), x.sh, x.gu], .int .i64 x.n,
      undef, undef, undef, undef, undef, undef, undef, undef], defers := [] }

set_option maxRecDepth 100000 in
set_option maxHeartbeats 4000000 in
theorem show_yes (op a b : Int) (w : World) (hok : okI op a b = true) (ha : I64 a) (hb : I64 b) (hL : LaidO w) :
    Calls Tryz.prog 68 #[instV op a b] w fun e w' => ∃ d, e = .returned (.string d) ∧ Hid (d = str (textI op a b)) ∧ Keep NoB w w' := by
  obtain ⟨r, hr⟩ : ∃ r, rowAt op = r := ⟨_, rfl⟩
  have hka := kinds_ok op
  have hkn := kinds_none op
  have hnl := name_len op
  have HT : Hid (str (textI op a b) = str (r.name ++ textP (partsL r.ka r.kb a b))) := by show _ = _; unfold textI; rw [hr, textP_parts _ _ _ _ (hr ▸ hkn)]
  have HR := Lib.hid (fun w => rowFor_any op a b r w (by rw [rowR_ok hok]; exact hr))
  rw [hr] at hka hnl
  rw [hok] at HR
  have HA := Lib.hid ha
  have HB := Lib.hid hb
  clear hok hr hkn ha hb
  refine (callsIn_wide (n := 4)).1 ?_
  refine callsIn_of_wp_marks Tryz.func68 rfl trivial ?_ rfl
  simp only [Tryz.ntmps68, List.size_toArray, List.length_cons, List.length_nil, Nat.reduceAdd, Nat.reduceSub, Array.replicate_succ, Array.replicate_zero, List.push_toArray, List.append_toArray, List.nil_append, List.cons_append]
  gi_wp2_with (first
    | (refine ⟨trivial, ?_⟩; gi_at_call 49; refine (callsIn_wide.2 (HR.out _)).mono ?_; rintro e w1 ⟨rfl, k1⟩; have bi := (Blk.new w 46 #[.int .i64 op, .int .i64 a, .int .i64 b]).keep k1 id; have i0 : ∀ o o', ((w1.alloc o).alloc o').cell? ⟨w.heap.size, 0, none⟩ = some (.int .i64 op) := fun o o' => ((bi.alloc o).alloc o').cell 0; have i1 : ∀ o o', ((w1.alloc o).alloc o').cell? ⟨w.heap.size, 1, none⟩ = some (.int .i64 a) := fun o o' => ((bi.alloc o).alloc o').cell 1; have i2 : ∀ o o', ((w1.alloc o).alloc o').cell? ⟨w.heap.size, 2, none⟩ = some (.int .i64 b) := fun o o' => ((bi.alloc o).alloc o').cell 2)
    | (refine ⟨trivial, ?_⟩; gi_at_call 53; refine (callsIn_wide.2 (parts_any r op a b _)).mono ?_; rintro e w2 ⟨rfl, br, bx, k2⟩))
  simp only [World.size_alloc] at br bx
  have hbt := (Blk.new (w1.alloc (.cells (cells9 r) 95)) 9 #[.string (str r.name)]).keep k2 id
  rw [World.size_alloc] at hbt
  have hltb := hbt.lt
  have hKw : Keep NoB w w2 := keepN ((keepN ((Keep.refl NoB w).alloc _) k1).alloc _ |>.alloc _) k2
  have HLw := Lib.hid hL
  have hsz : w.heap.size < w1.heap.size := by have := k1.size; simp at this; omega
  clear hL bi i0 i1 i2 k1 k2
  have hI : OwnFrom w2.heap.size (fun (pre : List Part) W => Blk W (w1.heap.size + 1) 9 #[.string (str (r.name ++ textP (pre.map Part.key)))] ∧ Keep (fun k => k = w1.heap.size + 1) w2 W) :=
    (blk_own w2.heap.size (w1.heap.size + 1) 9 (fun pre : List Part => #[.string (str (r.name ++ textP (pre.map Part.key)))])).and (keep_own _ (Nat.le_refl _))
  refine wpIn_rangeFunc_brings (m := 2) (gf := 77) (lb := #[.pointer (some ⟨w1.heap.size + 1 + 1 + 1, 0, none⟩), .pointer (some ⟨w1.heap.size + 1 + 1, 0, none⟩)]) rfl (enters_of Tryz.func77 (by kernel_rfl) rfl)
    (parts1_in 2 r op a b (w1.heap.size + 1 + 1 + 1) (w1.heap.size + 1 + 1) ⟨hka.1, hka.2.1⟩ hka.2.2 (fun pre W => Blk W (w1.heap.size + 1) 9 #[.string (str (r.name ++ textP (pre.map Part.key)))] ∧ Keep (fun k => k = w1.heap.size + 1) w2 W)
      (fun pre W h => bx.keep h.2 (by omega)) (fun pre W h => br.keep h.2 (by omega))) (fun _ => rfl) hI ⟨by simpa [textP] using hbt, Keep.refl _ _⟩
    (fun pre x a' W => (Blk W (w1.heap.size + 1) 9 #[.string (str (r.name ++ textP (pre.map Part.key)))] ∧ Keep (fun k => k = w1.heap.size + 1) w2 W) ∧ PartN r.ka r.kb a b pre x W ∧ ∃ Bo, Bo ≠ w1.heap.size + 1 ∧ Blk W Bo 109 #[.int .i64 x.k, .int .i64 (lo x.k), .int .i64 (hi x.k), x.sh, x.gu] ∧ a' = showAct op a b r w.heap.size w1.heap.size x Bo) ?hax ?assign ?body ?done
  case hax =>
    rintro pre x a' s X Y row ⟨h1, ⟨h2, h3⟩, Bo, h4, h5, h6⟩ hg hrow
    exact ⟨hI _ _ _ _ h1 hg hrow, ⟨h2, fnAt_own (β := Unit) _ _ _ _ () _ _ _ h3 hg hrow⟩, Bo, h4, blk_own (β := Unit) _ _ _ (fun _ => _) () _ _ _ h5 hg hrow, h6⟩
  case assign =>
    rintro l pre ⟨k, n, sh, gu⟩ W hi hen
    have hne : W.heap.size ≠ w1.heap.size + 1 := by have := hi.1.lt; omega
    have hen2 := Lib.hid hen
    have hi2 := Lib.hid hi
    have hk0 := (part_facts hen HA.out HB.out).1
    rcases hen.2 with ⟨h0, _⟩ | ⟨_, h1, h2⟩ | ⟨_, b1, c1, h1, h2, _, _⟩
    · exact absurd h0 hk0
    all_goals
      simp only at h1 h2
      subst h1 h2
      clear hen hi
      dsimp only [partE, opV]
      gi_wp2
      exact ⟨⟨⟨hi2.out.1.alloc _, hi2.out.2.alloc _⟩, ⟨hen2.out.1, hen2.out.2.keep ((Keep.refl NoB W).alloc _)⟩, W.heap.size, hne, Blk.new W _ _, rfl⟩, keepsFrom_keep ((Keep.refl NoB W).alloc _)⟩
  case body =>
    rintro l pre ⟨k, n, sh, gu⟩ a' W ⟨hi, hen, Bo, hne, bo, rfl⟩
    obtain ⟨hk0, hn, htl⟩ := part_facts hen HA.out HB.out
    have hKW : Keep NoB w W := hKw.trans hi.2 (fun k e hl => by subst e; omega)
    have hSz : (str (r.name ++ textP (pre.map Part.key))).size ≤ 60 := by rw [_root_.Go.Proofs.YtonpplpfipfnfaaGreatDoor.W.size_of (s := r.name ++ textP (pre.map Part.key)) (by simp), List.length_append]; omega
    have HS : Hid (str (r.name ++ textP ((pre ++ [(⟨k, n, sh, gu⟩ : Part)]).map Part.key)) = str (r.name ++ textP (pre.map Part.key)) ++ ((⟨#[32]⟩ : ByteArray) ++ str (word k n))) := by
      show _ = _
      rw [str_sp, List.map_append]
      simp only [List.map_cons, List.map_nil]
      rw [textP_snoc, List.append_assoc]
      rfl
    have hWd : (str (word k n)).size ≤ 21 := by rw [_root_.Go.Proofs.YtonpplpfipfnfaaGreatDoor.W.size_of (s := word k n) (by simp)]; exact word_len k n hn
    have hlt := hi.1.lt
    obtain ⟨D, hD⟩ : ∃ D, str (word k n) = D := ⟨_, rfl⟩
    rw [hD] at HS hWd
    generalize str (r.name ++ textP (pre.map Part.key)) = S at hi hSz HS
    have ct : W.cell? ⟨w1.heap.size + 1, 0, none⟩ = some (.string S) := hi.1.cell 0
    have ft := hi.1.frozen 0
    have hB := Lib.hid hi
    clear hi htl
    rcases hen.2 with ⟨h0, _⟩ | ⟨hd, h1, h2⟩ | ⟨hd, b1, c1, h1, h2, hb1, _⟩
    · exact absurd h0 hk0
    · simp only at h1 h2 hd
      subst h1 h2
      have HC := Lib.hid (fun (W' : World) (hk : Keep NoB W W') => (show_dig k n W' hd hn (HLw.out.keep (keepN hKW hk))).mono (R' := fun e w' => e = .returned (.string D) ∧ Keep NoB W' w') (fun _ _ ⟨d, he, hd', hk'⟩ => ⟨by rw [he, hd'.out, hD], hk'⟩))
      have co : W.cell? ⟨Bo, 3, none⟩ = some (fnV 103) := bo.cell 3
      clear hen hd hk0 bo hD
      dsimp only [showAct]
      have hmix : Tryz.prog.follows .mixedOrders = true := by kernel_rfl
      have q1 : ¬ 9223372036854775807 < 1 + D.size := by omega
      have q2 : ¬ 9223372036854775807 < S.size + (1 + D.size) := by omega
      gi_wp2
      gi_region_with_o (refine ⟨trivial, ?_⟩; gi_at_call 103; refine (CallsIn.inRound l (callsIn_wide.2 (HC.out _ (by first | exact Keep.refl _ _ | exact (Keep.refl _ _).drew | exact (Keep.refl _ _).drew.drew)))).mono ?_; rintro e w3 ⟨rfl, k3⟩; have k4 : Keep NoB W w3 := ⟨k3.os, k3.tape, k3.output, k3.size, k3.block⟩; have b3 : Blk w3 (w1.heap.size + 1) 9 #[.string S] := hB.out.1.keep k4 id; have c3 : w3.cell? ⟨w1.heap.size + 1, 0, none⟩ = some (.string S) := b3.cell 0; have f3 : w3.frozen? ⟨w1.heap.size + 1, 0, none⟩ = false := b3.frozen 0)
      all_goals
        have hf : Blk (w3.setCell ⟨w1.heap.size + 1, 0, none⟩ (.string (S ++ ((⟨#[32]⟩ : ByteArray) ++ D)))) (w1.heap.size + 1) 9 #[.string (S ++ ((⟨#[32]⟩ : ByteArray) ++ D))] := b3.put 0 _
        rw [← HS.out] at hf ⊢
        exact show_end hf hB.out.2 k4 hltb
    · simp only at h1 h2 hd
      subst h1 h2
      have HC := Lib.hid (fun (W' : World) (hk : Keep NoB W W') => (show_word k n b1 W' hd hn (HLw.out.keep (keepN hKW hk)) (hk.cell hb1 id)).mono (R' := fun e w' => e = .returned (.string D) ∧ Keep NoB W' w') (fun _ _ ⟨d, he, hd', hk'⟩ => ⟨by rw [he, hd'.out, hD], hk'⟩))
      have co : W.cell? ⟨Bo, 3, none⟩ = some (boxV 107 b1) := bo.cell 3
      clear hen hd hk0 bo hD hb1
      dsimp only [showAct]
      have hmix : Tryz.prog.follows .mixedOrders = true := by kernel_rfl
      have q1 : ¬ 9223372036854775807 < 1 + D.size := by omega
      have q2 : ¬ 9223372036854775807 < S.size + (1 + D.size) := by omega
      gi_wp2
      gi_region_with_o (refine ⟨trivial, ?_⟩; gi_at_call 107; refine (CallsIn.inRound l (callsIn_wide.2 (HC.out _ (by first | exact Keep.refl _ _ | exact (Keep.refl _ _).drew | exact (Keep.refl _ _).drew.drew)))).mono ?_; rintro e w3 ⟨rfl, k3⟩; have k4 : Keep NoB W w3 := ⟨k3.os, k3.tape, k3.output, k3.size, k3.block⟩; have b3 : Blk w3 (w1.heap.size + 1) 9 #[.string S] := hB.out.1.keep k4 id; have c3 : w3.cell? ⟨w1.heap.size + 1, 0, none⟩ = some (.string S) := b3.cell 0; have f3 : w3.frozen? ⟨w1.heap.size + 1, 0, none⟩ = false := b3.frozen 0)
      all_goals
        have hf : Blk (w3.setCell ⟨w1.heap.size + 1, 0, none⟩ (.string (S ++ ((⟨#[32]⟩ : ByteArray) ++ D)))) (w1.heap.size + 1) 9 #[.string (S ++ ((⟨#[32]⟩ : ByteArray) ++ D))] := b3.put 0 _
        rw [← HS.out] at hf ⊢
        exact show_end hf hB.out.2 k4 hltb
  case done =>
    rintro D xs W hD hS hi hK
    have ct := hi.1.cell 0
    simp only [List.getElem?_toArray, List.getElem?_cons_zero] at ct
    gi_wp2
    refine ⟨by simp, .inl ⟨_, _, rfl, run_takeDeferred hK, ?_⟩⟩
    refine ⟨_, results_tmp rfl _ _ _, _, rfl, ?_, Keep_putObj (hKw.trans hi.2 (fun k e hl => by subst e; omega)) (Nat.le_trans hKw.size hD)⟩
    show _ = _
    rw [HT.out]

end Go.Proofs.YtonpplpfipfnfaaGreatDoor.O

namespace Go.Proofs.YtonpplpfipfnfaaGreatDoor.V
open Go.RowKit

/-- A slice's address, from which the bytes l stand. -/
def Rd (w : World) (A : Option Addr) (l : List UInt8) : Prop :=
  0 < l.length → ∃ ad, A = some ad ∧ ∀ j u, (bvs l)[j]? = some u → w.cell? (ad.add j) = some u
theorem block_add (a : Addr) (n : Nat) : (a.add n).block = a.block := by unfold Addr.add; split <;> rfl
theorem add_add (a : Addr) (i j : Nat) : (a.add i).add j = a.add (i + j) := by
  unfold Addr.add
  by_cases hi : i = 0 <;> by_cases hj : j = 0 <;> simp [hi, hj, Nat.add_assoc]
theorem Rd.none_ (w : World) (A : Option Addr) : Rd w A [] := fun h => by simp at h
theorem Rd.keep {O : Nat → Prop} {w w' : World} {A : Option Addr} {l : List UInt8} (h : Rd w A l) (hk : Keep O w w') (hA : ∀ ad, A = some ad → 0 < l.length → ¬ O ad.block) : Rd w' A l := fun h0 => by
  obtain ⟨ad, e, hc⟩ := h h0
  exact ⟨ad, e, fun j u hu => hk.cell (hc j u hu) (by rw [block_add]; exact hA ad e h0)⟩
theorem Rd.lt {w : World} {A : Option Addr} {l : List UInt8} (h : Rd w A l) {ad : Addr} (e : A = some ad) (h0 : 0 < l.length) : ad.block < w.heap.size := by
  obtain ⟨ad', e', hc⟩ := h h0
  rw [e] at e'; cases e'
  have := World.block_lt_of_cell? w _ (hc 0 (bv l[0]) (by simp [h0]))
  rwa [block_add] at this

/-- The slice v of bytes l is the call's own, in a block of O. -/
def OwnB (w : World) (O : Nat → Prop) (v : Value) (l : List UInt8) : Prop :=
  w.ownsRow 0 5 1 v l.length (bvs l) ∧ ∀ g, v.ownBlock = some g → O g
section
variable {w w' : World} {O O' : Nat → Prop} {v : Value} {l : List UInt8}
theorem OwnB.nil (w : World) (O : Nat → Prop) : OwnB w O (.slice none 0 0) [] := ⟨World.ownsRow_nil _ _ _ _, by simp [Value.ownBlock]⟩
theorem OwnB.mono (h : OwnB w O v l) (hO : ∀ k, O k → k < w.heap.size → O' k) : OwnB w O' v l := ⟨h.1, fun g e => hO g (h.2 g e) (h.1.lt g e).2⟩
theorem ownsRow_keep {base n : Nat} {xs : List Value} (h : w.ownsRow base 5 1 v n xs) (hk : Keep O w w') (hn : ∀ g, v.ownBlock = some g → ¬ O g) : w'.ownsRow base 5 1 v n xs := by
  refine ⟨h.1, ?_⟩
  rcases h.2 with h2 | ⟨g, cap, cur, rfl, hb, hh, r⟩
  · exact .inl h2
  · exact .inr ⟨g, cap, cur, rfl, hb, (hk.block g (Array.getElem?_eq_some_iff.1 hh).1 (hn g rfl)).trans hh, r⟩
theorem OwnB.keep (h : OwnB w O v l) (hk : Keep O' w w') (hn : ∀ k, O k → ¬ O' k) : OwnB w' O v l := ⟨ownsRow_keep h.1 hk (fun g e => hn g (h.2 g e)), h.2⟩
theorem OwnB.form (h : OwnB w O v l) : ∃ A c, v = .slice A l.length c ∧ l.length ≤ c ∧ Rd w A l ∧ (∀ ad, A = some ad → O ad.block ∧ ad = ⟨ad.block, 0, none⟩) ∧ c ≤ maxLen := by
  rcases h.1.2 with ⟨rfl, hn⟩ | ⟨g, cap, cur, rfl, _, hh, hc, hm, _⟩
  · have : l = [] := List.length_eq_zero_iff.1 hn
    subst this
    exact ⟨none, 0, rfl, Nat.le_refl _, Rd.none_ _ _, by simp, by simp⟩
  · refine ⟨_, cap, rfl, hc, fun _ => ⟨_, rfl, h.1.cells (g := g) rfl⟩, ?_, hm⟩
    intro ad e
    cases e
    exact ⟨h.2 g rfl, rfl⟩
theorem OwnB.not_blk {g : Nat} {t : TypeId} {cs : Array Value} (h : OwnB w O v l) (hb : Blk w g t cs) (ht : t ≠ 5) : v.ownBlock ≠ some g := by
  rcases h.1.2 with ⟨rfl, _⟩ | ⟨g', cap, cur, rfl, _, hh, _⟩
  · simp [Value.ownBlock]
  · intro e
    obtain rfl : g' = g := by simpa [Value.ownBlock] using e
    exact Blk.ne hb (t' := 5) hh ht rfl
end

theorem bvs_one (l : List UInt8) : ∀ u ∈ bvs l, u.oneCell' = true := by
  intro u hu
  obtain ⟨b, _, rfl⟩ := List.mem_map.1 hu
  rfl

/-- append of bytes that are read onto bytes that are owned. -/
theorem run_append_rd (w : World) (v : Value) (xs l : List UInt8) (A : Option Addr) (c : Nat) (ty : TypeId)
    (hown : w.ownsRow 0 5 1 v xs.length (bvs xs)) (hr : Rd w A l) (hb : xs.length + l.length ≤ 140737488355328) :
    ∃ v' w', (Builtin.append_ #[23, 23] ty #[v, .slice A l.length c]).run Tryz.prog w = .ok v' w' ∧ w'.ownsRow 0 5 1 v' (xs ++ l).length (bvs (xs ++ l)) ∧ w.grownBy w' v.ownBlock ∧
      (v'.ownBlock = v.ownBlock ∨ v'.ownBlock = some w.heap.size) ∧ (v = .slice none 0 0 → 0 < l.length → v'.ownBlock = some w.heap.size) := by
  obtain ⟨i0, hi, hz0, hz1, hz2⟩ := info_parts u8_info
  rcases A with _ | ad
  · have hl : l = [] := by
      rcases Nat.eq_zero_or_pos l.length with h0 | h0
      · exact List.length_eq_zero_iff.1 h0
      · obtain ⟨ad, e, _⟩ := hr h0; cases e
    subst hl
    refine ⟨v, w, ?_, by simpa using hown, World.grownBy.refl w _, .inl rfl, fun _ h => by simp at h⟩
    rcases hown.2 with ⟨rfl, h0⟩ | ⟨g, cap, cur, rfl, _, _, hnc, _⟩
    · simp [Builtin.append_, run_underlying Tryz.underlying23, sizeOf, typeInfo, hi, Builtin.lenOf, Builtin.firstCells]
    · simp [Builtin.append_, run_underlying Tryz.underlying23, sizeOf, typeInfo, hi, Builtin.lenOf, Builtin.firstCells, hnc, storeCells]
  · have hcells : ∀ j u, (bvs l)[j]? = some u → w.cell? (ad.add j) = some u := by
      intro j u hu
      rcases Nat.eq_zero_or_pos l.length with h0 | h0
      · have : l = [] := List.length_eq_zero_iff.1 h0
        subst this; simp at hu
      · obtain ⟨ad', e, hc⟩ := hr h0
        cases e; exact hc j u hu
    obtain ⟨v', w', hrun, h2, h3, h4, h5⟩ := run_append_own_at (P := Tryz.prog) w 0 23 ty 5 i0 (.int .u8 0) 1 1 Tryz.underlying23 hi hz0 hz1 hz2 rfl (by decide) v xs.length (bvs xs) hown ad l.length c (bvs l) (by simp) hcells (bvs_one l) (by unfold maxLen; omega) (by omega) (Nat.zero_le _)
    refine ⟨v', w', hrun, by simpa using h2, h3, h5, fun e h0 => ?_⟩
    subst e
    rcases h5 with h5 | h5
    · exfalso
      have : v' ≠ .slice none 0 0 := fun e => by have := (h4.1 e).2; omega
      rcases h2.2 with ⟨e, _⟩ | ⟨g, cap, cur, e, _⟩
      · exact this e
      · rw [e] at h5; simp [Value.ownBlock] at h5
    · exact h5

theorem wp_append_rd {o : Oper} {a : Act} {K : Act → World → Prop} {Q : Exit → Act → World → Prop} (w : World) (s x : Operand)
    (ho : o.op = .call { callee := .builtin .append, args := #[s, x], argTypes := #[23, 23] })
    (v : Value) (xs l : List UInt8) (A : Option Addr) (c : Nat) (hs : a.eval s = v) (hown : w.ownsRow 0 5 1 v xs.length (bvs xs)) (hx : a.eval x = .slice A l.length c) (hr : Rd w A l)
    (hb : xs.length + l.length ≤ 140737488355328)
    (h : ∀ v' w', w'.ownsRow 0 5 1 v' (xs ++ l).length (bvs (xs ++ l)) → w.grownBy w' v.ownBlock → (v'.ownBlock = v.ownBlock ∨ v'.ownBlock = some w.heap.size) → K (a.put o.dst v') w') : o.wp Tryz.prog a w K Q := by
  obtain ⟨v', w', hrun, h2, h3, h4, _⟩ := run_append_rd w v xs l A c o.type hown hr hb
  unfold Oper.wp execOp
  simp only [ho, resolve, invoke, builtin, Sem.run_bind, Sem.run_pure, Result.andThen_ok, List.map_toArray, List.map_cons, List.map_nil, hs, hx, hrun]
  exact h v' w' h2 h3 h4

theorem wpList_append_rd {ops : Array Oper} {rest : List Oper} {o : Oper} {a : Act} {Q : Exit → Act → World → Prop} (w : World) (hgd : o.guard = none) (s x : Operand)
    (ho : o.op = .call { callee := .builtin .append, args := #[s, x], argTypes := #[23, 23] })
    (v : Value) (xs l : List UInt8) (A : Option Addr) (c : Nat) (hs : a.eval s = v) (hown : w.ownsRow 0 5 1 v xs.length (bvs xs)) (hx : a.eval x = .slice A l.length c) (hr : Rd w A l)
    (hb : xs.length + l.length ≤ 140737488355328)
    (h : ∀ v' w', w'.ownsRow 0 5 1 v' (xs ++ l).length (bvs (xs ++ l)) → w.grownBy w' v.ownBlock → (v'.ownBlock = v.ownBlock ∨ v'.ownBlock = some w.heap.size) → wpList Tryz.prog ops Q rest (a.put o.dst v') w') :
    wpList Tryz.prog ops Q (o :: rest) a w :=
  wpList_plain hgd fun _ hK => wp_append_rd w s x ho v xs l A c hs hown hx hr hb fun v' w' h2 h3 h4 => hK _ _ (h v' w' h2 h3 h4)

theorem own_form {w : World} {base n : Nat} {v : Value} {xs : List Value} (h : w.ownsRow base 5 1 v n xs) : ∃ A c, v = .slice A n c := by
  rcases h.2 with ⟨rfl, rfl⟩ | ⟨g, cap, cur, rfl, _⟩
  · exact ⟨_, _, rfl⟩
  · exact ⟨_, _, rfl⟩

/-- The same as one step of a region that draws its order; the new slice is written out. -/
theorem step_append_rd {ops : Array Oper} {o : Oper} {a : Act} {K : Act → World → Prop} {Q : Exit → Act → World → Prop} {E : Prop} (w : World) (hgd : o.guard = none) (s x : Operand)
    (ho : o.op = .call { callee := .builtin .append, args := #[s, x], argTypes := #[23, 23] })
    (v : Value) (xs l : List UInt8) (A : Option Addr) (c : Nat) (hs : a.eval s = v) (hown : w.ownsRow 0 5 1 v xs.length (bvs xs)) (hx : a.eval x = .slice A l.length c) (hr : Rd w A l)
    (hb : xs.length + l.length ≤ 140737488355328)
    (h : ∀ A' c' w', w'.ownsRow 0 5 1 (.slice A' (xs ++ l).length c') (xs ++ l).length (bvs (xs ++ l)) → w.grownBy w' v.ownBlock → ((Value.slice A' (xs ++ l).length c').ownBlock = v.ownBlock ∨ (Value.slice A' (xs ++ l).length c').ownBlock = some w.heap.size) → K (a.put o.dst (.slice A' (xs ++ l).length c')) w') :
    if Region.wanted o (yielded ops a.tmps) = true then Oper.wp Tryz.prog o a w K Q else E := by
  have hw : Region.wanted o (yielded ops a.tmps) = true := by simp [Region.wanted, hgd]
  rw [if_pos hw]
  refine wp_append_rd w s x ho v xs l A c hs hown hx hr hb fun v' w' h2 h3 h4 => ?_
  obtain ⟨A', c', rfl⟩ := own_form h2
  exact h A' c' w' h2 h3 h4

end Go.Proofs.YtonpplpfipfnfaaGreatDoor.V

namespace Go.Proofs.YtonpplpfipfnfaaGreatDoor.V
open Go.RowKit


set_option maxHeartbeats 400000 in
theorem clone_any (w : World) (A : Option Addr) (l : List UInt8) (c : Nat) (hr : Rd w A l) (hb : l.length ≤ 140737488355328) :
    Calls Tryz.prog 34 #[.slice A l.length c] w fun e w' => ∃ v, e = .returned v ∧ OwnB w' (Fresh w) v l ∧ Keep NoB w w' := by
  have qT : ∀ (w : World) (a : Option Addr) (n c n' c' : Nat), (binOp .eql 23 (.slice a n c) (.slice none n' c')).run Tryz.prog w = .ok (.bool a.isNone) w := fun w a n c n' c' => Lib.run_eql_slice_nil w _ _ a n c n' c' Tryz.underlying23
  rcases A with _ | ad
  · have hl : l = [] := by
      rcases Nat.eq_zero_or_pos l.length with h0 | h0
      · exact List.length_eq_zero_iff.1 h0
      · obtain ⟨ad, e, _⟩ := hr h0; cases e
    subst hl
    go_enter Tryz.func34, Tryz.ntmps34
    go_wp2
    go_ret
    exact ⟨_, rfl, OwnB.nil _ _, Keep.refl _ _⟩
  · have hm := World.ownsRow_made (e := 5) (size := 1) (base := 0) w #[] 0 (Nat.zero_le _) (Nat.zero_le _) rfl
    have hr' : Rd (w.alloc (.cells #[] 5)) (some ad) l := hr.keep ((Keep.refl NoB w).alloc _) (fun _ _ _ => id)
    go_enter Tryz.func34, Tryz.ntmps34
    go_wp2_with (at_builtin; refine wpList_append_rd _ rfl _ _ rfl (.slice (some ⟨w.heap.size, 0, none⟩) 0 0) [] l (some ad) c rfl hm rfl hr' (by simpa using hb) ?_; intro v' w1 hown' hg hat)
    go_ret
    refine ⟨v', rfl, ⟨by simpa using hown', fun g e => ?_⟩, ?_⟩
    · rcases hat with h | h <;> rw [h] at e <;> simp [Value.ownBlock] at e <;> subst e <;> simp [Fresh]
    · exact ((Keep.refl NoB w).alloc _).grown hg (fun g e hlt => by simp [Value.ownBlock] at e; omega)

set_option maxHeartbeats 400000 in
theorem twin_any (w : World) (A : Option Addr) (l : List UInt8) (c : Nat) (hr : Rd w A l) (hb : l.length ≤ 140737488355328) :
    Calls Tryz.prog 9 #[.slice A l.length c] w fun e w' => ∃ v, e = .returned v ∧ OwnB w' (Fresh w) v l ∧ Keep NoB w w' := by
  go_enter Tryz.func9, Tryz.ntmps9
  go_wp2_with (at_builtin; refine wpList_append_rd _ rfl _ _ rfl (.slice none 0 0) [] l A c rfl (World.ownsRow_nil _ _ _ _) rfl hr (by simpa using hb) ?_; intro v' w1 hown' hg hat)
  go_ret
  refine ⟨v', rfl, ⟨by simpa using hown', fun g e => ?_⟩, ?_⟩
  · rcases hat with h | h <;> rw [h] at e <;> simp [Value.ownBlock] at e
    subst e; simp [Fresh]
  · exact (Keep.refl NoB w).grown hg (fun g e hlt => by simp [Value.ownBlock] at e)

/-- A Tape at block bt that holds l; all its blocks are of O. -/
def TapeAt (w : World) (bt : Nat) (O : Nat → Prop) (l : List UInt8) : Prop :=
  O bt ∧ ((Blk w bt 67 #[.pointer none, .int .i64 0] ∧ l = []) ∨
    ∃ bs v, O bs ∧ Blk w bt 67 #[.pointer (some ⟨bs, 0, none⟩), .int .i64 l.length] ∧ Blk w bs 102 #[v] ∧ OwnB w O v l)

theorem TapeAt.keep {w w' : World} {bt : Nat} {O O' : Nat → Prop} {l : List UInt8} (h : TapeAt w bt O l) (hk : Keep O' w w') (hn : ∀ k, O k → ¬ O' k) : TapeAt w' bt O l := by
  refine ⟨h.1, ?_⟩
  rcases h.2 with ⟨hb, rfl⟩ | ⟨bs, v, ho, hb, hs, hv⟩
  · exact .inl ⟨hb.keep hk (hn _ h.1), rfl⟩
  · exact .inr ⟨bs, v, ho, hb.keep hk (hn _ h.1), hs.keep hk (hn _ ho), hv.keep hk hn⟩
theorem TapeAt.mono {w : World} {bt : Nat} {O O' : Nat → Prop} {l : List UInt8} (h : TapeAt w bt O l) (hO : ∀ k, O k → k < w.heap.size → O' k) : TapeAt w bt O' l := by
  rcases h.2 with ⟨hb, rfl⟩ | ⟨bs, v, ho, hb, hs, hv⟩
  · exact ⟨hO _ h.1 hb.lt, .inl ⟨hb, rfl⟩⟩
  · exact ⟨hO _ h.1 hb.lt, .inr ⟨bs, v, hO _ ho hs.lt, hb, hs, hv.mono hO⟩⟩

theorem OwnB.le {w : World} {O : Nat → Prop} {v : Value} {l : List UInt8} (h : OwnB w O v l) : l.length ≤ maxLen := by
  obtain ⟨A, c, _, h1, _, _, h2⟩ := h.form
  omega

set_option maxRecDepth 100000 in
set_option maxHeartbeats 1000000 in
theorem all_any (w : World) (bt : Nat) (O : Nat → Prop) (l : List UInt8) (h : TapeAt w bt O l) (hb : l.length ≤ 140737488355328) :
    Calls Tryz.prog 31 #[.pointer (some ⟨bt, 0, none⟩)] w fun e w' => ∃ v, e = .returned v ∧ OwnB w' (Fresh w) v l ∧ Keep NoB w w' := by
  rcases h.2 with ⟨hbt, rfl⟩ | ⟨bs, v, _, hbt, hbs, hv⟩
  · have c0 := hbt.cell 0
    have c1 := hbt.cell 1
    simp at c0 c1
    go_enter Tryz.func31, Tryz.ntmps31
    go_wp2
    go_ret
    exact ⟨_, rfl, OwnB.nil _ _, Keep.refl _ _⟩
  · obtain ⟨A, c, rfl, hc, hr, hA, hm⟩ := hv.form
    have c0 := hbt.cell 0
    have c1 := hbt.cell 1
    have c2 := hbs.cell 0
    simp at c0 c1 c2
    unfold maxLen at hm
    go_enter Tryz.func31, Tryz.ntmps31
    go_wp2
    go_still_tail 12, (by kernel_rfl)
    change wpList _ _ _ _ _ w.drew
    go_wp2_with (go_at_call 34; refine (clone_any w.drew A l c hr hb).mono ?_; rintro e w' ⟨v', rfl, hown', hk'⟩)
    go_ret
    exact ⟨v', rfl, hown', ⟨hk'.os, hk'.tape, hk'.output, hk'.size, hk'.block⟩⟩

/-- The blocks that a Tape has when it has been written on: its own, and new ones. -/
def More (O : Nat → Prop) (w w' : World) : Nat → Prop := fun k => O k ∨ (w.heap.size ≤ k ∧ k < w'.heap.size)

/-- What write leaves: the longer row in the strip, its length in the Tape. -/
theorem write_done {w wq w1 : World} {bt bs m c1 : Nat} {O : Nat → Prop} {v : Value} {A1 : Option Addr} {xs : List UInt8}
    (hk : Keep O w wq) (hbs : Blk wq bs 102 #[v]) (hbt : Blk wq bt 67 #[.pointer (some ⟨bs, 0, none⟩), .int .i64 m])
    (nb1 : v.ownBlock ≠ some bs) (nb2 : v.ownBlock ≠ some bt) (hO1 : O bs ∨ w.heap.size ≤ bs) (hO2 : O bt) (hO3 : ∀ g, v.ownBlock = some g → O g ∨ w.heap.size ≤ g)
    (hown : w1.ownsRow 0 5 1 (.slice A1 xs.length c1) xs.length (bvs xs)) (hgrow : wq.grownBy w1 v.ownBlock)
    (hat : (Value.slice A1 xs.length c1).ownBlock = v.ownBlock ∨ (Value.slice A1 xs.length c1).ownBlock = some wq.heap.size) :
    TapeAt ((w1.setCell ⟨bs, 0, none⟩ (.slice A1 xs.length c1)).setCell ⟨bt, 1, none⟩ (.int .i64 xs.length)) bt
      (More O w ((w1.setCell ⟨bs, 0, none⟩ (.slice A1 xs.length c1)).setCell ⟨bt, 1, none⟩ (.int .i64 xs.length))) xs ∧
    Keep O w ((w1.setCell ⟨bs, 0, none⟩ (.slice A1 xs.length c1)).setCell ⟨bt, 1, none⟩ (.int .i64 xs.length)) := by
  have hs1 := hbs.grown hgrow (Ne.symm nb1)
  have ht1 := hbt.grown hgrow (Ne.symm nb2)
  have hne : bs ≠ bt := Blk.ne hbs hbt (by decide)
  have hs2 := (hs1.put 0 (.slice A1 xs.length c1)).far (p := ⟨bt, 1, none⟩) hne (.int .i64 xs.length)
  have ht2 := (ht1.far (p := ⟨bs, 0, none⟩) (Ne.symm hne) (.slice A1 xs.length c1)).put 1 (.int .i64 xs.length)
  have hk1 : Keep O w w1 := hk.grown hgrow (fun g e hlt => (hO3 g e).resolve_right (by omega))
  have hk2 := (hk1.setCell (p := ⟨bs, 0, none⟩) (fun hlt => hO1.resolve_right (by simp at hlt ⊢; omega)) (.slice A1 xs.length c1)).setCell (p := ⟨bt, 1, none⟩) (fun _ => hO2) (.int .i64 xs.length)
  have hsz : ((w1.setCell ⟨bs, 0, none⟩ (.slice A1 xs.length c1)).setCell ⟨bt, 1, none⟩ (.int .i64 xs.length)).heap.size = w1.heap.size := by simp [World.setCell]
  have hrow : (Value.slice A1 xs.length c1).ownBlock ≠ some bs ∧ (Value.slice A1 xs.length c1).ownBlock ≠ some bt := by
    rcases hat with e | e
    · rw [e]; exact ⟨nb1, nb2⟩
    · rw [e]
      have h1 := hbs.lt
      have h2 := hbt.lt
      exact ⟨fun e => by injection e; omega, fun e => by injection e; omega⟩
  refine ⟨⟨.inl hO2, .inr ⟨bs, _, ?_, ht2, hs2, ?_, ?_⟩⟩, hk2⟩
  · rcases hO1 with h | h
    · exact .inl h
    · refine .inr ⟨h, ?_⟩
      rw [hsz]; exact hs1.lt
  · refine hown.kept (w' := w1.setCell ⟨bs, 0, none⟩ (.slice A1 xs.length c1)) (row := some bs) ⟨rfl, rfl, rfl, by simp [World.setCell], fun k _ hn => Below.heap_setCell _ _ _ _ (fun e => hn (by rw [e]))⟩ (.inr hrow.1) |>.kept (row := some bt) ⟨rfl, rfl, rfl, by simp [World.setCell], fun k _ hn => Below.heap_setCell _ _ _ _ (fun e => hn (by rw [e]))⟩ (.inr hrow.2)
  · intro g e
    have hlt := (hown.lt g e).2
    rcases hat with e' | e'
    · rw [e'] at e
      rcases hO3 g e with h | h
      · exact .inl h
      · exact .inr ⟨h, by rw [hsz]; exact hlt⟩
    · rw [e'] at e
      injection e with e
      refine .inr ⟨?_, by rw [hsz]; exact hlt⟩
      rw [← e]; exact hk.size

theorem write_end {w wq w1 : World} {bt bs m c1 n : Nat} {N : Int} {O : Nat → Prop} {v : Value} {A1 : Option Addr} {xs : List UInt8}
    (hk : Keep O w wq) (hbs : Blk wq bs 102 #[v]) (hbt : Blk wq bt 67 #[.pointer (some ⟨bs, 0, none⟩), .int .i64 m])
    (nb1 : v.ownBlock ≠ some bs) (nb2 : v.ownBlock ≠ some bt) (hO1 : O bs ∨ w.heap.size ≤ bs) (hO2 : O bt) (hO3 : ∀ g, v.ownBlock = some g → O g ∨ w.heap.size ≤ g)
    (hown : w1.ownsRow 0 5 1 (.slice A1 xs.length c1) xs.length (bvs xs)) (hgrow : wq.grownBy w1 v.ownBlock)
    (hat : (Value.slice A1 xs.length c1).ownBlock = v.ownBlock ∨ (Value.slice A1 xs.length c1).ownBlock = some wq.heap.size) (hn : n = xs.length) (hN : N = xs.length) :
    TapeAt ((w1.setCell ⟨bs, 0, none⟩ (.slice A1 n c1)).setCell ⟨bt, 1, none⟩ (.int .i64 N)) bt
      (More O w ((w1.setCell ⟨bs, 0, none⟩ (.slice A1 n c1)).setCell ⟨bt, 1, none⟩ (.int .i64 N))) xs ∧
    Keep O w ((w1.setCell ⟨bs, 0, none⟩ (.slice A1 n c1)).setCell ⟨bt, 1, none⟩ (.int .i64 N)) := by
  subst hn hN
  exact write_done hk hbs hbt nb1 nb2 hO1 hO2 hO3 hown hgrow hat

set_option maxRecDepth 100000 in
set_option maxHeartbeats 2000000 in
theorem write_any (w : World) (bt : Nat) (O : Nat → Prop) (l b : List UInt8) (A : Option Addr) (c : Nat) (h : TapeAt w bt O l) (hr : Rd w A b) (hA : ∀ ad, A = some ad → ¬ O ad.block)
    (hb : l.length + b.length ≤ 140737488355328) :
    Calls Tryz.prog 51 #[.pointer (some ⟨bt, 0, none⟩), .slice A b.length c] w fun e w' => e = .returned (.pointer (some ⟨bt, 0, none⟩)) ∧ TapeAt w' bt (More O w w') (l ++ b) ∧ Keep O w w' := by
  rcases h.2 with ⟨hbt, rfl⟩ | ⟨bs, v, hO, hbt, hbs, hv⟩
  · have c0' := hbt.cell 0
    have c1' := hbt.cell 1
    have f0' := hbt.frozen 0
    simp at c0' c1'
    go_enter Tryz.func51, Tryz.ntmps51
    go_wp2
    go_quiet (fail)
    obtain ⟨wq, hwq⟩ : ∃ wq, w.drewN nq = wq := ⟨_, rfl⟩
    rw [hwq]
    have hkq : Keep NoB w wq := hwq ▸ (Keep.refl NoB w).drewN nq
    have htq : TapeAt wq bt O [] := h.keep hkq (fun _ _ => id)
    clear hwq
    have hbq : Blk wq bt 67 #[.pointer none, .int .i64 0] := hbt.keep hkq id
    have hrq : Rd wq A b := hr.keep hkq (fun _ _ _ => id)
    have hkq' : Keep O w wq := hkq.mono (fun _ hf _ => hf.elim)
    clear hkq
    go_wp2_with (go_at_call 31; refine (all_any wq bt O [] htq (by simp)).mono ?_; rintro e w1 ⟨v, rfl, hv1, hk1⟩; obtain ⟨A0, c0, rfl, hA0⟩ := hv1.form; have hb1 : Blk w1 bt 67 #[.pointer none, .int .i64 0] := hbq.keep hk1 id; have ht1 := hb1.cell 0; have ht2 := hb1.frozen 0; have hlt := hb1.lt; simp at ht1)
    have e3 : (w1.setCell ⟨bt, 0, none⟩ (.pointer (some ⟨w1.heap.size, 0, none⟩))).heap.size = w1.heap.size := by simp [World.setCell]
    have hs3 := Blk.new (w1.setCell ⟨bt, 0, none⟩ (.pointer (some ⟨w1.heap.size, 0, none⟩))) 102 #[.slice A0 0 c0]
    rw [e3] at hs3
    have hb3 := (hb1.put 0 (.pointer (some ⟨w1.heap.size, 0, none⟩))).alloc (.cells #[.slice A0 0 c0] 102)
    have hrow3 := World.ownsRow.alloc (ownsRow_keep (O := fun k => k = bt) hv1.1 ((Keep.refl (fun k => k = bt) _).setCell (p := ⟨bt, 0, none⟩) (fun _ => rfl) (.pointer (some ⟨w1.heap.size, 0, none⟩))) (fun g e hg => hv1.not_blk hb1 (by decide) (hg ▸ e))) (.cells #[.slice A0 0 c0] 102)
    have hk3 : Keep O w ((w1.setCell ⟨bt, 0, none⟩ (.pointer (some ⟨w1.heap.size, 0, none⟩))).alloc (.cells #[.slice A0 0 c0] 102)) :=
      ((hkq'.trans hk1 (fun _ hf _ => hf.elim)).setCell (p := ⟨bt, 0, none⟩) (fun _ => h.1) _).alloc _
    have hr3 : Rd ((w1.setCell ⟨bt, 0, none⟩ (.pointer (some ⟨w1.heap.size, 0, none⟩))).alloc (.cells #[.slice A0 0 c0] 102)) A b := hr.keep hk3 (fun ad e _ => hA ad e)
    have hsz : w.heap.size ≤ w1.heap.size := Nat.le_trans hkq'.size hk1.size
    have hO3 : ∀ g, (Value.slice A0 0 c0).ownBlock = some g → O g ∨ w.heap.size ≤ g := fun g e => .inr (Nat.le_trans hkq'.size (hv1.2 g e))
    have nb2 := hv1.not_blk hb1 (by decide)
    have nb1 : (Value.slice A0 0 c0).ownBlock ≠ some w1.heap.size := fun e => by have := (hv1.1.lt _ e).2; omega
    obtain ⟨bs, hbs⟩ : ∃ bs, w1.heap.size = bs := ⟨_, rfl⟩
    obtain ⟨W, hW⟩ : ∃ W, ((w1.setCell ⟨bt, 0, none⟩ (.pointer (some ⟨w1.heap.size, 0, none⟩))).alloc (.cells #[.slice A0 0 c0] 102)) = W := ⟨_, rfl⟩
    rw [hbs] at hW hs3 hb3 hrow3 hk3 hr3 hsz nb1 ⊢
    rw [hW] at hs3 hb3 hrow3 hk3 hr3 ⊢
    clear hW hbs e3 ht1 ht2 hlt hb1 hk1 hv1 hA0 hkq' hbq hrq htq
    have cs3 := hs3.cell 0
    have fs3 := hs3.frozen 0
    have ct3 := hb3.cell 0
    simp at cs3 ct3
    have hbb : (⟨bs, 0, none⟩ : Addr) ≠ ⟨bt, 0, none⟩ := fun e => by
      have : bs = bt := by injection e
      exact Blk.ne hs3 hb3 (by decide) this
    go_region_law ((refine step_append_rd _ (by rfl) _ _ (by rfl) (.slice A0 0 c0) [] b A c (by rfl) (by exact hrow3) (by rfl) (by exact hr3) hb ?_; intro A1 c1 w1 hown1 hgrow hat; have hs1 := Blk.grown (w' := w1) (by exact hs3) hgrow (Ne.symm nb1); have ht1 := Blk.grown (w' := w1) (by exact hb3) hgrow (Ne.symm nb2); have cs1 := hs1.cell 0; have fs1 := hs1.frozen 0; have ct1 := ht1.cell 0; have ct2 := ht1.cell 1; have ft1 := ht1.frozen 1; simp at cs1 ct1 ct2))
    all_goals go_wp2
    all_goals go_ret
    all_goals exact ⟨rfl, write_end (m := 0) (v := .slice A0 0 c0) (xs := [] ++ b) hk3.drew (by exact hs3) (by exact hb3) nb1 nb2 (.inr hsz) h.1 hO3 hown1 hgrow hat (by simp) (by simp)⟩
  · obtain ⟨A0, c0, rfl, hc, hr0, hA0, hm⟩ := hv.form
    have c0' := hbt.cell 0
    have c1' := hbt.cell 1
    have c2' := hbs.cell 0
    simp at c0' c1' c2'
    unfold maxLen at hm
    have hne : ((l.length : Int) != (l.length : Int)) = false := by simp
    go_enter Tryz.func51, Tryz.ntmps51
    go_wp2
    go_quiet (fail)
    go_wp2
    have hrow := hv.1
    have nb1 := hv.not_blk hbs (by decide)
    have nb2 := hv.not_blk hbt (by decide)
    have hbb : (⟨bs, 0, none⟩ : Addr) ≠ ⟨bt, 0, none⟩ := fun e => by
      have : bs = bt := by injection e
      exact Blk.ne hbs hbt (by decide) this
    go_region_law ((refine step_append_rd _ (by rfl) _ _ (by rfl) (.slice A0 l.length c0) l b A c (by rfl) (by exact hrow) (by rfl) (by exact hr) hb ?_; intro A1 c1 w1 hown1 hgrow hat; have hs1 := Blk.grown (w' := w1) (by exact hbs) hgrow (Ne.symm nb1); have ht1 := Blk.grown (w' := w1) (by exact hbt) hgrow (Ne.symm nb2); have cs1 := hs1.cell 0; have fs1 := hs1.frozen 0; have ct1 := ht1.cell 0; have ct2 := ht1.cell 1; have ft1 := ht1.frozen 1; simp at cs1 ct1 ct2))
    all_goals go_wp2
    all_goals go_ret
    all_goals exact ⟨rfl, write_end (m := l.length) (v := .slice A0 l.length c0) (xs := l ++ b) ((Keep.refl O w).drewN _) (by exact hbs) (by exact hbt) nb1 nb2 (.inl hO) h.1 (fun g e => .inl (hv.2 g e)) hown1 hgrow hat (by simp) (by simp)⟩

end Go.Proofs.YtonpplpfipfnfaaGreatDoor.V

namespace Go.Proofs.YtonpplpfipfnfaaGreatDoor.V
open Go.RowKit

theorem encL_len (n : Nat) : (encL n).length ≤ 9 := by
  unfold encL; have := encF_len n (down 9); simpa [down] using this

theorem More.trans {O : Nat → Prop} {w w1 w2 : World} (h : w.heap.size ≤ w1.heap.size) : ∀ k, More O w1 w2 k → k < w2.heap.size → More O w w2 k := by
  rintro k (h1 | ⟨h1, h2⟩) _
  · exact .inl h1
  · exact .inr ⟨by omega, h2⟩

theorem encode_own (n : Nat) (w : World) :
    Calls Tryz.prog 52 #[.int .u64 n] w fun e w' => ∃ v, e = .returned v ∧ OwnB w' (Fresh w) v (encL n) ∧ Keep NoB w w' := by
  refine (encode_any n w).mono ?_
  rintro e w' ⟨v, he, hrow, hb⟩
  refine ⟨v, he, ⟨⟨hrow.1, ?_⟩, fun g hg => (hrow.lt g hg).1⟩, Keep.of_below hb⟩
  rcases hrow.2 with h | ⟨g, cap, cur, h1, _, h2⟩
  · exact .inl h
  · exact .inr ⟨g, cap, cur, h1, Nat.zero_le _, h2⟩

/-- What a Tape's writing method leaves: the Tape itself, with so much more; nothing else has turned. -/
def Wrote (w : World) (bt : Nat) (O : Nat → Prop) (xs : List UInt8) (e : Ending) (w' : World) : Prop :=
  e = .returned (.pointer (some ⟨bt, 0, none⟩)) ∧ TapeAt w' bt (More O w w') xs ∧ Keep O w w'

theorem wrote_from {w w1 w' : World} {bt : Nat} {O : Nat → Prop} {xs : List UInt8} (hk : Keep O w w1) (h : TapeAt w' bt (More O w1 w') xs ∧ Keep O w1 w') :
    TapeAt w' bt (More O w w') xs ∧ Keep O w w' :=
  ⟨h.1.mono (More.trans hk.size), hk.trans h.2 (fun _ ho _ => ho)⟩

set_option maxHeartbeats 400000 in
theorem tnumber_any (w : World) (bt : Nat) (O : Nat → Prop) (l : List UInt8) (n : Nat) (h : TapeAt w bt O l) (hO : ∀ k, O k → k < w.heap.size) (hb : l.length + 9 ≤ 140737488355328) :
    Calls Tryz.prog 30 #[.pointer (some ⟨bt, 0, none⟩), .int .u64 n] w (Wrote w bt O (l ++ encL n)) := by
  have hl := encL_len n
  go_enter Tryz.func30, Tryz.ntmps30
  go_wp2_with (first | (go_at_call 52; refine (encode_own n w).mono ?_; rintro e w1 ⟨v, rfl, hv1, hk1⟩; obtain ⟨A, c, rfl, _, hr1, hA1, _⟩ := hv1.form; have h1 : TapeAt w1 bt O l := h.keep hk1 (fun _ _ => id)) | (go_at_call 51; refine (write_any w1 bt O l (encL n) A c h1 hr1 (fun ad e ho => by have := hO _ ho; have := (hA1 ad e).1; unfold Fresh at this; omega) (by omega)).mono ?_; rintro e w2 ⟨rfl, h2⟩))
  go_ret
  exact ⟨rfl, wrote_from (hk1.mono (fun _ hf _ => hf.elim)) h2⟩

set_option maxHeartbeats 400000 in
theorem tsigned_any (w : World) (bt : Nat) (O : Nat → Prop) (l : List UInt8) (n : Int) (h1 : -9223372036854775808 ≤ n) (h2 : n ≤ 9223372036854775807) (h : TapeAt w bt O l) (hO : ∀ k, O k → k < w.heap.size) (hb : l.length + 9 ≤ 140737488355328) :
    Calls Tryz.prog 78 #[.pointer (some ⟨bt, 0, none⟩), .int .i64 n] w (Wrote w bt O (l ++ encL (zig n))) := by
  go_enter Tryz.func78, Tryz.ntmps78
  go_wp2_with (first | (go_at_call 99; refine (zig_any n _ h1 h2).mono ?_; rintro e w1 ⟨rfl, rfl⟩) | (go_at_call 30; refine (tnumber_any w bt O l (zig n) h hO hb).mono ?_; rintro e w2 ⟨rfl, h3⟩))
  go_ret
  exact ⟨rfl, h3⟩

/-- Bytes as a string. -/
abbrev str (l : List UInt8) : ByteArray := ⟨l.toArray⟩

theorem conv_rd {w : World} {A : Option Addr} {l : List UInt8} {c : Nat} (h : Rd w A l) :
    (convert 23 9 (.slice A l.length c)).run Tryz.prog w = .ok (.string (str l)) w := by
  rcases A with _ | ad
  · have hl : l = [] := by
      rcases Nat.eq_zero_or_pos l.length with h0 | h0
      · exact List.length_eq_zero_iff.1 h0
      · obtain ⟨ad, e, _⟩ := h h0; cases e
    subst hl
    exact run_convert_bytes_nil _ _ _ Tryz.underlying23 Tryz.underlying5 0 c _ Tryz.underlying9
  · refine run_convert_bytes_back w _ _ _ ad c l Tryz.underlying23 Tryz.underlying5 Tryz.underlying9 ?_
    intro j hj
    obtain ⟨ad', e, hc⟩ := h (by omega)
    cases e
    exact hc j _ (by simp [hj])

theorem TapeAt.new (w : World) : TapeAt (w.alloc (.cells #[.pointer none, .int .i64 0] 67)) w.heap.size (fun k => k = w.heap.size) [] :=
  ⟨rfl, .inl ⟨Blk.new _ _ _, rfl⟩⟩

end Go.Proofs.YtonpplpfipfnfaaGreatDoor.V
