/-
  AsmNames' walk: closed texts, the chapter's examples. Conditions: what is laid is laid.
-/
import Derived.BigQuiet
import Derived.ChangeSame
import Derived.Deep.AppendLies
import Derived.Deep.CutRange
import Derived.Deep.DeepFit
import Derived.Deep.Draws
import Derived.Deep.Fields
import Derived.Deep.OwnRows
import Derived.Deep.QuietTactic
import Derived.Deep.RegionHeld3
import Derived.Deep.RegionLaw
import Derived.Deep.RegionWith
import Derived.Deep.Slices
import Derived.Deep.Strs
import Derived.Deep.WholeRow
import Derived.HandedShaped
import Derived.IntWalk
import Derived.LaidLaws
import Derived.LaidMore
import Derived.Laws.Bits64
import Derived.Laws.BitsAllLaws
import Derived.Laws.CopyOwn
import Derived.Laws.EntriesVeiled
import Derived.Laws.OwnMore
import Derived.Laws.RangeAny
import Derived.Laws.RangeString
import Derived.Laws.ResultCell
import Derived.Laws.Rows
import Derived.Lib.AppendIntMem
import Derived.Lib.AppendZeros
import Derived.Lib.AtoiBound
import Derived.Lib.DecodeN
import Derived.Lib.Fields
import Derived.Lib.Hide
import Derived.Lib.IndexBytes
import Derived.Lib.IndexLaws
import Derived.Lib.IndexMore
import Derived.Lib.ItoaLen
import Derived.Lib.LaidTab
import Derived.Lib.OthersKept
import Derived.Lib.ParseIntBTie
import Derived.Lib.RuneBytes
import Derived.Lib.SlBytesConst
import Derived.Lib.SmallJoins
import Derived.Lib.Strings
import Derived.LoopIn
import Derived.LoopNIn
import Derived.Maps.AppendAt
import Derived.Maps.Keyed
import Derived.Maps.Own
import Derived.Maps.OwnIn
import Derived.Maps.OwnOps
import Derived.Maps.OwnSet
import Derived.Maps.Views
import Derived.OpenShut
import Derived.OwnWalk
import Derived.OwnWalkIn
import Derived.ProofKit
import Derived.RangeFuncBound
import Derived.RangeFuncBox
import Derived.RangeFuncCalls
import Derived.RangeFuncLeaves
import Derived.RangeFuncNested
import Derived.Scope
import Derived.Shelf.Abstract
import Derived.Shelf.GgClosure.StringsIndexFunc
import Derived.Shelf.RegionOpen
import Derived.Shelf.Small.Strs
import Derived.Shelf.Strings.FieldsFuncAny
import Derived.Shelf.Vars
import Derived.SizedLaws
import Derived.StillTail
import Derived.StillTailTactics
import Derived.Stop.LaidErr
import Derived.TacticsInMore
import Derived.WalkArith
import Derived.WalkKit
import Derived.WalkLawsBesides
import Derived.WalkSpells
import Derived.Test.YtifobiajjhknbaaGreatDoorQ1
import Derived.Test.YtifobiajjhknbaaGreatDoorQ2
import Derived.Test.YtifobiajjhknbaaGreatDoorQ3
import Derived.Test.YtifobiajjhknbaaGreatDoorQ4
import Derived.Test.YtifobiajjhknbaaGreatDoorQ5
import Derived.Test.YtifobiajjhknbaaGreatDoorQ6
import Derived.Test.YtifobiajjhknbaaGreatDoorQ7
import Derived.Test.YtifobiajjhknbaaGreatDoorQ8
import Derived.Test.YtifobiajjhknbaaGreatDoorQ9
import Derived.Test.YtifobiajjhknbaaGreatDoorQ10
import Derived.Test.YtifobiajjhknbaaGreatDoorQ11
import Derived.Test.YtifobiajjhknbaaGreatDoorQ12
import Derived.Test.YtifobiajjhknbaaGreatDoorQ13
import Derived.Test.YtifobiajjhknbaaGreatDoorQ14
import Derived.Test.YtifobiajjhknbaaGreatDoorQ15
import Derived.Test.YtifobiajjhknbaaGreatDoorQ16
namespace Go.Proofs.YtifobiajjhknbaaGreatDoor.M
open Go.RowKit W

set_option maxRecDepth 100000 in
set_option maxHeartbeats 2000000 in
theorem rtexts_any (A B : Option Addr) (la lb : List Bs) (n m c d : Nat) (w : World) (ha : Rd w A (sv la)) (hb : Rd w B (sv lb)) (hn : Hid (la.length = n)) (hm : Hid (lb.length = m))
    (h1 : n ≤ 9223372036854775807) (h2 : m ≤ 9223372036854775807) (R : Bool) (hR : Hid (R = decide (la = lb))) :
    Calls Tryz.prog 9 #[.slice A n c, .slice B m d] w fun e w' => e = .returned (.bool R) ∧ Keep NoB w w' := by
  by_cases hnm : n = m
  · subst hnm
    go_enter Tryz.func9, Tryz.ntmps9
    go_wp2
    go_loopw [5] (fun i wr => ∃ k : Nat, k ≤ n ∧ i = .int .i64 k ∧ Hid (la.take k = lb.take k) ∧ Keep NoB w wr) (fun i _ => n - (intOf i).toNat)
    case atStart => exact ⟨0, Nat.zero_le _, rfl, rfl, Keep.refl _ _⟩
    case round =>
      obtain ⟨k, hk, rfl, ht, hK⟩ := hrel
      by_cases hlt : k < n
      · have hka : k < la.length := by rw [hn.out]; exact hlt
        have hkb : k < lb.length := by rw [hm.out]; exact hlt
        obtain ⟨ga, oa, rfl, hca⟩ := sv_at ha (by omega)
        obtain ⟨gb, ob, rfl, hcb⟩ := sv_at hb (by omega)
        have ca := hK.cell (hca k hka) id
        have cb := hK.cell (hcb k hkb) id
        have HT := Lib.hid (show la.take (k + 1) = la.take k ++ [la[k]] from List.take_succ_eq_append_getElem hka)
        have HU := Lib.hid (show lb.take (k + 1) = lb.take k ++ [lb[k]] from List.take_succ_eq_append_getElem hkb)
        clear hca hcb
        by_cases he : la[k] = lb[k]
        · have HV : Hid (la.take (k + 1) = lb.take (k + 1)) := by show _ = _; rw [HT.out, HU.out, ht.out, he]
          rw [he] at ca
          clear he HT HU ha hb
          generalize str lb[k] = y at ca cb
          go_wp2
          go_quiet (fail)
          go_wp2
          go_roundw
          case rel => exact ⟨k + 1, by omega, by go_num, HV, hK.drewN _⟩
          case measure => simp [intOf]; omega
        · have hf : R = false := by
            rw [hR.out, decide_eq_false_iff_not]
            intro e
            exact he (by simp [e])
          subst hf
          have hne : ((str la[k]).toList == (str lb[k]).toList) = false := by rw [str_eq, decide_eq_false he]
          clear HT HU ha hb he
          generalize str la[k] = x at ca hne
          generalize str lb[k] = y at cb hne
          go_wp2
          go_quiet (fail)
          go_wp2
          go_ret
          exact ⟨rfl, hK.drewN _⟩
      · obtain rfl : k = n := by omega
        have hf : R = true := by
          rw [hR.out, decide_eq_true_iff]
          have := ht.out
          rwa [List.take_of_length_le (by rw [hn.out]; exact Nat.le_refl _), List.take_of_length_le (by rw [hm.out]; exact Nat.le_refl _)] at this
        subst hf
        go_wp2
        go_ret
        exact ⟨rfl, hK⟩
  · have hf : R = false := by
      rw [hR.out, decide_eq_false_iff_not]
      intro e
      exact hnm (by rw [← hn.out, ← hm.out, e])
    subst hf
    have hne : ((n : Int) != (m : Int)) = true := by rw [bne_iff_ne]; omega
    go_enter Tryz.func9, Tryz.ntmps9
    go_wp2
    go_ret
    exact ⟨rfl, Keep.refl _ _⟩

end Go.Proofs.YtifobiajjhknbaaGreatDoor.M

namespace Go.Proofs.YtifobiajjhknbaaGreatDoor.M
open Go.RowKit W

def textB : Bs := ([59, 32, 97, 32, 112, 114, 111, 103, 114, 97, 109, 10, 115, 104, 97, 112, 101, 32, 73, 82, 10, 10, 32, 32, 115, 104, 97, 112, 101, 32, 70, 32, 59, 32, 97, 110, 111, 116, 104, 101].append [114, 32, 111, 110, 101, 10, 102, 117, 110, 99, 32, 109, 97, 105, 110, 32, 62, 73, 10, 9, 108, 111, 99, 97, 108, 32, 80, 70, 10, 114, 101, 116, 58, 32, 105, 110, 116, 32, 45, 53, 10])
def wholeB : Bs := (([115, 104, 97, 112, 101, 32, 73, 82, 10, 102, 117, 110, 99, 32, 109, 97, 105, 110, 32, 62, 73, 10, 108, 111, 99, 97, 108, 32, 80, 70, 10, 32, 32, 105, 110, 116, 32, 51, 10, 116, 111, 112, 58, 10, 97, 103, 97, 105, 110, 58, 10, 32].append [32, 100, 117, 112, 10, 32, 32, 106, 122, 32, 101, 110, 100, 10, 32, 32, 99, 97, 108, 108, 32, 104, 97, 108, 102, 10, 32, 32, 106, 109, 112, 32, 116, 111, 112, 10, 101, 110, 100, 58, 10, 32, 32, 100, 114, 111, 112, 10, 32, 32, 102, 117, 110]).append ([99, 32, 104, 97, 108, 102, 10, 32, 32, 115, 116, 111, 114, 101, 32, 50, 10, 32, 32, 110, 101, 119, 32, 48, 10, 32, 32, 103, 111, 101, 120, 105, 116, 10, 102, 117, 110, 99, 32, 104, 97, 108, 102, 32, 73, 62, 73, 10, 116, 111, 112, 58, 10].append [32, 32, 108, 111, 97, 100, 32, 48, 10, 32, 32, 105, 110, 116, 32, 50, 10, 32, 32, 98, 105, 110, 32, 100, 105, 118, 10, 32, 32, 115, 116, 111, 114, 101, 32, 49, 10, 32, 32, 100, 101, 102, 101, 114, 32, 48, 10, 32, 32, 114, 101, 116, 10]))
def repB : Bs := Lib.repeatL [59] 131073
def mainF : F.Fu := ⟨[109, 97, 105, 110], [], [1], [4, 3], [(1, 3, 0), (12, 0, 0), (19, 5, 0), (20, 1, 0), (18, 1, 0), (13, 0, 0), (11, 1, 0), (4, 2, 0), (8, 0, 0), (27, 0, 0)]⟩
def halfF : F.Fu := ⟨[104, 97, 108, 102], [1], [1], [], [(3, 0, 0), (1, 2, 0), (15, 3, 0), (4, 1, 0), (22, 0, 0), (24, 0, 0)]⟩
theorem pWhole : parseL wholeB = (⟨[[1, 2]], [mainF, halfF]⟩, 0, 0) := by kernel_rfl
theorem lbN0 : labelsL wholeB 0 = [[116, 111, 112], [97, 103, 97, 105, 110], [101, 110, 100]] := by kernel_rfl
theorem lbN1 : labelsL wholeB 1 = [[116, 111, 112]] := by kernel_rfl
theorem lbN2 : labelsL wholeB 2 = [] := by kernel_rfl
theorem lbN3 : labelsL [114, 101, 116] 0 = [] := by kernel_rfl
theorem wdN0 : wordsL [32, 97, 9, 32, 98, 59, 99] = [[97], [98]] := by kernel_rfl
theorem wdN1 : wordsL [59] = [] := by kernel_rfl
theorem wdN2 : wordsL [97, 10, 98] = [[97]] := by kernel_rfl
theorem nmN0 : normL [32, 97, 32, 32, 98, 32, 59, 99, 10, 10, 59, 10, 32, 99] = [97, 32, 98, 10, 99, 10] := by kernel_rfl
theorem wrN0 : parseL (Lib.join [textB] [10]) = (I.nilI, 7, 90) := by kernel_rfl
theorem wrN1 : parseL (Lib.join [[102, 117, 110, 99, 32, 109, 97, 105, 110, 32, 62], [115, 104, 97, 112, 101, 32, 73], [114, 101, 116]] [10]) = (I.nilI, 2, 90) := by kernel_rfl
theorem wrN2 : parseL (Lib.join [[102, 117, 110, 99, 32, 109, 97, 105, 110, 32, 62], [114, 101, 116], [108, 111, 99, 97, 108, 32, 73]] [10]) = (I.nilI, 3, 90) := by kernel_rfl
theorem wrN3 : parseL (Lib.join [[102, 117, 110, 99, 32, 109, 97, 105, 110, 32, 62], [108, 111, 99, 97, 108, 32, 73], [108, 111, 99, 97, 108, 32, 73], [114, 101, 116]] [10]) = (I.nilI, 3, 90) := by kernel_rfl
theorem wrN4 : parseL (Lib.join [[102, 117, 110, 99, 32, 109, 97, 105, 110, 32, 62], [97, 58], [108, 111, 99, 97, 108, 32, 73]] [10]) = (I.nilI, 3, 90) := by kernel_rfl
theorem wrN5 : parseL (Lib.join [[97, 58]] [10]) = (I.nilI, 1, 90) := by kernel_rfl
theorem wrN6 : parseL (Lib.join [[102, 117, 110, 99, 32, 109, 97, 105, 110, 32, 62], [49, 97, 58]] [10]) = (I.nilI, 2, 90) := by kernel_rfl
theorem wrN7 : parseL (Lib.join [[102, 117, 110, 99, 32, 49, 32, 62]] [10]) = (I.nilI, 1, 90) := by kernel_rfl
theorem wrN8 : parseL (Lib.join [[102, 117, 110, 99, 32, 109, 97, 105, 110, 32, 80]] [10]) = (I.nilI, 1, 90) := by kernel_rfl
theorem wrN9 : parseL (Lib.join [[102, 117, 110, 99, 32, 109, 97, 105, 110, 32, 62], [105, 110, 116]] [10]) = (I.nilI, 2, 90) := by kernel_rfl
theorem wrN10 : parseL (Lib.join [[102, 117, 110, 99, 32, 109, 97, 105, 110, 32, 62], [108, 111, 97, 100, 32, 120]] [10]) = (I.nilI, 2, 90) := by kernel_rfl
theorem wrN11 : parseL (Lib.join [[115, 104, 97, 112, 101]] [10]) = (I.nilI, 1, 90) := by kernel_rfl
theorem wrN12 : parseL (Lib.join [[115, 104, 97, 112, 101, 32, 80]] [10]) = (I.nilI, 1, 90) := by kernel_rfl
theorem wrN13 : parseL (Lib.join [[102, 117, 110, 99, 32, 109, 97, 105, 110, 32, 62], [97, 58], [97, 58], [114, 101, 116]] [10]) = (I.nilI, 3, 91) := by kernel_rfl
theorem wrN14 : parseL (Lib.join [[102, 117, 110, 99, 32, 109, 97, 105, 110, 32, 62], [99, 97, 108, 108, 32, 110, 111, 110, 101], [114, 101, 116]] [10]) = (I.nilI, 2, 92) := by kernel_rfl
theorem wrN15 : parseL (Lib.join [[102, 117, 110, 99, 32, 109, 97, 105, 110, 32, 62], [106, 109, 112, 32, 98], [102, 117, 110, 99, 32, 102, 32, 62], [98, 58], [114, 101, 116]] [10]) = (I.nilI, 2, 91) := by kernel_rfl
theorem wrN16 : parseL (Lib.join [[102, 117, 110, 99, 32, 109, 97, 105, 110, 32, 62], [110, 111, 112]] [10]) = (I.nilI, 0, 93) := by kernel_rfl
theorem wrN17 : parseL (Lib.join [[102, 117, 110, 99, 32, 102, 32, 62], [114, 101, 116], [102, 117, 110, 99, 32, 102, 32, 62], [114, 101, 116]] [10]) = (I.nilI, 0, 93) := by kernel_rfl
theorem wrN18 : parseL (Lib.join [[102, 117, 110, 99, 32, 109, 97, 105, 110, 32, 62], [106, 109, 112, 32, 101, 110, 100], [101, 110, 100, 58]] [10]) = (I.nilI, 0, 93) := by kernel_rfl
theorem rep_len : repB.length = 131073 := by unfold repB; rw [Lib.repeatL_length]; rfl
theorem wrNR : parseL repB = (I.nilI, 0, 93) := parse_long (s := repB) (by rw [rep_len]; decide)

/-- A list that is owned, and isn't empty. -/
theorem own_at0 {W : World} {E sz n c : Nat} {P : Nat → Prop} {A : Option Addr} {xs : List Value} (h : Own W E sz P (.slice A n c) n xs) (h0 : 0 < xs.length) : ∃ g, A = some ⟨g, 0, none⟩ ∧ ∀ j u, xs[j]? = some u → W.cell? ⟨g, j, none⟩ = some u := by
  obtain ⟨A1, c1, e1, _, _, hr, ha⟩ := h.form
  injection e1 with e1 _ _
  subst e1
  obtain ⟨g, off, rfl, hc⟩ := hr h0
  have o1 := (ha _ rfl).2
  injection o1 with _ o1 _
  subst o1
  exact ⟨g, rfl, fun j u hu => by have := hc j u hu; rwa [Nat.zero_add] at this⟩
/-- A body's cells. -/
theorem body_at {W : World} {P : Nat → Prop} {v : F.FV} {f : F.Fu} {n : Nat} (h : F.OwnF W P v f) (hn : f.bd.length = n) (h0 : 0 < n) : v.nd = n ∧ ∃ d, v.D = some ⟨d, 0, none⟩ ∧
    ∀ i (x : C.I3), f.bd[i]? = some x → W.cell? ⟨d, i * 3, none⟩ = some (.int .i64 x.1) ∧ W.cell? ⟨d, i * 3 + 1, none⟩ = some (.int .i64 x.2.1) ∧ W.cell? ⟨d, i * 3 + 2, none⟩ = some (.int .i64 x.2.2) := by
  have h1 := F.own_lenD h.od
  obtain ⟨d, hd, hc⟩ := own_at0 h.od (by rw [C.iis_length]; omega)
  refine ⟨by omega, d, hd, fun i x hx => ?_⟩
  obtain ⟨hi, rfl⟩ := List.getElem?_eq_some_iff.1 hx
  obtain ⟨q0, q1, q2⟩ := C.iis_at f.bd i hi
  exact ⟨hc _ _ q0, hc _ _ q1, hc _ _ q2⟩
/-- What the law reads of the whole program's image. -/
def WhoAt (W : World) (g d0 d1 : Nat) (v0 v1 : F.FV) : Prop :=
  (W.cell? ⟨g, 0, none⟩ = some (.string v0.S) ∧ W.cell? ⟨g, 1, none⟩ = some (.slice v0.A v0.na v0.ca) ∧ W.cell? ⟨g, 2, none⟩ = some (.slice v0.B v0.nb v0.cb) ∧ W.cell? ⟨g, 3, none⟩ = some (.slice v0.L 2 v0.cl) ∧ W.cell? ⟨g, 4, none⟩ = some (.slice (some ⟨d0, 0, none⟩) 10 v0.cd)) ∧
  (W.cell? ⟨g, 5, none⟩ = some (.string v1.S) ∧ W.cell? ⟨g, 6, none⟩ = some (.slice v1.A v1.na v1.ca) ∧ W.cell? ⟨g, 7, none⟩ = some (.slice v1.B v1.nb v1.cb) ∧ W.cell? ⟨g, 8, none⟩ = some (.slice v1.L v1.nl v1.cl) ∧ W.cell? ⟨g, 9, none⟩ = some (.slice (some ⟨d1, 0, none⟩) 6 v1.cd)) ∧
  (W.cell? ⟨d0, 6, none⟩ = some (.int .i64 19) ∧ W.cell? ⟨d0, 7, none⟩ = some (.int .i64 5) ∧ W.cell? ⟨d0, 8, none⟩ = some (.int .i64 0)) ∧
  (W.cell? ⟨d0, 9, none⟩ = some (.int .i64 20) ∧ W.cell? ⟨d0, 10, none⟩ = some (.int .i64 1) ∧ W.cell? ⟨d0, 11, none⟩ = some (.int .i64 0)) ∧
  (W.cell? ⟨d0, 12, none⟩ = some (.int .i64 18) ∧ W.cell? ⟨d0, 13, none⟩ = some (.int .i64 1) ∧ W.cell? ⟨d0, 14, none⟩ = some (.int .i64 0)) ∧
  (W.cell? ⟨d0, 18, none⟩ = some (.int .i64 11) ∧ W.cell? ⟨d0, 19, none⟩ = some (.int .i64 1) ∧ W.cell? ⟨d0, 20, none⟩ = some (.int .i64 0)) ∧
  (W.cell? ⟨d1, 6, none⟩ = some (.int .i64 15) ∧ W.cell? ⟨d1, 7, none⟩ = some (.int .i64 3) ∧ W.cell? ⟨d1, 8, none⟩ = some (.int .i64 0)) ∧
  (W.cell? ⟨d1, 12, none⟩ = some (.int .i64 22) ∧ W.cell? ⟨d1, 13, none⟩ = some (.int .i64 0) ∧ W.cell? ⟨d1, 14, none⟩ = some (.int .i64 0))
theorem WhoAt.keep {W W' : World} {g d0 d1 : Nat} {v0 v1 : F.FV} (h : WhoAt W g d0 d1 v0 v1) (hk : Keep NoB W W') : WhoAt W' g d0 d1 v0 v1 := by
  obtain ⟨⟨a0, a1, a2, a3, a4⟩, ⟨b0, b1, b2, b3, b4⟩, ⟨c0, c1, c2⟩, ⟨x0, x1, x2⟩, ⟨y0, y1, y2⟩, ⟨z0, z1, z2⟩, ⟨u0, u1, u2⟩, ⟨r0, r1, r2⟩⟩ := h
  exact ⟨⟨hk.cell a0 id, hk.cell a1 id, hk.cell a2 id, hk.cell a3 id, hk.cell a4 id⟩, ⟨hk.cell b0 id, hk.cell b1 id, hk.cell b2 id, hk.cell b3 id, hk.cell b4 id⟩, ⟨hk.cell c0 id, hk.cell c1 id, hk.cell c2 id⟩, ⟨hk.cell x0 id, hk.cell x1 id, hk.cell x2 id⟩, ⟨hk.cell y0 id, hk.cell y1 id, hk.cell y2 id⟩, ⟨hk.cell z0 id, hk.cell z1 id, hk.cell z2 id⟩, ⟨hk.cell u0 id, hk.cell u1 id, hk.cell u2 id⟩, ⟨hk.cell r0 id, hk.cell r1 id, hk.cell r2 id⟩⟩
theorem whole_any (S : ByteArray) (hS : S.data.toList = wholeB) (W : World) (h : EnvM W) : Calls Tryz.prog 8 #[.string S] W fun e w' => ∃ X cx g cy d0 d1 v0 v1,
    e = .returned (.tuple #[.agg #[.slice X 1 cx, .slice (some ⟨g, 0, none⟩) 2 cy], .int .i64 0, .int .i64 0]) ∧ WhoAt w' g d0 d1 v0 v1 ∧ Keep NoB W w' := by
  have h1 := parse_t S wholeB W h (Lib.hid hS) (by rw [size_of hS]; decide +kernel)
  rw [pWhole] at h1
  refine h1.mono ?_
  rintro e w' ⟨⟨X, nx, cx, Y, ny, cy⟩, es, fs, rfl, hio, _, him, k⟩
  have e1 : (es.map fun e => e.2) = [[1, 2]] := congrArg I.Im.sh him
  have e2 : (fs.map fun e => e.2) = [mainF, halfF] := congrArg I.Im.fn him
  have l1 : es.length = 1 := by rw [← List.length_map (f := fun e : I.SE => e.2), e1]; rfl
  obtain ⟨v0, v1, rfl⟩ : ∃ v0 v1, fs = [(v0, mainF), (v1, halfF)] := by
    rcases fs with _ | ⟨⟨v, f⟩, _ | ⟨⟨v', f'⟩, _ | ⟨_, _⟩⟩⟩
    · simp at e2
    · simp at e2
    · simp at e2; obtain ⟨rfl, rfl⟩ := e2; exact ⟨v, v', rfl⟩
    · simp at e2
  have h3 := hio.ox.1.1
  have h4 := hio.oy.1.1
  rw [I.fvs_length] at h4
  rw [show (I.svs es).length = es.length by unfold I.svs; simp] at h3
  have hnx : nx = 1 := by dsimp only at h3; omega
  have hny : ny = 2 := by dsimp only at h4; simp at h4; omega
  subst hnx hny
  obtain ⟨g, hg, hc⟩ := own_at0 hio.oy (by rw [I.fvs_length]; simp)
  dsimp only at hg
  subst hg
  obtain ⟨n0, d0, hd0, c0⟩ := body_at (n := 10) (hio.hf (v0, mainF) (by simp)) rfl (by decide)
  obtain ⟨n1, d1, hd1, c1⟩ := body_at (n := 6) (hio.hf (v1, halfF) (by simp)) rfl (by decide)
  have m0 : v0.nl = 2 := (F.own_len (hio.hf (v0, mainF) (by simp)).ol).symm
  obtain ⟨S0, A0, na0, ca0, B0, nb0, cb0, L0, nl0, cl0, D0, nd0, cd0⟩ := v0
  obtain ⟨S1, A1, na1, ca1, B1, nb1, cb1, L1, nl1, cl1, D1, nd1, cd1⟩ := v1
  dsimp only at n0 n1 m0 hd0 hd1
  subst n0 n1 m0 hd0 hd1
  exact ⟨X, cx, g, cy, d0, d1, _, _, rfl, ⟨⟨hc 0 _ rfl, hc 1 _ rfl, hc 2 _ rfl, hc 3 _ rfl, hc 4 _ rfl⟩, ⟨hc 5 _ rfl, hc 6 _ rfl, hc 7 _ rfl, hc 8 _ rfl, hc 9 _ rfl⟩, c0 2 _ rfl, c0 3 _ rfl, c0 4 _ rfl, c0 6 _ rfl, c1 2 _ rfl, c1 4 _ rfl⟩, k⟩
theorem blk_snd (w : World) (o : Obj) (T : TypeId) (cs : Array Value) : Blk (((w.alloc o).alloc (.cells cs T)).drew) (w.heap.size + 1) T cs := by
  have h := Blk.new (w.alloc o) T cs
  rw [World.size_alloc] at h
  exact h
theorem blk_fst (w : World) (o : Obj) (T : TypeId) (cs : Array Value) : Blk (((w.alloc (.cells cs T)).alloc o).drew) w.heap.size T cs := (Blk.new w T cs).alloc o
theorem lab_any (S : ByteArray) (s : Bs) (fn : Int) (l : List Bs) (n : Nat) (w : World) (hE : EnvM w) (hs : S.data.toList = s) (hl : S.size ≤ 140000) (hf : O.I64 fn) (h : labelsL s fn = l) (hn : l.length = n) :
    Calls Tryz.prog 10 #[.string S, .int .i64 fn] w fun e w' => ∃ A c, e = .returned (.slice A n c) ∧ Rd w' A (sv l) ∧ Keep NoB w w' := by
  subst h hn
  refine (labels_any S s fn w (Lib.hid hE) (Lib.hid hs) hl hf).mono ?_
  rintro e w' ⟨A, c, rfl, h1, _, h2⟩
  exact ⟨A, c, rfl, h1, h2⟩
theorem wds_any (S : ByteArray) (s : Bs) (l : List Bs) (n : Nat) (w : World) (hs : S.data.toList = s) (hl : S.size ≤ 140000) (h : wordsL s = l) (hn : l.length = n) :
    Calls Tryz.prog 12 #[.string S] w fun e w' => ∃ A c, e = .returned (.slice A n c) ∧ Rd w' A (sv l) ∧ Keep NoB w w' := by
  subst h hn
  refine (words_any S s w (Lib.hid hs) hl).mono ?_
  rintro e w' ⟨A, c, rfl, h1, h2⟩
  exact ⟨A, c, rfl, F.own_rdS h1, h2⟩
theorem rep_any (W : World) : Calls Tryz.prog 11 #[.string ⟨#[59]⟩, .int .i64 131073] W fun e w' => ∃ R : Bs, e = .returned (.string (str R)) ∧ R.length ≤ 140000 ∧ parseL R = (I.nilI, 0, 93) ∧ Keep NoB W w' := by
  refine (Tryz.strings_Repeat ⟨#[59]⟩ 131073 W (by decide) (by decide)).mono ?_
  rintro e w' ⟨rfl, h⟩
  exact ⟨repB, rfl, by rw [rep_len]; decide, wrNR, Keep.of_below h⟩
theorem nrm_any (W : World) : Calls Tryz.prog 13 #[.string ⟨#[32, 97, 32, 32, 98, 32, 59, 99, 10, 10, 59, 10, 32, 99]⟩] W fun e w' => e = .returned (.string ⟨#[97, 32, 98, 10, 99, 10]⟩) ∧ Keep NoB W w' := by
  have h := normal_any ⟨#[32, 97, 32, 32, 98, 32, 59, 99, 10, 10, 59, 10, 32, 99]⟩ [32, 97, 32, 32, 98, 32, 59, 99, 10, 10, 59, 10, 32, 99] W (Lib.hid rfl) (by decide)
  rw [nmN0] at h
  exact h

end Go.Proofs.YtifobiajjhknbaaGreatDoor.M

namespace Go.Proofs.YtifobiajjhknbaaGreatDoor.M
open Go.RowKit W

set_option maxRecDepth 100000 in
set_option maxHeartbeats 16000000 in
theorem names_walk (w : World) (hw : EnvM w) : Calls Tryz.prog 3 #[] w fun e w' => e = .returned (.bool true) ∧ Keep NoB w w' := by
  go_enter Tryz.func3, Tryz.ntmps3
  have HT := Lib.hid (fun W (hk : Keep NoB w W) => hw.keep hk)
  have HK := Lib.hid (Keep.refl NoB w)
  go_wp2_with fail
  obtain ⟨TX, hTX⟩ : ∃ TX : ByteArray, (⟨([59, 32, 97, 32, 112, 114, 111, 103, 114, 97, 109, 10, 115, 104, 97, 112, 101, 32, 73, 82, 10, 10, 32, 32, 115, 104, 97, 112, 101, 32, 70, 32, 59, 32, 97, 110, 111, 116, 104, 101].append [114, 32, 111, 110, 101, 10, 102, 117, 110, 99, 32, 109, 97, 105, 110, 32, 62, 73, 10, 9, 108, 111, 99, 97, 108, 32, 80, 70, 10, 114, 101, 116, 58, 32, 105, 110, 116, 32, 45, 53, 10]).toArray⟩ : ByteArray) = TX := ⟨_, rfl⟩
  have hTX2 : (⟨#[59, 32, 97, 32, 112, 114, 111, 103, 114, 97, 109, 10, 115, 104, 97, 112, 101, 32, 73, 82, 10, 10, 32, 32, 115, 104, 97, 112, 101, 32, 70, 32, 59, 32, 97, 110, 111, 116, 104, 101, 114, 32, 111, 110, 101, 10, 102, 117, 110, 99, 32, 109, 97, 105, 110, 32, 62, 73, 10, 9, 108, 111, 99, 97, 108, 32, 80, 70, 10, 114, 101, 116, 58, 32, 105, 110, 116, 32, 45, 53, 10]⟩ : ByteArray) = TX := by rw [← hTX]; rfl
  simp only [hTX2, hTX]
  clear hTX2
  refine (wrong_yes EnvM env_keep (Lib.hid parse_t) 90 7 _ [textB] 1 1 _ (HT.out _ (HK.out.alloc _)) (rd_made rfl (by rw [← hTX]; rfl)) (Lib.hid rfl) (by decide) (Nat.le_refl _) _ rfl (by decide +kernel) wrN0).mono ?_
  rintro e w1 ⟨rfl, k⟩
  replace HK := Lib.hid (keepM (HK.out.alloc _) k)
  clear k
  clear hTX
  go_wp2_with fail
  obtain ⟨WH, hWH⟩ : ∃ WH : ByteArray, (⟨(([115, 104, 97, 112, 101, 32, 73, 82, 10, 102, 117, 110, 99, 32, 109, 97, 105, 110, 32, 62, 73, 10, 108, 111, 99, 97, 108, 32, 80, 70, 10, 32, 32, 105, 110, 116, 32, 51, 10, 116, 111, 112, 58, 10, 97, 103, 97, 105, 110, 58, 10, 32].append [32, 100, 117, 112, 10, 32, 32, 106, 122, 32, 101, 110, 100, 10, 32, 32, 99, 97, 108, 108, 32, 104, 97, 108, 102, 10, 32, 32, 106, 109, 112, 32, 116, 111, 112, 10, 101, 110, 100, 58, 10, 32, 32, 100, 114, 111, 112, 10, 32, 32, 102, 117, 110]).append ([99, 32, 104, 97, 108, 102, 10, 32, 32, 115, 116, 111, 114, 101, 32, 50, 10, 32, 32, 110, 101, 119, 32, 48, 10, 32, 32, 103, 111, 101, 120, 105, 116, 10, 102, 117, 110, 99, 32, 104, 97, 108, 102, 32, 73, 62, 73, 10, 116, 111, 112, 58, 10].append [32, 32, 108, 111, 97, 100, 32, 48, 10, 32, 32, 105, 110, 116, 32, 50, 10, 32, 32, 98, 105, 110, 32, 100, 105, 118, 10, 32, 32, 115, 116, 111, 114, 101, 32, 49, 10, 32, 32, 100, 101, 102, 101, 114, 32, 48, 10, 32, 32, 114, 101, 116, 10])).toArray⟩ : ByteArray) = WH := ⟨_, rfl⟩
  have hWH2 : (⟨#[115, 104, 97, 112, 101, 32, 73, 82, 10, 102, 117, 110, 99, 32, 109, 97, 105, 110, 32, 62, 73, 10, 108, 111, 99, 97, 108, 32, 80, 70, 10, 32, 32, 105, 110, 116, 32, 51, 10, 116, 111, 112, 58, 10, 97, 103, 97, 105, 110, 58, 10, 32, 32, 100, 117, 112, 10, 32, 32, 106, 122, 32, 101, 110, 100, 10, 32, 32, 99, 97, 108, 108, 32, 104, 97, 108, 102, 10, 32, 32, 106, 109, 112, 32, 116, 111, 112, 10, 101, 110, 100, 58, 10, 32, 32, 100, 114, 111, 112, 10, 32, 32, 102, 117, 110, 99, 32, 104, 97, 108, 102, 10, 32, 32, 115, 116, 111, 114, 101, 32, 50, 10, 32, 32, 110, 101, 119, 32, 48, 10, 32, 32, 103, 111, 101, 120, 105, 116, 10, 102, 117, 110, 99, 32, 104, 97, 108, 102, 32, 73, 62, 73, 10, 116, 111, 112, 58, 10, 32, 32, 108, 111, 97, 100, 32, 48, 10, 32, 32, 105, 110, 116, 32, 50, 10, 32, 32, 98, 105, 110, 32, 100, 105, 118, 10, 32, 32, 115, 116, 111, 114, 101, 32, 49, 10, 32, 32, 100, 101, 102, 101, 114, 32, 48, 10, 32, 32, 114, 101, 116, 10]⟩ : ByteArray) = WH := by rw [← hWH]; rfl
  simp only [hWH2, hWH]
  clear hWH2
  have HWS : Hid (WH.data.toList = wholeB) := by rw [← hWH]; exact rfl
  have HWZ : Hid (WH.size ≤ 140000) := by show _ ≤ _; rw [size_of HWS.out]; decide +kernel
  clear hWH
  refine (whole_any WH HWS.out _ (HT.out _ HK.out)).mono ?_
  rintro e w2 ⟨X, cx, g, cy, d0, d1, v0, v1, rfl, hWh, k⟩
  have HWh := Lib.hid (hWh.keep ((Keep.refl NoB w2).alloc (.cells #[.slice X 1 cx, .slice (some ⟨g, 0, none⟩) 2 cy] 27)))
  have bp := Blk.new w2 27 #[.slice X 1 cx, .slice (some ⟨g, 0, none⟩) 2 cy]
  replace HK := Lib.hid ((keepM HK.out k).alloc (.cells #[.slice X 1 cx, .slice (some ⟨g, 0, none⟩) 2 cy] 27))
  clear hWh k
  obtain ⟨q0, q1⟩ := I.blk2 (v := ⟨X, 1, cx, some ⟨g, 0, none⟩, 2, cy⟩) bp
  dsimp only at q0 q1
  obtain ⟨⟨a0, a1, a2, a3, a4⟩, ⟨b0, b1, b2, b3, b4⟩, _⟩ := id HWh.out
  generalize hw3 : w2.alloc (.cells #[.slice X 1 cx, .slice (some ⟨g, 0, none⟩) 2 cy] 27) = w3 at *
  go_upto_region 7 with fail
  clear hw3
  have hlg : g < w3.heap.size := World.block_lt_of_cell? _ _ a0
  have hlp : w2.heap.size < w3.heap.size := bp.lt
  have HB := Lib.hid bp
  generalize w2.heap.size = gp at *
  go_cut [7, 8] from 39 to 46 (fun c7 c8 wx => ∃ m7 m8, c7 = .pointer (some ⟨m7, 0, none⟩) ∧ c8 = .pointer (some ⟨m8, 0, none⟩) ∧ Blk wx m7 35 #[.string v0.S, .slice v0.A v0.na v0.ca, .slice v0.B v0.nb v0.cb, .slice v0.L 2 v0.cl, .slice (some ⟨d0, 0, none⟩) 10 v0.cd] ∧ Blk wx m8 35 #[.string v1.S, .slice v1.A v1.na v1.ca, .slice v1.B v1.nb v1.cb, .slice v1.L v1.nl v1.cl, .slice (some ⟨d1, 0, none⟩) 6 v1.cd] ∧ Keep NoB w3 wx)
  case first =>
    go_region
    all_goals (go_wp2_with fail; go_meet)
    all_goals first | exact ⟨_, _, rfl, rfl, blk_fst _ _ _ _, blk_snd _ _ _ _, (((Keep.refl NoB w3).alloc _).alloc _).drew⟩ | exact ⟨_, _, rfl, rfl, blk_snd _ _ _ _, blk_fst _ _ _ _, (((Keep.refl NoB w3).alloc _).alloc _).drew⟩
  obtain ⟨m7, m8, rfl, rfl, k7, k8, kw⟩ := hcut
  obtain ⟨_, _, ⟨e0, e1, e2⟩, ⟨x0, x1, x2⟩, ⟨y0, y1, y2⟩, ⟨z0, z1, z2⟩, ⟨t0, t1, t2⟩, ⟨r0, r1, r2⟩⟩ := HWh.out.keep kw
  obtain ⟨p0, _⟩ := I.blk2 (v := ⟨X, 1, cx, some ⟨g, 0, none⟩, 2, cy⟩) (HB.out.keep kw id)
  have l3 := k7.cell 3
  have l4 := k7.cell 4
  have h4 := k8.cell 4
  simp only [List.getElem?_toArray, List.getElem?_cons_zero, List.getElem?_cons_succ] at l3 l4 h4
  dsimp only at p0
  replace HK := Lib.hid (keepM HK.out kw)
  clear a0 a1 a2 a3 a4 b0 b1 b2 b3 b4 q0 q1 HWh HB bp kw k7 k8 hlg hlp
  go_wp2_with fail
  clear e0 e1 e2 x0 x1 x2 y0 y1 y2 z0 z1 z2 t0 t1 t2 r0 r1 r2 p0 l3 l4 h4
  refine (lab_any WH wholeB 0 _ 3 _ (HT.out _ HK.out) HWS.out HWZ.out (by unfold O.I64; omega) lbN0 rfl).mono ?_
  rintro e w11 ⟨A11, c11, rfl, hr, k⟩
  replace HK := Lib.hid (keepM HK.out k)
  clear k
  have hr2 := hr.keepN ((Keep.refl NoB w11).alloc (.cells #[.string ⟨#[116, 111, 112]⟩, .string ⟨#[97, 103, 97, 105, 110]⟩, .string ⟨#[101, 110, 100]⟩] 9))
  go_wp2_with fail
  refine (rtexts_any _ _ _ [[116, 111, 112], [97, 103, 97, 105, 110], [101, 110, 100]] 3 3 _ _ _ hr2 (rd_made rfl rfl) (Lib.hid rfl) (Lib.hid rfl) (by decide) (by decide) true (Lib.hid (by decide))).mono ?_
  rintro e w12 ⟨rfl, k⟩
  replace HK := Lib.hid (keepM (HK.out.alloc _) k)
  clear k hr hr2
  go_wp2_with fail
  refine (lab_any WH wholeB 1 _ 1 _ (HT.out _ HK.out) HWS.out HWZ.out (by unfold O.I64; omega) lbN1 rfl).mono ?_
  rintro e w13 ⟨A13, c13, rfl, hr, k⟩
  replace HK := Lib.hid (keepM HK.out k)
  clear k
  have hr2 := hr.keepN ((Keep.refl NoB w13).alloc (.cells #[.string ⟨#[116, 111, 112]⟩] 9))
  go_wp2_with fail
  refine (rtexts_any _ _ _ [[116, 111, 112]] 1 1 _ _ _ hr2 (rd_made rfl rfl) (Lib.hid rfl) (Lib.hid rfl) (by decide) (by decide) true (Lib.hid (by decide))).mono ?_
  rintro e w14 ⟨rfl, k⟩
  replace HK := Lib.hid (keepM (HK.out.alloc _) k)
  clear k hr hr2
  go_wp2_with fail
  refine (lab_any WH wholeB 2 _ 0 _ (HT.out _ HK.out) HWS.out HWZ.out (by unfold O.I64; omega) lbN2 rfl).mono ?_
  rintro e w15 ⟨A15, c15, rfl, hr, k⟩
  replace HK := Lib.hid (keepM HK.out k)
  clear k
  clear hr
  go_wp2_with fail
  refine (lab_any _ _ 0 _ 0 _ (HT.out _ HK.out) rfl (by decide) (by unfold O.I64; omega) lbN3 rfl).mono ?_
  rintro e w16 ⟨A16, c16, rfl, hr, k⟩
  replace HK := Lib.hid (keepM HK.out k)
  clear k
  clear hr
  go_wp2_with fail
  refine (wrong_yes EnvM env_keep (Lib.hid parse_t) 90 2 _ [[102, 117, 110, 99, 32, 109, 97, 105, 110, 32, 62], [115, 104, 97, 112, 101, 32, 73], [114, 101, 116]] 3 3 _ (HT.out _ (HK.out.alloc _)) (rd_made rfl (rfl)) (Lib.hid rfl) (by decide) (Nat.le_refl _) _ rfl (by decide +kernel) wrN1).mono ?_
  rintro e w21 ⟨rfl, k⟩
  replace HK := Lib.hid (keepM (HK.out.alloc _) k)
  clear k
  go_wp2_with fail
  refine (wrong_yes EnvM env_keep (Lib.hid parse_t) 90 3 _ [[102, 117, 110, 99, 32, 109, 97, 105, 110, 32, 62], [114, 101, 116], [108, 111, 99, 97, 108, 32, 73]] 3 3 _ (HT.out _ (HK.out.alloc _)) (rd_made rfl (rfl)) (Lib.hid rfl) (by decide) (Nat.le_refl _) _ rfl (by decide +kernel) wrN2).mono ?_
  rintro e w22 ⟨rfl, k⟩
  replace HK := Lib.hid (keepM (HK.out.alloc _) k)
  clear k
  go_wp2_with fail
  refine (wrong_yes EnvM env_keep (Lib.hid parse_t) 90 3 _ [[102, 117, 110, 99, 32, 109, 97, 105, 110, 32, 62], [108, 111, 99, 97, 108, 32, 73], [108, 111, 99, 97, 108, 32, 73], [114, 101, 116]] 4 4 _ (HT.out _ (HK.out.alloc _)) (rd_made rfl (rfl)) (Lib.hid rfl) (by decide) (Nat.le_refl _) _ rfl (by decide +kernel) wrN3).mono ?_
  rintro e w23 ⟨rfl, k⟩
  replace HK := Lib.hid (keepM (HK.out.alloc _) k)
  clear k
  go_wp2_with fail
  refine (wrong_yes EnvM env_keep (Lib.hid parse_t) 90 3 _ [[102, 117, 110, 99, 32, 109, 97, 105, 110, 32, 62], [97, 58], [108, 111, 99, 97, 108, 32, 73]] 3 3 _ (HT.out _ (HK.out.alloc _)) (rd_made rfl (rfl)) (Lib.hid rfl) (by decide) (Nat.le_refl _) _ rfl (by decide +kernel) wrN4).mono ?_
  rintro e w24 ⟨rfl, k⟩
  replace HK := Lib.hid (keepM (HK.out.alloc _) k)
  clear k
  go_wp2_with fail
  refine (wrong_yes EnvM env_keep (Lib.hid parse_t) 90 1 _ [[97, 58]] 1 1 _ (HT.out _ (HK.out.alloc _)) (rd_made rfl (rfl)) (Lib.hid rfl) (by decide) (Nat.le_refl _) _ rfl (by decide +kernel) wrN5).mono ?_
  rintro e w25 ⟨rfl, k⟩
  replace HK := Lib.hid (keepM (HK.out.alloc _) k)
  clear k
  go_wp2_with fail
  refine (wrong_yes EnvM env_keep (Lib.hid parse_t) 90 2 _ [[102, 117, 110, 99, 32, 109, 97, 105, 110, 32, 62], [49, 97, 58]] 2 2 _ (HT.out _ (HK.out.alloc _)) (rd_made rfl (rfl)) (Lib.hid rfl) (by decide) (Nat.le_refl _) _ rfl (by decide +kernel) wrN6).mono ?_
  rintro e w26 ⟨rfl, k⟩
  replace HK := Lib.hid (keepM (HK.out.alloc _) k)
  clear k
  go_wp2_with fail
  refine (wrong_yes EnvM env_keep (Lib.hid parse_t) 90 1 _ [[102, 117, 110, 99, 32, 49, 32, 62]] 1 1 _ (HT.out _ (HK.out.alloc _)) (rd_made rfl (rfl)) (Lib.hid rfl) (by decide) (Nat.le_refl _) _ rfl (by decide +kernel) wrN7).mono ?_
  rintro e w27 ⟨rfl, k⟩
  replace HK := Lib.hid (keepM (HK.out.alloc _) k)
  clear k
  go_wp2_with fail
  refine (wrong_yes EnvM env_keep (Lib.hid parse_t) 90 1 _ [[102, 117, 110, 99, 32, 109, 97, 105, 110, 32, 80]] 1 1 _ (HT.out _ (HK.out.alloc _)) (rd_made rfl (rfl)) (Lib.hid rfl) (by decide) (Nat.le_refl _) _ rfl (by decide +kernel) wrN8).mono ?_
  rintro e w28 ⟨rfl, k⟩
  replace HK := Lib.hid (keepM (HK.out.alloc _) k)
  clear k
  go_wp2_with fail
  refine (wrong_yes EnvM env_keep (Lib.hid parse_t) 90 2 _ [[102, 117, 110, 99, 32, 109, 97, 105, 110, 32, 62], [105, 110, 116]] 2 2 _ (HT.out _ (HK.out.alloc _)) (rd_made rfl (rfl)) (Lib.hid rfl) (by decide) (Nat.le_refl _) _ rfl (by decide +kernel) wrN9).mono ?_
  rintro e w29 ⟨rfl, k⟩
  replace HK := Lib.hid (keepM (HK.out.alloc _) k)
  clear k
  go_wp2_with fail
  refine (wrong_yes EnvM env_keep (Lib.hid parse_t) 90 2 _ [[102, 117, 110, 99, 32, 109, 97, 105, 110, 32, 62], [108, 111, 97, 100, 32, 120]] 2 2 _ (HT.out _ (HK.out.alloc _)) (rd_made rfl (rfl)) (Lib.hid rfl) (by decide) (Nat.le_refl _) _ rfl (by decide +kernel) wrN10).mono ?_
  rintro e w30 ⟨rfl, k⟩
  replace HK := Lib.hid (keepM (HK.out.alloc _) k)
  clear k
  go_wp2_with fail
  refine (wrong_yes EnvM env_keep (Lib.hid parse_t) 90 1 _ [[115, 104, 97, 112, 101]] 1 1 _ (HT.out _ (HK.out.alloc _)) (rd_made rfl (rfl)) (Lib.hid rfl) (by decide) (Nat.le_refl _) _ rfl (by decide +kernel) wrN11).mono ?_
  rintro e w31 ⟨rfl, k⟩
  replace HK := Lib.hid (keepM (HK.out.alloc _) k)
  clear k
  go_wp2_with fail
  refine (wrong_yes EnvM env_keep (Lib.hid parse_t) 90 1 _ [[115, 104, 97, 112, 101, 32, 80]] 1 1 _ (HT.out _ (HK.out.alloc _)) (rd_made rfl (rfl)) (Lib.hid rfl) (by decide) (Nat.le_refl _) _ rfl (by decide +kernel) wrN12).mono ?_
  rintro e w32 ⟨rfl, k⟩
  replace HK := Lib.hid (keepM (HK.out.alloc _) k)
  clear k
  go_wp2_with fail
  refine (wrong_yes EnvM env_keep (Lib.hid parse_t) 91 3 _ [[102, 117, 110, 99, 32, 109, 97, 105, 110, 32, 62], [97, 58], [97, 58], [114, 101, 116]] 4 4 _ (HT.out _ (HK.out.alloc _)) (rd_made rfl (rfl)) (Lib.hid rfl) (by decide) (Nat.le_refl _) _ rfl (by decide +kernel) wrN13).mono ?_
  rintro e w33 ⟨rfl, k⟩
  replace HK := Lib.hid (keepM (HK.out.alloc _) k)
  clear k
  go_wp2_with fail
  refine (wrong_yes EnvM env_keep (Lib.hid parse_t) 92 2 _ [[102, 117, 110, 99, 32, 109, 97, 105, 110, 32, 62], [99, 97, 108, 108, 32, 110, 111, 110, 101], [114, 101, 116]] 3 3 _ (HT.out _ (HK.out.alloc _)) (rd_made rfl (rfl)) (Lib.hid rfl) (by decide) (Nat.le_refl _) _ rfl (by decide +kernel) wrN14).mono ?_
  rintro e w34 ⟨rfl, k⟩
  replace HK := Lib.hid (keepM (HK.out.alloc _) k)
  clear k
  go_wp2_with fail
  refine (wrong_yes EnvM env_keep (Lib.hid parse_t) 91 2 _ [[102, 117, 110, 99, 32, 109, 97, 105, 110, 32, 62], [106, 109, 112, 32, 98], [102, 117, 110, 99, 32, 102, 32, 62], [98, 58], [114, 101, 116]] 5 5 _ (HT.out _ (HK.out.alloc _)) (rd_made rfl (rfl)) (Lib.hid rfl) (by decide) (Nat.le_refl _) _ rfl (by decide +kernel) wrN15).mono ?_
  rintro e w35 ⟨rfl, k⟩
  replace HK := Lib.hid (keepM (HK.out.alloc _) k)
  clear k
  go_wp2_with fail
  refine (wrong_yes EnvM env_keep (Lib.hid parse_t) 93 0 _ [[102, 117, 110, 99, 32, 109, 97, 105, 110, 32, 62], [110, 111, 112]] 2 2 _ (HT.out _ (HK.out.alloc _)) (rd_made rfl (rfl)) (Lib.hid rfl) (by decide) (Nat.le_refl _) _ rfl (by decide +kernel) wrN16).mono ?_
  rintro e w36 ⟨rfl, k⟩
  replace HK := Lib.hid (keepM (HK.out.alloc _) k)
  clear k
  go_wp2_with fail
  refine (wrong_yes EnvM env_keep (Lib.hid parse_t) 93 0 _ [[102, 117, 110, 99, 32, 102, 32, 62], [114, 101, 116], [102, 117, 110, 99, 32, 102, 32, 62], [114, 101, 116]] 4 4 _ (HT.out _ (HK.out.alloc _)) (rd_made rfl (rfl)) (Lib.hid rfl) (by decide) (Nat.le_refl _) _ rfl (by decide +kernel) wrN17).mono ?_
  rintro e w37 ⟨rfl, k⟩
  replace HK := Lib.hid (keepM (HK.out.alloc _) k)
  clear k
  go_wp2_with fail
  refine (wrong_yes EnvM env_keep (Lib.hid parse_t) 93 0 _ [[102, 117, 110, 99, 32, 109, 97, 105, 110, 32, 62], [106, 109, 112, 32, 101, 110, 100], [101, 110, 100, 58]] 3 3 _ (HT.out _ (HK.out.alloc _)) (rd_made rfl (rfl)) (Lib.hid rfl) (by decide) (Nat.le_refl _) _ rfl (by decide +kernel) wrN18).mono ?_
  rintro e w38 ⟨rfl, k⟩
  replace HK := Lib.hid (keepM (HK.out.alloc _) k)
  clear k
  go_wp2_with fail
  refine (rep_any _).mono ?_
  rintro e w40 ⟨R, rfl, hR1, hR2, k⟩
  replace HK := Lib.hid (keepM HK.out k)
  clear k
  go_wp2_with fail
  refine (wrong_yes EnvM env_keep (Lib.hid parse_t) 93 0 _ [R] 1 1 _ (HT.out _ (HK.out.alloc _)) (rd_made rfl rfl) (Lib.hid rfl) (by decide) (Nat.le_refl _) R (Lib.join_one _ _) hR1 hR2).mono ?_
  rintro e w41 ⟨rfl, k⟩
  replace HK := Lib.hid (keepM (HK.out.alloc _) k)
  clear k
  go_wp2_with fail
  refine (wds_any _ _ _ 2 _ rfl (by decide) wdN0 rfl).mono ?_
  rintro e w50 ⟨A50, c50, rfl, hr, k⟩
  replace HK := Lib.hid (keepM HK.out k)
  clear k
  have hr2 := hr.keepN ((Keep.refl NoB w50).alloc (.cells #[.string ⟨#[97]⟩, .string ⟨#[98]⟩] 9))
  go_wp2_with fail
  refine (rtexts_any _ _ _ [[97], [98]] 2 2 _ _ _ hr2 (rd_made rfl rfl) (Lib.hid rfl) (Lib.hid rfl) (by decide) (by decide) true (Lib.hid (by decide))).mono ?_
  rintro e w51 ⟨rfl, k⟩
  replace HK := Lib.hid (keepM (HK.out.alloc _) k)
  clear k hr hr2
  go_wp2_with fail
  refine (wds_any _ _ _ 0 _ rfl (by decide) wdN1 rfl).mono ?_
  rintro e w52 ⟨A52, c52, rfl, hr, k⟩
  replace HK := Lib.hid (keepM HK.out k)
  clear k
  clear hr
  go_wp2_with fail
  refine (wds_any _ _ _ 1 _ rfl (by decide) wdN2 rfl).mono ?_
  rintro e w53 ⟨A53, c53, rfl, hr, k⟩
  replace HK := Lib.hid (keepM HK.out k)
  clear k
  have hr2 := hr.keepN ((Keep.refl NoB w53).alloc (.cells #[.string ⟨#[97]⟩] 9))
  go_wp2_with fail
  refine (rtexts_any _ _ _ [[97]] 1 1 _ _ _ hr2 (rd_made rfl rfl) (Lib.hid rfl) (Lib.hid rfl) (by decide) (by decide) true (Lib.hid (by decide))).mono ?_
  rintro e w54 ⟨rfl, k⟩
  replace HK := Lib.hid (keepM (HK.out.alloc _) k)
  clear k hr hr2
  go_wp2_with fail
  refine (nrm_any _).mono ?_
  rintro e w55 ⟨rfl, k⟩
  replace HK := Lib.hid (keepM HK.out k)
  clear k
  go_wp2_with fail
  refine (alive_t _ (HT.out _ HK.out)).mono ?_
  rintro e w56 ⟨rfl, k⟩
  replace HK := Lib.hid (keepM HK.out k)
  clear k
  go_wp2
  go_ret
  exact ⟨rfl, HK.out⟩

end Go.Proofs.YtifobiajjhknbaaGreatDoor.M
