/-
  What layer image's texts say of images in memory: whether they are more than statements go through, whether two are the same, how an argument is opened. Conditions: they lie in memory.
-/
import Derived.BigQuiet
import Derived.ChangeSame
import Derived.Deep.AppendLies
import Derived.Deep.CutRange
import Derived.Deep.DeepFit
import Derived.Deep.Draws
import Derived.Deep.Fields
import Derived.Deep.OwnRows
import Derived.Deep.QuietTactic
import Derived.Deep.RegionHeld3
import Derived.Deep.RegionLaw
import Derived.Deep.RegionWith
import Derived.Deep.Slices
import Derived.Deep.Strs
import Derived.Deep.WholeRow
import Derived.HandedShaped
import Derived.IntWalk
import Derived.LaidLaws
import Derived.LaidMore
import Derived.Laws.Bits64
import Derived.Laws.BitsAllLaws
import Derived.Laws.CopyOwn
import Derived.Laws.EntriesVeiled
import Derived.Laws.OwnMore
import Derived.Laws.RangeAny
import Derived.Laws.RangeString
import Derived.Laws.ResultCell
import Derived.Laws.Rows
import Derived.Lib.AppendIntMem
import Derived.Lib.AppendZeros
import Derived.Lib.AtoiBound
import Derived.Lib.DecodeN
import Derived.Lib.Fields
import Derived.Lib.Hide
import Derived.Lib.IndexBytes
import Derived.Lib.IndexLaws
import Derived.Lib.IndexMore
import Derived.Lib.ItoaLen
import Derived.Lib.LaidTab
import Derived.Lib.OthersKept
import Derived.Lib.ParseIntBTie
import Derived.Lib.RuneBytes
import Derived.Lib.SlBytesConst
import Derived.Lib.SmallJoins
import Derived.Lib.Strings
import Derived.LoopIn
import Derived.LoopNIn
import Derived.Maps.AppendAt
import Derived.Maps.Keyed
import Derived.Maps.Own
import Derived.Maps.OwnIn
import Derived.Maps.OwnOps
import Derived.Maps.OwnSet
import Derived.Maps.Views
import Derived.OpenShut
import Derived.OwnWalk
import Derived.OwnWalkIn
import Derived.ProofKit
import Derived.RangeFuncBound
import Derived.RangeFuncBox
import Derived.RangeFuncCalls
import Derived.RangeFuncLeaves
import Derived.RangeFuncNested
import Derived.Scope
import Derived.Shelf.Abstract
import Derived.Shelf.GgClosure.StringsIndexFunc
import Derived.Shelf.RegionOpen
import Derived.Shelf.Small.Strs
import Derived.Shelf.Strings.FieldsFuncAny
import Derived.Shelf.Vars
import Derived.SizedLaws
import Derived.StillTail
import Derived.StillTailTactics
import Derived.Stop.LaidErr
import Derived.TacticsInMore
import Derived.WalkArith
import Derived.WalkKit
import Derived.WalkLawsBesides
import Derived.WalkSpells
import Derived.Test.YtifobiajjhknbaaGreatDoorQ1
import Derived.Test.YtifobiajjhknbaaGreatDoorQ2
import Derived.Test.YtifobiajjhknbaaGreatDoorQ3
import Derived.Test.YtifobiajjhknbaaGreatDoorQ4
import Derived.Test.YtifobiajjhknbaaGreatDoorQ5
import Derived.Test.YtifobiajjhknbaaGreatDoorQ6
import Derived.Test.YtifobiajjhknbaaGreatDoorQ7
import Derived.Test.YtifobiajjhknbaaGreatDoorQ8
import Derived.Test.YtifobiajjhknbaaGreatDoorQ9
import Derived.Test.YtifobiajjhknbaaGreatDoorQ10
import Derived.Test.YtifobiajjhknbaaGreatDoorQ11
import Derived.Test.YtifobiajjhknbaaGreatDoorQ12
import Derived.Test.YtifobiajjhknbaaGreatDoorQ13
import Derived.Test.YtifobiajjhknbaaGreatDoorQ14
import Derived.Test.YtifobiajjhknbaaGreatDoorQ15
import Derived.Test.YtifobiajjhknbaaGreatDoorQ16
namespace Go.Proofs.YtifobiajjhknbaaGreatDoor.W
open Go.RowKit

/-- The types of values. -/
def ts (x : List (Int × Int)) : List Int := x.map (·.1)

end Go.Proofs.YtifobiajjhknbaaGreatDoor.W

namespace Go.Proofs.YtifobiajjhknbaaGreatDoor.O
open Go.ChangeShapes Go.WideShapes Go.ChangeAt Go.RowKit

theorem i64_of_wf {n : Int} (h : (Lit.int .i64 n).wf = true) : I64 n := by
  have hmin : IntKind.i64.min = -9223372036854775808 := rfl
  have hmax : IntKind.i64.max = 9223372036854775807 := rfl
  simp only [Lit.wf, Bool.and_eq_true, decide_eq_true_eq] at h
  unfold I64; omega
section
variable {H : Type} {enc : TypeId × Value → H} {w : World} {base b0 : Nat} {spare : Nat → Bool} {held : Bool} {r : Reach} {v : Value} {d : DataW H} {p : List MemPlace}
end

end Go.Proofs.YtifobiajjhknbaaGreatDoor.O

namespace Go.Proofs.YtifobiajjhknbaaGreatDoor.S
open Go.RowKit W

/-- So many digits of base 4, the lowest first. -/
def dig : List Int → Nat
  | [] => 0
  | t :: l => (t - 1).toNat + 4 * dig l
/-- A byte of types, as a number; all of them. -/
def packN (l : List Int) (k : Nat) : Nat := dig ((l.drop (4 * k)).take 4)
def packL (l : List Int) : List UInt8 := (List.range (sz l.length)).map fun k => UInt8.ofNat (packN l k)
/-- Types' bytes. -/
def bytesT (l : List Int) : List UInt8 := V.encL l.length ++ packL l

/-- The shape at a place, and the place behind it; a signature likewise. -/
def decS (l : List UInt8) (p : Nat) : Option (List Int × Nat) := match rdT l p 16 with
  | none => none
  | some x => if okS x.1 = true then some x else none
def bytesG (a r : List Int) : List UInt8 := bytesT a ++ bytesT r
end Go.Proofs.YtifobiajjhknbaaGreatDoor.S

namespace Go.Proofs.YtifobiajjhknbaaGreatDoor.C
open Go.RowKit O

/-- A body's bytes. -/
def byt (l : List I3) : List UInt8 := l.flatMap fun x => bytesI x.1 x.2.1 x.2.2
def bytesB (l : List I3) : List UInt8 := V.encL l.length ++ byt l
end Go.Proofs.YtifobiajjhknbaaGreatDoor.C

namespace Go.Proofs.YtifobiajjhknbaaGreatDoor.F
open Go.RowKit W

/-- A function's bytes. -/
def bytesF (f : Fu) : List UInt8 := (((V.encL f.nm.length ++ f.nm) ++ S.bytesG f.ar f.rs) ++ S.bytesG f.lc []) ++ C.bytesB f.bd
end Go.Proofs.YtifobiajjhknbaaGreatDoor.F

namespace Go.Proofs.YtifobiajjhknbaaGreatDoor.F
open Go.RowKit W

/-- A function whose parts were read. -/
def ifF (f : Fu) (q : Nat) : Option (Fu × Nat) := if okF f = true then some (f, q) else none
def decF (l : List UInt8) (p : Nat) : Option (Fu × Nat) := match nmR l p with
  | none => none
  | some a => match S.decG l a.2 with
    | none => none
    | some g => match lcR l g.2 with
      | none => none
      | some c => match C.decB l c.2 with
        | none => none
        | some d => ifF ⟨a.1, g.1.1, g.1.2, c.1, d.1⟩ d.2
end Go.Proofs.YtifobiajjhknbaaGreatDoor.F

namespace Go.Proofs.YtifobiajjhknbaaGreatDoor.I
open Go.RowKit W

def sumN (l : List UInt8) : Nat := (ad l).2 % 65521 * 65536 + (ad l).1 % 65521
/-- A sum's bytes. -/
def four (n : Nat) : List UInt8 := [UInt8.ofNat (n / 16777216), UInt8.ofNat (n / 65536 % 256), UInt8.ofNat (n / 256 % 256), UInt8.ofNat (n % 256)]
def shB (l : List (List Int)) : List UInt8 := V.encL l.length ++ l.flatMap S.bytesT
def fnB (l : List F.Fu) : List UInt8 := V.encL l.length ++ l.flatMap F.bytesF
def inI (p : Im) : List UInt8 := shB p.sh ++ fnB p.fn
def bodyI (p : Im) : List UInt8 := magicL ++ inI p
def bytesI (p : Im) : List UInt8 := bodyI p ++ four (sumN (bodyI p))
def encI (p : Im) : List UInt8 := if okI p = true then bytesI p else []
section
variable {α : Type}
/-- So many parts, one behind the other, from a place. -/
def rdK (dec : Nat → Option (α × Nat)) : Nat → Nat → Option (List α × Nat)
  | 0, p => some ([], p)
  | k + 1, p => match rdK dec k p with
    | none => none
    | some a => match dec a.2 with
      | none => none
      | some x => some (a.1 ++ [x.1], x.2)
/-- How many, and these. -/
def rdL (dec : Nat → Option (α × Nat)) (l : List UInt8) (p : Nat) : Option (List α × Nat) :=
  if (V.NumR l p 64).2.1 = 0 then rdK dec (V.NumR l p 64).1 (V.NumR l p 64).2.2 else none
end

/-- What stands between Magic and the sum, and the place behind it. -/
def rdI (l : List UInt8) (p : Nat) : Option (Im × Nat) := match rdL (S.decS l) l p with
  | none => none
  | some a => match rdL (F.decF l) l a.2 with
    | none => none
    | some b => some (⟨a.1, b.1⟩, b.2)
/-- Which image stands between Magic and the sum, if one does. -/
def opI (l : List UInt8) : Option Im := match rdI l 0 with
  | none => none
  | some x => if x.2 = l.length ∧ okI x.1 = true then some x.1 else none
/-- What is read of any bytes, and what is wrong. -/
def decI (b : List UInt8) : Im × Int :=
  if b.take 5 ≠ magicL then (nilI, 81)
  else if b.length < 9 ∨ b.drop (b.length - 4) ≠ four (sumN (b.take (b.length - 4))) then (nilI, 82)
  else match opI ((b.take (b.length - 4)).drop 5) with
    | none => (nilI, 80)
    | some p => (p, 0)
end Go.Proofs.YtifobiajjhknbaaGreatDoor.I

namespace Go.Proofs.YtifobiajjhknbaaGreatDoor.S
open Go.RowKit W

set_option maxRecDepth 100000 in
set_option maxHeartbeats 2000000 in
theorem equal_any (A B : Option Addr) (la lb : List Int) (n m c d : Nat) (w : World) (ha : Rd w A (ivs la)) (hb : Rd w B (ivs lb)) (hn : Hid (la.length = n)) (hm : Hid (lb.length = m))
    (h1 : n ≤ 9223372036854775807) (h2 : m ≤ 9223372036854775807) (R : Bool) (hR : Hid (R = decide (la = lb))) :
    Calls Tryz.prog 91 #[.slice A n c, .slice B m d] w fun e w' => e = .returned (.bool R) ∧ Keep NoB w w' := by
  by_cases hnm : n = m
  · subst hnm
    go_enter Tryz.func91, Tryz.ntmps91
    go_wp2
    go_loopw [13] (fun i wr => ∃ k : Nat, k ≤ n ∧ i = .int .i64 k ∧ Hid (la.take k = lb.take k) ∧ Keep NoB w wr) (fun i _ => n - (intOf i).toNat)
    case atStart => exact ⟨0, Nat.zero_le _, rfl, rfl, Keep.refl _ _⟩
    case round =>
      obtain ⟨k, hk, rfl, ht, hK⟩ := hrel
      by_cases hlt : k < n
      · have hka : k < la.length := by rw [hn.out]; exact hlt
        have hkb : k < lb.length := by rw [hm.out]; exact hlt
        obtain ⟨ga, oa, rfl, hca⟩ := rdI_at ha (by omega)
        obtain ⟨gb, ob, rfl, hcb⟩ := rdI_at hb (by omega)
        have ca := hK.cell (hca k hka) id
        have cb := hK.cell (hcb k hkb) id
        have HT := Lib.hid (show la.take (k + 1) = la.take k ++ [la[k]] from List.take_succ_eq_append_getElem hka)
        have HU := Lib.hid (show lb.take (k + 1) = lb.take k ++ [lb[k]] from List.take_succ_eq_append_getElem hkb)
        clear hca hcb
        by_cases he : la[k] = lb[k]
        · have HV : Hid (la.take (k + 1) = lb.take (k + 1)) := by show _ = _; rw [HT.out, HU.out, ht.out, he]
          rw [he] at ca
          clear he HT HU ha hb
          generalize lb[k] = y at ca cb
          go_wp2
          go_quiet (fail)
          go_wp2
          go_roundw
          case rel => exact ⟨k + 1, by omega, by go_num, HV, hK.drewN _⟩
          case measure => simp [intOf]; omega
        · have hf : R = false := by
            rw [hR.out, decide_eq_false_iff_not]
            intro e
            exact he (by simp [e])
          subst hf
          clear HT HU ha hb
          generalize la[k] = x at ca he
          generalize lb[k] = y at cb he
          have hne : (x != y) = true := by rw [bne_iff_ne]; exact he
          clear he
          go_wp2
          go_quiet (fail)
          go_wp2
          go_ret
          exact ⟨rfl, hK.drewN _⟩
      · have hf : R = true := by
          rw [hR.out, decide_eq_true_iff]
          have e1 := ht.out
          rwa [List.take_of_length_le (by rw [hn.out]; omega), List.take_of_length_le (by rw [hm.out]; omega)] at e1
        subst hf
        go_wp2
        go_ret
        exact ⟨rfl, hK⟩
  · have hf : R = false := by
      rw [hR.out, decide_eq_false_iff_not]
      intro e
      exact hnm (by rw [← hn.out, ← hm.out, e])
    subst hf
    have hne : ((n : Int) != (m : Int)) = true := by rw [bne_iff_ne]; omega
    clear hnm
    go_enter Tryz.func91, Tryz.ntmps91
    go_wp2
    go_ret
    exact ⟨rfl, Keep.refl _ _⟩

set_option maxRecDepth 100000 in
set_option maxHeartbeats 4000000 in
theorem same_any (A1 : Option Addr) (a1 : List Int) (n1 c1 : Nat) (B1 : Option Addr) (r1 : List Int) (m1 d1 : Nat) (A2 : Option Addr) (a2 : List Int) (n2 c2 : Nat) (B2 : Option Addr) (r2 : List Int) (m2 d2 : Nat) (w : World)
    (ha1 : Rd w A1 (ivs a1)) (hr1 : Rd w B1 (ivs r1)) (ha2 : Rd w A2 (ivs a2)) (hr2 : Rd w B2 (ivs r2)) (hn1 : Hid (a1.length = n1)) (hm1 : Hid (r1.length = m1)) (hn2 : Hid (a2.length = n2)) (hm2 : Hid (r2.length = m2))
    (qn1 : n1 ≤ 9223372036854775807) (qm1 : m1 ≤ 9223372036854775807) (qn2 : n2 ≤ 9223372036854775807) (qm2 : m2 ≤ 9223372036854775807) (R : Bool) (hR : Hid (R = decide (a1 = a2 ∧ r1 = r2))) :
    Calls Tryz.prog 90 #[.agg #[.slice A1 n1 c1, .slice B1 m1 d1], .agg #[.slice A2 n2 c2, .slice B2 m2 d2]] w fun e w' => e = .returned (.bool R) ∧ Keep NoB w w' := by
  have bx := (Blk.new w 32 #[.slice A1 n1 c1, .slice B1 m1 d1]).alloc (.cells #[.slice A2 n2 c2, .slice B2 m2 d2] 32)
  have by2 := Blk.new (w.alloc (.cells #[.slice A1 n1 c1, .slice B1 m1 d1] 32)) 32 #[.slice A2 n2 c2, .slice B2 m2 d2]
  have k0 := ((Keep.refl NoB w).alloc (.cells #[.slice A1 n1 c1, .slice B1 m1 d1] 32)).alloc (.cells #[.slice A2 n2 c2, .slice B2 m2 d2] 32)
  rw [World.size_alloc] at by2
  have HA := Lib.hid (fun w h h' (R : Bool) hR => equal_any A1 A2 a1 a2 n1 n2 c1 c2 w h h' hn1 hn2 qn1 qn2 R hR)
  have HB := Lib.hid (fun w h h' (R : Bool) hR => equal_any B1 B2 r1 r2 m1 m2 d1 d2 w h h' hm1 hm2 qm1 qm2 R hR)
  by_cases q1 : a1 = a2
  by_cases q2 : r1 = r2
  · skip
    have HA2 := Lib.hid (fun w h h' => HA.out w h h' true (show _ = _ from (decide_eq_true q1).symm))
    have HB2 := Lib.hid (fun w h h' => HB.out w h h' true (show _ = _ from (decide_eq_true q2).symm))
    obtain rfl : R = true := by rw [hR.out, decide_eq_true_iff]; exact ⟨q1, q2⟩
    clear HA HB hR
    go_enter Tryz.func90, Tryz.ntmps90
    go_wp2_with fail
    refine (HA2.out _ (ha1.keepN k0) (ha2.keepN k0)).mono ?_
    rintro e w1 ⟨rfl, k1⟩
    obtain ⟨x0, x1⟩ := blk2 (bx.keep k1 id)
    obtain ⟨y0, y1⟩ := blk2 (by2.keep k1 id)
    go_wp2_with fail
    refine (HB2.out _ ((hr1.keepN k0).keepN k1) ((hr2.keepN k0).keepN k1)).mono ?_
    rintro e w2 ⟨rfl, k2⟩
    go_wp2
    go_ret
    exact ⟨rfl, keepN (keepN k0 k1) k2⟩
  · skip
    have HA2 := Lib.hid (fun w h h' => HA.out w h h' true (show _ = _ from (decide_eq_true q1).symm))
    have HB2 := Lib.hid (fun w h h' => HB.out w h h' false (show _ = _ from (decide_eq_false q2).symm))
    obtain rfl : R = false := by rw [hR.out, decide_eq_false_iff_not]; exact fun h => q2 h.2
    clear HA HB hR
    go_enter Tryz.func90, Tryz.ntmps90
    go_wp2_with fail
    refine (HA2.out _ (ha1.keepN k0) (ha2.keepN k0)).mono ?_
    rintro e w1 ⟨rfl, k1⟩
    obtain ⟨x0, x1⟩ := blk2 (bx.keep k1 id)
    obtain ⟨y0, y1⟩ := blk2 (by2.keep k1 id)
    go_wp2_with fail
    refine (HB2.out _ ((hr1.keepN k0).keepN k1) ((hr2.keepN k0).keepN k1)).mono ?_
    rintro e w2 ⟨rfl, k2⟩
    go_wp2
    go_ret
    exact ⟨rfl, keepN (keepN k0 k1) k2⟩
  · skip
    have HA2 := Lib.hid (fun w h h' => HA.out w h h' false (show _ = _ from (decide_eq_false q1).symm))
    obtain rfl : R = false := by rw [hR.out, decide_eq_false_iff_not]; exact fun h => q1 h.1
    clear HA HB hR
    go_enter Tryz.func90, Tryz.ntmps90
    go_wp2_with fail
    refine (HA2.out _ (ha1.keepN k0) (ha2.keepN k0)).mono ?_
    rintro e w1 ⟨rfl, k1⟩
    go_wp2
    go_ret
    exact ⟨rfl, keepN k0 k1⟩

set_option maxRecDepth 100000 in
set_option maxHeartbeats 2000000 in
theorem great_no (S A B : Option Addr) (k c0 n c m d : Nat) (w : World) (h1 : k ≤ 100) (h2 : n ≤ 100) (h3 : m ≤ 100) :
    Calls Tryz.prog 77 #[.slice S k c0, .agg #[.slice A n c, .slice B m d]] w fun e w' => e = .returned (.int .i64 0) ∧ Keep NoB w w' := by
  go_enter Tryz.func77, Tryz.ntmps77
  go_wp2
  go_ret
  exact ⟨rfl, (Keep.refl _ _).alloc _⟩
set_option maxRecDepth 100000 in
set_option maxHeartbeats 2000000 in
theorem great_yes (S A B : Option Addr) (k c0 n c m d : Nat) (w : World) (h : ¬ (k ≤ 100 ∧ n ≤ 100 ∧ m ≤ 100)) :
    Calls Tryz.prog 77 #[.slice S k c0, .agg #[.slice A n c, .slice B m d]] w fun e w' => e = .returned (.int .i64 1) ∧ Keep NoB w w' := by
  by_cases h1 : k ≤ 100
  · by_cases h2 : n ≤ 100
    · have h3 : ¬ m ≤ 100 := by omega
      clear h
      go_enter Tryz.func77, Tryz.ntmps77
      go_wp2
      go_ret
      exact ⟨rfl, (Keep.refl _ _).alloc _⟩
    · clear h
      go_enter Tryz.func77, Tryz.ntmps77
      go_wp2
      go_ret
      exact ⟨rfl, (Keep.refl _ _).alloc _⟩
  · clear h
    go_enter Tryz.func77, Tryz.ntmps77
    go_wp2
    go_ret
    exact ⟨rfl, (Keep.refl _ _).alloc _⟩

end Go.Proofs.YtifobiajjhknbaaGreatDoor.S

namespace Go.Proofs.YtifobiajjhknbaaGreatDoor.F
open Go.RowKit W

set_option maxRecDepth 100000 in
set_option maxHeartbeats 4000000 in
theorem great_no (v : FV) (w : World) (hs : SmF v) : Calls Tryz.prog 45 #[v.val] w fun e w' => e = .returned (.int .i64 0) ∧ Keep NoB w w' := by
  obtain ⟨s0, A, na, ca, B, nb, cb, L, nl, cl, D, nd, cd⟩ := v
  obtain ⟨h1, h2, h3, h4, h5⟩ := hs
  dsimp only at h1 h2 h3 h4 h5
  have k0 := (Keep.refl NoB w).alloc (.cells (FV.cells ⟨s0, A, na, ca, B, nb, cb, L, nl, cl, D, nd, cd⟩) 35)
  have HG := Lib.hid (fun w => S.great_no none A B 0 0 na ca nb cb w (Nat.zero_le _) h2 h3)
  unfold FV.val FV.cells at *
  go_enter Tryz.func45, Tryz.ntmps45
  go_wp2_with (go_at_call 77; refine (HG.out _).mono ?_; rintro e w1 ⟨rfl, k1⟩)
  go_ret
  exact ⟨rfl, keepN k0 k1⟩
theorem not_small {v : FV} (hs : ¬ SmF v) : 100 < v.S.size ∨ (v.S.size ≤ 100 ∧ 100 < v.nl) ∨ (v.S.size ≤ 100 ∧ v.nl ≤ 100 ∧ 600 < v.nd) ∨ (v.S.size ≤ 100 ∧ v.nl ≤ 100 ∧ v.nd ≤ 600 ∧ ¬ (0 ≤ 100 ∧ v.na ≤ 100 ∧ v.nb ≤ 100)) := by
  by_cases h1 : v.S.size ≤ 100
  · by_cases h2 : v.nl ≤ 100
    · by_cases h3 : v.nd ≤ 600
      · exact .inr (.inr (.inr ⟨h1, h2, h3, fun h => hs ⟨h1, h.2.1, h.2.2, h2, h3⟩⟩))
      · exact .inr (.inr (.inl ⟨h1, h2, by omega⟩))
    · exact .inr (.inl ⟨h1, by omega⟩)
  · exact .inl (by omega)
set_option maxRecDepth 100000 in
set_option maxHeartbeats 4000000 in
theorem great_yes (v : FV) (w : World) (hs : ¬ SmF v) : Calls Tryz.prog 45 #[v.val] w fun e w' => e = .returned (.int .i64 1) ∧ Keep NoB w w' := by
  have hn := not_small hs
  obtain ⟨s0, A, na, ca, B, nb, cb, L, nl, cl, D, nd, cd⟩ := v
  dsimp only at hn
  have k0 := (Keep.refl NoB w).alloc (.cells (FV.cells ⟨s0, A, na, ca, B, nb, cb, L, nl, cl, D, nd, cd⟩) 35)
  unfold FV.val FV.cells at *
  clear hs
  rcases hn with h1 | ⟨h1, h2⟩ | ⟨h1, h2, h3⟩ | ⟨h1, h2, h3, h4⟩
  · go_enter Tryz.func45, Tryz.ntmps45
    go_wp2
    go_ret
    exact ⟨rfl, k0⟩
  · go_enter Tryz.func45, Tryz.ntmps45
    go_wp2
    go_ret
    exact ⟨rfl, k0⟩
  · go_enter Tryz.func45, Tryz.ntmps45
    go_wp2
    go_ret
    exact ⟨rfl, k0⟩
  · have HG := Lib.hid (fun w => S.great_yes none A B 0 0 na ca nb cb w h4)
    clear h4
    go_enter Tryz.func45, Tryz.ntmps45
    go_wp2_with (go_at_call 77; refine (HG.out _).mono ?_; rintro e w1 ⟨rfl, k1⟩)
    go_ret
    exact ⟨rfl, keepN k0 k1⟩

end Go.Proofs.YtifobiajjhknbaaGreatDoor.F

namespace Go.Proofs.YtifobiajjhknbaaGreatDoor.I
open Go.RowKit W

/-- How many instructions there are. -/
def ndS (fs : List FE) : Nat := (fs.map fun e => e.1.nd).sum
theorem ndS_take {fs : List FE} {k : Nat} (h : k < fs.length) : ndS (fs.take (k + 1)) = ndS (fs.take k) + fs[k].1.nd := by
  unfold ndS; rw [List.take_succ_eq_append_getElem h, List.map_append, List.sum_append]; rfl
set_option maxRecDepth 100000 in
set_option maxHeartbeats 4000000 in
theorem great_any (v : IV) (es : List SE) (fs : List FE) (w : World) (h : ImAt w v es fs) (hl : LgI v es fs) :
    Calls Tryz.prog 15 #[v.val] w fun e w' => ((e = .returned (.int .i64 0) ∧ SmI es fs ∧ ndS fs ≤ 5000) ∨ e = .returned (.int .i64 1)) ∧ Keep NoB w w' := by
  have bx := Blk.new w 27 v.cells
  have k0 := (Keep.refl NoB w).alloc (.cells v.cells 27)
  have HI := Lib.hid (h.keepN k0)
  obtain ⟨q0, q1⟩ := blk2 bx
  have hlx := h.lx
  have hly := h.ly
  have hx := hl.nx
  have hy := hl.ny
  have HS := Lib.hid hl.sh
  have HF := Lib.hid hl.fn
  have HB := Lib.hid bx
  obtain ⟨X, nx, cx, Y, ny, cy⟩ := v
  dsimp only [IV.val, IV.cells] at *
  clear h hl bx
  by_cases hg : nx ≤ 70
  · by_cases hg2 : ny ≤ 70
    · go_enter Tryz.func15, Tryz.ntmps15
      go_wp2
      go_loop [3] (fun i => ∃ k : Nat, k ≤ nx ∧ i = .int .i64 k ∧ Hid (∀ e ∈ es.take k, e.1.n ≤ 100)) (fun i => nx - (intOf i).toNat)
      case atStart => exact ⟨0, Nat.zero_le _, rfl, fun e h => by simp at h⟩
      case round =>
        obtain ⟨k, hk, rfl, hT⟩ := hrel
        by_cases hlt : k < nx
        · have hke : k < es.length := by omega
          obtain ⟨g, off, rfl, c0⟩ := shape_at HI.out.rx hke
          have hL := HS.out _ (List.getElem_mem hke)
          have HT : Hid (es[k].1.n ≤ 100 → ∀ e ∈ es.take (k + 1), e.1.n ≤ 100) := fun h e he => by
            rw [List.take_succ_eq_append_getElem hke] at he
            rcases List.mem_append.1 he with he | he
            · exact hT.out e he
            · rw [List.mem_singleton.1 he]; exact h
          clear hT
          generalize es[k] = e at c0 hL HT
          obtain ⟨⟨A1, n1, d1⟩, l⟩ := e
          dsimp only [SV.val] at c0 hL HT
          by_cases h1 : n1 ≤ 100
          · have HV := Lib.hid (HT.out h1)
            clear HT
            go_wp2
            go_round
            case rel => exact ⟨k + 1, by omega, by go_num, HV⟩
            case measure => simp [intOf]; omega
          · clear HT
            go_wp2
            go_ret
            exact ⟨.inr rfl, k0⟩
        · obtain rfl : k = nx := by omega
          have HV : Hid (∀ e ∈ es, e.1.n ≤ 100) := by show ∀ e ∈ es, e.1.n ≤ 100; rw [← List.take_of_length_le (l := es) (i := k) (by omega)]; exact hT.out
          clear hT hlt
          have hF := fun e he => HF.out e he
          go_wp2
          go_loopw [4, 5] (fun s i wr => ∃ j : Nat, j ≤ ny ∧ i = .int .i64 j ∧ s = .int .i64 (ndS (fs.take j) : Nat) ∧ ndS (fs.take j) ≤ 5000 ∧ Hid (∀ e ∈ fs.take j, F.SmF e.1) ∧ Keep NoB (w.alloc (.cells #[.slice X k cx, .slice Y ny cy] 27)) wr) (fun _ i _ => ny - (intOf i).toNat)
          case atStart => exact ⟨0, Nat.zero_le _, rfl, rfl, Nat.zero_le _, fun e h => by simp at h, Keep.refl _ _⟩
          case round =>
            obtain ⟨j, hj, rfl, rfl, hs5, hT, hK⟩ := hrel
            replace q1 := hK.cell q1 id
            by_cases hlt : j < ny
            · have hje : j < fs.length := by omega
              obtain ⟨g, off, rfl, c0, c1, c2, c3, c4⟩ := fun_at (HI.out.keepN hK).ry hje
              have hL := hF _ (List.getElem_mem hje)
              have hnd := ndS_take hje
              have HT : Hid (F.SmF fs[j].1 → ∀ e ∈ fs.take (j + 1), F.SmF e.1) := fun h e he => by
                rw [List.take_succ_eq_append_getElem hje] at he
                rcases List.mem_append.1 he with he | he
                · exact hT.out e he
                · rw [List.mem_singleton.1 he]; exact h
              clear hT
              generalize fs[j] = e at c0 c1 c2 c3 c4 hL HT hnd
              obtain ⟨fv, f⟩ := e
              dsimp only at c0 c1 c2 c3 c4 hL HT hnd
              have hL4 := hL.nd
              clear hF HF HS hL
              generalize ndS (fs.take j) = N at *
              by_cases h1 : F.SmF fv
              · have HG := Lib.hid (fun w => F.great_no fv w h1)
                have HV := Lib.hid (HT.out h1)
                clear HT h1
                obtain ⟨S1, A1, na1, ca1, B1, nb1, cb1, L1, nl1, cl1, D1, nd1, cd1⟩ := fv
                dsimp only [F.FV.val, F.FV.cells] at *
                by_cases h5 : N + nd1 ≤ 5000
                · go_wp2_with fail
                  refine (HG.out _).mono ?_
                  rintro e w1 ⟨rfl, k1⟩
                  have hK1 := keepN hK k1
                  go_wp2
                  go_roundw
                  case rel => exact ⟨j + 1, by omega, by go_num, by rw [hnd]; go_num, by omega, HV, hK1⟩
                  case measure => simp [intOf]; omega
                · have h6 : (5000 : Int) < (N : Int) + (nd1 : Int) := by omega
                  go_wp2_with fail
                  refine (HG.out _).mono ?_
                  rintro e w1 ⟨rfl, k1⟩
                  have hK1 := keepN hK k1
                  go_wp2
                  go_ret
                  exact ⟨.inr rfl, keepN k0 hK1⟩
              · have HG := Lib.hid (fun w => F.great_yes fv w h1)
                clear HT h1
                obtain ⟨S1, A1, na1, ca1, B1, nb1, cb1, L1, nl1, cl1, D1, nd1, cd1⟩ := fv
                dsimp only [F.FV.val, F.FV.cells] at *
                go_wp2_with fail
                refine (HG.out _).mono ?_
                rintro e w1 ⟨rfl, k1⟩
                have hK1 := keepN hK k1
                go_wp2
                go_ret
                exact ⟨.inr rfl, keepN k0 hK1⟩
            · obtain rfl : j = ny := by omega
              have hall : fs.take j = fs := List.take_of_length_le (by omega)
              rw [hall] at hs5 hT
              have HR : Hid (SmI es fs ∧ ndS fs ≤ 5000) := ⟨⟨by omega, by omega, HV.out, hT.out⟩, hs5⟩
              clear hF HF HS HV hT hs5
              go_wp2
              go_ret
              exact ⟨.inl ⟨rfl, HR.out.1, HR.out.2⟩, keepN k0 hK⟩
    · have hd : decide ((70 : Int) < (ny : Int)) = true := by rw [decide_eq_true_iff]; omega
      go_enter Tryz.func15, Tryz.ntmps15
      go_wp2
      go_ret
      exact ⟨.inr rfl, k0⟩
  · have hd : decide ((70 : Int) < (nx : Int)) = true := by rw [decide_eq_true_iff]; omega
    go_enter Tryz.func15, Tryz.ntmps15
    go_wp2
    go_ret
    exact ⟨.inr rfl, k0⟩

end Go.Proofs.YtifobiajjhknbaaGreatDoor.I

namespace Go.Proofs.YtifobiajjhknbaaGreatDoor.F
open Go.RowKit W

set_option maxRecDepth 100000 in
set_option maxHeartbeats 8000000 in
theorem equalI_any (A B : Option Addr) (la lb : List C.I3) (n m c d : Nat) (w : World) (ha : Rd w A (C.iis la)) (hb : Rd w B (C.iis lb)) (hn : Hid (la.length = n)) (hm : Hid (lb.length = m))
    (h1 : n ≤ 9223372036854775807) (h2 : m ≤ 9223372036854775807) (R : Bool) (hR : Hid (R = decide (la = lb))) :
    Calls Tryz.prog 92 #[.slice A n c, .slice B m d] w fun e w' => e = .returned (.bool R) ∧ Keep NoB w w' := by
  by_cases hnm : n = m
  · subst hnm
    go_enter Tryz.func92, Tryz.ntmps92
    go_wp2
    go_loopw [13] (fun i wr => ∃ k : Nat, k ≤ n ∧ i = .int .i64 k ∧ Hid (la.take k = lb.take k) ∧ Keep NoB w wr) (fun i _ => n - (intOf i).toNat)
    case atStart => exact ⟨0, Nat.zero_le _, rfl, rfl, Keep.refl _ _⟩
    case round =>
      obtain ⟨k, hk, rfl, ht, hK⟩ := hrel
      by_cases hlt : k < n
      · have hka : k < la.length := by rw [hn.out]; exact hlt
        have hkb : k < lb.length := by rw [hm.out]; exact hlt
        obtain ⟨ga, oa, rfl, hca⟩ := C.rdJ_at ha (by omega)
        obtain ⟨gb, ob, rfl, hcb⟩ := C.rdJ_at hb (by omega)
        have ca0 := hK.cell (hca k hka).1 id
        have ca1 := hK.cell (hca k hka).2.1 id
        have ca2 := hK.cell (hca k hka).2.2 id
        have cb0 := hK.cell (hcb k hkb).1 id
        have cb1 := hK.cell (hcb k hkb).2.1 id
        have cb2 := hK.cell (hcb k hkb).2.2 id
        have HT := Lib.hid (show la.take (k + 1) = la.take k ++ [la[k]] from List.take_succ_eq_append_getElem hka)
        have HU := Lib.hid (show lb.take (k + 1) = lb.take k ++ [lb[k]] from List.take_succ_eq_append_getElem hkb)
        clear hca hcb
        by_cases he : la[k] = lb[k]
        · have HV : Hid (la.take (k + 1) = lb.take (k + 1)) := by show _ = _; rw [HT.out, HU.out, ht.out, he]
          rw [he] at ca0 ca1 ca2
          clear he HT HU ha hb
          generalize lb[k] = y at ca0 ca1 ca2 cb0 cb1 cb2
          obtain ⟨y0, y1, y2⟩ := y
          dsimp only at ca0 ca1 ca2 cb0 cb1 cb2
          go_wp2
          go_quiet (fail)
          go_wp2
          go_roundw
          case rel => exact ⟨k + 1, by omega, by go_num, HV, hK.drewN _⟩
          case measure => simp [intOf]; omega
        · have hf : R = false := by
            rw [hR.out, decide_eq_false_iff_not]
            intro e
            exact he (by simp [e])
          subst hf
          clear HT HU ha hb
          generalize la[k] = x at ca0 ca1 ca2 he
          generalize lb[k] = y at cb0 cb1 cb2 he
          obtain ⟨x0, x1, x2⟩ := x
          obtain ⟨y0, y1, y2⟩ := y
          dsimp only at ca0 ca1 ca2 cb0 cb1 cb2
          by_cases h0 : x0 = y0
          · subst h0
            by_cases h3 : x1 = y1
            · subst h3
              have hne : (x2 == y2) = false := by rw [beq_eq_false_iff_ne]; rintro rfl; exact he rfl
              clear he
              go_wp2
              go_quiet (fail)
              go_wp2
              go_ret
              exact ⟨rfl, hK.drewN _⟩
            · have hne : (x1 == y1) = false := by rw [beq_eq_false_iff_ne]; exact h3
              clear he h3
              go_wp2
              go_quiet (fail)
              go_wp2
              go_ret
              exact ⟨rfl, hK.drewN _⟩
          · have hne : (x0 == y0) = false := by rw [beq_eq_false_iff_ne]; exact h0
            clear he h0
            go_wp2
            go_quiet (fail)
            go_wp2
            go_ret
            exact ⟨rfl, hK.drewN _⟩
      · have hf : R = true := by
          rw [hR.out, decide_eq_true_iff]
          have e1 := ht.out
          rwa [List.take_of_length_le (by rw [hn.out]; omega), List.take_of_length_le (by rw [hm.out]; omega)] at e1
        subst hf
        go_wp2
        go_ret
        exact ⟨rfl, hK⟩
  · have hf : R = false := by
      rw [hR.out, decide_eq_false_iff_not]
      intro e
      exact hnm (by rw [← hn.out, ← hm.out, e])
    subst hf
    have hne : ((n : Int) != (m : Int)) = true := by rw [bne_iff_ne]; omega
    clear hnm
    go_enter Tryz.func92, Tryz.ntmps92
    go_wp2
    go_ret
    exact ⟨rfl, Keep.refl _ _⟩

theorem retB {a b : Bool} (h : a = b) : Ending.returned (.bool a) = .returned (.bool b) := by rw [h]
theorem same_bits (f g : Fu) : sameF f g = (decide (f.nm = g.nm) && (decide (f.ar = g.ar ∧ f.rs = g.rs) && (decide (f.lc = g.lc) && decide (f.bd = g.bd)))) := by
  unfold sameF
  simp only [Bool.decide_and]
theorem name_eq {S T : ByteArray} {s t : List UInt8} (hS : S.data.toList = s) (hT : T.data.toList = t) : (S.toList == T.toList) = decide (s = t) := by
  subst hS hT
  rw [ByteArray.toList_eq, ByteArray.toList_eq]
  by_cases h : S.data.toList = T.data.toList
  · rw [decide_eq_true h, h]; exact beq_self_eq_true _
  · rw [decide_eq_false h]; exact beq_eq_false_iff_ne.2 h

set_option maxRecDepth 100000 in
set_option maxHeartbeats 8000000 in
theorem sameF_any (v : FV) (f : Fu) (u : FV) (g : Fu) (w : World) (h : FnAt w v f) (h2 : FnAt w u g) (hs : SmF v) (hs2 : SmF u) :
    Calls Tryz.prog 54 #[v.val, u.val] w fun e w' => e = .returned (.bool (sameF f g)) ∧ Keep NoB w w' := by
  have bx := (Blk.new w 35 v.cells).alloc (.cells u.cells 35)
  have by1 := Blk.new (w.alloc (.cells v.cells 35)) 35 u.cells
  have k0 := ((Keep.refl NoB w).alloc (.cells v.cells 35)).alloc (.cells u.cells 35)
  rw [World.size_alloc] at by1
  have HF := Lib.hid (h.keepN k0)
  have HG := Lib.hid (h2.keepN k0)
  have HX := Lib.hid bx
  have HY := Lib.hid by1
  have HR := Lib.hid (same_bits f g)
  have HN := name_eq h.nm h2.nm
  have HS := Lib.hid (fun w1 hk => S.same_any v.A f.ar v.na v.ca v.B f.rs v.nb v.cb u.A g.ar u.na u.ca u.B g.rs u.nb u.cb w1 (HF.out.keepN hk).ra (HF.out.keepN hk).rb (HG.out.keepN hk).ra (HG.out.keepN hk).rb h.la h.lb h2.la h2.lb (by have := hs.na; omega) (by have := hs.nb; omega) (by have := hs2.na; omega) (by have := hs2.nb; omega) _ rfl)
  have HL := Lib.hid (fun w1 hk => S.equal_any v.L u.L f.lc g.lc v.nl u.nl v.cl u.cl w1 (HF.out.keepN hk).rl (HG.out.keepN hk).rl h.ll h2.ll (by have := hs.nl; omega) (by have := hs2.nl; omega) _ rfl)
  have HD := Lib.hid (fun w1 hk => equalI_any v.D u.D f.bd g.bd v.nd u.nd v.cd u.cd w1 (HF.out.keepN hk).rd (HG.out.keepN hk).rd h.ld h2.ld (by have := hs.nd; omega) (by have := hs2.nd; omega) _ rfl)
  generalize sameF f g = R at HR ⊢
  generalize decide (f.nm = g.nm) = b0 at HR HN
  generalize decide (f.ar = g.ar ∧ f.rs = g.rs) = b1 at HR HS
  generalize decide (f.lc = g.lc) = b2 at HR HL
  generalize decide (f.bd = g.bd) = b3 at HR HD
  obtain ⟨s0, A, na, ca, B, nb, cb, L, nl, cl, D, nd, cd⟩ := v
  obtain ⟨s1, A1, na1, ca1, B1, nb1, cb1, L1, nl1, cl1, D1, nd1, cd1⟩ := u
  unfold FV.val FV.cells at *
  dsimp only at HN HS HL HD
  clear h h2 hs hs2 bx by1 HF HG
  cases b0
  · go_enter Tryz.func54, Tryz.ntmps54
    obtain ⟨c0, c1, c2, c3, c4⟩ := blk5 (v := ⟨s0, A, na, ca, B, nb, cb, L, nl, cl, D, nd, cd⟩) HX.out
    obtain ⟨d0, d1, d2, d3, d4⟩ := blk5 (v := ⟨s1, A1, na1, ca1, B1, nb1, cb1, L1, nl1, cl1, D1, nd1, cd1⟩) HY.out
    dsimp only at c0 c1 c2 c3 c4 d0 d1 d2 d3 d4
    go_wp2
    go_ret
    exact ⟨retB HR.out.symm, k0⟩
  · cases b1
    · go_enter Tryz.func54, Tryz.ntmps54
      obtain ⟨c0, c1, c2, c3, c4⟩ := blk5 (v := ⟨s0, A, na, ca, B, nb, cb, L, nl, cl, D, nd, cd⟩) HX.out
      obtain ⟨d0, d1, d2, d3, d4⟩ := blk5 (v := ⟨s1, A1, na1, ca1, B1, nb1, cb1, L1, nl1, cl1, D1, nd1, cd1⟩) HY.out
      dsimp only at c0 c1 c2 c3 c4 d0 d1 d2 d3 d4
      go_wp2_with fail
      refine (HS.out _ (Keep.refl _ _)).mono ?_
      rintro e w1 ⟨rfl, k1⟩
      go_wp2
      go_ret
      exact ⟨retB HR.out.symm, keepN k0 k1⟩
    · cases b2
      · go_enter Tryz.func54, Tryz.ntmps54
        obtain ⟨c0, c1, c2, c3, c4⟩ := blk5 (v := ⟨s0, A, na, ca, B, nb, cb, L, nl, cl, D, nd, cd⟩) HX.out
        obtain ⟨d0, d1, d2, d3, d4⟩ := blk5 (v := ⟨s1, A1, na1, ca1, B1, nb1, cb1, L1, nl1, cl1, D1, nd1, cd1⟩) HY.out
        dsimp only at c0 c1 c2 c3 c4 d0 d1 d2 d3 d4
        go_wp2_with fail
        refine (HS.out _ (Keep.refl _ _)).mono ?_
        rintro e w1 ⟨rfl, k1⟩
        clear c0 c1 c2 c3 c4 d0 d1 d2 d3 d4
        obtain ⟨c0, c1, c2, c3, c4⟩ := blk5 (v := ⟨s0, A, na, ca, B, nb, cb, L, nl, cl, D, nd, cd⟩) (HX.out.keep k1 id)
        obtain ⟨d0, d1, d2, d3, d4⟩ := blk5 (v := ⟨s1, A1, na1, ca1, B1, nb1, cb1, L1, nl1, cl1, D1, nd1, cd1⟩) (HY.out.keep k1 id)
        dsimp only at c0 c1 c2 c3 c4 d0 d1 d2 d3 d4
        go_wp2_with fail
        refine (HL.out _ k1).mono ?_
        rintro e w2 ⟨rfl, k2⟩
        replace k2 := keepN k1 k2
        go_wp2
        go_ret
        exact ⟨retB HR.out.symm, keepN k0 k2⟩
      · cases b3
        · go_enter Tryz.func54, Tryz.ntmps54
          obtain ⟨c0, c1, c2, c3, c4⟩ := blk5 (v := ⟨s0, A, na, ca, B, nb, cb, L, nl, cl, D, nd, cd⟩) HX.out
          obtain ⟨d0, d1, d2, d3, d4⟩ := blk5 (v := ⟨s1, A1, na1, ca1, B1, nb1, cb1, L1, nl1, cl1, D1, nd1, cd1⟩) HY.out
          dsimp only at c0 c1 c2 c3 c4 d0 d1 d2 d3 d4
          go_wp2_with fail
          refine (HS.out _ (Keep.refl _ _)).mono ?_
          rintro e w1 ⟨rfl, k1⟩
          clear c0 c1 c2 c3 c4 d0 d1 d2 d3 d4
          obtain ⟨c0, c1, c2, c3, c4⟩ := blk5 (v := ⟨s0, A, na, ca, B, nb, cb, L, nl, cl, D, nd, cd⟩) (HX.out.keep k1 id)
          obtain ⟨d0, d1, d2, d3, d4⟩ := blk5 (v := ⟨s1, A1, na1, ca1, B1, nb1, cb1, L1, nl1, cl1, D1, nd1, cd1⟩) (HY.out.keep k1 id)
          dsimp only at c0 c1 c2 c3 c4 d0 d1 d2 d3 d4
          go_wp2_with fail
          refine (HL.out _ k1).mono ?_
          rintro e w2 ⟨rfl, k2⟩
          replace k2 := keepN k1 k2
          clear c0 c1 c2 c3 c4 d0 d1 d2 d3 d4
          obtain ⟨c0, c1, c2, c3, c4⟩ := blk5 (v := ⟨s0, A, na, ca, B, nb, cb, L, nl, cl, D, nd, cd⟩) (HX.out.keep k2 id)
          obtain ⟨d0, d1, d2, d3, d4⟩ := blk5 (v := ⟨s1, A1, na1, ca1, B1, nb1, cb1, L1, nl1, cl1, D1, nd1, cd1⟩) (HY.out.keep k2 id)
          dsimp only at c0 c1 c2 c3 c4 d0 d1 d2 d3 d4
          go_wp2_with fail
          refine (HD.out _ k2).mono ?_
          rintro e w3 ⟨rfl, k3⟩
          replace k3 := keepN k2 k3
          go_wp2
          go_ret
          exact ⟨retB HR.out.symm, keepN k0 k3⟩
        · go_enter Tryz.func54, Tryz.ntmps54
          obtain ⟨c0, c1, c2, c3, c4⟩ := blk5 (v := ⟨s0, A, na, ca, B, nb, cb, L, nl, cl, D, nd, cd⟩) HX.out
          obtain ⟨d0, d1, d2, d3, d4⟩ := blk5 (v := ⟨s1, A1, na1, ca1, B1, nb1, cb1, L1, nl1, cl1, D1, nd1, cd1⟩) HY.out
          dsimp only at c0 c1 c2 c3 c4 d0 d1 d2 d3 d4
          go_wp2_with fail
          refine (HS.out _ (Keep.refl _ _)).mono ?_
          rintro e w1 ⟨rfl, k1⟩
          clear c0 c1 c2 c3 c4 d0 d1 d2 d3 d4
          obtain ⟨c0, c1, c2, c3, c4⟩ := blk5 (v := ⟨s0, A, na, ca, B, nb, cb, L, nl, cl, D, nd, cd⟩) (HX.out.keep k1 id)
          obtain ⟨d0, d1, d2, d3, d4⟩ := blk5 (v := ⟨s1, A1, na1, ca1, B1, nb1, cb1, L1, nl1, cl1, D1, nd1, cd1⟩) (HY.out.keep k1 id)
          dsimp only at c0 c1 c2 c3 c4 d0 d1 d2 d3 d4
          go_wp2_with fail
          refine (HL.out _ k1).mono ?_
          rintro e w2 ⟨rfl, k2⟩
          replace k2 := keepN k1 k2
          clear c0 c1 c2 c3 c4 d0 d1 d2 d3 d4
          obtain ⟨c0, c1, c2, c3, c4⟩ := blk5 (v := ⟨s0, A, na, ca, B, nb, cb, L, nl, cl, D, nd, cd⟩) (HX.out.keep k2 id)
          obtain ⟨d0, d1, d2, d3, d4⟩ := blk5 (v := ⟨s1, A1, na1, ca1, B1, nb1, cb1, L1, nl1, cl1, D1, nd1, cd1⟩) (HY.out.keep k2 id)
          dsimp only at c0 c1 c2 c3 c4 d0 d1 d2 d3 d4
          go_wp2_with fail
          refine (HD.out _ k2).mono ?_
          rintro e w3 ⟨rfl, k3⟩
          replace k3 := keepN k2 k3
          go_wp2
          go_ret
          exact ⟨retB HR.out.symm, keepN k0 k3⟩

end Go.Proofs.YtifobiajjhknbaaGreatDoor.F

namespace Go.Proofs.YtifobiajjhknbaaGreatDoor.I
open Go.RowKit W

theorem map_take_step {α β : Type} {f : α → β} {pa pb : List α} {j : Nat} (h : (pa.map f).take j = (pb.map f).take j) (ha : j < pa.length) (hb : j < pb.length) (he : f pa[j] = f pb[j]) : (pa.map f).take (j + 1) = (pb.map f).take (j + 1) := by
  rw [List.take_succ_eq_append_getElem (by simpa using ha), List.take_succ_eq_append_getElem (by simpa using hb), h]; simp [he]
theorem map_ne {α β : Type} {f : α → β} {pa pb : List α} {j : Nat} (ha : j < pa.length) (hb : j < pb.length) (he : f pa[j] ≠ f pb[j]) : pa.map f ≠ pb.map f := by
  intro h
  have : (pa.map f)[j]? = (pb.map f)[j]? := by rw [h]
  rw [List.getElem?_map, List.getElem?_map, List.getElem?_eq_getElem ha, List.getElem?_eq_getElem hb] at this
  exact he (Option.some.inj this)
theorem map_all {α β : Type} {f : α → β} {pa pb : List α} {j : Nat} (h : (pa.map f).take j = (pb.map f).take j) (ha : pa.length = j) (hb : pb.length = j) : pa.map f = pb.map f := by
  rwa [List.take_of_length_le (by simp [ha]), List.take_of_length_le (by simp [hb])] at h

set_option maxRecDepth 100000 in
set_option maxHeartbeats 2000000 in
theorem equalSh_any (A B : Option Addr) (la lb : List Int) (n m c d : Nat) (w : World) (ha : Rd w A (ivs la)) (hb : Rd w B (ivs lb)) (hn : Hid (la.length = n)) (hm : Hid (lb.length = m))
    (h1 : n ≤ 9223372036854775807) (h2 : m ≤ 9223372036854775807) (R : Bool) (hR : Hid (R = decide (la = lb))) :
    Calls Tryz.prog 52 #[.slice A n c, .slice B m d] w fun e w' => e = .returned (.bool R) ∧ Keep NoB w w' := by
  by_cases hnm : n = m
  · subst hnm
    go_enter Tryz.func52, Tryz.ntmps52
    go_wp2
    go_loopw [13] (fun i wr => ∃ k : Nat, k ≤ n ∧ i = .int .i64 k ∧ Hid (la.take k = lb.take k) ∧ Keep NoB w wr) (fun i _ => n - (intOf i).toNat)
    case atStart => exact ⟨0, Nat.zero_le _, rfl, rfl, Keep.refl _ _⟩
    case round =>
      obtain ⟨k, hk, rfl, ht, hK⟩ := hrel
      by_cases hlt : k < n
      · have hka : k < la.length := by rw [hn.out]; exact hlt
        have hkb : k < lb.length := by rw [hm.out]; exact hlt
        obtain ⟨ga, oa, rfl, hca⟩ := rdI_at ha (by omega)
        obtain ⟨gb, ob, rfl, hcb⟩ := rdI_at hb (by omega)
        have ca := hK.cell (hca k hka) id
        have cb := hK.cell (hcb k hkb) id
        have HT := Lib.hid (show la.take (k + 1) = la.take k ++ [la[k]] from List.take_succ_eq_append_getElem hka)
        have HU := Lib.hid (show lb.take (k + 1) = lb.take k ++ [lb[k]] from List.take_succ_eq_append_getElem hkb)
        clear hca hcb
        by_cases he : la[k] = lb[k]
        · have HV : Hid (la.take (k + 1) = lb.take (k + 1)) := by show _ = _; rw [HT.out, HU.out, ht.out, he]
          rw [he] at ca
          clear he HT HU ha hb
          generalize lb[k] = y at ca cb
          go_wp2
          go_quiet (fail)
          go_wp2
          go_roundw
          case rel => exact ⟨k + 1, by omega, by go_num, HV, hK.drewN _⟩
          case measure => simp [intOf]; omega
        · have hf : R = false := by
            rw [hR.out, decide_eq_false_iff_not]
            intro e
            exact he (by simp [e])
          subst hf
          clear HT HU ha hb
          generalize la[k] = x at ca he
          generalize lb[k] = y at cb he
          have hne : (x != y) = true := by rw [bne_iff_ne]; exact he
          clear he
          go_wp2
          go_quiet (fail)
          go_wp2
          go_ret
          exact ⟨rfl, hK.drewN _⟩
      · have hf : R = true := by
          rw [hR.out, decide_eq_true_iff]
          have e1 := ht.out
          rwa [List.take_of_length_le (by rw [hn.out]; omega), List.take_of_length_le (by rw [hm.out]; omega)] at e1
        subst hf
        go_wp2
        go_ret
        exact ⟨rfl, hK⟩
  · have hf : R = false := by
      rw [hR.out, decide_eq_false_iff_not]
      intro e
      exact hnm (by rw [← hn.out, ← hm.out, e])
    subst hf
    have hne : ((n : Int) != (m : Int)) = true := by rw [bne_iff_ne]; omega
    clear hnm
    go_enter Tryz.func52, Tryz.ntmps52
    go_wp2
    go_ret
    exact ⟨rfl, Keep.refl _ _⟩

set_option maxRecDepth 100000 in
set_option maxHeartbeats 4000000 in
theorem eqfnS_any (A B : Option Addr) (pa pb : List SE) (n m c d k : Nat) (w : World) (hcf : ∀ args w, (callFunc k args).run Tryz.prog w = .ok (.enter k args) w) (hra : Hid (∀ W, Keep NoB w W → Rd W A (svs pa))) (hrb : Hid (∀ W, Keep NoB w W → Rd W B (svs pb)))
    (hn : Hid (pa.length = n)) (hm : Hid (pb.length = m)) (hn1 : n ≤ 140737488355328) (hm1 : m ≤ 140737488355328)
    (hq : Hid (∀ i (h : i < pa.length) (h' : i < pb.length) W, Keep NoB w W → Calls Tryz.prog k #[pa[i].1.val, pb[i].1.val] W fun e W' => e = .returned (.bool (decide (pa[i].2 = pb[i].2))) ∧ Keep NoB W W')) (R : Bool) (hR : Hid (R = decide ((pa.map fun e => e.2) = pb.map fun e => e.2))) :
    Calls Tryz.prog 51 #[.slice A n c, .slice B m d, .func (.func k) #[] #[]] w fun e w' => e = .returned (.bool R) ∧ Keep NoB w w' := by
  by_cases hnm : n = m
  · subst hnm
    go_enter Tryz.func51, Tryz.ntmps51
    go_wp2
    go_loopw [17] (fun i wr => ∃ j : Nat, j ≤ n ∧ i = .int .i64 j ∧ Hid ((pa.map fun e => e.2).take j = (pb.map fun e => e.2).take j) ∧ Keep NoB w wr) (fun i _ => n - (intOf i).toNat)
    case atStart => exact ⟨0, Nat.zero_le _, rfl, rfl, Keep.refl _ _⟩
    case round =>
      obtain ⟨j, hj, rfl, ht, hK⟩ := hrel
      by_cases hlt : j < n
      · have hja : j < pa.length := by rw [hn.out]; exact hlt
        have hjb : j < pb.length := by rw [hm.out]; exact hlt
        obtain ⟨ga, oa, rfl, c0⟩ := shape_at (hra.out _ hK) hja
        obtain ⟨gb, ob, rfl, d0⟩ := shape_at (hrb.out _ hK) hjb
        have HQ := Lib.hid (fun W hk => hq.out j hja hjb W (keepN hK hk))
        have HY := Lib.hid (fun he => map_take_step ht.out hja hjb he)
        have HN := Lib.hid (fun he => map_ne (f := fun e : SE => e.2) hja hjb he)
        clear ht
        generalize pa[j] = ea at c0 HQ HY HN
        generalize pb[j] = eb at d0 HQ HY HN
        obtain ⟨⟨A1, n1, e1⟩, l1⟩ := ea
        obtain ⟨⟨A2, n2, e2⟩, l2⟩ := eb
        dsimp only [SV.val] at c0 d0 HQ HY HN
        by_cases he : l1 = l2
        · have HV := Lib.hid (HY.out he)
          rw [decide_eq_true he] at HQ
          clear HY HN he
          go_wp2_with fail
          refine (HQ.out _ (Keep.refl _ _)).mono ?_
          rintro e w1 ⟨rfl, k1⟩
          have hK1 := keepN hK (keepN (Keep.refl _ _) k1)
          go_wp2
          go_roundw
          case rel => exact ⟨j + 1, by omega, by go_num, HV, hK1⟩
          case measure => simp [intOf]; omega
        · obtain rfl : R = false := by rw [hR.out, decide_eq_false_iff_not]; exact HN.out he
          rw [decide_eq_false he] at HQ
          clear HY HN he hR
          go_wp2_with fail
          refine (HQ.out _ (Keep.refl _ _)).mono ?_
          rintro e w1 ⟨rfl, k1⟩
          have hK1 := keepN hK (keepN (Keep.refl _ _) k1)
          go_wp2
          go_ret
          exact ⟨rfl, hK1⟩
      · obtain rfl : j = n := by omega
        obtain rfl : R = true := by rw [hR.out, decide_eq_true_iff]; exact map_all ht.out hn.out hm.out
        clear hR
        go_wp2
        go_ret
        exact ⟨rfl, hK⟩
  · obtain rfl : R = false := by
      rw [hR.out, decide_eq_false_iff_not]
      intro e
      have := congrArg List.length e
      rw [List.length_map, List.length_map, hn.out, hm.out] at this
      exact hnm this
    have hne : ((n : Int) != (m : Int)) = true := by rw [bne_iff_ne]; omega
    clear hnm hR
    go_enter Tryz.func51, Tryz.ntmps51
    go_wp2
    go_ret
    exact ⟨rfl, Keep.refl _ _⟩

set_option maxRecDepth 100000 in
set_option maxHeartbeats 4000000 in
theorem eqfnF_any (A B : Option Addr) (pa pb : List FE) (n m c d k : Nat) (w : World) (hcf : ∀ args w, (callFunc k args).run Tryz.prog w = .ok (.enter k args) w) (hra : Hid (∀ W, Keep NoB w W → Rd W A (fvs pa))) (hrb : Hid (∀ W, Keep NoB w W → Rd W B (fvs pb)))
    (hn : Hid (pa.length = n)) (hm : Hid (pb.length = m)) (hn1 : n ≤ 140737488355328) (hm1 : m ≤ 140737488355328)
    (hq : Hid (∀ i (h : i < pa.length) (h' : i < pb.length) W, Keep NoB w W → Calls Tryz.prog k #[pa[i].1.val, pb[i].1.val] W fun e W' => e = .returned (.bool (decide (pa[i].2 = pb[i].2))) ∧ Keep NoB W W')) (R : Bool) (hR : Hid (R = decide ((pa.map fun e => e.2) = pb.map fun e => e.2))) :
    Calls Tryz.prog 53 #[.slice A n c, .slice B m d, .func (.func k) #[] #[]] w fun e w' => e = .returned (.bool R) ∧ Keep NoB w w' := by
  by_cases hnm : n = m
  · subst hnm
    go_enter Tryz.func53, Tryz.ntmps53
    go_wp2
    go_loopw [17] (fun i wr => ∃ j : Nat, j ≤ n ∧ i = .int .i64 j ∧ Hid ((pa.map fun e => e.2).take j = (pb.map fun e => e.2).take j) ∧ Keep NoB w wr) (fun i _ => n - (intOf i).toNat)
    case atStart => exact ⟨0, Nat.zero_le _, rfl, rfl, Keep.refl _ _⟩
    case round =>
      obtain ⟨j, hj, rfl, ht, hK⟩ := hrel
      by_cases hlt : j < n
      · have hja : j < pa.length := by rw [hn.out]; exact hlt
        have hjb : j < pb.length := by rw [hm.out]; exact hlt
        obtain ⟨ga, oa, rfl, c0, c1, c2, c3, c4⟩ := fun_at (hra.out _ hK) hja
        obtain ⟨gb, ob, rfl, d0, d1, d2, d3, d4⟩ := fun_at (hrb.out _ hK) hjb
        have HQ := Lib.hid (fun W hk => hq.out j hja hjb W (keepN hK hk))
        have HY := Lib.hid (fun he => map_take_step ht.out hja hjb he)
        have HN := Lib.hid (fun he => map_ne (f := fun e : FE => e.2) hja hjb he)
        clear ht
        generalize pa[j] = ea at c0 c1 c2 c3 c4 HQ HY HN
        generalize pb[j] = eb at d0 d1 d2 d3 d4 HQ HY HN
        obtain ⟨⟨S1, A1, na1, ca1, B1, nb1, cb1, L1, nl1, cl1, D1, nd1, cd1⟩, l1⟩ := ea
        obtain ⟨⟨S2, A2, na2, ca2, B2, nb2, cb2, L2, nl2, cl2, D2, nd2, cd2⟩, l2⟩ := eb
        dsimp only [F.FV.val, F.FV.cells] at c0 c1 c2 c3 c4 d0 d1 d2 d3 d4 HQ HY HN
        have kA := (Keep.refl NoB wr).alloc (.cells #[.string S1, .slice A1 na1 ca1, .slice B1 nb1 cb1, .slice L1 nl1 cl1, .slice D1 nd1 cd1] 35)
        have kB := kA.alloc (.cells #[.string S2, .slice A2 na2 ca2, .slice B2 nb2 cb2, .slice L2 nl2 cl2, .slice D2 nd2 cd2] 35)
        have f0 := kA.cell d0 id
        have f1 := kA.cell d1 id
        have f2 := kA.cell d2 id
        have f3 := kA.cell d3 id
        have f4 := kA.cell d4 id
        obtain ⟨g0, g1, g2, g3, g4⟩ := F.blk5 (v := ⟨S1, A1, na1, ca1, B1, nb1, cb1, L1, nl1, cl1, D1, nd1, cd1⟩) ((Blk.new wr 35 #[.string S1, .slice A1 na1 ca1, .slice B1 nb1 cb1, .slice L1 nl1 cl1, .slice D1 nd1 cd1]).alloc (.cells #[.string S2, .slice A2 na2 ca2, .slice B2 nb2 cb2, .slice L2 nl2 cl2, .slice D2 nd2 cd2] 35))
        dsimp only at g0 g1 g2 g3 g4
        by_cases he : l1 = l2
        · have HV := Lib.hid (HY.out he)
          rw [decide_eq_true he] at HQ
          clear HY HN he
          go_wp2_with fail
          refine (HQ.out _ kB).mono ?_
          rintro e w1 ⟨rfl, k1⟩
          have hK1 := keepN hK (keepN kB k1)
          go_wp2
          go_roundw
          case rel => exact ⟨j + 1, by omega, by go_num, HV, hK1⟩
          case measure => simp [intOf]; omega
        · obtain rfl : R = false := by rw [hR.out, decide_eq_false_iff_not]; exact HN.out he
          rw [decide_eq_false he] at HQ
          clear HY HN he hR
          go_wp2_with fail
          refine (HQ.out _ kB).mono ?_
          rintro e w1 ⟨rfl, k1⟩
          have hK1 := keepN hK (keepN kB k1)
          go_wp2
          go_ret
          exact ⟨rfl, hK1⟩
      · obtain rfl : j = n := by omega
        obtain rfl : R = true := by rw [hR.out, decide_eq_true_iff]; exact map_all ht.out hn.out hm.out
        clear hR
        go_wp2
        go_ret
        exact ⟨rfl, hK⟩
  · obtain rfl : R = false := by
      rw [hR.out, decide_eq_false_iff_not]
      intro e
      have := congrArg List.length e
      rw [List.length_map, List.length_map, hn.out, hm.out] at this
      exact hnm this
    have hne : ((n : Int) != (m : Int)) = true := by rw [bne_iff_ne]; omega
    clear hnm hR
    go_enter Tryz.func53, Tryz.ntmps53
    go_wp2
    go_ret
    exact ⟨rfl, Keep.refl _ _⟩

theorem sameI_of (es gs : List SE) (fs hs : List FE) : sameI (imOf es fs) (imOf gs hs) = (decide ((es.map fun e => e.2) = gs.map fun e => e.2) && decide ((fs.map fun e => e.2) = hs.map fun e => e.2)) := by
  unfold sameI imOf; dsimp only; rw [Bool.decide_and]
theorem ImAt.shp {w : World} {v : IV} {es : List SE} {fs : List FE} (h : ImAt w v es fs) {i : Nat} (hi : i < es.length) : Rd w es[i].1.A (ivs es[i].2) ∧ es[i].2.length = es[i].1.n := h.hs _ (List.getElem_mem hi)
theorem ImAt.fun_ {w : World} {v : IV} {es : List SE} {fs : List FE} (h : ImAt w v es fs) {i : Nat} (hi : i < fs.length) : F.FnAt w fs[i].1 fs[i].2 := h.hf _ (List.getElem_mem hi)
theorem sme {es : List SE} {fs : List FE} (h : SmI es fs) {i : Nat} (hi : i < es.length) : es[i].1.n ≤ 100 := h.sh _ (List.getElem_mem hi)
theorem smf {es : List SE} {fs : List FE} (h : SmI es fs) {i : Nat} (hi : i < fs.length) : F.SmF fs[i].1 := h.fn _ (List.getElem_mem hi)

set_option maxRecDepth 100000 in
set_option maxHeartbeats 4000000 in
theorem same_any (v u : IV) (es gs : List SE) (fs hs : List FE) (w : World) (h : ImAt w v es fs) (h2 : ImAt w u gs hs) (hs1 : SmI es fs) (hs2 : SmI gs hs) :
    Calls Tryz.prog 18 #[v.val, u.val] w fun e w' => e = .returned (.bool (sameI (imOf es fs) (imOf gs hs))) ∧ Keep NoB w w' := by
  have bx := (Blk.new w 27 v.cells).alloc (.cells u.cells 27)
  have by0 := Blk.new (w.alloc (.cells v.cells 27)) 27 u.cells
  have k0 := ((Keep.refl NoB w).alloc (.cells v.cells 27)).alloc (.cells u.cells 27)
  rw [World.size_alloc] at by0
  have hl := h.lx
  have hl2 := h.ly
  have hl3 := h2.lx
  have hl4 := h2.ly
  have n1 := hs1.ns
  have n2 := hs1.nf
  have n3 := hs2.ns
  have n4 := hs2.nf
  have HS := Lib.hid (fun W (hk : Keep NoB w W) => eqfnS_any v.X u.X es gs v.nx u.nx v.cx u.cx 52 W (enters_of Tryz.func52 (by kernel_rfl) rfl) (fun W' hk' => (h.keepN (keepN hk hk')).rx) (fun W' hk' => (h2.keepN (keepN hk hk')).rx) hl hl3 (by omega) (by omega)
    (fun i hi hi' W' hk' => equalSh_any es[i].1.A gs[i].1.A es[i].2 gs[i].2 es[i].1.n gs[i].1.n es[i].1.c gs[i].1.c W' ((h.keepN (keepN hk hk')).shp hi).1 ((h2.keepN (keepN hk hk')).shp hi').1 (h.shp hi).2 (h2.shp hi').2 (by have := sme hs1 hi; omega) (by have := sme hs2 hi'; omega) _ rfl) _ rfl)
  have HF := Lib.hid (fun W (hk : Keep NoB w W) => eqfnF_any v.Y u.Y fs hs v.ny u.ny v.cy u.cy 54 W (enters_of Tryz.func54 (by kernel_rfl) rfl) (fun W' hk' => (h.keepN (keepN hk hk')).ry) (fun W' hk' => (h2.keepN (keepN hk hk')).ry) hl2 hl4 (by omega) (by omega)
    (fun i hi hi' W' hk' => by
      have e : F.sameF fs[i].2 hs[i].2 = decide (fs[i].2 = hs[i].2) := by rw [Bool.eq_iff_iff, F.sameF_iff, decide_eq_true_iff]
      rw [← e]
      exact F.sameF_any fs[i].1 fs[i].2 hs[i].1 hs[i].2 W' ((h.keepN (keepN hk hk')).fun_ hi) ((h2.keepN (keepN hk hk')).fun_ hi') (smf hs1 hi) (smf hs2 hi')) _ rfl)
  rw [sameI_of]
  obtain ⟨x0, x1⟩ := blk2 bx
  obtain ⟨y0, y1⟩ := blk2 by0
  have HX := Lib.hid bx
  have HY := Lib.hid by0
  generalize decide ((es.map fun e => e.2) = gs.map fun e => e.2) = r1 at *
  generalize decide ((fs.map fun e => e.2) = hs.map fun e => e.2) = r2 at *
  clear h h2 hs1 hs2 hl hl2 hl3 hl4 n1 n2 n3 n4 bx by0
  obtain ⟨X, nx, cx, Y, ny, cy⟩ := v
  obtain ⟨X2, nx2, cx2, Y2, ny2, cy2⟩ := u
  dsimp only [IV.val, IV.cells] at *
  go_enter Tryz.func18, Tryz.ntmps18
  go_wp2_with fail
  refine (HS.out _ k0).mono ?_
  rintro e w1 ⟨rfl, k1⟩
  cases r1
  · go_wp2
    go_ret
    exact ⟨rfl, keepN k0 k1⟩
  · have hx := k1.cell x1 id
    have hy := k1.cell y1 id
    go_wp2_with fail
    refine (HF.out _ (keepN k0 k1)).mono ?_
    rintro e w2 ⟨rfl, k2⟩
    go_wp2
    go_ret
    exact ⟨by simp, keepN k0 (keepN k1 k2)⟩

end Go.Proofs.YtifobiajjhknbaaGreatDoor.I

namespace Go.Proofs.YtifobiajjhknbaaGreatDoor.I
open Go.RowKit W

theorem split_at {rest : List Value} {m sz : Nat} (h : rest.length = m) (h0 : sz ≤ m) : ∃ old r, rest = old ++ r ∧ old.length = sz ∧ r.length = m - sz :=
  ⟨rest.take sz, rest.drop sz, (List.take_append_drop _ _).symm, by rw [List.length_take]; omega, by rw [List.length_drop]; omega⟩
end Go.Proofs.YtifobiajjhknbaaGreatDoor.I

namespace Go.Proofs.YtifobiajjhknbaaGreatDoor.C
open Go.ChangeShapes Go.WideShapes Go.ChangeAt Go.RowKit Go.Deep O

theorem addr_of_cell {w : World} {a : Addr} {v : Value} (h : w.cell? a = some v) : a = ⟨a.block, a.off, none⟩ := by
  obtain ⟨b, o, s⟩ := a
  cases s with
  | none => rfl
  | some s => unfold World.cell? at h; split at h <;> simp at h
theorem add_of (b o k : Nat) : (⟨b, o, none⟩ : Addr).add k = ⟨b, o + k, none⟩ := by unfold Addr.add; by_cases hk : k = 0 <;> simp [hk]

section
variable {H : Type} {enc : TypeId × Value → H} {W : World} {base : Nat} {spare : Nat → Bool} {held : Bool} {fuel : Nat} {cs : List Value} {x : DataW H × List MemPlace}
set_option maxRecDepth 100000 in
theorem read_insts (h : DataW.trod enc Tryz.prog W base spare held fuel 33 cs = some x) : ∃ A l c, cs = [.slice A l.length c] ∧ Rd W A (iis l) ∧ l.length ≤ c ∧ c ≤ maxLen ∧ AllI l := by
  rcases open_slice Tryz.underlying33 h with ⟨hcs, _⟩ | ⟨a, len, cap, m, n, D, Pl, hcs, _, hl, hm, hmm, _, hi⟩
  · exact ⟨none, [], 0, hcs, Rd.none_ _ _, Nat.le_refl _, Nat.zero_le _, fun _ h => by simp at h⟩
  · have hlm : len ≤ m := by rw [hmm]; split <;> omega
    have cI : Tryz.prog.cellsOf 37 = 3 := by kernel_rfl
    have c3 : Tryz.prog.cellsOf 3 = 1 := by kernel_rfl
    have c2 : Tryz.prog.cellsOf 2 = 1 := by kernel_rfl
    have each : ∀ i : Nat, ∃ v : I3, i < len → W.cell? (a.add (i * 3)) = some (.int .i64 v.1) ∧ W.cell? ((a.add (i * 3)).add 1) = some (.int .i64 v.2.1) ∧ W.cell? ((a.add (i * 3)).add 2) = some (.int .i64 v.2.2) ∧ O.I64 v.2.1 ∧ O.I64 v.2.2 := by
      intro i
      by_cases hlt : i < len
      · obtain ⟨cs', hc, ht'⟩ := hi i (by omega)
        rw [cI] at hc
        obtain ⟨y0, y1, y2, k, _, hlen, h0, h1, h2⟩ := trod_struct3 Tryz.underlying37 ht'
        obtain ⟨_, hcl, hat⟩ := World.cells?_some hc
        match cs', hcl with
        | [u0, u1, u2], _ =>
          have g0 := hat 0 (by omega)
          have g1 := hat 1 (by omega)
          have g2 := hat 2 (by omega)
          obtain ⟨z0, e0, _, w0⟩ := DataW.trod_int Tryz.underlying3 h0
          obtain ⟨z1, e1, _, w1⟩ := DataW.trod_int Tryz.underlying2 h1
          obtain ⟨z2, e2, _, w2⟩ := DataW.trod_int Tryz.underlying2 h2
          simp [c3] at e0
          simp [c2] at e1
          simp [c2] at e2
          subst e0 e1 e2
          exact ⟨(z0, z1, z2), fun _ => ⟨by simpa [Addr.add] using g0, by simpa using g1, by simpa using g2, i64_of_wf w1, i64_of_wf w2⟩⟩
      · exact ⟨(0, 0, 0), fun h => absurd h hlt⟩
    obtain ⟨f, hf⟩ := Classical.axiomOfChoice each
    have hlen : ((List.range len).map f).length = len := by simp
    refine ⟨some a, (List.range len).map f, cap, by rw [hlen]; exact hcs, fun h0 => ?_, by rw [hlen]; exact hl, hm, fun v hv => ?_⟩
    · have h0' : 0 < len := by rw [iis_length, hlen] at h0; omega
      have ea := addr_of_cell (hf 0 h0').1
      have ea' : a = ⟨a.block, a.off, none⟩ := by simpa [Addr.add] using ea
      refine ⟨a.block, a.off, by rw [← ea'], fun j u hu => ?_⟩
      have hj : j < len * 3 := by have := (List.getElem?_eq_some_iff.1 hu).1; rw [iis_length, hlen] at this; exact this
      have hd : j / 3 < len := by omega
      obtain ⟨k0, k1, k2, _⟩ := hf (j / 3) hd
      obtain ⟨q0, q1, q2⟩ := iis_at ((List.range len).map f) (j / 3) (by rw [hlen]; exact hd)
      rw [ea', add_of] at k0 k1 k2
      rw [add_of] at k1 k2
      simp only [List.getElem_map, List.getElem_range] at q0 q1 q2
      have hm3 : j % 3 = 0 ∨ j % 3 = 1 ∨ j % 3 = 2 := by omega
      rcases hm3 with hr | hr | hr
      · have ej : j = j / 3 * 3 := by omega
        rw [ej, q0] at hu
        rw [ej, k0]; exact hu
      · have ej : j = j / 3 * 3 + 1 := by omega
        rw [ej, q1] at hu
        rw [ej, ← Nat.add_assoc, k1]; exact hu
      · have ej : j = j / 3 * 3 + 2 := by omega
        rw [ej, q2] at hu
        rw [ej, ← Nat.add_assoc, k2]; exact hu
    · obtain ⟨i, hi', rfl⟩ := List.mem_map.1 hv
      exact ⟨(hf i (List.mem_range.1 hi')).2.2.2.1, (hf i (List.mem_range.1 hi')).2.2.2.2⟩
end
section
variable {H : Type} {enc : TypeId × Value → H} {w : World} {base b0 : Nat} {spare : Nat → Bool} {held : Bool} {r : Reach} {v : Value} {d : DataW H} {p : List MemPlace}
end

end Go.Proofs.YtifobiajjhknbaaGreatDoor.C

namespace Go.Proofs.YtifobiajjhknbaaGreatDoor.I
open Go.RowKit W

theorem own_rdI {w : World} {O : Nat → Prop} {A : Option Addr} {n c : Nat} {l : List UInt8} (h : V.OwnB w O (.slice A n c) l) : V.Rd w A l := by
  obtain ⟨A', c', e, _, hr, _⟩ := h.form
  cases e; exact hr
end Go.Proofs.YtifobiajjhknbaaGreatDoor.I

namespace Go.Proofs.YtifobiajjhknbaaGreatDoor.F
open Go.ChangeShapes Go.WideShapes Go.ChangeAt Go.RowKit Go.Deep W

section
variable {H : Type} {enc : TypeId × Value → H} {W0 : World} {base : Nat} {spare : Nat → Bool} {held : Bool} {fuel : Nat} {cs : List Value} {x : DataW H × List MemPlace}
theorem read_ints (h : DataW.trod enc Tryz.prog W0 base spare held fuel 30 cs = some x) : ∃ A l c, cs = [.slice A l.length c] ∧ Rd W0 A (ivs l) ∧ l.length ≤ c ∧ c ≤ maxLen := by
  rcases open_ints Tryz.underlying30 Tryz.underlying3 (by kernel_rfl) h with ⟨hcs, _⟩ | ⟨a, len, cap, zs, hcs, _, hl, hm, hz, _, hcell, _⟩
  · exact ⟨none, [], 0, hcs, Rd.none_ _ _, Nat.le_refl _, Nat.zero_le _⟩
  · have hzl : len ≤ zs.length := by rw [hz]; split <;> omega
    have hlen : (zs.take len).length = len := by rw [List.length_take]; omega
    refine ⟨some a, zs.take len, cap, by rw [hlen]; exact hcs, fun h0 => ?_, by rw [hlen]; exact hl, hm⟩
    have h0' : 0 < len := by rw [List.length_map, hlen] at h0; exact h0
    have ea := C.addr_of_cell (hcell 0 (by omega))
    have ea' : a = ⟨a.block, a.off, none⟩ := by simpa [Addr.add] using ea
    refine ⟨a.block, a.off, by rw [← ea'], fun j u hu => ?_⟩
    obtain ⟨hj, hju⟩ := List.getElem?_eq_some_iff.1 hu
    have hj' : j < len := by simp at hj; omega
    have hc := hcell j (by omega)
    rw [ea', C.add_of] at hc
    rw [hc]
    simp at hju
    rw [← hju]
    simp [List.getD, List.getElem?_eq_getElem (show j < zs.length by omega)]
end
section
variable {H : Type} {enc : TypeId × Value → H} {w : World} {base b0 : Nat} {spare : Nat → Bool} {held : Bool} {r : Reach} {v : Value} {d : DataW H} {p : List MemPlace}
end

end Go.Proofs.YtifobiajjhknbaaGreatDoor.F

namespace Go.Proofs.YtifobiajjhknbaaGreatDoor.I
open Go.ChangeShapes Go.WideShapes Go.ChangeAt Go.RowKit Go.Deep W

section
variable {H : Type} {enc : TypeId × Value → H} {W0 : World} {base : Nat} {spare : Nat → Bool} {held : Bool} {fuel : Nat} {cs : List Value} {x : DataW H × List MemPlace}
/-- What is read weighs no more than memory holds. -/
def Wt (t : TypeId) (d : DataW H) : Prop := ∀ k ∈ d.weights Tryz.prog t, k ≤ reachBytes
theorem wt_slice {t E : TypeId} {xs ys : List (DataW H)} (ht : Tryz.prog.underlying t = some (.slice E)) (hw : Wt t (.slice xs ys)) : (∀ d ∈ xs, Wt E d) ∧ (xs.length + ys.length) * Tryz.prog.bytesOf E ≤ reachBytes := by
  have all : ∀ (l : List (DataW H)) (d : DataW H), d ∈ l → ∀ k ∈ d.weights Tryz.prog E, k ∈ DataW.weightsAll Tryz.prog E l := by
    intro l
    induction l with
    | nil => intro d hd; cases hd
    | cons a l ih =>
      intro d hd k hk
      rw [DataW.weightsAll, List.mem_append]
      rcases List.mem_cons.1 hd with rfl | hd
      · exact .inl hk
      · exact .inr (ih d hd k hk)
  refine ⟨fun d hd k hk => hw k ?_, hw _ ?_⟩
  · simp only [DataW.weights, ht, List.mem_cons, List.mem_append]
    exact .inr (.inl (all xs d hd k hk))
  · simp only [DataW.weights, ht, List.mem_cons, true_or]
theorem wt_struct {t : TypeId} {fl : Array Field} {xs : List (DataW H)} (ht : Tryz.prog.underlying t = some (.struct fl)) (hw : Wt t (.agg xs)) {j : Nat} {f : Field} {d : DataW H} (hf : fl.toList[j]? = some f) (hd : xs[j]? = some d) : Wt f.type d := fun k hk => hw k (by
  simp only [DataW.weights, ht]
  exact DataW.weights_mem_each (j := j) (by simpa using congrArg (Option.map (·.type)) hf) hd k hk)
theorem wt_len {t E : TypeId} {A : Option Addr} {n c : Nat} (ht : Tryz.prog.underlying t = some (.slice E)) (hb : Nat.ble 1 (Tryz.prog.bytesOf E) = true) (h : DataW.trod enc Tryz.prog W0 base spare held fuel t [.slice A n c] = some x) (hw : Wt t x.1) : n ≤ 140737488355328 := by
  have hr : reachBytes ≤ 140737488355328 := by decide
  rcases open_slice ht h with ⟨hcs, _⟩ | ⟨a, len, cap, m, k, D, Pl, hcs, _, hl, hm, hmm, hx, _⟩
  · simp only [List.cons.injEq, Value.slice.injEq, and_true] at hcs; omega
  · simp only [List.cons.injEq, Value.slice.injEq, and_true] at hcs
    obtain ⟨_, rfl, _⟩ := hcs
    subst hx
    have h2 := (wt_slice ht hw).2
    simp only [List.length_map, List.length_range] at h2
    have h3 : n * 1 ≤ (n + (m - n)) * Tryz.prog.bytesOf E := Nat.mul_le_mul (Nat.le_add_right _ _) (Nat.le_of_ble_eq_true hb)
    omega
theorem read_shape (h : DataW.trod enc Tryz.prog W0 base spare held fuel 53 cs = some x) : ∃ e : SE, cs = [e.1.val] ∧ ShAt W0 e.1 e.2 ∧ e.1.n ≤ maxLen := by
  rcases open_ints Tryz.underlying53 Tryz.underlying3 (by kernel_rfl) h with ⟨hcs, _⟩ | ⟨a, len, cap, zs, hcs, _, hl, hm, hz, _, hcell, _⟩
  · exact ⟨(⟨none, 0, 0⟩, []), hcs, ⟨Rd.none_ _ _, rfl⟩, Nat.zero_le _⟩
  · have hzl : len ≤ zs.length := by rw [hz]; split <;> omega
    have hlen : (zs.take len).length = len := by rw [List.length_take]; omega
    refine ⟨(⟨some a, len, cap⟩, zs.take len), hcs, ⟨fun h0 => ?_, hlen⟩, Nat.le_trans hl hm⟩
    have h0' : 0 < len := by rw [List.length_map, hlen] at h0; exact h0
    have ea := C.addr_of_cell (hcell 0 (by omega))
    have ea' : a = ⟨a.block, a.off, none⟩ := by simpa [Addr.add] using ea
    refine ⟨a.block, a.off, by dsimp only; rw [← ea'], fun j u hu => ?_⟩
    obtain ⟨hj, hju⟩ := List.getElem?_eq_some_iff.1 hu
    have hj' : j < len := by simp at hj; omega
    have hc := hcell j (by omega)
    rw [ea', C.add_of] at hc
    rw [hc]
    simp at hju
    rw [← hju]
    simp [List.getD, List.getElem?_eq_getElem (show j < zs.length by omega)]
set_option maxRecDepth 100000 in
theorem read_fun (hsz : cs.length = 5) (h : DataW.trod enc Tryz.prog W0 base spare held fuel 35 cs = some x) : ∃ e : FE, cs = e.1.cells.toList ∧ F.FnAt W0 e.1 e.2 ∧ (Wt 35 x.1 → F.LgF e.1) := by
  have k9 : Tryz.prog.cellsOf 9 = 1 := by kernel_rfl
  have k24 : Tryz.prog.cellsOf 32 = 2 := by kernel_rfl
  have k22 : Tryz.prog.cellsOf 30 = 1 := by kernel_rfl
  have k25 : Tryz.prog.cellsOf 33 = 1 := by kernel_rfl
  match cs, hsz with
  | [c0, c1, c2, c3, c4], _ =>
  obtain ⟨y0, y1, y2, y3, n, rfl, _, h0, h1, h2, h3⟩ := Joins.trod_struct4 Tryz.underlying35 h
  simp only [k9, k24, k22, k25, List.drop_zero, List.drop_succ_cons, List.take_succ_cons, List.take_zero] at h0 h1 h2 h3
  obtain ⟨s0, e0, x0, _⟩ := DataW.trod_string Tryz.underlying9 h0
  obtain ⟨z0, z1, n1, x1, _, g0, g1⟩ := trod_struct2 Tryz.underlying32 h1
  simp only [k22, List.drop_zero, List.drop_succ_cons, List.take_succ_cons, List.take_zero] at g0 g1
  obtain ⟨A, a, ca, e1, ra, _, _⟩ := F.read_ints g0
  obtain ⟨B, b, cb, e2, rb, _, _⟩ := F.read_ints g1
  obtain ⟨L, l, cl, e3, rl, _, _⟩ := F.read_ints h2
  obtain ⟨D, bd, cd, e4, rd, _, _, hI⟩ := C.read_insts h3
  simp only [List.cons.injEq, and_true] at e0 e1 e2 e3 e4
  subst e0 e1 e2 e3 e4
  refine ⟨(⟨s0, A, a.length, ca, B, b.length, cb, L, l.length, cl, D, bd.length, cd⟩, ⟨s0.data.toList, a, b, l, bd⟩), rfl, ⟨rfl, ra, rb, rl, rd, rfl, rfl, rfl, rfl, hI⟩, fun hw => ?_⟩
  have w0 := wt_struct (j := 0) Tryz.underlying35 hw rfl rfl
  have w1 := wt_struct (j := 1) Tryz.underlying35 hw rfl rfl
  have w2 := wt_struct (j := 2) Tryz.underlying35 hw rfl rfl
  have w3 := wt_struct (j := 3) Tryz.underlying35 hw rfl rfl
  subst x0 x1
  have v0 := wt_struct (j := 0) Tryz.underlying32 w1 rfl rfl
  have v1 := wt_struct (j := 1) Tryz.underlying32 w1 rfl rfl
  refine ⟨?_, wt_len Tryz.underlying30 (by kernel_rfl) g0 v0, wt_len Tryz.underlying30 (by kernel_rfl) g1 v1, wt_len Tryz.underlying30 (by kernel_rfl) h2 w2, wt_len Tryz.underlying33 (by kernel_rfl) h3 w3⟩
  have := w0 s0.data.toList.length (by simp [DataW.weights])
  have hr : reachBytes ≤ 140737488355328 := by decide
  have e : s0.data.toList.length = s0.size := Array.length_toList
  dsimp only
  omega
theorem add_zero_addr (a : Addr) : a.add 0 = a := by simp [Addr.add]
set_option maxRecDepth 100000 in
theorem read_shapes (h : DataW.trod enc Tryz.prog W0 base spare held fuel 24 cs = some x) : ∃ X, ∃ es : List SE, ∃ c, cs = [.slice X es.length c] ∧ Rd W0 X (svs es) ∧ (∀ e ∈ es, ShAt W0 e.1 e.2 ∧ e.1.n ≤ maxLen) ∧ es.length ≤ c ∧ c ≤ maxLen ∧ (Wt 24 x.1 → ∀ e ∈ es, e.1.n ≤ 140737488355328) := by
  rcases open_slice Tryz.underlying24 h with ⟨hcs, _⟩ | ⟨a, len, cap, m, n, D, Pl, hcs, _, hl, hm, hmm, rfl, hi⟩
  · exact ⟨none, [], 0, hcs, Rd.none_ _ _, (fun _ h => nomatch h), Nat.le_refl _, Nat.zero_le _, fun _ _ h => nomatch h⟩
  · have hlm : len ≤ m := by rw [hmm]; split <;> omega
    have c1 : Tryz.prog.cellsOf 53 = 1 := by kernel_rfl
    have each : ∀ i : Nat, ∃ e : SE, i < len → W0.cell? (a.add i) = some e.1.val ∧ (ShAt W0 e.1 e.2 ∧ e.1.n ≤ maxLen) ∧ (Wt 53 (D i) → e.1.n ≤ 140737488355328) := by
      intro i
      by_cases hlt : i < len
      · obtain ⟨cs', hc, ht'⟩ := hi i (by omega)
        rw [c1, Nat.mul_one] at hc
        obtain ⟨e, he, hs, hn⟩ := read_shape ht'
        obtain ⟨_, hcl, hat⟩ := World.cells?_some hc
        have g0 := hat 0 (by omega)
        refine ⟨e, fun _ => ⟨?_, ⟨hs, hn⟩, fun hw => ?_⟩⟩
        rotate_left
        · rw [he] at ht'
          exact wt_len Tryz.underlying53 (by kernel_rfl) ht' hw
        rw [he] at g0
        rw [add_zero_addr] at g0
        simpa using g0
      · exact ⟨(⟨none, 0, 0⟩, []), fun h => absurd h hlt⟩
    obtain ⟨f, hf⟩ := Classical.axiomOfChoice each
    have hlen : ((List.range len).map f).length = len := by simp
    refine ⟨some a, (List.range len).map f, cap, by rw [hlen]; exact hcs, fun h0 => ?_, fun e he => ?_, by rw [hlen]; exact hl, hm, fun hw e he => ?_⟩
    · have h0' : 0 < len := by rw [svs_length, hlen] at h0; omega
      have ea := C.addr_of_cell (hf 0 h0').1
      have ea' : a = ⟨a.block, a.off, none⟩ := by simpa [Addr.add] using ea
      refine ⟨a.block, a.off, by rw [← ea'], fun j u hu => ?_⟩
      have hj : j < len := by have := (List.getElem?_eq_some_iff.1 hu).1; rw [svs_length, hlen] at this; exact this
      have q0 := svs_at ((List.range len).map f) j (by rw [hlen]; exact hj)
      have k0 := (hf j hj).1
      rw [ea', C.add_of] at k0
      rw [q0] at hu
      simp only [List.getElem_map, List.getElem_range] at hu
      rw [k0]; exact hu
    · obtain ⟨i, hi', rfl⟩ := List.mem_map.1 he
      exact (hf i (List.mem_range.1 hi')).2.1
    · obtain ⟨i, hi', rfl⟩ := List.mem_map.1 he
      exact (hf i (List.mem_range.1 hi')).2.2 ((wt_slice Tryz.underlying24 hw).1 _ (List.mem_map.2 ⟨i, hi', rfl⟩))
set_option maxRecDepth 100000 in
theorem read_funs (h : DataW.trod enc Tryz.prog W0 base spare held fuel 25 cs = some x) : ∃ Y, ∃ fs : List FE, ∃ c, cs = [.slice Y fs.length c] ∧ Rd W0 Y (fvs fs) ∧ (∀ e ∈ fs, F.FnAt W0 e.1 e.2) ∧ fs.length ≤ c ∧ c ≤ maxLen ∧ (Wt 25 x.1 → ∀ e ∈ fs, F.LgF e.1) := by
  rcases open_slice Tryz.underlying25 h with ⟨hcs, _⟩ | ⟨a, len, cap, m, n, D, Pl, hcs, _, hl, hm, hmm, rfl, hi⟩
  · exact ⟨none, [], 0, hcs, Rd.none_ _ _, (fun _ h => nomatch h), Nat.le_refl _, Nat.zero_le _, fun _ _ h => nomatch h⟩
  · have hlm : len ≤ m := by rw [hmm]; split <;> omega
    have c5 : Tryz.prog.cellsOf 35 = 5 := by kernel_rfl
    have each : ∀ i : Nat, ∃ e : FE, i < len → (∀ j u, e.1.cells.toList[j]? = some u → W0.cell? ((a.add (i * 5)).add j) = some u) ∧ F.FnAt W0 e.1 e.2 ∧ (Wt 35 (D i) → F.LgF e.1) := by
      intro i
      by_cases hlt : i < len
      · obtain ⟨cs', hc, ht'⟩ := hi i (by omega)
        rw [c5] at hc
        obtain ⟨_, hcl, hat⟩ := World.cells?_some hc
        obtain ⟨e, rfl, hs⟩ := read_fun hcl ht'
        refine ⟨e, fun _ => ⟨fun j u hu => ?_, hs⟩⟩
        have hj : j < 5 := by rw [← hcl]; exact (List.getElem?_eq_some_iff.1 hu).1
        rw [hat j hj]; exact hu
      · exact ⟨(F.nilV, F.nilF), fun h => absurd h hlt⟩
    obtain ⟨f, hf⟩ := Classical.axiomOfChoice each
    have hlen : ((List.range len).map f).length = len := by simp
    refine ⟨some a, (List.range len).map f, cap, by rw [hlen]; exact hcs, fun h0 => ?_, fun e he => ?_, by rw [hlen]; exact hl, hm, fun hw e he => ?_⟩
    · have h0' : 0 < len := by rw [fvs_length, hlen] at h0; omega
      have ea := C.addr_of_cell ((hf 0 h0').1 0 _ rfl)
      have ea' : a = ⟨a.block, a.off, none⟩ := by simpa [Addr.add] using ea
      refine ⟨a.block, a.off, by rw [← ea'], fun j u hu => ?_⟩
      have hj : j < len * 5 := by have := (List.getElem?_eq_some_iff.1 hu).1; rw [fvs_length, hlen] at this; exact this
      have hd : j / 5 < len := by omega
      have q0 := fvs_at ((List.range len).map f) (j / 5) (j % 5) (by rw [hlen]; exact hd) (by omega)
      rw [show j / 5 * 5 + j % 5 = j by omega, hu] at q0
      simp only [List.getElem_map, List.getElem_range] at q0
      have k0 := (hf (j / 5) hd).1 (j % 5) u q0.symm
      rw [ea', C.add_of, C.add_of, Nat.add_assoc, show j / 5 * 5 + j % 5 = j by omega] at k0
      exact k0
    · obtain ⟨i, hi', rfl⟩ := List.mem_map.1 he
      exact (hf i (List.mem_range.1 hi')).2.1
    · obtain ⟨i, hi', rfl⟩ := List.mem_map.1 he
      exact (hf i (List.mem_range.1 hi')).2.2 ((wt_slice Tryz.underlying25 hw).1 _ (List.mem_map.2 ⟨i, hi', rfl⟩))
end
section
variable {H : Type} {enc : TypeId × Value → H} {w : World} {base b0 : Nat} {spare : Nat → Bool} {held : Bool} {r : Reach} {v : Value} {d : DataW H} {p : List MemPlace}
theorem array2 {α : Type} {cs : Array α} (h : cs.size = 2) : ∃ c0 c1, cs = #[c0, c1] := by
  obtain ⟨l⟩ := cs
  match l, h with
  | [c0, c1], _ => exact ⟨c0, c1, rfl⟩
set_option maxRecDepth 100000 in
theorem open_img (hv : Value.okWide Tryz.prog w r b0 27 v) (h : DataW.Trod enc Tryz.prog w base spare held 27 v d p) : ∃ (iv : IV) (es : List SE) (fs : List FE), v = iv.val ∧ ImAt w iv es fs ∧ (Wt 27 d → LgI iv es fs) := by
  have k0 : Tryz.prog.cellsOf 24 = 1 := by kernel_rfl
  have k1 : Tryz.prog.cellsOf 25 = 1 := by kernel_rfl
  obtain ⟨cs, rfl, hsz⟩ := okWide_struct Tryz.underlying27 hv
  obtain ⟨c0, c1, rfl⟩ := array2 (hsz.trans (by kernel_rfl))
  obtain ⟨fuel, hf⟩ := h
  obtain ⟨z0, z1, n1, hx, _, g0, g1⟩ := trod_struct2 Tryz.underlying27 hf
  obtain ⟨rfl, _⟩ := Prod.mk.inj hx
  simp only [Value.cells, k0, k1, List.drop_zero, List.drop_succ_cons, List.take_succ_cons, List.take_zero] at g0 g1
  obtain ⟨X, es, cx, e1, rx, hs, _, _, ws⟩ := read_shapes g0
  obtain ⟨Y, fs, cy, e2, ry, hfn, _, _, wf⟩ := read_funs g1
  simp only [List.cons.injEq, and_true] at e1 e2
  subst e1 e2
  refine ⟨⟨X, es.length, cx, Y, fs.length, cy⟩, es, fs, rfl, ⟨rx, ry, rfl, rfl, fun e he => (hs e he).1, hfn⟩, fun hw => ?_⟩
  have w0 := wt_struct (j := 0) Tryz.underlying27 hw rfl rfl
  have w1 := wt_struct (j := 1) Tryz.underlying27 hw rfl rfl
  exact ⟨wt_len Tryz.underlying24 (by kernel_rfl) g0 w0, wt_len Tryz.underlying25 (by kernel_rfl) g1 w1, ws w0, wf w1⟩
end

/-- The wrap that hands on the world's shape, and how much is read at most. -/
theorem handed_sized {H : Type} {enc : TypeId × Value → H} {a : Assume} {C : Checked} {os : Os} {f : FuncId} {fn : Func} {s : ChangeSpec} {conds : List PathCond} {apart fresh handsOn again : Bool} {X : World → Array Value → Prop}
    (hX : ∀ (w w' : World) (args : Array Value), w.heap = w'.heap → X w args → X w' args) (own : ownKnob C.prog.godebug = none) (started : os.Started) (noInit : C.prog.inits.idxOf? f = none) (hfn : C.prog.funcs[f]? = some fn)
    (witness : ∃ (w : World) (tape : Tape) (i : Input), w.os = os ∧ (w.forCall tape i).Shaped C.prog ∧ i.vars = [] ∧ Input.okWide C.prog (w.forCall tape i) .any w.heap.size f i ∧
      ((s.pre enc C.prog fn conds apart (w.forCall tape i).memory i.args ∧ X (w.forCall tape i).memory i.args) ∧ sizedMet enc C.prog fn (OpenSpec.ofChange s) apart (w.forCall tape i).memory i.args) ∧ a.holds C.prog (lone (Frame.enter C.prog f i.args .normal) [] (w.forCall tape i)))
    (contract : ∀ (W : World) (base : Nat) (args : Array Value) (ds gs : List (DataW H)) (before : List MemPlace),
      (∀ (j : Nat) t v, fn.params[j]? = some t → args[j]? = some v → Value.okWide C.prog W .any base t v) → DataW.Whole enc C.prog fn.params.toList s.vars apart W args.toList ds gs before →
      W.ShapedOpen C.prog → X W args → (DataW.weightsEach C.prog (fn.params.toList ++ s.plain.varTypes C.prog) (ds ++ gs)).all (· ≤ reachBytes) = true →
      Calls C.prog f args W fun e W' => ∃ v, e = .returned v ∧ s.post enc C.prog fn apart fresh handsOn again W args v W') :
    ReturnsInHanded a C os f .any (fun w args => (s.pre enc C.prog fn conds apart w args ∧ X w args) ∧ sizedMet enc C.prog fn (OpenSpec.ofChange s) apart w args) (s.post enc C.prog fn apart fresh handsOn again) := by
  refine returnsInHanded_of_calls own started noInit witness ?_
  intro w tape i _ hsh _ hok hpre _
  obtain ⟨_, _, _, fn', hfn', _, _, _, _, hval⟩ := hok
  obtain rfl : fn' = fn := Option.some.inj (hfn'.symm.trans hfn)
  obtain ⟨⟨⟨ds, gs, before, hw, _⟩, hx⟩, hz⟩ := hpre
  have hw' := DataW.Whole.of_heap (w' := w.forCall tape i) (by rfl) hw
  refine (contract (w.forCall tape i) w.heap.size i.args ds gs before hval hw' hsh (hX _ _ _ (by rfl) hx) (hz.weights hw)).mono fun e W' ⟨v, he, hp⟩ => ?_
  subst he
  exact ChangeSpec.post_blind hp
theorem wt_arg {H : Type} {ts : List TypeId} {ds : List (DataW H)} (h : (DataW.weightsEach Tryz.prog ts ds).all (· ≤ reachBytes) = true) {j : Nat} {t : TypeId} {d : DataW H} (ht : ts[j]? = some t) (hd : ds[j]? = some d) : Wt t d :=
  fun k hk => by simpa using List.all_eq_true.1 h _ (DataW.weights_mem_each ht hd k hk)

section
variable {H : Type} {enc : TypeId × Value → H} {w : World} {base b0 : Nat} {spare : Nat → Bool} {held : Bool} {r : Reach} {v : Value} {d : DataW H} {p : List MemPlace}
end
section
variable {H : Type} {enc : TypeId × Value → H} {P : Program} {w : World} {base : Nat} {spare : Nat → Bool} {held : Bool}
end

end Go.Proofs.YtifobiajjhknbaaGreatDoor.I
