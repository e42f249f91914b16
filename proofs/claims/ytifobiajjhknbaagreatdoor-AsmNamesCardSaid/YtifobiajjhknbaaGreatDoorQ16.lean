/-
  The law's alive; what Parse, Normal and alive answer in worlds in which what is laid is laid. No program but the walk's.
-/
import Derived.BigQuiet
import Derived.ChangeSame
import Derived.Deep.AppendLies
import Derived.Deep.CutRange
import Derived.Deep.DeepFit
import Derived.Deep.Draws
import Derived.Deep.Fields
import Derived.Deep.OwnRows
import Derived.Deep.QuietTactic
import Derived.Deep.RegionHeld3
import Derived.Deep.RegionLaw
import Derived.Deep.RegionWith
import Derived.Deep.Slices
import Derived.Deep.Strs
import Derived.Deep.WholeRow
import Derived.HandedShaped
import Derived.IntWalk
import Derived.LaidLaws
import Derived.LaidMore
import Derived.Laws.Bits64
import Derived.Laws.BitsAllLaws
import Derived.Laws.CopyOwn
import Derived.Laws.EntriesVeiled
import Derived.Laws.OwnMore
import Derived.Laws.RangeAny
import Derived.Laws.RangeString
import Derived.Laws.ResultCell
import Derived.Laws.Rows
import Derived.Lib.AppendIntMem
import Derived.Lib.AppendZeros
import Derived.Lib.AtoiBound
import Derived.Lib.DecodeN
import Derived.Lib.Fields
import Derived.Lib.Hide
import Derived.Lib.IndexBytes
import Derived.Lib.IndexLaws
import Derived.Lib.IndexMore
import Derived.Lib.ItoaLen
import Derived.Lib.LaidTab
import Derived.Lib.OthersKept
import Derived.Lib.ParseIntBTie
import Derived.Lib.RuneBytes
import Derived.Lib.SlBytesConst
import Derived.Lib.SmallJoins
import Derived.Lib.Strings
import Derived.LoopIn
import Derived.LoopNIn
import Derived.Maps.AppendAt
import Derived.Maps.Keyed
import Derived.Maps.Own
import Derived.Maps.OwnIn
import Derived.Maps.OwnOps
import Derived.Maps.OwnSet
import Derived.Maps.Views
import Derived.OpenShut
import Derived.OwnWalk
import Derived.OwnWalkIn
import Derived.ProofKit
import Derived.RangeFuncBound
import Derived.RangeFuncBox
import Derived.RangeFuncCalls
import Derived.RangeFuncLeaves
import Derived.RangeFuncNested
import Derived.Scope
import Derived.Shelf.Abstract
import Derived.Shelf.GgClosure.StringsIndexFunc
import Derived.Shelf.RegionOpen
import Derived.Shelf.Small.Strs
import Derived.Shelf.Strings.FieldsFuncAny
import Derived.Shelf.Vars
import Derived.SizedLaws
import Derived.StillTail
import Derived.StillTailTactics
import Derived.Stop.LaidErr
import Derived.TacticsInMore
import Derived.WalkArith
import Derived.WalkKit
import Derived.WalkLawsBesides
import Derived.WalkSpells
import Derived.Test.YtifobiajjhknbaaGreatDoorQ1
import Derived.Test.YtifobiajjhknbaaGreatDoorQ2
import Derived.Test.YtifobiajjhknbaaGreatDoorQ3
import Derived.Test.YtifobiajjhknbaaGreatDoorQ4
import Derived.Test.YtifobiajjhknbaaGreatDoorQ5
import Derived.Test.YtifobiajjhknbaaGreatDoorQ6
import Derived.Test.YtifobiajjhknbaaGreatDoorQ7
import Derived.Test.YtifobiajjhknbaaGreatDoorQ8
import Derived.Test.YtifobiajjhknbaaGreatDoorQ9
import Derived.Test.YtifobiajjhknbaaGreatDoorQ10
import Derived.Test.YtifobiajjhknbaaGreatDoorQ11
import Derived.Test.YtifobiajjhknbaaGreatDoorQ12
import Derived.Test.YtifobiajjhknbaaGreatDoorQ13
import Derived.Test.YtifobiajjhknbaaGreatDoorQ14
import Derived.Test.YtifobiajjhknbaaGreatDoorQ15
namespace Go.Proofs.YtifobiajjhknbaaGreatDoor.M
open Go.RowKit W

/-- An image of one function, in memory: its name, its body's only instruction. -/
theorem one_fn {W : World} {P : Nat → Prop} {X Y : Option Addr} {nx cx ny cy : Nat} {es : List I.SE} {fs : List I.FE} {f : F.Fu} {x : C.I3} (h : I.OwnIm W P ⟨X, nx, cx, Y, ny, cy⟩ es fs) (hi : I.imOf es fs = ⟨[], [f]⟩) (hb : f.bd = [x]) :
    nx = 0 ∧ ny = 1 ∧ ∃ g, Y = some ⟨g, 0, none⟩ ∧ ∃ A na ca B nb cb L nl cl d cd, W.cell? ⟨g, 0, none⟩ = some (.string (str f.nm)) ∧ W.cell? ⟨g, 1, none⟩ = some (.slice A na ca) ∧ W.cell? ⟨g, 2, none⟩ = some (.slice B nb cb) ∧ W.cell? ⟨g, 3, none⟩ = some (.slice L nl cl) ∧
      W.cell? ⟨g, 4, none⟩ = some (.slice (some ⟨d, 0, none⟩) 1 cd) ∧ W.cell? ⟨d, 0, none⟩ = some (.int .i64 x.1) ∧ W.cell? ⟨d, 1, none⟩ = some (.int .i64 x.2.1) ∧ W.cell? ⟨d, 2, none⟩ = some (.int .i64 x.2.2) := by
  have h1 : (es.map fun e => e.2) = [] := congrArg I.Im.sh hi
  have h2 : (fs.map fun e => e.2) = [f] := congrArg I.Im.fn hi
  rw [List.map_eq_nil_iff] at h1
  subst h1
  obtain ⟨v, rfl⟩ : ∃ v, fs = [(v, f)] := by
    rcases fs with _ | ⟨⟨v, g⟩, _ | ⟨e, r⟩⟩
    · simp at h2
    · simp at h2; subst h2; exact ⟨v, rfl⟩
    · simp at h2
  have h3 := h.ox.1.1
  have h4 := h.oy.1.1
  rw [I.fvs_length] at h4
  simp [I.svs] at h3
  have hny : ny = 1 := by simp at h4; omega
  have hnx : nx = 0 := by omega
  subst hny hnx
  have hF := h.hf (v, f) (by simp)
  obtain ⟨A1, c1, e1, _, _, hr1, ha1⟩ := h.oy.form
  injection e1 with e1 _ e3
  subst e1
  obtain ⟨g, off, rfl, hc1⟩ := hr1 (by rw [I.fvs_length]; simp)
  have o1 := (ha1 _ rfl).2
  injection o1 with _ o1 _
  subst o1
  have hcell : ∀ i, i < 5 → ∀ u, v.cells.toList[i]? = some u → W.cell? ⟨g, i, none⟩ = some u := fun i hi u hu => by
    have := hc1 i u (by have := I.fvs_at [(v, f)] 0 i (by simp) hi; rw [Nat.zero_mul, Nat.zero_add] at this; rw [this]; exact hu)
    rwa [Nat.zero_add] at this
  obtain ⟨A2, c2, e2, _, _, hr2, ha2⟩ := hF.od.form
  obtain ⟨S, A, na, ca, B, nb, cb, L, nl, cl, D, nd, cd⟩ := v
  dsimp only at hF e2 hr2
  have hnd : nd = 1 := by
    have := hF.od.1.1
    rw [C.iis_length, hb] at this
    simp at this
    omega
  subst hnd
  injection e2 with e2 _ e4
  subst e2
  rw [hb, C.iis_one] at hr2
  obtain ⟨d, off2, rfl, hc2⟩ := hr2 (by simp)
  have o2 := (ha2 _ rfl).2
  injection o2 with _ o2 _
  subst o2
  have hS : S = str f.nm := str_of hF.nm
  refine ⟨rfl, rfl, g, rfl, A, na, ca, B, nb, cb, L, nl, cl, d, cd, ?_, hcell 1 (by omega) _ rfl, hcell 2 (by omega) _ rfl, hcell 3 (by omega) _ rfl, hcell 4 (by omega) _ rfl, ?_, ?_, ?_⟩
  · rw [← hS]; exact hcell 0 (by omega) _ rfl
  · exact hc2 0 _ rfl
  · exact hc2 1 _ rfl
  · exact hc2 2 _ rfl

set_option maxRecDepth 100000 in
set_option maxHeartbeats 4000000 in
theorem alive_any (T : World → Prop) (hT : ∀ W W', T W → Keep NoB W W' → T W') (HP : Hid (ParseT T)) : AliveT T := by
  intro w hw
  have HT := Lib.hid (fun W (hk : Keep NoB w W) => hT w W hw hk)
  have P1 := Lib.hid (fun W (hk : Keep NoB w W) => (ex1 ▸ HP.out ⟨#[102, 117, 110, 99, 32, 109, 97, 105, 110, 32, 62, 10, 114, 101, 116]⟩ _ W (HT.out W hk) (Lib.hid rfl) (by decide)))
  have P2 := Lib.hid (fun W (hk : Keep NoB w W) => (ex2 ▸ HP.out ⟨#[102, 117, 110, 99, 32, 109, 97, 105, 110, 32, 62, 10, 116, 111, 112, 58, 32, 10, 106, 109, 112, 32, 116, 111, 112, 32, 59, 32, 114, 111, 117, 110, 100, 10]⟩ _ W (HT.out W hk) (Lib.hid rfl) (by decide)))
  have P1 := Lib.hid (fun W hk => (P1.out W hk).mono (fun _ _ h => parseO_of h))
  have P2 := Lib.hid (fun W hk => (P2.out W hk).mono (fun _ _ h => parseO_of h))
  have W1 := Lib.hid (fun W (hk : Keep NoB w W) (A : Option Addr) c (hr : Rd W A (sv [[102, 117, 110, 99, 32, 109, 97, 105, 110, 32, 62], [106, 109, 112, 32, 101, 110, 100]])) (hc : 2 ≤ c) => wrong_yes T hT HP 91 2 A _ 2 c W (HT.out W hk) hr (Lib.hid rfl) (by decide) hc _ rfl (by decide) ex3)
  have W2 := Lib.hid (fun W (hk : Keep NoB w W) (A : Option Addr) c (hr : Rd W A (sv [[114, 101, 116]])) (hc : 1 ≤ c) => wrong_yes T hT HP 90 1 A _ 1 c W (HT.out W hk) hr (Lib.hid rfl) (by decide) hc _ rfl (by decide) ex4)
  have W3 := Lib.hid (fun W (hk : Keep NoB w W) => wrong_yes T hT HP 93 0 none [] 0 0 W (HT.out W hk) (Rd.none_ _ _) (Lib.hid rfl) (by decide) (Nat.le_refl _) _ rfl (by decide) ex5)
  clear HT HP hw hT
  go_enter Tryz.func14, Tryz.ntmps14
  go_wp2_with fail
  refine (P1.out _ (Keep.refl _ _)).mono ?_
  rintro e w1 ⟨X, nx, cx, Y, ny, cy, es, fs, rfl, hio, _, him, k1⟩
  obtain ⟨rfl, rfl, g, rfl, A1, na1, ca1, B1, nb1, cb1, L1, nl1, cl1, d, cd, c0, c1, c2, c3, c4, d0, d1, d2⟩ := one_fn hio him rfl
  have b2 := Blk.new w1 27 #[.slice X 0 cx, .slice (some ⟨g, 0, none⟩) 1 cy]
  have ka := (Keep.refl NoB w1).alloc (.cells #[.slice X 0 cx, .slice (some ⟨g, 0, none⟩) 1 cy] 27)
  have k2 := keepM k1 ka
  clear hio him P1
  go_wp2_with fail
  refine (P2.out _ k2).mono ?_
  rintro e w3 ⟨X5, nx5, cx5, Y5, ny5, cy5, es5, fs5, rfl, hio, _, him, k3⟩
  obtain ⟨rfl, rfl, g5, rfl, A5, na5, ca5, B5, nb5, cb5, L5, nl5, cl5, f, cf, q0, q1, q2, q3, q4, f0, f1, f2⟩ := one_fn hio him rfl
  have b4 := (b2.keep k3 id).alloc (.cells #[.slice X5 0 cx5, .slice (some ⟨g5, 0, none⟩) 1 cy5] 27)
  have b5 := Blk.new w3 27 #[.slice X5 0 cx5, .slice (some ⟨g5, 0, none⟩) 1 cy5]
  have kb := (Keep.refl NoB w3).alloc (.cells #[.slice X5 0 cx5, .slice (some ⟨g5, 0, none⟩) 1 cy5] 27)
  have k4 := keepM (keepM k2 k3) kb
  have kc := keepM (keepM ka k3) kb
  obtain ⟨r0, r1⟩ := I.blk2 (v := ⟨X, 0, cx, some ⟨g, 0, none⟩, 1, cy⟩) b4
  obtain ⟨s0, s1⟩ := I.blk2 (v := ⟨X5, 0, cx5, some ⟨g5, 0, none⟩, 1, cy5⟩) b5
  dsimp only at r0 r1 s0 s1 c0 d0 d1 d2 q0 f0 f1 f2
  have c0 := kc.cell c0 id
  have c4 := kc.cell c4 id
  have d0 := kc.cell d0 id
  have d1 := kc.cell d1 id
  have d2 := kc.cell d2 id
  have q4 := kb.cell q4 id
  have f0 := kb.cell f0 id
  have f1 := kb.cell f1 id
  have f2 := kb.cell f2 id
  clear c1 c2 c3 q0 q1 q2 q3 hio him b2 b4 b5 ka kb kc k1 k2 k3 P2
  go_wp2_with fail
  refine (W1.out _ (k4.alloc _) _ 2 (rd_made (by simp) rfl) (Nat.le_refl _)).mono ?_
  rintro e w5 ⟨rfl, k5⟩
  have k6 := keepM (k4.alloc _) k5
  clear k4 k5 W1
  go_wp2_with fail
  refine (W2.out _ (k6.alloc _) _ 1 (rd_made rfl rfl) (Nat.le_refl _)).mono ?_
  rintro e w7 ⟨rfl, k7⟩
  have k8 := keepM (k6.alloc _) k7
  clear k6 k7 W2
  go_wp2_with fail
  refine (W3.out _ k8).mono ?_
  rintro e w9 ⟨rfl, k9⟩
  go_wp2
  go_ret
  exact ⟨rfl, keepM k8 k9⟩

end Go.Proofs.YtifobiajjhknbaaGreatDoor.M

namespace Go.Proofs.YtifobiajjhknbaaGreatDoor.M
open Go.RowKit W

theorem env_keep : ∀ W W', EnvM W → Keep NoB W W' → EnvM W' := fun _ _ h hk => h.keep hk
theorem parse_t : ParseT EnvM := fun S s W hE hs hl => by
  rw [← parse_read]
  exact parse_any S s W (Lib.hid hE) hs hl
theorem alive_t : AliveT EnvM := alive_any EnvM env_keep (Lib.hid parse_t)
end Go.Proofs.YtifobiajjhknbaaGreatDoor.M
