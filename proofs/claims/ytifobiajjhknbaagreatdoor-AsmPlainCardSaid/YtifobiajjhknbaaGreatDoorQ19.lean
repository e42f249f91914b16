/-
  AsmPlain's walk: an image that may be is read as it was out of its text by numbers, and out of the one with labels; its row's laid variables. Conditions: what is laid is laid; the image lies in memory.
-/
import Derived.BigQuiet
import Derived.ChangeSame
import Derived.Deep.AppendLies
import Derived.Deep.CutRange
import Derived.Deep.DeepFit
import Derived.Deep.Draws
import Derived.Deep.Fields
import Derived.Deep.OwnRows
import Derived.Deep.QuietTactic
import Derived.Deep.RegionHeld3
import Derived.Deep.RegionLaw
import Derived.Deep.RegionWith
import Derived.Deep.Slices
import Derived.Deep.Strs
import Derived.Deep.WholeRow
import Derived.HandedShaped
import Derived.IntWalk
import Derived.LaidLaws
import Derived.LaidMore
import Derived.Laws.Bits64
import Derived.Laws.BitsAllLaws
import Derived.Laws.CopyOwn
import Derived.Laws.EntriesVeiled
import Derived.Laws.OwnMore
import Derived.Laws.RangeAny
import Derived.Laws.RangeString
import Derived.Laws.ResultCell
import Derived.Laws.Rows
import Derived.Lib.AppendIntMem
import Derived.Lib.AppendZeros
import Derived.Lib.AtoiBound
import Derived.Lib.DecodeN
import Derived.Lib.Fields
import Derived.Lib.Hide
import Derived.Lib.IndexBytes
import Derived.Lib.IndexLaws
import Derived.Lib.IndexMore
import Derived.Lib.ItoaLen
import Derived.Lib.LaidTab
import Derived.Lib.OthersKept
import Derived.Lib.ParseIntBTie
import Derived.Lib.RuneBytes
import Derived.Lib.SlBytesConst
import Derived.Lib.SmallJoins
import Derived.Lib.Strings
import Derived.LoopIn
import Derived.LoopNIn
import Derived.Maps.AppendAt
import Derived.Maps.Keyed
import Derived.Maps.Own
import Derived.Maps.OwnIn
import Derived.Maps.OwnOps
import Derived.Maps.OwnSet
import Derived.Maps.Views
import Derived.OpenShut
import Derived.OwnWalk
import Derived.OwnWalkIn
import Derived.ProofKit
import Derived.RangeFuncBound
import Derived.RangeFuncBox
import Derived.RangeFuncCalls
import Derived.RangeFuncLeaves
import Derived.RangeFuncNested
import Derived.Scope
import Derived.Shelf.Abstract
import Derived.Shelf.GgClosure.StringsIndexFunc
import Derived.Shelf.RegionOpen
import Derived.Shelf.Small.Strs
import Derived.Shelf.Strings.FieldsFuncAny
import Derived.Shelf.Vars
import Derived.SizedLaws
import Derived.StillTail
import Derived.StillTailTactics
import Derived.Stop.LaidErr
import Derived.TacticsInMore
import Derived.WalkArith
import Derived.WalkKit
import Derived.WalkLawsBesides
import Derived.WalkSpells
import Derived.Test.YtifobiajjhknbaaGreatDoorQ1
import Derived.Test.YtifobiajjhknbaaGreatDoorQ2
import Derived.Test.YtifobiajjhknbaaGreatDoorQ3
import Derived.Test.YtifobiajjhknbaaGreatDoorQ4
import Derived.Test.YtifobiajjhknbaaGreatDoorQ5
import Derived.Test.YtifobiajjhknbaaGreatDoorQ6
import Derived.Test.YtifobiajjhknbaaGreatDoorQ7
import Derived.Test.YtifobiajjhknbaaGreatDoorQ8
import Derived.Test.YtifobiajjhknbaaGreatDoorQ9
import Derived.Test.YtifobiajjhknbaaGreatDoorQ10
import Derived.Test.YtifobiajjhknbaaGreatDoorQ11
import Derived.Test.YtifobiajjhknbaaGreatDoorQ12
import Derived.Test.YtifobiajjhknbaaGreatDoorQ13
import Derived.Test.YtifobiajjhknbaaGreatDoorQ14
import Derived.Test.YtifobiajjhknbaaGreatDoorQ15
import Derived.Test.YtifobiajjhknbaaGreatDoorQ16
import Derived.Test.YtifobiajjhknbaaGreatDoorQ18
namespace Go.Proofs.YtifobiajjhknbaaGreatDoor.M
open Go.RowKit W I

def TabS (w : World) : Prop := Lib.TabIs Tryz.prog w "strings.asciiSpace" .u8 Lib.asciiSpaceTab
theorem gSpc : Tryz.prog.globalNamed "strings.asciiSpace" = some 1 := by kernel_rfl
theorem TabS.keep {w w' : World} (h : TabS w) (hk : Keep NoB w w') : TabS w' := var_keep gSpc h hk
theorem own_tyP {O P : Nat → Prop} {W W' : World} {E sz n : Nat} {v : Value} {xs : List Value} (h : Own W E sz P v n xs) (hk : Keep O W W') (ht : ∀ j, O j → ∀ cs f, W.heap[j]? ≠ some (.cells cs E f)) : Own W' E sz P v n xs :=
  ⟨ownsRow_keep h.1 hk (fun g e ho => by
    rcases h.1.2 with ⟨rfl, _⟩ | ⟨g2, cap, cur, rfl, _, hh, _⟩
    · simp [Value.ownBlock] at e
    · obtain rfl : g2 = g := by simpa [Value.ownBlock] using e
      exact ht g2 ho _ _ hh), h.2⟩
theorem im_ty {O P : Nat → Prop} {W W' : World} {v : IV} {es : List SE} {fs : List FE} (h : OwnIm W P v es fs) (hk : Keep O W W') (ht : ∀ j, O j → ∀ (E : TypeId) cs f, E ≠ 5 → E ≠ 52 → W.heap[j]? ≠ some (.cells cs E f)) : OwnIm W' P v es fs :=
  ⟨own_tyP h.ox hk (fun j hj cs f => ht j hj _ cs f (by decide) (by decide)), own_tyP h.oy hk (fun j hj cs f => ht j hj _ cs f (by decide) (by decide)), fun e he => own_tyP (h.hs e he) hk (fun j hj cs f => ht j hj _ cs f (by decide) (by decide)),
    fun e he => ⟨(h.hf e he).nm, own_tyP (h.hf e he).oa hk (fun j hj cs f => ht j hj _ cs f (by decide) (by decide)), own_tyP (h.hf e he).ob hk (fun j hj cs f => ht j hj _ cs f (by decide) (by decide)), own_tyP (h.hf e he).ol hk (fun j hj cs f => ht j hj _ cs f (by decide) (by decide)), own_tyP (h.hf e he).od hk (fun j hj cs f => ht j hj _ cs f (by decide) (by decide)), (h.hf e he).hI⟩⟩
/-- What a builder that is read may change. -/
def OB (b : Nat) (W : World) (k : Nat) : Prop := bldP b W k ∨ W.heap.size ≤ k
theorem ob_type {b : Nat} {s : Bs} {W : World} (h : Bld b s W) : ∀ j, OB b W j → ∀ (E : TypeId) cs f, E ≠ 5 → E ≠ 52 → W.heap[j]? ≠ some (.cells cs E f) := by
  rintro j (( rfl | ⟨_, c, fz, h2⟩) | h2) E cs f h3 h4 h5
  · obtain ⟨v, h6⟩ : ∃ v, W.heap[j]? = some (.cells v 52 (0, 0)) := by
      rcases h with ⟨_, v, h2, _⟩ | ⟨_, v, h2, _⟩ <;> exact ⟨_, h2⟩
    rw [h6] at h5; cases h5; exact h4 rfl
  · rw [h2] at h5; cases h5; exact h3 rfl
  · have := (Array.getElem?_eq_some_iff.1 h5).1; omega
theorem ob_keep {b : Nat} {W W1 W' : World} (hk : Keep NoB W W1) (h1 : Below b W1 W') (h2 : Lib.OthersKept 5 (some b) W1 W') (_hb : b < W.heap.size) : Keep (OB b W) W1 W' := by
  refine ⟨h1.os, h1.tape, h1.output, h1.size, fun k hk2 hn => ?_⟩
  have hlt : k < W.heap.size := Classical.byContradiction fun h => hn (.inr (by omega))
  have hne : k ≠ b := fun e => hn (.inl (.inl e))
  by_cases hkb : k < b
  · exact h1.block k hkb
  · obtain ⟨o, ho⟩ : ∃ o, W1.heap[k]? = some o := ⟨_, Array.getElem?_eq_getElem hk2⟩
    rw [ho]
    refine h2 k o ho (by simpa using hne) (fun c fz e => hn (.inl (.inr ⟨by omega, c, fz, ?_⟩)))
    rw [← hk.block k hlt id, ho, e]
theorem ob_low {b : Nat} {w W W' : World} (h : Keep NoB w W) (hk : Keep (OB b W) W W') (hb : w.heap.size ≤ b) : Keep NoB w W' :=
  h.trans hk (fun k ho hl => by
    rcases ho with (rfl | ⟨h1, _⟩) | h1
    · omega
    · omega
    · have := h.size; omega)
/-- What the values of the last line are. -/
def SPz (vs : List Value) (n : Nat) : Nat → Value → World → Prop
  | 12 => fun u _ => ∃ A c, u = .slice A n c
  | i => fun u _ => u = vs.getD i undef

/-- A text of a list is written. -/
theorem bld_set {b g j : Nat} {s : Bs} {W : World} {cs : Array Value} (u : Value) (h : Bld b s W) (hg : Blk W g 9 cs) : Bld b s (W.setCell ⟨g, j, none⟩ u) := by
  have key : ∀ {p : Value}, Lib.BuilderAtF 52 5 b b p (Lib.byteCells s) W → Lib.BuilderAtF 52 5 b b p (Lib.byteCells s) (W.setCell ⟨g, j, none⟩ u) := by
    rintro p ⟨h1, v, h2, ⟨h3, h4⟩, h5⟩
    have hne : b ≠ g := by
      rintro rfl
      unfold Blk at hg
      rw [h2] at hg; cases hg
    refine ⟨h1, v, (Below.heap_setCell W ⟨g, j, none⟩ u b hne).trans h2, ⟨h3, ?_⟩, h5⟩
    rcases h4 with h4 | ⟨g2, cap, cur, fz, e1, e2, e3, e4⟩
    · exact .inl h4
    · have hne2 : g2 ≠ g := by
        rintro rfl
        unfold Blk at hg
        rw [e3] at hg; cases hg
      exact .inr ⟨g2, cap, cur, fz, e1, e2, (Below.heap_setCell W ⟨g, j, none⟩ u g2 hne2).trans e3, e4⟩
  exact h.elim (fun h => .inl (key h)) (fun h => .inr (key h))
theorem PI.set {w W : World} {b g j : Nat} {X : Option Addr} {nx cx : Nat} {Y : Option Addr} {ny cy : Nat} {t : Bs} {cs : Array Value} (u : Value) (h : PI w b X nx cx Y ny cy t W) (hg : Blk W g 9 cs) (hl : w.heap.size < g) : PI w b X nx cx Y ny cy t (W.setCell ⟨g, j, none⟩ u) :=
  ⟨bld_set u h.1 hg, h.2.1.setCell (p := ⟨g, j, none⟩) (fun h2 => by have h2 : g < w.heap.size := h2; omega) u, h.2.2.far (p := ⟨g, j, none⟩) (by show w.heap.size ≠ g; omega) u⟩

set_option maxRecDepth 100000 in
set_option maxHeartbeats 16000000 in
theorem asmPlain_walk (v : IV) (es : List SE) (fs : List FE) (w : World) (hE : EnvM w) (hT : TabS w) (hi : ImAt w v es fs) (hl : LgI v es fs) :
    Calls Tryz.prog 4 #[v.val] w fun e w' => e = .returned (.bool true) ∧ Keep NoB w w' := by
  obtain ⟨X, nx, cx, Y, ny, cy⟩ := v
  have HI := Lib.hid (fun W (hk : Keep NoB w W) => hi.keepN hk)
  have HEV := Lib.hid (fun W (hk : Keep NoB w W) => hE.keep hk)
  have HLO := Lib.hid (fun W (hk : Keep NoB w W) => (hE.keep hk).1)
  have HTB := Lib.hid (fun W (hk : Keep NoB w W) => hT.keep hk)
  have HAl := Lib.hid (fun W (hk : Keep NoB w W) => alive_t W (hE.keep hk))
  have HGr := Lib.hid (fun W (hk : Keep NoB w W) => great_any _ es fs W (hi.keepN hk) hl)
  have HCk := Lib.hid (fun W (hk : Keep NoB w W) => check_any _ es fs W (hi.keepN hk) hl (chkI (imOf es fs)) rfl)
  have hlx := hi.lx
  have hly := hi.ly
  dsimp only at hlx hly
  have HX := Lib.hid hlx
  have HY := Lib.hid hly
  have bp := Blk.new w 27 #[.slice X nx cx, .slice Y ny cy]
  have kp := (Keep.refl NoB w).alloc (.cells #[.slice X nx cx, .slice Y ny cy] 27)
  have HP := Lib.hid (fun W (hk : Keep NoB w W) (hok : okI (imOf es fs) = true) => plain_any ⟨X, nx, cx, Y, ny, cy⟩ es fs W (HLO.out W hk) (HI.out W hk) hok)
  clear hi hE hT hl hlx hly
  dsimp only [IV.val, IV.cells] at *
  go_enter Tryz.func4, Tryz.ntmps4
  go_wp2_with fail
  refine (HAl.out _ kp).mono ?_
  rintro e w1 ⟨rfl, k1⟩
  have hk1 := keepN kp k1
  have b1 := bp.keep k1 id
  have c0 := b1.cell 0
  have c1 := b1.cell 1
  simp only [List.getElem?_toArray, List.getElem?_cons_zero, List.getElem?_cons_succ] at c0 c1
  clear HAl kp k1 bp
  go_wp2_with fail
  refine (HGr.out _ hk1).mono ?_
  rintro e w2 ⟨⟨rfl, hsm, hnd⟩ | rfl, k2⟩
  · have hk2 := keepN hk1 k2
    have b2 := b1.keep k2 id
    have c0 := b2.cell 0
    have c1 := b2.cell 1
    simp only [List.getElem?_toArray, List.getElem?_cons_zero, List.getElem?_cons_succ] at c0 c1
    have HSM := Lib.hid hsm
    clear HGr hk1 k2 b1 hsm hnd
    go_wp2_with fail
    refine (HCk.out _ hk2).mono ?_
    rintro e w3 ⟨rfl, k3⟩
    have hk3 := keepN hk2 k3
    have b3 := b2.keep k3 id
    have c0 := b3.cell 0
    have c1 := b3.cell 1
    simp only [List.getElem?_toArray, List.getElem?_cons_zero, List.getElem?_cons_succ] at c0 c1
    clear HCk hk2 k3 b2
    cases hok : okI (imOf es fs) with
    | false =>
      have hc : chkI (imOf es fs) = 80 := chkI_no hok
      rw [hc]
      go_wp2
      go_ret
      exact ⟨rfl, hk3⟩
    | true =>
      have hc : chkI (imOf es fs) = 0 := chkI_ok hok
      rw [hc]
      have HPl := Lib.hid (HP.out _ hk3 hok)
      have HOK := Lib.hid hok
      clear HP hc hok
      obtain ⟨t, ht⟩ : ∃ t, flat (imgT false (imOf es fs)) = t := ⟨_, rfl⟩
      have HTT := Lib.hid ht
      rw [ht] at HPl
      clear ht
      obtain ⟨TS, hTS⟩ : ∃ TS, str t = TS := ⟨_, rfl⟩
      have HTS : Hid (TS.data.toList = t) := by show _ = _; rw [← hTS]
      have htz := size_of HTS.out
      rw [hTS] at HPl
      clear hTS
      go_wp2_with fail
      refine HPl.out.mono ?_
      rintro e w4 ⟨rfl, k4⟩
      have hk4 := keepN hk3 k4
      have b4 := b3.keep k4 id
      clear hk3 k4 b3 HPl c0 c1
      by_cases hbig : 131072 < t.length
      · have hgt : (131072 : Int) < (TS.size : Int) := by omega
        go_wp2
        go_ret
        exact ⟨rfl, hk4⟩
      · have hngt : ¬ (131072 : Int) < (TS.size : Int) := by omega
        have hP := parse_t TS t w4 (HEV.out _ hk4) HTS (by omega)
        have hpi := parse_img false HOK.out (by rw [HTT.out]; omega)
        rw [HTT.out] at hpi
        rw [hpi] at hP
        have HPa := Lib.hid hP
        unfold ParseR at HPa
        clear hP hpi
        go_wp2_with fail
        refine HPa.out.mono ?_
        rintro e w5 ⟨v5, es5, fs5, rfl, ho5, hsm5, him5, k5⟩
        obtain ⟨X5, nx5, cx5, Y5, ny5, cy5⟩ := v5
        dsimp only [IV.val, IV.cells] at *
        have hk5 := keepN hk4 k5
        have b5 := b4.keep k5 id
        have c0 := b5.cell 0
        have c1 := b5.cell 1
        simp only [List.getElem?_toArray, List.getElem?_cons_zero, List.getElem?_cons_succ] at c0 c1
        have k6 := (Keep.refl NoB w5).alloc (.cells #[.slice X5 nx5 cx5, .slice Y5 ny5 cy5] 27)
        have HSa := Lib.hid (same_any _ _ es es5 fs fs5 _ (HI.out _ (keepN hk5 k6)) (ho5.im.keepN k6) HSM.out hsm5)
        rw [him5] at HSa
        have hss : sameI (imOf es fs) (imOf es fs) = true := same_self _
        rw [hss] at HSa
        dsimp only [IV.val, IV.cells] at HSa
        have hk6 := keepN hk5 k6
        have b6 := b5.keep k6 id
        have HK6 := Lib.hid hk6
        have HB6 := Lib.hid b6
        have hlt5 := b5.lt
        have d0 := b6.cell 0
        have d1 := b6.cell 1
        simp only [List.getElem?_toArray, List.getElem?_cons_zero, List.getElem?_cons_succ] at d0 d1
        clear HPa hk4 k5 k6 b4 ho5 hsm5 him5 hss hk5 hk6 b6
        go_wp2_with fail
        refine HSa.out.mono ?_
        rintro e w7 ⟨rfl, k7⟩
        have hk7 := keepN HK6.out k7
        have b7 := HB6.out.keep k7 id
        have c0 := b7.cell 0
        have c1 := b7.cell 1
        simp only [List.getElem?_toArray, List.getElem?_cons_zero, List.getElem?_cons_succ] at c0 c1
        obtain ⟨⟨q1, ⟨_, q2⟩, _⟩, q3, q4⟩ := (okI_iff _).1 HOK.out
        have hes : es.length ≤ 64 := by simpa [imOf] using q1
        have hfs : fs.length ≤ 64 := by simpa [imOf] using q2
        have hS : Hid (∀ e ∈ es, S.okS e.2 = true) := fun e he => List.all_eq_true.1 q3 _ (List.mem_map_of_mem he)
        have hF : Hid (∀ e ∈ fs, FnOk e.2) := fun e he => ⟨List.all_eq_true.1 q4 _ (List.mem_map_of_mem he), ((HI.out w (Keep.refl _ _)).hf e he).hI⟩
        have hXo := HX.out
        have hYo := HY.out
        have hnx : nx ≤ 64 := by omega
        have hny : ny ≤ 64 := by omega
        have hbl : w.heap.size < w7.heap.size := b7.lt
        have hP0 : PI w w7.heap.size X nx cx Y ny cy [] (w7.alloc (.cells #[.pointer none, .slice none 0 0] 52)) :=
          ⟨bld_new w7, hk7.alloc _, b7.alloc _⟩
        have r0 : (w7.alloc (.cells #[.pointer none, .slice none 0 0] 52)).cell? ⟨w.heap.size, 0, none⟩ = some (.slice X nx cx) := hP0.2.2.cell 0
        clear HSa HK6 HB6 k7 b7 c0 c1 d0 d1 hk7 q1 q2 q3 q4 hXo hYo b5 hlt5
        go_wp2_with fail
        obtain ⟨w8, hw8⟩ : ∃ w8, w7.alloc (.cells #[.pointer none, .slice none 0 0] 52) = w8 := ⟨_, rfl⟩
        obtain ⟨b, hb⟩ : ∃ b, w7.heap.size = b := ⟨_, rfl⟩
        rw [hw8, hb] at hP0
        rw [hb] at hbl
        try rw [hw8]
        try rw [hb]
        clear r0 hw8 hb
        go_loopw [58] (fun i wr => ∃ k : Nat, k ≤ nx ∧ i = .int .i64 (k : Int) ∧ PI w b X nx cx Y ny cy (shT es k) wr) (fun i _ => nx - (intOf i).toNat)
        case atStart => exact ⟨0, Nat.zero_le _, rfl, hP0⟩
        case round =>
          obtain ⟨k, hk, rfl, hP⟩ := hrel
          clear hP0
          by_cases hlt : k < nx
          · have hke : k < es.length := by rw [HX.out]; exact hlt
            obtain ⟨g, off, rfl, hc⟩ := shape_at (HI.out _ hP.2.1).rx hke
            have hsh := (HI.out _ hP.2.1).hs _ (List.getElem_mem hke)
            have hso := ((S.okS_iff _).1 (hS.out _ (List.getElem_mem hke))).1
            have hlen := hsh.2
            have HSh := Lib.hid (fun W (hk : Keep NoB wr W) => S.showS_any es[k].1.A es[k].2 es[k].1.n es[k].1.c W (HLO.out W (keepM hP.2.1 hk)).lets (hsh.1.keepN hk) (Lib.hid hsh.2) (by omega))
            have hnx2 := shT_next hke
            have htl := shT_le hes (k + 1)
            rw [hnx2, List.length_append] at htl
            have HXX : Hid ((⟨#[115, 104, 97, 112, 101, 32]⟩ : ByteArray) ++ str (S.shS es[k].2) ++ (⟨#[10]⟩ : ByteArray) = str (joinW (shapeT es[k].2) ++ [10])) := by
              show _ = _
              rw [show (⟨#[115, 104, 97, 112, 101, 32]⟩ : ByteArray) = str [115, 104, 97, 112, 101, 32] from rfl, show (⟨#[10]⟩ : ByteArray) = str [10] from rfl, str_add, str_add]
              rfl
            have hsz : (str (S.shS es[k].2)).size ≤ 2000 := by
              rw [size_of (S := str (S.shS es[k].2)) (s := S.shS es[k].2) (by simp)]
              have := S.txt_le es[k].2
              unfold S.shS
              split <;> simp <;> omega
            have HNX := Lib.hid hnx2
            generalize joinW (shapeT es[k].2) ++ [10] = pc at htl HXX HNX
            generalize str (S.shS es[k].2) = G at HSh HXX hsz
            generalize es[k].1 = sv at hc HSh
            obtain ⟨A, n, c⟩ := sv
            dsimp only at hc HSh
            clear hsh hso hlen hnx2 hke
            go_wp2_with fail
            refine (HSh.out _ (Keep.refl _ _)).mono ?_
            rintro e w5 ⟨rfl, k5⟩
            have P5 := hP.keep k5
            clear hP hc HSh
            go_wp2_with fail
            refine (write_any b (shT es k) pc _ w5 P5.1 HXX.out (by omega) P5.le).mono ?_
            rintro e w6 ⟨⟨u, v, rfl⟩, p1, p2, p3⟩
            rw [← HNX.out] at p1
            have P6 := P5.put p1 p2 p3 hbl
            clear P5 p1 p2 p3
            go_wp2
            go_roundw
            case rel => exact ⟨k + 1, by omega, by go_num, P6⟩
            case measure => simp [intOf]; omega
          · obtain rfl : k = nx := by omega
            have hP1 : PI w b X k cx Y ny cy (fnL es fs 0) wr := by rw [← shL_all, HX.out]; exact hP
            have r1 : wr.cell? ⟨w.heap.size, 1, none⟩ = some (.slice Y ny cy) := hP1.2.2.cell 1
            clear hP
            go_wp2_with fail
            clear r1
            go_loopw [71] (fun i wr => ∃ j : Nat, j ≤ ny ∧ i = .int .i64 (j : Int) ∧ PI w b X k cx Y ny cy (fnL es fs j) wr) (fun i _ => ny - (intOf i).toNat)
            case atStart => exact ⟨0, Nat.zero_le _, rfl, hP1⟩
            case round =>
              obtain ⟨j, hj, rfl, hP⟩ := hrel
              clear hP1
              by_cases hlt : j < ny
              · have hke : j < fs.length := by rw [HY.out]; exact hlt
                obtain ⟨g, off, rfl, a0, a1, a2, a3, a4⟩ := fun_at (HI.out _ hP.2.1).ry hke
                have hfn := (HI.out _ hP.2.1).hf _ (List.getElem_mem hke)
                have hfo := hF.out _ (List.getElem_mem hke)
                have HFA := Lib.hid (fun W (hk : Keep NoB w W) => (HI.out W hk).hf _ (List.getElem_mem hke))
                have hnx := Lib.hid (fnL_next (es := es) hke)
                have hT0 := fnL_le hes hfs hF.out j
                have hbt := Lib.hid (fun jj => bdL_le hes hfs hF.out j hfo jj)
                generalize fs[j] = fe at a0 a1 a2 a3 a4 hfn hfo hnx hbt HFA
                obtain ⟨⟨NM, A, na, ca, B, nb, cb, L, nl, cl, D, nd, cd⟩, f⟩ := fe
                dsimp only at a0 a1 a2 a3 a4 hfo hnx hbt HFA
                have hq := Blk.new wr 35 #[.string NM, .slice A na ca, .slice B nb cb, .slice L nl cl, .slice D nd cd]
                have kq := (Keep.refl NoB wr).alloc (.cells #[.string NM, .slice A na ca, .slice B nb cb, .slice L nl cl, .slice D nd cd] 35)
                have P1 := hP.keep kq
                have hfn1 := hfn.keepN kq
                obtain ⟨w3, hw3⟩ : ∃ w3, wr.alloc (.cells #[.string NM, .slice A na ca, .slice B nb cb, .slice L nl cl, .slice D nd cd] 35) = w3 := ⟨_, rfl⟩
                obtain ⟨q, hqq⟩ : ∃ q, wr.heap.size = q := ⟨_, rfl⟩
                rw [hw3] at hq P1 hfn1
                rw [hqq] at hq
                have hqb : b < q := by rw [← hqq]; obtain ⟨_, _, h9, _⟩ := bld_cells hP.1; exact (Array.getElem?_eq_some_iff.1 h9).1
                clear hP hfn kq
                go_wp2_with fail
                try rw [hw3]
                try rw [hqq]
                clear hw3 hqq
                have hnm : NM = str f.nm := str_of hfn1.nm
                have hok := (F.okF_iff f).1 hfo.ok
                have hnl := ((F.okN_iff f.nm).1 hok.1).1
                have hgl := ((S.okG_iff f.ar f.rs).1 hok.2.1).1
                have ela := hfn1.la
                have elb := hfn1.lb
                have ell := hfn1.ll
                have eld := hfn1.ld
                dsimp only at ela elb ell eld
                have hnd : nd ≤ 512 := by have := hfo.len; omega
                have hNz : NM.size ≤ 32 := by rw [hnm, size_of (S := str f.nm) (s := f.nm) (by simp)]; exact hnl
                have HG := Lib.hid (fun W (hk : Keep NoB w3 W) => S.showG_any A f.ar na ca B f.rs nb cb W (HLO.out W (keepM P1.2.1 hk)).lets (hfn1.ra.keepN hk) (hfn1.rb.keepN hk) (Lib.hid ela) (Lib.hid elb) (by omega) (by omega))
                have hGz : (str (S.shG f.ar f.rs)).size ≤ 3000 := by
                  rw [size_of (S := str (S.shG f.ar f.rs)) (s := S.shG f.ar f.rs) (by simp)]
                  have h1 := S.txt_le f.ar
                  have h2 := S.txt_le f.rs
                  unfold S.shG
                  split <;> simp <;> omega
                obtain ⟨G, hGG⟩ : ∃ G, str (S.shG f.ar f.rs) = G := ⟨_, rfl⟩
                rw [hGG] at HG hGz
                have HL1 : Hid ((⟨#[102, 117, 110, 99, 32]⟩ : ByteArray) ++ NM ++ (⟨#[32]⟩ : ByteArray) ++ G ++ (⟨#[10]⟩ : ByteArray) = str (joinW [funcW, f.nm, S.shG f.ar f.rs] ++ [10])) := by
                  show _ = _
                  rw [hnm, ← hGG, show (⟨#[102, 117, 110, 99, 32]⟩ : ByteArray) = str [102, 117, 110, 99, 32] from rfl, show (⟨#[32]⟩ : ByteArray) = str [32] from rfl, show (⟨#[10]⟩ : ByteArray) = str [10] from rfl, str_add, str_add, str_add, str_add]
                  congr 1
                  simp [joinW, funcW]
                have y2 : ¬ 9223372036854775807 < 5 + NM.size := by omega
                have y3 : ¬ 9223372036854775807 < 5 + NM.size + 1 := by omega
                have y7 : ¬ 9223372036854775807 < 5 + NM.size + 1 + G.size := by omega
                have y8 : ¬ 9223372036854775807 < 5 + NM.size + 1 + G.size + 1 := by omega
                have f0 : w3.cell? ⟨q, 0, none⟩ = some (.string NM) := hq.cell 0
                have f1 : w3.cell? ⟨q, 1, none⟩ = some (.slice A na ca) := hq.cell 1
                have f2 : w3.cell? ⟨q, 2, none⟩ = some (.slice B nb cb) := hq.cell 2
                clear hnm hgl hGG a0 a1 a2 a3 a4 hfn1
                refine wp_region_tail (fun i => [75, 76, 77, 78, 79, 80, 81, 82, 83].getD i 0) 9 (by kernel_rfl) (by kernel_rfl) (by kernel_rfl) (by kernel_rfl) (by kernel_rfl) (SPn NM A na ca B nb cb G q) (fun i u x y h hk => SPn_stable _ _ _ _ _ _ _ _ _ i u x y h hk) rfl ?step ?fin
                case step =>
                  intro i o a w' hoo hi hF hK hA
                  by_cases h0 : i = 0
                  · subst h0
                    simp only [List.getElem?_toArray, List.getElem?_cons_zero, Option.some.injEq] at hoo
                    subst hoo
                    have e7 : a.tmps.getD 12 undef = .pointer (some ⟨q, 0, none⟩) := hF.2.2 12 (by decide)
                    refine Does.plain rfl ?_
                    unfold yieldsK
                    go_simp
                    exact ⟨rfl, Keep.refl _ _⟩
                  by_cases h1 : i = 1
                  · subst h1
                    simp only [List.getElem?_toArray, List.getElem?_cons_zero, List.getElem?_cons_succ, Option.some.injEq] at hoo
                    subst hoo
                    have e30 : a.tmps.getD 75 undef = .pointer (some ⟨q, 0, none⟩) := hA ⟨0, .data⟩ (by simp) rfl
                    have q0 := Keep.cell hK f0 id
                    refine Does.plain rfl ?_
                    unfold yieldsK
                    go_simp
                    exact ⟨rfl, Keep.refl _ _⟩
                  by_cases h2 : i = 2
                  · subst h2
                    simp only [List.getElem?_toArray, List.getElem?_cons_zero, List.getElem?_cons_succ, Option.some.injEq] at hoo
                    subst hoo
                    have e31 : a.tmps.getD 76 undef = .string NM := hA ⟨1, .data⟩ (by simp) rfl
                    refine Does.plain rfl ?_
                    unfold yieldsK
                    go_simp
                    exact ⟨rfl, Keep.refl _ _⟩
                  by_cases h3 : i = 3
                  · subst h3
                    simp only [List.getElem?_toArray, List.getElem?_cons_zero, List.getElem?_cons_succ, Option.some.injEq] at hoo
                    subst hoo
                    have e32 : a.tmps.getD 77 undef = .string ((⟨#[102, 117, 110, 99, 32]⟩ : ByteArray) ++ NM) := hA ⟨2, .data⟩ (by simp) rfl
                    refine Does.plain rfl ?_
                    unfold yieldsK
                    go_simp
                    exact ⟨rfl, Keep.refl _ _⟩
                  by_cases h4 : i = 4
                  · subst h4
                    simp only [List.getElem?_toArray, List.getElem?_cons_zero, List.getElem?_cons_succ, Option.some.injEq] at hoo
                    subst hoo
                    have e7 : a.tmps.getD 12 undef = .pointer (some ⟨q, 0, none⟩) := hF.2.2 12 (by decide)
                    refine Does.plain rfl ?_
                    unfold yieldsK
                    go_simp
                    exact ⟨rfl, Keep.refl _ _⟩
                  by_cases h5 : i = 5
                  · subst h5
                    simp only [List.getElem?_toArray, List.getElem?_cons_zero, List.getElem?_cons_succ, Option.some.injEq] at hoo
                    subst hoo
                    have e34 : a.tmps.getD 79 undef = .pointer (some ⟨q, 1, none⟩) := hA ⟨4, .data⟩ (by simp) rfl
                    have q0 := Keep.cell hK f1 id
                    have q1 := Keep.cell hK f2 id
                    refine Does.plain rfl ?_
                    unfold yieldsK
                    go_simp
                    exact ⟨rfl, Keep.refl _ _⟩
                  by_cases h6 : i = 6
                  · subst h6
                    simp only [List.getElem?_toArray, List.getElem?_cons_zero, List.getElem?_cons_succ, Option.some.injEq] at hoo
                    subst hoo
                    have e35 : a.tmps.getD 80 undef = .agg #[.slice A na ca, .slice B nb cb] := hA ⟨5, .data⟩ (by simp) rfl
                    refine Does.plain rfl ?_
                    unfold yieldsK
                    go_simp
                    refine (HG.out w' hK).mono ?_
                    rintro e w9 ⟨rfl, hk9⟩
                    exact ⟨_, rfl, rfl, hk9⟩
                  by_cases h7 : i = 7
                  · subst h7
                    simp only [List.getElem?_toArray, List.getElem?_cons_zero, List.getElem?_cons_succ, Option.some.injEq] at hoo
                    subst hoo
                    have e33 : a.tmps.getD 78 undef = .string ((⟨#[102, 117, 110, 99, 32]⟩ : ByteArray) ++ NM ++ (⟨#[32]⟩ : ByteArray)) := hA ⟨3, .data⟩ (by simp) rfl
                    have e36 : a.tmps.getD 81 undef = .string G := hA ⟨6, .data⟩ (by simp) rfl
                    refine Does.plain rfl ?_
                    unfold yieldsK
                    go_simp
                    exact ⟨rfl, Keep.refl _ _⟩
                  by_cases h8 : i = 8
                  · subst h8
                    simp only [List.getElem?_toArray, List.getElem?_cons_zero, List.getElem?_cons_succ, Option.some.injEq] at hoo
                    subst hoo
                    have e37 : a.tmps.getD 82 undef = .string ((⟨#[102, 117, 110, 99, 32]⟩ : ByteArray) ++ NM ++ (⟨#[32]⟩ : ByteArray) ++ G) := hA ⟨7, .data⟩ (by simp) rfl
                    refine Does.plain rfl ?_
                    unfold yieldsK
                    go_simp
                    exact ⟨rfl, Keep.refl _ _⟩
                  omega
                case fin =>
                  intro a w' hF gK hA
                  have e38 : a.tmps.getD 83 undef = .string ((⟨#[102, 117, 110, 99, 32]⟩ : ByteArray) ++ NM ++ (⟨#[32]⟩ : ByteArray) ++ G ++ (⟨#[10]⟩ : ByteArray)) := hA 8 (by decide)
                  have ha := frameD_list (l := [75, 76, 77, 78, 79, 80, 81, 82, 83]) rfl hF
                  rw [ha]
                  simp only [List.map_cons, List.map_nil, e38]
                  generalize a.tmps.getD 75 undef = u0
                  generalize a.tmps.getD 76 undef = u1
                  generalize a.tmps.getD 77 undef = u2
                  generalize a.tmps.getD 78 undef = u3
                  generalize a.tmps.getD 79 undef = u4
                  generalize a.tmps.getD 80 undef = u5
                  generalize a.tmps.getD 81 undef = u6
                  generalize a.tmps.getD 82 undef = u7
                  simp only [fillD, List.setIfInBounds_toArray, List.set_cons_zero, List.set_cons_succ]
                  have P2 := P1.keep gK
                  have hq2 := hq.keep gK id
                  clear hA hF ha e38 f0 f1 f2 HG P1 hq
                  simp only [List.drop_succ_cons, List.drop_zero]
                  go_wp2_with fail
                  have hlb := bdL_le hes hfs hF.out j hfo 0
                  have hhd : flat (headT f) = (joinW [funcW, f.nm, S.shG f.ar f.rs] ++ [10]) ++ (if f.lc = [] then [] else joinW [localW, W.txt f.lc] ++ [10]) := by
                    unfold headT
                    rw [flat_cons]
                    split <;> simp [flat]
                  have hb0 : bdL es fs j f 0 = fnL es fs j ++ flat (headT f) := by unfold bdL; simp [flat, bodyT]
                  have hl1 : (joinW [funcW, f.nm, S.shG f.ar f.rs] ++ [10]).length ≤ (flat (headT f)).length := by
                    have := congrArg List.length hhd
                    rw [List.length_append] at this
                    omega
                  refine (write_any b (fnL es fs j) (joinW [funcW, f.nm, S.shG f.ar f.rs] ++ [10]) _ w' P2.1 HL1.out (by omega) P2.le).mono ?_
                  rintro e w6 ⟨⟨u9, v9, rfl⟩, p1, p2, p3⟩
                  have P6 := P2.put p1 p2 p3 hbl
                  have hq6 := blk_others hq2 p3 (by omega) (by decide)
                  have z3 : w6.cell? ⟨q, 3, none⟩ = some (.slice L nl cl) := hq6.cell 3
                  have z4 : w6.cell? ⟨q, 4, none⟩ = some (.slice D nd cd) := hq6.cell 4
                  have HB0 := Lib.hid hb0
                  have HHD := Lib.hid hhd
                  clear p1 p2 p3 P2 hq2 HL1 hhd hb0
                  by_cases hl0 : nl = 0
                  · have hlc : f.lc = [] := List.length_eq_zero_iff.1 (by omega)
                    have P7 : PI w b X k cx (some ⟨g, off, none⟩) ny cy (bdL es fs j f 0) w6 := by
                      rw [HB0.out, HHD.out, if_pos hlc, List.append_nil]
                      exact P6
                    clear P6 hq6 hlc
                    subst hl0
                    go_wp2_with fail
                    go_loopw [98] (fun i wr => ∃ l : Nat, l ≤ nd ∧ i = .int .i64 (l : Int) ∧ PI w b X k cx (some ⟨g, off, none⟩) ny cy (bdL es fs j f l) wr) (fun i _ => nd - (intOf i).toNat)
                    case atStart => exact ⟨0, Nat.zero_le _, rfl, P7⟩
                    case round =>
                      obtain ⟨l, hl, rfl, hP⟩ := hrel
                      clear P7 z4
                      by_cases hlt3 : l < nd
                      · have hlf : l < f.bd.length := by omega
                        obtain ⟨gd, od, rfl, hcd⟩ := C.rdJ_at (HFA.out _ hP.2.1).rd (by omega)
                        obtain ⟨d0, d1, d2⟩ := hcd l hlf
                        have hx1 := List.all_eq_true.1 (ok_body hfo.ok).1 _ (List.getElem_mem hlf)
                        have hx2 := hfo.hI _ (List.getElem_mem hlf)
                        have hnb := Lib.hid (bdL_next (es := es) (fs := fs) (k := j) hlf)
                        have hnl3 := (hbt.out (l + 1)).1
                        have htz := text_le hx2
                        have hil := itL_le hx2
                        have hll := lblW_le l (by omega)
                        rw [hnb.out, List.length_append, List.length_append] at hnl3
                        generalize f.bd[l] = x at d0 d1 d2 hx1 hx2 hnb hnl3 htz hil
                        obtain ⟨op, xa, xb⟩ := x
                        dsimp only at d0 d1 d2 hx2 htz
                        have hbx := Blk.new wr 37 #[.int .i64 op, .int .i64 xa, .int .i64 xb]
                        have kx := (Keep.refl NoB wr).alloc (.cells #[.int .i64 op, .int .i64 xa, .int .i64 xb] 37)
                        have P8 := hP.keep kx
                        have hqxb : b < wr.heap.size := by obtain ⟨_, _, h9, _⟩ := bld_cells hP.1; exact (Array.getElem?_eq_some_iff.1 h9).1
                        obtain ⟨w8, hw8⟩ : ∃ w8, wr.alloc (.cells #[.int .i64 op, .int .i64 xa, .int .i64 xb] 37) = w8 := ⟨_, rfl⟩
                        obtain ⟨qx, hqx⟩ : ∃ qx, wr.heap.size = qx := ⟨_, rfl⟩
                        rw [hw8] at hbx P8
                        rw [hqx] at hbx hqxb
                        have HIt := Lib.hid (itoa_any (l : Int) w8 (by omega) (by omega) (HLO.out _ P8.2.1).lib)
                        obtain ⟨IT, hIT⟩ : ∃ IT, str (Lib.itoa (l : Int)) = IT := ⟨_, rfl⟩
                        have hITz : IT.size ≤ 21 := by rw [← hIT, size_of (S := str (Lib.itoa (l : Int))) (s := Lib.itoa (l : Int)) (by simp)]; exact Lib.itoa_length_le _ (by omega) (by omega)
                        have HL4 : Hid ((⟨#[76]⟩ : ByteArray) ++ IT ++ (⟨#[58, 10]⟩ : ByteArray) = str (joinW (lblW (l : Int)) ++ [10])) := by
                          show _ = _
                          rw [← hIT, show (⟨#[76]⟩ : ByteArray) = str [76] from rfl, show (⟨#[58, 10]⟩ : ByteArray) = str [58, 10] from rfl, str_add, str_add]
                          congr 1
                          unfold lblW lbl
                          simp [joinW]
                        rw [hIT] at HIt
                        clear hP kx hcd hIT
                        go_wp2_with fail
                        try rw [hw8]
                        try rw [hqx]
                        clear hw8 hqx d0 d1 d2
                        refine HIt.out.mono ?_
                        rintro e w9 ⟨rfl, k9⟩
                        have P9 := P8.keep k9
                        have hb9 := hbx.keep k9 id
                        clear P8 hbx HIt k9
                        go_wp2_with fail
                        refine (write_any b (bdL es fs j f l) (joinW (lblW (l : Int)) ++ [10]) _ w9 P9.1 HL4.out (by rw [List.length_append, List.length_singleton]; omega) P9.le).mono ?_
                        rintro e w10 ⟨⟨u10, v10, rfl⟩, p1, p2, p3⟩
                        have P10 := P9.put p1 p2 p3 hbl
                        have hb10 := blk_others hb9 p3 (by omega) (by decide)
                        have x0 := hb10.cell 0
                        have x1 := hb10.cell 1
                        have x2 := hb10.cell 2
                        simp only [List.getElem?_toArray, List.getElem?_cons_zero, List.getElem?_cons_succ] at x0 x1 x2
                        have HS3 := Lib.hid (O.show_yes op xa xb _ hx1 hx2.1 hx2.2 (HLO.out _ P10.2.1))
                        clear P9 hb9 p1 p2 p3 HL4 hITz
                        go_wp2_with fail
                        refine HS3.out.mono ?_
                        rintro e w11 ⟨dd, rfl, hdd, k11⟩
                        have P11 := P10.keep k11
                        have hb11 := hb10.keep k11 id
                        have hdd2 : dd = str (O.textI op xa xb) := hdd.out
                        have hjw := join_words (op, xa, xb)
                        dsimp only at hjw
                        obtain ⟨ws, hws⟩ : ∃ ws, wordsX (op, xa, xb) = ws := ⟨_, rfl⟩
                        have hvis := wordsX_vis hx1
                        rw [hws] at hjw hvis
                        have HFl := Lib.hid (fields_any ws w11 hvis (by rw [hjw]; omega) (HTB.out _ P11.2.1))
                        rw [hjw, ← hdd2] at HFl
                        clear hdd hdd2 P10 hb10 HS3 k11 x0 x1 x2
                        go_wp2_with fail
                        refine HFl.out.mono ?_
                        rintro e w12 ⟨rfl, rfl⟩
                        have k12 := (Keep.refl NoB w11).alloc (.cells (sv ws).toArray 9)
                        have hgw := Blk.new w11 9 (sv ws).toArray
                        have P12 := P11.keep k12
                        have hb12 := hb11.keep k12 id
                        obtain ⟨w12, hw12⟩ : ∃ w12, w11.alloc (.cells (sv ws).toArray 9) = w12 := ⟨_, rfl⟩
                        obtain ⟨gw, hgq⟩ : ∃ gw, w11.heap.size = gw := ⟨_, rfl⟩
                        have hgb : b < gw := by rw [← hgq]; obtain ⟨_, _, h9, _⟩ := bld_cells P11.1; exact (Array.getElem?_eq_some_iff.1 h9).1
                        have hgz : w.heap.size < gw := by omega
                        have hnq : qx ≠ gw := by rw [← hgq]; exact Nat.ne_of_lt hb11.lt
                        rw [hw12] at P12 hb12 hgw
                        rw [hgq] at hgw
                        rw [hw12, hgq]
                        have x0 := hb12.cell 0
                        have x1 := hb12.cell 1
                        have x2 := hb12.cell 2
                        simp only [List.getElem?_toArray, List.getElem?_cons_zero, List.getElem?_cons_succ] at x0 x1 x2
                        have HGo := Lib.hid (O.goes_any op xa xb w12)
                        clear P11 hb11 k12 HFl hw12 hgq
                        go_wp2_with fail
                        refine HGo.out.mono ?_
                        rintro e w13 ⟨rfl, k13⟩
                        have P13 := P12.keep k13
                        have hg13 := hgw.keep k13 id
                        clear P12 hgw k13 HGo x0 x1 x2 hb12
                        by_cases hg : C.gB (op, xa, xb) = true
                        · have hgi : O.goesI op xa xb = true := hg
                          rw [hgi]
                          obtain ⟨e1, e2⟩ := jmp_words hg
                          rw [hws] at e1
                          have hlw : ws.length = 2 := by rw [e1]; rfl
                          rw [hlw]
                          rw [e1] at hg13
                          dsimp only at hg13 e2
                          have y1 : w13.cell? ⟨gw, 1, none⟩ = some (.string (str (Lib.itoa xa))) := hg13.cell 1
                          have yf := hg13.frozen 1
                          have yl := hg13.lt
                          have P14 := P13.set (j := 1) (.string (str (76 :: Lib.itoa xa))) hg13 hgz
                          have hg14 : Blk (w13.setCell ⟨gw, 1, none⟩ (.string (str (76 :: Lib.itoa xa)))) gw 9 (sv [(O.rowAt op).name, 76 :: Lib.itoa xa]).toArray := hg13.put 1 _
                          have HC : Hid ((⟨#[76]⟩ : ByteArray) ++ str (Lib.itoa xa) = str (76 :: Lib.itoa xa)) := by show _ = _; rw [show (⟨#[76]⟩ : ByteArray) = str [76] from rfl, str_add]; rfl
                          have hAz : (str (Lib.itoa xa)).size ≤ 21 := by rw [size_of (S := str (Lib.itoa xa)) (s := Lib.itoa xa) (by simp)]; exact Lib.itoa_length_le _ hx2.1.1 hx2.1.2
                          obtain ⟨AT, hAT⟩ : ∃ AT, str (Lib.itoa xa) = AT := ⟨_, rfl⟩
                          rw [hAT] at y1 HC hAz
                          obtain ⟨w14, hw14⟩ : ∃ w14, w13.setCell ⟨gw, 1, none⟩ (.string (str (76 :: Lib.itoa xa))) = w14 := ⟨_, rfl⟩
                          rw [hw14] at P14 hg14
                          rw [← HC.out] at hw14
                          have HJ := Lib.hid (joinS_any (some ⟨gw, 0, none⟩) [(O.rowAt op).name, 76 :: Lib.itoa xa] 2 2 w14 (rd_blkM (xs := sv [(O.rowAt op).name, 76 :: Lib.itoa xa]) hg14) rfl (by omega) (Nat.le_refl _) (by rw [← e2]; omega))
                          rw [← e2] at HJ
                          have HNL := Lib.hid hnl3
                          clear P13 hg13 hAT HC hg14 e1 e2 hlw hjw hws hvis htz hll hnl3
                          go_wp2_with fail
                          try rw [hw14]
                          clear hw14 y1 yf yl hAz
                          refine HJ.out.mono ?_
                          rintro e w15 ⟨rfl, k15⟩
                          have P15 := P14.keep k15
                          have HL5 : Hid (str (joinW (itL (op, xa, xb))) ++ (⟨#[10]⟩ : ByteArray) = str (joinW (itL (op, xa, xb)) ++ [10])) := by show _ = _; rw [show (⟨#[10]⟩ : ByteArray) = str [10] from rfl, str_add]
                          have hJz : (str (joinW (itL (op, xa, xb)))).size ≤ 100 := by rw [size_of (S := str (joinW (itL (op, xa, xb)))) (s := joinW (itL (op, xa, xb))) (by simp)]; exact hil
                          have HIL := Lib.hid hil
                          clear hil
                          obtain ⟨JT, hJT⟩ : ∃ JT, str (joinW (itL (op, xa, xb))) = JT := ⟨_, rfl⟩
                          rw [hJT] at HL5 hJz
                          try rw [hJT]
                          clear HJ hJT
                          go_wp2_with fail
                          refine (write_any b (bdL es fs j f l ++ (joinW (lblW (l : Int)) ++ [10])) (joinW (itL (op, xa, xb)) ++ [10]) _ w15 P15.1 HL5.out (by have := HNL.out; rw [List.length_append]; omega) P15.le).mono ?_
                          rintro e w16 ⟨⟨u11, v11, rfl⟩, p1, p2, p3⟩
                          rw [← hnb.out] at p1
                          have P16 := P15.put p1 p2 p3 hbl
                          clear P15 p1 p2 p3
                          go_wp2
                          go_roundw
                          case rel => exact ⟨l + 1, by omega, by go_num, P16⟩
                          case measure => simp [intOf]; omega
                        · have hgi : O.goesI op xa xb = false := by simpa using (show ¬ (O.goesI op xa xb = true) from hg)
                          rw [hgi]
                          have hne0 : 0 < ws.length := by rw [← hws]; unfold wordsX; simp
                          have e2 : itL (op, xa, xb) = ws := by rw [← hws]; unfold itL; rw [if_neg hg]
                          have HJ := Lib.hid (joinS_any (some ⟨gw, 0, none⟩) ws ws.length ws.length w13 (rd_blkM (xs := sv ws) hg13) rfl hne0 (Nat.le_refl _) (by rw [← e2]; omega))
                          rw [← e2] at HJ
                          rw [← e2]
                          have HNL := Lib.hid hnl3
                          clear hg13 e2 hjw hws hvis htz hll hnl3 hne0 hg
                          go_wp2_with fail
                          refine HJ.out.mono ?_
                          rintro e w15 ⟨rfl, k15⟩
                          have P15 := P13.keep k15
                          have HL5 : Hid (str (joinW (itL (op, xa, xb))) ++ (⟨#[10]⟩ : ByteArray) = str (joinW (itL (op, xa, xb)) ++ [10])) := by show _ = _; rw [show (⟨#[10]⟩ : ByteArray) = str [10] from rfl, str_add]
                          have hJz : (str (joinW (itL (op, xa, xb)))).size ≤ 100 := by rw [size_of (S := str (joinW (itL (op, xa, xb)))) (s := joinW (itL (op, xa, xb))) (by simp)]; exact hil
                          have HIL := Lib.hid hil
                          clear hil
                          obtain ⟨JT, hJT⟩ : ∃ JT, str (joinW (itL (op, xa, xb))) = JT := ⟨_, rfl⟩
                          rw [hJT] at HL5 hJz
                          try rw [hJT]
                          clear HJ hJT
                          go_wp2_with fail
                          refine (write_any b (bdL es fs j f l ++ (joinW (lblW (l : Int)) ++ [10])) (joinW (itL (op, xa, xb)) ++ [10]) _ w15 P15.1 HL5.out (by have := HNL.out; rw [List.length_append]; omega) P15.le).mono ?_
                          rintro e w16 ⟨⟨u11, v11, rfl⟩, p1, p2, p3⟩
                          rw [← hnb.out] at p1
                          have P16 := P15.put p1 p2 p3 hbl
                          clear P15 p1 p2 p3
                          go_wp2
                          go_roundw
                          case rel => exact ⟨l + 1, by omega, by go_num, P16⟩
                          case measure => simp [intOf]; omega
                      · obtain rfl : l = nd := by omega
                        have P11 : PI w b X k cx (some ⟨g, off, none⟩) ny cy (fnL es fs (j + 1)) wr := by rw [hnx.out, eld]; exact hP
                        clear hP
                        go_wp2
                        go_roundw
                        case rel => exact ⟨j + 1, by omega, by go_num, P11⟩
                        case measure => simp [intOf]; omega
                  · have hlc : f.lc ≠ [] := fun e => hl0 (by rw [← ell, e]; rfl)
                    have HT := Lib.hid (W.text_any L f.lc nl cl w6 (HLO.out _ P6.2.1).lets (HFA.out _ P6.2.1).rl (Lib.hid ell) (by omega))
                    have hTz : (str (W.txt f.lc)).size ≤ 1024 := by rw [size_of (S := str (W.txt f.lc)) (s := W.txt f.lc) (by simp)]; exact S.txt_le f.lc
                    have HL2 : Hid ((⟨#[108, 111, 99, 97, 108, 32]⟩ : ByteArray) ++ str (W.txt f.lc) ++ (⟨#[10]⟩ : ByteArray) = str (joinW [localW, W.txt f.lc] ++ [10])) := by
                      show _ = _
                      rw [show (⟨#[108, 111, 99, 97, 108, 32]⟩ : ByteArray) = str [108, 111, 99, 97, 108, 32] from rfl, show (⟨#[10]⟩ : ByteArray) = str [10] from rfl, str_add, str_add]
                      rfl
                    have HH2 : Hid (bdL es fs j f 0 = (fnL es fs j ++ (joinW [funcW, f.nm, S.shG f.ar f.rs] ++ [10])) ++ (joinW [localW, W.txt f.lc] ++ [10])) := by
                      show _ = _
                      rw [HB0.out, HHD.out, if_neg hlc]
                      simp only [List.append_assoc]
                    have hl3 : ((fnL es fs j ++ (joinW [funcW, f.nm, S.shG f.ar f.rs] ++ [10])).length + (joinW [localW, W.txt f.lc] ++ [10]).length) ≤ 170000000 := by
                      have := congrArg List.length HH2.out
                      rw [List.length_append] at this
                      omega
                    have hnl0 : 0 < nl := by omega
                    obtain ⟨TT, hTT⟩ : ∃ TT, str (W.txt f.lc) = TT := ⟨_, rfl⟩
                    rw [hTT] at HT hTz HL2
                    clear hTT hlc hl0
                    go_wp2_with fail
                    refine HT.out.mono ?_
                    rintro e w7 ⟨rfl, k7⟩
                    have P7' := P6.keep k7
                    have hq7 := hq6.keep k7 id
                    clear P6 hq6 z3 z4 HT
                    go_wp2_with fail
                    refine (write_any b _ (joinW [localW, W.txt f.lc] ++ [10]) _ w7 P7'.1 HL2.out (by omega) P7'.le).mono ?_
                    rintro e w8 ⟨⟨u9, v9, rfl⟩, p1, p2, p3⟩
                    rw [← HH2.out] at p1
                    have P7 := P7'.put p1 p2 p3 hbl
                    have z4 : w8.cell? ⟨q, 4, none⟩ = some (.slice D nd cd) := (blk_others hq7 p3 (by omega) (by decide)).cell 4
                    clear P7' hq7 p1 p2 p3 k7
                    go_wp2_with fail
                    go_loopw [98] (fun i wr => ∃ l : Nat, l ≤ nd ∧ i = .int .i64 (l : Int) ∧ PI w b X k cx (some ⟨g, off, none⟩) ny cy (bdL es fs j f l) wr) (fun i _ => nd - (intOf i).toNat)
                    case atStart => exact ⟨0, Nat.zero_le _, rfl, P7⟩
                    case round =>
                      obtain ⟨l, hl, rfl, hP⟩ := hrel
                      clear P7 z4
                      by_cases hlt3 : l < nd
                      · have hlf : l < f.bd.length := by omega
                        obtain ⟨gd, od, rfl, hcd⟩ := C.rdJ_at (HFA.out _ hP.2.1).rd (by omega)
                        obtain ⟨d0, d1, d2⟩ := hcd l hlf
                        have hx1 := List.all_eq_true.1 (ok_body hfo.ok).1 _ (List.getElem_mem hlf)
                        have hx2 := hfo.hI _ (List.getElem_mem hlf)
                        have hnb := Lib.hid (bdL_next (es := es) (fs := fs) (k := j) hlf)
                        have hnl3 := (hbt.out (l + 1)).1
                        have htz := text_le hx2
                        have hil := itL_le hx2
                        have hll := lblW_le l (by omega)
                        rw [hnb.out, List.length_append, List.length_append] at hnl3
                        generalize f.bd[l] = x at d0 d1 d2 hx1 hx2 hnb hnl3 htz hil
                        obtain ⟨op, xa, xb⟩ := x
                        dsimp only at d0 d1 d2 hx2 htz
                        have hbx := Blk.new wr 37 #[.int .i64 op, .int .i64 xa, .int .i64 xb]
                        have kx := (Keep.refl NoB wr).alloc (.cells #[.int .i64 op, .int .i64 xa, .int .i64 xb] 37)
                        have P8 := hP.keep kx
                        have hqxb : b < wr.heap.size := by obtain ⟨_, _, h9, _⟩ := bld_cells hP.1; exact (Array.getElem?_eq_some_iff.1 h9).1
                        obtain ⟨w8, hw8⟩ : ∃ w8, wr.alloc (.cells #[.int .i64 op, .int .i64 xa, .int .i64 xb] 37) = w8 := ⟨_, rfl⟩
                        obtain ⟨qx, hqx⟩ : ∃ qx, wr.heap.size = qx := ⟨_, rfl⟩
                        rw [hw8] at hbx P8
                        rw [hqx] at hbx hqxb
                        have HIt := Lib.hid (itoa_any (l : Int) w8 (by omega) (by omega) (HLO.out _ P8.2.1).lib)
                        obtain ⟨IT, hIT⟩ : ∃ IT, str (Lib.itoa (l : Int)) = IT := ⟨_, rfl⟩
                        have hITz : IT.size ≤ 21 := by rw [← hIT, size_of (S := str (Lib.itoa (l : Int))) (s := Lib.itoa (l : Int)) (by simp)]; exact Lib.itoa_length_le _ (by omega) (by omega)
                        have HL4 : Hid ((⟨#[76]⟩ : ByteArray) ++ IT ++ (⟨#[58, 10]⟩ : ByteArray) = str (joinW (lblW (l : Int)) ++ [10])) := by
                          show _ = _
                          rw [← hIT, show (⟨#[76]⟩ : ByteArray) = str [76] from rfl, show (⟨#[58, 10]⟩ : ByteArray) = str [58, 10] from rfl, str_add, str_add]
                          congr 1
                          unfold lblW lbl
                          simp [joinW]
                        rw [hIT] at HIt
                        clear hP kx hcd hIT
                        go_wp2_with fail
                        try rw [hw8]
                        try rw [hqx]
                        clear hw8 hqx d0 d1 d2
                        refine HIt.out.mono ?_
                        rintro e w9 ⟨rfl, k9⟩
                        have P9 := P8.keep k9
                        have hb9 := hbx.keep k9 id
                        clear P8 hbx HIt k9
                        go_wp2_with fail
                        refine (write_any b (bdL es fs j f l) (joinW (lblW (l : Int)) ++ [10]) _ w9 P9.1 HL4.out (by rw [List.length_append, List.length_singleton]; omega) P9.le).mono ?_
                        rintro e w10 ⟨⟨u10, v10, rfl⟩, p1, p2, p3⟩
                        have P10 := P9.put p1 p2 p3 hbl
                        have hb10 := blk_others hb9 p3 (by omega) (by decide)
                        have x0 := hb10.cell 0
                        have x1 := hb10.cell 1
                        have x2 := hb10.cell 2
                        simp only [List.getElem?_toArray, List.getElem?_cons_zero, List.getElem?_cons_succ] at x0 x1 x2
                        have HS3 := Lib.hid (O.show_yes op xa xb _ hx1 hx2.1 hx2.2 (HLO.out _ P10.2.1))
                        clear P9 hb9 p1 p2 p3 HL4 hITz
                        go_wp2_with fail
                        refine HS3.out.mono ?_
                        rintro e w11 ⟨dd, rfl, hdd, k11⟩
                        have P11 := P10.keep k11
                        have hb11 := hb10.keep k11 id
                        have hdd2 : dd = str (O.textI op xa xb) := hdd.out
                        have hjw := join_words (op, xa, xb)
                        dsimp only at hjw
                        obtain ⟨ws, hws⟩ : ∃ ws, wordsX (op, xa, xb) = ws := ⟨_, rfl⟩
                        have hvis := wordsX_vis hx1
                        rw [hws] at hjw hvis
                        have HFl := Lib.hid (fields_any ws w11 hvis (by rw [hjw]; omega) (HTB.out _ P11.2.1))
                        rw [hjw, ← hdd2] at HFl
                        clear hdd hdd2 P10 hb10 HS3 k11 x0 x1 x2
                        go_wp2_with fail
                        refine HFl.out.mono ?_
                        rintro e w12 ⟨rfl, rfl⟩
                        have k12 := (Keep.refl NoB w11).alloc (.cells (sv ws).toArray 9)
                        have hgw := Blk.new w11 9 (sv ws).toArray
                        have P12 := P11.keep k12
                        have hb12 := hb11.keep k12 id
                        obtain ⟨w12, hw12⟩ : ∃ w12, w11.alloc (.cells (sv ws).toArray 9) = w12 := ⟨_, rfl⟩
                        obtain ⟨gw, hgq⟩ : ∃ gw, w11.heap.size = gw := ⟨_, rfl⟩
                        have hgb : b < gw := by rw [← hgq]; obtain ⟨_, _, h9, _⟩ := bld_cells P11.1; exact (Array.getElem?_eq_some_iff.1 h9).1
                        have hgz : w.heap.size < gw := by omega
                        have hnq : qx ≠ gw := by rw [← hgq]; exact Nat.ne_of_lt hb11.lt
                        rw [hw12] at P12 hb12 hgw
                        rw [hgq] at hgw
                        rw [hw12, hgq]
                        have x0 := hb12.cell 0
                        have x1 := hb12.cell 1
                        have x2 := hb12.cell 2
                        simp only [List.getElem?_toArray, List.getElem?_cons_zero, List.getElem?_cons_succ] at x0 x1 x2
                        have HGo := Lib.hid (O.goes_any op xa xb w12)
                        clear P11 hb11 k12 HFl hw12 hgq
                        go_wp2_with fail
                        refine HGo.out.mono ?_
                        rintro e w13 ⟨rfl, k13⟩
                        have P13 := P12.keep k13
                        have hg13 := hgw.keep k13 id
                        clear P12 hgw k13 HGo x0 x1 x2 hb12
                        by_cases hg : C.gB (op, xa, xb) = true
                        · have hgi : O.goesI op xa xb = true := hg
                          rw [hgi]
                          obtain ⟨e1, e2⟩ := jmp_words hg
                          rw [hws] at e1
                          have hlw : ws.length = 2 := by rw [e1]; rfl
                          rw [hlw]
                          rw [e1] at hg13
                          dsimp only at hg13 e2
                          have y1 : w13.cell? ⟨gw, 1, none⟩ = some (.string (str (Lib.itoa xa))) := hg13.cell 1
                          have yf := hg13.frozen 1
                          have yl := hg13.lt
                          have P14 := P13.set (j := 1) (.string (str (76 :: Lib.itoa xa))) hg13 hgz
                          have hg14 : Blk (w13.setCell ⟨gw, 1, none⟩ (.string (str (76 :: Lib.itoa xa)))) gw 9 (sv [(O.rowAt op).name, 76 :: Lib.itoa xa]).toArray := hg13.put 1 _
                          have HC : Hid ((⟨#[76]⟩ : ByteArray) ++ str (Lib.itoa xa) = str (76 :: Lib.itoa xa)) := by show _ = _; rw [show (⟨#[76]⟩ : ByteArray) = str [76] from rfl, str_add]; rfl
                          have hAz : (str (Lib.itoa xa)).size ≤ 21 := by rw [size_of (S := str (Lib.itoa xa)) (s := Lib.itoa xa) (by simp)]; exact Lib.itoa_length_le _ hx2.1.1 hx2.1.2
                          obtain ⟨AT, hAT⟩ : ∃ AT, str (Lib.itoa xa) = AT := ⟨_, rfl⟩
                          rw [hAT] at y1 HC hAz
                          obtain ⟨w14, hw14⟩ : ∃ w14, w13.setCell ⟨gw, 1, none⟩ (.string (str (76 :: Lib.itoa xa))) = w14 := ⟨_, rfl⟩
                          rw [hw14] at P14 hg14
                          rw [← HC.out] at hw14
                          have HJ := Lib.hid (joinS_any (some ⟨gw, 0, none⟩) [(O.rowAt op).name, 76 :: Lib.itoa xa] 2 2 w14 (rd_blkM (xs := sv [(O.rowAt op).name, 76 :: Lib.itoa xa]) hg14) rfl (by omega) (Nat.le_refl _) (by rw [← e2]; omega))
                          rw [← e2] at HJ
                          have HNL := Lib.hid hnl3
                          clear P13 hg13 hAT HC hg14 e1 e2 hlw hjw hws hvis htz hll hnl3
                          go_wp2_with fail
                          try rw [hw14]
                          clear hw14 y1 yf yl hAz
                          refine HJ.out.mono ?_
                          rintro e w15 ⟨rfl, k15⟩
                          have P15 := P14.keep k15
                          have HL5 : Hid (str (joinW (itL (op, xa, xb))) ++ (⟨#[10]⟩ : ByteArray) = str (joinW (itL (op, xa, xb)) ++ [10])) := by show _ = _; rw [show (⟨#[10]⟩ : ByteArray) = str [10] from rfl, str_add]
                          have hJz : (str (joinW (itL (op, xa, xb)))).size ≤ 100 := by rw [size_of (S := str (joinW (itL (op, xa, xb)))) (s := joinW (itL (op, xa, xb))) (by simp)]; exact hil
                          have HIL := Lib.hid hil
                          clear hil
                          obtain ⟨JT, hJT⟩ : ∃ JT, str (joinW (itL (op, xa, xb))) = JT := ⟨_, rfl⟩
                          rw [hJT] at HL5 hJz
                          try rw [hJT]
                          clear HJ hJT
                          go_wp2_with fail
                          refine (write_any b (bdL es fs j f l ++ (joinW (lblW (l : Int)) ++ [10])) (joinW (itL (op, xa, xb)) ++ [10]) _ w15 P15.1 HL5.out (by have := HNL.out; rw [List.length_append]; omega) P15.le).mono ?_
                          rintro e w16 ⟨⟨u11, v11, rfl⟩, p1, p2, p3⟩
                          rw [← hnb.out] at p1
                          have P16 := P15.put p1 p2 p3 hbl
                          clear P15 p1 p2 p3
                          go_wp2
                          go_roundw
                          case rel => exact ⟨l + 1, by omega, by go_num, P16⟩
                          case measure => simp [intOf]; omega
                        · have hgi : O.goesI op xa xb = false := by simpa using (show ¬ (O.goesI op xa xb = true) from hg)
                          rw [hgi]
                          have hne0 : 0 < ws.length := by rw [← hws]; unfold wordsX; simp
                          have e2 : itL (op, xa, xb) = ws := by rw [← hws]; unfold itL; rw [if_neg hg]
                          have HJ := Lib.hid (joinS_any (some ⟨gw, 0, none⟩) ws ws.length ws.length w13 (rd_blkM (xs := sv ws) hg13) rfl hne0 (Nat.le_refl _) (by rw [← e2]; omega))
                          rw [← e2] at HJ
                          rw [← e2]
                          have HNL := Lib.hid hnl3
                          clear hg13 e2 hjw hws hvis htz hll hnl3 hne0 hg
                          go_wp2_with fail
                          refine HJ.out.mono ?_
                          rintro e w15 ⟨rfl, k15⟩
                          have P15 := P13.keep k15
                          have HL5 : Hid (str (joinW (itL (op, xa, xb))) ++ (⟨#[10]⟩ : ByteArray) = str (joinW (itL (op, xa, xb)) ++ [10])) := by show _ = _; rw [show (⟨#[10]⟩ : ByteArray) = str [10] from rfl, str_add]
                          have hJz : (str (joinW (itL (op, xa, xb)))).size ≤ 100 := by rw [size_of (S := str (joinW (itL (op, xa, xb)))) (s := joinW (itL (op, xa, xb))) (by simp)]; exact hil
                          have HIL := Lib.hid hil
                          clear hil
                          obtain ⟨JT, hJT⟩ : ∃ JT, str (joinW (itL (op, xa, xb))) = JT := ⟨_, rfl⟩
                          rw [hJT] at HL5 hJz
                          try rw [hJT]
                          clear HJ hJT
                          go_wp2_with fail
                          refine (write_any b (bdL es fs j f l ++ (joinW (lblW (l : Int)) ++ [10])) (joinW (itL (op, xa, xb)) ++ [10]) _ w15 P15.1 HL5.out (by have := HNL.out; rw [List.length_append]; omega) P15.le).mono ?_
                          rintro e w16 ⟨⟨u11, v11, rfl⟩, p1, p2, p3⟩
                          rw [← hnb.out] at p1
                          have P16 := P15.put p1 p2 p3 hbl
                          clear P15 p1 p2 p3
                          go_wp2
                          go_roundw
                          case rel => exact ⟨l + 1, by omega, by go_num, P16⟩
                          case measure => simp [intOf]; omega
                      · obtain rfl : l = nd := by omega
                        have P11 : PI w b X k cx (some ⟨g, off, none⟩) ny cy (fnL es fs (j + 1)) wr := by rw [hnx.out, eld]; exact hP
                        clear hP
                        go_wp2
                        go_roundw
                        case rel => exact ⟨j + 1, by omega, by go_num, P11⟩
                        case measure => simp [intOf]; omega
              · obtain rfl : j = ny := by omega
                have hfin : fnL es fs j = flat (imgT true (imOf es fs)) := by rw [← fnL_all, HY.out]
                have hfl := fnL_le hes hfs hF.out j
                obtain ⟨t2, ht2⟩ : ∃ t2, flat (imgT true (imOf es fs)) = t2 := ⟨_, rfl⟩
                rw [hfin, ht2] at hP hfl
                have HT2 := Lib.hid ht2
                have HLn := Lib.hid (fun W (h : Bld b t2 W) => Tryz.Builder_Len_f b b _ W h)
                have HLl := Lib.hid (Lib.byteCells_length t2)
                clear hfin ht2
                go_wp2_with fail
                refine (HLn.out _ hP.1).mono ?_
                rintro e w9 ⟨rfl, rfl⟩
                rw [HLl.out]
                by_cases hbig2 : 131072 < t2.length
                · have hgt2 : (131072 : Int) < (t2.length : Int) := by omega
                  go_wp2
                  go_ret
                  exact ⟨rfl, hP.2.1⟩
                · have hngt2 : ¬ (131072 : Int) < (t2.length : Int) := by omega
                  go_wp2_with fail
                  refine (string_any b t2 _ hP.1 hP.le).mono ?_
                  rintro e w10 ⟨rfl, p1, p2, p3⟩
                  have P10 := hP.put p1 p2 p3 hbl
                  obtain ⟨T2, hT2⟩ : ∃ T2, str t2 = T2 := ⟨_, rfl⟩
                  have HTS2 : Hid (T2.data.toList = t2) := by show _ = _; rw [← hT2]
                  have htz2 := size_of HTS2.out
                  have hPa2 := parse_t T2 t2 w10 (HEV.out _ P10.2.1) HTS2 (by omega)
                  have hpi2 := parse_img true HOK.out (by rw [HT2.out]; omega)
                  rw [HT2.out] at hpi2
                  rw [hpi2] at hPa2
                  have HPa2 := Lib.hid hPa2
                  unfold ParseR at HPa2
                  rw [hT2]
                  clear hP p1 p2 p3 hPa2 hpi2 HLn HLl
                  go_wp2_with fail
                  refine HPa2.out.mono ?_
                  rintro e w11 ⟨v6, es6, fs6, rfl, ho6, hsm6, him6, k11⟩
                  obtain ⟨X6, nx6, cx6, Y6, ny6, cy6⟩ := v6
                  dsimp only [IV.val, IV.cells] at *
                  have P11 := P10.keep k11
                  have k12 := (Keep.refl NoB w11).alloc (.cells #[.slice X6 nx6 cx6, .slice Y6 ny6 cy6] 27)
                  have P12 := P11.keep k12
                  have hi6 := ho6.im.keepN k12
                  have b18 := Blk.new w11 27 #[.slice X6 nx6 cx6, .slice Y6 ny6 cy6]
                  obtain ⟨W12, hW12⟩ : ∃ W12, w11.alloc (.cells #[.slice X6 nx6 cx6, .slice Y6 ny6 cy6] 27) = W12 := ⟨_, rfl⟩
                  obtain ⟨gB, hgB⟩ : ∃ gB, w11.heap.size = gB := ⟨_, rfl⟩
                  have ho12 := ho6.keepN k12
                  have hgbB : b < gB := by rw [← hgB]; exact Nat.lt_of_lt_of_le (bld_lt P10.1) k11.size
                  rw [hW12] at P12 b18 ho12
                  rw [hgB] at b18
                  have HP12 := Lib.hid P12
                  have HbW := Lib.hid (bld_lt P12.1)
                  have HT2b := Lib.hid hT2
                  have c0 := P12.2.2.cell 0
                  have c1 := P12.2.2.cell 1
                  have z0 := b18.cell 0
                  have z1 := b18.cell 1
                  simp only [List.getElem?_toArray, List.getElem?_cons_zero, List.getElem?_cons_succ] at c0 c1 z0 z1
                  have hne0 : 0 < fs.length := by
                    have h1 := ((okI_iff _).1 HOK.out).1.2.1.1
                    have h2 : 1 ≤ fs.length := by simpa [imOf] using h1
                    omega
                  obtain ⟨gF, oF, hYe, _, _, _, _, f4⟩ := fun_at (HI.out _ P12.2.1).ry hne0
                  have hYe : Y = some ⟨gF, oF, none⟩ := hYe
                  rw [Nat.zero_mul, Nat.add_zero] at f4
                  have hjl : 0 < j := by rw [← HY.out]; exact hne0
                  have hbl0 : w.heap.size < b := hbl
                  have hOo : ∀ k, k < b → ¬ OB b W12 k := by
                    rintro k hk ((rfl | ⟨h1, _⟩) | h1)
                    · omega
                    · omega
                    · have := HbW.out; omega
                  have hgO : ¬ OB b W12 gB := fun h => ob_type P12.1 gB h _ _ _ (by decide) (by decide) b18
                  have hgF : gF < b := by
                    have h1 := (HI.out w (Keep.refl _ _)).ry
                    obtain ⟨g9, o9, e9, _, _, _, _, f9⟩ := fun_at h1 hne0
                    have e9 : Y = some ⟨g9, o9, none⟩ := e9
                    rw [hYe] at e9
                    cases e9
                    exact Nat.lt_trans (World.block_lt_of_cell? _ _ f9) hbl
                  have HSm := Lib.hid (fun W' (hk : Keep (OB b W12) W12 W') => same_any ⟨X, k, cx, Y, j, cy⟩ ⟨X6, nx6, cx6, Y6, ny6, cy6⟩ es es6 fs fs6 W' (HI.out _ (ob_low HP12.out.2.1 hk (Nat.le_of_lt hbl0))) (im_ty ho12 hk (ob_type HP12.out.1)).im HSM.out hsm6)
                  rw [him6, same_self] at HSm
                  dsimp only [IV.val, IV.cells] at HSm
                  rw [hYe] at HSm
                  have HLb := Lib.hid (fun W' (hk : Keep (OB b W12) W12 W') => labels_any T2 t2 0 W' (Lib.hid (HEV.out _ (ob_low HP12.out.2.1 hk (Nat.le_of_lt hbl0)))) HTS2 (by omega) (by unfold O.I64; omega))
                  unfold LabR at HLb
                  have hbody := labels_img HOK.out (by rw [HT2.out]; omega) (f := fs[0].2) (by show (fs.map fun e => e.2)[0]? = _; rw [List.getElem?_map, List.getElem?_eq_getElem hne0]; rfl)
                  rw [HT2.out] at hbody
                  have hnd0 := ((HI.out w (Keep.refl _ _)).hf _ (List.getElem_mem hne0)).ld
                  have HLn : Hid ((labelsL t2 0).length = fs[0].1.nd) := by show _ = _; rw [hbody]; exact hnd0
                  generalize fs[0].1.D = D0 at *
                  generalize fs[0].1.cd = cd0 at *
                  generalize fs[0].1.nd = nd0 at *
                  clear P10 P11 HPa2 hnd0 hbody ho12 P12 b18 k12 hi6 ho6
                  go_wp2_with fail
                  try rw [hW12]
                  try rw [hgB]
                  try rw [hYe]
                  clear hW12 hgB
                  refine wp_region_tail7 (fun i => [138, 139, 140, 141, 142, 143, 144, 145, 146, 147, 148, 149, 150, 151, 152, 153, 154, 155, 156, 157, 158, 159].getD i 0) 22 (by kernel_rfl) (by kernel_rfl) (by kernel_rfl) (by kernel_rfl) (by kernel_rfl) 11 (OB b W12) (SPz [.bool true, .bool true, .int .i64 0, .bool true, .bool true, .bool true, .agg #[.slice X k cx, .slice Y j cy], .agg #[.slice X6 nx6 cx6, .slice Y6 ny6 cy6], .bool true, .bool true, .bool true, .string T2, undef, .int .i64 (nd0 : Int), .pointer (some ⟨w.heap.size, 1, none⟩), .slice (some ⟨gF, oF, none⟩) j cy, .pointer (some ⟨gF, oF, none⟩), .pointer (some ⟨gF, oF + 4, none⟩), .slice D0 nd0 cd0, .int .i64 (nd0 : Int), .bool true, .bool true] nd0) (fun i u x y hne h hk => by revert h; unfold SPz; split <;> exact id) (fun u x y h hk => h) rfl ?step ?spec ?fin
                  case step =>
                    intro i o a w' hoo hi hic hF hK hA
                    by_cases h0 : i = 0
                    · subst h0
                      simp only [List.getElem?_toArray, List.getElem?_cons_zero, Option.some.injEq] at hoo
                      subst hoo
                      have e3 : a.tmps.getD 3 undef = .bool true := hF.2.2 3 (by decide)
                      refine Does.plain rfl ?_
                      unfold yieldsK
                      go_simp
                      exact ⟨rfl, Keep.refl _ _⟩
                    by_cases h1 : i = 1
                    · subst h1
                      simp only [List.getElem?_toArray, List.getElem?_cons_zero, List.getElem?_cons_succ, Option.some.injEq] at hoo
                      subst hoo
                      have e138 : a.tmps.getD 138 undef = .bool true := hA ⟨0, .data⟩ (by simp) rfl
                      refine Does.plain rfl ?_
                      unfold yieldsK
                      go_simp
                      exact ⟨rfl, Keep.refl _ _⟩
                    by_cases h2 : i = 2
                    · subst h2
                      simp only [List.getElem?_toArray, List.getElem?_cons_zero, List.getElem?_cons_succ, Option.some.injEq] at hoo
                      subst hoo
                      have e20 : a.tmps.getD 20 undef = .int .i64 0 := hF.2.2 20 (by decide)
                      refine Does.yes (j := 1) (d := 139) (want := true) rfl rfl (hA ⟨1, .guard⟩ (by simp) rfl) ?_
                      unfold yieldsK
                      go_simp
                      exact ⟨rfl, Keep.refl _ _⟩
                    by_cases h3 : i = 3
                    · subst h3
                      simp only [List.getElem?_toArray, List.getElem?_cons_zero, List.getElem?_cons_succ, Option.some.injEq] at hoo
                      subst hoo
                      have e140 : a.tmps.getD 140 undef = .int .i64 0 := hA ⟨2, .data⟩ (by simp) rfl
                      refine Does.yes (j := 1) (d := 139) (want := true) rfl rfl (hA ⟨1, .guard⟩ (by simp) rfl) ?_
                      unfold yieldsK
                      go_simp
                      exact ⟨rfl, Keep.refl _ _⟩
                    by_cases h4 : i = 4
                    · subst h4
                      simp only [List.getElem?_toArray, List.getElem?_cons_zero, List.getElem?_cons_succ, Option.some.injEq] at hoo
                      subst hoo
                      have e139 : a.tmps.getD 139 undef = .bool true := hA ⟨1, .data⟩ (by simp) rfl
                      have e141 : a.tmps.getD 141 undef = .bool true := hA ⟨3, .data⟩ (by simp) rfl
                      refine Does.plain rfl ?_
                      unfold yieldsK
                      go_simp
                      exact ⟨rfl, Keep.refl _ _⟩
                    by_cases h5 : i = 5
                    · subst h5
                      simp only [List.getElem?_toArray, List.getElem?_cons_zero, List.getElem?_cons_succ, Option.some.injEq] at hoo
                      subst hoo
                      have e142 : a.tmps.getD 142 undef = .bool true := hA ⟨4, .data⟩ (by simp) rfl
                      refine Does.plain rfl ?_
                      unfold yieldsK
                      go_simp
                      exact ⟨rfl, Keep.refl _ _⟩
                    by_cases h6 : i = 6
                    · subst h6
                      simp only [List.getElem?_toArray, List.getElem?_cons_zero, List.getElem?_cons_succ, Option.some.injEq] at hoo
                      subst hoo
                      have e1 : a.tmps.getD 1 undef = .pointer (some ⟨w.heap.size, 0, none⟩) := hF.2.2 1 (by decide)
                      have q0 := Keep.cell hK c0 (hOo _ hbl0)
                      have q1 := Keep.cell hK c1 (hOo _ hbl0)
                      refine Does.yes (j := 5) (d := 143) (want := true) rfl rfl (hA ⟨5, .guard⟩ (by simp) rfl) ?_
                      unfold yieldsK
                      go_simp
                      exact ⟨rfl, Keep.refl _ _⟩
                    by_cases h7 : i = 7
                    · subst h7
                      simp only [List.getElem?_toArray, List.getElem?_cons_zero, List.getElem?_cons_succ, Option.some.injEq] at hoo
                      subst hoo
                      have e18 : a.tmps.getD 18 undef = .pointer (some ⟨gB, 0, none⟩) := hF.2.2 18 (by decide)
                      have q0 := Keep.cell hK z0 hgO
                      have q1 := Keep.cell hK z1 hgO
                      refine Does.yes (j := 5) (d := 143) (want := true) rfl rfl (hA ⟨5, .guard⟩ (by simp) rfl) ?_
                      unfold yieldsK
                      go_simp
                      exact ⟨rfl, Keep.refl _ _⟩
                    by_cases h8 : i = 8
                    · subst h8
                      simp only [List.getElem?_toArray, List.getElem?_cons_zero, List.getElem?_cons_succ, Option.some.injEq] at hoo
                      subst hoo
                      have e144 : a.tmps.getD 144 undef = .agg #[.slice X k cx, .slice Y j cy] := hA ⟨6, .data⟩ (by simp) rfl
                      have e145 : a.tmps.getD 145 undef = .agg #[.slice X6 nx6 cx6, .slice Y6 ny6 cy6] := hA ⟨7, .data⟩ (by simp) rfl
                      refine Does.yes (j := 5) (d := 143) (want := true) rfl rfl (hA ⟨5, .guard⟩ (by simp) rfl) ?_
                      unfold yieldsK
                      go_simp
                      refine (HSm.out w' hK).mono ?_
                      rintro e w2 ⟨rfl, h2⟩
                      exact ⟨_, rfl, rfl, h2⟩
                    by_cases h9 : i = 9
                    · subst h9
                      simp only [List.getElem?_toArray, List.getElem?_cons_zero, List.getElem?_cons_succ, Option.some.injEq] at hoo
                      subst hoo
                      have e143 : a.tmps.getD 143 undef = .bool true := hA ⟨5, .data⟩ (by simp) rfl
                      have e146 : a.tmps.getD 146 undef = .bool true := hA ⟨8, .data⟩ (by simp) rfl
                      refine Does.plain rfl ?_
                      unfold yieldsK
                      go_simp
                      exact ⟨rfl, Keep.refl _ _⟩
                    by_cases h10 : i = 10
                    · subst h10
                      simp only [List.getElem?_toArray, List.getElem?_cons_zero, List.getElem?_cons_succ, Option.some.injEq] at hoo
                      subst hoo
                      have e147 : a.tmps.getD 147 undef = .bool true := hA ⟨9, .data⟩ (by simp) rfl
                      refine Does.plain rfl ?_
                      unfold yieldsK
                      go_simp
                      exact ⟨rfl, Keep.refl _ _⟩
                    by_cases h12 : i = 12
                    · subst h12
                      simp only [List.getElem?_toArray, List.getElem?_cons_zero, List.getElem?_cons_succ, Option.some.injEq] at hoo
                      subst hoo
                      have e149 : a.tmps.getD 149 undef = .string T2 := hA ⟨11, .data⟩ (by simp) rfl
                      refine Does.yes (j := 10) (d := 148) (want := true) rfl rfl (hA ⟨10, .guard⟩ (by simp) rfl) ?_
                      unfold yieldsK
                      go_simp
                      refine (HLb.out w' hK).mono ?_
                      rintro e w2 ⟨A9, c9, rfl, _, _, h2⟩
                      exact ⟨_, rfl, ⟨A9, c9, by rw [HLn.out]⟩, h2⟩
                    by_cases h13 : i = 13
                    · subst h13
                      simp only [List.getElem?_toArray, List.getElem?_cons_zero, List.getElem?_cons_succ, Option.some.injEq] at hoo
                      subst hoo
                      obtain ⟨A9, c9, e150⟩ := hA ⟨12, .data⟩ (by simp) rfl
                      have e150 : a.tmps.getD 150 undef = .slice A9 nd0 c9 := e150
                      refine Does.yes (j := 10) (d := 148) (want := true) rfl rfl (hA ⟨10, .guard⟩ (by simp) rfl) ?_
                      unfold yieldsK
                      go_simp
                      exact ⟨rfl, Keep.refl _ _⟩
                    by_cases h14 : i = 14
                    · subst h14
                      simp only [List.getElem?_toArray, List.getElem?_cons_zero, List.getElem?_cons_succ, Option.some.injEq] at hoo
                      subst hoo
                      have e1 : a.tmps.getD 1 undef = .pointer (some ⟨w.heap.size, 0, none⟩) := hF.2.2 1 (by decide)
                      refine Does.yes (j := 10) (d := 148) (want := true) rfl rfl (hA ⟨10, .guard⟩ (by simp) rfl) ?_
                      unfold yieldsK
                      go_simp
                      exact ⟨rfl, Keep.refl _ _⟩
                    by_cases h15 : i = 15
                    · subst h15
                      simp only [List.getElem?_toArray, List.getElem?_cons_zero, List.getElem?_cons_succ, Option.some.injEq] at hoo
                      subst hoo
                      have e152 : a.tmps.getD 152 undef = .pointer (some ⟨w.heap.size, 1, none⟩) := hA ⟨14, .data⟩ (by simp) rfl
                      have q1 := Keep.cell hK c1 (hOo _ hbl0)
                      refine Does.yes (j := 10) (d := 148) (want := true) rfl rfl (hA ⟨10, .guard⟩ (by simp) rfl) ?_
                      unfold yieldsK
                      go_simp
                      exact ⟨rfl, Keep.refl _ _⟩
                    by_cases h16 : i = 16
                    · subst h16
                      simp only [List.getElem?_toArray, List.getElem?_cons_zero, List.getElem?_cons_succ, Option.some.injEq] at hoo
                      subst hoo
                      have e153 : a.tmps.getD 153 undef = .slice (some ⟨gF, oF, none⟩) j cy := hA ⟨15, .data⟩ (by simp) rfl
                      refine Does.yes (j := 10) (d := 148) (want := true) rfl rfl (hA ⟨10, .guard⟩ (by simp) rfl) ?_
                      unfold yieldsK
                      go_simp
                      exact ⟨rfl, Keep.refl _ _⟩
                    by_cases h17 : i = 17
                    · subst h17
                      simp only [List.getElem?_toArray, List.getElem?_cons_zero, List.getElem?_cons_succ, Option.some.injEq] at hoo
                      subst hoo
                      have e154 : a.tmps.getD 154 undef = .pointer (some ⟨gF, oF, none⟩) := hA ⟨16, .data⟩ (by simp) rfl
                      refine Does.yes (j := 10) (d := 148) (want := true) rfl rfl (hA ⟨10, .guard⟩ (by simp) rfl) ?_
                      unfold yieldsK
                      go_simp
                      exact ⟨rfl, Keep.refl _ _⟩
                    by_cases h18 : i = 18
                    · subst h18
                      simp only [List.getElem?_toArray, List.getElem?_cons_zero, List.getElem?_cons_succ, Option.some.injEq] at hoo
                      subst hoo
                      have e155 : a.tmps.getD 155 undef = .pointer (some ⟨gF, oF + 4, none⟩) := hA ⟨17, .data⟩ (by simp) rfl
                      have q1 := Keep.cell hK f4 (hOo _ hgF)
                      refine Does.yes (j := 10) (d := 148) (want := true) rfl rfl (hA ⟨10, .guard⟩ (by simp) rfl) ?_
                      unfold yieldsK
                      go_simp
                      exact ⟨rfl, Keep.refl _ _⟩
                    by_cases h19 : i = 19
                    · subst h19
                      simp only [List.getElem?_toArray, List.getElem?_cons_zero, List.getElem?_cons_succ, Option.some.injEq] at hoo
                      subst hoo
                      have e156 : a.tmps.getD 156 undef = .slice D0 nd0 cd0 := hA ⟨18, .data⟩ (by simp) rfl
                      refine Does.yes (j := 10) (d := 148) (want := true) rfl rfl (hA ⟨10, .guard⟩ (by simp) rfl) ?_
                      unfold yieldsK
                      go_simp
                      exact ⟨rfl, Keep.refl _ _⟩
                    by_cases h20 : i = 20
                    · subst h20
                      simp only [List.getElem?_toArray, List.getElem?_cons_zero, List.getElem?_cons_succ, Option.some.injEq] at hoo
                      subst hoo
                      have e151 : a.tmps.getD 151 undef = .int .i64 (nd0 : Int) := hA ⟨13, .data⟩ (by simp) rfl
                      have e157 : a.tmps.getD 157 undef = .int .i64 (nd0 : Int) := hA ⟨19, .data⟩ (by simp) rfl
                      refine Does.yes (j := 10) (d := 148) (want := true) rfl rfl (hA ⟨10, .guard⟩ (by simp) rfl) ?_
                      unfold yieldsK
                      go_simp
                      exact ⟨rfl, Keep.refl _ _⟩
                    by_cases h21 : i = 21
                    · subst h21
                      simp only [List.getElem?_toArray, List.getElem?_cons_zero, List.getElem?_cons_succ, Option.some.injEq] at hoo
                      subst hoo
                      have e148 : a.tmps.getD 148 undef = .bool true := hA ⟨10, .data⟩ (by simp) rfl
                      have e158 : a.tmps.getD 158 undef = .bool true := hA ⟨20, .data⟩ (by simp) rfl
                      refine Does.plain rfl ?_
                      unfold yieldsK
                      go_simp
                      exact ⟨rfl, Keep.refl _ _⟩
                    omega
                  case spec =>
                    intro o a w' hoo hF hK hA
                    simp only [List.getElem?_toArray, List.getElem?_cons_zero, List.getElem?_cons_succ, Option.some.injEq] at hoo
                    subst hoo
                    have e8 : a.tmps.getD 8 undef = .pointer (some ⟨b, 0, none⟩) := hF.2.2 8 (by decide)
                    refine Does.yes (j := 10) (d := 148) (want := true) rfl rfl (hA ⟨10, .guard⟩ (by simp) rfl) ?_
                    unfold yieldsK
                    go_simp
                    refine (string_any b t2 _ (bld_keep HP12.out.1 hK) (Nat.le_trans HP12.out.le hK.size)).mono ?_
                    rintro e w2 ⟨rfl, p1, p2, p3⟩
                    exact ⟨_, rfl, HT2b.out.symm ▸ rfl, ob_keep hK p2 p3 HbW.out⟩
                  case fin =>
                    intro a w' hF gK hA
                    have e159 : a.tmps.getD 159 undef = .bool true := hA 21 (by decide)
                    have hfinal := ob_low HP12.out.2.1 gK (by omega)
                    have ha := frameD_list (l := [138, 139, 140, 141, 142, 143, 144, 145, 146, 147, 148, 149, 150, 151, 152, 153, 154, 155, 156, 157, 158, 159]) rfl hF
                    rw [ha]
                    simp only [List.map_cons, List.map_nil, e159]
                    generalize a.tmps.getD 138 undef = u0
                    generalize a.tmps.getD 139 undef = u1
                    generalize a.tmps.getD 140 undef = u2
                    generalize a.tmps.getD 141 undef = u3
                    generalize a.tmps.getD 142 undef = u4
                    generalize a.tmps.getD 143 undef = u5
                    generalize a.tmps.getD 144 undef = u6
                    generalize a.tmps.getD 145 undef = u7
                    generalize a.tmps.getD 146 undef = u8
                    generalize a.tmps.getD 147 undef = u9
                    generalize a.tmps.getD 148 undef = u10
                    generalize a.tmps.getD 149 undef = u11
                    generalize a.tmps.getD 150 undef = u12
                    generalize a.tmps.getD 151 undef = u13
                    generalize a.tmps.getD 152 undef = u14
                    generalize a.tmps.getD 153 undef = u15
                    generalize a.tmps.getD 154 undef = u16
                    generalize a.tmps.getD 155 undef = u17
                    generalize a.tmps.getD 156 undef = u18
                    generalize a.tmps.getD 157 undef = u19
                    generalize a.tmps.getD 158 undef = u20
                    simp only [fillD, List.setIfInBounds_toArray, List.set_cons_zero, List.set_cons_succ]
                    clear hA hF ha e159
                    simp only [List.drop_succ_cons, List.drop_zero]
                    go_wp2
                    go_ret
                    exact ⟨rfl, hfinal⟩

  · go_wp2
    go_ret
    exact ⟨rfl, keepN hk1 k2⟩

end Go.Proofs.YtifobiajjhknbaaGreatDoor.M

namespace Go.Proofs.YtifobiajjhknbaaGreatDoor.M
open Go.ChangeShapes Go.WideShapes Go.ChangeAt Go.RowKit O

theorem tSpc : (Tryz.prog.globals[1]?).map (·.type) = some 121 := by kernel_rfl

set_option maxRecDepth 100000 in
theorem laidP_of {W0 : World} {x y z : String × DataW Unit}
    (h : laidMet Tryz.prog [("backstay/alu.binNames", Rows.laid_backstay_alu_binNames), ("backstay/alu.unNames", Rows.laid_backstay_alu_unNames), x, y, ("internal/strconv.uint64pow10", Rows.laid_internal_strconv_uint64pow10), ("strconv.ErrRange", Rows.laid_strconv_ErrRange), ("strconv.ErrSyntax", Rows.laid_strconv_ErrSyntax), z, ("strings.asciiSpace", Rows.laid_strings_asciiSpace), ("backstay/value.letters", Rows.laid_backstay_value_letters)] W0) : LaidO W0 ∧ TabS W0 := by
  have h4 := h.tail.tail.tail.tail
  have h5 := h4.tail
  have h6 := h5.tail
  have h8 := h6.tail.tail
  refine ⟨⟨Lib.tabIs_of_head (zs := [0, 73, 82, 70, 80]) (k := .i32) _root_.Go.Proofs.YtifobiajjhknbaaGreatDoor.W.gLet tLet Tryz.underlying120 Tryz.underlying21 (by kernel_rfl) (by kernel_rfl) h8.tail,
    ⟨A.strs_of_head (l := A.binNs) A.gBin tBin Tryz.underlying287 Tryz.underlying9 (by kernel_rfl) (by kernel_rfl) h,
     A.strs_of_head (l := A.unNs) A.gUn tUn Tryz.underlying289 Tryz.underlying9 (by kernel_rfl) (by kernel_rfl) h.tail⟩,
    Lib.tabIs_of_head (zs := Lib.pow10Tab) (k := .u64) _root_.Go.Proofs.YtifobiajjhknbaaGreatDoor.W.gPow tPow Tryz.underlying280 Tryz.underlying144 (by kernel_rfl) (by kernel_rfl) h4, ?_, ?_⟩,
    Lib.tabIs_of_head (zs := Lib.asciiSpaceTab) (k := .u8) gSpc tSpc Tryz.underlying121 Tryz.underlying5 (by kernel_rfl) (by kernel_rfl) h8⟩
  · obtain ⟨a, s, hv, _⟩ := laid_sentinel h6 _root_.Go.Proofs.YtifobiajjhknbaaGreatDoor.W.gSyn tSyn Tryz.underlying55 errRow Tryz.underlying354 Tryz.underlying356 rfl rfl Tryz.underlying9 (by kernel_rfl) (by kernel_rfl)
    exact ⟨_, _, hv⟩
  · obtain ⟨a, s, hv, _⟩ := laid_sentinel h5 _root_.Go.Proofs.YtifobiajjhknbaaGreatDoor.W.gRng tRng Tryz.underlying55 errRow Tryz.underlying354 Tryz.underlying356 rfl rfl Tryz.underlying9 (by kernel_rfl) (by kernel_rfl)
    exact ⟨_, _, hv⟩

end Go.Proofs.YtifobiajjhknbaaGreatDoor.M
