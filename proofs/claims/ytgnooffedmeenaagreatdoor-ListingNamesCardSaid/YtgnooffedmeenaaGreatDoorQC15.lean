/-
  Part 15 of the proofs of LNamesRow, LOneRow: what is laid, and what the functions that the law runs answer. Conditions: each theorem names its own.
-/
import Derived.Test.YtgnooffedmeenaaGreatDoorQC14
namespace Go.Proofs.YtgnooffedmeenaaGreatDoor.M.L
open Go.RowKit W

def SNz (fv : Value) : Nat → Value → World → Prop
 | 10 | 12 | 15 => fun u _ => u = .agg #[.slice none 0 0, .slice none 0 0]
 | 11 | 13 | 14 | 16 | 17 => fun u _ => u = .string ⟨#[]⟩
 | 21 => fun u _ => u = .int .i64 100
 | 25 => fun u _ => u = fv
 | 26 => fun u _ => ∃ B d, u = .slice B 0 d
 | 27 => fun u _ => u = .int .i64 0
 | _ => fun u _ => u = .bool true
theorem SNz_stable (fv : Value) (i : Nat) (u : Value) (W W' : World) (h : SNz fv i u W) (_hk : Keep NoB W W') : SNz fv i u W' := by
 unfold SNz at h ⊢
 split at h <;> exact h

set_option maxRecDepth 100000 in
set_option maxHeartbeats 16000000 in
theorem names_walk (w : World) (hL : O.LaidO w) : Calls Tryz.prog 5 #[] w fun e w' => e = .returned (.bool true) ∧ Keep NoB w w' := by
 obtain ⟨i0, hfi, hz0, hz1, hz2⟩ := info_parts I.fun_info
 have HL := Lib.hid (fun W (hk : Keep NoB w W) => hL.keep hk)
 have HS := Lib.hid (some_any w)
 clear hL
 go_enter Tryz.func5, Tryz.ntmps5
 go_wp2_with fail
 refine HS.out.mono ?_
 rintro e w1 ⟨rfl, hO, k1⟩
 have hlt : w.heap.size + 1 + 1 + 1 + 1 < w1.heap.size := (hO.oy.1.lt _ rfl).2
 unfold someV I.IV.val I.IV.cells
 dsimp only
 obtain ⟨W6, hW6⟩ : ∃ W, ((((((w1.alloc (.cells #[.slice (some ⟨w.heap.size + 1 + 1, 0, none⟩) 1 1, .slice (some ⟨w.heap.size + 1 + 1 + 1 + 1, 0, none⟩) 1 1] 25)).alloc (.cells #[.int .i64 4] 3)).alloc (.cells #[.int .i64 1] 3)).alloc (.cells #[.int .i64 2, .int .i64 3] 3)).alloc (.cells #[.int .i64 18, .int .i64 3, .int .i64 0, .int .i64 11, .int .i64 1, .int .i64 0, .int .i64 23, .int .i64 9, .int .i64 0, .int .i64 29, .int .i64 0, .int .i64 0, .int .i64 19, .int .i64 1, .int .i64 0, .int .i64 24, .int .i64 0, .int .i64 0] 55)).alloc (.cells #[.string ⟨#[102]⟩, .slice (some ⟨w1.heap.size + 1, 0, none⟩) 1 1, .slice (some ⟨w1.heap.size + 1 + 1, 0, none⟩) 1 1, .slice (some ⟨w1.heap.size + 1 + 1 + 1, 0, none⟩) 2 2, .slice (some ⟨w1.heap.size + 1 + 1 + 1 + 1, 0, none⟩) 6 6] 37)) = W := ⟨_, rfl⟩
 obtain ⟨W7, hW7⟩ : ∃ W, W6.alloc (.cells #[.string ⟨#[102]⟩, .slice (some ⟨w1.heap.size + 1, 0, none⟩) 1 1, .slice (some ⟨w1.heap.size + 1 + 1, 0, none⟩) 1 1, .slice (some ⟨w1.heap.size + 1 + 1 + 1, 0, none⟩) 2 2, .slice (some ⟨w1.heap.size + 1 + 1 + 1 + 1, 0, none⟩) 6 6] 37) = W := ⟨_, rfl⟩
 have k7 : Keep NoB w1 W7 := by rw [← hW7, ← hW6]; exact (((((((Keep.refl NoB w1).alloc _).alloc _).alloc _).alloc _).alloc _).alloc _).alloc _
 have bp6 : Blk W6 w1.heap.size 25 #[.slice (some ⟨w.heap.size + 1 + 1, 0, none⟩) 1 1, .slice (some ⟨w.heap.size + 1 + 1 + 1 + 1, 0, none⟩) 1 1] := by rw [← hW6]; exact (((((Blk.new w1 _ _).alloc _).alloc _).alloc _).alloc _).alloc _
 have bf6 : Blk W6 (w1.heap.size + 1 + 4) 37 #[.string ⟨#[102]⟩, .slice (some ⟨w1.heap.size + 1, 0, none⟩) 1 1, .slice (some ⟨w1.heap.size + 1 + 1, 0, none⟩) 1 1, .slice (some ⟨w1.heap.size + 1 + 1 + 1, 0, none⟩) 2 2, .slice (some ⟨w1.heap.size + 1 + 1 + 1 + 1, 0, none⟩) 6 6] := by
  rw [← hW6]
  have h := Blk.new (((((w1.alloc (.cells #[.slice (some ⟨w.heap.size + 1 + 1, 0, none⟩) 1 1, .slice (some ⟨w.heap.size + 1 + 1 + 1 + 1, 0, none⟩) 1 1] 25)).alloc (.cells #[.int .i64 4] 3)).alloc (.cells #[.int .i64 1] 3)).alloc (.cells #[.int .i64 2, .int .i64 3] 3)).alloc (.cells #[.int .i64 18, .int .i64 3, .int .i64 0, .int .i64 11, .int .i64 1, .int .i64 0, .int .i64 23, .int .i64 9, .int .i64 0, .int .i64 29, .int .i64 0, .int .i64 0, .int .i64 19, .int .i64 1, .int .i64 0, .int .i64 24, .int .i64 0, .int .i64 0] 55)) 37 #[.string ⟨#[102]⟩, .slice (some ⟨w1.heap.size + 1, 0, none⟩) 1 1, .slice (some ⟨w1.heap.size + 1 + 1, 0, none⟩) 1 1, .slice (some ⟨w1.heap.size + 1 + 1 + 1, 0, none⟩) 2 2, .slice (some ⟨w1.heap.size + 1 + 1 + 1 + 1, 0, none⟩) 6 6]
  simpa using h
 have hf7 : F.OwnF W7 (PF (w1.heap.size + 1)) (fV (w1.heap.size + 1)) fF := by
  rw [← hW7, ← hW6]
  exact f_made (w := w1.alloc (.cells #[.slice (some ⟨w.heap.size + 1 + 1, 0, none⟩) 1 1, .slice (some ⟨w.heap.size + 1 + 1 + 1 + 1, 0, none⟩) 1 1] 25)) (by simp) (fun k h1 h2 => ⟨h1, h2⟩) _ _
 have bp7 : Blk W7 w1.heap.size 25 #[.slice (some ⟨w.heap.size + 1 + 1, 0, none⟩) 1 1, .slice (some ⟨w.heap.size + 1 + 1 + 1 + 1, 0, none⟩) 1 1] := by rw [← hW7]; exact bp6.alloc _
 have bf7 : Blk W7 (w1.heap.size + 1 + 4) 37 #[.string ⟨#[102]⟩, .slice (some ⟨w1.heap.size + 1, 0, none⟩) 1 1, .slice (some ⟨w1.heap.size + 1 + 1, 0, none⟩) 1 1, .slice (some ⟨w1.heap.size + 1 + 1 + 1, 0, none⟩) 2 2, .slice (some ⟨w1.heap.size + 1 + 1 + 1 + 1, 0, none⟩) 6 6] := by rw [← hW7]; exact bf6.alloc _
 have br7 : Blk W7 W6.heap.size 37 #[.string ⟨#[102]⟩, .slice (some ⟨w1.heap.size + 1, 0, none⟩) 1 1, .slice (some ⟨w1.heap.size + 1 + 1, 0, none⟩) 1 1, .slice (some ⟨w1.heap.size + 1 + 1 + 1, 0, none⟩) 2 2, .slice (some ⟨w1.heap.size + 1 + 1 + 1 + 1, 0, none⟩) 6 6] := by rw [← hW7]; exact Blk.new _ _ _
 have hr2 : Rd W7 (some ⟨W6.heap.size, 0, none⟩) (I.fvs [(fV (w1.heap.size + 1), fF)]) := I.rd_blkN br7
 have hr1 := (hO.oy.keepN k7).1
 have HA2 := Lib.hid (fun A c w8 hrow hg hv => app_two (w8 := w8) (A := A) (c := c) hO k1 rfl k7 hf7 bp7 bf7 hrow hg hv)
 have HP2 := Lib.hid (fun A c w8 h => put_two (w8 := w8) (A := A) (c := c) (Fc0 := #[.string ⟨#[102]⟩, .slice (some ⟨w1.heap.size + 1, 0, none⟩) 1 1, .slice (some ⟨w1.heap.size + 1 + 1, 0, none⟩) 1 1, .slice (some ⟨w1.heap.size + 1 + 1 + 1, 0, none⟩) 2 2, .slice (some ⟨w1.heap.size + 1 + 1 + 1 + 1, 0, none⟩) 6 6]) (u1 := .slice (some ⟨w.heap.size + 1 + 1 + 1 + 1, 0, none⟩) 1 1) k1 rfl h rfl)
 have hkw := k1.size
 obtain ⟨p0, p1⟩ := And.intro (bp6.cell 0) (bp6.cell 1)
 have f0 := bf6.cell 0
 have f1 := bf6.cell 1
 have f2 := bf6.cell 2
 have f3 := bf6.cell 3
 have f4 := bf6.cell 4
 simp only [List.getElem?_toArray, List.getElem?_cons_zero, List.getElem?_cons_succ] at p0 p1 f0 f1 f2 f3 f4
 clear bp6 bf6 bp7 bf7 br7 hf7 hO HS k7
 go_wp2_with (at_builtin; refine wpList_append_rd _ rfl (.tmp 45) (.tmp 47) _ rfl 37 5 112 i0 _ Tryz.underlying23 hfi hz0 hz1 hz2 rfl (by decide) (.slice (some ⟨w.heap.size + 1 + 1 + 1 + 1, 0, none⟩) 1 1) 1 (I.fvs [(someFV w.heap.size, someF)]) (some ⟨W6.heap.size, 0, none⟩) 1 1 (I.fvs [(fV (w1.heap.size + 1), fF)]) rfl hr1 rfl hr2 rfl (I.fvs_one _) (by unfold maxLen; omega) (by omega) ?_; intro A8 c8 w8 hrow8 hg8 hv8; have H8 := HA2.out _ _ _ hrow8 hg8 hv8; have H9 := Lib.hid (HP2.out _ _ _ H8); obtain ⟨g0, g1, _, _, _⟩ := H8; have g2 := g0.cell 1; have g3 := fun i => g0.frozen i; have g4 := g0.lt; have p0 := H9.out.1.cell 0; have p1 := H9.out.1.cell 1; simp only [I.IV.cells, List.getElem?_toArray, List.getElem?_cons_zero, List.getElem?_cons_succ] at p0 p1; clear hrow8 hg8 hv8 hr1 hr2 g0 g1)
 clear HA2 HP2 f0 f1 f2 f3 f4 g2 g3 g4
 obtain ⟨b9, c9, i9, o9, k9⟩ := H9.out
 generalize w8.setCell ⟨w1.heap.size, 1, none⟩ (.slice A8 2 c8) = w9 at *
 have HG := two_lg (m := w.heap.size) (b := w1.heap.size + 1) (c' := c8) (A' := A8)
 have hgm : Hid (w.heap.size ≤ w1.heap.size + 1 + 4) := by show _ ≤ _; omega
 generalize hgf : w1.heap.size + 1 + 4 = gf at *
 generalize w1.heap.size = gp at *
 have HI := Lib.hid (fun W (hk : Keep NoB w9 W) => i9.keepN hk)
 have HO := Lib.hid (fun W (hk : Keep NoB w9 W) => (⟨o9.nm, o9.oa.keepN hk, o9.ob.keepN hk, o9.ol.keepN hk, o9.od.keepN hk, o9.hI⟩ : F.OwnF W (PF (gp + 1)) (fV (gp + 1)) fF))
 have hie : I.imOf (ES2 w.heap.size) (FS2 w.heap.size (gp + 1)) = twoI := rfl
 have HLs := Lib.hid (fun W (hk : Keep NoB w9 W) => by have h := listApi_any _ _ _ W (HI.out _ hk) HG (HL.out _ (keepN k9 hk)); rw [hie] at h; exact h)
 have HNu := Lib.hid (fun W (hk : Keep NoB w9 W) => by have h := numberedApi_any _ _ _ W (HI.out _ hk) HG (HL.out _ (keepN k9 hk)); rw [hie] at h; exact h)
 have HLi := Lib.hid (fun (fn pl : Int) W (hk : Keep NoB w9 W) => by have h := line_any _ _ _ fn pl W (HI.out _ hk) HG; rw [hie] at h; exact h)
 have HPc := Lib.hid (fun (l : Int) W (hk : Keep NoB w9 W) => by have h := place_any _ _ _ l W (HI.out _ hk) HG; rw [hie] at h; exact h)
 have HTg := Lib.hid (fun W (hk : Keep NoB w9 W) => by have h := targetsApi_any _ _ W (HO.out _ hk).fn (⟨by show 1 ≤ _; omega, by show 1 ≤ _; omega, by show 1 ≤ _; omega, by show 2 ≤ _; omega, by show 6 ≤ _; omega⟩ : F.LgF (fV (gp + 1))); rw [two_t] at h; exact h)
 have HB : Hid (∀ W, Keep NoB w9 W → Blk W gp 25 (V2 w.heap.size A8 c8).cells ∧ Blk W gf 37 #[.string ⟨#[102]⟩, .slice (some ⟨gp + 1, 0, none⟩) 1 1, .slice (some ⟨gp + 1 + 1, 0, none⟩) 1 1, .slice (some ⟨gp + 1 + 1 + 1, 0, none⟩) 2 2, .slice (some ⟨gp + 1 + 1 + 1 + 1, 0, none⟩) 6 6]) := fun W hk => ⟨b9.keep hk id, c9.keep hk id⟩
 dsimp only [I.IV.val, I.IV.cells, F.FV.val, F.FV.cells, fV] at HLs HNu HLi HPc HTg HB
 clear b9 c9 i9 o9 HI HG hie H9
 have K := Keep.refl NoB w9
 have hc := HLs.out _ K
 refine hc.mono ?_
 rintro e w10 ⟨rfl, k10⟩
 replace K := keepN K k10
 clear k10 hc p0 p1
 obtain ⟨p0, p1⟩ := And.intro ((HB.out _ K).1.cell 0) ((HB.out _ K).1.cell 1)
 simp only [List.getElem?_toArray, List.getElem?_cons_zero, List.getElem?_cons_succ] at p0 p1
 have hc := HLi.out 1 0 _ K
 rw [two_l1.1, two_l1.2] at hc
 go_wp2_with fail
 refine hc.mono ?_
 rintro e w11 ⟨rfl, k11⟩
 replace K := keepN K k11
 clear k11 hc p0 p1
 obtain ⟨p0, p1⟩ := And.intro ((HB.out _ K).1.cell 0) ((HB.out _ K).1.cell 1)
 simp only [List.getElem?_toArray, List.getElem?_cons_zero, List.getElem?_cons_succ] at p0 p1
 have hc := HLi.out 1 5 _ K
 rw [two_l2.1, two_l2.2] at hc
 go_wp2_with fail
 refine hc.mono ?_
 rintro e w12 ⟨rfl, k12⟩
 replace K := keepN K k12
 clear k12 hc p0 p1
 obtain ⟨p0, p1⟩ := And.intro ((HB.out _ K).1.cell 0) ((HB.out _ K).1.cell 1)
 simp only [List.getElem?_toArray, List.getElem?_cons_zero, List.getElem?_cons_succ] at p0 p1
 have hc := HLi.out 1 6 _ K
 rw [two_l3] at hc
 generalize (lineN (cutP twoI) 1 6 : Nat) = y1 at hc
 go_wp2_with fail
 refine hc.mono ?_
 rintro e w13 ⟨rfl, k13⟩
 replace K := keepN K k13
 clear k13 hc p0 p1
 obtain ⟨p0, p1⟩ := And.intro ((HB.out _ K).1.cell 0) ((HB.out _ K).1.cell 1)
 simp only [List.getElem?_toArray, List.getElem?_cons_zero, List.getElem?_cons_succ] at p0 p1
 have hc := HLi.out 2 0 _ K
 rw [two_l4] at hc
 generalize (lineN (cutP twoI) 2 0 : Nat) = y2 at hc
 go_wp2_with fail
 refine hc.mono ?_
 rintro e w14 ⟨rfl, k14⟩
 replace K := keepN K k14
 clear k14 hc p0 p1
 obtain ⟨p0, p1⟩ := And.intro ((HB.out _ K).1.cell 0) ((HB.out _ K).1.cell 1)
 simp only [List.getElem?_toArray, List.getElem?_cons_zero, List.getElem?_cons_succ] at p0 p1
 have hc := HLi.out (-1) (-1) _ K
 rw [two_l5] at hc
 generalize (lineN (cutP twoI) (-1) (-1) : Nat) = y3 at hc
 go_wp2_with fail
 refine hc.mono ?_
 rintro e w15 ⟨rfl, k15⟩
 replace K := keepN K k15
 clear k15 hc p0 p1
 obtain ⟨p0, p1⟩ := And.intro ((HB.out _ K).1.cell 0) ((HB.out _ K).1.cell 1)
 simp only [List.getElem?_toArray, List.getElem?_cons_zero, List.getElem?_cons_succ] at p0 p1
 have hc := HPc.out 0 _ K
 rw [two_p0] at hc
 generalize (placeR (cutP twoI) 0).1 = y4 at hc
 generalize (placeR (cutP twoI) 0).2.1 = y5 at hc
 go_wp2_with fail
 refine hc.mono ?_
 rintro e w16 ⟨rfl, k16⟩
 replace K := keepN K k16
 clear k16 hc p0 p1
 obtain ⟨p0, p1⟩ := And.intro ((HB.out _ K).1.cell 0) ((HB.out _ K).1.cell 1)
 simp only [List.getElem?_toArray, List.getElem?_cons_zero, List.getElem?_cons_succ] at p0 p1
 have hc := HPc.out 99 _ K
 rw [two_p1] at hc
 generalize (placeR (cutP twoI) 99).1 = y6 at hc
 generalize (placeR (cutP twoI) 99).2.1 = y7 at hc
 go_wp2_with fail
 refine hc.mono ?_
 rintro e w17 ⟨rfl, k17⟩
 replace K := keepN K k17
 clear k17 hc p0 p1
 obtain ⟨p0, p1⟩ := And.intro ((HB.out _ K).1.cell 0) ((HB.out _ K).1.cell 1)
 simp only [List.getElem?_toArray, List.getElem?_cons_zero, List.getElem?_cons_succ] at p0 p1
 have hc := HPc.out 1 _ K
 rw [two_p2] at hc
 generalize (placeR (cutP twoI) 1).1 = y8 at hc
 generalize (placeR (cutP twoI) 1).2.1 = y9 at hc
 go_wp2_with fail
 refine hc.mono ?_
 rintro e w18 ⟨rfl, k18⟩
 replace K := keepN K k18
 clear k18 hc p0 p1
 obtain ⟨p0, p1⟩ := And.intro ((HB.out _ K).1.cell 0) ((HB.out _ K).1.cell 1)
 simp only [List.getElem?_toArray, List.getElem?_cons_zero, List.getElem?_cons_succ] at p0 p1
 have hc := HPc.out 17 _ K
 rw [two_p3] at hc
 dsimp only at hc
 go_wp2_with fail
 refine hc.mono ?_
 rintro e w19 ⟨rfl, k19⟩
 replace K := keepN K k19
 clear k19 hc p0 p1
 clear HLi HPc HLs
 go_wp2_with fail
 refine (Tryz.strings_HasSuffix _ _ _ (Nat.le_trans two_z0 (by decide))).mono ?_
 rw [two_s0]
 rintro e wq ⟨rfl, rfl⟩
 obtain ⟨p0, p1⟩ := And.intro ((HB.out _ K).1.cell 0) ((HB.out _ K).1.cell 1)
 simp only [List.getElem?_toArray, List.getElem?_cons_zero, List.getElem?_cons_succ] at p0 p1
 have hc := HNu.out _ K
 go_wp2_with fail
 refine hc.mono ?_
 rintro e w20 ⟨rfl, k20⟩
 replace K := keepN K k20
 clear k20 hc p0 p1
 go_wp2_with fail
 refine (Tryz.strings_HasSuffix _ _ _ (Nat.le_trans two_z2 (by decide))).mono ?_
 rw [two_s2]
 rintro e wq ⟨rfl, rfl⟩
 have f0 := (HB.out _ K).2.cell 0
 have f1 := (HB.out _ K).2.cell 1
 have f2 := (HB.out _ K).2.cell 2
 have f3 := (HB.out _ K).2.cell 3
 have f4 := (HB.out _ K).2.cell 4
 simp only [List.getElem?_toArray, List.getElem?_cons_zero, List.getElem?_cons_succ] at f0 f1 f2 f3 f4
 go_wp2_with fail
 refine (HTg.out _ K).mono ?_
 rintro e w30 ⟨B3, d3, rfl, hB3, k30⟩
 replace K := keepN K k30
 have hrB : Rd (w30.alloc (.cells #[.int .i64 1, .int .i64 3] 3)) B3 (ivs [1, 3]) := (F.own_rdS hB3).keepN ((Keep.refl NoB w30).alloc _)
 have hrC : Rd (w30.alloc (.cells #[.int .i64 1, .int .i64 3] 3)) (some ⟨w30.heap.size, 0, none⟩) (ivs [1, 3]) := I.rd_blkN (Blk.new w30 3 #[.int .i64 1, .int .i64 3])
 have HIn := Lib.hid (ints_any B3 (some ⟨w30.heap.size, 0, none⟩) [1, 3] [1, 3] 2 2 d3 2 _ hrB hrC rfl rfl (by omega) (by omega) true (Lib.hid (by simp)))
 replace K := K.alloc (.cells #[.int .i64 1, .int .i64 3] 3)
 clear hB3 k30 hrB hrC f0 f1 f2 f3 f4 HTg HNu
 go_wp2_with fail
 refine HIn.out.mono ?_
 rintro e w31 ⟨rfl, k31⟩
 replace K := keepN K k31
 clear k31 HIn
 have bn := Blk.new w31 25 #[.slice none 0 0, .slice none 0 0]
 have KN := (Keep.refl NoB w31).alloc (.cells #[.slice none 0 0, .slice none 0 0] 25)
 have K2 := keepN K KN
 obtain ⟨p0, p1⟩ := And.intro (bn.cell 0) (bn.cell 1)
 simp only [List.getElem?_toArray, List.getElem?_cons_zero, List.getElem?_cons_succ] at p0 p1
 go_wp2_with fail
 generalize w31.alloc (.cells #[.slice none 0 0, .slice none 0 0] 25) = w32 at *
 have HNl := Lib.hid (fun W (hk : Keep NoB w W) => by have h := line_any I.nilW [] [] 0 0 W (I.nil_own W (Fresh w)).im nil_lg; rw [nil_im, nil_l] at h; exact h)
 have HN0 := Lib.hid (fun W (hk : Keep NoB w W) => by have h := listApi_any I.nilW [] [] W (I.nil_own W (Fresh w)).im nil_lg (HL.out _ hk); rw [nil_im, nil_t] at h; exact h)
 have HN1 := Lib.hid (fun W (hk : Keep NoB w W) => by have h := plainApi_any I.nilW [] [] W (I.nil_own W (Fresh w)).im nil_lg (HL.out _ hk); rw [nil_im, nil_t] at h; exact h)
 have HN2 := Lib.hid (fun W (hk : Keep NoB w W) => by have h := numberedApi_any I.nilW [] [] W (I.nil_own W (Fresh w)).im nil_lg (HL.out _ hk); rw [nil_im, nil_t] at h; exact h)
 have hs0 : (str [] : ByteArray) = ⟨#[]⟩ := rfl
 rw [hs0] at HN0 HN1 HN2
 generalize (lineN (cutP I.nilI) 0 0 : Nat) = y10 at HNl
 dsimp only [I.IV.val, I.IV.cells, I.nilW] at HNl HN0 HN1 HN2
 refine (HNl.out _ (keepN k9 K2)).mono ?_
 rintro e w33 ⟨rfl, k33⟩
 have bn3 := bn.keep k33 id
 replace K2 := keepN K2 k33
 clear k33 HNl p0 p1 bn
 have hb5 := (HB.out _ K2).2
 have hne := bn3.ne hb5 (by decide)
 have x0 := hb5.cell 4
 have x1 := fun i => hb5.frozen i
 have x2 := hb5.lt
 simp only [List.getElem?_toArray, List.getElem?_cons_zero, List.getElem?_cons_succ] at x0
 obtain ⟨bE, fE4, KE⟩ := put_body (w := w) (W := w33) (b := gp + 1) (g := gf) hgf hgm.out hb5 (HO.out _ K2) (keepN k9 K2)
 have bn4 := bn3.far (p := ⟨gf, 4, none⟩) hne (.slice none 0 0)
 obtain ⟨w34, hW34⟩ : ∃ W, w33.setCell ⟨gf, 4, none⟩ (.slice none 0 0) = W := ⟨_, rfl⟩
 rw [hW34] at bE fE4 KE bn4
 obtain ⟨n0, n1⟩ := And.intro (bn4.cell 0) (bn4.cell 1)
 unfold fEV F.FV.cells at bE
 dsimp only at bE
 have z0 := bE.cell 0
 have z1 := bE.cell 1
 have z2 := bE.cell 2
 have z3 := bE.cell 3
 have z4 := bE.cell 4
 simp only [List.getElem?_toArray, List.getElem?_cons_zero, List.getElem?_cons_succ] at n0 n1 z0 z1 z2 z3 z4
 have HT0 := Lib.hid (fun W (hk : Keep NoB w34 W) => by have h := targetsApi_any _ _ W (fE4.keepN hk) (⟨by show 1 ≤ _; omega, by show 1 ≤ _; omega, by show 1 ≤ _; omega, by show 2 ≤ _; omega, Nat.zero_le _⟩ : F.LgF (fEV (gp + 1))); rw [two_e] at h; exact h)
 have HAl := Lib.hid (fun W (hk : Keep NoB w34 W) => alive_any W (HL.out _ (keepN KE hk)))
 have HM0 := Lib.hid (fun W (hk : Keep NoB w34 W) => HN0.out W (keepN KE hk))
 have HM1 := Lib.hid (fun W (hk : Keep NoB w34 W) => HN1.out W (keepN KE hk))
 have HM2 := Lib.hid (fun W (hk : Keep NoB w34 W) => HN2.out W (keepN KE hk))
 have HKE := Lib.hid KE
 unfold F.FV.val fEV F.FV.cells at HT0
 dsimp only at HT0
 clear HN0 HN1 HN2 bE fE4 KE bn3 bn4 hb5 hne HB HO K K2 KN k9 hs0 HL hgm
 go_wp2_with fail
 clear x0 x1 x2 hW34
 refine wp_region_props6 (fun i => [171, 172, 173, 174, 175, 176, 177, 178, 179, 180, 181, 182, 183, 184, 185, 186, 187, 188, 189, 190, 191, 192, 193, 194, 195, 196, 197, 198, 199, 200, 0].getD i 0) 9999 (NoB) (fun _ => false) (by kernel_rfl) (by kernel_rfl) (by kernel_rfl) (SNz (.agg #[.string ⟨#[102]⟩, .slice (some ⟨gp + 1, 0, none⟩) 1 1, .slice (some ⟨gp + 1 + 1, 0, none⟩) 1 1, .slice (some ⟨gp + 1 + 1 + 1, 0, none⟩) 2 2, .slice none 0 0] : Value)) (fun i u x y _ _ _ h hk => SNz_stable _ i u x y h (hk.mono (fun _ hf _ => hf))) (fun i u x y _ h hk => SNz_stable _ i u x y h hk) rfl ?step ?spec ?fin
 case step =>
  intro i o a w' hoo hic hF hK hA
  have hi : i < 31 := by simpa using (Array.getElem?_eq_some_iff.1 hoo).1
  by_cases h0 : i = 0
  ·subst h0
   simp only [List.getElem?_toArray, List.getElem?_cons_zero, Option.some.injEq] at hoo
   subst hoo
   refine Does.plain rfl ?_
   unfold yieldsK
   go_simp
   exact ⟨rfl, Keep.refl _ _⟩
  by_cases h1 : i = 1
  ·subst h1
   simp only [List.getElem?_toArray, List.getElem?_cons_zero, List.getElem?_cons_succ, Option.some.injEq] at hoo
   subst hoo
   refine Does.yes (j := 0) (d := 171) (want := true) rfl rfl (hA ⟨0, .guard⟩ (by simp) rfl) ?_
   unfold yieldsK
   go_simp
   refine (HAl.out w' hK).mono ?_
   rintro e w9 ⟨rfl, h9⟩
   exact ⟨_, rfl, rfl, h9⟩
  by_cases h2 : i = 2
  ·subst h2
   simp only [List.getElem?_toArray, List.getElem?_cons_zero, List.getElem?_cons_succ, Option.some.injEq] at hoo
   subst hoo
   have e171 : a.tmps.getD 171 undef = .bool true := hA ⟨0, .data⟩ (by simp) rfl
   have e172 : a.tmps.getD 172 undef = .bool true := hA ⟨1, .data⟩ (by simp) rfl
   refine Does.plain rfl ?_
   unfold yieldsK
   go_simp
   exact ⟨rfl, Keep.refl _ _⟩
  by_cases h3 : i = 3
  ·subst h3
   simp only [List.getElem?_toArray, List.getElem?_cons_zero, List.getElem?_cons_succ, Option.some.injEq] at hoo
   subst hoo
   have e173 : a.tmps.getD 173 undef = .bool true := hA ⟨2, .data⟩ (by simp) rfl
   refine Does.plain rfl ?_
   unfold yieldsK
   go_simp
   exact ⟨rfl, Keep.refl _ _⟩
  by_cases h4 : i = 4
  ·subst h4
   simp only [List.getElem?_toArray, List.getElem?_cons_zero, List.getElem?_cons_succ, Option.some.injEq] at hoo
   subst hoo
   have e26 : a.tmps.getD 26 undef = .bool true := hF.2.2 26 (by decide)
   refine Does.yes (j := 3) (d := 174) (want := true) rfl rfl (hA ⟨3, .guard⟩ (by simp) rfl) ?_
   unfold yieldsK
   go_simp
   exact ⟨rfl, Keep.refl _ _⟩
  by_cases h5 : i = 5
  ·subst h5
   simp only [List.getElem?_toArray, List.getElem?_cons_zero, List.getElem?_cons_succ, Option.some.injEq] at hoo
   subst hoo
   have e174 : a.tmps.getD 174 undef = .bool true := hA ⟨3, .data⟩ (by simp) rfl
   have e175 : a.tmps.getD 175 undef = .bool true := hA ⟨4, .data⟩ (by simp) rfl
   refine Does.plain rfl ?_
   unfold yieldsK
   go_simp
   exact ⟨rfl, Keep.refl _ _⟩
  by_cases h6 : i = 6
  ·subst h6
   simp only [List.getElem?_toArray, List.getElem?_cons_zero, List.getElem?_cons_succ, Option.some.injEq] at hoo
   subst hoo
   have e176 : a.tmps.getD 176 undef = .bool true := hA ⟨5, .data⟩ (by simp) rfl
   refine Does.plain rfl ?_
   unfold yieldsK
   go_simp
   exact ⟨rfl, Keep.refl _ _⟩
  by_cases h7 : i = 7
  ·subst h7
   simp only [List.getElem?_toArray, List.getElem?_cons_zero, List.getElem?_cons_succ, Option.some.injEq] at hoo
   subst hoo
   have e27 : a.tmps.getD 27 undef = .bool true := hF.2.2 27 (by decide)
   refine Does.yes (j := 6) (d := 177) (want := true) rfl rfl (hA ⟨6, .guard⟩ (by simp) rfl) ?_
   unfold yieldsK
   go_simp
   exact ⟨rfl, Keep.refl _ _⟩
  by_cases h8 : i = 8
  ·subst h8
   simp only [List.getElem?_toArray, List.getElem?_cons_zero, List.getElem?_cons_succ, Option.some.injEq] at hoo
   subst hoo
   have e177 : a.tmps.getD 177 undef = .bool true := hA ⟨6, .data⟩ (by simp) rfl
   have e178 : a.tmps.getD 178 undef = .bool true := hA ⟨7, .data⟩ (by simp) rfl
   refine Does.plain rfl ?_
   unfold yieldsK
   go_simp
   exact ⟨rfl, Keep.refl _ _⟩
  by_cases h9 : i = 9
  ·subst h9
   simp only [List.getElem?_toArray, List.getElem?_cons_zero, List.getElem?_cons_succ, Option.some.injEq] at hoo
   subst hoo
   have e179 : a.tmps.getD 179 undef = .bool true := hA ⟨8, .data⟩ (by simp) rfl
   refine Does.plain rfl ?_
   unfold yieldsK
   go_simp
   exact ⟨rfl, Keep.refl _ _⟩
  by_cases h10 : i = 10
  ·subst h10
   simp only [List.getElem?_toArray, List.getElem?_cons_zero, List.getElem?_cons_succ, Option.some.injEq] at hoo
   subst hoo
   have e28 : a.tmps.getD 28 undef = .pointer (some ⟨w31.heap.size, 0, none⟩) := hF.2.2 28 (by decide)
   have c0 := Keep.cell hK n0 id
   have c1 := Keep.cell hK n1 id
   refine Does.yes (j := 9) (d := 180) (want := true) rfl rfl (hA ⟨9, .guard⟩ (by simp) rfl) ?_
   unfold yieldsK
   go_simp
   exact ⟨rfl, Keep.refl _ _⟩
  by_cases h11 : i = 11
  ·subst h11
   simp only [List.getElem?_toArray, List.getElem?_cons_zero, List.getElem?_cons_succ, Option.some.injEq] at hoo
   subst hoo
   have e181 : a.tmps.getD 181 undef = (.agg #[.slice none 0 0, .slice none 0 0] : Value) := hA ⟨10, .data⟩ (by simp) rfl
   refine Does.yes (j := 9) (d := 180) (want := true) rfl rfl (hA ⟨9, .guard⟩ (by simp) rfl) ?_
   unfold yieldsK
   go_simp
   refine (HM0.out w' hK).mono ?_
   rintro e w9 ⟨rfl, h9⟩
   exact ⟨_, rfl, rfl, h9⟩
  by_cases h12 : i = 12
  ·subst h12
   simp only [List.getElem?_toArray, List.getElem?_cons_zero, List.getElem?_cons_succ, Option.some.injEq] at hoo
   subst hoo
   have e28 : a.tmps.getD 28 undef = .pointer (some ⟨w31.heap.size, 0, none⟩) := hF.2.2 28 (by decide)
   have c0 := Keep.cell hK n0 id
   have c1 := Keep.cell hK n1 id
   refine Does.yes (j := 9) (d := 180) (want := true) rfl rfl (hA ⟨9, .guard⟩ (by simp) rfl) ?_
   unfold yieldsK
   go_simp
   exact ⟨rfl, Keep.refl _ _⟩
  by_cases h13 : i = 13
  ·subst h13
   simp only [List.getElem?_toArray, List.getElem?_cons_zero, List.getElem?_cons_succ, Option.some.injEq] at hoo
   subst hoo
   have e183 : a.tmps.getD 183 undef = (.agg #[.slice none 0 0, .slice none 0 0] : Value) := hA ⟨12, .data⟩ (by simp) rfl
   refine Does.yes (j := 9) (d := 180) (want := true) rfl rfl (hA ⟨9, .guard⟩ (by simp) rfl) ?_
   unfold yieldsK
   go_simp
   refine (HM1.out w' hK).mono ?_
   rintro e w9 ⟨rfl, h9⟩
   exact ⟨_, rfl, rfl, h9⟩
  by_cases h14 : i = 14
  ·subst h14
   simp only [List.getElem?_toArray, List.getElem?_cons_zero, List.getElem?_cons_succ, Option.some.injEq] at hoo
   subst hoo
   have e182 : a.tmps.getD 182 undef = .string ⟨#[]⟩ := hA ⟨11, .data⟩ (by simp) rfl
   have e184 : a.tmps.getD 184 undef = .string ⟨#[]⟩ := hA ⟨13, .data⟩ (by simp) rfl
   refine Does.yes (j := 9) (d := 180) (want := true) rfl rfl (hA ⟨9, .guard⟩ (by simp) rfl) ?_
   unfold yieldsK
   go_simp
   exact ⟨rfl, Keep.refl _ _⟩
  by_cases h15 : i = 15
  ·subst h15
   simp only [List.getElem?_toArray, List.getElem?_cons_zero, List.getElem?_cons_succ, Option.some.injEq] at hoo
   subst hoo
   have e28 : a.tmps.getD 28 undef = .pointer (some ⟨w31.heap.size, 0, none⟩) := hF.2.2 28 (by decide)
   have c0 := Keep.cell hK n0 id
   have c1 := Keep.cell hK n1 id
   refine Does.yes (j := 9) (d := 180) (want := true) rfl rfl (hA ⟨9, .guard⟩ (by simp) rfl) ?_
   unfold yieldsK
   go_simp
   exact ⟨rfl, Keep.refl _ _⟩
  by_cases h16 : i = 16
  ·subst h16
   simp only [List.getElem?_toArray, List.getElem?_cons_zero, List.getElem?_cons_succ, Option.some.injEq] at hoo
   subst hoo
   have e186 : a.tmps.getD 186 undef = (.agg #[.slice none 0 0, .slice none 0 0] : Value) := hA ⟨15, .data⟩ (by simp) rfl
   refine Does.yes (j := 9) (d := 180) (want := true) rfl rfl (hA ⟨9, .guard⟩ (by simp) rfl) ?_
   unfold yieldsK
   go_simp
   refine (HM2.out w' hK).mono ?_
   rintro e w9 ⟨rfl, h9⟩
   exact ⟨_, rfl, rfl, h9⟩
  by_cases h17 : i = 17
  ·subst h17
   simp only [List.getElem?_toArray, List.getElem?_cons_zero, List.getElem?_cons_succ, Option.some.injEq] at hoo
   subst hoo
   have e185 : a.tmps.getD 185 undef = .string ⟨#[]⟩ := hA ⟨14, .data⟩ (by simp) rfl
   have e187 : a.tmps.getD 187 undef = .string ⟨#[]⟩ := hA ⟨16, .data⟩ (by simp) rfl
   refine Does.yes (j := 9) (d := 180) (want := true) rfl rfl (hA ⟨9, .guard⟩ (by simp) rfl) ?_
   unfold yieldsK
   go_simp
   exact ⟨rfl, Keep.refl _ _⟩
  by_cases h18 : i = 18
  ·subst h18
   simp only [List.getElem?_toArray, List.getElem?_cons_zero, List.getElem?_cons_succ, Option.some.injEq] at hoo
   subst hoo
   have e188 : a.tmps.getD 188 undef = .string ⟨#[]⟩ := hA ⟨17, .data⟩ (by simp) rfl
   refine Does.yes (j := 9) (d := 180) (want := true) rfl rfl (hA ⟨9, .guard⟩ (by simp) rfl) ?_
   unfold yieldsK
   go_simp
   exact ⟨rfl, Keep.refl _ _⟩
  by_cases h19 : i = 19
  ·subst h19
   simp only [List.getElem?_toArray, List.getElem?_cons_zero, List.getElem?_cons_succ, Option.some.injEq] at hoo
   subst hoo
   have e180 : a.tmps.getD 180 undef = .bool true := hA ⟨9, .data⟩ (by simp) rfl
   have e189 : a.tmps.getD 189 undef = .bool true := hA ⟨18, .data⟩ (by simp) rfl
   refine Does.plain rfl ?_
   unfold yieldsK
   go_simp
   exact ⟨rfl, Keep.refl _ _⟩
  by_cases h20 : i = 20
  ·subst h20
   simp only [List.getElem?_toArray, List.getElem?_cons_zero, List.getElem?_cons_succ, Option.some.injEq] at hoo
   subst hoo
   have e190 : a.tmps.getD 190 undef = .bool true := hA ⟨19, .data⟩ (by simp) rfl
   refine Does.plain rfl ?_
   unfold yieldsK
   go_simp
   exact ⟨rfl, Keep.refl _ _⟩
  by_cases h21 : i = 21
  ·subst h21
   simp only [List.getElem?_toArray, List.getElem?_cons_zero, List.getElem?_cons_succ, Option.some.injEq] at hoo
   subst hoo
   have e30 : a.tmps.getD 30 undef = .int .i64 100 := hF.2.2 30 (by decide)
   refine Does.yes (j := 20) (d := 191) (want := true) rfl rfl (hA ⟨20, .guard⟩ (by simp) rfl) ?_
   unfold yieldsK
   go_simp
   exact ⟨rfl, Keep.refl _ _⟩
  by_cases h22 : i = 22
  ·subst h22
   simp only [List.getElem?_toArray, List.getElem?_cons_zero, List.getElem?_cons_succ, Option.some.injEq] at hoo
   subst hoo
   have e192 : a.tmps.getD 192 undef = .int .i64 100 := hA ⟨21, .data⟩ (by simp) rfl
   refine Does.yes (j := 20) (d := 191) (want := true) rfl rfl (hA ⟨20, .guard⟩ (by simp) rfl) ?_
   unfold yieldsK
   go_simp
   exact ⟨rfl, Keep.refl _ _⟩
  by_cases h23 : i = 23
  ·subst h23
   simp only [List.getElem?_toArray, List.getElem?_cons_zero, List.getElem?_cons_succ, Option.some.injEq] at hoo
   subst hoo
   have e191 : a.tmps.getD 191 undef = .bool true := hA ⟨20, .data⟩ (by simp) rfl
   have e193 : a.tmps.getD 193 undef = .bool true := hA ⟨22, .data⟩ (by simp) rfl
   refine Does.plain rfl ?_
   unfold yieldsK
   go_simp
   exact ⟨rfl, Keep.refl _ _⟩
  by_cases h24 : i = 24
  ·subst h24
   simp only [List.getElem?_toArray, List.getElem?_cons_zero, List.getElem?_cons_succ, Option.some.injEq] at hoo
   subst hoo
   have e194 : a.tmps.getD 194 undef = .bool true := hA ⟨23, .data⟩ (by simp) rfl
   refine Does.plain rfl ?_
   unfold yieldsK
   go_simp
   exact ⟨rfl, Keep.refl _ _⟩
  by_cases h25 : i = 25
  ·subst h25
   simp only [List.getElem?_toArray, List.getElem?_cons_zero, List.getElem?_cons_succ, Option.some.injEq] at hoo
   subst hoo
   have e2 : a.tmps.getD 2 undef = .pointer (some ⟨gf, 0, none⟩) := hF.2.2 2 (by decide)
   have c0 := Keep.cell hK z0 id
   have c1 := Keep.cell hK z1 id
   have c2 := Keep.cell hK z2 id
   have c3 := Keep.cell hK z3 id
   have c4 := Keep.cell hK z4 id
   refine Does.yes (j := 24) (d := 195) (want := true) rfl rfl (hA ⟨24, .guard⟩ (by simp) rfl) ?_
   unfold yieldsK
   go_simp
   exact ⟨rfl, Keep.refl _ _⟩
  by_cases h26 : i = 26
  ·subst h26
   simp only [List.getElem?_toArray, List.getElem?_cons_zero, List.getElem?_cons_succ, Option.some.injEq] at hoo
   subst hoo
   have e196 : a.tmps.getD 196 undef = (.agg #[.string ⟨#[102]⟩, .slice (some ⟨gp + 1, 0, none⟩) 1 1, .slice (some ⟨gp + 1 + 1, 0, none⟩) 1 1, .slice (some ⟨gp + 1 + 1 + 1, 0, none⟩) 2 2, .slice none 0 0] : Value) := hA ⟨25, .data⟩ (by simp) rfl
   refine Does.yes (j := 24) (d := 195) (want := true) rfl rfl (hA ⟨24, .guard⟩ (by simp) rfl) ?_
   unfold yieldsK
   go_simp
   refine (HT0.out w' hK).mono ?_
   rintro e w9 ⟨B9, d9, rfl, _, h9⟩
   exact ⟨_, rfl, ⟨B9, d9, rfl⟩, h9⟩
  by_cases h27 : i = 27
  ·subst h27
   simp only [List.getElem?_toArray, List.getElem?_cons_zero, List.getElem?_cons_succ, Option.some.injEq] at hoo
   subst hoo
   obtain ⟨B9, d9, e197⟩ := hA ⟨26, .data⟩ (by simp) rfl
   have e197 : a.tmps.getD 197 undef = .slice B9 0 d9 := e197
   refine Does.yes (j := 24) (d := 195) (want := true) rfl rfl (hA ⟨24, .guard⟩ (by simp) rfl) ?_
   unfold yieldsK
   go_simp
   exact ⟨rfl, Keep.refl _ _⟩
  by_cases h28 : i = 28
  ·subst h28
   simp only [List.getElem?_toArray, List.getElem?_cons_zero, List.getElem?_cons_succ, Option.some.injEq] at hoo
   subst hoo
   have e198 : a.tmps.getD 198 undef = .int .i64 0 := hA ⟨27, .data⟩ (by simp) rfl
   refine Does.yes (j := 24) (d := 195) (want := true) rfl rfl (hA ⟨24, .guard⟩ (by simp) rfl) ?_
   unfold yieldsK
   go_simp
   exact ⟨rfl, Keep.refl _ _⟩
  by_cases h29 : i = 29
  ·subst h29
   simp only [List.getElem?_toArray, List.getElem?_cons_zero, List.getElem?_cons_succ, Option.some.injEq] at hoo
   subst hoo
   have e195 : a.tmps.getD 195 undef = .bool true := hA ⟨24, .data⟩ (by simp) rfl
   have e199 : a.tmps.getD 199 undef = .bool true := hA ⟨28, .data⟩ (by simp) rfl
   refine Does.plain rfl ?_
   unfold yieldsK
   go_simp
   exact ⟨rfl, Keep.refl _ _⟩
  by_cases h30 : i = 30
  ·subst h30
   simp only [List.getElem?_toArray, List.getElem?_cons_zero, List.getElem?_cons_succ, Option.some.injEq] at hoo
   subst hoo
   have e200 : a.tmps.getD 200 undef = .bool true := hA ⟨29, .data⟩ (by simp) rfl
   refine Does.plain rfl ?_
   unfold yieldsK
   go_simp
   exact ⟨rfl, Keep.refl _ _⟩
  omega
 case spec =>
  intro o a w' hoo
  simp at hoo
 case fin =>
  intro a w' hF gK hA
  have e0 : a.tmps.getD 0 undef = .bool true := hA 30 (by decide)
  have ha := frameD_list (l := [171, 172, 173, 174, 175, 176, 177, 178, 179, 180, 181, 182, 183, 184, 185, 186, 187, 188, 189, 190, 191, 192, 193, 194, 195, 196, 197, 198, 199, 200, 0]) rfl hF
  rw [ha]
  simp only [List.map_cons, List.map_nil, e0]
  generalize a.tmps.getD 171 undef = u0
  generalize a.tmps.getD 172 undef = u1
  generalize a.tmps.getD 173 undef = u2
  generalize a.tmps.getD 174 undef = u3
  generalize a.tmps.getD 175 undef = u4
  generalize a.tmps.getD 176 undef = u5
  generalize a.tmps.getD 177 undef = u6
  generalize a.tmps.getD 178 undef = u7
  generalize a.tmps.getD 179 undef = u8
  generalize a.tmps.getD 180 undef = u9
  generalize a.tmps.getD 181 undef = u10
  generalize a.tmps.getD 182 undef = u11
  generalize a.tmps.getD 183 undef = u12
  generalize a.tmps.getD 184 undef = u13
  generalize a.tmps.getD 185 undef = u14
  generalize a.tmps.getD 186 undef = u15
  generalize a.tmps.getD 187 undef = u16
  generalize a.tmps.getD 188 undef = u17
  generalize a.tmps.getD 189 undef = u18
  generalize a.tmps.getD 190 undef = u19
  generalize a.tmps.getD 191 undef = u20
  generalize a.tmps.getD 192 undef = u21
  generalize a.tmps.getD 193 undef = u22
  generalize a.tmps.getD 194 undef = u23
  generalize a.tmps.getD 195 undef = u24
  generalize a.tmps.getD 196 undef = u25
  generalize a.tmps.getD 197 undef = u26
  generalize a.tmps.getD 198 undef = u27
  generalize a.tmps.getD 199 undef = u28
  generalize a.tmps.getD 200 undef = u29
  simp only [fillD, List.setIfInBounds_toArray, List.set_cons_zero, List.set_cons_succ]
  have HKF := Lib.hid (keepN HKE.out gK)
  clear hA hF ha e0 gK
  go_wp2
  go_ret
  exact ⟨rfl, HKF.out⟩

end Go.Proofs.YtgnooffedmeenaaGreatDoor.M.L
