/-
  ImageNames' walk: errors and Magic are what they are; the examples of the chapter; what may not be; bytes that are none; names. No conditions.
-/
import Derived.Deep.CutRange
import Derived.Test.YtgifflfjhockaaaGreatDoorQ14
namespace Go.Proofs.YtgifflfjhockaaaGreatDoor.I
open Go.RowKit W

set_option maxRecDepth 100000 in
set_option maxHeartbeats 64000000 in
theorem names_walk (w : World) : Calls Tryz.prog 5 #[] w fun e w' => e = .returned (.bool true) ∧ Keep NoB w w' := by
  obtain ⟨i0, hfi, hz0, hz1, hz2⟩ := info_parts fun_info
  have hfld := run_field_img
  go_enter Tryz.func5, Tryz.ntmps5
  go_wp2_with fail
  have kS := ((Keep.refl NoB w).alloc (.cells #[.int .i64 1, .int .i64 2] 3)).alloc (.cells #[.int .i64 3] 3)
  have a1 := (made_own (w := w) (E := 3) (size := 1) (n := 2) (b := w.heap.size) (cs := #[.int .i64 1, .int .i64 2]) (xs := ivs [1, 2]) (P := Fresh w) rfl rfl (by unfold maxLen; omega) rfl (Nat.le_refl _)).keepN ((Keep.refl NoB _).alloc (.cells #[.int .i64 3] 3))
  have a2 := made_own (w := w.alloc (.cells #[.int .i64 1, .int .i64 2] 3)) (E := 3) (size := 1) (n := 1) (b := w.heap.size + 1) (cs := #[.int .i64 3]) (xs := ivs [3]) (P := Fresh w) (by simp) rfl (by unfold maxLen; omega) rfl (Nat.le_succ _)
  have a3 := made_own (w := (w.alloc (.cells #[.int .i64 1, .int .i64 2] 3)).alloc (.cells #[.int .i64 3] 3)) (E := 58) (size := 1) (n := 2) (b := w.heap.size + 1 + 1) (cs := #[.slice (some ⟨w.heap.size, 0, none⟩) 2 2, .slice (some ⟨w.heap.size + 1, 0, none⟩) 1 1]) (xs := svs [(⟨some ⟨w.heap.size, 0, none⟩, 2, 2⟩, [1, 2]), (⟨some ⟨w.heap.size + 1, 0, none⟩, 1, 1⟩, [3])]) (P := Fresh w) (by simp) rfl (by unfold maxLen; omega) rfl (by unfold Fresh; omega)
  have kR := (Keep.refl NoB ((w.alloc (.cells #[.int .i64 1, .int .i64 2] 3)).alloc (.cells #[.int .i64 3] 3))).alloc (.cells #[.slice (some ⟨w.heap.size, 0, none⟩) 2 2, .slice (some ⟨w.heap.size + 1, 0, none⟩) 1 1] 58)
  have HSH := Lib.hid (And.intro (a1.keepN kR) (And.intro (a2.keepN kR) a3))
  have HK := Lib.hid (keepN kS kR)
  clear a1 a2 a3 kS kR
  generalize hw3 : ((w.alloc (.cells #[.int .i64 1, .int .i64 2] 3)).alloc (.cells #[.int .i64 3] 3)).alloc (.cells #[.slice (some ⟨w.heap.size, 0, none⟩) 2 2, .slice (some ⟨w.heap.size + 1, 0, none⟩) 1 1] 58) = w3 at *
  refine (one_any _ _).mono ?_
  rintro e w4 ⟨rfl, hA, k4⟩
  have HA := Lib.hid (And.intro hA k4)
  clear hA k4
  unfold oneI IV.val at *
  dsimp only [IV.cells] at *
  go_wp2_with fail
  clear hw3
  refine (one_any _ _).mono ?_
  rintro e w5 ⟨rfl, hB, k5⟩
  have hks := HA.out.2.size
  have hkw := HK.out.size
  have HB := Lib.hid (And.intro ((HA.out.1.keepN k5).mono (P' := Fresh w) (fun k (hk : Fresh w3 k) _ => by unfold Fresh at *; omega)) (And.intro (hB.mono (P' := Fresh w) (fun k (hk : Fresh w4 k) _ => by unfold Fresh at *; omega)) (keepN HA.out.2 k5)))
  clear hB k5 HA
  unfold oneI IV.val at *
  dsimp only [IV.cells] at *
  have hr1 := HB.out.1.oy.1
  have hr2 : Rd w5 (some ⟨w4.heap.size + 1 + 1, 0, none⟩) (fvs [(oneV w4.heap.size ⟨#[98]⟩, oneF ⟨#[98]⟩)]) := F.own_rdS HB.out.2.1.oy
  go_wp2_with (at_builtin; refine wpList_append_rd _ rfl (.tmp 41) (.tmp 43) _ rfl 61 5 112 i0 _ Tryz.underlying23 hfi hz0 hz1 hz2 rfl (by decide) (.slice (some ⟨w3.heap.size + 1 + 1, 0, none⟩) 1 1) 1 (fvs [(oneV w3.heap.size ⟨#[97]⟩, oneF ⟨#[97]⟩)]) (some ⟨w4.heap.size + 1 + 1, 0, none⟩) 1 1 (fvs [(oneV w4.heap.size ⟨#[98]⟩, oneF ⟨#[98]⟩)]) rfl hr1 rfl hr2 rfl (fvs_one _) (by unfold maxLen; omega) (by omega) ?_; intro A6 c6 w6 hrow6 hg6 hv6; have H6 := Lib.hid (app_ones HB.out.1 HB.out.2.1 (keepN HK.out HB.out.2.2) hrow6 hg6 hv6); clear hrow6 hg6 hv6 hr1 hr2)
  have HK36 : Hid (Keep NoB w3 w6) := HB.out.2.2.trans H6.out.2.2.2 (fun k e hl => by omega)
  have kA := (Keep.refl NoB w6).alloc (.cells #[.slice (some ⟨w.heap.size + 1 + 1, 0, none⟩) 2 2, .slice A6 2 c6] 25)
  have HG1 : Hid (GI (w6.alloc (.cells #[.slice (some ⟨w.heap.size + 1 + 1, 0, none⟩) 2 2, .slice A6 2 c6] 25)) (w6.heap.size + 1) w6.heap.size twoI ⟨some ⟨w.heap.size + 1 + 1, 0, none⟩, 2, 2, A6, 2, c6⟩ [(⟨some ⟨w.heap.size, 0, none⟩, 2, 2⟩, [1, 2]), (⟨some ⟨w.heap.size + 1, 0, none⟩, 1, 1⟩, [3])] [(oneV w3.heap.size ⟨#[97]⟩, oneF ⟨#[97]⟩), (oneV w4.heap.size ⟨#[98]⟩, oneF ⟨#[98]⟩)]) :=
    ⟨Blk.new w6 _ _, Nat.lt_succ_self _, OwnIm.mono (P := Fresh w) ⟨(HSH.out.2.2.keepN HK36.out).keepN kA, H6.out.1.keepN kA, fun e he => by
        simp only [List.mem_cons, List.not_mem_nil, or_false] at he
        rcases he with rfl | rfl
        · exact (HSH.out.1.keepN HK36.out).keepN kA
        · exact (HSH.out.2.1.keepN HK36.out).keepN kA, fun e he => (H6.out.2.1 e he).keepN kA⟩ (fun k _ hk => by simpa using hk), rfl⟩
  replace HK := Lib.hid (keepN H6.out.2.2.1 kA)
  have hsz7 : Hid ((w6.alloc (.cells #[.slice (some ⟨w.heap.size + 1 + 1, 0, none⟩) 2 2, .slice A6 2 c6] 25)).heap.size = w6.heap.size + 1) := by show _ = _; simp
  clear HK36 kA HSH HB H6 hks hkw
  generalize hw7 : w6.alloc (.cells #[.slice (some ⟨w.heap.size + 1 + 1, 0, none⟩) 2 2, .slice A6 2 c6] 25) = w7 at *
  refine (one_any _ _).mono ?_
  rintro e w8 ⟨rfl, hA, k8⟩
  have HA := Lib.hid (And.intro hA k8)
  clear hA k8
  unfold oneI IV.val at *
  dsimp only [IV.cells] at *
  go_wp2_with fail
  clear hw7
  refine (one_any _ _).mono ?_
  rintro e w9 ⟨rfl, hB, k9⟩
  have hks := HA.out.2.size
  have HB := Lib.hid (And.intro (HA.out.1.keepN k9) (And.intro (hB.mono (P' := Fresh w7) (fun k (hk : Fresh w8 k) _ => by unfold Fresh at *; omega)) (keepN HA.out.2 k9)))
  clear hB k9 HA
  unfold oneI IV.val at *
  dsimp only [IV.cells] at *
  have hr1 := HB.out.1.oy.1
  have hr2 : Rd w9 (some ⟨w8.heap.size + 1 + 1, 0, none⟩) (fvs [(oneV w8.heap.size ⟨#[97]⟩, oneF ⟨#[97]⟩)]) := F.own_rdS HB.out.2.1.oy
  go_wp2_with (at_builtin; refine wpList_append_rd _ rfl (.tmp 47) (.tmp 49) _ rfl 61 5 112 i0 _ Tryz.underlying23 hfi hz0 hz1 hz2 rfl (by decide) (.slice (some ⟨w7.heap.size + 1 + 1, 0, none⟩) 1 1) 1 (fvs [(oneV w7.heap.size ⟨#[97]⟩, oneF ⟨#[97]⟩)]) (some ⟨w8.heap.size + 1 + 1, 0, none⟩) 1 1 (fvs [(oneV w8.heap.size ⟨#[97]⟩, oneF ⟨#[97]⟩)]) rfl hr1 rfl hr2 rfl (fvs_one _) (by unfold maxLen; omega) (by omega) ?_; intro A10 c10 w10 hrow6 hg6 hv6; have H6 := Lib.hid (app_ones HB.out.1 HB.out.2.1 HB.out.2.2 hrow6 hg6 hv6); clear hrow6 hg6 hv6 hr1 hr2)
  have kA := (Keep.refl NoB w10).alloc (.cells #[.slice none 0 0, .slice A10 2 c10] 25)
  have hks2 := H6.out.2.2.1.size
  have HG2 : Hid (GI (w10.alloc (.cells #[.slice none 0 0, .slice A10 2 c10] 25)) (w10.heap.size + 1) w10.heap.size ⟨[], [fA, fA]⟩ ⟨none, 0, 0, A10, 2, c10⟩ [] [(oneV w7.heap.size ⟨#[97]⟩, oneF ⟨#[97]⟩), (oneV w8.heap.size ⟨#[97]⟩, oneF ⟨#[97]⟩)]) :=
    ⟨Blk.new w10 _ _, Nat.lt_succ_self _, OwnIm.mono (P := Fresh w7) ⟨Own.nil _ _ _ _, H6.out.1.keepN kA, (fun _ h => nomatch h), fun e he => (H6.out.2.1 e he).keepN kA⟩ (fun k _ hk => by simpa using hk), rfl⟩
  replace HG1 := Lib.hid ((HG1.out.keep (keepN H6.out.2.2.1 kA) (fun _ _ => id)).mono (hi' := w10.heap.size + 1) (by have := hsz7.out; omega))
  replace HK := Lib.hid (keepN HK.out (keepN H6.out.2.2.1 kA))
  have hsz11 : (w10.alloc (.cells #[.slice none 0 0, .slice A10 2 c10] 25)).heap.size = w10.heap.size + 1 := by simp
  clear kA HB H6 hks hks2
  generalize hw11 : w10.alloc (.cells #[.slice none 0 0, .slice A10 2 c10] 25) = w11 at *
  rw [← hsz11] at HG1 HG2
  clear hsz11 hsz7
  refine (one_any _ _).mono ?_
  rintro e w12 ⟨rfl, hA, k12⟩
  have HA := Lib.hid (And.intro hA k12)
  clear hA k12
  unfold oneI IV.val at *
  dsimp only [IV.cells] at *
  go_wp2_with fail
  clear hw11
  refine (one_any _ _).mono ?_
  rintro e w13 ⟨rfl, hB, k13⟩
  have h1112 := HA.out.2.size
  have h1213 := k13.size
  have hm4 := own_lt hB.oy
  have hm3 := own_lt HA.out.1.oy
  have HA2 := Lib.hid (And.intro ((HA.out.1.mono (P' := fun k => k < w12.heap.size) (fun k _ hk => hk)).keepN k13) (And.intro hB (keepN HA.out.2 k13)))
  clear hB k13 HA
  obtain ⟨wy, hwy⟩ : ∃ wy, w13.alloc (.cells #[.slice none 0 0, .slice none 0 0] 25) = wy := ⟨_, rfl⟩
  obtain ⟨wz, hwz⟩ : ∃ wz, wy.alloc (.cells #[.slice none 0 0, .slice none 0 0] 25) = wz := ⟨_, rfl⟩
  have hsy : wy.heap.size = w13.heap.size + 1 := by rw [← hwy]; simp
  have hszz : wz.heap.size = w13.heap.size + 1 + 1 := by rw [← hwz]; simp [hsy]
  have b3 : Blk wz w13.heap.size 25 #[.slice none 0 0, .slice none 0 0] := by rw [← hwz, ← hwy]; exact (Blk.new w13 _ _).alloc _
  have b4 : Blk wz wy.heap.size 25 #[.slice none 0 0, .slice none 0 0] := by rw [← hwz]; exact Blk.new wy _ _
  have kz : Keep NoB w13 wz := by rw [← hwz, ← hwy]; exact ((Keep.refl NoB w13).alloc _).alloc _
  obtain ⟨W1, hW1⟩ : ∃ W1, (wz.setCell ⟨w13.heap.size, 0, none⟩ (.slice none 0 0)).setCell ⟨w13.heap.size, 1, none⟩ (.slice (some ⟨w11.heap.size + 1 + 1, 0, none⟩) 1 1) = W1 := ⟨_, rfl⟩
  have b31 : Blk W1 w13.heap.size 25 #[.slice none 0 0, .slice (some ⟨w11.heap.size + 1 + 1, 0, none⟩) 1 1] := by rw [← hW1]; exact put2_img b3 _ _
  have k1 : Keep (fun k => k = w13.heap.size) wz W1 := by rw [← hW1]; exact keep2_img _ _ _ _
  have b41 := b4.keep k1 (fun e => by omega)
  obtain ⟨W2, hW2⟩ : ∃ W2, (W1.setCell ⟨wy.heap.size, 0, none⟩ (.slice none 0 0)).setCell ⟨wy.heap.size, 1, none⟩ (.slice (some ⟨w12.heap.size + 1 + 1, 0, none⟩) 1 1) = W2 := ⟨_, rfl⟩
  have b42 : Blk W2 wy.heap.size 25 #[.slice none 0 0, .slice (some ⟨w12.heap.size + 1 + 1, 0, none⟩) 1 1] := by rw [← hW2]; exact put2_img b41 _ _
  have k2 : Keep (fun k => k = wy.heap.size) W1 W2 := by rw [← hW2]; exact keep2_img _ _ _ _
  have b32 := b31.keep k2 (fun e => by omega)
  obtain ⟨W3, hW3⟩ : ∃ W3, W2.alloc (.cells #[.int .i64 4] 3) = W3 := ⟨_, rfl⟩
  obtain ⟨W4, hW4⟩ : ∃ W4, W3.alloc (.cells #[.slice (some ⟨W2.heap.size, 0, none⟩) 1 1] 58) = W4 := ⟨_, rfl⟩
  have hs1 : W1.heap.size = wz.heap.size := by rw [← hW1]; simp
  have hs2 : W2.heap.size = wz.heap.size := by rw [← hW2]; simp [hs1]
  have hs3 : W3.heap.size = wz.heap.size + 1 := by rw [← hW3]; simp [hs2]
  have hs4 : W4.heap.size = wz.heap.size + 1 + 1 := by rw [← hW4]; simp [hs3]
  have k24 : Keep NoB W2 W4 := by rw [← hW4, ← hW3]; exact ((Keep.refl NoB W2).alloc _).alloc _
  have b34 := b32.keep k24 id
  have b44 := b42.keep k24 id
  obtain ⟨W5, hW5⟩ : ∃ W5, W4.setCell ⟨w13.heap.size, 0, none⟩ (.slice (some ⟨W3.heap.size, 0, none⟩) 1 1) = W5 := ⟨_, rfl⟩
  have b35 : Blk W5 w13.heap.size 25 #[.slice (some ⟨W3.heap.size, 0, none⟩) 1 1, .slice (some ⟨w11.heap.size + 1 + 1, 0, none⟩) 1 1] := by rw [← hW5]; simpa using b34.put 0 (.slice (some ⟨W3.heap.size, 0, none⟩) 1 1)
  have k45 : Keep (fun k => k = w13.heap.size) W4 W5 := by rw [← hW5]; exact (Keep.refl (fun k => k = w13.heap.size) W4).setCell (p := ⟨w13.heap.size, 0, none⟩) (fun _ => rfl) _
  have b45 := b44.keep k45 (fun e => by omega)
  have kz4 : Keep (fun k => k = w13.heap.size ∨ k = wy.heap.size) wz W4 := ((k1.mono (fun k e _ => .inl e)).trans k2 (fun k e _ => .inr e)).trans k24 (fun _ h _ => h.elim)
  have kz5 : Keep (fun k => k = w13.heap.size ∨ k = wy.heap.size) w13 W5 := ((kz.mono (fun _ hf _ => hf.elim)).trans kz4 (fun _ h _ => h)).trans k45 (fun k e _ => .inl e)
  have bR : Blk W5 (w12.heap.size + 1 + 1) 61 (fvs [(oneV w12.heap.size ⟨#[97]⟩, oneF ⟨#[97]⟩)]).toArray := (own_full (n := 1) HA2.out.2.1.oy).keep kz5 (fun e => by omega)
  obtain ⟨W6, hW6⟩ : ∃ W6, W5.setCell ⟨w12.heap.size + 1 + 1, 4, none⟩ (.slice none 0 0) = W6 := ⟨_, rfl⟩
  have bR6 : Blk W6 (w12.heap.size + 1 + 1) 61 (fvs [((⟨⟨#[97]⟩, none, 0, 0, none, 0, 0, none, 0, 0, none, 0, 0⟩ : F.FV), (⟨[97], [], [], [], []⟩ : F.Fu))]).toArray := by rw [← hW6]; simpa [fvs, F.FV.cells, oneV] using bR.put 4 (.slice none 0 0)
  have k56 : Keep (fun k => k = w12.heap.size + 1 + 1) W5 W6 := by rw [← hW6]; exact (Keep.refl (fun k => k = w12.heap.size + 1 + 1) W5).setCell (p := ⟨w12.heap.size + 1 + 1, 4, none⟩) (fun _ => rfl) _
  have hs5 : W5.heap.size = wz.heap.size + 1 + 1 := by rw [← hW5]; simp [hs4]
  have hs6 : W6.heap.size = wz.heap.size + 1 + 1 := by rw [← hW6]; simp [hs5]
  have hmk0 := fun W => run_make_row' (P := Tryz.prog) 22 58 (.slice none 0 0) 24 Tryz.underlying22 shape_info rfl .i64 .i64 65 (by omega) (by omega) W
  obtain ⟨mc, hmc⟩ : ∃ mc, madeCells #[Value.slice none 0 0] 65 = mc := ⟨_, rfl⟩
  rw [hmc] at hmk0
  have hmk : ∀ W, (Instr.makeSlice 22 (.int .i64 65) (.int .i64 65)).run Tryz.prog W = .ok (.slice (some ⟨W.heap.size, 0, none⟩) 65 65) (W.alloc (.cells mc 58)) := hmk0
  have HMC : Hid (mc.toList = List.replicate 65 (.slice none 0 0)) := by
    show _ = _
    rw [← hmc]; exact made_nil 65
  clear hmk0 hmc
  have x30 : wz.cell? ⟨w13.heap.size, 0, none⟩ = some (.slice none 0 0) := b3.cell 0
  have x31 : wz.cell? ⟨w13.heap.size, 1, none⟩ = some (.slice none 0 0) := b3.cell 1
  have x3f := fun i => b3.frozen i
  have x40 : W1.cell? ⟨wy.heap.size, 0, none⟩ = some (.slice none 0 0) := b41.cell 0
  have x41 : W1.cell? ⟨wy.heap.size, 1, none⟩ = some (.slice none 0 0) := b41.cell 1
  have x4f := fun i => b41.frozen i
  have x50 : W4.cell? ⟨w13.heap.size, 0, none⟩ = some (.slice none 0 0) := b34.cell 0
  have x5f := fun i => b34.frozen i
  have x61 : W5.cell? ⟨wy.heap.size, 1, none⟩ = some (.slice (some ⟨w12.heap.size + 1 + 1, 0, none⟩) 1 1) := b45.cell 1
  have x74 : W5.cell? ⟨w12.heap.size + 1 + 1, 4, none⟩ = some (.slice (some ⟨w12.heap.size + 1, 0, none⟩) 1 1) := bR.cell 4
  have x7f := fun i => bR.frozen i
  have l3 := b3.lt
  have l4 := b41.lt
  have l5 := b34.lt
  have l6 := bR.lt
  have HBB := Lib.hid (And.intro b35 (And.intro b45 (And.intro bR6 (And.intro k56 (And.intro kz5 (And.intro k45 (And.intro kz4 (And.intro k24 kz))))))))
  have HSZ := Lib.hid (And.intro hsy (And.intro hszz (And.intro hs1 (And.intro hs2 (And.intro hs3 (And.intro hs4 (And.intro hs5 hs6)))))))
  have HLS := Lib.hid (And.intro h1112 (And.intro h1213 (And.intro hm3 hm4)))
  clear hsy hszz hs1 hs2 hs3 hs4 hs5 hs6 h1112 h1213 hm3 hm4
  clear b3 b4 kz b31 k1 b41 b42 k2 b32 k24 b34 b44 b35 k45 b45 kz4 kz5 bR bR6 k56
  unfold oneI IV.val at *
  dsimp only [IV.cells] at *
  go_wp2_with fail
  have HG3 : Hid (GI W6 W6.heap.size w13.heap.size ⟨[[4]], [fA]⟩ ⟨some ⟨W3.heap.size, 0, none⟩, 1, 1, some ⟨w11.heap.size + 1 + 1, 0, none⟩, 1, 1⟩ [(⟨some ⟨W2.heap.size, 0, none⟩, 1, 1⟩, [4])] [(oneV w11.heap.size ⟨#[97]⟩, oneF ⟨#[97]⟩)]) := by
    obtain ⟨b35, b45, bR6, k56, kz5, k45, kz4, k24, kz⟩ := HBB.out
    obtain ⟨hsy, hszz, hs1, hs2, hs3, hs4, hs5, hs6⟩ := HSZ.out
    obtain ⟨h1112, h1213, hm3, hm4⟩ := HLS.out
    have hrow : Own W4 58 1 (fun k => W2.heap.size ≤ k) (.slice (some ⟨W3.heap.size, 0, none⟩) 1 1) 1 (svs [(⟨some ⟨W2.heap.size, 0, none⟩, 1, 1⟩, [4])]) := by
      rw [← hW4]; exact made_own (w := W3) rfl rfl (by unfold maxLen; omega) rfl (by omega)
    have hint : Own W3 3 1 (fun k => W2.heap.size ≤ k) (.slice (some ⟨W2.heap.size, 0, none⟩) 1 1) 1 (ivs [4]) := by
      rw [← hW3]; exact made_own (w := W2) rfl rfl (by unfold maxLen; omega) rfl (Nat.le_refl _)
    have k34 : Keep NoB W3 W4 := by rw [← hW4]; exact (Keep.refl NoB W3).alloc _
    have hint4 := hint.keepN k34
    refine ⟨b35.keep k56 (fun e => by omega), by omega, ⟨?_, ?_, fun e he => ?_, fun e he => ?_⟩, rfl⟩
    · exact ((hrow.keep k45 (fun k hk e => by omega)).keep k56 (fun k hk e => by omega)).mono (fun k _ hk => hk)
    · exact ((HA2.out.1.oy.keep kz5 (fun k hk e => by omega)).keep k56 (fun k hk e => by omega)).mono (fun k _ hk => hk)
    · rw [List.mem_singleton.1 he]
      exact ((hint4.keep k45 (fun k hk e => by omega)).keep k56 (fun k hk e => by omega)).mono (fun k _ hk => hk)
    · exact (((HA2.out.1.hf e he).keep kz5 (fun k hk e => by omega)).keep k56 (fun k hk e => by omega)).mono (fun k _ hk => hk)
  have HG4 : Hid (GI W6 W6.heap.size wy.heap.size ⟨[], [⟨[97], [], [], [], []⟩]⟩ ⟨none, 0, 0, some ⟨w12.heap.size + 1 + 1, 0, none⟩, 1, 1⟩ [] [(⟨⟨#[97]⟩, none, 0, 0, none, 0, 0, none, 0, 0, none, 0, 0⟩, ⟨[97], [], [], [], []⟩)]) := by
    obtain ⟨b35, b45, bR6, k56, kz5, k45, kz4, k24, kz⟩ := HBB.out
    obtain ⟨hsy, hszz, hs1, hs2, hs3, hs4, hs5, hs6⟩ := HSZ.out
    obtain ⟨h1112, h1213, hm3, hm4⟩ := HLS.out
    refine ⟨b45.keep k56 (fun e => by omega), by omega, ⟨Own.nil _ _ _ _, own_blk bR6 rfl (by show 1 ≤ maxLen; unfold maxLen; omega) (by omega), (fun _ h => nomatch h), fun e he => ?_⟩, rfl⟩
    rw [List.mem_singleton.1 he]
    exact ⟨rfl, Own.nil _ _ _ _, Own.nil _ _ _ _, Own.nil _ _ _ _, Own.nil _ _ _ _, (fun _ h => nomatch h)⟩
  have HG16 : Hid (Keep (fun k => w11.heap.size ≤ k) w11 W6 ∧ w11.heap.size ≤ W6.heap.size) := by
    obtain ⟨b35, b45, bR6, k56, kz5, k45, kz4, k24, kz⟩ := HBB.out
    obtain ⟨hsy, hszz, hs1, hs2, hs3, hs4, hs5, hs6⟩ := HSZ.out
    obtain ⟨h1112, h1213, hm3, hm4⟩ := HLS.out
    exact ⟨((HA2.out.2.2.mono (fun _ hf _ => hf.elim)).trans kz5 (fun k e _ => by omega)).trans k56 (fun k e _ => by omega), by omega⟩
  replace HG1 := Lib.hid ((HG1.out.keep HG16.out.1 (fun k h1 h2 => by omega)).mono HG16.out.2)
  replace HG2 := Lib.hid ((HG2.out.keep HG16.out.1 (fun k h1 h2 => by omega)).mono HG16.out.2)
  replace HK := Lib.hid (HK.out.trans HG16.out.1 (fun k hk hl => by have := HK.out.size; omega))
  clear HG16 HA2 HBB HSZ HLS
  have HM0 : Hid (MnS ((W6.alloc (.cells mc 58)).alloc (.cells #[.slice (some ⟨W6.heap.size, 0, none⟩) 65 65, .slice none 0 0] 25)) ((W6.alloc (.cells mc 58)).alloc (.cells #[.slice (some ⟨W6.heap.size, 0, none⟩) 65 65, .slice none 0 0] 25)) W6.heap.size 0 none 0 [] []) :=
    ⟨by have h1 := Blk.new (W6.alloc (.cells mc 58)) 25 #[.slice (some ⟨W6.heap.size, 0, none⟩) 65 65, .slice none 0 0]; rw [World.size_alloc] at h1; exact h1,
      by have h1 := (Blk.new W6 58 mc).alloc (.cells #[.slice (some ⟨W6.heap.size, 0, none⟩) 65 65, .slice none 0 0] 25)
         have e : (svs [] ++ List.replicate (65 - 0) (Value.slice none 0 0)).toArray = mc := by
           show (List.replicate 65 (Value.slice none 0 0)).toArray = mc
           rw [← HMC.out, Array.toArray_toList]
         rw [e]; exact h1,
      rfl, (fun _ h => nomatch h), Own.nil _ _ _ _, (fun _ h => nomatch h), rfl, Keep.refl _ _⟩
  have h68 : Hid (((W6.alloc (.cells mc 58)).alloc (.cells #[.slice (some ⟨W6.heap.size, 0, none⟩) 65 65, .slice none 0 0] 25)).heap.size = W6.heap.size + 1 + 1 ∧ Keep NoB W6 ((W6.alloc (.cells mc 58)).alloc (.cells #[.slice (some ⟨W6.heap.size, 0, none⟩) 65 65, .slice none 0 0] 25))) := ⟨by simp, ((Keep.refl NoB W6).alloc _).alloc _⟩
  clear x30 x31 x3f x40 x41 x4f x50 x5f x61 x74 x7f l3 l4 l5 l6 hmk HMC
  generalize (W6.alloc (.cells mc 58)).alloc (.cells #[.slice (some ⟨W6.heap.size, 0, none⟩) 65 65, .slice none 0 0] 25) = W8 at *
  generalize hsW : W6.heap.size = s at *
  clear hwy hwz hW1 hW2 hW3 hW4 hW5 hW6
  go_loopw [6] (fun i wr => ∃ k : Nat, k ≤ 65 ∧ i = .int .i64 k ∧ ∃ A c es fs, Hid (MnS W8 wr s k A c es fs)) (fun i _ => 65 - (intOf i).toNat)
  case atStart => exact ⟨0, Nat.zero_le _, rfl, _, _, _, _, HM0.out⟩
  case round =>
    obtain ⟨i, hi, rfl, A, c, es, fs, HM⟩ := hrel
    clear HM0
    by_cases hlt : i < 65
    · have hel : es.length = i := by have := congrArg List.length HM.out.he; simpa using this
      have hrep : List.replicate (65 - i) (Value.slice none 0 0) = .slice none 0 0 :: List.replicate (65 - (i + 1)) (Value.slice none 0 0) := by rw [show 65 - i = (65 - (i + 1)) + 1 by omega]; rfl
      have y0 : wr.cell? ⟨s + 1, 0, none⟩ = some (.slice (some ⟨s, 0, none⟩) 65 65) := HM.out.hb.cell 0
      have kA := (Keep.refl NoB wr).alloc (.cells #[.int .i64 1] 3)
      have hsA := HM.out.hs.keep kA id
      have yi : (wr.alloc (.cells #[.int .i64 1] 3)).cell? ⟨s, i, none⟩ = some (.slice none 0 0) := by
        rw [hsA.cell i, hrep]
        simp [svs, hel]
      have yf := fun j => hsA.frozen j
      have yl := hsA.lt
      have hkk : Keep (fun k => k = s) (wr.alloc (.cells #[.int .i64 1] 3)) ((wr.alloc (.cells #[.int .i64 1] 3)).setCell ⟨s, i, none⟩ (.slice (some ⟨wr.heap.size, 0, none⟩) 1 1)) := (Keep.refl (fun k => k = s) _).setCell (p := ⟨s, i, none⟩) (fun _ => rfl) _
      have hsB : Blk ((wr.alloc (.cells #[.int .i64 1] 3)).setCell ⟨s, i, none⟩ (.slice (some ⟨wr.heap.size, 0, none⟩) 1 1)) s 58 (svs (es ++ [((⟨some ⟨wr.heap.size, 0, none⟩, 1, 1⟩, [1]) : SE)]) ++ List.replicate (65 - (i + 1)) (Value.slice none 0 0)).toArray := by
        have h1 := hsA.put i (.slice (some ⟨wr.heap.size, 0, none⟩) 1 1)
        have e : ((svs es ++ List.replicate (65 - i) (Value.slice none 0 0)).toArray.setIfInBounds i (.slice (some ⟨wr.heap.size, 0, none⟩) 1 1)) = (svs (es ++ [((⟨some ⟨wr.heap.size, 0, none⟩, 1, 1⟩, [1]) : SE)]) ++ List.replicate (65 - (i + 1)) (Value.slice none 0 0)).toArray := by
          rw [hrep, List.setIfInBounds_toArray, List.set_append_right _ _ (by rw [svs_length, hel]; omega), svs_length, hel, Nat.sub_self, svs_append]
          simp [svs, SV.val]
        rw [e] at h1
        exact h1
      have hwz := HM.out.hs.lt
      have hwb := HM.out.hb.lt
      have oN : OwnS ((wr.alloc (.cells #[.int .i64 1] 3)).setCell ⟨s, i, none⟩ (.slice (some ⟨wr.heap.size, 0, none⟩) 1 1)) (fun k => s + 1 + 1 ≤ k) ((⟨some ⟨wr.heap.size, 0, none⟩, 1, 1⟩, [1]) : SE) := (Own.keep (made_own (w := wr) (E := 3) (size := 1) (n := 1) (b := wr.heap.size) (cs := #[.int .i64 1]) (xs := ivs [1]) (P := fun k => s + 1 + 1 ≤ k) rfl rfl (by unfold maxLen; omega) rfl (by omega)) hkk (fun k hk e => by omega))
      have kAB : Keep (fun k => k = s) wr ((wr.alloc (.cells #[.int .i64 1] 3)).setCell ⟨s, i, none⟩ (.slice (some ⟨wr.heap.size, 0, none⟩) 1 1)) := (kA.mono (fun _ hf _ => hf.elim)).trans hkk (fun k e _ => e)
      have HMA : Hid (Blk ((wr.alloc (.cells #[.int .i64 1] 3)).setCell ⟨s, i, none⟩ (.slice (some ⟨wr.heap.size, 0, none⟩) 1 1)) (s + 1) 25 #[.slice (some ⟨s, 0, none⟩) 65 65, .slice A i c] ∧ (∀ e ∈ es ++ [((⟨some ⟨wr.heap.size, 0, none⟩, 1, 1⟩, [1]) : SE)], OwnS ((wr.alloc (.cells #[.int .i64 1] 3)).setCell ⟨s, i, none⟩ (.slice (some ⟨wr.heap.size, 0, none⟩) 1 1)) (fun k => s + 1 + 1 ≤ k) e) ∧ Own ((wr.alloc (.cells #[.int .i64 1] 3)).setCell ⟨s, i, none⟩ (.slice (some ⟨wr.heap.size, 0, none⟩) 1 1)) 61 5 (fun k => s + 1 + 1 ≤ k) (.slice A i c) i (fvs fs) ∧ (∀ e ∈ fs, F.OwnF ((wr.alloc (.cells #[.int .i64 1] 3)).setCell ⟨s, i, none⟩ (.slice (some ⟨wr.heap.size, 0, none⟩) 1 1)) (fun k => s + 1 + 1 ≤ k) e.1 e.2) ∧ Keep (fun k => k = s ∨ k = s + 1) W8 ((wr.alloc (.cells #[.int .i64 1] 3)).setCell ⟨s, i, none⟩ (.slice (some ⟨wr.heap.size, 0, none⟩) 1 1))) :=
        ⟨HM.out.hb.keep kAB (fun e => by omega), fun e he => by
            rcases List.mem_append.1 he with he | he
            · exact OwnS.keep (HM.out.ho e he) kAB (fun k hk e => by omega)
            · rw [List.mem_singleton.1 he]; exact oN, HM.out.hr.keep kAB (fun k hk e => by omega), fun e he => (HM.out.hf e he).keep kAB (fun k hk e => by omega), HM.out.hk.trans kAB (fun k e _ => .inl e)⟩
      have HSB := Lib.hid hsB
      have y1 : ((wr.alloc (.cells #[.int .i64 1] 3)).setCell ⟨s, i, none⟩ (.slice (some ⟨wr.heap.size, 0, none⟩) 1 1)).cell? ⟨s + 1, 1, none⟩ = some (.slice A i c) := HMA.out.1.cell 1
      have HEF : Hid (((es ++ [((⟨some ⟨wr.heap.size, 0, none⟩, 1, 1⟩, [1]) : SE)]).map fun e => e.2) = List.replicate (i + 1) [1] ∧ (fs.map fun e => e.2) = fnL i) := ⟨by rw [List.map_append, HM.out.he, List.replicate_succ']; rfl, HM.out.hm⟩
      have hszA : ((wr.alloc (.cells #[.int .i64 1] 3)).setCell ⟨s, i, none⟩ (.slice (some ⟨wr.heap.size, 0, none⟩) 1 1)).heap.size = wr.heap.size + 1 := by simp
      clear HM hrep hsA hkk hsB oN kAB kA hel
      generalize hwA : ((wr.alloc (.cells #[.int .i64 1] 3)).setCell ⟨s, i, none⟩ (.slice (some ⟨wr.heap.size, 0, none⟩) 1 1)) = wA at *
      have hsz2 : s + 1 + 1 ≤ wA.heap.size := by omega
      have HSS : Hid (s + 1 + 1 ≤ wA.heap.size) := hsz2
      clear hszA hsz2 hwz hwb
      have hil : (i : Int) < 65 := by omega
      go_wp2_with fail
      clear hwA y0 yi yf yl
      obtain ⟨d, hd⟩ : ∃ d, i / 10 = d := ⟨_, rfl⟩
      obtain ⟨r, hr⟩ : ∃ r, i % 10 = r := ⟨_, rfl⟩
      have hd10 : d ≤ 6 := by omega
      have hr10 : r ≤ 9 := by omega
      have hq1 : Int.tdiv (i : Int) 10 = (d : Int) := by rw [show (10 : Int) = ((10 : Nat) : Int) from rfl, ← Int.ofNat_tdiv, hd]
      have hq2 : Int.tmod (i : Int) 10 = (r : Int) := by rw [show (10 : Int) = ((10 : Nat) : Int) from rfl, ← Int.ofNat_tmod, hr]
      obtain ⟨T, hT⟩ : ∃ T, V.str [UInt8.ofNat (48 + d), UInt8.ofNat (48 + r)] = T := ⟨_, rfl⟩
      have HT := Lib.hid hT
      have HNM : Hid ((⟨#[102]⟩ : ByteArray) ++ T = nmS i) := by show _ = _; rw [← hT, ← hd, ← hr]; exact nm_cat i
      have hTs : T.size = 2 := by rw [← hT]; rfl
      clear hT hd hr
      refine wp_region_tail (fun i => [72, 73, 74, 75, 76, 77, 78, 79, 80, 81, 82, 83, 84, 85, 86].getD i 0) 15 (by kernel_rfl) (by kernel_rfl) (by kernel_rfl) (by kernel_rfl) (by kernel_rfl) (SN11 s i d r A c T) (fun j u x y h hk => SN11_stable _ _ _ _ _ _ _ j u x y h hk) rfl ?step ?fin
      case step =>
        intro i o a w' hoo hi hF hK hA
        by_cases h0 : i = 0
        · subst h0
          simp only [List.getElem?_toArray, List.getElem?_cons_zero, Option.some.injEq] at hoo
          subst hoo
          have e5 : a.tmps.getD 5 undef = .pointer (some ⟨s + 1, 0, none⟩) := hF.2.2 5 (by decide)
          refine Does.plain rfl ?_
          unfold yieldsK
          go_simp
          exact ⟨rfl, Keep.refl _ _⟩
        by_cases h1 : i = 1
        · subst h1
          simp only [List.getElem?_toArray, List.getElem?_cons_zero, List.getElem?_cons_succ, Option.some.injEq] at hoo
          subst hoo
          have e72 : a.tmps.getD 72 undef = .pointer (some ⟨s + 1, 1, none⟩) := hA ⟨0, .data⟩ (by simp) rfl
          have q0 := Keep.cell hK y1 id
          refine Does.plain rfl ?_
          unfold yieldsK
          go_simp
          exact ⟨rfl, Keep.refl _ _⟩
        by_cases h2 : i = 2
        · subst h2
          simp only [List.getElem?_toArray, List.getElem?_cons_zero, List.getElem?_cons_succ, Option.some.injEq] at hoo
          subst hoo
          have e6 : a.tmps.getD 6 undef = .int .i64 (i : Int) := hF.2.2 6 (by decide)
          refine Does.plain rfl ?_
          unfold yieldsK
          go_simp
          exact ⟨rfl, Keep.refl _ _⟩
        by_cases h3 : i = 3
        · subst h3
          simp only [List.getElem?_toArray, List.getElem?_cons_zero, List.getElem?_cons_succ, Option.some.injEq] at hoo
          subst hoo
          have e74 : a.tmps.getD 74 undef = .int .i64 (i : Int) := hA ⟨2, .data⟩ (by simp) rfl
          have hw := wr_i64 (d : Int) (by omega) (by omega)
          refine Does.plain rfl ?_
          unfold yieldsK
          go_simp
          exact ⟨rfl, Keep.refl _ _⟩
        by_cases h4 : i = 4
        · subst h4
          simp only [List.getElem?_toArray, List.getElem?_cons_zero, List.getElem?_cons_succ, Option.some.injEq] at hoo
          subst hoo
          have e75 : a.tmps.getD 75 undef = .int .i64 (d : Int) := hA ⟨3, .data⟩ (by simp) rfl
          have hw := wr_i64 (48 + (d : Int)) (by omega) (by omega)
          refine Does.plain rfl ?_
          unfold yieldsK
          go_simp
          exact ⟨rfl, Keep.refl _ _⟩
        by_cases h5 : i = 5
        · subst h5
          simp only [List.getElem?_toArray, List.getElem?_cons_zero, List.getElem?_cons_succ, Option.some.injEq] at hoo
          subst hoo
          have e76 : a.tmps.getD 76 undef = .int .i64 (48 + (d : Int)) := hA ⟨4, .data⟩ (by simp) rfl
          have hw := wr_u8 (48 + (d : Int)) (by omega) (by omega)
          refine Does.plain rfl ?_
          unfold yieldsK
          go_simp
          exact ⟨rfl, Keep.refl _ _⟩
        by_cases h6 : i = 6
        · subst h6
          simp only [List.getElem?_toArray, List.getElem?_cons_zero, List.getElem?_cons_succ, Option.some.injEq] at hoo
          subst hoo
          have e6 : a.tmps.getD 6 undef = .int .i64 (i : Int) := hF.2.2 6 (by decide)
          refine Does.plain rfl ?_
          unfold yieldsK
          go_simp
          exact ⟨rfl, Keep.refl _ _⟩
        by_cases h7 : i = 7
        · subst h7
          simp only [List.getElem?_toArray, List.getElem?_cons_zero, List.getElem?_cons_succ, Option.some.injEq] at hoo
          subst hoo
          have e78 : a.tmps.getD 78 undef = .int .i64 (i : Int) := hA ⟨6, .data⟩ (by simp) rfl
          have hw := wr_i64 (r : Int) (by omega) (by omega)
          refine Does.plain rfl ?_
          unfold yieldsK
          go_simp
          exact ⟨rfl, Keep.refl _ _⟩
        by_cases h8 : i = 8
        · subst h8
          simp only [List.getElem?_toArray, List.getElem?_cons_zero, List.getElem?_cons_succ, Option.some.injEq] at hoo
          subst hoo
          have e79 : a.tmps.getD 79 undef = .int .i64 (r : Int) := hA ⟨7, .data⟩ (by simp) rfl
          have hw := wr_i64 (48 + (r : Int)) (by omega) (by omega)
          refine Does.plain rfl ?_
          unfold yieldsK
          go_simp
          exact ⟨rfl, Keep.refl _ _⟩
        by_cases h9 : i = 9
        · subst h9
          simp only [List.getElem?_toArray, List.getElem?_cons_zero, List.getElem?_cons_succ, Option.some.injEq] at hoo
          subst hoo
          have e80 : a.tmps.getD 80 undef = .int .i64 (48 + (r : Int)) := hA ⟨8, .data⟩ (by simp) rfl
          have hw := wr_u8 (48 + (r : Int)) (by omega) (by omega)
          refine Does.plain rfl ?_
          unfold yieldsK
          go_simp
          exact ⟨rfl, Keep.refl _ _⟩
        by_cases h10 : i = 10
        · subst h10
          simp only [List.getElem?_toArray, List.getElem?_cons_zero, List.getElem?_cons_succ, Option.some.injEq] at hoo
          subst hoo
          have e77 : a.tmps.getD 77 undef = .int .u8 (48 + (d : Int)) := hA ⟨5, .data⟩ (by simp) rfl
          have e81 : a.tmps.getD 81 undef = .int .u8 (48 + (r : Int)) := hA ⟨9, .data⟩ (by simp) rfl
          refine Does.plain rfl ?_
          unfold yieldsK
          simp only [Array.getD_eq_getD_getElem?] at e77 e81
          go_simp
          exact ⟨⟨w'.heap.size, rfl, Blk.new _ _ _⟩, (Keep.refl _ _).alloc _⟩
        by_cases h11 : i = 11
        · subst h11
          simp only [List.getElem?_toArray, List.getElem?_cons_zero, List.getElem?_cons_succ, Option.some.injEq] at hoo
          subst hoo
          obtain ⟨g, e82, hb⟩ := hA ⟨10, .data⟩ (by simp) rfl
          have e82 : a.tmps.getD 82 undef = .slice (some ⟨g, 0, none⟩) 2 2 := e82
          refine Does.plain rfl ?_
          unfold yieldsK
          have hcv := V.conv_rd (c := 2) (rd_dig (by omega) (by omega) hb)
          rw [HT.out] at hcv
          simp only [List.length_cons, List.length_nil, Nat.reduceAdd] at hcv
          simp only [Array.getD_eq_getD_getElem?] at e82
          go_simp
          exact ⟨rfl, Keep.refl _ _⟩
        by_cases h12 : i = 12
        · subst h12
          simp only [List.getElem?_toArray, List.getElem?_cons_zero, List.getElem?_cons_succ, Option.some.injEq] at hoo
          subst hoo
          have e83 : a.tmps.getD 83 undef = .string T := hA ⟨11, .data⟩ (by simp) rfl
          refine Does.plain rfl ?_
          unfold yieldsK
          go_simp
          exact ⟨rfl, Keep.refl _ _⟩
        by_cases h13 : i = 13
        · subst h13
          simp only [List.getElem?_toArray, List.getElem?_cons_zero, List.getElem?_cons_succ, Option.some.injEq] at hoo
          subst hoo
          have e84 : a.tmps.getD 84 undef = .string (⟨#[102]⟩ ++ T) := hA ⟨12, .data⟩ (by simp) rfl
          refine Does.plain rfl ?_
          unfold yieldsK
          go_simp
          rw [HNM.out]
          refine (one_any (nmS i) w').mono ?_
          rintro e w9 ⟨rfl, h9, hk9⟩
          have hks := hK.size
          have hss := HSS.out
          exact ⟨_, rfl, ⟨w'.heap.size, rfl, h9.mono (fun k (hk : Fresh w' k) _ => by unfold Fresh at hk; omega)⟩, hk9⟩
        by_cases h14 : i = 14
        · subst h14
          simp only [List.getElem?_toArray, List.getElem?_cons_zero, List.getElem?_cons_succ, Option.some.injEq] at hoo
          subst hoo
          obtain ⟨m, e85, h9⟩ := hA ⟨13, .data⟩ (by simp) rfl
          have e85 : a.tmps.getD 85 undef = .agg #[.slice none 0 0, .slice (some ⟨m + 1 + 1, 0, none⟩) 1 1] := e85
          refine Does.plain rfl ?_
          unfold yieldsK
          have hff := run_field_img none (some ⟨m + 1 + 1, 0, none⟩) 0 0 1 1 w'
          simp only [Array.getD_eq_getD_getElem?] at e85
          go_simp
          exact ⟨⟨m, rfl, h9⟩, Keep.refl _ _⟩
        omega
      case fin =>
        intro a w' hF gK hA
        have e73 : a.tmps.getD 73 undef = .slice A i c := hA 1 (by decide)
        obtain ⟨m, e86, h9⟩ := hA 14 (by decide)
        have e86 : a.tmps.getD 86 undef = .slice (some ⟨m + 1 + 1, 0, none⟩) 1 1 := e86
        have ha := frameD_list (l := [72, 73, 74, 75, 76, 77, 78, 79, 80, 81, 82, 83, 84, 85, 86]) rfl hF
        rw [ha]
        simp only [List.map_cons, List.map_nil, e73, e86]
        generalize a.tmps.getD 72 undef = u0
        generalize a.tmps.getD 74 undef = u2
        generalize a.tmps.getD 75 undef = u3
        generalize a.tmps.getD 76 undef = u4
        generalize a.tmps.getD 77 undef = u5
        generalize a.tmps.getD 78 undef = u6
        generalize a.tmps.getD 79 undef = u7
        generalize a.tmps.getD 80 undef = u8
        generalize a.tmps.getD 81 undef = u9
        generalize a.tmps.getD 82 undef = u10
        generalize a.tmps.getD 83 undef = u11
        generalize a.tmps.getD 84 undef = u12
        generalize a.tmps.getD 85 undef = u13
        simp only [fillD, List.setIfInBounds_toArray, List.set_cons_zero, List.set_cons_succ]
        obtain ⟨k0, k1, k2, k3, k4⟩ := HMA.out
        have hbW := k0.keep gK id
        have hrW := k2.keepN gK
        have hwz2 := gK.size
        have hss := HSS.out
        have HFIN : Hid (∀ v' W5, W5.ownsRow 0 61 5 v' (i + 1) (fvs fs ++ fvs [(oneV m (nmS i), oneF (nmS i))]) → w'.grownBy W5 (Value.slice A i c).ownBlock → (v'.ownBlock = (Value.slice A i c).ownBlock ∨ v'.ownBlock = some w'.heap.size) →
            Blk W5 (s + 1) 25 #[.slice (some ⟨s, 0, none⟩) 65 65, .slice A i c] ∧ ∀ A9 c9, v' = .slice A9 (i + 1) c9 → MnS W8 (W5.setCell ⟨s + 1, 1, none⟩ v') s (i + 1) A9 c9 (es ++ [((⟨some ⟨wr.heap.size, 0, none⟩, 1, 1⟩, [1]) : SE)]) (fs ++ [(oneV m (nmS i), oneF (nmS i))])) := fun v' W5 hown hg hv => by
          obtain ⟨h1, h2, h3, h4⟩ := row_append (i := 1) hbW hrW (fun k (hk : s + 1 + 1 ≤ k) => by omega) hg hown hv (by omega)
          have hty := row_ty (F := 3) hbW hrW (by decide) (by decide)
          have hti := row_ty (F := 63) hbW hrW (by decide) (by decide)
          have hat := fun j hj => (row_at hbW hrW j hj).1
          refine ⟨h1, fun A9 c9 e => ?_⟩
          subst e
          refine ⟨by simpa using h3, (HSB.out.keep gK id).keep h4 (fun e => by have := hat s e; omega), HEF.out.1, fun e he => own_other (OwnS.keep (k1 e he) gK (fun _ _ => id)) h4 hty, by rw [fvs_append]; exact h2, fun e he => ?_, by rw [List.map_append, HEF.out.2, fnL_succ]; rfl, (k4.trans gK (fun _ hf _ => hf.elim)).trans h4 (fun j hj hl => by
            rcases hat j hj with h | h
            · exact .inr h
            · exfalso
              have h8 := h68.out.1
              have : s + 1 + 1 ≤ j := h
              omega)⟩
          rcases List.mem_append.1 he with he | he
          · exact ownF_other ((k3 e he).keepN gK) h4 hty hti
          · rw [List.mem_singleton.1 he]; exact ownF_other (h9.hf _ (List.mem_singleton.2 rfl)) h4 hty hti
        have HBW := Lib.hid hrW
        have hr2 : Rd w' (some ⟨m + 1 + 1, 0, none⟩) (fvs [(oneV m (nmS i), oneF (nmS i))]) := F.own_rdS h9.oy
        clear hA hF ha e73 e86 k0 k1 k2 k3 k4 hbW hrW h9 y1 gK HMA HSB HEF hq1 hq2 hTs HNM HT
        simp only [List.drop_succ_cons, List.drop_zero]
        generalize fvs fs = xs at *
        have HYS : Hid ((fvs [(oneV m (nmS i), oneF (nmS i))]).length = 1 * 5 ∧ ∀ u ∈ fvs [(oneV m (nmS i), oneF (nmS i))], u.oneCell' = true) := ⟨rfl, fvs_one _⟩
        generalize fvs [(oneV m (nmS i), oneF (nmS i))] = ys at *
        go_wp2_with (at_builtin; refine wpList_append_rd _ rfl (.tmp 73) (.tmp 86) _ rfl 61 5 112 i0 _ Tryz.underlying23 hfi hz0 hz1 hz2 rfl (by decide) (.slice A i c) i xs (some ⟨m + 1 + 1, 0, none⟩) 1 1 ys rfl HBW.out.1 rfl hr2 HYS.out.1 HYS.out.2 (by unfold maxLen; omega) (by omega) ?_; intro B9 d9 W5 hrow5 hg5 hv5; obtain ⟨hb5, hfin⟩ := HFIN.out _ _ hrow5 hg5 hv5; have t0 := hb5.cell 1; have f0 := fun i => hb5.frozen i; have l0 := hb5.lt; simp only [List.getElem?_toArray, List.getElem?_cons_zero, List.getElem?_cons_succ] at t0)
        go_roundw
        case rel => exact ⟨i + 1, by omega, by go_num, B9, d9, _, _, hfin _ _ rfl⟩
        case measure => simp [intOf]; omega
    · obtain rfl : i = 65 := by omega
      rw [show ((65 : Nat) : Int) = 65 from rfl]
      have hfl : fs.length = 65 := by
        have h5 : fs.length * 5 = 65 * 5 := by rw [← fvs_length]; exact HM.out.hr.1.1
        omega
      have hel : es.length = 65 := by have := congrArg List.length HM.out.he; simpa using this
      obtain ⟨gA, oA, eA, -⟩ := (F.own_rdS HM.out.hr) (by rw [fvs_length]; omega)
      obtain ⟨ad, had⟩ : ∃ ad : Addr, (⟨gA, oA, none⟩ : Addr) = ad := ⟨_, rfl⟩
      rw [had] at eA
      subst eA
      clear had
      have hc65 : 65 ≤ c := by
        obtain ⟨_, _, e, h, _⟩ := HM.out.hr.form
        cases e; exact h
      have hrs : Rd wr (some ⟨s, 0, none⟩) (svs es) := by
        have := rd_blkN HM.out.hs
        simpa using this
      have HIM : Hid (ImAt wr ⟨some ⟨s, 0, none⟩, 65, 65, some ad, 65, c⟩ es fs ∧ imOf es fs = ⟨List.replicate 65 [1], fnL 65⟩) := ⟨⟨hrs, F.own_rdS HM.out.hr, hel, hfl, fun e he => ⟨F.own_rdS (HM.out.ho e he), F.own_len (HM.out.ho e he)⟩, fun e he => (HM.out.hf e he).fn⟩, by show (⟨_, _⟩ : Im) = _; rw [HM.out.he, HM.out.hm]⟩
      have HB5 := Lib.hid HM.out.hb
      have k6r : Keep (fun k => k = s ∨ k = s + 1) W6 wr := (h68.out.2.mono (fun _ hf _ => hf.elim)).trans HM.out.hk (fun _ h _ => h)
      have HJ := Lib.hid (And.intro (HG1.out.keep k6r (fun k h1 h2 => by omega)).ji (And.intro (HG2.out.keep k6r (fun k h1 h2 => by omega)).ji (And.intro (HG3.out.keep k6r (fun k h1 h2 => by omega)).ji (HG4.out.keep k6r (fun k h1 h2 => by omega)).ji)))
      have HKr := Lib.hid (HK.out.trans k6r (fun k hk hl => by have := HK.out.size; omega))
      have y0 : wr.cell? ⟨s + 1, 0, none⟩ = some (.slice (some ⟨s, 0, none⟩) 65 65) := HM.out.hb.cell 0
      have y1 : wr.cell? ⟨s + 1, 1, none⟩ = some (.slice (some ad) 65 c) := HM.out.hb.cell 1
      clear HM hrs k6r HG1 HG2 HG3 HG4 HK h68 hlt hi hfl hel
      go_wp2_with fail
      refine wp_region_tail (fun i => [89, 90, 91, 92, 93, 94, 95, 7].getD i 0) 8 (by kernel_rfl) (by kernel_rfl) (by kernel_rfl) (by kernel_rfl) (by kernel_rfl) (SN12 s wr.heap.size ad c) (fun j u x y h hk => SN12_stable _ _ _ _ j u x y h hk) rfl ?step ?fin
      case step =>
        intro i o a w' hoo hi hF hK hA
        by_cases h0 : i = 0
        · subst h0
          simp only [List.getElem?_toArray, List.getElem?_cons_zero, Option.some.injEq] at hoo
          subst hoo
          have e5 : a.tmps.getD 5 undef = .pointer (some ⟨s + 1, 0, none⟩) := hF.2.2 5 (by decide)
          refine Does.plain rfl ?_
          unfold yieldsK
          go_simp
          exact ⟨rfl, Keep.refl _ _⟩
        by_cases h1 : i = 1
        · subst h1
          simp only [List.getElem?_toArray, List.getElem?_cons_zero, List.getElem?_cons_succ, Option.some.injEq] at hoo
          subst hoo
          have e89 : a.tmps.getD 89 undef = .pointer (some ⟨s + 1, 0, none⟩) := hA ⟨0, .data⟩ (by simp) rfl
          have q0 := Keep.cell hK y0 id
          refine Does.plain rfl ?_
          unfold yieldsK
          go_simp
          exact ⟨rfl, Keep.refl _ _⟩
        by_cases h2 : i = 2
        · subst h2
          simp only [List.getElem?_toArray, List.getElem?_cons_zero, List.getElem?_cons_succ, Option.some.injEq] at hoo
          subst hoo
          have e90 : a.tmps.getD 90 undef = .slice (some ⟨s, 0, none⟩) 65 65 := hA ⟨1, .data⟩ (by simp) rfl
          refine Does.plain rfl ?_
          unfold yieldsK
          go_simp
          exact ⟨rfl, Keep.refl _ _⟩
        by_cases h3 : i = 3
        · subst h3
          simp only [List.getElem?_toArray, List.getElem?_cons_zero, List.getElem?_cons_succ, Option.some.injEq] at hoo
          subst hoo
          have e5 : a.tmps.getD 5 undef = .pointer (some ⟨s + 1, 0, none⟩) := hF.2.2 5 (by decide)
          refine Does.plain rfl ?_
          unfold yieldsK
          go_simp
          exact ⟨rfl, Keep.refl _ _⟩
        by_cases h4 : i = 4
        · subst h4
          simp only [List.getElem?_toArray, List.getElem?_cons_zero, List.getElem?_cons_succ, Option.some.injEq] at hoo
          subst hoo
          have e92 : a.tmps.getD 92 undef = .pointer (some ⟨s + 1, 1, none⟩) := hA ⟨3, .data⟩ (by simp) rfl
          have q0 := Keep.cell hK y1 id
          refine Does.plain rfl ?_
          unfold yieldsK
          go_simp
          exact ⟨rfl, Keep.refl _ _⟩
        by_cases h5 : i = 5
        · subst h5
          simp only [List.getElem?_toArray, List.getElem?_cons_zero, List.getElem?_cons_succ, Option.some.injEq] at hoo
          subst hoo
          have e93 : a.tmps.getD 93 undef = .slice (some ad) 65 c := hA ⟨4, .data⟩ (by simp) rfl
          have hle : (64 : Int) ≤ (c : Int) := by omega
          refine Does.plain rfl ?_
          unfold yieldsK
          go_simp
          exact ⟨rfl, Keep.refl _ _⟩
        by_cases h6 : i = 6
        · subst h6
          simp only [List.getElem?_toArray, List.getElem?_cons_zero, List.getElem?_cons_succ, Option.some.injEq] at hoo
          subst hoo
          have e91 : a.tmps.getD 91 undef = .slice (some ⟨s, 0, none⟩) 64 65 := hA ⟨2, .data⟩ (by simp) rfl
          have e94 : a.tmps.getD 94 undef = .slice (some ad) 64 c := hA ⟨5, .data⟩ (by simp) rfl
          refine Does.plain rfl ?_
          unfold yieldsK
          simp only [Array.getD_eq_getD_getElem?] at e91 e94
          go_simp
          exact ⟨rfl, Keep.refl _ _⟩
        by_cases h7 : i = 7
        · subst h7
          simp only [List.getElem?_toArray, List.getElem?_cons_zero, List.getElem?_cons_succ, Option.some.injEq] at hoo
          subst hoo
          refine Does.plain rfl ?_
          unfold yieldsK
          go_simp
          exact ⟨⟨w'.heap.size, rfl, hK.size, Blk.new _ _ _⟩, (Keep.refl _ _).alloc _⟩
        omega
      case fin =>
        intro a w' hF gK hA
        have e95 : a.tmps.getD 95 undef = .agg #[.slice (some ⟨s, 0, none⟩) 64 65, .slice (some ad) 64 c] := hA 6 (by decide)
        obtain ⟨g7, e7, hm7, b7⟩ := hA 7 (by decide)
        have e7 : a.tmps.getD 7 undef = .pointer (some ⟨g7, 0, none⟩) := e7
        have ha := frameD_list (l := [89, 90, 91, 92, 93, 94, 95, 7]) rfl hF
        rw [ha]
        simp only [List.map_cons, List.map_nil, e95, e7]
        generalize a.tmps.getD 89 undef = u0
        generalize a.tmps.getD 90 undef = u1
        generalize a.tmps.getD 91 undef = u2
        generalize a.tmps.getD 92 undef = u3
        generalize a.tmps.getD 93 undef = u4
        generalize a.tmps.getD 94 undef = u5
        simp only [fillD, List.setIfInBounds_toArray, List.set_cons_zero, List.set_cons_succ]
        have t0 : w'.cell? ⟨g7, 0, none⟩ = some (.slice none 0 0) := b7.cell 0
        have t1 : w'.cell? ⟨g7, 1, none⟩ = some (.slice none 0 0) := b7.cell 1
        have tf := fun i => b7.frozen i
        have tl := b7.lt
        have kq := keep2_img w' g7 (.slice (some ⟨s, 0, none⟩) 64 65) (.slice (some ad) 64 c)
        have kB : Keep NoB wr ((w'.setCell ⟨g7, 0, none⟩ (.slice (some ⟨s, 0, none⟩) 64 65)).setCell ⟨g7, 1, none⟩ (.slice (some ad) 64 c)) := gK.trans kq (fun k e hl => by omega)
        have b7B := put2_img b7 (.slice (some ⟨s, 0, none⟩) 64 65) (.slice (some ad) 64 c)
        have HJB := Lib.hid (And.intro (HJ.out.1.keepN kB) (And.intro (HJ.out.2.1.keepN kB) (And.intro (HJ.out.2.2.1.keepN kB) (HJ.out.2.2.2.keepN kB))))
        have HMB : Hid (ImAt ((w'.setCell ⟨g7, 0, none⟩ (.slice (some ⟨s, 0, none⟩) 64 65)).setCell ⟨g7, 1, none⟩ (.slice (some ad) 64 c)) ⟨some ⟨s, 0, none⟩, 65, 65, some ad, 65, c⟩ es fs ∧ imOf es fs = ⟨List.replicate 65 [1], fnL 65⟩) := ⟨HIM.out.1.keepN kB, HIM.out.2⟩
        have HKB := Lib.hid (keepN HKr.out kB)
        have HB7 := Lib.hid b7B
        have a10 : ((w'.setCell ⟨g7, 0, none⟩ (.slice (some ⟨s, 0, none⟩) 64 65)).setCell ⟨g7, 1, none⟩ (.slice (some ad) 64 c)).cell? ⟨w6.heap.size, 0, none⟩ = some (.slice (some ⟨w.heap.size + 1 + 1, 0, none⟩) 2 2) := HJB.out.1.b.cell 0
        have a11 : ((w'.setCell ⟨g7, 0, none⟩ (.slice (some ⟨s, 0, none⟩) 64 65)).setCell ⟨g7, 1, none⟩ (.slice (some ad) 64 c)).cell? ⟨w6.heap.size, 1, none⟩ = some (.slice A6 2 c6) := HJB.out.1.b.cell 1
        have a20 : ((w'.setCell ⟨g7, 0, none⟩ (.slice (some ⟨s, 0, none⟩) 64 65)).setCell ⟨g7, 1, none⟩ (.slice (some ad) 64 c)).cell? ⟨w10.heap.size, 0, none⟩ = some (.slice none 0 0) := HJB.out.2.1.b.cell 0
        have a21 : ((w'.setCell ⟨g7, 0, none⟩ (.slice (some ⟨s, 0, none⟩) 64 65)).setCell ⟨g7, 1, none⟩ (.slice (some ad) 64 c)).cell? ⟨w10.heap.size, 1, none⟩ = some (.slice A10 2 c10) := HJB.out.2.1.b.cell 1
        have a30 : ((w'.setCell ⟨g7, 0, none⟩ (.slice (some ⟨s, 0, none⟩) 64 65)).setCell ⟨g7, 1, none⟩ (.slice (some ad) 64 c)).cell? ⟨w13.heap.size, 0, none⟩ = some (.slice (some ⟨W3.heap.size, 0, none⟩) 1 1) := HJB.out.2.2.1.b.cell 0
        have a31 : ((w'.setCell ⟨g7, 0, none⟩ (.slice (some ⟨s, 0, none⟩) 64 65)).setCell ⟨g7, 1, none⟩ (.slice (some ad) 64 c)).cell? ⟨w13.heap.size, 1, none⟩ = some (.slice (some ⟨w11.heap.size + 1 + 1, 0, none⟩) 1 1) := HJB.out.2.2.1.b.cell 1
        have a40 : ((w'.setCell ⟨g7, 0, none⟩ (.slice (some ⟨s, 0, none⟩) 64 65)).setCell ⟨g7, 1, none⟩ (.slice (some ad) 64 c)).cell? ⟨wy.heap.size, 0, none⟩ = some (.slice none 0 0) := HJB.out.2.2.2.b.cell 0
        have a41 : ((w'.setCell ⟨g7, 0, none⟩ (.slice (some ⟨s, 0, none⟩) 64 65)).setCell ⟨g7, 1, none⟩ (.slice (some ad) 64 c)).cell? ⟨wy.heap.size, 1, none⟩ = some (.slice (some ⟨w12.heap.size + 1 + 1, 0, none⟩) 1 1) := HJB.out.2.2.2.b.cell 1
        have b5B := HB5.out.keep kB id
        have a50 : ((w'.setCell ⟨g7, 0, none⟩ (.slice (some ⟨s, 0, none⟩) 64 65)).setCell ⟨g7, 1, none⟩ (.slice (some ad) 64 c)).cell? ⟨s + 1, 0, none⟩ = some (.slice (some ⟨s, 0, none⟩) 65 65) := b5B.cell 0
        have a51 : ((w'.setCell ⟨g7, 0, none⟩ (.slice (some ⟨s, 0, none⟩) 64 65)).setCell ⟨g7, 1, none⟩ (.slice (some ad) 64 c)).cell? ⟨s + 1, 1, none⟩ = some (.slice (some ad) 65 c) := b5B.cell 1
        clear hA hF ha e95 e7 b7 kq kB b7B b5B HJ HIM HKr HB5 y0 y1 gK hm7
        obtain ⟨wB, hwB⟩ : ∃ wB, ((w'.setCell ⟨g7, 0, none⟩ (.slice (some ⟨s, 0, none⟩) 64 65)).setCell ⟨g7, 1, none⟩ (.slice (some ad) 64 c)) = wB := ⟨_, rfl⟩
        rw [hwB] at HJB HMB HKB HB7 a10 a11 a20 a21 a30 a31 a40 a41 a50 a51
        simp only [List.drop_succ_cons, List.drop_zero]
        go_wp2_with fail
        clear hwB t0 t1 tf tl a10 a11 a20 a21 a30 a31 a40 a41 a50 a51
        obtain ⟨vl, hvl⟩ : ∃ vl : List VE, [(nilW, ([], [])), (⟨none, 0, 0, A10, 2, c10⟩, ([], [(oneV w7.heap.size ⟨#[97]⟩, oneF ⟨#[97]⟩), (oneV w8.heap.size ⟨#[97]⟩, oneF ⟨#[97]⟩)])), (⟨some ⟨W3.heap.size, 0, none⟩, 1, 1, some ⟨w11.heap.size + 1 + 1, 0, none⟩, 1, 1⟩, ([(⟨some ⟨W2.heap.size, 0, none⟩, 1, 1⟩, [4])], [(oneV w11.heap.size ⟨#[97]⟩, oneF ⟨#[97]⟩)])), (⟨none, 0, 0, some ⟨w12.heap.size + 1 + 1, 0, none⟩, 1, 1⟩, ([], [(⟨⟨#[97]⟩, none, 0, 0, none, 0, 0, none, 0, 0, none, 0, 0⟩, ⟨[97], [], [], [], []⟩)])), (⟨some ⟨w.heap.size + 1 + 1, 0, none⟩, 2, 2, none, 0, 0⟩, ([(⟨some ⟨w.heap.size, 0, none⟩, 2, 2⟩, [1, 2]), (⟨some ⟨w.heap.size + 1, 0, none⟩, 1, 1⟩, [3])], [])), (⟨some ⟨s, 0, none⟩, 65, 65, A6, 2, c6⟩, (es, [(oneV w3.heap.size ⟨#[97]⟩, oneF ⟨#[97]⟩), (oneV w4.heap.size ⟨#[98]⟩, oneF ⟨#[98]⟩)])), (⟨none, 0, 0, some ad, 65, c⟩, ([], fs))] = vl := ⟨_, rfl⟩
        have HVL : Hid (∀ e ∈ vl, ImAt wB e.1 e.2.1 e.2.2 ∧ okI (imOf e.2.1 e.2.2) = false ∧ SmI e.2.1 e.2.2) := fun e he => by
          obtain ⟨j1, j2, j3, j4⟩ := HJB.out
          obtain ⟨m1, m2⟩ := HMB.out
          have e5 : imOf es [(oneV w3.heap.size ⟨#[97]⟩, oneF ⟨#[97]⟩), (oneV w4.heap.size ⟨#[98]⟩, oneF ⟨#[98]⟩)] = ⟨List.replicate 65 [1], [fA, fB]⟩ := by
            show (⟨es.map fun e => e.2, _⟩ : Im) = _
            rw [show (es.map fun e => e.2) = List.replicate 65 [1] from congrArg Im.sh m2]; rfl
          have e6 : imOf [] fs = ⟨[], fnL 65⟩ := by
            show (⟨_, fs.map fun e => e.2⟩ : Im) = _
            rw [show (fs.map fun e => e.2) = fnL 65 from congrArg Im.fn m2]; rfl
          rw [← hvl] at he
          simp only [List.mem_cons, List.not_mem_nil, or_false] at he
          rcases he with rfl | rfl | rfl | rfl | rfl | rfl | rfl
          · exact ⟨nil_im _, bad_0, sm_of_im (nil_im wB) rfl (by decide)⟩
          · exact ⟨j2.i, bad_1, sm_of_im j2.i j2.e (by decide)⟩
          · exact ⟨j3.i, bad_2, sm_of_im j3.i j3.e (by decide)⟩
          · exact ⟨j4.i, bad_3, sm_of_im j4.i j4.e (by decide)⟩
          · exact ⟨j1.i.mix (nil_im _), bad_4, sm_of_im (p := ⟨[[1, 2], [3]], []⟩) (j1.i.mix (nil_im _)) rfl (by decide)⟩
          · exact ⟨m1.mix j1.i, by rw [e5]; exact bad_5 _ _ (by simp), sm_of_im (m1.mix j1.i) e5 (by decide +kernel)⟩
          · exact ⟨(nil_im _).mix m1, by rw [e6]; exact bad_6 _ _ (by decide +kernel), sm_of_im ((nil_im _).mix m1) e6 (by decide +kernel)⟩
        have HRW : Hid (Blk (wB.alloc (.cells #[.slice none 0 0, .slice none 0 0, .slice none 0 0, .slice A10 2 c10, .slice (some ⟨W3.heap.size, 0, none⟩) 1 1, .slice (some ⟨w11.heap.size + 1 + 1, 0, none⟩) 1 1, .slice none 0 0, .slice (some ⟨w12.heap.size + 1 + 1, 0, none⟩) 1 1, .slice (some ⟨w.heap.size + 1 + 1, 0, none⟩) 2 2, .slice none 0 0, .slice (some ⟨s, 0, none⟩) 65 65, .slice A6 2 c6, .slice none 0 0, .slice (some ad) 65 c] 25)) wB.heap.size 25 (vcs vl).toArray) := by
          show Blk _ _ _ _
          rw [← hvl]; exact Blk.new wB _ _
        have HL7 : Hid (vl.length = 7) := by show _ = _; rw [← hvl]; rfl
        have kBC := (Keep.refl NoB wB).alloc (.cells #[.slice none 0 0, .slice none 0 0, .slice none 0 0, .slice A10 2 c10, .slice (some ⟨W3.heap.size, 0, none⟩) 1 1, .slice (some ⟨w11.heap.size + 1 + 1, 0, none⟩) 1 1, .slice none 0 0, .slice (some ⟨w12.heap.size + 1 + 1, 0, none⟩) 1 1, .slice (some ⟨w.heap.size + 1 + 1, 0, none⟩) 2 2, .slice none 0 0, .slice (some ⟨s, 0, none⟩) 65 65, .slice A6 2 c6, .slice none 0 0, .slice (some ad) 65 c] 25)
        have HKBC := Lib.hid kBC
        clear kBC hvl
        generalize wB.alloc (.cells #[.slice none 0 0, .slice none 0 0, .slice none 0 0, .slice A10 2 c10, .slice (some ⟨W3.heap.size, 0, none⟩) 1 1, .slice (some ⟨w11.heap.size + 1 + 1, 0, none⟩) 1 1, .slice none 0 0, .slice (some ⟨w12.heap.size + 1 + 1, 0, none⟩) 1 1, .slice (some ⟨w.heap.size + 1 + 1, 0, none⟩) 2 2, .slice none 0 0, .slice (some ⟨s, 0, none⟩) 65 65, .slice A6 2 c6, .slice none 0 0, .slice (some ad) 65 c] 25) = wC at *
        generalize wB.heap.size = sB at *
        go_loopw [8, 113] (fun bad i wr => ∃ k : Nat, k ≤ 7 ∧ i = .int .i64 k ∧ bad = .int .i64 k ∧ Hid (Keep NoB wC wr)) (fun _ i _ => 7 - (intOf i).toNat)
        case atStart => exact ⟨0, Nat.zero_le _, rfl, rfl, Keep.refl _ _⟩
        case round =>
          obtain ⟨k, hk7, rfl, rfl, HKC⟩ := hrel
          obtain ⟨wo, hwo⟩ : ∃ wo, wo = wr := ⟨_, rfl⟩
          subst hwo
          by_cases hlt : k < 7
          · have hkl : k < vl.length := by rw [HL7.out]; exact hlt
            have hrow := HRW.out.keep HKC.out id
            obtain ⟨h1, h2⟩ := vcs_at vl k hkl
            have d0 : wo.cell? ⟨sB, k * 2, none⟩ = some (.slice vl[k].1.X vl[k].1.nx vl[k].1.cx) := by rw [hrow.cell]; simpa using h1
            have d1 : wo.cell? ⟨sB, k * 2 + 1, none⟩ = some (.slice vl[k].1.Y vl[k].1.ny vl[k].1.cy) := by rw [hrow.cell]; simpa using h2
            obtain ⟨him, hok, hsm⟩ := HVL.out _ (List.getElem_mem hkl)
            clear hrow h1 h2
            generalize vl[k] = e at *
            obtain ⟨⟨X1, n1, c1, Y1, m1, e1⟩, ee, ff⟩ := e
            dsimp only at *
            have kA := (Keep.refl NoB wo).alloc (.cells #[.slice X1 n1 c1, .slice Y1 m1 e1] 25)
            have bA := Blk.new wo 25 #[.slice X1 n1 c1, .slice Y1 m1 e1]
            have himA : ImAt (wo.alloc (.cells #[.slice X1 n1 c1, .slice Y1 m1 e1] 25)) ⟨X1, n1, c1, Y1, m1, e1⟩ ee ff := him.keepN (keepN HKBC.out (keepN HKC.out kA))
            have hlg := lg_of_sm himA hsm
            have HE := Lib.hid (encode_any ⟨X1, n1, c1, Y1, m1, e1⟩ ee ff _ himA hlg)
            rw [chkI_no hok, encI_no hok] at HE
            have HCH := Lib.hid (fun W (hk : Keep NoB (wo.alloc (.cells #[.slice X1 n1 c1, .slice Y1 m1 e1] 25)) W) => check_any ⟨X1, n1, c1, Y1, m1, e1⟩ ee ff W (himA.keepN hk) hlg 80 (chkI_no hok))
            have HBA := Lib.hid (And.intro bA (keepN HKC.out kA))
            obtain ⟨r0, r1⟩ := blk2 (v := ⟨X1, n1, c1, Y1, m1, e1⟩) bA
            dsimp only at r0 r1
            clear him hok hsm kA bA himA hlg HKC
            go_wp2_with fail
            refine HE.out.mono ?_
            rintro e wE ⟨uE, rfl, hE, kE⟩
            obtain ⟨AE, cE, rfl, -, -, -, -⟩ := hE.form
            obtain ⟨r0', r1'⟩ := blk2 (v := ⟨X1, n1, c1, Y1, m1, e1⟩) (HBA.out.1.keep kE id)
            dsimp only at r0' r1'
            have HCH2 := Lib.hid (HCH.out _ kE)
            have HKE := Lib.hid (keepN HBA.out.2 kE)
            clear hE kE HCH HBA HE r0 r1 d0 d1
            go_wp2_with fail
            refine HCH2.out.mono ?_
            rintro e wF ⟨rfl, kF⟩
            have HKF := Lib.hid (keepN HKE.out kF)
            clear kF HKE HCH2 r0' r1'
            go_wp2
            go_roundw
            case rel => exact ⟨k + 1, by omega, by go_num, by go_num, HKF.out⟩
            case measure => simp [intOf]; omega
          · obtain rfl : k = 7 := by omega
            rw [show ((7 : Nat) : Int) = 7 from rfl]
            have kBo := keepN HKBC.out HKC.out
            obtain ⟨j1, j2, j3, j4⟩ := HJB.out
            have HJ1 := Lib.hid (fun W (hk : Keep NoB wo W) => j1.keepN (keepN kBo hk))
            have HJ2 := Lib.hid (fun W (hk : Keep NoB wo W) => j2.keepN (keepN kBo hk))
            have HMM := Lib.hid (fun W (hk : Keep NoB wo W) => (HMB.out.1.keepN (keepN kBo hk)).take 64 65 c (by show 64 ≤ 65; omega) (by show 64 ≤ 65; omega))
            have HME : Hid (imOf (es.take 64) (fs.take 64) = ⟨List.replicate 64 [1], fnL 64⟩) := by
              have m2 := HMB.out.2
              show (⟨(es.take 64).map fun e => e.2, (fs.take 64).map fun e => e.2⟩ : Im) = _
              rw [List.map_take, List.map_take, show (es.map fun e => e.2) = List.replicate 65 [1] from congrArg Im.sh m2, show (fs.map fun e => e.2) = fnL 65 from congrArg Im.fn m2, fnL_succ 64, List.take_left' (by unfold fnL; simp)]
              rfl
            have HB7o := Lib.hid (fun W (hk : Keep NoB wo W) => HB7.out.keep (keepN kBo hk) id)
            have HKo := Lib.hid (keepN HKB.out kBo)
            clear j1 j2 j3 j4 HJB HMB HB7 HKB HKBC HKC HVL HRW HL7 hlt hk7 kBo
            have a10 : wo.cell? ⟨w6.heap.size, 0, none⟩ = some (.slice (some ⟨w.heap.size + 1 + 1, 0, none⟩) 2 2) := (HJ1.out _ (Keep.refl _ _)).b.cell 0
            have a11 : wo.cell? ⟨w6.heap.size, 1, none⟩ = some (.slice A6 2 c6) := (HJ1.out _ (Keep.refl _ _)).b.cell 1
            have HE := Lib.hid (encode_any ⟨some ⟨w.heap.size + 1 + 1, 0, none⟩, 2, 2, A6, 2, c6⟩ [(⟨some ⟨w.heap.size, 0, none⟩, 2, 2⟩, [1, 2]), (⟨some ⟨w.heap.size + 1, 0, none⟩, 1, 1⟩, [3])] [(oneV w3.heap.size ⟨#[97]⟩, oneF ⟨#[97]⟩), (oneV w4.heap.size ⟨#[98]⟩, oneF ⟨#[98]⟩)] wo (HJ1.out _ (Keep.refl _ _)).i (lg_of_sm (HJ1.out _ (Keep.refl _ _)).i (sm_of_im (HJ1.out _ (Keep.refl _ _)).i (HJ1.out _ (Keep.refl _ _)).e (by decide))))
            rw [(HJ1.out _ (Keep.refl _ _)).e, chkI_ok ok_two, enc_two] at HE
            go_wp2_with fail
            refine HE.out.mono ?_
            rintro e v1 ⟨u1, rfl, h1, gK⟩
            obtain ⟨A1, c1, rfl, hc1, hr1, -, hm1⟩ := h1.form
            rw [show twoB.length = 31 from rfl] at hc1 ⊢
            have HR1 := Lib.hid (fun W (hk : Keep NoB v1 W) => S.rd_n (w' := W) hr1 hk)
            have HM1 := Lib.hid hm1
            have HD := Lib.hid (decode_any A1 twoB c1 v1 hr1 hc1 hm1 (by show 31 ≤ _; omega))
            rw [dec_two, show twoB.length = 31 from rfl] at HD
            clear h1 hr1 a10 a11 HE hm1
            go_wp2_with fail
            refine HD.out.mono ?_
            rintro e v2 ⟨q, eq, fq, rfl, hq, hqe, k2⟩
            have hqi := hq.im
            obtain ⟨qX, qnx, qcx, qY, qny, qcy⟩ := q
            dsimp only [IV.val, IV.cells] at *
            have bq := Blk.new v2 25 #[.slice qX qnx qcx, .slice qY qny qcy]
            have kA := (Keep.refl NoB v2).alloc (.cells #[.slice qX qnx qcx, .slice qY qny qcy] 25)
            have HQ : Hid (JI (v2.alloc (.cells #[.slice qX qnx qcx, .slice qY qny qcy] 25)) v2.heap.size twoI ⟨qX, qnx, qcx, qY, qny, qcy⟩ eq fq) := ⟨bq, hqi.keepN kA, hqe⟩
            have HK13 := Lib.hid (And.intro (keepN gK (keepN k2 kA)) (keepN k2 kA))
            clear hq hqe hqi bq kA k2 gK HD
            generalize hv3 : v2.alloc (.cells #[.slice qX qnx qcx, .slice qY qny qcy] 25) = v3 at *
            have hO : V.OwnB (v3.alloc (.cells #[] 5)) (Fresh v3) (.slice (some ⟨v3.heap.size, 0, none⟩) 0 0) [] := made_ownI v3
            have kM := (Keep.refl NoB v3).alloc (.cells #[] 5)
            have hrM := HR1.out _ (keepN HK13.out.2 kM)
            have hle : ([] : List UInt8).length + twoB.length ≤ 140737488355328 := by decide
            go_upto_region 26 with (at_builtin; refine V.wpList_append_rd _ rfl (.tmp 150) (.tmp 151) rfl (.slice (some ⟨v3.heap.size, 0, none⟩) 0 0) [] twoB A1 c1 rfl hO.1 rfl hrM hle ?_; intro v5 w5 hown hg hat; obtain ⟨hO5, hK5⟩ := own_appI hO kM hown hg hat; clear hown hg hat hO kM hrM; rw [List.nil_append] at hO5; obtain ⟨Av, cv, rfl, hcv, -, -, hmv⟩ := hO5.form; rw [show twoB.length = 31 from rfl] at hcv ⊢; obtain ⟨g, rfl⟩ := own_headI hO5 rfl (show 0 < twoB.length by decide); have hcell : w5.cell? ⟨g, 6, none⟩ = some (.int .u8 2) := own_cellI hO5 (k := 6) (x := 2) rfl; have hfr := own_frozenI hO5 rfl; have HO5 := Lib.hid (And.intro hO5 hK5); clear hO5 hK5)
            have hw3 : IntKind.u8.wrap 3 = 3 := rfl
            clear hv3 hle
            have hset := own_setI (k := 6) (z := 3) (x := 3) HO5.out.1 rfl rfl
            have hKs := keep_ownI (k := 6) HO5.out.2 HO5.out.1 (.int .u8 3)
            have HT9 : Hid (V.Rd (w5.setCell ⟨g, 6, none⟩ (.int .u8 3)) (some ⟨g, 0, none⟩) turnB) := own_rdI hset
            have HD3 := Lib.hid (decode_no (some ⟨g, 0, none⟩) turnB 31 cv _ HT9.out rfl hcv hmv (by omega) 82 dec_turn)
            have HK3s := Lib.hid hKs
            clear hset hKs HO5 HT9
            go_wp2_with fail
            clear hcell hfr hw3
            refine HD3.out.mono ?_
            rintro e v6 ⟨X6, Y6, cx6, cy6, rfl, k6⟩
            have gK6 := keepN HK3s.out k6
            clear HK3s HD3 k6 hcv hmv
            generalize w5.setCell ⟨g, 6, none⟩ (.int .u8 3) = w5s at *
            have kA := (Keep.refl NoB v6).alloc (.cells #[.slice X6 0 cx6, .slice Y6 0 cy6] 25)
            have gK7 := keepN gK6 kA
            have HD4 := Lib.hid (decode_no A1 (twoB.take 30) 30 c1 _ (rd_tk (HR1.out _ (keepN HK13.out.2 gK7)) 30) rfl (by omega) HM1.out (by omega) 82 dec_cut)
            clear kA gK6
            have hle30 : (30 : Int) ≤ (c1 : Int) := by omega
            go_wp2_with fail
            refine HD4.out.mono ?_
            rintro e v8 ⟨X8, Y8, cx8, cy8, rfl, k8⟩
            have kA := (Keep.refl NoB v8).alloc (.cells #[.slice X8 0 cx8, .slice Y8 0 cy8] 25)
            have gK9 := keepN gK7 (keepN k8 kA)
            clear k8 kA gK7 HD4 hle30
            obtain ⟨v9, hv9⟩ : ∃ v9, v8.alloc (.cells #[.slice X8 0 cx8, .slice Y8 0 cy8] 25) = v9 := ⟨_, rfl⟩
            rw [hv9] at gK9
            obtain ⟨hcvx, hrdx, hkpx⟩ := marked (w := v9) (cs := #[.int .u8 120]) (n := 1) [120] rfl rfl
            generalize hvf : World.freeze _ ⟨v9.heap.size, 1, none⟩ 1 = vf at hcvx hrdx hkpx
            have HR1f := Lib.hid (HR1.out _ (keepN HK13.out.2 (keepN gK9 hkpx)))
            have HXf := Lib.hid hrdx
            have HKf := Lib.hid (keepN gK9 hkpx)
            clear hrdx hkpx gK9 hvf
            go_wp2_with (at_builtin; refine wpList_appG rfl (.tmp 174) (.tmp 175) rfl v9.heap.size [120] twoB A1 c1 1 31 32 rfl HXf.out (by omega) HKf.out rfl rfl rfl (by omega) HR1f.out rfl (by omega) ?_; intro A12 c12 w12f hO12 hK12 hc12 hcm12)
            have HD5 := Lib.hid (decode_no A12 ([120] ++ twoB) 32 c12 _ (own_rdI hO12.out) rfl hc12 hcm12 (by omega) 81 dec_x)
            clear hO12 hcvx HXf HKf HR1f
            refine HD5.out.mono ?_
            rintro e v13 ⟨X13, Y13, cx13, cy13, rfl, k13⟩
            have kA := (Keep.refl NoB v13).alloc (.cells #[.slice X13 0 cx13, .slice Y13 0 cy13] 25)
            have HK14 := Lib.hid (keepN hK12.out (keepN k13 kA))
            clear k13 kA HD5 hK12 hc12 hcm12 hv9
            have hko := keepN HK13.out.1 HK14.out
            have HJ1a := Lib.hid (fun W (hk : Keep NoB _ W) => HJ1.out W (keepN hko hk))
            have HMMa := Lib.hid (fun W (hk : Keep NoB _ W) => HMM.out W (keepN hko hk))
            have HQa := Lib.hid (fun W (hk : Keep NoB _ W) => HQ.out.keepN (keepN HK14.out hk))
            have HKo2 := Lib.hid (keepN HKo.out hko)
            have HJ2a := Lib.hid (fun W (hk : Keep NoB _ W) => HJ2.out W (keepN hko hk))
            have z7 := HB7o.out _ hko
            have z70 : (v13.alloc (.cells #[.slice X13 0 cx13, .slice Y13 0 cy13] 25)).cell? ⟨g7, 0, none⟩ = some (.slice (some ⟨s, 0, none⟩) 64 65) := z7.cell 0
            have z71 : (v13.alloc (.cells #[.slice X13 0 cx13, .slice Y13 0 cy13] 25)).cell? ⟨g7, 1, none⟩ = some (.slice (some ad) 64 c) := z7.cell 1
            have hq3 := HQa.out _ (Keep.refl _ _)
            have qc0 : (v13.alloc (.cells #[.slice X13 0 cx13, .slice Y13 0 cy13] 25)).cell? ⟨v2.heap.size, 0, none⟩ = some (.slice qX qnx qcx) := hq3.b.cell 0
            have qc1 : (v13.alloc (.cells #[.slice X13 0 cx13, .slice Y13 0 cy13] 25)).cell? ⟨v2.heap.size, 1, none⟩ = some (.slice qY qny qcy) := hq3.b.cell 1
            have hj3 := HJ1a.out _ (Keep.refl _ _)
            have a10 : (v13.alloc (.cells #[.slice X13 0 cx13, .slice Y13 0 cy13] 25)).cell? ⟨w6.heap.size, 0, none⟩ = some (.slice (some ⟨w.heap.size + 1 + 1, 0, none⟩) 2 2) := hj3.b.cell 0
            have a11 : (v13.alloc (.cells #[.slice X13 0 cx13, .slice Y13 0 cy13] 25)).cell? ⟨w6.heap.size, 1, none⟩ = some (.slice A6 2 c6) := hj3.b.cell 1
            have hj2 := HJ2a.out _ (Keep.refl _ _)
            have a20 : (v13.alloc (.cells #[.slice X13 0 cx13, .slice Y13 0 cy13] 25)).cell? ⟨w10.heap.size, 0, none⟩ = some (.slice none 0 0) := hj2.b.cell 0
            have a21 : (v13.alloc (.cells #[.slice X13 0 cx13, .slice Y13 0 cy13] 25)).cell? ⟨w10.heap.size, 1, none⟩ = some (.slice A10 2 c10) := hj2.b.cell 1
            have HSQ := Lib.hid (And.intro (sm_of_im hq3.i hq3.e (by decide)) (And.intro (sm_of_im hj3.i hj3.e (by decide)) (And.intro (sm_of_im (HMMa.out _ (Keep.refl _ _)) HME.out (by decide +kernel)) (sm_of_im hj2.i hj2.e (by decide)))))
            clear hko z7 hq3 hj3 hj2 HQ HJ1 HJ2 HMM HB7o HKo HK13 HK14 HR1 HM1
            generalize hv14 : v13.alloc (.cells #[.slice X13 0 cx13, .slice Y13 0 cy13] 25) = v14 at *
            go_wp2_with fail
            clear hv14
            refine wp_region_props6 (fun i => [180, 181, 182, 183, 184, 185, 186, 187, 188, 189, 190, 191, 192, 193, 194, 195, 196, 197, 198, 199, 200, 201, 202, 203, 204, 205, 206, 207, 208, 209, 210, 211, 212, 213, 24].getD i 0) 9999 (NoB) (fun _ => false) (by kernel_rfl) (by kernel_rfl) (by kernel_rfl) (SN30 ⟨qX, qnx, qcx, qY, qny, qcy⟩ ⟨some ⟨w.heap.size + 1 + 1, 0, none⟩, 2, 2, A6, 2, c6⟩ ⟨some ⟨s, 0, none⟩, 64, 65, some ad, 64, c⟩) (fun i u x y _ _ _ h hk => SN30_stable _ _ _ i u x y h (hk.mono (fun _ hf _ => hf))) (fun i u x y _ h hk => SN30_stable _ _ _ i u x y h hk) rfl ?step ?spec ?fin
            case step =>
              intro i o a w' hoo hic hF hK hA
              have hi : i < 35 := by simpa using (Array.getElem?_eq_some_iff.1 hoo).1
              by_cases h0 : i = 0
              · subst h0
                simp only [List.getElem?_toArray, List.getElem?_cons_zero, Option.some.injEq] at hoo
                subst hoo
                have e14 : a.tmps.getD 14 undef = .int .i64 0 := hF.2.2 14 (by decide)
                refine Does.plain rfl ?_
                unfold yieldsK
                go_simp
                exact ⟨rfl, Keep.refl _ _⟩
              by_cases h1 : i = 1
              · subst h1
                simp only [List.getElem?_toArray, List.getElem?_cons_zero, List.getElem?_cons_succ, Option.some.injEq] at hoo
                subst hoo
                have e180 : a.tmps.getD 180 undef = .int .i64 0 := hA ⟨0, .data⟩ (by simp) rfl
                refine Does.plain rfl ?_
                unfold yieldsK
                go_simp
                exact ⟨rfl, Keep.refl _ _⟩
              by_cases h2 : i = 2
              · subst h2
                simp only [List.getElem?_toArray, List.getElem?_cons_zero, List.getElem?_cons_succ, Option.some.injEq] at hoo
                subst hoo
                have e181 : a.tmps.getD 181 undef = .bool true := hA ⟨1, .data⟩ (by simp) rfl
                refine Does.plain rfl ?_
                unfold yieldsK
                go_simp
                exact ⟨rfl, Keep.refl _ _⟩
              by_cases h3 : i = 3
              · subst h3
                simp only [List.getElem?_toArray, List.getElem?_cons_zero, List.getElem?_cons_succ, Option.some.injEq] at hoo
                subst hoo
                have e16 : a.tmps.getD 16 undef = .int .i64 0 := hF.2.2 16 (by decide)
                refine Does.yes (j := 2) (d := 182) (want := true) rfl rfl (hA ⟨2, .guard⟩ (by simp) rfl) ?_
                unfold yieldsK
                go_simp
                exact ⟨rfl, Keep.refl _ _⟩
              by_cases h4 : i = 4
              · subst h4
                simp only [List.getElem?_toArray, List.getElem?_cons_zero, List.getElem?_cons_succ, Option.some.injEq] at hoo
                subst hoo
                have e183 : a.tmps.getD 183 undef = .int .i64 0 := hA ⟨3, .data⟩ (by simp) rfl
                refine Does.yes (j := 2) (d := 182) (want := true) rfl rfl (hA ⟨2, .guard⟩ (by simp) rfl) ?_
                unfold yieldsK
                go_simp
                exact ⟨rfl, Keep.refl _ _⟩
              by_cases h5 : i = 5
              · subst h5
                simp only [List.getElem?_toArray, List.getElem?_cons_zero, List.getElem?_cons_succ, Option.some.injEq] at hoo
                subst hoo
                have e182 : a.tmps.getD 182 undef = .bool true := hA ⟨2, .data⟩ (by simp) rfl
                have e184 : a.tmps.getD 184 undef = .bool true := hA ⟨4, .data⟩ (by simp) rfl
                refine Does.plain rfl ?_
                unfold yieldsK
                go_simp
                exact ⟨rfl, Keep.refl _ _⟩
              by_cases h6 : i = 6
              · subst h6
                simp only [List.getElem?_toArray, List.getElem?_cons_zero, List.getElem?_cons_succ, Option.some.injEq] at hoo
                subst hoo
                have e185 : a.tmps.getD 185 undef = .bool true := hA ⟨5, .data⟩ (by simp) rfl
                refine Does.plain rfl ?_
                unfold yieldsK
                go_simp
                exact ⟨rfl, Keep.refl _ _⟩
              by_cases h7 : i = 7
              · subst h7
                simp only [List.getElem?_toArray, List.getElem?_cons_zero, List.getElem?_cons_succ, Option.some.injEq] at hoo
                subst hoo
                have e15 : a.tmps.getD 15 undef = .pointer (some ⟨v2.heap.size, 0, none⟩) := hF.2.2 15 (by decide)
                have x0 := Keep.cell hK qc0 id
                have x1 := Keep.cell hK qc1 id
                refine Does.yes (j := 6) (d := 186) (want := true) rfl rfl (hA ⟨6, .guard⟩ (by simp) rfl) ?_
                unfold yieldsK
                go_simp
                exact ⟨rfl, Keep.refl _ _⟩
              by_cases h8 : i = 8
              · subst h8
                simp only [List.getElem?_toArray, List.getElem?_cons_zero, List.getElem?_cons_succ, Option.some.injEq] at hoo
                subst hoo
                have e1 : a.tmps.getD 1 undef = .pointer (some ⟨w6.heap.size, 0, none⟩) := hF.2.2 1 (by decide)
                have x0 := Keep.cell hK a10 id
                have x1 := Keep.cell hK a11 id
                refine Does.yes (j := 6) (d := 186) (want := true) rfl rfl (hA ⟨6, .guard⟩ (by simp) rfl) ?_
                unfold yieldsK
                go_simp
                exact ⟨rfl, Keep.refl _ _⟩
              by_cases h9 : i = 9
              · subst h9
                simp only [List.getElem?_toArray, List.getElem?_cons_zero, List.getElem?_cons_succ, Option.some.injEq] at hoo
                subst hoo
                have e187 : a.tmps.getD 187 undef = .agg #[.slice qX qnx qcx, .slice qY qny qcy] := hA ⟨7, .data⟩ (by simp) rfl
                have e188 : a.tmps.getD 188 undef = .agg #[.slice (some ⟨w.heap.size + 1 + 1, 0, none⟩) 2 2, .slice A6 2 c6] := hA ⟨8, .data⟩ (by simp) rfl
                refine Does.yes (j := 6) (d := 186) (want := true) rfl rfl (hA ⟨6, .guard⟩ (by simp) rfl) ?_
                unfold yieldsK
                go_simp
                refine (same_any ⟨qX, qnx, qcx, qY, qny, qcy⟩ ⟨some ⟨w.heap.size + 1 + 1, 0, none⟩, 2, 2, A6, 2, c6⟩ eq [(⟨some ⟨w.heap.size, 0, none⟩, 2, 2⟩, [1, 2]), (⟨some ⟨w.heap.size + 1, 0, none⟩, 1, 1⟩, [3])] fq [(oneV w3.heap.size ⟨#[97]⟩, oneF ⟨#[97]⟩), (oneV w4.heap.size ⟨#[98]⟩, oneF ⟨#[98]⟩)] w' (HQa.out _ hK).i (HJ1a.out _ hK).i HSQ.out.1 HSQ.out.2.1).mono ?_
                rw [(HQa.out _ hK).e, (HJ1a.out _ hK).e, same_self]
                rintro e w9 ⟨rfl, h9⟩
                exact ⟨_, rfl, rfl, h9⟩
              by_cases h10 : i = 10
              · subst h10
                simp only [List.getElem?_toArray, List.getElem?_cons_zero, List.getElem?_cons_succ, Option.some.injEq] at hoo
                subst hoo
                have e186 : a.tmps.getD 186 undef = .bool true := hA ⟨6, .data⟩ (by simp) rfl
                have e189 : a.tmps.getD 189 undef = .bool true := hA ⟨9, .data⟩ (by simp) rfl
                refine Does.plain rfl ?_
                unfold yieldsK
                go_simp
                exact ⟨rfl, Keep.refl _ _⟩
              by_cases h11 : i = 11
              · subst h11
                simp only [List.getElem?_toArray, List.getElem?_cons_zero, List.getElem?_cons_succ, Option.some.injEq] at hoo
                subst hoo
                have e190 : a.tmps.getD 190 undef = .bool true := hA ⟨10, .data⟩ (by simp) rfl
                refine Does.plain rfl ?_
                unfold yieldsK
                go_simp
                exact ⟨rfl, Keep.refl _ _⟩
              by_cases h12 : i = 12
              · subst h12
                simp only [List.getElem?_toArray, List.getElem?_cons_zero, List.getElem?_cons_succ, Option.some.injEq] at hoo
                subst hoo
                have e15 : a.tmps.getD 15 undef = .pointer (some ⟨v2.heap.size, 0, none⟩) := hF.2.2 15 (by decide)
                have x0 := Keep.cell hK qc0 id
                have x1 := Keep.cell hK qc1 id
                refine Does.yes (j := 11) (d := 191) (want := true) rfl rfl (hA ⟨11, .guard⟩ (by simp) rfl) ?_
                unfold yieldsK
                go_simp
                exact ⟨rfl, Keep.refl _ _⟩
              by_cases h13 : i = 13
              · subst h13
                simp only [List.getElem?_toArray, List.getElem?_cons_zero, List.getElem?_cons_succ, Option.some.injEq] at hoo
                subst hoo
                refine Does.yes (j := 11) (d := 191) (want := true) rfl rfl (hA ⟨11, .guard⟩ (by simp) rfl) ?_
                unfold yieldsK
                go_simp
                refine (one_any ⟨#[97]⟩ w').mono ?_
                rintro e w9 ⟨rfl, h9, hk9⟩
                exact ⟨_, rfl, ⟨w'.heap.size, rfl, h9.im⟩, hk9⟩
              by_cases h14 : i = 14
              · subst h14
                simp only [List.getElem?_toArray, List.getElem?_cons_zero, List.getElem?_cons_succ, Option.some.injEq] at hoo
                subst hoo
                have e192 : a.tmps.getD 192 undef = .agg #[.slice qX qnx qcx, .slice qY qny qcy] := hA ⟨12, .data⟩ (by simp) rfl
                obtain ⟨m, e193, h9⟩ := hA ⟨13, .data⟩ (by simp) rfl
                have e193 : a.tmps.getD 193 undef = .agg #[.slice none 0 0, .slice (some ⟨m + 1 + 1, 0, none⟩) 1 1] := e193
                refine Does.yes (j := 11) (d := 191) (want := true) rfl rfl (hA ⟨11, .guard⟩ (by simp) rfl) ?_
                unfold yieldsK
                simp only [Array.getD_eq_getD_getElem?] at e193
                go_simp
                refine (same_any ⟨qX, qnx, qcx, qY, qny, qcy⟩ (oneI m) eq [] fq [(oneV m ⟨#[97]⟩, oneF ⟨#[97]⟩)] w' (HQa.out _ hK).i h9 HSQ.out.1 (sm_of_im (p := ⟨[], [fA]⟩) h9 rfl (by decide))).mono ?_
                rw [(HQa.out _ hK).e, show imOf [] [(oneV m ⟨#[97]⟩, oneF ⟨#[97]⟩)] = ⟨[], [fA]⟩ from rfl, same_one]
                rintro e w9 ⟨rfl, h9⟩
                exact ⟨_, rfl, rfl, h9⟩
              by_cases h15 : i = 15
              · subst h15
                simp only [List.getElem?_toArray, List.getElem?_cons_zero, List.getElem?_cons_succ, Option.some.injEq] at hoo
                subst hoo
                have e194 : a.tmps.getD 194 undef = .bool false := hA ⟨14, .data⟩ (by simp) rfl
                refine Does.yes (j := 11) (d := 191) (want := true) rfl rfl (hA ⟨11, .guard⟩ (by simp) rfl) ?_
                unfold yieldsK
                go_simp
                exact ⟨rfl, Keep.refl _ _⟩
              by_cases h16 : i = 16
              · subst h16
                simp only [List.getElem?_toArray, List.getElem?_cons_zero, List.getElem?_cons_succ, Option.some.injEq] at hoo
                subst hoo
                have e191 : a.tmps.getD 191 undef = .bool true := hA ⟨11, .data⟩ (by simp) rfl
                have e195 : a.tmps.getD 195 undef = .bool true := hA ⟨15, .data⟩ (by simp) rfl
                refine Does.plain rfl ?_
                unfold yieldsK
                go_simp
                exact ⟨rfl, Keep.refl _ _⟩
              by_cases h17 : i = 17
              · subst h17
                simp only [List.getElem?_toArray, List.getElem?_cons_zero, List.getElem?_cons_succ, Option.some.injEq] at hoo
                subst hoo
                have e196 : a.tmps.getD 196 undef = .bool true := hA ⟨16, .data⟩ (by simp) rfl
                refine Does.plain rfl ?_
                unfold yieldsK
                go_simp
                exact ⟨rfl, Keep.refl _ _⟩
              by_cases h18 : i = 18
              · subst h18
                simp only [List.getElem?_toArray, List.getElem?_cons_zero, List.getElem?_cons_succ, Option.some.injEq] at hoo
                subst hoo
                have e19 : a.tmps.getD 19 undef = .int .i64 82 := hF.2.2 19 (by decide)
                refine Does.yes (j := 17) (d := 197) (want := true) rfl rfl (hA ⟨17, .guard⟩ (by simp) rfl) ?_
                unfold yieldsK
                go_simp
                exact ⟨rfl, Keep.refl _ _⟩
              by_cases h19 : i = 19
              · subst h19
                simp only [List.getElem?_toArray, List.getElem?_cons_zero, List.getElem?_cons_succ, Option.some.injEq] at hoo
                subst hoo
                have e198 : a.tmps.getD 198 undef = .int .i64 82 := hA ⟨18, .data⟩ (by simp) rfl
                refine Does.yes (j := 17) (d := 197) (want := true) rfl rfl (hA ⟨17, .guard⟩ (by simp) rfl) ?_
                unfold yieldsK
                go_simp
                exact ⟨rfl, Keep.refl _ _⟩
              by_cases h20 : i = 20
              · subst h20
                simp only [List.getElem?_toArray, List.getElem?_cons_zero, List.getElem?_cons_succ, Option.some.injEq] at hoo
                subst hoo
                have e197 : a.tmps.getD 197 undef = .bool true := hA ⟨17, .data⟩ (by simp) rfl
                have e199 : a.tmps.getD 199 undef = .bool true := hA ⟨19, .data⟩ (by simp) rfl
                refine Does.plain rfl ?_
                unfold yieldsK
                go_simp
                exact ⟨rfl, Keep.refl _ _⟩
              by_cases h21 : i = 21
              · subst h21
                simp only [List.getElem?_toArray, List.getElem?_cons_zero, List.getElem?_cons_succ, Option.some.injEq] at hoo
                subst hoo
                have e200 : a.tmps.getD 200 undef = .bool true := hA ⟨20, .data⟩ (by simp) rfl
                refine Does.plain rfl ?_
                unfold yieldsK
                go_simp
                exact ⟨rfl, Keep.refl _ _⟩
              by_cases h22 : i = 22
              · subst h22
                simp only [List.getElem?_toArray, List.getElem?_cons_zero, List.getElem?_cons_succ, Option.some.injEq] at hoo
                subst hoo
                have e21 : a.tmps.getD 21 undef = .int .i64 82 := hF.2.2 21 (by decide)
                refine Does.yes (j := 21) (d := 201) (want := true) rfl rfl (hA ⟨21, .guard⟩ (by simp) rfl) ?_
                unfold yieldsK
                go_simp
                exact ⟨rfl, Keep.refl _ _⟩
              by_cases h23 : i = 23
              · subst h23
                simp only [List.getElem?_toArray, List.getElem?_cons_zero, List.getElem?_cons_succ, Option.some.injEq] at hoo
                subst hoo
                have e202 : a.tmps.getD 202 undef = .int .i64 82 := hA ⟨22, .data⟩ (by simp) rfl
                refine Does.yes (j := 21) (d := 201) (want := true) rfl rfl (hA ⟨21, .guard⟩ (by simp) rfl) ?_
                unfold yieldsK
                go_simp
                exact ⟨rfl, Keep.refl _ _⟩
              by_cases h24 : i = 24
              · subst h24
                simp only [List.getElem?_toArray, List.getElem?_cons_zero, List.getElem?_cons_succ, Option.some.injEq] at hoo
                subst hoo
                have e201 : a.tmps.getD 201 undef = .bool true := hA ⟨21, .data⟩ (by simp) rfl
                have e203 : a.tmps.getD 203 undef = .bool true := hA ⟨23, .data⟩ (by simp) rfl
                refine Does.plain rfl ?_
                unfold yieldsK
                go_simp
                exact ⟨rfl, Keep.refl _ _⟩
              by_cases h25 : i = 25
              · subst h25
                simp only [List.getElem?_toArray, List.getElem?_cons_zero, List.getElem?_cons_succ, Option.some.injEq] at hoo
                subst hoo
                have e204 : a.tmps.getD 204 undef = .bool true := hA ⟨24, .data⟩ (by simp) rfl
                refine Does.plain rfl ?_
                unfold yieldsK
                go_simp
                exact ⟨rfl, Keep.refl _ _⟩
              by_cases h26 : i = 26
              · subst h26
                simp only [List.getElem?_toArray, List.getElem?_cons_zero, List.getElem?_cons_succ, Option.some.injEq] at hoo
                subst hoo
                have e23 : a.tmps.getD 23 undef = .int .i64 81 := hF.2.2 23 (by decide)
                refine Does.yes (j := 25) (d := 205) (want := true) rfl rfl (hA ⟨25, .guard⟩ (by simp) rfl) ?_
                unfold yieldsK
                go_simp
                exact ⟨rfl, Keep.refl _ _⟩
              by_cases h27 : i = 27
              · subst h27
                simp only [List.getElem?_toArray, List.getElem?_cons_zero, List.getElem?_cons_succ, Option.some.injEq] at hoo
                subst hoo
                have e206 : a.tmps.getD 206 undef = .int .i64 81 := hA ⟨26, .data⟩ (by simp) rfl
                refine Does.yes (j := 25) (d := 205) (want := true) rfl rfl (hA ⟨25, .guard⟩ (by simp) rfl) ?_
                unfold yieldsK
                go_simp
                exact ⟨rfl, Keep.refl _ _⟩
              by_cases h28 : i = 28
              · subst h28
                simp only [List.getElem?_toArray, List.getElem?_cons_zero, List.getElem?_cons_succ, Option.some.injEq] at hoo
                subst hoo
                have e205 : a.tmps.getD 205 undef = .bool true := hA ⟨25, .data⟩ (by simp) rfl
                have e207 : a.tmps.getD 207 undef = .bool true := hA ⟨27, .data⟩ (by simp) rfl
                refine Does.plain rfl ?_
                unfold yieldsK
                go_simp
                exact ⟨rfl, Keep.refl _ _⟩
              by_cases h29 : i = 29
              · subst h29
                simp only [List.getElem?_toArray, List.getElem?_cons_zero, List.getElem?_cons_succ, Option.some.injEq] at hoo
                subst hoo
                have e208 : a.tmps.getD 208 undef = .bool true := hA ⟨28, .data⟩ (by simp) rfl
                refine Does.plain rfl ?_
                unfold yieldsK
                go_simp
                exact ⟨rfl, Keep.refl _ _⟩
              by_cases h30 : i = 30
              · subst h30
                simp only [List.getElem?_toArray, List.getElem?_cons_zero, List.getElem?_cons_succ, Option.some.injEq] at hoo
                subst hoo
                have e7 : a.tmps.getD 7 undef = .pointer (some ⟨g7, 0, none⟩) := hF.2.2 7 (by decide)
                have x0 := Keep.cell hK z70 id
                have x1 := Keep.cell hK z71 id
                refine Does.yes (j := 29) (d := 209) (want := true) rfl rfl (hA ⟨29, .guard⟩ (by simp) rfl) ?_
                unfold yieldsK
                go_simp
                exact ⟨rfl, Keep.refl _ _⟩
              by_cases h31 : i = 31
              · subst h31
                simp only [List.getElem?_toArray, List.getElem?_cons_zero, List.getElem?_cons_succ, Option.some.injEq] at hoo
                subst hoo
                have e210 : a.tmps.getD 210 undef = .agg #[.slice (some ⟨s, 0, none⟩) 64 65, .slice (some ad) 64 c] := hA ⟨30, .data⟩ (by simp) rfl
                refine Does.yes (j := 29) (d := 209) (want := true) rfl rfl (hA ⟨29, .guard⟩ (by simp) rfl) ?_
                unfold yieldsK
                go_simp
                refine (check_any ⟨some ⟨s, 0, none⟩, 64, 65, some ad, 64, c⟩ (es.take 64) (fs.take 64) w' (HMMa.out _ hK) (lg_of_sm (HMMa.out _ hK) HSQ.out.2.2.1) 0 (by show _ = _; rw [HME.out]; exact chkI_ok ok_most)).mono ?_
                rintro e w9 ⟨rfl, h9⟩
                exact ⟨_, rfl, rfl, h9⟩
              by_cases h32 : i = 32
              · subst h32
                simp only [List.getElem?_toArray, List.getElem?_cons_zero, List.getElem?_cons_succ, Option.some.injEq] at hoo
                subst hoo
                have e211 : a.tmps.getD 211 undef = .int .i64 0 := hA ⟨31, .data⟩ (by simp) rfl
                refine Does.yes (j := 29) (d := 209) (want := true) rfl rfl (hA ⟨29, .guard⟩ (by simp) rfl) ?_
                unfold yieldsK
                go_simp
                exact ⟨rfl, Keep.refl _ _⟩
              by_cases h33 : i = 33
              · subst h33
                simp only [List.getElem?_toArray, List.getElem?_cons_zero, List.getElem?_cons_succ, Option.some.injEq] at hoo
                subst hoo
                have e209 : a.tmps.getD 209 undef = .bool true := hA ⟨29, .data⟩ (by simp) rfl
                have e212 : a.tmps.getD 212 undef = .bool true := hA ⟨32, .data⟩ (by simp) rfl
                refine Does.plain rfl ?_
                unfold yieldsK
                go_simp
                exact ⟨rfl, Keep.refl _ _⟩
              by_cases h34 : i = 34
              · subst h34
                simp only [List.getElem?_toArray, List.getElem?_cons_zero, List.getElem?_cons_succ, Option.some.injEq] at hoo
                subst hoo
                have e213 : a.tmps.getD 213 undef = .bool true := hA ⟨33, .data⟩ (by simp) rfl
                refine Does.plain rfl ?_
                unfold yieldsK
                go_simp
                exact ⟨rfl, Keep.refl _ _⟩
              omega
            case spec =>
              intro o a w' hoo
              simp at hoo
            case fin =>
              intro a w' hF gK hA
              have e24 : a.tmps.getD 24 undef = .bool true := hA 34 (by decide)
              have ha := frameD_list (l := [180, 181, 182, 183, 184, 185, 186, 187, 188, 189, 190, 191, 192, 193, 194, 195, 196, 197, 198, 199, 200, 201, 202, 203, 204, 205, 206, 207, 208, 209, 210, 211, 212, 213, 24]) rfl hF
              rw [ha]
              simp only [List.map_cons, List.map_nil, e24]
              generalize a.tmps.getD 180 undef = u0
              generalize a.tmps.getD 181 undef = u1
              generalize a.tmps.getD 182 undef = u2
              generalize a.tmps.getD 183 undef = u3
              generalize a.tmps.getD 184 undef = u4
              generalize a.tmps.getD 185 undef = u5
              generalize a.tmps.getD 186 undef = u6
              generalize a.tmps.getD 187 undef = u7
              generalize a.tmps.getD 188 undef = u8
              generalize a.tmps.getD 189 undef = u9
              generalize a.tmps.getD 190 undef = u10
              generalize a.tmps.getD 191 undef = u11
              generalize a.tmps.getD 192 undef = u12
              generalize a.tmps.getD 193 undef = u13
              generalize a.tmps.getD 194 undef = u14
              generalize a.tmps.getD 195 undef = u15
              generalize a.tmps.getD 196 undef = u16
              generalize a.tmps.getD 197 undef = u17
              generalize a.tmps.getD 198 undef = u18
              generalize a.tmps.getD 199 undef = u19
              generalize a.tmps.getD 200 undef = u20
              generalize a.tmps.getD 201 undef = u21
              generalize a.tmps.getD 202 undef = u22
              generalize a.tmps.getD 203 undef = u23
              generalize a.tmps.getD 204 undef = u24
              generalize a.tmps.getD 205 undef = u25
              generalize a.tmps.getD 206 undef = u26
              generalize a.tmps.getD 207 undef = u27
              generalize a.tmps.getD 208 undef = u28
              generalize a.tmps.getD 209 undef = u29
              generalize a.tmps.getD 210 undef = u30
              generalize a.tmps.getD 211 undef = u31
              generalize a.tmps.getD 212 undef = u32
              generalize a.tmps.getD 213 undef = u33
              simp only [fillD, List.setIfInBounds_toArray, List.set_cons_zero, List.set_cons_succ]
              have HJ1b := Lib.hid (fun W (hk : Keep NoB w' W) => HJ1a.out W (keepN gK hk))
              have HJ2b := Lib.hid (fun W (hk : Keep NoB w' W) => HJ2a.out W (keepN gK hk))
              have HKb := Lib.hid (keepN HKo2.out gK)
              clear hA hF ha e24 HJ1a HJ2a HKo2 HMMa HQa z70 z71 qc0 qc1 a10 a11 a20 a21 gK
              go_wp2_with fail
              have HRS : Hid (Blk (w'.alloc (.cells #[.string ⟨#[]⟩, .string ⟨#[0]⟩, .string ⟨#[0, 0]⟩, .string ⟨#[65]⟩, .string ⟨#[1, 1, 3, 1, 1, 102, 0, 0, 0, 0, 1, 24]⟩, .string ⟨#[0, 1, 1, 102, 0, 0, 0, 0, 1, 24, 0]⟩, .string ⟨#[0, 2, 1, 102, 0, 0, 0, 0, 1, 24, 1, 102, 0, 0, 0, 0, 1, 24]⟩, .string ⟨#[0, 1, 1, 102, 0, 0, 0, 0, 1, 0]⟩] 9)) w'.heap.size 9 (noneL.map fun s => Value.string (V.str s)).toArray) := Blk.new w' 9 #[.string ⟨#[]⟩, .string ⟨#[0]⟩, .string ⟨#[0, 0]⟩, .string ⟨#[65]⟩, .string ⟨#[1, 1, 3, 1, 1, 102, 0, 0, 0, 0, 1, 24]⟩, .string ⟨#[0, 1, 1, 102, 0, 0, 0, 0, 1, 24, 0]⟩, .string ⟨#[0, 2, 1, 102, 0, 0, 0, 0, 1, 24, 1, 102, 0, 0, 0, 0, 1, 24]⟩, .string ⟨#[0, 1, 1, 102, 0, 0, 0, 0, 1, 0]⟩]
              have HKC := Lib.hid ((Keep.refl NoB w').alloc (.cells #[.string ⟨#[]⟩, .string ⟨#[0]⟩, .string ⟨#[0, 0]⟩, .string ⟨#[65]⟩, .string ⟨#[1, 1, 3, 1, 1, 102, 0, 0, 0, 0, 1, 24]⟩, .string ⟨#[0, 1, 1, 102, 0, 0, 0, 0, 1, 24, 0]⟩, .string ⟨#[0, 2, 1, 102, 0, 0, 0, 0, 1, 24, 1, 102, 0, 0, 0, 0, 1, 24]⟩, .string ⟨#[0, 1, 1, 102, 0, 0, 0, 0, 1, 0]⟩] 9))
              generalize w'.alloc (.cells #[.string ⟨#[]⟩, .string ⟨#[0]⟩, .string ⟨#[0, 0]⟩, .string ⟨#[65]⟩, .string ⟨#[1, 1, 3, 1, 1, 102, 0, 0, 0, 0, 1, 24]⟩, .string ⟨#[0, 1, 1, 102, 0, 0, 0, 0, 1, 24, 0]⟩, .string ⟨#[0, 2, 1, 102, 0, 0, 0, 0, 1, 24, 1, 102, 0, 0, 0, 0, 1, 24]⟩, .string ⟨#[0, 1, 1, 102, 0, 0, 0, 0, 1, 0]⟩] 9) = wS at *
              generalize w'.heap.size = sS at *
              go_loopw [25, 216] (fun bad i wr => ∃ k : Nat, k ≤ 8 ∧ i = .int .i64 k ∧ bad = .int .i64 k ∧ Hid (Keep NoB wS wr)) (fun _ i _ => 8 - (intOf i).toNat)
              case atStart => exact ⟨0, Nat.zero_le _, rfl, rfl, Keep.refl _ _⟩
              case round =>
                obtain ⟨k, hk8, rfl, rfl, HKD⟩ := hrel
                obtain ⟨wq, hwq⟩ : ∃ wq, wq = wr := ⟨_, rfl⟩
                subst hwq
                by_cases hlt : k < 8
                · have hkl : k < noneL.length := hlt
                  have d0 : wq.cell? ⟨sS, k, none⟩ = some (.string (V.str noneL[k])) := by
                    rw [(HRS.out.keep HKD.out id).cell]
                    simp [hkl]
                  have hm := List.getElem_mem hkl
                  generalize noneL[k] = sk at d0 hm
                  have hsl := none_len hm
                  have HSE := Lib.hid (sealed_any (V.str sk) sk wq rfl hsl)
                  have HDN := Lib.hid (none_dec hm)
                  have HLE : Hid (((magicL ++ sk) ++ four (sumN (magicL ++ sk))).length ≤ 200) := by
                    show _ ≤ _
                    rw [List.length_append, List.length_append, four_length, show magicL.length = 5 from rfl]; omega
                  clear hm hsl
                  generalize V.str sk = Sk at *
                  generalize (magicL ++ sk) ++ four (sumN (magicL ++ sk)) = bk at *
                  go_wp2_with fail
                  refine HSE.out.mono ?_
                  rintro e wE ⟨AE, nE, cE, rfl, hnE, hrE, hcE, hmE, kE⟩
                  have HDE := Lib.hid (decode_no AE bk nE cE wE hrE hnE.symm hcE hmE (by have := HLE.out; omega) 80 HDN.out)
                  have HKE := Lib.hid (keepN HKD.out kE)
                  clear hnE hrE hcE hmE kE d0 HSE HKD
                  go_wp2_with fail
                  refine HDE.out.mono ?_
                  rintro e wF ⟨XF, YF, cxF, cyF, rfl, kF⟩
                  have bF := Blk.new wF 25 #[.slice XF 0 cxF, .slice YF 0 cyF]
                  have HKF := Lib.hid (keepN HKE.out (keepN kF ((Keep.refl NoB wF).alloc (.cells #[.slice XF 0 cxF, .slice YF 0 cyF] 25))))
                  obtain ⟨r0, r1⟩ := blk2 (v := ⟨XF, 0, cxF, YF, 0, cyF⟩) bF
                  dsimp only at r0 r1
                  clear bF kF HKE HDE
                  go_wp2
                  go_roundw
                  case rel => exact ⟨k + 1, by omega, by go_num, by go_num, HKF.out⟩
                  case measure => simp [intOf]; omega
                · obtain rfl : k = 8 := by omega
                  rw [show ((8 : Nat) : Int) = 8 from rfl]
                  have kq0 := keepN HKC.out HKD.out
                  have HKq := Lib.hid (keepN HKb.out kq0)
                  have HJ1c := Lib.hid (fun W (hk : Keep NoB wq W) => HJ1b.out W (keepN kq0 hk))
                  have HJ2c := Lib.hid (fun W (hk : Keep NoB wq W) => HJ2b.out W (keepN kq0 hk))
                  clear HKC HKD HKb HJ1b HJ2b kq0 HRS hlt hk8
                  have a10 : wq.cell? ⟨w6.heap.size, 0, none⟩ = some (.slice (some ⟨w.heap.size + 1 + 1, 0, none⟩) 2 2) := (HJ1c.out _ (Keep.refl _ _)).b.cell 0
                  have a11 : wq.cell? ⟨w6.heap.size, 1, none⟩ = some (.slice A6 2 c6) := (HJ1c.out _ (Keep.refl _ _)).b.cell 1
                  have HF1 := Lib.hid (find_any ⟨some ⟨w.heap.size + 1 + 1, 0, none⟩, 2, 2, A6, 2, c6⟩ [(⟨some ⟨w.heap.size, 0, none⟩, 2, 2⟩, [1, 2]), (⟨some ⟨w.heap.size + 1, 0, none⟩, 1, 1⟩, [3])] [(oneV w3.heap.size ⟨#[97]⟩, oneF ⟨#[97]⟩), (oneV w4.heap.size ⟨#[98]⟩, oneF ⟨#[98]⟩)] ⟨#[98]⟩ _ wq (HJ1c.out _ (Keep.refl _ _)).i (by show (2 : Nat) ≤ 1000; omega) rfl)
                  rw [show (imOf [] [(oneV w3.heap.size ⟨#[97]⟩, oneF ⟨#[97]⟩), (oneV w4.heap.size ⟨#[98]⟩, oneF ⟨#[98]⟩)]).fn = [fA, fB] from rfl, show (⟨#[98]⟩ : ByteArray).data.toList = [98] from rfl, find_b.1, find_b.2] at HF1
                  go_wp2_with fail
                  refine HF1.out.mono ?_
                  rintro e x1 ⟨rfl, gK⟩
                  clear a10 a11 HF1
                  have a20 : x1.cell? ⟨w10.heap.size, 0, none⟩ = some (.slice none 0 0) := (HJ2c.out _ gK).b.cell 0
                  have a21 : x1.cell? ⟨w10.heap.size, 1, none⟩ = some (.slice A10 2 c10) := (HJ2c.out _ gK).b.cell 1
                  have HF2 := Lib.hid (find_any ⟨none, 0, 0, A10, 2, c10⟩ [] [(oneV w7.heap.size ⟨#[97]⟩, oneF ⟨#[97]⟩), (oneV w8.heap.size ⟨#[97]⟩, oneF ⟨#[97]⟩)] ⟨#[97]⟩ _ x1 (HJ2c.out _ gK).i (by show (2 : Nat) ≤ 1000; omega) rfl)
                  rw [show (imOf [] [(oneV w7.heap.size ⟨#[97]⟩, oneF ⟨#[97]⟩), (oneV w8.heap.size ⟨#[97]⟩, oneF ⟨#[97]⟩)]).fn = [fA, fA] from rfl, show (⟨#[97]⟩ : ByteArray).data.toList = [97] from rfl, find_a.1, find_a.2] at HF2
                  go_wp2_with fail
                  refine HF2.out.mono ?_
                  rintro e x2 ⟨rfl, k2⟩
                  replace gK := keepN gK k2
                  clear a20 a21 HF2 k2
                  have a10 : x2.cell? ⟨w6.heap.size, 0, none⟩ = some (.slice (some ⟨w.heap.size + 1 + 1, 0, none⟩) 2 2) := (HJ1c.out _ gK).b.cell 0
                  have a11 : x2.cell? ⟨w6.heap.size, 1, none⟩ = some (.slice A6 2 c6) := (HJ1c.out _ gK).b.cell 1
                  have HF3 := Lib.hid (find_any ⟨some ⟨w.heap.size + 1 + 1, 0, none⟩, 2, 2, A6, 2, c6⟩ [(⟨some ⟨w.heap.size, 0, none⟩, 2, 2⟩, [1, 2]), (⟨some ⟨w.heap.size + 1, 0, none⟩, 1, 1⟩, [3])] [(oneV w3.heap.size ⟨#[97]⟩, oneF ⟨#[97]⟩), (oneV w4.heap.size ⟨#[98]⟩, oneF ⟨#[98]⟩)] ⟨#[99]⟩ _ x2 (HJ1c.out _ gK).i (by show (2 : Nat) ≤ 1000; omega) rfl)
                  rw [show (imOf [] [(oneV w3.heap.size ⟨#[97]⟩, oneF ⟨#[97]⟩), (oneV w4.heap.size ⟨#[98]⟩, oneF ⟨#[98]⟩)]).fn = [fA, fB] from rfl, show (⟨#[99]⟩ : ByteArray).data.toList = [99] from rfl, find_c.1, find_c.2] at HF3
                  go_wp2_with fail
                  refine HF3.out.mono ?_
                  rintro e x3 ⟨rfl, k3⟩
                  replace gK := keepN gK k3
                  clear a10 a11 HF3 k3
                  have a10 : x3.cell? ⟨w6.heap.size, 0, none⟩ = some (.slice (some ⟨w.heap.size + 1 + 1, 0, none⟩) 2 2) := (HJ1c.out _ gK).b.cell 0
                  have a11 : x3.cell? ⟨w6.heap.size, 1, none⟩ = some (.slice A6 2 c6) := (HJ1c.out _ gK).b.cell 1
                  have HCX := Lib.hid (context_any ⟨some ⟨w.heap.size + 1 + 1, 0, none⟩, 2, 2, A6, 2, c6⟩ [(⟨some ⟨w.heap.size, 0, none⟩, 2, 2⟩, [1, 2]), (⟨some ⟨w.heap.size + 1, 0, none⟩, 1, 1⟩, [3])] [(oneV w3.heap.size ⟨#[97]⟩, oneF ⟨#[97]⟩), (oneV w4.heap.size ⟨#[98]⟩, oneF ⟨#[98]⟩)] x3 (HJ1c.out _ gK).i HSQ.out.2.1.fn (by show (2 : Nat) ≤ 1000; omega))
                  go_wp2_with fail
                  refine HCX.out.mono ?_
                  rintro e x4 ⟨Xc, cxc, gcs, rfl, -, -, -, k4⟩
                  have bc := Blk.new x4 52 #[.slice Xc 2 cxc, .int .i64 2]
                  have kA := (Keep.refl NoB x4).alloc (.cells #[.slice Xc 2 cxc, .int .i64 2] 52)
                  have HBC := Lib.hid (And.intro bc (keepN gK (keepN k4 kA)))
                  clear bc kA k4 gK a10 a11 HCX HSQ HME HJ1c HJ2c
                  go_wp2_with fail
                  refine (alive_any _).mono ?_
                  rintro e x5 ⟨rfl, k5⟩
                  have hb5 := HBC.out.1.keep k5 id
                  have r0 : x5.cell? ⟨x4.heap.size, 0, none⟩ = some (.slice Xc 2 cxc) := hb5.cell 0
                  have r1 : x5.cell? ⟨x4.heap.size, 1, none⟩ = some (.int .i64 2) := hb5.cell 1
                  have HKF := Lib.hid (keepN HKq.out (keepN HBC.out.2 k5))
                  clear hb5 HBC k5 HKq
                  go_wp2
                  go_ret
                  exact ⟨rfl, HKF.out⟩

end Go.Proofs.YtgifflfjhockaaaGreatDoor.I
