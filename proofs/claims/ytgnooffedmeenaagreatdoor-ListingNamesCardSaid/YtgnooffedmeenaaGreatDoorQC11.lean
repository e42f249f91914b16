/-
  Part 11 of the proofs of LNamesRow, LOneRow: what is laid, and what the functions that the law runs answer. Conditions: each theorem names its own.
-/
import Derived.Test.YtgnooffedmeenaaGreatDoorQC10
namespace Go.Proofs.YtgnooffedmeenaaGreatDoor.M.L
open Go.RowKit W

def namedH (v : I.IV) (b b1 b2 : Nat) : SH := ⟨v, some b, 77, #[.pointer (some ⟨b1, 0, none⟩), .pointer (some ⟨b2, 0, none⟩)], 90, #[]⟩

set_option maxRecDepth 100000 in
set_option maxHeartbeats 4000000 in
theorem numbered_any (v : I.IV) (es : List I.SE) (fs : List I.FE) (w : World) (h : I.ImAt w v es fs) (hl : I.LgI v es fs) :
  Calls Tryz.prog 43 #[v.val] w fun e w' => e = .returned (numbH (cutV (I.okI (I.imOf es fs)) v)).val ∧ Keep NoB w w' := by
 have HC := Lib.hid (fun W (hk : Keep NoB w W) => plain_any v es fs W (h.keepN hk) hl)
 have hB := (Blk.new w 25 v.cells).alloc (.cells #[.slice none 0 0, .slice none 0 0, .map none, .nilFunc, .nilFunc] 72)
 have hS := Blk.new (w.alloc (.cells v.cells 25)) 72 #[.slice none 0 0, .slice none 0 0, .map none, .nilFunc, .nilFunc]
 have k0 := ((Keep.refl NoB w).alloc (.cells v.cells 25)).alloc (.cells #[.slice none 0 0, .slice none 0 0, .map none, .nilFunc, .nilFunc] 72)
 rw [World.size_alloc] at hS
 clear h hl
 generalize cutV (I.okI (I.imOf es fs)) v = u at *
 obtain ⟨X, nx, cx, Y, ny, cy⟩ := v
 obtain ⟨X', nx', cx', Y', ny', cy'⟩ := u
 dsimp only [I.IV.val, I.IV.cells, plainH, numbH, SH.val, SH.cells] at *
 have c0 := hB.cell 0
 have c1 := hB.cell 1
 simp only [List.getElem?_toArray, List.getElem?_cons_zero, List.getElem?_cons_succ] at c0 c1
 go_enter Tryz.func43, Tryz.ntmps43
 go_wp2_with fail
 refine (HC.out _ k0).mono ?_
 rintro e w1 ⟨rfl, k1⟩
 have hK1 := keepN k0 k1
 have hS1 := hS.keep k1 id
 have hS2 := hS1.alloc (.cells #[.slice X' nx' cx', .slice Y' ny' cy', .map none, .func (.func 89) #[] #[], .func (.func 90) #[] #[]] 72)
 have hT2 := Blk.new w1 72 #[.slice X' nx' cx', .slice Y' ny' cy', .map none, .func (.func 89) #[] #[], .func (.func 90) #[] #[]]
 have hK2 := hK1.alloc (.cells #[.slice X' nx' cx', .slice Y' ny' cy', .map none, .func (.func 89) #[] #[], .func (.func 90) #[] #[]] 72)
 generalize hW2 : w1.alloc (.cells #[.slice X' nx' cx', .slice Y' ny' cy', .map none, .func (.func 89) #[] #[], .func (.func 90) #[] #[]] 72) = W2 at *
 have hz : w.heap.size + 1 < w1.heap.size := hS1.lt
 have hne : w.heap.size + 1 ≠ w1.heap.size := by omega
 have t0 := hT2.cell 0
 have t1 := hT2.cell 1
 have t2 := hT2.cell 2
 have t3 := hT2.cell 3
 have t4 := hT2.cell 4
 simp only [List.getElem?_toArray, List.getElem?_cons_zero, List.getElem?_cons_succ] at t0 t1 t2 t3 t4
 have f2 := fun i => hT2.frozen i
 have l2 := hT2.lt
 have hT3 := hT2.put 4 (.func (.func 91) #[] #[])
 have hS3 := hS2.far (p := ⟨w1.heap.size, 4, none⟩) hne (.func (.func 91) #[] #[])
 have hK3 : Keep NoB w (W2.setCell ⟨w1.heap.size, 4, none⟩ (.func (.func 91) #[] #[])) := hK2.setCell (p := ⟨w1.heap.size, 4, none⟩) (fun h => absurd h (by show ¬ w1.heap.size < w.heap.size; omega)) _
 simp only [List.setIfInBounds_toArray, List.set_cons_zero, List.set_cons_succ] at hT3
 generalize hW3 : W2.setCell ⟨w1.heap.size, 4, none⟩ (.func (.func 91) #[] #[]) = W3 at *
 have u0 := hT3.cell 0
 have u1 := hT3.cell 1
 have u2 := hT3.cell 2
 have u3 := hT3.cell 3
 have u4 := hT3.cell 4
 simp only [List.getElem?_toArray, List.getElem?_cons_zero, List.getElem?_cons_succ] at u0 u1 u2 u3 u4
 have s0 := hS3.cell 0
 have s1 := hS3.cell 1
 have s2 := hS3.cell 2
 have s3 := hS3.cell 3
 have s4 := hS3.cell 4
 simp only [List.getElem?_toArray, List.getElem?_cons_zero, List.getElem?_cons_succ] at s0 s1 s2 s3 s4
 have f3 := fun i => hS3.frozen i
 have l3 := hS3.lt
 have HS3 := Lib.hid (sheet_put hS3 (.slice X' nx' cx') (.slice Y' ny' cy') (.map none) (.func (.func 89) #[] #[]) (.func (.func 91) #[] #[]))
 have HK3 := Lib.hid (sheet_keep hK3 (.slice X' nx' cx') (.slice Y' ny' cy') (.map none) (.func (.func 89) #[] #[]) (.func (.func 91) #[] #[]) (by omega : w.heap.size ≤ w.heap.size + 1))
 clear hB hS k0 k1 hK1 hK2 hK3 hS1 hS2 hS3 hT2 hT3 c0 c1 HC
 go_wp2
 have b3 := HS3.out
 have o0 := b3.cell 0
 have o1 := b3.cell 1
 have o2 := b3.cell 2
 have o3 := b3.cell 3
 have o4 := b3.cell 4
 simp only [List.getElem?_toArray, List.getElem?_cons_zero, List.getElem?_cons_succ] at o0 o1 o2 o3 o4
 refine bodyPost_ret (v := .agg #[.slice X' nx' cx', .slice Y' ny' cy', .map none, .func (.func 89) #[] #[], .func (.func 91) #[] #[]]) (by simp [results, Tryz.results43, go_sem, o0, o1, o2, o3, o4]) rfl ?_
 exact ⟨rfl, HK3.out⟩

def SNd (m b3 : Nat) (X' : Option Addr) (nx' cx' : Nat) (Y' : Option Addr) (ny' cy' : Nat) (p : I.Im) : Nat → Value → World → Prop
 | 0 => fun u _ => u = .pointer (some ⟨b3, 0, none⟩)
 | 1 => fun u _ => u = .pointer (some ⟨b3, 1, none⟩)
 | 2 => fun u _ => u = .slice Y' ny' cy'
 | 3 => fun u _ => u = .pointer (some ⟨b3, 0, none⟩)
 | 4 => fun u _ => u = .agg #[.slice X' nx' cx', .slice Y' ny' cy']
 | 5 => fun u W => ∃ b n, u = .map (some b) ∧ PM b n (labF p) W ∧ m ≤ b
 | 6 => fun u W => ∃ g, u = .pointer (some ⟨g, 0, none⟩) ∧ m ≤ g ∧ Blk W g 23 #[.slice none 0 0]
 | 7 => fun u W => ∃ g, u = .pointer (some ⟨g, 0, none⟩) ∧ m ≤ g ∧ Blk W g 69 #[.map none]
 | _ => fun _ _ => True
theorem SNd_stable (m b3 : Nat) (X' : Option Addr) (nx' cx' : Nat) (Y' : Option Addr) (ny' cy' : Nat) (p : I.Im) : ∀ i u W W', SNd m b3 X' nx' cx' Y' ny' cy' p i u W → Keep NoB W W' → SNd m b3 X' nx' cx' Y' ny' cy' p i u W'
 | 0, _, _, _, h, _ | 1, _, _, _, h, _ | 2, _, _, _, h, _ | 3, _, _, _, h, _ | 4, _, _, _, h, _ => h
 | 5, _, _, _, ⟨b, n, e, h1, h2⟩, hk => ⟨b, n, e, h1.keep hk id, h2⟩
 | 6, _, _, _, ⟨g, e, hm, hb⟩, hk => ⟨g, e, hm, hb.keep hk id⟩
 | 7, _, _, _, ⟨g, e, hm, hb⟩, hk => ⟨g, e, hm, hb.keep hk id⟩
 | _ + 8, _, _, _, h, _ => h


theorem sheet_other {W : World} {b g4 g5 bm n : Nat} {T : TypeId} {cs c4 c5 : Array Value} {T4 T5 : TypeId} {f : Int → Int → Option Nat} (_h : Blk W b T cs) (h4 : Blk W g4 T4 c4) (h5 : Blk W g5 T5 c5) (hm : PM bm n f W) (e4 : g4 ≠ b) (e5 : g5 ≠ b) (em : bm ≠ b) (u0 u1 u2 u3 u4 : Value) :
  PM bm n f (sheetW W b u0 u1 u2 u3 u4) ∧ Blk (sheetW W b u0 u1 u2 u3 u4) g5 T5 c5 ∧ Blk (sheetW W b u0 u1 u2 u3 u4) g4 T4 c4 := by
 have key : ∀ k, k ≠ b → (sheetW W b u0 u1 u2 u3 u4).heap[k]? = W.heap[k]? := fun k hk =>
  (Below.heap_setCell _ ⟨b, 4, none⟩ _ _ hk).trans ((Below.heap_setCell _ ⟨b, 3, none⟩ _ _ hk).trans ((Below.heap_setCell _ ⟨b, 2, none⟩ _ _ hk).trans ((Below.heap_setCell _ ⟨b, 1, none⟩ _ _ hk).trans (Below.heap_setCell _ ⟨b, 0, none⟩ _ _ hk))))
 exact ⟨hm.same (key _ em), (key _ e5).trans h5, (key _ e4).trans h4⟩

set_option maxRecDepth 100000 in
set_option maxHeartbeats 8000000 in
theorem named_raw (v : I.IV) (es : List I.SE) (fs : List I.FE) (w : World) (h : I.ImAt w v es fs) (hl : I.LgI v es fs) (u : I.IV) (p : I.Im) (hu : Hid (cutV (I.okI (I.imOf es fs)) v = u))
  (HLB0 : Hid (∀ W, Keep NoB w W → Calls Tryz.prog 76 #[u.val] W fun e w' => ∃ b n, e = .returned (.map (some b)) ∧ PM b n (labF p) w' ∧ W.heap.size ≤ b ∧ Keep NoB W w')) :
  Calls Tryz.prog 39 #[v.val] w fun e w' => ∃ b n b1 b2, e = .returned (namedH u b b1 b2).val ∧ (PM b n (labF p) w' ∧ Blk w' b1 69 #[.map (some b)] ∧ Blk w' b2 23 #[.slice u.Y u.ny u.cy]) ∧ (w.heap.size ≤ b ∧ w.heap.size ≤ b1 ∧ w.heap.size ≤ b2) ∧ Keep NoB w w' := by
 have HC := Lib.hid (fun W (hk : Keep NoB w W) => plain_any v es fs W (h.keepN hk) hl)
 have hB := (Blk.new w 25 v.cells).alloc (.cells #[.slice none 0 0, .slice none 0 0, .map none, .nilFunc, .nilFunc] 72)
 have hS := Blk.new (w.alloc (.cells v.cells 25)) 72 #[.slice none 0 0, .slice none 0 0, .map none, .nilFunc, .nilFunc]
 have k0 := ((Keep.refl NoB w).alloc (.cells v.cells 25)).alloc (.cells #[.slice none 0 0, .slice none 0 0, .map none, .nilFunc, .nilFunc] 72)
 rw [World.size_alloc] at hS
 rw [hu.out] at HC
 clear h hl hu
 obtain ⟨X, nx, cx, Y, ny, cy⟩ := v
 obtain ⟨X', nx', cx', Y', ny', cy'⟩ := u
 dsimp only [I.IV.val, I.IV.cells, plainH, namedH, SH.val, SH.cells] at *
 have c0 := hB.cell 0
 have c1 := hB.cell 1
 simp only [List.getElem?_toArray, List.getElem?_cons_zero, List.getElem?_cons_succ] at c0 c1
 go_enter Tryz.func39, Tryz.ntmps39
 go_wp2_with fail
 refine (HC.out _ k0).mono ?_
 rintro e w1 ⟨rfl, k1⟩
 have hK1 := keepN k0 k1
 have hS1 := hS.keep k1 id
 have hS2 := hS1.alloc (.cells #[.slice X' nx' cx', .slice Y' ny' cy', .map none, .func (.func 89) #[] #[], .func (.func 90) #[] #[]] 72)
 have hT2 := Blk.new w1 72 #[.slice X' nx' cx', .slice Y' ny' cy', .map none, .func (.func 89) #[] #[], .func (.func 90) #[] #[]]
 have hK2 := hK1.alloc (.cells #[.slice X' nx' cx', .slice Y' ny' cy', .map none, .func (.func 89) #[] #[], .func (.func 90) #[] #[]] 72)
 have t0 := hT2.cell 0
 have t1 := hT2.cell 1
 have t2 := hT2.cell 2
 have t3 := hT2.cell 3
 have t4 := hT2.cell 4
 simp only [List.getElem?_toArray, List.getElem?_cons_zero, List.getElem?_cons_succ] at t0 t1 t2 t3 t4
 clear hB hS k0 k1 hK1 c0 c1 HC
 go_wp2_with fail
 generalize hW2 : w1.alloc (.cells #[.slice X' nx' cx', .slice Y' ny' cy', .map none, .func (.func 89) #[] #[], .func (.func 90) #[] #[]] 72) = W2 at *
 clear hW2
 have HLB := Lib.hid (fun W (hk : Keep NoB W2 W) => HLB0.out W (keepN hK2 hk))
 clear HLB0
 refine wp_region_tail (fun i => [8, 9, 10, 11, 12, 13, 4, 5].getD i 0) 8 (by kernel_rfl) (by kernel_rfl) (by kernel_rfl) (by kernel_rfl) (by kernel_rfl) (SNd W2.heap.size w1.heap.size X' nx' cx' Y' ny' cy' p) (fun i u x y h hk => SNd_stable _ _ _ _ _ _ _ _ _ i u x y h hk) rfl ?step ?fin
 case step =>
  intro i o a w' hoo hi hF hK hA
  by_cases h0 : i = 0
  ·subst h0
   simp only [List.getElem?_toArray, List.getElem?_cons_zero, Option.some.injEq] at hoo
   subst hoo
   have e3 : a.tmps.getD 3 undef = .pointer (some ⟨w1.heap.size, 0, none⟩) := hF.2.2 3 (by decide)
   refine Does.plain rfl ?_
   unfold yieldsK
   go_simp
   exact ⟨rfl, Keep.refl _ _⟩
  by_cases h1 : i = 1
  ·subst h1
   simp only [List.getElem?_toArray, List.getElem?_cons_zero, List.getElem?_cons_succ, Option.some.injEq] at hoo
   subst hoo
   have e8 : a.tmps.getD 8 undef = .pointer (some ⟨w1.heap.size, 0, none⟩) := hA ⟨0, .data⟩ (by simp) rfl
   refine Does.plain rfl ?_
   unfold yieldsK
   go_simp
   exact ⟨rfl, Keep.refl _ _⟩
  by_cases h2 : i = 2
  ·subst h2
   simp only [List.getElem?_toArray, List.getElem?_cons_zero, List.getElem?_cons_succ, Option.some.injEq] at hoo
   subst hoo
   have e9 : a.tmps.getD 9 undef = .pointer (some ⟨w1.heap.size, 1, none⟩) := hA ⟨1, .data⟩ (by simp) rfl
   have c1 := Keep.cell hK t1 id
   refine Does.plain rfl ?_
   unfold yieldsK
   go_simp
   exact ⟨rfl, Keep.refl _ _⟩
  by_cases h3 : i = 3
  ·subst h3
   simp only [List.getElem?_toArray, List.getElem?_cons_zero, List.getElem?_cons_succ, Option.some.injEq] at hoo
   subst hoo
   have e3 : a.tmps.getD 3 undef = .pointer (some ⟨w1.heap.size, 0, none⟩) := hF.2.2 3 (by decide)
   refine Does.plain rfl ?_
   unfold yieldsK
   go_simp
   exact ⟨rfl, Keep.refl _ _⟩
  by_cases h4 : i = 4
  ·subst h4
   simp only [List.getElem?_toArray, List.getElem?_cons_zero, List.getElem?_cons_succ, Option.some.injEq] at hoo
   subst hoo
   have e11 : a.tmps.getD 11 undef = .pointer (some ⟨w1.heap.size, 0, none⟩) := hA ⟨3, .data⟩ (by simp) rfl
   have c0 := Keep.cell hK t0 id
   have c1 := Keep.cell hK t1 id
   refine Does.plain rfl ?_
   unfold yieldsK
   go_simp
   exact ⟨rfl, Keep.refl _ _⟩
  by_cases h5 : i = 5
  ·subst h5
   simp only [List.getElem?_toArray, List.getElem?_cons_zero, List.getElem?_cons_succ, Option.some.injEq] at hoo
   subst hoo
   have e12 : a.tmps.getD 12 undef = (.agg #[.slice X' nx' cx', .slice Y' ny' cy'] : Value) := hA ⟨4, .data⟩ (by simp) rfl
   refine Does.plain rfl ?_
   unfold yieldsK
   go_simp
   refine (HLB.out w' hK).mono ?_
   rintro e w9 ⟨b, n, rfl, hpm, hb, hk9⟩
   have hks := hK.size
   exact ⟨_, rfl, ⟨b, n, rfl, hpm, by omega⟩, hk9⟩
  by_cases h6 : i = 6
  ·subst h6
   simp only [List.getElem?_toArray, List.getElem?_cons_zero, List.getElem?_cons_succ, Option.some.injEq] at hoo
   subst hoo
   refine Does.plain rfl ?_
   unfold yieldsK
   go_simp
   exact ⟨⟨w'.heap.size, rfl, hK.size, Blk.new _ _ _⟩, (Keep.refl _ _).alloc _⟩
  by_cases h7 : i = 7
  ·subst h7
   simp only [List.getElem?_toArray, List.getElem?_cons_zero, List.getElem?_cons_succ, Option.some.injEq] at hoo
   subst hoo
   refine Does.plain rfl ?_
   unfold yieldsK
   go_simp
   exact ⟨⟨w'.heap.size, rfl, hK.size, Blk.new _ _ _⟩, (Keep.refl _ _).alloc _⟩
  omega
 case fin =>
  intro a w' hF gK hA
  obtain ⟨b, n, e13, hpm, hb⟩ := hA 5 (by decide)
  have e13 : a.tmps.getD 13 undef = .map (some b) := e13
  have e10 : a.tmps.getD 10 undef = .slice Y' ny' cy' := hA 2 (by decide)
  obtain ⟨g4, e4, hg4, b4⟩ := hA 6 (by decide)
  have e4 : a.tmps.getD 4 undef = .pointer (some ⟨g4, 0, none⟩) := e4
  obtain ⟨g5, e5, hg5, b5⟩ := hA 7 (by decide)
  have e5 : a.tmps.getD 5 undef = .pointer (some ⟨g5, 0, none⟩) := e5
  have ha := frameD_list (l := [8, 9, 10, 11, 12, 13, 4, 5]) rfl hF
  rw [ha]
  simp only [List.map_cons, List.map_nil, e10, e13, e4, e5]
  generalize a.tmps.getD 8 undef = u0
  generalize a.tmps.getD 9 undef = u1
  generalize a.tmps.getD 11 undef = u3
  generalize a.tmps.getD 12 undef = u4
  simp only [fillD, List.setIfInBounds_toArray, List.set_cons_zero, List.set_cons_succ]
  have hne : g5 ≠ g4 := fun e => by subst e; have h1 : _ = _ := b4; have h2 : _ = _ := b5; rw [h1] at h2; cases h2
  have hzW : w1.heap.size < W2.heap.size := hT2.lt
  have hzw : w.heap.size + 1 < w1.heap.size := hS1.lt
  have hb4n : b ≠ g4 := fun e => by subst e; obtain ⟨es, cc, h1⟩ := hpm.obj; have h2 : _ = _ := b4; rw [h1] at h2; cases h2
  have hb5n : b ≠ g5 := fun e => by subst e; obtain ⟨es, cc, h1⟩ := hpm.obj; have h2 : _ = _ := b5; rw [h1] at h2; cases h2
  have hT' := hT2.keep gK id
  have hS' := hS2.keep gK id
  have hKw := keepN hK2 gK
  have x4 := b4.cell 0
  have x5 := b5.cell 0
  simp only [List.getElem?_toArray, List.getElem?_cons_zero] at x4 x5
  have y4 := fun i => b4.frozen i
  have y5 := fun i => b5.frozen i
  have z4 := b4.lt
  have z5 := b5.lt
  obtain ⟨W4, hW4⟩ : ∃ W4, w'.setCell ⟨g4, 0, none⟩ (.slice Y' ny' cy') = W4 := ⟨_, rfl⟩
  have b4' : Blk W4 g4 23 #[.slice Y' ny' cy'] := by rw [← hW4]; exact b4.put 0 _
  have b5' : Blk W4 g5 69 #[.map none] := by rw [← hW4]; exact b5.far (p := ⟨g4, 0, none⟩) hne _
  have pm4 : PM b n (labF p) W4 := by rw [← hW4]; exact hpm.same (Below.heap_setCell _ _ _ _ hb4n)
  have hT4 : Blk W4 w1.heap.size 72 #[.slice X' nx' cx', .slice Y' ny' cy', .map none, .func (.func 89) #[] #[], .func (.func 90) #[] #[]] := by rw [← hW4]; exact hT'.far (p := ⟨g4, 0, none⟩) (by show w1.heap.size ≠ g4; omega) _
  have hS4 : Blk W4 (w.heap.size + 1) 72 #[.slice none 0 0, .slice none 0 0, .map none, .nilFunc, .nilFunc] := by rw [← hW4]; exact hS'.far (p := ⟨g4, 0, none⟩) (by show w.heap.size + 1 ≠ g4; omega) _
  have hK4 : Keep NoB w W4 := by rw [← hW4]; exact hKw.setCell (p := ⟨g4, 0, none⟩) (fun h => absurd h (by show ¬ g4 < w.heap.size; omega)) _
  have v5 := fun i => b5'.frozen i
  have u5 := b5'.cell 0
  simp only [List.getElem?_toArray, List.getElem?_cons_zero] at u5
  have w5 := b5'.lt
  obtain ⟨W5, hW5⟩ : ∃ W5, W4.setCell ⟨g5, 0, none⟩ (.map (some b)) = W5 := ⟨_, rfl⟩
  have b4'' : Blk W5 g4 23 #[.slice Y' ny' cy'] := by rw [← hW5]; exact b4'.far (p := ⟨g5, 0, none⟩) (fun e => hne e.symm) _
  have b5'' : Blk W5 g5 69 #[.map (some b)] := by rw [← hW5]; exact b5'.put 0 _
  have pm5 : PM b n (labF p) W5 := by rw [← hW5]; exact pm4.same (Below.heap_setCell _ _ _ _ hb5n)
  have hT5 : Blk W5 w1.heap.size 72 #[.slice X' nx' cx', .slice Y' ny' cy', .map none, .func (.func 89) #[] #[], .func (.func 90) #[] #[]] := by rw [← hW5]; exact hT4.far (p := ⟨g5, 0, none⟩) (by show w1.heap.size ≠ g5; omega) _
  have hS5 : Blk W5 (w.heap.size + 1) 72 #[.slice none 0 0, .slice none 0 0, .map none, .nilFunc, .nilFunc] := by rw [← hW5]; exact hS4.far (p := ⟨g5, 0, none⟩) (by show w.heap.size + 1 ≠ g5; omega) _
  have hK5 : Keep NoB w W5 := by rw [← hW5]; exact hK4.setCell (p := ⟨g5, 0, none⟩) (fun h => absurd h (by show ¬ g5 < w.heap.size; omega)) _
  have m5 := b5''.cell 0
  simp only [List.getElem?_toArray, List.getElem?_cons_zero] at m5
  have tf5 := fun i => hT5.frozen i
  have tl5 := hT5.lt
  have tc5 := hT5.cell 2
  have td5 := hT5.cell 3
  simp only [List.getElem?_toArray, List.getElem?_cons_zero, List.getElem?_cons_succ] at tc5 td5
  obtain ⟨W6, hW6⟩ : ∃ W6, W5.setCell ⟨w1.heap.size, 2, none⟩ (.map (some b)) = W6 := ⟨_, rfl⟩
  have b4_6 : Blk W6 g4 23 #[.slice Y' ny' cy'] := by rw [← hW6]; exact b4''.far (p := ⟨w1.heap.size, 2, none⟩) (by show g4 ≠ w1.heap.size; omega) _
  have b5_6 : Blk W6 g5 69 #[.map (some b)] := by rw [← hW6]; exact b5''.far (p := ⟨w1.heap.size, 2, none⟩) (by show g5 ≠ w1.heap.size; omega) _
  have pm6 : PM b n (labF p) W6 := by rw [← hW6]; exact pm5.same (Below.heap_setCell _ _ _ _ (by show b ≠ w1.heap.size; omega))
  have hT6 : Blk W6 w1.heap.size 72 #[.slice X' nx' cx', .slice Y' ny' cy', .map (some b), .func (.func 89) #[] #[], .func (.func 90) #[] #[]] := by rw [← hW6]; exact hT5.put 2 _
  have hS6 : Blk W6 (w.heap.size + 1) 72 #[.slice none 0 0, .slice none 0 0, .map none, .nilFunc, .nilFunc] := by rw [← hW6]; exact hS5.far (p := ⟨w1.heap.size, 2, none⟩) (by show w.heap.size + 1 ≠ w1.heap.size; omega) _
  have hK6 : Keep NoB w W6 := by rw [← hW6]; exact hK5.setCell (p := ⟨w1.heap.size, 2, none⟩) (fun h => absurd h (by show ¬ w1.heap.size < w.heap.size; omega)) _
  have tf6 := fun i => hT6.frozen i
  have tl6 := hT6.lt
  have td6 := hT6.cell 3
  simp only [List.getElem?_toArray, List.getElem?_cons_zero, List.getElem?_cons_succ] at td6
  obtain ⟨W7, hW7⟩ : ∃ W7, W6.setCell ⟨w1.heap.size, 3, none⟩ (.func (.func 77) #[] #[.pointer (some ⟨g5, 0, none⟩), .pointer (some ⟨g4, 0, none⟩)]) = W7 := ⟨_, rfl⟩
  have b4_7 : Blk W7 g4 23 #[.slice Y' ny' cy'] := by rw [← hW7]; exact b4_6.far (p := ⟨w1.heap.size, 3, none⟩) (by show g4 ≠ w1.heap.size; omega) _
  have b5_7 : Blk W7 g5 69 #[.map (some b)] := by rw [← hW7]; exact b5_6.far (p := ⟨w1.heap.size, 3, none⟩) (by show g5 ≠ w1.heap.size; omega) _
  have pm7 : PM b n (labF p) W7 := by rw [← hW7]; exact pm6.same (Below.heap_setCell _ _ _ _ (by show b ≠ w1.heap.size; omega))
  have hT7 : Blk W7 w1.heap.size 72 #[.slice X' nx' cx', .slice Y' ny' cy', .map (some b), .func (.func 77) #[] #[.pointer (some ⟨g5, 0, none⟩), .pointer (some ⟨g4, 0, none⟩)], .func (.func 90) #[] #[]] := by rw [← hW7]; exact hT6.put 3 _
  have hS7 : Blk W7 (w.heap.size + 1) 72 #[.slice none 0 0, .slice none 0 0, .map none, .nilFunc, .nilFunc] := by rw [← hW7]; exact hS6.far (p := ⟨w1.heap.size, 3, none⟩) (by show w.heap.size + 1 ≠ w1.heap.size; omega) _
  have hK7 : Keep NoB w W7 := by rw [← hW7]; exact hK6.setCell (p := ⟨w1.heap.size, 3, none⟩) (fun h => absurd h (by show ¬ w1.heap.size < w.heap.size; omega)) _
  have p0 := hT7.cell 0
  have p1 := hT7.cell 1
  have p2 := hT7.cell 2
  have p3 := hT7.cell 3
  have p4 := hT7.cell 4
  simp only [List.getElem?_toArray, List.getElem?_cons_zero, List.getElem?_cons_succ] at p0 p1 p2 p3 p4
  have q0 := hS7.cell 0
  have q1 := hS7.cell 1
  have q2 := hS7.cell 2
  have q3 := hS7.cell 3
  have q4 := hS7.cell 4
  simp only [List.getElem?_toArray, List.getElem?_cons_zero, List.getElem?_cons_succ] at q0 q1 q2 q3 q4
  have qf := fun i => hS7.frozen i
  have ql := hS7.lt
  have HS8 := Lib.hid (sheet_put hS7 (.slice X' nx' cx') (.slice Y' ny' cy') (.map (some b)) (.func (.func 77) #[] #[.pointer (some ⟨g5, 0, none⟩), .pointer (some ⟨g4, 0, none⟩)]) (.func (.func 90) #[] #[]))
  have HK8 := Lib.hid (sheet_keep hK7 (.slice X' nx' cx') (.slice Y' ny' cy') (.map (some b)) (.func (.func 77) #[] #[.pointer (some ⟨g5, 0, none⟩), .pointer (some ⟨g4, 0, none⟩)]) (.func (.func 90) #[] #[]) (by omega : w.heap.size ≤ w.heap.size + 1))
  have HN8 := Lib.hid (sheet_other hS7 b4_7 b5_7 pm7 (by omega) (by omega) (by omega) (.slice X' nx' cx') (.slice Y' ny' cy') (.map (some b)) (.func (.func 77) #[] #[.pointer (some ⟨g5, 0, none⟩), .pointer (some ⟨g4, 0, none⟩)]) (.func (.func 90) #[] #[]))
  have hbw : w.heap.size ≤ b ∧ w.heap.size ≤ g5 ∧ w.heap.size ≤ g4 := by omega
  clear b4 b5 hpm b4' b5' pm4 hT4 hS4 hK4 b4'' b5'' pm5 hT5 hS5 hK5 b4_6 b5_6 pm6 hT6 hS6 hK6 b4_7 b5_7 pm7 hT7 hS7 hK7 hT' hS' hKw hT2 hS2 hK2 hS1 hF gK hA HLB
  simp only [List.drop_succ_cons, List.drop_zero]
  go_wp2
  have b9 := HS8.out
  have o0 := b9.cell 0
  have o1 := b9.cell 1
  have o2 := b9.cell 2
  have o3 := b9.cell 3
  have o4 := b9.cell 4
  simp only [List.getElem?_toArray, List.getElem?_cons_zero, List.getElem?_cons_succ] at o0 o1 o2 o3 o4
  refine bodyPost_ret (v := .agg #[.slice X' nx' cx', .slice Y' ny' cy', .map (some b), .func (.func 77) #[] #[.pointer (some ⟨g5, 0, none⟩), .pointer (some ⟨g4, 0, none⟩)], .func (.func 90) #[] #[]]) (by simp [results, Tryz.results39, go_sem, o0, o1, o2, o3, o4]) rfl ?_
  exact ⟨b, n, g5, g4, rfl, HN8.out, hbw, HK8.out⟩

theorem cut_ok {w : World} {v : I.IV} {es : List I.SE} {fs : List I.FE} (h : I.ImAt w v es fs) : ImOk (I.imOf (cutE (I.okI (I.imOf es fs)) es) (cutF (I.okI (I.imOf es fs)) fs)) ∨ cutF (I.okI (I.imOf es fs)) fs = [] := by
 cases hok : I.okI (I.imOf es fs)
 ·exact .inr rfl
 ·refine .inl ⟨hok, fun f hf => ?_⟩
  obtain ⟨e, he, rfl⟩ := List.mem_map.1 hf
  exact (h.hf e he).hI
theorem named_any (v : I.IV) (es : List I.SE) (fs : List I.FE) (w : World) (h : I.ImAt w v es fs) (hl : I.LgI v es fs) :
  Calls Tryz.prog 39 #[v.val] w fun e w' => ∃ b n b1 b2, e = .returned (namedH (cutV (I.okI (I.imOf es fs)) v) b b1 b2).val ∧
   NmAt w' (I.imOf (cutE (I.okI (I.imOf es fs)) es) (cutF (I.okI (I.imOf es fs)) fs)) b n b1 b2 (cutV (I.okI (I.imOf es fs)) v).Y (cutV (I.okI (I.imOf es fs)) v).ny (cutV (I.okI (I.imOf es fs)) v).cy (cutF (I.okI (I.imOf es fs)) fs) ∧
   (w.heap.size ≤ b ∧ w.heap.size ≤ b1 ∧ w.heap.size ≤ b2) ∧ Keep NoB w w' := by
 refine (named_raw v es fs w h hl _ (I.imOf (cutE (I.okI (I.imOf es fs)) es) (cutF (I.okI (I.imOf es fs)) fs)) rfl (fun W hk => labelsOf_any _ _ _ W (cut_im (h.keepN hk)) (cut_ok h))).mono ?_
 rintro e w' ⟨b, n, b1, b2, rfl, ⟨h1, h2, h3⟩, h4, hk⟩
 have hi := (cut_im (b := I.okI (I.imOf es fs)) h).keepN hk
 exact ⟨b, n, b1, b2, rfl, ⟨h1, h2, h3, hi.ry, hi.ly, rfl, fun e he => (hi.hf e he).nm⟩, h4, hk⟩

end Go.Proofs.YtgnooffedmeenaaGreatDoor.M.L

namespace Go.Proofs.YtgnooffedmeenaaGreatDoor.O
open Go.RowKit

def CellsAt (W : World) (k : Nat) : Prop := ∃ cs t f, W.heap[k]? = some (.cells cs t f)
theorem CellsAt.lt {W : World} {k : Nat} (h : CellsAt W k) : k < W.heap.size := by obtain ⟨_, _, _, h⟩ := h; exact (Array.getElem?_eq_some_iff.1 h).1
end Go.Proofs.YtgnooffedmeenaaGreatDoor.O

namespace Go.Proofs.YtgnooffedmeenaaGreatDoor.O
open Go.RowKit Go.Shelf
attribute [local go_sem] Oper.semAt_some

end Go.Proofs.YtgnooffedmeenaaGreatDoor.O

namespace Go.Proofs.YtgnooffedmeenaaGreatDoor.O
open Go.RowKit

set_option maxHeartbeats 1000000 in
theorem show_any (op a b : Int) (w : World) (ha : I64 a) (hb : I64 b) (hL : LaidO w) :
  Calls Tryz.prog 211 #[instV op a b] w fun e w' => e = .returned (.string (str (showI op a b))) ∧ Keep NoB w w' := by
 cases hok : okI op a b
 ·have hK := (Keep.refl NoB w).alloc (.cells #[.int .i64 op, .int .i64 a, .int .i64 b] 55)
  have HR := Lib.hid (fun w => rowFor_any op a b row0 w (rowR_no hok))
  rw [hok] at HR
  have HX : Hid (showI op a b = []) := by show _ = _; unfold showI; rw [if_neg (by rw [hok]; decide)]
  clear hok ha hb hL
  go_enter Tryz.func211, Tryz.ntmps211
  go_wp2_with fail
  refine (HR.out _).mono ?_
  rintro e w1 ⟨rfl, k1⟩
  go_wp2
  go_ret
  exact ⟨by rw [HX.out]; rfl, (keepN hK k1).alloc _⟩
 ·refine (show_yes op a b w hok ha hb hL).mono ?_
  rintro e w' ⟨d, rfl, hd, hk⟩
  exact ⟨by rw [hd.out]; unfold showI; rw [if_pos hok], hk⟩

end Go.Proofs.YtgnooffedmeenaaGreatDoor.O

namespace Go.Proofs.YtgnooffedmeenaaGreatDoor.M.L
open Go.RowKit W

theorem showI_ok {x : C.I3} (h : C.ok1 x = true) : O.showI x.1 x.2.1 x.2.2 = joinW (wordsX x) := by
 rw [join_words]
 unfold O.showI
 rw [if_pos (show O.okI x.1 x.2.1 x.2.2 = true from h)]

set_option maxRecDepth 100000 in
set_option maxHeartbeats 4000000 in
theorem instr_named (u : I.IV) (p : I.Im) (hp : ImOk p) (b n b1 b2 : Nat) (fs : List I.FE) (w : World) (h : NmAt w p b n b1 b2 u.Y u.ny u.cy fs) (hL : O.LaidO w) (k : Nat) (f : F.Fu) (hf : p.fn[k]? = some f) (x : C.I3) (hx : x ∈ f.bd) :
  Calls Tryz.prog 147 #[(namedH u b b1 b2).val, .int .i64 (k : Int), O.instV x.1 x.2.1 x.2.2] w fun e w' => e = .returned (.string (str (joinW (insL (NWp p k x) x)))) ∧ Keep NoB w w' := by
 obtain ⟨h1, h2⟩ := hp.fn hf
 have hok := List.all_eq_true.1 (ok_body h1).1 x hx
 have hI := h2 x hx
 have hB := (Blk.new w 72 (namedH u b b1 b2).cells).alloc (.cells #[.int .i64 x.1, .int .i64 x.2.1, .int .i64 x.2.2] 55)
 have hX := Blk.new (w.alloc (.cells (namedH u b b1 b2).cells 72)) 55 #[.int .i64 x.1, .int .i64 x.2.1, .int .i64 x.2.2]
 have k0 := ((Keep.refl NoB w).alloc (.cells (namedH u b b1 b2).cells 72)).alloc (.cells #[.int .i64 x.1, .int .i64 x.2.1, .int .i64 x.2.2] 55)
 rw [World.size_alloc] at hX
 have HN1 := Lib.hid (fun W (hk : Keep NoB w W) => named1_any p hp b n b1 b2 u.Y u.ny u.cy fs W (h.keep hk) (hL.keep hk).lib k f hf x hx)
 have HNm := Lib.hid (fun W => (show Calls Tryz.prog 36 #[.int .i64 x.1] W fun e w' => e = .returned (.string (str (O.rowAt x.1).name)) ∧ Keep NoB W w' from O.name_any x.1 W))
 have HSh := Lib.hid (fun W (hk : Keep NoB w W) => (show Calls Tryz.prog 211 #[O.instV x.1 x.2.1 x.2.2] W fun e w' => e = .returned (.string (str (O.showI x.1 x.2.1 x.2.2))) ∧ Keep NoB W w' from O.show_any x.1 x.2.1 x.2.2 W hI.1 hI.2 (hL.keep hk)))
 have hnl := O.name_len x.1
 have hs32 : (opS p k x).length ≤ 32 := by
  unfold opS
  cases hn : NWp p k x with
  | none => exact Nat.zero_le _
  | some s => exact okN_le ((goodP hp.ok).nok k x s hn).1
 cases hn : NWp p k x with
 | none =>
  have e1 : opS p k x = [] ∧ opT p k x = false := by unfold opS opT; rw [hn]; exact ⟨rfl, rfl⟩
  rw [e1.1, e1.2] at HN1
  have HX : Hid (str (O.showI x.1 x.2.1 x.2.2) = str (joinW (insL none x))) := by show _ = _; rw [showI_ok hok]; rfl
  rw [← HX.out]
  clear h hL hp hf hx hok hI hn e1 HX h1 h2 HNm hnl hs32
  obtain ⟨op, a, c⟩ := x
  obtain ⟨X', nx', cx', Y', ny', cy'⟩ := u
  dsimp only [namedH, SH.val, SH.cells] at *
  generalize str (O.showI op a c) = S at *
  have s3 := hB.cell 3
  have x0 := hX.cell 0
  have x1 := hX.cell 1
  have x2 := hX.cell 2
  simp only [List.getElem?_toArray, List.getElem?_cons_zero, List.getElem?_cons_succ] at s3 x0 x1 x2
  go_enter Tryz.func147, Tryz.ntmps147
  go_wp2_with fail
  refine (HN1.out _ k0).mono ?_
  rintro e w1 ⟨rfl, k1⟩
  have hX1 := hX.keep k1 id
  have hK1 := keepN k0 k1
  clear hB hX k0 k1 s3 x0 x1 x2 HN1
  have x0 := hX1.cell 0
  have x1 := hX1.cell 1
  have x2 := hX1.cell 2
  simp only [List.getElem?_toArray, List.getElem?_cons_zero, List.getElem?_cons_succ] at x0 x1 x2
  go_wp2_with fail
  refine (HSh.out _ hK1).mono ?_
  rintro e w2 ⟨rfl, k2⟩
  go_wp2
  go_ret
  exact ⟨rfl, keepN hK1 k2⟩
 | some s =>
  have e1 : opS p k x = s ∧ opT p k x = true := by unfold opS opT; rw [hn]; exact ⟨rfl, rfl⟩
  rw [e1.1] at hs32
  rw [e1.1, e1.2] at HN1
  have HX : Hid (str (O.rowAt x.1).name ++ ((⟨#[32]⟩ : ByteArray)) ++ str s = str (joinW (insL (some s) x))) := by
   show _ = _
   rw [app_lit, str_app]
   show str _ = str ((O.rowAt x.1).name ++ 32 :: s)
   simp
  rw [← HX.out]
  have hz1 := str_size (O.rowAt x.1).name
  have hz2 := str_size s
  have q1 : (str (O.rowAt x.1).name).size ≤ 7 := by omega
  have q2 : (str s).size ≤ 32 := by omega
  clear h hL hp hf hx hok hI hn e1 HX h1 h2 HSh hz1 hz2 hnl hs32
  obtain ⟨op, a, c⟩ := x
  obtain ⟨X', nx', cx', Y', ny', cy'⟩ := u
  dsimp only [namedH, SH.val, SH.cells] at *
  generalize str (O.rowAt op).name = S1 at *
  generalize str s = S2 at *
  have s3 := hB.cell 3
  have x0 := hX.cell 0
  have x1 := hX.cell 1
  have x2 := hX.cell 2
  simp only [List.getElem?_toArray, List.getElem?_cons_zero, List.getElem?_cons_succ] at s3 x0 x1 x2
  go_enter Tryz.func147, Tryz.ntmps147
  go_wp2_with fail
  refine (HN1.out _ k0).mono ?_
  rintro e w1 ⟨rfl, k1⟩
  have hX1 := hX.keep k1 id
  have hK1 := keepN k0 k1
  clear hB hX k0 k1 s3 x0 x1 x2 HN1
  have x0 := hX1.cell 0
  simp only [List.getElem?_toArray, List.getElem?_cons_zero] at x0
  go_wp2_with fail
  refine (HNm.out _).mono ?_
  rintro e w2 ⟨rfl, k2⟩
  go_wp2
  go_ret
  exact ⟨rfl, keepN hK1 k2⟩

set_option maxRecDepth 100000 in
set_option maxHeartbeats 4000000 in
theorem instr_plain (u : I.IV) (bg : Nat) (w : World) (hL : O.LaidO w) (k : Nat) (x : C.I3) (hok : C.ok1 x = true) (hI : O.I64 x.2.1 ∧ O.I64 x.2.2) :
  Calls Tryz.prog 147 #[(SH.mk u none 89 #[] bg #[]).val, .int .i64 (k : Int), O.instV x.1 x.2.1 x.2.2] w fun e w' => e = .returned (.string (str (joinW (insL none x)))) ∧ Keep NoB w w' := by
 have hB := (Blk.new w 72 (SH.mk u none 89 #[] bg #[]).cells).alloc (.cells #[.int .i64 x.1, .int .i64 x.2.1, .int .i64 x.2.2] 55)
 have hX := Blk.new (w.alloc (.cells (SH.mk u none 89 #[] bg #[]).cells 72)) 55 #[.int .i64 x.1, .int .i64 x.2.1, .int .i64 x.2.2]
 have k0 := ((Keep.refl NoB w).alloc (.cells (SH.mk u none 89 #[] bg #[]).cells 72)).alloc (.cells #[.int .i64 x.1, .int .i64 x.2.1, .int .i64 x.2.2] 55)
 rw [World.size_alloc] at hX
 have HN1 := Lib.hid (fun W => plain1_any (k : Int) x.1 x.2.1 x.2.2 W)
 have HSh := Lib.hid (fun W (hk : Keep NoB w W) => (show Calls Tryz.prog 211 #[O.instV x.1 x.2.1 x.2.2] W fun e w' => e = .returned (.string (str (O.showI x.1 x.2.1 x.2.2))) ∧ Keep NoB W w' from O.show_any x.1 x.2.1 x.2.2 W hI.1 hI.2 (hL.keep hk)))
 have HX : Hid (str (O.showI x.1 x.2.1 x.2.2) = str (joinW (insL none x))) := by show _ = _; rw [showI_ok hok]; rfl
 rw [← HX.out]
 clear hL hok hI HX
 obtain ⟨op, a, c⟩ := x
 obtain ⟨X', nx', cx', Y', ny', cy'⟩ := u
 dsimp only [SH.val, SH.cells] at *
 generalize str (O.showI op a c) = S at *
 have s3 := hB.cell 3
 have x0 := hX.cell 0
 have x1 := hX.cell 1
 have x2 := hX.cell 2
 simp only [List.getElem?_toArray, List.getElem?_cons_zero, List.getElem?_cons_succ] at s3 x0 x1 x2
 go_enter Tryz.func147, Tryz.ntmps147
 go_wp2_with fail
 refine (HN1.out _).mono ?_
 rintro e w1 ⟨rfl, k1⟩
 have hX1 := hX.keep k1 id
 have hK1 := keepN k0 k1
 clear hB hX k0 k1 s3 x0 x1 x2 HN1
 have x0 := hX1.cell 0
 have x1 := hX1.cell 1
 have x2 := hX1.cell 2
 simp only [List.getElem?_toArray, List.getElem?_cons_zero, List.getElem?_cons_succ] at x0 x1 x2
 go_wp2_with fail
 refine (HSh.out _ hK1).mono ?_
 rintro e w2 ⟨rfl, k2⟩
 go_wp2
 go_ret
 exact ⟨rfl, keepN hK1 k2⟩

end Go.Proofs.YtgnooffedmeenaaGreatDoor.M.L

namespace Go.Proofs.YtgnooffedmeenaaGreatDoor.M.L
open Go.RowKit W

set_option maxRecDepth 100000 in
set_option maxHeartbeats 4000000 in
theorem says0_any (lm : Option Nat) (og : Nat) (ob : Array Value) (bg : Nat) (X : Option Addr) (nx cx : Nat) (Y : Option Addr) (ny cy : Nat) (es : List I.SE) (fs : List I.FE) (w : World) (h : I.ImAt w ⟨X, nx, cx, Y, ny, cy⟩ es fs) (hl : I.LgI ⟨X, nx, cx, Y, ny, cy⟩ es fs) (hL : O.LaidO w) (i : Nat) (hi : i < es.length) :
  Calls Tryz.prog 80 #[.agg #[.slice X nx cx, .slice Y ny cy, .map lm, .func (.func og) #[] ob, .func (.func bg) #[] #[]], .agg #[.int .i64 0, .int .i64 (i : Int), .int .i64 0, .int .i64 0]] w fun e w' => e = .returned (.string (str (joinW (shapeT es[i].2)))) ∧ Keep NoB w w' := by
 have hB := (Blk.new w 72 #[.slice X nx cx, .slice Y ny cy, .map lm, .func (.func og) #[] ob, .func (.func bg) #[] #[]]).alloc (.cells #[.int .i64 0, .int .i64 (i : Int), .int .i64 0, .int .i64 0] 84)
 have hN := Blk.new (w.alloc (.cells #[.slice X nx cx, .slice Y ny cy, .map lm, .func (.func og) #[] ob, .func (.func bg) #[] #[]] 72)) 84 #[.int .i64 0, .int .i64 (i : Int), .int .i64 0, .int .i64 0]
 have k0 := ((Keep.refl NoB w).alloc (.cells #[.slice X nx cx, .slice Y ny cy, .map lm, .func (.func og) #[] ob, .func (.func bg) #[] #[]] 72)).alloc (.cells #[.int .i64 0, .int .i64 (i : Int), .int .i64 0, .int .i64 0] 84)
 rw [World.size_alloc] at hN
 obtain ⟨g, off, hX, hc⟩ := I.shape_at h.rx hi
 have hs := h.hs _ (List.getElem_mem hi)
 have hn := hl.sh _ (List.getElem_mem hi)
 have hx := hl.nx
 have hlx := h.lx
 dsimp only at hlx hX hx
 subst hX
 have hle := S.txt_le es[i].2
 generalize es[i] = se at *
 obtain ⟨⟨A, n, c⟩, l⟩ := se
 dsimp only at *
 have HT := Lib.hid (fun W (hk : Keep NoB w W) (hn : n ≤ 9223372036854775807) => S.showS_any A l n c W (hL.keep hk).lets ((hs.keep hk (fun _ _ => id)).1) hs.2 hn)
 have hsz : (S.shS l).length ≤ 1024 := by
  unfold S.shS
  split
  ·exact hle
  ·exact Nat.zero_le _
 have HX : Hid ((⟨#[115, 104, 97, 112, 101, 32]⟩ : ByteArray) ++ str (S.shS l) = str (joinW (shapeT l))) := lit_app _ _
 rw [← HX.out]
 have hz := str_size (S.shS l)
 have q1 : (str (S.shS l)).size ≤ 1024 := by omega
 have hcw := hc
 have k1c := k0.cell hc id
 have s0 := hB.cell 0
 simp only [List.getElem?_toArray, List.getElem?_cons_zero] at s0
 have n0 := hN.cell 0
 have n1 := hN.cell 1
 simp only [List.getElem?_toArray, List.getElem?_cons_zero, List.getElem?_cons_succ] at n0 n1
 have hlt : (i : Int) < (nx : Int) := by omega
 have hin : i < nx := by omega
 have HT2 := Lib.hid (fun W hk => HT.out W hk (by omega))
 clear HT hB hN h hl hL hs hle hsz HX hz hcw hc hn
 generalize str (S.shS l) = T at *
 go_enter Tryz.func80, Tryz.ntmps80
 go_wp2_with fail
 refine (HT2.out _ k0).mono ?_
 rintro e w1 ⟨rfl, k1⟩
 go_wp2
 go_ret
 exact ⟨rfl, keepN k0 k1⟩

set_option maxRecDepth 100000 in
set_option maxHeartbeats 8000000 in
theorem says2_any (lm : Option Nat) (og : Nat) (ob : Array Value) (bg : Nat) (X : Option Addr) (nx cx : Nat) (Y : Option Addr) (ny cy : Nat) (es : List I.SE) (fs : List I.FE) (w : World) (h : I.ImAt w ⟨X, nx, cx, Y, ny, cy⟩ es fs) (hl : I.LgI ⟨X, nx, cx, Y, ny, cy⟩ es fs) (hL : O.LaidO w) (k : Nat) (hk : k < fs.length) :
  Calls Tryz.prog 80 #[.agg #[.slice X nx cx, .slice Y ny cy, .map lm, .func (.func og) #[] ob, .func (.func bg) #[] #[]], .agg #[.int .i64 2, .int .i64 0, .int .i64 (k : Int), .int .i64 0]] w fun e w' => e = .returned (.string (str (joinW [localW, W.txt fs[k].2.lc]))) ∧ Keep NoB w w' := by
 have hB := (Blk.new w 72 #[.slice X nx cx, .slice Y ny cy, .map lm, .func (.func og) #[] ob, .func (.func bg) #[] #[]]).alloc (.cells #[.int .i64 2, .int .i64 0, .int .i64 (k : Int), .int .i64 0] 84)
 have hN := Blk.new (w.alloc (.cells #[.slice X nx cx, .slice Y ny cy, .map lm, .func (.func og) #[] ob, .func (.func bg) #[] #[]] 72)) 84 #[.int .i64 2, .int .i64 0, .int .i64 (k : Int), .int .i64 0]
 have k0 := ((Keep.refl NoB w).alloc (.cells #[.slice X nx cx, .slice Y ny cy, .map lm, .func (.func og) #[] ob, .func (.func bg) #[] #[]] 72)).alloc (.cells #[.int .i64 2, .int .i64 0, .int .i64 (k : Int), .int .i64 0] 84)
 rw [World.size_alloc] at hN
 obtain ⟨g, off, hY, d0, d1, d2, d3, d4⟩ := I.fun_at h.ry hk
 have hf := h.hf _ (List.getElem_mem hk)
 have hlf := hl.fn _ (List.getElem_mem hk)
 have hly := h.ly
 have hy := hl.ny
 dsimp only at hly hY hy
 subst hY
 generalize fs[k] = fe at *
 obtain ⟨⟨Sg, A, na, ca, B, nb, cb, Lc, nl, cl, D, nd, cd⟩, f⟩ := fe
 dsimp only at *
 have hnl := hlf.nl
 dsimp only at hnl
 have HT := Lib.hid (fun W (hk : Keep NoB w W) => text_any Lc f.lc nl cl W (hL.keep hk).lets (hf.keepN hk).rl hf.ll (by omega))
 have hle := S.txt_le f.lc
 have HX : Hid ((⟨#[108, 111, 99, 97, 108, 32]⟩ : ByteArray) ++ str (W.txt f.lc) = str (joinW [localW, W.txt f.lc])) := lit_app _ _
 rw [← HX.out]
 have hz := str_size (W.txt f.lc)
 have q1 : (str (W.txt f.lc)).size ≤ 1024 := by omega
 generalize str (W.txt f.lc) = T at *
 have e0 := k0.cell d0 id
 have e1 := k0.cell d1 id
 have e2 := k0.cell d2 id
 have e3 := k0.cell d3 id
 have e4 := k0.cell d4 id
 have hlt : (k : Int) < (ny : Int) := by omega
 have hkn : k < ny := by omega
 have s0 := hB.cell 0
 have s1 := hB.cell 1
 simp only [List.getElem?_toArray, List.getElem?_cons_zero, List.getElem?_cons_succ] at s0 s1
 have n0 := hN.cell 0
 have n1 := hN.cell 1
 have n2 := hN.cell 2
 have n3 := hN.cell 3
 simp only [List.getElem?_toArray, List.getElem?_cons_zero, List.getElem?_cons_succ] at n0 n1 n2 n3
 generalize hW0 : (w.alloc (.cells #[.slice X nx cx, .slice (some ⟨g, off, none⟩) ny cy, .map lm, .func (.func og) #[] ob, .func (.func bg) #[] #[]] 72)).alloc (.cells #[.int .i64 2, .int .i64 0, .int .i64 (k : Int), .int .i64 0] 84) = W0 at *
 have hz0 : W0.heap.size = w.heap.size + 1 + 1 := by rw [← hW0]; simp
 have h5 := Blk.new W0 37 #[.string Sg, .slice A na ca, .slice B nb cb, .slice Lc nl cl, .slice D nd cd]
 have k5 := k0.alloc (.cells #[.string Sg, .slice A na ca, .slice B nb cb, .slice Lc nl cl, .slice D nd cd] 37)
 have hN5 := hN.alloc (.cells #[.string Sg, .slice A na ca, .slice B nb cb, .slice Lc nl cl, .slice D nd cd] 37)
 have hB5 := hB.alloc (.cells #[.string Sg, .slice A na ca, .slice B nb cb, .slice Lc nl cl, .slice D nd cd] 37)
 rw [hz0] at h5
 have c0 := h5.cell 0
 have c1 := h5.cell 1
 have c2 := h5.cell 2
 have c3 := h5.cell 3
 have c4 := h5.cell 4
 simp only [List.getElem?_toArray, List.getElem?_cons_zero, List.getElem?_cons_succ] at c0 c1 c2 c3 c4
 have m0 := hN5.cell 0
 have m1 := hN5.cell 1
 have m2 := hN5.cell 2
 have m3 := hN5.cell 3
 simp only [List.getElem?_toArray, List.getElem?_cons_zero, List.getElem?_cons_succ] at m0 m1 m2 m3
 clear h hl hL hf hlf hly hy HX hz hle hB hN d0 d1 d2 d3 d4 h5 hB5 hN5 hnl
 go_enter Tryz.func80, Tryz.ntmps80
 go_wp2_with fail
 refine (HT.out _ k5).mono ?_
 rintro e w1 ⟨rfl, k1⟩
 go_wp2
 go_ret
 exact ⟨rfl, keepN k5 k1⟩

set_option maxRecDepth 100000 in
set_option maxHeartbeats 8000000 in
theorem says3_any (og : Nat) (ob : Array Value) (bg : Nat) (X : Option Addr) (nx cx : Nat) (Y : Option Addr) (ny cy : Nat) (es : List I.SE) (fs : List I.FE) (w : World) (h : I.ImAt w ⟨X, nx, cx, Y, ny, cy⟩ es fs) (hl : I.LgI ⟨X, nx, cx, Y, ny, cy⟩ es fs) (hL : O.LaidO w) (k : Nat) (hk : k < fs.length) (b N n j : Nat) (hj : j ≤ 100000) (hn : n ≤ 100000) (hk1 : k ≤ 100000) (p : I.Im) (hpm : PM b N (labF p) w) (hlb : lbN p k j = some n) :
  Calls Tryz.prog 80 #[.agg #[.slice X nx cx, .slice Y ny cy, .map (some b), .func (.func og) #[] ob, .func (.func bg) #[] #[]], .agg #[.int .i64 3, .int .i64 0, .int .i64 (k : Int), .int .i64 (j : Int)]] w fun e w' => e = .returned (.string (str (lbl ((n : Nat) : Int) ++ [58]))) ∧ Keep NoB w w' := by
 have hB := (Blk.new w 72 #[.slice X nx cx, .slice Y ny cy, .map (some b), .func (.func og) #[] ob, .func (.func bg) #[] #[]]).alloc (.cells #[.int .i64 3, .int .i64 0, .int .i64 (k : Int), .int .i64 (j : Int)] 84)
 have hN := Blk.new (w.alloc (.cells #[.slice X nx cx, .slice Y ny cy, .map (some b), .func (.func og) #[] ob, .func (.func bg) #[] #[]] 72)) 84 #[.int .i64 3, .int .i64 0, .int .i64 (k : Int), .int .i64 (j : Int)]
 have k0 := ((Keep.refl NoB w).alloc (.cells #[.slice X nx cx, .slice Y ny cy, .map (some b), .func (.func og) #[] ob, .func (.func bg) #[] #[]] 72)).alloc (.cells #[.int .i64 3, .int .i64 0, .int .i64 (k : Int), .int .i64 (j : Int)] 84)
 rw [World.size_alloc] at hN
 obtain ⟨g, off, hY, d0, d1, d2, d3, d4⟩ := I.fun_at h.ry hk
 have hf := h.hf _ (List.getElem_mem hk)
 have hlf := hl.fn _ (List.getElem_mem hk)
 have hly := h.ly
 have hy := hl.ny
 dsimp only at hly hY hy
 subst hY
 generalize fs[k] = fe at *
 obtain ⟨⟨Sg, A, na, ca, B, nb, cb, Lc, nl, cl, D, nd, cd⟩, f⟩ := fe
 dsimp only at *
 have HLb := Lib.hid (fun W (hk : Keep NoB w W) => label_any n W hn (hL.keep hk).lib)
 have HLk : Hid (∀ W, Keep NoB w W → (Instr.lookup 69 (.map (some b)) (.agg #[.int .i64 (k : Int), .int .i64 (j : Int)]) false).run Tryz.prog W = .ok (.int .i64 (n : Int)) W) := by
  intro W hk
  have h1 := pm_look (hpm.keep hk id) k j (by omega) (by omega)
  rw [labF_nat, hlb] at h1
  exact h1
 have hle := Lib.itoa_length_le (n : Int) (by omega) (by omega)
 have HX : Hid (str (lbl ((n : Nat) : Int)) ++ (⟨#[58]⟩ : ByteArray) = str (lbl ((n : Nat) : Int) ++ [58])) := app_lit _ _
 rw [← HX.out]
 have hz := str_size (lbl ((n : Nat) : Int))
 have q1 : (str (lbl ((n : Nat) : Int))).size ≤ 22 := by unfold lbl at hz ⊢; simp at hz ⊢; omega
 generalize str (lbl ((n : Nat) : Int)) = T at *
 have e0 := k0.cell d0 id
 have e1 := k0.cell d1 id
 have e2 := k0.cell d2 id
 have e3 := k0.cell d3 id
 have e4 := k0.cell d4 id
 have hlt : (k : Int) < (ny : Int) := by omega
 have hkn : k < ny := by omega
 have s0 := hB.cell 0
 have s1 := hB.cell 1
 simp only [List.getElem?_toArray, List.getElem?_cons_zero, List.getElem?_cons_succ] at s0 s1
 have n0 := hN.cell 0
 have n1 := hN.cell 1
 have n2 := hN.cell 2
 have n3 := hN.cell 3
 simp only [List.getElem?_toArray, List.getElem?_cons_zero, List.getElem?_cons_succ] at n0 n1 n2 n3
 generalize hW0 : (w.alloc (.cells #[.slice X nx cx, .slice (some ⟨g, off, none⟩) ny cy, .map (some b), .func (.func og) #[] ob, .func (.func bg) #[] #[]] 72)).alloc (.cells #[.int .i64 3, .int .i64 0, .int .i64 (k : Int), .int .i64 (j : Int)] 84) = W0 at *
 have hz0 : W0.heap.size = w.heap.size + 1 + 1 := by rw [← hW0]; simp
 have h5 := Blk.new W0 37 #[.string Sg, .slice A na ca, .slice B nb cb, .slice Lc nl cl, .slice D nd cd]
 have k5 := k0.alloc (.cells #[.string Sg, .slice A na ca, .slice B nb cb, .slice Lc nl cl, .slice D nd cd] 37)
 have hN5 := hN.alloc (.cells #[.string Sg, .slice A na ca, .slice B nb cb, .slice Lc nl cl, .slice D nd cd] 37)
 have hB5 := hB.alloc (.cells #[.string Sg, .slice A na ca, .slice B nb cb, .slice Lc nl cl, .slice D nd cd] 37)
 rw [hz0] at h5
 have c0 := h5.cell 0
 have c1 := h5.cell 1
 have c2 := h5.cell 2
 have c3 := h5.cell 3
 have c4 := h5.cell 4
 simp only [List.getElem?_toArray, List.getElem?_cons_zero, List.getElem?_cons_succ] at c0 c1 c2 c3 c4
 have m0 := hN5.cell 0
 have m1 := hN5.cell 1
 have m2 := hN5.cell 2
 have m3 := hN5.cell 3
 simp only [List.getElem?_toArray, List.getElem?_cons_zero, List.getElem?_cons_succ] at m0 m1 m2 m3
 have s2 := hB5.cell 2
 simp only [List.getElem?_toArray, List.getElem?_cons_zero, List.getElem?_cons_succ] at s2
 have hlk := HLk.out _ k5
 clear h hl hL hf hlf hly hy HX hz hle hB hN d0 d1 d2 d3 d4 h5 hB5 hN5 hpm hlb HLk
 go_enter Tryz.func80, Tryz.ntmps80
 go_wp2_with fail
 refine (HLb.out _ k5).mono ?_
 rintro e w1 ⟨rfl, k1⟩
 go_wp2
 go_ret
 exact ⟨rfl, keepN k5 k1⟩

def SSy1 (b5 : Nat) (Sg : ByteArray) (A : Option Addr) (na ca : Nat) (B : Option Addr) (nb cb : Nat) (T : ByteArray) : Nat → Value → World → Prop
 | 0 => fun u _ => u = .pointer (some ⟨b5, 0, none⟩)
 | 1 => fun u _ => u = .string Sg
 | 2 => fun u _ => u = .string ((⟨#[102, 117, 110, 99, 32]⟩ : ByteArray) ++ Sg)
 | 3 => fun u _ => u = .string ((⟨#[102, 117, 110, 99, 32]⟩ : ByteArray) ++ Sg ++ (⟨#[32]⟩ : ByteArray))
 | 4 => fun u _ => u = .pointer (some ⟨b5, 1, none⟩)
 | 5 => fun u _ => u = .agg #[.slice A na ca, .slice B nb cb]
 | 6 => fun u _ => u = .string T
 | 7 => fun u _ => u = .string ((⟨#[102, 117, 110, 99, 32]⟩ : ByteArray) ++ Sg ++ (⟨#[32]⟩ : ByteArray) ++ T)
 | 8 => fun u _ => u = .string ((⟨#[102, 117, 110, 99, 32]⟩ : ByteArray) ++ Sg ++ (⟨#[32]⟩ : ByteArray) ++ T)
 | _ => fun _ _ => True
theorem SSy1_stable (b5 : Nat) (Sg : ByteArray) (A : Option Addr) (na ca : Nat) (B : Option Addr) (nb cb : Nat) (T : ByteArray) (i : Nat) (u : Value) (W W' : World) (h : SSy1 b5 Sg A na ca B nb cb T i u W) (_hk : Keep NoB W W') : SSy1 b5 Sg A na ca B nb cb T i u W' := by
 unfold SSy1 at h ⊢
 split at h <;> exact h

set_option maxRecDepth 100000 in
set_option maxHeartbeats 8000000 in
theorem says1_any (lm : Option Nat) (og : Nat) (ob : Array Value) (bg : Nat) (X : Option Addr) (nx cx : Nat) (Y : Option Addr) (ny cy : Nat) (es : List I.SE) (fs : List I.FE) (w : World) (h : I.ImAt w ⟨X, nx, cx, Y, ny, cy⟩ es fs) (hl : I.LgI ⟨X, nx, cx, Y, ny, cy⟩ es fs) (hL : O.LaidO w) (k : Nat) (hk : k < fs.length) (hnm : fs[k].2.nm.length ≤ 32) :
  Calls Tryz.prog 80 #[.agg #[.slice X nx cx, .slice Y ny cy, .map lm, .func (.func og) #[] ob, .func (.func bg) #[] #[]], .agg #[.int .i64 1, .int .i64 0, .int .i64 (k : Int), .int .i64 0]] w fun e w' => e = .returned (.string (str (joinW [funcW, fs[k].2.nm, S.shG fs[k].2.ar fs[k].2.rs]))) ∧ Keep NoB w w' := by
 have hB := (Blk.new w 72 #[.slice X nx cx, .slice Y ny cy, .map lm, .func (.func og) #[] ob, .func (.func bg) #[] #[]]).alloc (.cells #[.int .i64 1, .int .i64 0, .int .i64 (k : Int), .int .i64 0] 84)
 have hN := Blk.new (w.alloc (.cells #[.slice X nx cx, .slice Y ny cy, .map lm, .func (.func og) #[] ob, .func (.func bg) #[] #[]] 72)) 84 #[.int .i64 1, .int .i64 0, .int .i64 (k : Int), .int .i64 0]
 have k0 := ((Keep.refl NoB w).alloc (.cells #[.slice X nx cx, .slice Y ny cy, .map lm, .func (.func og) #[] ob, .func (.func bg) #[] #[]] 72)).alloc (.cells #[.int .i64 1, .int .i64 0, .int .i64 (k : Int), .int .i64 0] 84)
 rw [World.size_alloc] at hN
 obtain ⟨g, off, hY, d0, d1, d2, d3, d4⟩ := I.fun_at h.ry hk
 have hf := h.hf _ (List.getElem_mem hk)
 have hlf := hl.fn _ (List.getElem_mem hk)
 have hly := h.ly
 have hy := hl.ny
 dsimp only at hly hY hy
 subst hY
 generalize fs[k] = fe at *
 obtain ⟨⟨Sg, A, na, ca, B, nb, cb, Lc, nl, cl, D, nd, cd⟩, f⟩ := fe
 dsimp only at *
 have hna := hlf.na
 have hnb := hlf.nb
 dsimp only at hna hnb
 have HT := Lib.hid (fun W (hk : Keep NoB w W) => S.showG_any A f.ar na ca B f.rs nb cb W (hL.keep hk).lets (hf.keepN hk).ra (hf.keepN hk).rb hf.la hf.lb (by omega) (by omega))
 have hle : (S.shG f.ar f.rs).length ≤ 2100 := by
  have ha := S.txt_le f.ar
  have hb := S.txt_le f.rs
  unfold S.shG
  split <;> simp <;> omega
 have hSg : Sg = str f.nm := str_of hf.nm
 have HX : Hid ((⟨#[102, 117, 110, 99, 32]⟩ : ByteArray) ++ Sg ++ (⟨#[32]⟩ : ByteArray) ++ str (S.shG f.ar f.rs) = str (joinW [funcW, f.nm, S.shG f.ar f.rs])) := by
  show _ = _
  rw [hSg, lit_app, app_lit, str_app]
  show str _ = str (funcW ++ 32 :: (f.nm ++ 32 :: S.shG f.ar f.rs))
  simp [funcW]
 rw [← HX.out]
 have hz := str_size (S.shG f.ar f.rs)
 have q1 : (str (S.shG f.ar f.rs)).size ≤ 2100 := by omega
 have q2 : Sg.size ≤ 32 := by rw [size_of hf.nm]; exact hnm
 generalize str (S.shG f.ar f.rs) = T at *
 have u1 : ¬ 9223372036854775807 < 5 + Sg.size := by omega
 have u2 : ¬ 9223372036854775807 < 5 + Sg.size + 1 := by omega
 have u3 : ¬ 9223372036854775807 < 5 + Sg.size + 1 + T.size := by omega
 have e0 := k0.cell d0 id
 have e1 := k0.cell d1 id
 have e2 := k0.cell d2 id
 have e3 := k0.cell d3 id
 have e4 := k0.cell d4 id
 have hlt : (k : Int) < (ny : Int) := by omega
 have hkn : k < ny := by omega
 have s0 := hB.cell 0
 have s1 := hB.cell 1
 simp only [List.getElem?_toArray, List.getElem?_cons_zero, List.getElem?_cons_succ] at s0 s1
 have n0 := hN.cell 0
 have n1 := hN.cell 1
 have n2 := hN.cell 2
 have n3 := hN.cell 3
 simp only [List.getElem?_toArray, List.getElem?_cons_zero, List.getElem?_cons_succ] at n0 n1 n2 n3
 generalize hW0 : (w.alloc (.cells #[.slice X nx cx, .slice (some ⟨g, off, none⟩) ny cy, .map lm, .func (.func og) #[] ob, .func (.func bg) #[] #[]] 72)).alloc (.cells #[.int .i64 1, .int .i64 0, .int .i64 (k : Int), .int .i64 0] 84) = W0 at *
 have hz0 : W0.heap.size = w.heap.size + 1 + 1 := by rw [← hW0]; simp
 have h5 := Blk.new W0 37 #[.string Sg, .slice A na ca, .slice B nb cb, .slice Lc nl cl, .slice D nd cd]
 have k5 := k0.alloc (.cells #[.string Sg, .slice A na ca, .slice B nb cb, .slice Lc nl cl, .slice D nd cd] 37)
 have hN5 := hN.alloc (.cells #[.string Sg, .slice A na ca, .slice B nb cb, .slice Lc nl cl, .slice D nd cd] 37)
 have hB5 := hB.alloc (.cells #[.string Sg, .slice A na ca, .slice B nb cb, .slice Lc nl cl, .slice D nd cd] 37)
 rw [hz0] at h5
 have c0 := h5.cell 0
 have c1 := h5.cell 1
 have c2 := h5.cell 2
 have c3 := h5.cell 3
 have c4 := h5.cell 4
 simp only [List.getElem?_toArray, List.getElem?_cons_zero, List.getElem?_cons_succ] at c0 c1 c2 c3 c4
 have m0 := hN5.cell 0
 have m1 := hN5.cell 1
 have m2 := hN5.cell 2
 have m3 := hN5.cell 3
 simp only [List.getElem?_toArray, List.getElem?_cons_zero, List.getElem?_cons_succ] at m0 m1 m2 m3
 clear h hl hL hf hlf hly hy HX hz hle hB hN d0 d1 d2 d3 d4 h5 hB5 hN5 hna hnb hnm hSg
 go_enter Tryz.func80, Tryz.ntmps80
 go_wp2_with fail
 generalize hW5 : W0.alloc (.cells #[.string Sg, .slice A na ca, .slice B nb cb, .slice Lc nl cl, .slice D nd cd] 37) = W5 at *
 clear hW5
 refine wp_region_tail (fun i => [30, 31, 32, 33, 34, 35, 36, 37, 4].getD i 0) 9 (by kernel_rfl) (by kernel_rfl) (by kernel_rfl) (by kernel_rfl) (by kernel_rfl) (SSy1 (w.heap.size + 1 + 1) Sg A na ca B nb cb T) (fun i u x y h hk => SSy1_stable _ _ _ _ _ _ _ _ _ i u x y h hk) rfl ?step ?fin
 case step =>
  intro i o a w' hoo hi hF hK hA
  by_cases h0 : i = 0
  ·subst h0
   simp only [List.getElem?_toArray, List.getElem?_cons_zero, Option.some.injEq] at hoo
   subst hoo
   have e5 : a.tmps.getD 5 undef = .pointer (some ⟨w.heap.size + 1 + 1, 0, none⟩) := hF.2.2 5 (by decide)
   refine Does.plain rfl ?_
   unfold yieldsK
   go_simp
   exact ⟨rfl, Keep.refl _ _⟩
  by_cases h1 : i = 1
  ·subst h1
   simp only [List.getElem?_toArray, List.getElem?_cons_zero, List.getElem?_cons_succ, Option.some.injEq] at hoo
   subst hoo
   have e30 : a.tmps.getD 30 undef = .pointer (some ⟨w.heap.size + 1 + 1, 0, none⟩) := hA ⟨0, .data⟩ (by simp) rfl
   have z0 := Keep.cell hK c0 id
   refine Does.plain rfl ?_
   unfold yieldsK
   go_simp
   exact ⟨rfl, Keep.refl _ _⟩
  by_cases h2 : i = 2
  ·subst h2
   simp only [List.getElem?_toArray, List.getElem?_cons_zero, List.getElem?_cons_succ, Option.some.injEq] at hoo
   subst hoo
   have e31 : a.tmps.getD 31 undef = .string Sg := hA ⟨1, .data⟩ (by simp) rfl
   refine Does.plain rfl ?_
   unfold yieldsK
   go_simp
   exact ⟨rfl, Keep.refl _ _⟩
  by_cases h3 : i = 3
  ·subst h3
   simp only [List.getElem?_toArray, List.getElem?_cons_zero, List.getElem?_cons_succ, Option.some.injEq] at hoo
   subst hoo
   have e32 : a.tmps.getD 32 undef = .string ((⟨#[102, 117, 110, 99, 32]⟩ : ByteArray) ++ Sg) := hA ⟨2, .data⟩ (by simp) rfl
   refine Does.plain rfl ?_
   unfold yieldsK
   go_simp
   exact ⟨rfl, Keep.refl _ _⟩
  by_cases h4 : i = 4
  ·subst h4
   simp only [List.getElem?_toArray, List.getElem?_cons_zero, List.getElem?_cons_succ, Option.some.injEq] at hoo
   subst hoo
   have e5 : a.tmps.getD 5 undef = .pointer (some ⟨w.heap.size + 1 + 1, 0, none⟩) := hF.2.2 5 (by decide)
   refine Does.plain rfl ?_
   unfold yieldsK
   go_simp
   exact ⟨rfl, Keep.refl _ _⟩
  by_cases h5 : i = 5
  ·subst h5
   simp only [List.getElem?_toArray, List.getElem?_cons_zero, List.getElem?_cons_succ, Option.some.injEq] at hoo
   subst hoo
   have e34 : a.tmps.getD 34 undef = .pointer (some ⟨w.heap.size + 1 + 1, 1, none⟩) := hA ⟨4, .data⟩ (by simp) rfl
   have z1 := Keep.cell hK c1 id
   have z2 := Keep.cell hK c2 id
   refine Does.plain rfl ?_
   unfold yieldsK
   go_simp
   exact ⟨rfl, Keep.refl _ _⟩
  by_cases h6 : i = 6
  ·subst h6
   simp only [List.getElem?_toArray, List.getElem?_cons_zero, List.getElem?_cons_succ, Option.some.injEq] at hoo
   subst hoo
   have e35 : a.tmps.getD 35 undef = (.agg #[.slice A na ca, .slice B nb cb] : Value) := hA ⟨5, .data⟩ (by simp) rfl
   refine Does.plain rfl ?_
   unfold yieldsK
   go_simp
   refine (HT.out w' (keepN k5 hK)).mono ?_
   rintro e w9 ⟨rfl, hk9⟩
   exact ⟨_, rfl, rfl, hk9⟩
  by_cases h7 : i = 7
  ·subst h7
   simp only [List.getElem?_toArray, List.getElem?_cons_zero, List.getElem?_cons_succ, Option.some.injEq] at hoo
   subst hoo
   have e33 : a.tmps.getD 33 undef = .string ((⟨#[102, 117, 110, 99, 32]⟩ : ByteArray) ++ Sg ++ (⟨#[32]⟩ : ByteArray)) := hA ⟨3, .data⟩ (by simp) rfl
   have e36 : a.tmps.getD 36 undef = .string T := hA ⟨6, .data⟩ (by simp) rfl
   refine Does.plain rfl ?_
   unfold yieldsK
   go_simp
   exact ⟨rfl, Keep.refl _ _⟩
  by_cases h8 : i = 8
  ·subst h8
   simp only [List.getElem?_toArray, List.getElem?_cons_zero, List.getElem?_cons_succ, Option.some.injEq] at hoo
   subst hoo
   have e37 : a.tmps.getD 37 undef = .string ((⟨#[102, 117, 110, 99, 32]⟩ : ByteArray) ++ Sg ++ (⟨#[32]⟩ : ByteArray) ++ T) := hA ⟨7, .data⟩ (by simp) rfl
   refine Does.plain rfl ?_
   unfold yieldsK
   go_simp
   exact ⟨rfl, Keep.refl _ _⟩
  omega
 case fin =>
  intro a w' hF gK hA
  have e4 : a.tmps.getD 4 undef = .string ((⟨#[102, 117, 110, 99, 32]⟩ : ByteArray) ++ Sg ++ (⟨#[32]⟩ : ByteArray) ++ T) := hA 8 (by decide)
  have ha := frameD_list (l := [30, 31, 32, 33, 34, 35, 36, 37, 4]) rfl hF
  rw [ha]
  simp only [List.map_cons, List.map_nil, e4]
  generalize a.tmps.getD 30 undef = u0
  generalize a.tmps.getD 31 undef = u1
  generalize a.tmps.getD 32 undef = u2
  generalize a.tmps.getD 33 undef = u3
  generalize a.tmps.getD 34 undef = u4
  generalize a.tmps.getD 35 undef = u5
  generalize a.tmps.getD 36 undef = u6
  generalize a.tmps.getD 37 undef = u7
  simp only [fillD, List.setIfInBounds_toArray, List.set_cons_zero, List.set_cons_succ]
  simp only [List.drop_succ_cons, List.drop_zero]
  go_wp2
  go_ret
  exact ⟨rfl, keepN k5 gK⟩

def SSy4 (b2 b3 b5 : Nat) (sc : Value) (bg k j : Nat) (gd od nd cd : Nat) (x : Value) (T U : ByteArray) : Nat → Value → World → Prop
 | 0 => fun u _ => u = sc
 | 1 => fun u _ => u = .pointer (some ⟨b3, 2, none⟩)
 | 2 => fun u _ => u = .pointer (some ⟨b3, 2, none⟩)
 | 3 => fun u _ => u = .int .i64 (k : Int)
 | 4 => fun u _ => u = .pointer (some ⟨b5, 4, none⟩)
 | 5 => fun u _ => u = .slice (some ⟨gd, od, none⟩) nd cd
 | 6 => fun u _ => u = .pointer (some ⟨b3, 2, none⟩)
 | 7 => fun u _ => u = .pointer (some ⟨b3, 3, none⟩)
 | 8 => fun u _ => u = .int .i64 (j : Int)
 | 9 => fun u _ => u = .pointer (some ⟨gd, od + j * 3, none⟩)
 | 10 => fun u _ => u = x
 | 11 => fun u _ => u = .string T
 | 12 => fun u _ => u = .pointer (some ⟨b2, 4, none⟩)
 | 13 => fun u _ => u = .func (.func bg) #[] #[]
 | 14 => fun u _ => u = .pointer (some ⟨b3, 2, none⟩)
 | 15 => fun u _ => u = .pointer (some ⟨b3, 3, none⟩)
 | 16 => fun u _ => u = .int .i64 (j : Int)
 | 17 => fun u _ => u = .string U
 | 18 => fun u _ => u = .string (T ++ U)
 | 19 => fun u _ => u = .string (T ++ U)
 | _ => fun _ _ => True
theorem SSy4_stable (b2 b3 b5 : Nat) (sc : Value) (bg k j : Nat) (gd od nd cd : Nat) (x : Value) (T U : ByteArray) (i : Nat) (u : Value) (W W' : World) (h : SSy4 b2 b3 b5 sc bg k j gd od nd cd x T U i u W) (_hk : Keep NoB W W') : SSy4 b2 b3 b5 sc bg k j gd od nd cd x T U i u W' := by
 unfold SSy4 at h ⊢
 split at h <;> exact h

set_option maxRecDepth 100000 in
set_option maxHeartbeats 8000000 in
theorem says4_any (lm : Option Nat) (og : Nat) (ob : Array Value) (bg : Nat) (X : Option Addr) (nx cx : Nat) (Y : Option Addr) (ny cy : Nat) (es : List I.SE) (fs : List I.FE) (w : World) (h : I.ImAt w ⟨X, nx, cx, Y, ny, cy⟩ es fs) (hl : I.LgI ⟨X, nx, cx, Y, ny, cy⟩ es fs) (k : Nat) (hk : k < fs.length) (j : Nat) (hj : j < fs[k].2.bd.length) (TI TB : Bs) (hI1 : TI.length ≤ 100) (hB1 : TB.length ≤ 100) (HIns0 : Hid (∀ W, Keep NoB w W → Calls Tryz.prog 147 #[.agg #[.slice X nx cx, .slice Y ny cy, .map lm, .func (.func og) #[] ob, .func (.func bg) #[] #[]], .int .i64 (k : Int), O.instV fs[k].2.bd[j].1 fs[k].2.bd[j].2.1 fs[k].2.bd[j].2.2] W fun e w' => e = .returned (.string (str TI)) ∧ Keep NoB W w')) (HBh0 : Hid (∀ W, Keep NoB w W → Calls Tryz.prog bg #[.int .i64 (j : Int)] W fun e w' => e = .returned (.string (str TB)) ∧ Keep NoB W w')) (eg : ∀ args w, (callFunc bg args).run Tryz.prog w = .ok (.enter bg args) w) :
  Calls Tryz.prog 80 #[.agg #[.slice X nx cx, .slice Y ny cy, .map lm, .func (.func og) #[] ob, .func (.func bg) #[] #[]], .agg #[.int .i64 4, .int .i64 0, .int .i64 (k : Int), .int .i64 (j : Int)]] w fun e w' => e = .returned (.string (str (TI ++ TB))) ∧ Keep NoB w w' := by
 have hB := (Blk.new w 72 #[.slice X nx cx, .slice Y ny cy, .map lm, .func (.func og) #[] ob, .func (.func bg) #[] #[]]).alloc (.cells #[.int .i64 4, .int .i64 0, .int .i64 (k : Int), .int .i64 (j : Int)] 84)
 have hN := Blk.new (w.alloc (.cells #[.slice X nx cx, .slice Y ny cy, .map lm, .func (.func og) #[] ob, .func (.func bg) #[] #[]] 72)) 84 #[.int .i64 4, .int .i64 0, .int .i64 (k : Int), .int .i64 (j : Int)]
 have k0 := ((Keep.refl NoB w).alloc (.cells #[.slice X nx cx, .slice Y ny cy, .map lm, .func (.func og) #[] ob, .func (.func bg) #[] #[]] 72)).alloc (.cells #[.int .i64 4, .int .i64 0, .int .i64 (k : Int), .int .i64 (j : Int)] 84)
 rw [World.size_alloc] at hN
 obtain ⟨g, off, hY, d0, d1, d2, d3, d4⟩ := I.fun_at h.ry hk
 have hf := h.hf _ (List.getElem_mem hk)
 have hlf := hl.fn _ (List.getElem_mem hk)
 have hly := h.ly
 have hy := hl.ny
 dsimp only at hly hY hy
 subst hY
 generalize fs[k] = fe at *
 obtain ⟨⟨Sg, A, na, ca, B, nb, cb, Lc, nl, cl, D, nd, cd⟩, f⟩ := fe
 dsimp only at *
 have hnd := hlf.nd
 dsimp only at hnd
 obtain ⟨gd, od, hD, hcd⟩ := C.rdJ_at hf.rd (Nat.lt_of_le_of_lt (Nat.zero_le _) hj)
 obtain ⟨j0, j1, j2⟩ := hcd j hj
 have hld := hf.ld
 dsimp only at hD
 subst hD
 have i0 := k0.cell j0 id
 have i1 := k0.cell j1 id
 have i2 := k0.cell j2 id
 clear hcd j0 j1 j2
 generalize f.bd[j] = x at *
 obtain ⟨op, aa, cc⟩ := x
 dsimp only [O.instV] at *
 have hjn : j < nd := by rw [← hld]; exact hj
 have hji : (j : Int) < (nd : Int) := by omega
 have HX : Hid (str TI ++ str TB = str (TI ++ TB)) := str_app _ _
 rw [← HX.out]
 have hz1 := str_size TI
 have hz2 := str_size TB
 have HIns := HIns0
 have HBh := HBh0
 have q1 : (str TI).size ≤ 100 := by omega
 have q2 : (str TB).size ≤ 100 := by omega
 generalize str TI = T at *
 generalize str TB = U at *
 have u1 : ¬ 9223372036854775807 < T.size + U.size := by omega
 have e0 := k0.cell d0 id
 have e1 := k0.cell d1 id
 have e2 := k0.cell d2 id
 have e3 := k0.cell d3 id
 have e4 := k0.cell d4 id
 have hlt : (k : Int) < (ny : Int) := by omega
 have hkn : k < ny := by omega
 have s0 := hB.cell 0
 have s1 := hB.cell 1
 simp only [List.getElem?_toArray, List.getElem?_cons_zero, List.getElem?_cons_succ] at s0 s1
 have n0 := hN.cell 0
 have n1 := hN.cell 1
 have n2 := hN.cell 2
 have n3 := hN.cell 3
 simp only [List.getElem?_toArray, List.getElem?_cons_zero, List.getElem?_cons_succ] at n0 n1 n2 n3
 generalize hW0 : (w.alloc (.cells #[.slice X nx cx, .slice (some ⟨g, off, none⟩) ny cy, .map lm, .func (.func og) #[] ob, .func (.func bg) #[] #[]] 72)).alloc (.cells #[.int .i64 4, .int .i64 0, .int .i64 (k : Int), .int .i64 (j : Int)] 84) = W0 at *
 have hz0 : W0.heap.size = w.heap.size + 1 + 1 := by rw [← hW0]; simp
 have h5 := Blk.new W0 37 #[.string Sg, .slice A na ca, .slice B nb cb, .slice Lc nl cl, .slice (some ⟨gd, od, none⟩) nd cd]
 have k5 := k0.alloc (.cells #[.string Sg, .slice A na ca, .slice B nb cb, .slice Lc nl cl, .slice (some ⟨gd, od, none⟩) nd cd] 37)
 have hN5 := hN.alloc (.cells #[.string Sg, .slice A na ca, .slice B nb cb, .slice Lc nl cl, .slice (some ⟨gd, od, none⟩) nd cd] 37)
 have hB5 := hB.alloc (.cells #[.string Sg, .slice A na ca, .slice B nb cb, .slice Lc nl cl, .slice (some ⟨gd, od, none⟩) nd cd] 37)
 rw [hz0] at h5
 have c0 := h5.cell 0
 have c1 := h5.cell 1
 have c2 := h5.cell 2
 have c3 := h5.cell 3
 have c4 := h5.cell 4
 simp only [List.getElem?_toArray, List.getElem?_cons_zero, List.getElem?_cons_succ] at c0 c1 c2 c3 c4
 have m0 := hN5.cell 0
 have m1 := hN5.cell 1
 have m2 := hN5.cell 2
 have m3 := hN5.cell 3
 simp only [List.getElem?_toArray, List.getElem?_cons_zero, List.getElem?_cons_succ] at m0 m1 m2 m3
 have i0 := (Keep.refl NoB W0).alloc (.cells #[.string Sg, .slice A na ca, .slice B nb cb, .slice Lc nl cl, .slice (some ⟨gd, od, none⟩) nd cd] 37) |>.cell i0 id
 have i1 := (Keep.refl NoB W0).alloc (.cells #[.string Sg, .slice A na ca, .slice B nb cb, .slice Lc nl cl, .slice (some ⟨gd, od, none⟩) nd cd] 37) |>.cell i1 id
 have i2 := (Keep.refl NoB W0).alloc (.cells #[.string Sg, .slice A na ca, .slice B nb cb, .slice Lc nl cl, .slice (some ⟨gd, od, none⟩) nd cd] 37) |>.cell i2 id
 have s0 := hB5.cell 0
 have s1 := hB5.cell 1
 have s2 := hB5.cell 2
 have s3 := hB5.cell 3
 have s4 := hB5.cell 4
 simp only [List.getElem?_toArray, List.getElem?_cons_zero, List.getElem?_cons_succ] at s0 s1 s2 s3 s4
 clear h hl hf hlf hly hy HX hz1 hz2 hB hN d0 d1 d2 d3 d4 h5 hB5 hN5 hnd hld HIns0 HBh0 hI1 hB1 hj
 go_enter Tryz.func80, Tryz.ntmps80
 go_wp2_with fail
 generalize hW5 : W0.alloc (.cells #[.string Sg, .slice A na ca, .slice B nb cb, .slice Lc nl cl, .slice (some ⟨gd, od, none⟩) nd cd] 37) = W5 at *
 clear hW5
 refine wp_region_tail (fun i => [53, 54, 55, 56, 57, 58, 59, 60, 61, 62, 63, 64, 65, 66, 67, 68, 69, 70, 71, 4].getD i 0) 20 (by kernel_rfl) (by kernel_rfl) (by kernel_rfl) (by kernel_rfl) (by kernel_rfl) (SSy4 w.heap.size (w.heap.size + 1) (w.heap.size + 1 + 1) (.agg #[.slice X nx cx, .slice (some ⟨g, off, none⟩) ny cy, .map lm, .func (.func og) #[] ob, .func (.func bg) #[] #[]]) bg k j gd od nd cd (.agg #[.int .i64 op, .int .i64 aa, .int .i64 cc]) T U) (fun i u x y h hk => SSy4_stable _ _ _ _ _ _ _ _ _ _ _ _ _ _ i u x y h hk) rfl ?step ?fin
 case step =>
  intro i o a w' hoo hi hF hK hA
  by_cases h0 : i = 0
  ·subst h0
   simp only [List.getElem?_toArray, List.getElem?_cons_zero, Option.some.injEq] at hoo
   subst hoo
   have e2 : a.tmps.getD 2 undef = .pointer (some ⟨w.heap.size, 0, none⟩) := hF.2.2 2 (by decide)
   have z0 := Keep.cell hK s0 id
   have z1 := Keep.cell hK s1 id
   have z2 := Keep.cell hK s2 id
   have z3 := Keep.cell hK s3 id
   have z4 := Keep.cell hK s4 id
   refine Does.plain rfl ?_
   unfold yieldsK
   go_simp
   exact ⟨rfl, Keep.refl _ _⟩
  by_cases h1 : i = 1
  ·subst h1
   simp only [List.getElem?_toArray, List.getElem?_cons_zero, List.getElem?_cons_succ, Option.some.injEq] at hoo
   subst hoo
   have e3 : a.tmps.getD 3 undef = .pointer (some ⟨w.heap.size + 1, 0, none⟩) := hF.2.2 3 (by decide)
   refine Does.plain rfl ?_
   unfold yieldsK
   go_simp
   exact ⟨rfl, Keep.refl _ _⟩
  by_cases h2 : i = 2
  ·subst h2
   simp only [List.getElem?_toArray, List.getElem?_cons_zero, List.getElem?_cons_succ, Option.some.injEq] at hoo
   subst hoo
   have e54 : a.tmps.getD 54 undef = .pointer (some ⟨w.heap.size + 1, 2, none⟩) := hA ⟨1, .data⟩ (by simp) rfl
   refine Does.plain rfl ?_
   unfold yieldsK
   go_simp
   exact ⟨rfl, Keep.refl _ _⟩
  by_cases h3 : i = 3
  ·subst h3
   simp only [List.getElem?_toArray, List.getElem?_cons_zero, List.getElem?_cons_succ, Option.some.injEq] at hoo
   subst hoo
   have e55 : a.tmps.getD 55 undef = .pointer (some ⟨w.heap.size + 1, 2, none⟩) := hA ⟨2, .data⟩ (by simp) rfl
   have z2 := Keep.cell hK m2 id
   refine Does.plain rfl ?_
   unfold yieldsK
   go_simp
   exact ⟨rfl, Keep.refl _ _⟩
  by_cases h4 : i = 4
  ·subst h4
   simp only [List.getElem?_toArray, List.getElem?_cons_zero, List.getElem?_cons_succ, Option.some.injEq] at hoo
   subst hoo
   have e5 : a.tmps.getD 5 undef = .pointer (some ⟨w.heap.size + 1 + 1, 0, none⟩) := hF.2.2 5 (by decide)
   refine Does.plain rfl ?_
   unfold yieldsK
   go_simp
   exact ⟨rfl, Keep.refl _ _⟩
  by_cases h5 : i = 5
  ·subst h5
   simp only [List.getElem?_toArray, List.getElem?_cons_zero, List.getElem?_cons_succ, Option.some.injEq] at hoo
   subst hoo
   have e57 : a.tmps.getD 57 undef = .pointer (some ⟨w.heap.size + 1 + 1, 4, none⟩) := hA ⟨4, .data⟩ (by simp) rfl
   have z4 := Keep.cell hK c4 id
   refine Does.plain rfl ?_
   unfold yieldsK
   go_simp
   exact ⟨rfl, Keep.refl _ _⟩
  by_cases h6 : i = 6
  ·subst h6
   simp only [List.getElem?_toArray, List.getElem?_cons_zero, List.getElem?_cons_succ, Option.some.injEq] at hoo
   subst hoo
   have e3 : a.tmps.getD 3 undef = .pointer (some ⟨w.heap.size + 1, 0, none⟩) := hF.2.2 3 (by decide)
   refine Does.plain rfl ?_
   unfold yieldsK
   go_simp
   exact ⟨rfl, Keep.refl _ _⟩
  by_cases h7 : i = 7
  ·subst h7
   simp only [List.getElem?_toArray, List.getElem?_cons_zero, List.getElem?_cons_succ, Option.some.injEq] at hoo
   subst hoo
   have e59 : a.tmps.getD 59 undef = .pointer (some ⟨w.heap.size + 1, 2, none⟩) := hA ⟨6, .data⟩ (by simp) rfl
   refine Does.plain rfl ?_
   unfold yieldsK
   go_simp
   exact ⟨rfl, Keep.refl _ _⟩
  by_cases h8 : i = 8
  ·subst h8
   simp only [List.getElem?_toArray, List.getElem?_cons_zero, List.getElem?_cons_succ, Option.some.injEq] at hoo
   subst hoo
   have e60 : a.tmps.getD 60 undef = .pointer (some ⟨w.heap.size + 1, 3, none⟩) := hA ⟨7, .data⟩ (by simp) rfl
   have z3 := Keep.cell hK m3 id
   refine Does.plain rfl ?_
   unfold yieldsK
   go_simp
   exact ⟨rfl, Keep.refl _ _⟩
  by_cases h9 : i = 9
  ·subst h9
   simp only [List.getElem?_toArray, List.getElem?_cons_zero, List.getElem?_cons_succ, Option.some.injEq] at hoo
   subst hoo
   have e58 : a.tmps.getD 58 undef = .slice (some ⟨gd, od, none⟩) nd cd := hA ⟨5, .data⟩ (by simp) rfl
   have e61 : a.tmps.getD 61 undef = .int .i64 (j : Int) := hA ⟨8, .data⟩ (by simp) rfl
   refine Does.plain rfl ?_
   unfold yieldsK
   go_simp
   exact ⟨rfl, Keep.refl _ _⟩
  by_cases h10 : i = 10
  ·subst h10
   simp only [List.getElem?_toArray, List.getElem?_cons_zero, List.getElem?_cons_succ, Option.some.injEq] at hoo
   subst hoo
   have e62 : a.tmps.getD 62 undef = .pointer (some ⟨gd, od + j * 3, none⟩) := hA ⟨9, .data⟩ (by simp) rfl
   have z0 := Keep.cell hK i0 id
   have z1 := Keep.cell hK i1 id
   have z2 := Keep.cell hK i2 id
   refine Does.plain rfl ?_
   unfold yieldsK
   go_simp
   exact ⟨rfl, Keep.refl _ _⟩
  by_cases h11 : i = 11
  ·subst h11
   simp only [List.getElem?_toArray, List.getElem?_cons_zero, List.getElem?_cons_succ, Option.some.injEq] at hoo
   subst hoo
   have e53 : a.tmps.getD 53 undef = (.agg #[.slice X nx cx, .slice (some ⟨g, off, none⟩) ny cy, .map lm, .func (.func og) #[] ob, .func (.func bg) #[] #[]] : Value) := hA ⟨0, .data⟩ (by simp) rfl
   have e56 : a.tmps.getD 56 undef = .int .i64 (k : Int) := hA ⟨3, .data⟩ (by simp) rfl
   have e63 : a.tmps.getD 63 undef = (.agg #[.int .i64 op, .int .i64 aa, .int .i64 cc] : Value) := hA ⟨10, .data⟩ (by simp) rfl
   refine Does.plain rfl ?_
   unfold yieldsK
   go_simp
   refine (HIns.out w' (keepN k5 hK)).mono ?_
   rintro e w9 ⟨rfl, hk9⟩
   exact ⟨_, rfl, rfl, hk9⟩
  by_cases h12 : i = 12
  ·subst h12
   simp only [List.getElem?_toArray, List.getElem?_cons_zero, List.getElem?_cons_succ, Option.some.injEq] at hoo
   subst hoo
   have e2 : a.tmps.getD 2 undef = .pointer (some ⟨w.heap.size, 0, none⟩) := hF.2.2 2 (by decide)
   refine Does.plain rfl ?_
   unfold yieldsK
   go_simp
   exact ⟨rfl, Keep.refl _ _⟩
  by_cases h13 : i = 13
  ·subst h13
   simp only [List.getElem?_toArray, List.getElem?_cons_zero, List.getElem?_cons_succ, Option.some.injEq] at hoo
   subst hoo
   have e65 : a.tmps.getD 65 undef = .pointer (some ⟨w.heap.size, 4, none⟩) := hA ⟨12, .data⟩ (by simp) rfl
   have z4 := Keep.cell hK s4 id
   refine Does.plain rfl ?_
   unfold yieldsK
   go_simp
   exact ⟨rfl, Keep.refl _ _⟩
  by_cases h14 : i = 14
  ·subst h14
   simp only [List.getElem?_toArray, List.getElem?_cons_zero, List.getElem?_cons_succ, Option.some.injEq] at hoo
   subst hoo
   have e3 : a.tmps.getD 3 undef = .pointer (some ⟨w.heap.size + 1, 0, none⟩) := hF.2.2 3 (by decide)
   refine Does.plain rfl ?_
   unfold yieldsK
   go_simp
   exact ⟨rfl, Keep.refl _ _⟩
  by_cases h15 : i = 15
  ·subst h15
   simp only [List.getElem?_toArray, List.getElem?_cons_zero, List.getElem?_cons_succ, Option.some.injEq] at hoo
   subst hoo
   have e67 : a.tmps.getD 67 undef = .pointer (some ⟨w.heap.size + 1, 2, none⟩) := hA ⟨14, .data⟩ (by simp) rfl
   refine Does.plain rfl ?_
   unfold yieldsK
   go_simp
   exact ⟨rfl, Keep.refl _ _⟩
  by_cases h16 : i = 16
  ·subst h16
   simp only [List.getElem?_toArray, List.getElem?_cons_zero, List.getElem?_cons_succ, Option.some.injEq] at hoo
   subst hoo
   have e68 : a.tmps.getD 68 undef = .pointer (some ⟨w.heap.size + 1, 3, none⟩) := hA ⟨15, .data⟩ (by simp) rfl
   have z3 := Keep.cell hK m3 id
   refine Does.plain rfl ?_
   unfold yieldsK
   go_simp
   exact ⟨rfl, Keep.refl _ _⟩
  by_cases h17 : i = 17
  ·subst h17
   simp only [List.getElem?_toArray, List.getElem?_cons_zero, List.getElem?_cons_succ, Option.some.injEq] at hoo
   subst hoo
   have e66 : a.tmps.getD 66 undef = .func (.func bg) #[] #[] := hA ⟨13, .data⟩ (by simp) rfl
   have e69 : a.tmps.getD 69 undef = .int .i64 (j : Int) := hA ⟨16, .data⟩ (by simp) rfl
   refine Does.plain rfl ?_
   unfold yieldsK
   go_simp
   refine (HBh.out w' (keepN k5 hK)).mono ?_
   rintro e w9 ⟨rfl, hk9⟩
   exact ⟨_, rfl, rfl, hk9⟩
  by_cases h18 : i = 18
  ·subst h18
   simp only [List.getElem?_toArray, List.getElem?_cons_zero, List.getElem?_cons_succ, Option.some.injEq] at hoo
   subst hoo
   have e64 : a.tmps.getD 64 undef = .string T := hA ⟨11, .data⟩ (by simp) rfl
   have e70 : a.tmps.getD 70 undef = .string U := hA ⟨17, .data⟩ (by simp) rfl
   refine Does.plain rfl ?_
   unfold yieldsK
   go_simp
   exact ⟨rfl, Keep.refl _ _⟩
  by_cases h19 : i = 19
  ·subst h19
   simp only [List.getElem?_toArray, List.getElem?_cons_zero, List.getElem?_cons_succ, Option.some.injEq] at hoo
   subst hoo
   have e71 : a.tmps.getD 71 undef = .string (T ++ U) := hA ⟨18, .data⟩ (by simp) rfl
   refine Does.plain rfl ?_
   unfold yieldsK
   go_simp
   exact ⟨rfl, Keep.refl _ _⟩
  omega
 case fin =>
  intro a w' hF gK hA
  have e4 : a.tmps.getD 4 undef = .string (T ++ U) := hA 19 (by decide)
  have ha := frameD_list (l := [53, 54, 55, 56, 57, 58, 59, 60, 61, 62, 63, 64, 65, 66, 67, 68, 69, 70, 71, 4]) rfl hF
  rw [ha]
  simp only [List.map_cons, List.map_nil, e4]
  generalize a.tmps.getD 53 undef = u0
  generalize a.tmps.getD 54 undef = u1
  generalize a.tmps.getD 55 undef = u2
  generalize a.tmps.getD 56 undef = u3
  generalize a.tmps.getD 57 undef = u4
  generalize a.tmps.getD 58 undef = u5
  generalize a.tmps.getD 59 undef = u6
  generalize a.tmps.getD 60 undef = u7
  generalize a.tmps.getD 61 undef = u8
  generalize a.tmps.getD 62 undef = u9
  generalize a.tmps.getD 63 undef = u10
  generalize a.tmps.getD 64 undef = u11
  generalize a.tmps.getD 65 undef = u12
  generalize a.tmps.getD 66 undef = u13
  generalize a.tmps.getD 67 undef = u14
  generalize a.tmps.getD 68 undef = u15
  generalize a.tmps.getD 69 undef = u16
  generalize a.tmps.getD 70 undef = u17
  generalize a.tmps.getD 71 undef = u18
  simp only [fillD, List.setIfInBounds_toArray, List.set_cons_zero, List.set_cons_succ]
  simp only [List.drop_succ_cons, List.drop_zero]
  go_wp2
  go_ret
  exact ⟨rfl, keepN k5 gK⟩
end Go.Proofs.YtgnooffedmeenaaGreatDoor.M.L
