/-
  Part 14 of the proofs of LNamesRow, LOneRow: what is laid, and what the functions that the law runs answer. Conditions: each theorem names its own.
-/
import Derived.Test.YtgnooffedmeenaaGreatDoorQC13
namespace Go.Proofs.YtgnooffedmeenaaGreatDoor.M.L
open Go.RowKit W

def someF : F.Fu := ⟨[109, 97, 105, 110], [], [], [], [(1, 1, 0), (19, 0, 0), (20, 0, 0), (24, 0, 0)]⟩
def someFV (m : Nat) : F.FV := ⟨⟨#[109, 97, 105, 110]⟩, none, 0, 0, none, 0, 0, none, 0, 0, some ⟨m + 1 + 1 + 1, 0, none⟩, 4, 4⟩
def someSV (m : Nat) : I.SV := ⟨some ⟨m + 1, 0, none⟩, 2, 2⟩
def someV (m : Nat) : I.IV := ⟨some ⟨m + 1 + 1, 0, none⟩, 1, 1, some ⟨m + 1 + 1 + 1 + 1, 0, none⟩, 1, 1⟩
theorem somef_I : C.AllI someF.bd := by
 intro x hx
 unfold O.I64
 simp only [someF, List.mem_cons, List.not_mem_nil, or_false] at hx
 rcases hx with rfl | rfl | rfl | rfl <;> decide
def someC : Array Value := #[.int .i64 1, .int .i64 1, .int .i64 0, .int .i64 19, .int .i64 0, .int .i64 0, .int .i64 20, .int .i64 0, .int .i64 0, .int .i64 24, .int .i64 0, .int .i64 0]
set_option maxRecDepth 100000 in
set_option maxHeartbeats 4000000 in
theorem some_any (w : World) : Calls Tryz.prog 27 #[] w fun e w' => e = .returned (someV w.heap.size).val ∧ I.OwnIm w' (Fresh w) (someV w.heap.size) [(someSV w.heap.size, [1, 2])] [(someFV w.heap.size, someF)] ∧ Keep NoB w w' := by
 have k1 := (Keep.refl NoB w).alloc (.cells (someV w.heap.size).cells 25)
 have k2 := k1.alloc (.cells #[.int .i64 1, .int .i64 2] 3)
 have k3 := k2.alloc (.cells #[.slice (some ⟨w.heap.size + 1, 0, none⟩) 2 2] 68)
 have k4 := k3.alloc (.cells someC 55)
 have k5 := k4.alloc (.cells (someFV w.heap.size).cells 37)
 have bz := ((((Blk.new w 25 (someV w.heap.size).cells).alloc (.cells #[.int .i64 1, .int .i64 2] 3)).alloc (.cells #[.slice (some ⟨w.heap.size + 1, 0, none⟩) 2 2] 68)).alloc (.cells someC 55)).alloc (.cells (someFV w.heap.size).cells 37)
 obtain ⟨W1, hW1⟩ : ∃ W1, w.alloc (.cells (someV w.heap.size).cells 25) = W1 := ⟨_, rfl⟩
 rw [hW1] at k1 k2 k3 k4 k5 bz
 have z1 : W1.heap.size = w.heap.size + 1 := by rw [← hW1]; simp
 have a1 := I.made_own (w := W1) (E := 3) (size := 1) (n := 2) (b := w.heap.size + 1) (cs := #[.int .i64 1, .int .i64 2]) (xs := ivs [1, 2]) (P := Fresh w) z1.symm rfl (by decide) rfl (by unfold Fresh; omega)
 obtain ⟨W2, hW2⟩ : ∃ W2, W1.alloc (.cells #[.int .i64 1, .int .i64 2] 3) = W2 := ⟨_, rfl⟩
 rw [hW2] at k2 k3 k4 k5 bz a1
 have z2 : W2.heap.size = w.heap.size + 1 + 1 := by rw [← hW2]; simp [z1]
 have a2 := I.made_own (w := W2) (E := 68) (size := 1) (n := 1) (b := w.heap.size + 1 + 1) (cs := #[.slice (some ⟨w.heap.size + 1, 0, none⟩) 2 2]) (xs := I.svs [(someSV w.heap.size, [1, 2])]) (P := Fresh w) z2.symm rfl (by decide) rfl (by unfold Fresh; omega)
 obtain ⟨W3, hW3⟩ : ∃ W3, W2.alloc (.cells #[.slice (some ⟨w.heap.size + 1, 0, none⟩) 2 2] 68) = W3 := ⟨_, rfl⟩
 rw [hW3] at k3 k4 k5 bz a2
 have z3 : W3.heap.size = w.heap.size + 1 + 1 + 1 := by rw [← hW3]; simp [z2]
 have a3 := I.made_own (w := W3) (E := 55) (size := 3) (n := 4) (b := w.heap.size + 1 + 1 + 1) (cs := someC) (xs := C.iis someF.bd) (P := Fresh w) z3.symm rfl (by decide) rfl (by unfold Fresh; omega)
 obtain ⟨W4, hW4⟩ : ∃ W4, W3.alloc (.cells someC 55) = W4 := ⟨_, rfl⟩
 rw [hW4] at k4 k5 bz a3
 have z4 : W4.heap.size = w.heap.size + 1 + 1 + 1 + 1 := by rw [← hW4]; simp [z3]
 have a4 := I.made_own (w := W4) (E := 37) (size := 5) (n := 1) (b := w.heap.size + 1 + 1 + 1 + 1) (cs := (someFV w.heap.size).cells) (xs := I.fvs [(someFV w.heap.size, someF)]) (P := Fresh w) z4.symm rfl (by decide) rfl (by unfold Fresh; omega)
 have q4 := (Keep.refl NoB W4).alloc (.cells (someFV w.heap.size).cells 37)
 have q3 : Keep NoB W3 (W4.alloc (.cells (someFV w.heap.size).cells 37)) := by
  have h := (Keep.refl NoB W3).alloc (.cells someC 55)
  rw [hW4] at h
  exact keepN h q4
 have q2 : Keep NoB W2 (W4.alloc (.cells (someFV w.heap.size).cells 37)) := by
  have h := (Keep.refl NoB W2).alloc (.cells #[.slice (some ⟨w.heap.size + 1, 0, none⟩) 2 2] 68)
  rw [hW3] at h
  exact keepN h q3
 have b1 := a1.keepN q2
 have b2 := a2.keepN q3
 have b3 := a3.keepN q4
 have HO := Lib.hid (And.intro b1 (And.intro b2 (And.intro b3 a4)))
 have HB := Lib.hid bz
 have HK := Lib.hid k5
 clear a1 a2 a3 a4 b1 b2 b3 k1 k2 k3 k4 k5 bz q4 q3 q2 z1 z2 z3 z4
 subst hW1 hW2 hW3 hW4
 unfold I.IV.cells someV someFV F.FV.cells someSV someC at *
 dsimp only at *
 go_enter Tryz.func27, Tryz.ntmps27
 go_wp2
 refine bodyPost_ret (I.ret_img (v := ⟨some ⟨w.heap.size + 1 + 1, 0, none⟩, 1, 1, some ⟨w.heap.size + 1 + 1 + 1 + 1, 0, none⟩, 1, 1⟩) rfl rfl HB.out) rfl ?_
 obtain ⟨b1, b2, b3, b4⟩ := HO.out
 refine ⟨rfl, ⟨b2, b4, fun e he => ?_, fun e he => ?_⟩, HK.out⟩
 ·obtain rfl := List.mem_singleton.1 he
  exact b1
 ·obtain rfl := List.mem_singleton.1 he
  exact ⟨rfl, Own.nil _ _ _ _, Own.nil _ _ _ _, Own.nil _ _ _ _, b3, somef_I⟩

end Go.Proofs.YtgnooffedmeenaaGreatDoor.M.L

namespace Go.Proofs.YtgnooffedmeenaaGreatDoor.M.L
open Go.RowKit W

def someI : I.Im := ⟨[[1, 2]], [someF]⟩
theorem some_line : (lineN (cutP someI) 0 1 : Nat) = 5 ∧ lineE (cutP someI) 0 1 = 0 := by decide +kernel
theorem some_place3 : placeR (cutP someI) 3 = (0, 0, 100) := by decide +kernel
theorem some_place4 : placeR (cutP someI) 4 = (0, 0, 0) := by decide +kernel
theorem some_plain : textL 1 someI = [115, 104, 97, 112, 101, 32, 73, 82, 10, 102, 117, 110, 99, 32, 109, 97, 105, 110, 32, 62, 10, 105, 110, 116, 32, 49, 10, 106, 122, 32, 48, 10, 99, 97, 108, 108, 32, 48, 10, 114, 101, 116, 10] := by decide +kernel
theorem some_list : textL 0 someI = [115, 104, 97, 112, 101, 32, 73, 82, 10, 102, 117, 110, 99, 32, 109, 97, 105, 110, 32, 62, 10, 76, 48, 58, 10, 105, 110, 116, 32, 49, 10, 106, 122, 32, 76, 48, 10, 99, 97, 108, 108, 32, 109, 97, 105, 110, 10, 114, 101, 116, 10] := by decide +kernel
theorem some_lg (m : Nat) : I.LgI (someV m) [(someSV m, [1, 2])] [(someFV m, someF)] := ⟨by show 1 ≤ _; omega, by show 1 ≤ _; omega, fun e he => by
 obtain rfl := List.mem_singleton.1 he
 show 2 ≤ _; omega, fun e he => by
 obtain rfl := List.mem_singleton.1 he
 exact ⟨by show 4 ≤ _; omega, Nat.zero_le _, Nat.zero_le _, Nat.zero_le _, by show 4 ≤ _; omega⟩⟩

set_option maxRecDepth 100000 in
set_option maxHeartbeats 4000000 in
theorem alive_any (w : World) (hL : O.LaidO w) : Calls Tryz.prog 29 #[] w fun e w' => e = .returned (.bool true) ∧ Keep NoB w w' := by
 have HL := Lib.hid (fun W (hk : Keep NoB w W) => hL.keep hk)
 have HS := Lib.hid (some_any w)
 clear hL
 go_enter Tryz.func29, Tryz.ntmps29
 go_wp2_with fail
 refine HS.out.mono ?_
 rintro e w1 ⟨rfl, hO, k1⟩
 have hI := hO.im
 have hg := some_lg w.heap.size
 generalize someV w.heap.size = v at *
 obtain ⟨es, hes⟩ : ∃ es, [(someSV w.heap.size, ([1, 2] : List Int))] = es := ⟨_, rfl⟩
 obtain ⟨fs, hfs⟩ : ∃ fs, [(someFV w.heap.size, someF)] = fs := ⟨_, rfl⟩
 have hie : I.imOf es fs = someI := by rw [← hes, ← hfs]; rfl
 rw [hes, hfs] at hI hg
 clear hes hfs hO HS
 have HLi := Lib.hid (fun W (hk : Keep NoB w1 W) => line_any v es fs 0 1 W (hI.keepN hk) hg)
 have HP3 := Lib.hid (fun W (hk : Keep NoB w1 W) => place_any v es fs 3 W (hI.keepN hk) hg)
 have HP4 := Lib.hid (fun W (hk : Keep NoB w1 W) => place_any v es fs 4 W (hI.keepN hk) hg)
 have HPl := Lib.hid (fun W (hk : Keep NoB w1 W) => plainApi_any v es fs W (hI.keepN hk) hg (HL.out _ (keepN k1 hk)))
 have HLs := Lib.hid (fun W (hk : Keep NoB w1 W) => listApi_any v es fs W (hI.keepN hk) hg (HL.out _ (keepN k1 hk)))
 rw [hie, some_line.1, some_line.2] at HLi
 rw [hie, some_place3] at HP3
 rw [hie, some_place4] at HP4
 rw [hie, some_plain] at HPl
 rw [hie, some_list] at HLs
 clear hI hg hie
 obtain ⟨X, nx, cx, Y, ny, cy⟩ := v
 dsimp only [I.IV.val, I.IV.cells] at *
 have bx := Blk.new w1 25 #[.slice X nx cx, .slice Y ny cy]
 have gK := (Keep.refl NoB w1).alloc (.cells #[.slice X nx cx, .slice Y ny cy] 25)
 obtain ⟨c0, c1⟩ := And.intro (bx.cell 0) (bx.cell 1)
 simp only [List.getElem?_toArray, List.getElem?_cons_zero, List.getElem?_cons_succ] at c0 c1
 have HB : Hid (∀ W, Keep NoB (w1.alloc (.cells #[.slice X nx cx, .slice Y ny cy] 25)) W → W.cell? ⟨w1.heap.size, 0, none⟩ = some (.slice X nx cx) ∧ W.cell? ⟨w1.heap.size, 1, none⟩ = some (.slice Y ny cy)) := fun W hk => ⟨hk.cell c0 id, hk.cell c1 id⟩
 clear bx
 go_wp2_with fail
 refine (HLi.out _ gK).mono ?_
 rintro e w2 ⟨rfl, k2⟩
 clear c0 c1
 obtain ⟨c0, c1⟩ := HB.out _ k2
 have g2 := keepN gK k2
 go_wp2_with fail
 refine (HP3.out _ g2).mono ?_
 rintro e w3 ⟨rfl, k3⟩
 clear c0 c1
 have q3 := keepN k2 k3
 obtain ⟨c0, c1⟩ := HB.out _ q3
 have g3 := keepN gK q3
 clear k2 k3 g2
 go_wp2_with fail
 refine (HP4.out _ g3).mono ?_
 rintro e w4 ⟨rfl, k4⟩
 clear c0 c1
 have q4 := keepN q3 k4
 obtain ⟨c0, c1⟩ := HB.out _ q4
 have g4 := keepN gK q4
 clear q3 k4 g3
 go_wp2_with fail
 refine (HPl.out _ g4).mono ?_
 rintro e w5 ⟨rfl, k5⟩
 clear c0 c1
 have q5 := keepN q4 k5
 obtain ⟨c0, c1⟩ := HB.out _ q5
 have g5 := keepN gK q5
 clear q4 k5 g4
 go_wp2_with fail
 refine (HLs.out _ g5).mono ?_
 rintro e w6 ⟨rfl, k6⟩
 clear c0 c1
 have q6 := keepN k1 (keepN g5 k6)
 clear q5 k6 g5
 go_wp2
 go_ret
 exact ⟨rfl, q6⟩

end Go.Proofs.YtgnooffedmeenaaGreatDoor.M.L

namespace Go.Proofs.YtgnooffedmeenaaGreatDoor.I
open Go.RowKit W

theorem row_not {W : World} {sz k : Nat} {E F : TypeId} {P : Nat → Prop} {v : Value} {xs : List Value} (hrow : Own W E sz P v k xs) (h : F ≠ E) : ∀ j, v.ownBlock = some j → ∀ cs f, W.heap[j]? ≠ some (.cells cs F f) := fun j e cs f h3 => by
 rcases hrow.1.2 with ⟨rfl, _⟩ | ⟨g2, cap, cur, rfl, _, hh, _⟩
 ·simp [Value.ownBlock] at e
 ·obtain rfl : g2 = j := by simpa [Value.ownBlock] using e
  rw [hh] at h3
  cases h3
  exact h rfl
theorem row_more {w W W5 : World} {E sz k m : Nat} {v v' : Value} {xs ys : List Value} (hrow : Own W E sz (Fresh w) v k xs) (hk : Keep NoB w W) (hg : W.grownBy W5 v.ownBlock) (hrow5 : W5.ownsRow 0 E sz v' m ys) (hv5 : v'.ownBlock = v.ownBlock ∨ v'.ownBlock = some W.heap.size) :
  Own W5 E sz (Fresh w) v' m ys ∧ Keep NoB w W5 ∧ Keep (fun j => v.ownBlock = some j) W W5 := by
 have hk5 : Keep (fun j => v.ownBlock = some j) W W5 := (Keep.refl _ W).grown hg (fun j e _ => e)
 refine ⟨⟨hrow5, fun j e => ?_⟩, hk.trans hk5 (fun j e hl => ?_), hk5⟩
 ·rcases hv5 with h | h
  ·exact hrow.2 j (h ▸ e)
  ·rw [h] at e; cases e; exact hk.size
 ·have := hrow.2 j e
  unfold Fresh at this
  omega

end Go.Proofs.YtgnooffedmeenaaGreatDoor.I

namespace Go.Proofs.YtgnooffedmeenaaGreatDoor.I
open Go.RowKit W

end Go.Proofs.YtgnooffedmeenaaGreatDoor.I

namespace Go.Proofs.YtgnooffedmeenaaGreatDoor.F
open Go.RowKit W

end Go.Proofs.YtgnooffedmeenaaGreatDoor.F

namespace Go.Proofs.YtgnooffedmeenaaGreatDoor.I
open Go.RowKit W

end Go.Proofs.YtgnooffedmeenaaGreatDoor.I

namespace Go.Proofs.YtgnooffedmeenaaGreatDoor.I
open Go.RowKit W

end Go.Proofs.YtgnooffedmeenaaGreatDoor.I

namespace Go.Proofs.YtgnooffedmeenaaGreatDoor.I
open Go.RowKit W

structure GI (W : World) (hi g : Nat) (p : Im) (v : IV) (es : List SE) (fs : List FE) : Prop where
 b : Blk W g 25 v.cells
 lt : g < hi
 o : OwnIm W (fun k => k < hi) v es fs
 e : imOf es fs = p
theorem GI.mono {W : World} {hi hi' g : Nat} {p : Im} {v : IV} {es : List SE} {fs : List FE} (h : GI W hi g p v es fs) (hh : hi ≤ hi') : GI W hi' g p v es fs :=
 ⟨h.b, Nat.lt_of_lt_of_le h.lt hh, h.o.mono (fun _ hk _ => Nat.lt_of_lt_of_le hk hh), h.e⟩
end Go.Proofs.YtgnooffedmeenaaGreatDoor.I

namespace Go.Proofs.YtgnooffedmeenaaGreatDoor.M.L
open Go.RowKit W

def fF : F.Fu := ⟨[102], [4], [1], [2, 3], [(18, 3, 0), (11, 1, 0), (23, 9, 0), (29, 0, 0), (19, 1, 0), (24, 0, 0)]⟩
def fE : F.Fu := ⟨[102], [4], [1], [2, 3], []⟩
def twoI : I.Im := ⟨[[1, 2]], [someF, fF]⟩
theorem two_l1 : (lineN (cutP twoI) 1 0 : Nat) = 10 ∧ lineE (cutP twoI) 1 0 = 0 := by decide +kernel
theorem two_l2 : (lineN (cutP twoI) 1 5 : Nat) = 17 ∧ lineE (cutP twoI) 1 5 = 0 := by decide +kernel
theorem two_l3 : lineE (cutP twoI) 1 6 = 100 := by decide +kernel
theorem two_l4 : lineE (cutP twoI) 2 0 = 100 := by decide +kernel
theorem two_l5 : lineE (cutP twoI) (-1) (-1) = 100 := by decide +kernel
theorem two_p0 : (placeR (cutP twoI) 0).2.2 = 100 := by decide +kernel
theorem two_p1 : (placeR (cutP twoI) 99).2.2 = 100 := by decide +kernel
theorem two_p2 : (placeR (cutP twoI) 1).2.2 = 100 := by decide +kernel
theorem two_p3 : placeR (cutP twoI) 17 = (1, 5, 0) := by decide +kernel
theorem two_t : tgF fF = [1, 3] := by decide +kernel
theorem two_e : tgF fE = [] := by decide +kernel
theorem two_s0 : Lib.hasSuffix (str (textL 0 twoI)).data.toList (⟨#[102, 117, 110, 99, 32, 102, 32, 80, 62, 73, 10, 108, 111, 99, 97, 108, 32, 82, 70, 10, 106, 109, 112, 32, 76, 49, 10, 76, 48, 58, 10, 102, 117, 110, 99, 32, 102, 10, 100, 101, 102, 101, 114, 105, 32, 57, 10, 76, 49, 58, 10, 105, 110, 10, 106, 122, 32, 76, 48, 10, 114, 101, 116, 10]⟩ : ByteArray).data.toList = true := by decide +kernel
theorem two_s2 : Lib.hasSuffix (str (textL 2 twoI)).data.toList (⟨#[105, 110, 32, 59, 32, 51, 10, 106, 122, 32, 49, 32, 59, 32, 52, 10, 114, 101, 116, 32, 59, 32, 53, 10]⟩ : ByteArray).data.toList = true := by decide +kernel
theorem two_z0 : (str (textL 0 twoI)).size ≤ 1000 := by decide +kernel
theorem two_z2 : (str (textL 2 twoI)).size ≤ 1000 := by decide +kernel
theorem nil_l : lineE (cutP I.nilI) 0 0 = 100 := by decide +kernel
theorem nil_t (k : Nat) : textL k I.nilI = [] := by unfold textL; rw [if_neg (by decide)]
theorem fF_I : C.AllI fF.bd := by
 intro x hx
 unfold O.I64
 simp only [fF, List.mem_cons, List.not_mem_nil, or_false] at hx
 rcases hx with rfl | rfl | rfl | rfl | rfl | rfl <;> decide
def fV (b : Nat) : F.FV := ⟨⟨#[102]⟩, some ⟨b, 0, none⟩, 1, 1, some ⟨b + 1, 0, none⟩, 1, 1, some ⟨b + 1 + 1, 0, none⟩, 2, 2, some ⟨b + 1 + 1 + 1, 0, none⟩, 6, 6⟩
def fEV (b : Nat) : F.FV := ⟨⟨#[102]⟩, some ⟨b, 0, none⟩, 1, 1, some ⟨b + 1, 0, none⟩, 1, 1, some ⟨b + 1 + 1, 0, none⟩, 2, 2, none, 0, 0⟩
def fC : Array Value := #[.int .i64 18, .int .i64 3, .int .i64 0, .int .i64 11, .int .i64 1, .int .i64 0, .int .i64 23, .int .i64 9, .int .i64 0, .int .i64 29, .int .i64 0, .int .i64 0, .int .i64 19, .int .i64 1, .int .i64 0, .int .i64 24, .int .i64 0, .int .i64 0]
theorem f_made {w : World} {P : Nat → Prop} {b : Nat} (hb : w.heap.size = b) (hP : ∀ k, b ≤ k → k < b + 4 → P k) (o1 o2 : Obj) :
  F.OwnF ((((((w.alloc (.cells #[.int .i64 4] 3)).alloc (.cells #[.int .i64 1] 3)).alloc (.cells #[.int .i64 2, .int .i64 3] 3)).alloc (.cells fC 55)).alloc o1).alloc o2) P (fV b) fF := by
 obtain ⟨W1, hW1⟩ : ∃ W1, w.alloc (.cells #[.int .i64 4] 3) = W1 := ⟨_, rfl⟩
 have z1 : W1.heap.size = b + 1 := by rw [← hW1]; simp [hb]
 have a1 := I.made_own (w := w) (E := 3) (size := 1) (n := 1) (b := b) (cs := #[.int .i64 4]) (xs := ivs [4]) (P := P) hb.symm rfl (by decide) rfl (hP _ (by omega) (by omega))
 rw [hW1] at a1 ⊢
 obtain ⟨W2, hW2⟩ : ∃ W2, W1.alloc (.cells #[.int .i64 1] 3) = W2 := ⟨_, rfl⟩
 have z2 : W2.heap.size = b + 1 + 1 := by rw [← hW2]; simp [z1]
 have a2 := I.made_own (w := W1) (E := 3) (size := 1) (n := 1) (b := b + 1) (cs := #[.int .i64 1]) (xs := ivs [1]) (P := P) z1.symm rfl (by decide) rfl (hP _ (by omega) (by omega))
 have k2 := (Keep.refl NoB W1).alloc (.cells #[.int .i64 1] 3)
 rw [hW2] at a2 k2 ⊢
 obtain ⟨W3, hW3⟩ : ∃ W3, W2.alloc (.cells #[.int .i64 2, .int .i64 3] 3) = W3 := ⟨_, rfl⟩
 have z3 : W3.heap.size = b + 1 + 1 + 1 := by rw [← hW3]; simp [z2]
 have a3 := I.made_own (w := W2) (E := 3) (size := 1) (n := 2) (b := b + 1 + 1) (cs := #[.int .i64 2, .int .i64 3]) (xs := ivs [2, 3]) (P := P) z2.symm rfl (by decide) rfl (hP _ (by omega) (by omega))
 have k3 := (Keep.refl NoB W2).alloc (.cells #[.int .i64 2, .int .i64 3] 3)
 rw [hW3] at a3 k3 ⊢
 have a4 := I.made_own (w := W3) (E := 55) (size := 3) (n := 6) (b := b + 1 + 1 + 1) (cs := fC) (xs := C.iis fF.bd) (P := P) z3.symm rfl (by decide) rfl (hP _ (by omega) (by omega))
 have k4 := (Keep.refl NoB W3).alloc (.cells fC 55)
 have k5 : Keep NoB (W3.alloc (.cells fC 55)) (((W3.alloc (.cells fC 55)).alloc o1).alloc o2) := ((Keep.refl NoB _).alloc o1).alloc o2
 have k4' := keepN k4 k5
 exact ⟨rfl, a1.keepN (keepN k2 (keepN k3 k4')), a2.keepN (keepN k3 k4'), a3.keepN k4', a4.keepN k5, fF_I⟩
theorem ownIm_other {W W' : World} {P : Nat → Prop} {v : I.IV} {es : List I.SE} {fs : List I.FE} {g : Nat} {cs : Array Value} (h : I.OwnIm W P v es fs) (hk : Keep (fun k => k = g) W W') (hb : Blk W g 25 cs) : I.OwnIm W' P v es fs := by
 have hn : ∀ T : TypeId, T ≠ 25 → ∀ k, k = g → ∀ cs f, W.heap[k]? ≠ some (.cells cs T f) := fun T hT k hk cs f h => by
  subst hk
  have h2 : W.heap[k]? = _ := hb
  rw [h2] at h
  cases h
  exact hT rfl
 exact ⟨I.own_other h.ox hk (hn _ (by decide)), I.own_other h.oy hk (hn _ (by decide)), fun e he => I.own_other (h.hs e he) hk (hn _ (by decide)), fun e he => I.ownF_other (h.hf e he) hk (hn _ (by decide)) (hn _ (by decide))⟩
theorem ownF_at {W W' : World} {P : Nat → Prop} {v : F.FV} {f : F.Fu} {g : Nat} (h : F.OwnF W P v f) (hk : Keep (fun k => k = g) W W') (hn : ¬ P g) : F.OwnF W' P v f :=
 ⟨h.nm, h.oa.keep hk (fun k hp e => hn (by rw [← e]; exact hp)), h.ob.keep hk (fun k hp e => hn (by rw [← e]; exact hp)), h.ol.keep hk (fun k hp e => hn (by rw [← e]; exact hp)), h.od.keep hk (fun k hp e => hn (by rw [← e]; exact hp)), h.hI⟩
abbrev V2 (m : Nat) (A : Option Addr) (c : Nat) : I.IV := ⟨some ⟨m + 1 + 1, 0, none⟩, 1, 1, A, 2, c⟩
abbrev ES2 (m : Nat) : List I.SE := [(someSV m, [1, 2])]
abbrev FS2 (m b : Nat) : List I.FE := [(someFV m, someF), (fV b, fF)]
def PF (b : Nat) : Nat → Prop := fun k => b ≤ k ∧ k < b + 4
theorem app_two {w w1 w7 w8 : World} {b c : Nat} {A : Option Addr} {P Fc0 : Array Value} (hO : I.OwnIm w1 (Fresh w) (someV w.heap.size) (ES2 w.heap.size) [(someFV w.heap.size, someF)]) (k1 : Keep NoB w w1) (hb : w1.heap.size + 1 = b)
  (k7 : Keep NoB w1 w7) (hf : F.OwnF w7 (PF b) (fV b) fF) (bp : Blk w7 w1.heap.size 25 P) (bf : Blk w7 (b + 4) 37 Fc0)
  (hrow : w8.ownsRow 0 37 5 (.slice A 2 c) 2 (I.fvs [(someFV w.heap.size, someF)] ++ I.fvs [(fV b, fF)])) (hg : w7.grownBy w8 (Value.slice (some ⟨w.heap.size + 1 + 1 + 1 + 1, 0, none⟩) 1 1).ownBlock) (hv : (Value.slice A 2 c).ownBlock = (Value.slice (some ⟨w.heap.size + 1 + 1 + 1 + 1, 0, none⟩) 1 1).ownBlock ∨ (Value.slice A 2 c).ownBlock = some w7.heap.size) :
  Blk w8 w1.heap.size 25 P ∧ Blk w8 (b + 4) 37 Fc0 ∧ I.OwnIm w8 (Fresh w) (V2 w.heap.size A c) (ES2 w.heap.size) (FS2 w.heap.size b) ∧ F.OwnF w8 (PF b) (fV b) fF ∧ Keep NoB w w8 := by
 have hO7 := hO.keepN k7
 have hlt : w.heap.size + 1 + 1 + 1 + 1 < w1.heap.size := (hO.oy.1.lt _ rfl).2
 obtain ⟨m1, m2, m3⟩ := I.row_more hO7.oy (keepN k1 k7) hg hrow hv
 have m4 : Keep (fun j => j = w.heap.size + 1 + 1 + 1 + 1) w7 w8 := m3.mono (fun k e _ => by injection e with e; exact e.symm)
 have hn : ∀ T : TypeId, T ≠ 37 → ∀ j, (Value.slice (some ⟨w.heap.size + 1 + 1 + 1 + 1, 0, none⟩) 1 1).ownBlock = some j → ∀ cs f, w7.heap[j]? ≠ some (.cells cs T f) := fun T hT => I.row_not hO7.oy hT
 have hfb : F.OwnF w8 (PF b) (fV b) fF := ownF_at hf m4 (by unfold PF; omega)
 refine ⟨bp.keep m4 (by omega), bf.keep m4 (by omega), ⟨I.own_other hO7.ox m3 (hn _ (by decide)), by rw [← I.fvs_append] at m1; exact m1, fun e he => I.own_other (hO7.hs e he) m3 (hn _ (by decide)), fun e he => ?_⟩, hfb, m2⟩
 have hk1 := k1.size
 simp only [List.mem_cons, List.not_mem_nil, or_false] at he
 rcases he with rfl | rfl
 ·exact I.ownF_other (hO7.hf _ (List.mem_singleton.2 rfl)) m3 (hn _ (by decide)) (hn _ (by decide))
 ·exact ⟨hfb.nm, hfb.oa.mono (fun k hk _ => by unfold PF at hk; unfold Fresh; omega), hfb.ob.mono (fun k hk _ => by unfold PF at hk; unfold Fresh; omega), hfb.ol.mono (fun k hk _ => by unfold PF at hk; unfold Fresh; omega), hfb.od.mono (fun k hk _ => by unfold PF at hk; unfold Fresh; omega), hfb.hI⟩
theorem put_two {w w1 w8 : World} {b c : Nat} {A : Option Addr} {Fc0 : Array Value} {u0 u1 : Value} (k1 : Keep NoB w w1) (hb : w1.heap.size + 1 = b)
  (h : Blk w8 w1.heap.size 25 #[u0, u1] ∧ Blk w8 (b + 4) 37 Fc0 ∧ I.OwnIm w8 (Fresh w) (V2 w.heap.size A c) (ES2 w.heap.size) (FS2 w.heap.size b) ∧ F.OwnF w8 (PF b) (fV b) fF ∧ Keep NoB w w8) (hu : u0 = .slice (some ⟨w.heap.size + 1 + 1, 0, none⟩) 1 1) :
  Blk (w8.setCell ⟨w1.heap.size, 1, none⟩ (.slice A 2 c)) w1.heap.size 25 (V2 w.heap.size A c).cells ∧ Blk (w8.setCell ⟨w1.heap.size, 1, none⟩ (.slice A 2 c)) (b + 4) 37 Fc0 ∧ I.ImAt (w8.setCell ⟨w1.heap.size, 1, none⟩ (.slice A 2 c)) (V2 w.heap.size A c) (ES2 w.heap.size) (FS2 w.heap.size b) ∧ F.OwnF (w8.setCell ⟨w1.heap.size, 1, none⟩ (.slice A 2 c)) (PF b) (fV b) fF ∧ Keep NoB w (w8.setCell ⟨w1.heap.size, 1, none⟩ (.slice A 2 c)) := by
 obtain ⟨h1, h2, h3, h4, h5⟩ := h
 subst hu
 have kk : Keep (fun k => k = w1.heap.size) w8 (w8.setCell ⟨w1.heap.size, 1, none⟩ (.slice A 2 c)) := (Keep.refl (fun k => k = w1.heap.size) w8).setCell (p := ⟨w1.heap.size, 1, none⟩) (fun _ => rfl) _
 refine ⟨h1.put 1 _, h2.keep kk (by omega), (ownIm_other h3 kk h1).im, ownF_at h4 kk (by unfold PF; omega), h5.setCell (p := ⟨w1.heap.size, 1, none⟩) (fun hl => absurd hl (by show ¬ w1.heap.size < w.heap.size; have := k1.size; omega)) _⟩
theorem put_body {w W : World} {b g : Nat} (hg : b + 4 = g) (hw : w.heap.size ≤ g) (hB : Blk W g 37 (fV b).cells) (hf : F.OwnF W (PF b) (fV b) fF) (hk : Keep NoB w W) :
  Blk (W.setCell ⟨g, 4, none⟩ (.slice none 0 0)) g 37 (fEV b).cells ∧ F.FnAt (W.setCell ⟨g, 4, none⟩ (.slice none 0 0)) (fEV b) fE ∧ Keep NoB w (W.setCell ⟨g, 4, none⟩ (.slice none 0 0)) := by
 have kk : Keep (fun k => k = g) W (W.setCell ⟨g, 4, none⟩ (.slice none 0 0)) := (Keep.refl (fun k => k = g) W).setCell (p := ⟨g, 4, none⟩) (fun _ => rfl) _
 have h1 := ownF_at hf kk (by unfold PF; omega)
 refine ⟨hB.put 4 _, F.OwnF.fn (P := PF b) ⟨h1.nm, h1.oa, h1.ob, h1.ol, Own.nil _ _ _ _, fun _ h => nomatch h⟩, hk.setCell (p := ⟨g, 4, none⟩) (fun hl => absurd hl (by show ¬ g < w.heap.size; omega)) _⟩
theorem nil_im : I.imOf [] [] = I.nilI := rfl
theorem nil_lg : I.LgI I.nilW [] [] := ⟨Nat.zero_le _, Nat.zero_le _, (fun _ h => nomatch h), fun _ h => nomatch h⟩
theorem two_lg {m b c' : Nat} {A' : Option Addr} : I.LgI ⟨some ⟨m + 1 + 1, 0, none⟩, 1, 1, A', 2, c'⟩ [(someSV m, [1, 2])] [(someFV m, someF), (fV b, fF)] := ⟨by show 1 ≤ _; omega, by show 2 ≤ _; omega, fun e he => by
 obtain rfl := List.mem_singleton.1 he
 show 2 ≤ _; omega, fun e he => by
 simp only [List.mem_cons, List.not_mem_nil, or_false] at he
 rcases he with rfl | rfl
 ·exact ⟨by show 4 ≤ _; omega, Nat.zero_le _, Nat.zero_le _, Nat.zero_le _, by show 4 ≤ _; omega⟩
 ·exact ⟨by show 1 ≤ _; omega, by show 1 ≤ _; omega, by show 1 ≤ _; omega, by show 2 ≤ _; omega, by show 6 ≤ _; omega⟩⟩

end Go.Proofs.YtgnooffedmeenaaGreatDoor.M.L
