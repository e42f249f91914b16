/-
  The document's copy of a function. Conditions: the function's lists lie in memory, and are no longer than statements go through.
  The document's copy of an image. Conditions: the image's lists lie in memory, and are no greater than statements go through.
  The sum of bytes: the program's, over any number of parts, and the document's; a sum's four bytes. Conditions: the parts lie in memory; no more than 2^31 bytes.
  bytes.Equal, bytes.HasPrefix, bytes.CutPrefix: what they answer of bytes in memory. No conditions but that the bytes lie in memory.
  What the document's Encode answers. Conditions: the operands fit an int64.
  What Encode of layer code answers, the program's and the document's: a body's bytes. Conditions: the list lies in memory; numbers fit an int64.
  What the document's Bytes and Encode of layer code answer. Conditions: the list lies in memory; numbers fit an int64.
  The document's bytes of a function: Bytes and Encode. Conditions: the function's lists lie in memory, and are no longer than statements go through.
  What the closures of writes do: a part's bytes behind others; a name's bytes. Conditions: what encodes answers by its contract.
  A name's bytes: what encodeName answers. Conditions: the name is no longer than statements go through.
  What Encode of layer function answers: a function's bytes. Conditions: the function's lists lie in memory, and are no longer than statements go through.
  Parts' bytes: what write answers, of shapes and of functions. Conditions: the parts lie in memory, and may be; no more than 64.
  slices.Concat of parts of bytes, and slices.Grow of the nil slice. Conditions: the parts lie in memory; no more than 2^46 bytes in all.
  A region that draws its order, by what each of its values is, as in KProps6; one operation changes the world by a relation of one's own. No program, no conditions.
  What Encode of layer image answers: an image's bytes. Conditions: the image's lists lie in memory, each below 2^47.
  What the rows of opcode share: the condition on the listed package-level variables, opened; an instruction as an argument. No conditions.
  An argument that is a list of instructions, opened: an address from which its cells stand; its numbers fit. No conditions.
  What Decode of layer image answers: bytes' image, or what is wrong. Conditions: the bytes lie in memory, no more than 2^30.
  The document's Decode of a function. Conditions: the Reel reads bytes in memory, no more than 2^47.
  What the document's Decode of images answers. Conditions: the bytes lie in memory, no more than 2^30.
  What the document's Decode of images answers, where there is room for a sum. Conditions: the bytes lie in memory, no more than 2^30.
  What the laws' own one and alive answer. No conditions.
  ImageSums' walk: the sum of bytes hangs on no parting; one byte changed, it is another one; all noughts, it tells how many there are. Conditions: the bytes lie in memory.
  ImageTurned's walk: an image's bytes of which one was changed, or that were cut, or with one more behind, are no image's. Conditions: the image's lists lie in memory, each below 2^47.
  The document's bytes of images, and its Encode. Conditions: the image's lists lie in memory, and are no greater than statements go through.
  ImageForms' walk: whether an image may be, its bytes, what is read of bytes, and the sum of bytes, are the document's; all stays. Conditions: the image's lists, and the bytes, lie in memory.
  Layer listing: the walk of ListingTexts. Conditions: the image lies in memory; what texts are made with stands.
  What the rows of opcode share where strings.Cut is called, or bytes come in: the wrap that keeps the world's shape beside the laid variables. No conditions.
  The arguments of the laws: functions, and lists of values, opened. No conditions.
-/
import Derived.ArgAppend
import Derived.ChangeSame
import Derived.Deep.Fields
import Derived.Deep.OwnRows
import Derived.Deep.Slices
import Derived.Deep.Strs
import Derived.HandedShaped
import Derived.LaidLaws
import Derived.LaidMore
import Derived.Laws.BitsAllLaws
import Derived.Lib.AppendZeros
import Derived.Lib.LaidTab
import Derived.Lib.SlBytesConst
import Derived.Lib.SmallJoins
import Derived.OpenShut
import Derived.ProofKit
import Derived.Shelf.Vars
import Derived.SizedLaws
import Derived.Stop.LaidErr
import Derived.Test.YtgnooffedmeenaaGreatDoorQA15
import Derived.Test.YtgnooffedmeenaaGreatDoorQA7
import Derived.Test.YtgnooffedmeenaaGreatDoorQA6
import Derived.Test.YtgnooffedmeenaaGreatDoorQA2
import Derived.Test.YtgnooffedmeenaaGreatDoorQA3
import Derived.Test.YtgnooffedmeenaaGreatDoorQA9
import Derived.Test.YtgnooffedmeenaaGreatDoorQA5
import Derived.Test.YtgnooffedmeenaaGreatDoorQA11
import Derived.Test.YtgnooffedmeenaaGreatDoorQA8
import Derived.Test.YtgnooffedmeenaaGreatDoorRows
import Derived.Test.YtgnooffedmeenaaGreatDoorQA12
namespace Go.Proofs.YtgnooffedmeenaaGreatDoor.F
open Go.RowKit W

/-- What the values are that the document's Copy's region yields. -/
def SQ (v : FV) (f : Fu) (x m : Nat) : Nat → Value → World → Prop
  | 0 => fun u _ => u = .pointer (some ⟨x, 0, none⟩)
  | 1 => fun u _ => u = .string v.S
  | 2 => fun u _ => u = .pointer (some ⟨x, 1, none⟩)
  | 3 => fun u _ => u = .agg #[.slice v.A v.na v.ca, .slice v.B v.nb v.cb]
  | 4 => fun u w => ∃ A c B d, u = .agg #[.slice A v.na c, .slice B v.nb d] ∧ Own w 3 1 (fun k => m ≤ k) (.slice A v.na c) v.na (ivs f.ar) ∧ Own w 3 1 (fun k => m ≤ k) (.slice B v.nb d) v.nb (ivs f.rs)
  | 5 => fun u w => ∃ A c B d, u = .agg #[.string v.S, .slice A v.na c, .slice B v.nb d, .slice none 0 0, .slice none 0 0] ∧ Own w 3 1 (fun k => m ≤ k) (.slice A v.na c) v.na (ivs f.ar) ∧ Own w 3 1 (fun k => m ≤ k) (.slice B v.nb d) v.nb (ivs f.rs)
  | 6 => fun u w => ∃ g, u = .pointer (some ⟨g, 0, none⟩) ∧ m ≤ g ∧ Blk w g 37 #[.string ⟨#[]⟩, .slice none 0 0, .slice none 0 0, .slice none 0 0, .slice none 0 0]
  | _ => fun _ _ => True
theorem SQ_stable (v : FV) (f : Fu) (x m : Nat) : ∀ i u w w', SQ v f x m i u w → Keep NoB w w' → SQ v f x m i u w'
  | 0, _, _, _, h, _ => h
  | 1, _, _, _, h, _ => h
  | 2, _, _, _, h, _ => h
  | 3, _, _, _, h, _ => h
  | 4, _, _, _, ⟨A, c, B, d, e, h1, h2⟩, hk => ⟨A, c, B, d, e, h1.keepN hk, h2.keepN hk⟩
  | 5, _, _, _, ⟨A, c, B, d, e, h1, h2⟩, hk => ⟨A, c, B, d, e, h1.keepN hk, h2.keepN hk⟩
  | 6, _, _, _, ⟨g, e, hm, hb⟩, hk => ⟨g, e, hm, hb.keep hk id⟩
  | _ + 7, _, _, _, h, _ => h

/-- A row that is owned lies in no block of another type. -/
theorem own_off {w : World} {E t size n g c : Nat} {P : Nat → Prop} {A : Option Addr} {xs : List Value} {cs : Array Value} (h : Own w E size P (.slice A n c) n xs) (hb : Blk w g t cs) (hne : E ≠ t) : Own w E size (fun k => P k ∧ k ≠ g) (.slice A n c) n xs :=
  ⟨h.1, fun k e => ⟨h.2 k e, fun ek => by
    subst ek
    rcases h.1.2 with ⟨h2, _⟩ | ⟨g', cap, cur, h2, _, hh, _⟩
    · rw [h2] at e; cases e
    · rw [h2] at e
      injection e with e
      subst e
      have hbb : w.heap[g']? = some (.cells cs t (0, 0)) := hb
      rw [hh] at hbb
      injection hbb with hbb
      injection hbb with _ h4 _
      exact hne h4⟩⟩
/-- A row that append has made of nothing. -/
theorem own_app {w w' : World} {E size n c : Nat} {P : Nat → Prop} {A : Option Addr} {xs : List Value} (h : w'.ownsRow 0 E size (.slice A n c) n ([] ++ xs)) (hv : (Value.slice A n c).ownBlock = (Value.slice none 0 0).ownBlock ∨ (Value.slice A n c).ownBlock = some w.heap.size) (hP : ∀ k, w.heap.size ≤ k → P k) : Own w' E size P (.slice A n c) n xs := by
  rw [List.nil_append] at h
  refine ⟨h, fun k e => ?_⟩
  rcases hv with h1 | h1
  · rw [h1] at e; cases e
  · rw [h1] at e
    injection e with e
    exact hP k (by omega)

set_option maxRecDepth 100000 in
set_option maxHeartbeats 8000000 in
theorem rcopyF_any (v : FV) (f : Fu) (w : World) (h : FnAt w v f) (hs : SmF v) :
    Calls Tryz.prog 18 #[v.val] w (CpyR w f) := by
  obtain ⟨i0, hi, hz0, hz1, hz2⟩ := info_parts int_info
  obtain ⟨j0, hj, hy0, hy1, hy2⟩ := info_parts inst_info
  have bx := (Blk.new w 37 v.cells).alloc (.cells nilV.cells 37)
  have by0 := Blk.new (w.alloc (.cells v.cells 37)) 37 nilV.cells
  have k0 := ((Keep.refl NoB w).alloc (.cells v.cells 37)).alloc (.cells nilV.cells 37)
  rw [World.size_alloc] at by0
  have HF := Lib.hid (h.keepN k0)
  have hlo : w.heap.size + 2 ≤ ((w.alloc (.cells v.cells 37)).alloc (.cells nilV.cells 37)).heap.size := by simp
  obtain ⟨S, A, na, ca, B, nb, cb, L, nl, cl, D, nd, cd⟩ := v
  obtain ⟨q0, q1, q2, q3, q4⟩ := blk5 bx
  obtain ⟨p1, p2, p3, p4⟩ : na ≤ 100 ∧ nb ≤ 100 ∧ nl ≤ 100 ∧ nd ≤ 600 := ⟨hs.na, hs.nb, hs.nl, hs.nd⟩
  dsimp only [FV.val, FV.cells, nilV] at bx by0 k0 HF hlo q0 q1 q2 q3 q4 ⊢
  generalize hw1 : (w.alloc (.cells #[.string S, .slice A na ca, .slice B nb cb, .slice L nl cl, .slice D nd cd] 37)).alloc (.cells #[.string ⟨#[]⟩, .slice none 0 0, .slice none 0 0, .slice none 0 0, .slice none 0 0] 37) = w1 at bx by0 k0 HF hlo q0 q1 q2 q3 q4
  have HX := Lib.hid bx
  have HY := Lib.hid by0
  have HG := Lib.hid (fun W hk => rcopyG_any A f.ar na ca B f.rs nb cb W (HF.out.keepN hk).ra (HF.out.keepN hk).rb h.la h.lb p1 p2)
  have hbl := by0.lt
  have HRL : Hid (Rd w L (ivs f.lc)) := h.rl
  have HRD : Hid (Rd w D (C.iis f.bd)) := h.rd
  clear bx by0 hs h
  go_enter Tryz.func18, Tryz.ntmps18
  go_wp2_with fail
  clear hw1
  refine wp_region_tail (fun i => [4, 5, 6, 7, 8, 9, 3].getD i 0) 7 (by kernel_rfl) (by kernel_rfl) (by kernel_rfl) (by kernel_rfl) (by kernel_rfl) (SQ ⟨S, A, na, ca, B, nb, cb, L, nl, cl, D, nd, cd⟩ f w.heap.size (w.heap.size + 2)) (fun i u x y h hk => SQ_stable _ _ _ _ i u x y h hk) rfl ?step ?fin
  case step =>
    intro i o a w' hoo hi hF hK hA
    by_cases h0 : i = 0
    · subst h0
      simp only [List.getElem?_toArray, List.getElem?_cons_zero, Option.some.injEq] at hoo
      subst hoo
      have e1 : a.tmps.getD 1 undef = .pointer (some ⟨w.heap.size, 0, none⟩) := hF.2.2 1 (by decide)
      refine Does.plain rfl ?_
      unfold yieldsK
      go_simp
      exact ⟨rfl, Keep.refl _ _⟩
    by_cases h1 : i = 1
    · subst h1
      simp only [List.getElem?_toArray, List.getElem?_cons_zero, List.getElem?_cons_succ, Option.some.injEq] at hoo
      subst hoo
      have e4 : a.tmps.getD 4 undef = .pointer (some ⟨w.heap.size, 0, none⟩) := hA ⟨0, .data⟩ (by simp) rfl
      have c0 := Keep.cell hK q0 id
      refine Does.plain rfl ?_
      unfold yieldsK
      go_simp
      exact ⟨rfl, Keep.refl _ _⟩
    by_cases h2 : i = 2
    · subst h2
      simp only [List.getElem?_toArray, List.getElem?_cons_zero, List.getElem?_cons_succ, Option.some.injEq] at hoo
      subst hoo
      have e1 : a.tmps.getD 1 undef = .pointer (some ⟨w.heap.size, 0, none⟩) := hF.2.2 1 (by decide)
      refine Does.plain rfl ?_
      unfold yieldsK
      go_simp
      exact ⟨rfl, Keep.refl _ _⟩
    by_cases h3 : i = 3
    · subst h3
      simp only [List.getElem?_toArray, List.getElem?_cons_zero, List.getElem?_cons_succ, Option.some.injEq] at hoo
      subst hoo
      have e6 : a.tmps.getD 6 undef = .pointer (some ⟨w.heap.size, 1, none⟩) := hA ⟨2, .data⟩ (by simp) rfl
      have c1 := Keep.cell hK q1 id
      have c2 := Keep.cell hK q2 id
      refine Does.plain rfl ?_
      unfold yieldsK
      go_simp
      exact ⟨rfl, Keep.refl _ _⟩
    by_cases h4 : i = 4
    · subst h4
      simp only [List.getElem?_toArray, List.getElem?_cons_zero, List.getElem?_cons_succ, Option.some.injEq] at hoo
      subst hoo
      have e7 : a.tmps.getD 7 undef = .agg #[.slice A na ca, .slice B nb cb] := hA ⟨3, .data⟩ (by simp) rfl
      refine Does.plain rfl ?_
      unfold yieldsK
      go_simp
      refine (HG.out w' hK).mono ?_
      rintro e w2 ⟨v1, v2, rfl, h1, h2, h3⟩
      obtain ⟨A1, c1, rfl, _⟩ := h1.form
      obtain ⟨A2, c2, rfl, _⟩ := h2.form
      exact ⟨_, rfl, ⟨A1, c1, A2, c2, rfl, h1.mono (fun k (hk : Fresh w' k) _ => (Nat.le_trans (Nat.le_trans hlo hK.size) hk : w.heap.size + 2 ≤ k)), h2.mono (fun k (hk : Fresh w' k) _ => (Nat.le_trans (Nat.le_trans hlo hK.size) hk : w.heap.size + 2 ≤ k))⟩, h3⟩
    by_cases h5 : i = 5
    · subst h5
      simp only [List.getElem?_toArray, List.getElem?_cons_zero, List.getElem?_cons_succ, Option.some.injEq] at hoo
      subst hoo
      have e5 : a.tmps.getD 5 undef = .string S := hA ⟨1, .data⟩ (by simp) rfl
      obtain ⟨A5, c5, B5, d5, e8, h5, h6⟩ := hA ⟨4, .data⟩ (by simp) rfl
      have e8 : a.tmps.getD 8 undef = .agg #[.slice A5 na c5, .slice B5 nb d5] := e8
      refine Does.plain rfl ?_
      unfold yieldsK
      simp only [Array.getD_eq_getD_getElem?] at e5 e8
      go_simp
      exact ⟨⟨A5, c5, B5, d5, rfl, h5, h6⟩, Keep.refl _ _⟩
    by_cases h6 : i = 6
    · subst h6
      simp only [List.getElem?_toArray, List.getElem?_cons_zero, List.getElem?_cons_succ, Option.some.injEq] at hoo
      subst hoo
      refine Does.plain rfl ?_
      unfold yieldsK
      go_simp
      exact ⟨⟨w'.heap.size, rfl, Nat.le_trans hlo hK.size, Blk.new _ _ _⟩, (Keep.refl _ _).alloc _⟩
    omega
  case fin =>
    intro a w' hF gK hA
    obtain ⟨A5, c5, B5, d5, e9, h5, h6⟩ := hA 5 (by decide)
    obtain ⟨g, e3, hg, hb⟩ := hA 6 (by decide)
    have e9 : a.tmps.getD 9 undef = .agg #[.string S, .slice A5 na c5, .slice B5 nb d5, .slice none 0 0, .slice none 0 0] := e9
    have e3 : a.tmps.getD 3 undef = .pointer (some ⟨g, 0, none⟩) := e3
    have ha := frameD_list (l := [4, 5, 6, 7, 8, 9, 3]) rfl hF
    rw [ha]
    simp only [List.map_cons, List.map_nil, e9, e3]
    generalize a.tmps.getD 4 undef = u0
    generalize a.tmps.getD 5 undef = u1
    generalize a.tmps.getD 6 undef = u2
    generalize a.tmps.getD 7 undef = u3
    generalize a.tmps.getD 8 undef = u4
    simp only [fillD, List.setIfInBounds_toArray, List.set_cons_zero, List.set_cons_succ]
    simp only [List.drop_succ_cons, List.drop_zero]
    have bg0 := blk_put5 hb ⟨S, A5, na, c5, B5, nb, d5, none, 0, 0, none, 0, 0⟩
    have kg0 := keep_at5 w' g ⟨S, A5, na, c5, B5, nb, d5, none, 0, 0, none, 0, 0⟩
    have hgl := hb.lt
    have hxl := (HX.out.keep gK id).lt
    have hO5 := (own_off h5 hb (by decide)).keep kg0 (fun k hk e => hk.2 e)
    have hO6 := (own_off h6 hb (by decide)).keep kg0 (fun k hk e => hk.2 e)
    have bx0 := (HX.out.keep gK id).keep kg0 (fun e => by omega)
    have bs0 := (HY.out.keep gK id).keep kg0 (fun e => by omega)
    have hrl := rd_older HRL.out (HF.out.keepN gK).rl kg0 (fun k hk e => by omega)
    have hrd := rd_older HRD.out (HF.out.keepN gK).rd kg0 (fun k hk e => by omega)
    have HN := Lib.hid (And.intro HF.out.nm (And.intro HF.out.hI (And.intro HF.out.ll HF.out.ld)))
    have hsz0 := kg0.size
    have HK0 := (keepN k0 gK).trans kg0 (fun k e hk => by omega)
    obtain ⟨d0, d1, d2, d3, d4⟩ := blk5 (v := nilV) hb
    obtain ⟨x0, x1, x2, x3, x4⟩ := blk5 (v := ⟨S, A, na, ca, B, nb, cb, L, nl, cl, D, nd, cd⟩) (HX.out.keep gK id)
    have fz := fun i => hb.frozen i
    have hgx : w.heap.size ≠ g := by omega
    have hl1 : (ivs f.lc).length = nl * 1 := by have := HN.out.2.2.1; simpa using this
    have hl2 : (C.iis f.bd).length = nd * 3 := by have := HN.out.2.2.2; rw [C.iis_length]; dsimp only at this; omega
    have HALL := Lib.hid (And.intro hO5 (And.intro hO6 (And.intro bx0 (And.intro bs0 (And.intro hrl (And.intro hrd (And.intro HK0 (And.intro bg0 (And.intro hl1 (And.intro hl2 (And.intro hsz0 (And.intro (ivs_one f.lc) (iis_one f.bd)))))))))))))
    clear hA hF ha hb gK HX HY HF h5 h6 HG q0 q1 q2 q3 q4 k0 hO5 hO6 bx0 bs0 hrl hrd HK0 bg0 hl1 hl2 hsz0 kg0 HRL
    unfold nilV at d0 d1 d2 d3 d4
    dsimp only at d0 d1 d2 d3 d4 x0 x1 x2 x3 x4
    go_wp2_with (first
      | (at_builtin; obtain ⟨hO5, hO6, bx0, bs0, hrl, hrd, HK0, bg0, hl1, hl2, hsz0, ho1, ho2⟩ := HALL.out; refine wpList_append_rd (put5 w' g ⟨S, A5, na, c5, B5, nb, d5, none, 0, 0, none, 0, 0⟩) rfl (.tmp 11) (.tmp 13) _ rfl 3 1 8 i0 _ Tryz.underlying32 hi hz0 hz1 hz2 rfl (by decide) (.slice none 0 0) 0 [] L nl cl (ivs f.lc) rfl (World.ownsRow_nil _ _ _ _) rfl hrl hl1 ho1 (by unfold maxLen; omega) (by omega) ?_; intro A7 c7 w7 hrow7 hg7 hv7; rw [Nat.zero_add] at hrow7 hv7 ⊢; clear d0 d1 d2 d3 d4 x0 x1 x2 x3 x4 fz HALL; have k7 : Keep NoB _ w7 := (Keep.refl NoB _).grown hg7 (fun g e _ => by cases e); have bg7 := bg0.keep k7 id; have bx7 := bx0.keep k7 id; obtain ⟨d0, d1, d2, d3, d4⟩ := blk5 (v := ⟨S, A5, na, c5, B5, nb, d5, none, 0, 0, none, 0, 0⟩) bg7; obtain ⟨x0, x1, x2, x3, x4⟩ := blk5 (v := ⟨S, A, na, ca, B, nb, cb, L, nl, cl, D, nd, cd⟩) bx7; have fz := fun i => bg7.frozen i; have hO7 : Own w7 3 1 (fun k => w.heap.size + 2 ≤ k ∧ k ≠ g) (.slice A7 nl c7) nl (ivs f.lc) := own_app hrow7 hv7 (fun k hk => ⟨by omega, by omega⟩); have HALL := Lib.hid (And.intro (hO5.keepN k7) (And.intro (hO6.keepN k7) (And.intro hO7 (And.intro bx7 (And.intro (bs0.keep k7 id) (And.intro (hrd.keepN k7) (And.intro (keepN HK0 k7) (And.intro bg7 (And.intro hl2 (And.intro (Nat.le_trans hsz0 k7.size) ho2)))))))))); clear hO5 hO6 bx0 bs0 hrl hrd HK0 bg0 hl1 hl2 hsz0 ho1 ho2 k7 bg7 bx7 hO7 hrow7 hg7 hv7)
      | (at_builtin; obtain ⟨hO5, hO6, hO7, bx7, bs7, hrd, HK7, bg7, hl2, hsz7, ho2⟩ := HALL.out; have kp := keep_one w7 g 3 (.slice A7 nl c7); have hp := Nat.le_trans hsz7 kp.size; refine wpList_append_rd (w7.setCell ⟨g, 3, none⟩ (.slice A7 nl c7)) rfl (.tmp 17) (.tmp 19) _ rfl 55 3 24 j0 _ Tryz.underlying35 hj hy0 hy1 hy2 rfl (by decide) (.slice none 0 0) 0 [] D nd cd (C.iis f.bd) rfl (World.ownsRow_nil _ _ _ _) rfl (rd_older HRD.out hrd kp (fun k hk e => by omega)) hl2 ho2 (by unfold maxLen; omega) (by omega) ?_; intro A9 c9 w9 hrow9 hg9 hv9; rw [Nat.zero_add] at hrow9 hv9 ⊢; clear d0 d1 d2 d3 d4 x0 x1 x2 x3 x4 fz HALL; have k9 : Keep NoB _ w9 := (Keep.refl NoB _).grown hg9 (fun g e _ => by cases e); have bg9 : Blk w9 g 37 (FV.cells ⟨S, A5, na, c5, B5, nb, d5, A7, nl, c7, none, 0, 0⟩) := (bg7.put 3 (.slice A7 nl c7)).keep k9 id; have bs9 := (bs7.keep kp (fun e => by omega)).keep k9 id; obtain ⟨d0, d1, d2, d3, d4⟩ := blk5 (v := ⟨S, A5, na, c5, B5, nb, d5, A7, nl, c7, none, 0, 0⟩) bg9; obtain ⟨x0, x1, x2, x3, x4⟩ := blk5 (v := nilV) bs9; unfold nilV at x0 x1 x2 x3 x4; dsimp only at x0 x1 x2 x3 x4; have fz := fun i => bg9.frozen i; have fy := fun i => bs9.frozen i; have hO9 : Own w9 55 3 (fun k => w.heap.size + 2 ≤ k ∧ k ≠ g) (.slice A9 nd c9) nd (C.iis f.bd) := own_app hrow9 hv9 (fun k hk => ⟨by omega, by omega⟩); have HALL := Lib.hid (And.intro ((hO5.keep kp (fun k hk e => hk.2 e)).keepN k9) (And.intro ((hO6.keep kp (fun k hk e => hk.2 e)).keepN k9) (And.intro ((hO7.keep kp (fun k hk e => hk.2 e)).keepN k9) (And.intro hO9 (And.intro bs9 (And.intro (keepN (HK7.trans kp (fun k e hk => by omega)) k9) bg9)))))); clear hO5 hO6 hO7 bx7 bs7 hrd HK7 bg7 hl2 hsz7 ho2 k9 bg9 bs9 hO9 hrow9 hg9 hv9 kp hp))
    obtain ⟨hO5, hO6, hO7, hO9, bs9, HK9, _⟩ := HALL.out
    have kp := keep_one w9 g 4 (.slice A9 nd c9)
    have bsp := bs9.keep kp (fun e => by omega)
    have kq := keep_at5 (w9.setCell ⟨g, 4, none⟩ (.slice A9 nd c9)) (w.heap.size + 1) ⟨S, A5, na, c5, B5, nb, d5, A7, nl, c7, A9, nd, c9⟩
    have hOF : OwnF (put5 (w9.setCell ⟨g, 4, none⟩ (.slice A9 nd c9)) (w.heap.size + 1) ⟨S, A5, na, c5, B5, nb, d5, A7, nl, c7, A9, nd, c9⟩) (Fresh w) ⟨S, A5, na, c5, B5, nb, d5, A7, nl, c7, A9, nd, c9⟩ f :=
      ((OwnF.keep (W := w9) ⟨HN.out.1, hO5, hO6, hO7, hO9, HN.out.2.1⟩ kp (fun k hk e => hk.2 e)).keep kq (fun k hk e => by omega)).mono (fun k hk _ => by unfold Fresh; omega)
    refine bodyPost_ret (ret_fun1 (v := ⟨S, A5, na, c5, B5, nb, d5, A7, nl, c7, A9, nd, c9⟩) rfl rfl (blk_put5 bsp ⟨S, A5, na, c5, B5, nb, d5, A7, nl, c7, A9, nd, c9⟩)) rfl ?_
    exact ⟨⟨S, A5, na, c5, B5, nb, d5, A7, nl, c7, A9, nd, c9⟩, rfl, hOF, (HK9.trans kp (fun k e hk => by omega)).trans kq (fun k e hk => by omega)⟩

end Go.Proofs.YtgnooffedmeenaaGreatDoor.F

namespace Go.Proofs.YtgnooffedmeenaaGreatDoor.I
open Go.RowKit W

/-- append of a list of another name. -/
theorem run_app_named (w : World) (S S2 E : TypeId) (hS : Tryz.prog.underlying S = some (.slice E)) (hS2 : Tryz.prog.underlying S2 = some (.slice E)) (ty : TypeId) (args : Array Value) : (Builtin.append_ #[S, S2] ty args).run Tryz.prog w = (Builtin.append_ #[S, S] ty args).run Tryz.prog w := by
  cases h0 : args[0]? with
  | none => simp [Builtin.append_, h0]
  | some s =>
    cases h1 : args[1]? with
    | none => simp [Builtin.append_, h0, h1]
    | some x => cases s <;> simp [Builtin.append_, h0, h1, run_underlying hS, run_underlying hS2]
theorem yields_app {o : Oper} {a : Act} {w w' : World} {R : Value → World → Prop} (s x : Operand) (S S2 : TypeId) (ho : o.op = .call { callee := .builtin .append, args := #[s, x], argTypes := #[S, S2] }) (u v : Value) {v' : Value} (hs : a.eval s = u) (hx : a.eval x = v)
    (hrun : (Builtin.append_ #[S, S2] o.type #[u, v]).run Tryz.prog w = .ok v' w') (h : R v' w') : yieldsK Tryz.prog o a w R := by
  unfold yieldsK execOp
  simp only [ho, resolve, invoke, builtin, Sem.run_bind, Sem.run_pure, Result.andThen_ok, List.map_toArray, List.map_cons, List.map_nil, hs, hx, hrun]
  exact h
/-- A field's row that gets longer. -/
theorem row_append {W W5 : World} {g i : Nat} {T E : TypeId} {sz k m : Nat} {P : Nat → Prop} {cs : Array Value} {v v' : Value} {xs ys : List Value} (hb : Blk W g T cs) (hrow : Own W E sz P v k xs) (hPg : ∀ j, P j → j ≠ g) (hg : W.grownBy W5 v.ownBlock) (hrow5 : W5.ownsRow 0 E sz v' m ys)
    (hv5 : v'.ownBlock = v.ownBlock ∨ v'.ownBlock = some W.heap.size) (hPn : P W.heap.size) :
    Blk W5 g T cs ∧ Own (W5.setCell ⟨g, i, none⟩ v') E sz P v' m ys ∧ Blk (W5.setCell ⟨g, i, none⟩ v') g T (cs.setIfInBounds i v') ∧ Keep (fun j => j = g ∨ v.ownBlock = some j) W (W5.setCell ⟨g, i, none⟩ v') := by
  have hb5 : Blk W5 g T cs := hb.grown hg (fun e => hPg g (hrow.2 g e.symm) rfl)
  have h5 : Own W5 E sz P v' m ys := ⟨hrow5, fun j e => by
    rcases hv5 with h | h
    · exact hrow.2 j (h ▸ e)
    · rw [h] at e; cases e; exact hPn⟩
  have hkk : Keep (fun j => j = g) W5 (W5.setCell ⟨g, i, none⟩ v') := (Keep.refl (fun j => j = g) W5).setCell (p := ⟨g, i, none⟩) (fun _ => rfl) v'
  refine ⟨hb5, h5.keep hkk (fun j hj e => hPg j hj e), hb5.put i v', ((Keep.refl _ W).grown hg (fun j e _ => .inr e)).setCell (fun _ => .inl rfl) v'⟩
theorem row_at {W : World} {g : Nat} {T E : TypeId} {sz k : Nat} {P : Nat → Prop} {cs : Array Value} {v : Value} {xs : List Value} (hb : Blk W g T cs) (hrow : Own W E sz P v k xs) : ∀ j, (j = g ∨ v.ownBlock = some j) → (j = g ∨ P j) ∧ ∃ cs t f, W.heap[j]? = some (.cells cs t f) ∧ (t = T ∨ t = E) := by
  rintro j (rfl | e)
  · exact ⟨.inl rfl, _, _, _, hb, .inl rfl⟩
  · rcases hrow.1.2 with ⟨rfl, _⟩ | ⟨g2, cap, cur, rfl, _, hh, _⟩
    · simp [Value.ownBlock] at e
    · obtain rfl : g2 = j := by simpa [Value.ownBlock] using e
      exact ⟨.inr (hrow.2 _ rfl), _, _, _, hh, .inr rfl⟩
theorem row_ty {W : World} {g : Nat} {T E F : TypeId} {sz k : Nat} {P : Nat → Prop} {cs : Array Value} {v : Value} {xs : List Value} (hb : Blk W g T cs) (hrow : Own W E sz P v k xs) (h1 : F ≠ T) (h2 : F ≠ E) : ∀ j, (j = g ∨ v.ownBlock = some j) → ∀ cs f, W.heap[j]? ≠ some (.cells cs F f) := fun j hj cs f h3 => by
  obtain ⟨_, cs2, t, f2, h4, h5⟩ := row_at hb hrow j hj
  rw [h4] at h3
  cases h3
  exact h5.elim h1 h2
theorem ownF_other {W W' : World} {O P : Nat → Prop} {v : F.FV} {f : F.Fu} (h : F.OwnF W P v f) (hk : Keep O W W') (h1 : ∀ k, O k → ∀ cs f, W.heap[k]? ≠ some (.cells cs 3 f)) (h2 : ∀ k, O k → ∀ cs f, W.heap[k]? ≠ some (.cells cs 55 f)) : F.OwnF W' P v f :=
  ⟨h.nm, own_other h.oa hk h1, own_other h.ob hk h1, own_other h.ol hk h1, own_other h.od hk h2, h.hI⟩
/-- What the values are that a round of shapes yields. -/
def SCs (b m : Nat) (u0 : Value) (X : Option Addr) (nx cx k : Nat) (g off : Nat) (A : Option Addr) (n c : Nat) (l : List Int) : Nat → Value → World → Prop
  | 0 => fun u _ => u = .pointer (some ⟨b + 1 + 1, 0, none⟩)
  | 1 => fun u _ => u = u0
  | 2 => fun u _ => u = .slice none 0 0
  | 3 => fun u _ => u = .pointer (some ⟨b, 0, none⟩)
  | 4 => fun u _ => u = .slice X nx cx
  | 5 => fun u _ => u = .int .i64 (k : Int)
  | 6 => fun u _ => u = .pointer (some ⟨g, off + k, none⟩)
  | 7 => fun u _ => u = .slice A n c
  | 8 => fun u W => ∃ A1 c1, u = .slice A1 n c1 ∧ Own W 3 1 (fun j => m ≤ j) (.slice A1 n c1) n (ivs l)
  | 9 => fun u W => ∃ h A1 c1, u = .slice (some ⟨h, 0, none⟩) 1 1 ∧ Blk W h 68 #[.slice A1 n c1] ∧ Own W 3 1 (fun j => m ≤ j) (.slice A1 n c1) n (ivs l)
  | _ => fun _ _ => True
theorem SCs_stable (b m : Nat) (u0 : Value) (X : Option Addr) (nx cx k : Nat) (g off : Nat) (A : Option Addr) (n c : Nat) (l : List Int) : ∀ i u W W', SCs b m u0 X nx cx k g off A n c l i u W → Keep NoB W W' → SCs b m u0 X nx cx k g off A n c l i u W'
  | 0, _, _, _, h, _ | 1, _, _, _, h, _ | 2, _, _, _, h, _ | 3, _, _, _, h, _ | 4, _, _, _, h, _ | 5, _, _, _, h, _ | 6, _, _, _, h, _ | 7, _, _, _, h, _ => h
  | 8, _, _, _, ⟨A1, c1, e, h⟩, hk => ⟨A1, c1, e, h.keepN hk⟩
  | 9, _, _, _, ⟨h, A1, c1, e, hb, ho⟩, hk => ⟨h, A1, c1, e, hb.keep hk id, ho.keepN hk⟩
  | _ + 10, _, _, _, h, _ => h
/-- What the values are that a round of functions yields. -/
def SCf (b m : Nat) (u0 : Value) (Y : Option Addr) (ny cy k : Nat) (g off : Nat) (fv : F.FV) (f : F.Fu) : Nat → Value → World → Prop
  | 0 => fun u _ => u = .pointer (some ⟨b + 1 + 1, 1, none⟩)
  | 1 => fun u _ => u = u0
  | 2 => fun u _ => u = .pointer (some ⟨b, 1, none⟩)
  | 3 => fun u _ => u = .slice Y ny cy
  | 4 => fun u _ => u = .int .i64 (k : Int)
  | 5 => fun u _ => u = .pointer (some ⟨g, off + k * 5, none⟩)
  | 6 => fun u _ => u = fv.val
  | 7 => fun u W => ∃ q : F.FV, u = q.val ∧ F.OwnF W (fun j => m ≤ j) q f
  | 8 => fun u W => ∃ h, ∃ q : F.FV, u = .slice (some ⟨h, 0, none⟩) 1 1 ∧ Blk W h 37 q.cells ∧ F.OwnF W (fun j => m ≤ j) q f
  | _ => fun _ _ => True
theorem SCf_stable (b m : Nat) (u0 : Value) (Y : Option Addr) (ny cy k : Nat) (g off : Nat) (fv : F.FV) (f : F.Fu) : ∀ i u W W', SCf b m u0 Y ny cy k g off fv f i u W → Keep NoB W W' → SCf b m u0 Y ny cy k g off fv f i u W'
  | 0, _, _, _, h, _ | 1, _, _, _, h, _ | 2, _, _, _, h, _ | 3, _, _, _, h, _ | 4, _, _, _, h, _ | 5, _, _, _, h, _ | 6, _, _, _, h, _ => h
  | 7, _, _, _, ⟨q, e, h⟩, hk => ⟨q, e, h.keepN hk⟩
  | 8, _, _, _, ⟨h, q, e, hb, ho⟩, hk => ⟨h, q, e, hb.keep hk id, ho.keepN hk⟩
  | _ + 9, _, _, _, h, _ => h
theorem rd_blkN {w : World} {g : Nat} {t : TypeId} {cs : Array Value} (h : Blk w g t cs) : Rd w (some ⟨g, 0, none⟩) cs.toList := fun _ => ⟨g, 0, rfl, fun j u hu => by
  rw [Nat.zero_add, h.cell j]; simpa using hu⟩

/-- How Copy ends. -/
def CpI (w : World) (p : Im) (e : Ending) (w' : World) : Prop := ∃ v es fs, e = .returned (IV.val v) ∧ OwnIm w' (Fresh w) v es fs ∧ imOf es fs = p ∧ Keep NoB w w'
/-- What a round leaves. -/
structure CpS (wb W : World) (b k : Nat) (A : Option Addr) (c : Nat) (w2 : Value) (m : Nat) (es es' : List SE) : Prop where
  hb : Blk W (b + 1 + 1) 25 #[.slice A k c, w2]
  hr : Own W 68 1 (fun j => m ≤ j) (.slice A k c) k (svs es')
  hs : ∀ e ∈ es', OwnS W (fun j => m ≤ j) e
  he : (es'.map fun e => e.2) = (es.take k).map fun e => e.2
  hk : Keep (fun j => j = b + 1 + 1) wb W
structure CpF (wb W : World) (b k j : Nat) (A A2 : Option Addr) (c c2 m : Nat) (es' : List SE) (fs fs' : List FE) : Prop where
  hb : Blk W (b + 1 + 1) 25 #[.slice A k c, .slice A2 j c2]
  hr : Own W 68 1 (fun j => m ≤ j) (.slice A k c) k (svs es')
  hs : ∀ e ∈ es', OwnS W (fun j => m ≤ j) e
  hr2 : Own W 37 5 (fun j => m ≤ j) (.slice A2 j c2) j (fvs fs')
  hf : ∀ e ∈ fs', F.OwnF W (fun j => m ≤ j) e.1 e.2
  he : (fs'.map fun e => e.2) = (fs.take j).map fun e => e.2
  hk : Keep (fun j => j = b + 1 + 1) wb W

set_option maxRecDepth 100000 in
set_option maxHeartbeats 4000000 in
theorem rcopyI_any (v : IV) (es : List SE) (fs : List FE) (w : World) (h : ImAt w v es fs) (hs : SmI es fs) :
    Calls Tryz.prog 11 #[v.val] w (CpI w (imOf es fs)) := by
  obtain ⟨i0, hi, hz0, hz1, hz2⟩ := info_parts shape_info
  obtain ⟨j0, hj, hy0, hy1, hy2⟩ := info_parts fun_info
  obtain ⟨n0, hni, hn0, hn1, hn2⟩ := info_parts int_info
  have bx := ((Blk.new w 25 v.cells).alloc (.cells #[.slice none 0 0, .slice none 0 0] 25)).alloc (.cells #[.slice none 0 0, .slice none 0 0] 25)
  have bz := (Blk.new (w.alloc (.cells v.cells 25)) 25 #[.slice none 0 0, .slice none 0 0]).alloc (.cells #[.slice none 0 0, .slice none 0 0] 25)
  have bc := Blk.new ((w.alloc (.cells v.cells 25)).alloc (.cells #[.slice none 0 0, .slice none 0 0] 25)) 25 #[.slice none 0 0, .slice none 0 0]
  have gK := (((Keep.refl NoB w).alloc (.cells v.cells 25)).alloc (.cells #[.slice none 0 0, .slice none 0 0] 25)).alloc (.cells #[.slice none 0 0, .slice none 0 0] 25)
  simp only [World.size_alloc] at bz bc
  have HIW := Lib.hid h
  have hlx := h.lx
  have hly := h.ly
  have HSM := Lib.hid hs
  have hnx := hs.ns
  have hny := hs.nf
  rw [hlx] at hnx
  rw [hly] at hny
  have hmz : ((((w.alloc (.cells v.cells 25)).alloc (.cells #[.slice none 0 0, .slice none 0 0] 25)).alloc (.cells #[.slice none 0 0, .slice none 0 0] 25))).heap.size = w.heap.size + 1 + 1 + 1 := by simp
  clear h hs
  obtain ⟨X, nx, cx, Y, ny, cy⟩ := v
  dsimp only [IV.val, IV.cells] at *
  have gK2 := gK
  obtain ⟨p0, p1⟩ := blk2 (v := ⟨X, nx, cx, Y, ny, cy⟩) bx
  dsimp only at p0 p1
  have HIK := Lib.hid (fun W (hk : Keep (fun j => j = w.heap.size + 1 + 1) _ W) => HIW.out.keep ((gK.mono (fun _ hf _ => hf.elim)).trans hk (fun _ h _ => h)) (fun k hl e => by omega))
  have HBX := Lib.hid bx
  have HBZ := Lib.hid bz
  have HC0 : Hid (CpS (((w.alloc (.cells #[.slice X nx cx, .slice Y ny cy] 25)).alloc (.cells #[.slice none 0 0, .slice none 0 0] 25)).alloc (.cells #[.slice none 0 0, .slice none 0 0] 25)) (((w.alloc (.cells #[.slice X nx cx, .slice Y ny cy] 25)).alloc (.cells #[.slice none 0 0, .slice none 0 0] 25)).alloc (.cells #[.slice none 0 0, .slice none 0 0] 25)) w.heap.size 0 none 0 (.slice none 0 0) (w.heap.size + 1 + 1 + 1) es []) := ⟨bc, Own.nil _ _ _ _, (fun _ h => nomatch h), by simp, Keep.refl _ _⟩
  clear bx bz bc
  go_enter Tryz.func11, Tryz.ntmps11
  go_wp2_with fail
  generalize (((w.alloc (.cells #[.slice X nx cx, .slice Y ny cy] 25)).alloc (.cells #[.slice none 0 0, .slice none 0 0] 25)).alloc (.cells #[.slice none 0 0, .slice none 0 0] 25)) = wb at *
  clear gK2
  go_loopw [4] (fun i wr => ∃ k : Nat, k ≤ nx ∧ i = .int .i64 k ∧ ∃ A c es', Hid (CpS wb wr w.heap.size k A c (.slice none 0 0) (w.heap.size + 1 + 1 + 1) es es')) (fun i _ => nx - (intOf i).toNat)
  case atStart => exact ⟨0, Nat.zero_le _, rfl, _, _, _, HC0.out⟩
  case round =>
    obtain ⟨k, hk, rfl, A, c, es', HC⟩ := hrel
    clear HC0
    have s0 := HC.out.hk.cell p0 (by show ¬ (w.heap.size = w.heap.size + 1 + 1); omega)
    by_cases hlt : k < nx
    · have hke : k < es.length := by omega
      obtain ⟨g, off, rfl, d0⟩ := shape_at (HIK.out wr HC.out.hk).rx hke
      have hsh := (HIK.out wr HC.out.hk).hs _ (List.getElem_mem hke)
      have hsz := HSM.out.sh _ (List.getElem_mem hke)
      obtain ⟨c0, c1⟩ := blk2 (v := ⟨A, k, c, none, 0, 0⟩) HC.out.hb
      dsimp only at c0 c1
      have HT : Hid ((es.take (k + 1)).map (fun e => e.2) = (es.take k).map (fun e => e.2) ++ [es[k].2]) := by
        show _ = _
        rw [List.take_succ_eq_append_getElem hke, List.map_append]; rfl
      have hwz := HC.out.hk.size
      have hel : es'.length = k := by have := congrArg List.length HC.out.he; simp at this; omega
      have HAP := Lib.hid (fun W (hk : Keep NoB wr W) ty => run_append_rd W 32 3 1 8 n0 (.int .i64 0) Tryz.underlying32 hni hn0 hn1 hn2 rfl (by decide) (.slice none 0 0) 0 [] es[k].1.A es[k].1.n es[k].1.c (ivs es[k].2) ty (World.ownsRow_nil _ _ _ _) (hsh.1.keepN hk) (by rw [Nat.mul_one, ← hsh.2]; simp) (one_ivs _) (by unfold maxLen; omega) (by omega))
      clear hsh
      generalize es[k] = e at *
      obtain ⟨⟨A1, n1, c1'⟩, l⟩ := e
      dsimp only at *
      go_wp2_with fail
      refine wp_region_tail (fun i => [15, 16, 17, 18, 19, 20, 21, 22, 23, 24].getD i 0) 10 (by kernel_rfl) (by kernel_rfl) (by kernel_rfl) (by kernel_rfl) (by kernel_rfl) (SCs w.heap.size (w.heap.size + 1 + 1 + 1) (.slice A k c) (some ⟨g, off, none⟩) nx cx k g off A1 n1 c1' l) (fun i u x y h hk => SCs_stable _ _ _ _ _ _ _ _ _ _ _ _ _ i u x y h hk) rfl ?step ?fin
      case step =>
        intro i o a w' hoo hi hF hK hA
        by_cases h0 : i = 0
        · subst h0
          simp only [List.getElem?_toArray, List.getElem?_cons_zero, Option.some.injEq] at hoo
          subst hoo
          have e3 : a.tmps.getD 3 undef = .pointer (some ⟨w.heap.size + 1 + 1, 0, none⟩) := hF.2.2 3 (by decide)
          refine Does.plain rfl ?_
          unfold yieldsK
          go_simp
          exact ⟨rfl, Keep.refl _ _⟩
        by_cases h1 : i = 1
        · subst h1
          simp only [List.getElem?_toArray, List.getElem?_cons_zero, List.getElem?_cons_succ, Option.some.injEq] at hoo
          subst hoo
          have e15 : a.tmps.getD 15 undef = .pointer (some ⟨w.heap.size + 1 + 1, 0, none⟩) := hA ⟨0, .data⟩ (by simp) rfl
          have q0 := Keep.cell hK c0 id
          refine Does.plain rfl ?_
          unfold yieldsK
          go_simp
          exact ⟨rfl, Keep.refl _ _⟩
        by_cases h2 : i = 2
        · subst h2
          simp only [List.getElem?_toArray, List.getElem?_cons_zero, List.getElem?_cons_succ, Option.some.injEq] at hoo
          subst hoo
          have e5 : a.tmps.getD 5 undef = .slice none 0 0 := hF.2.2 5 (by decide)
          refine Does.plain rfl ?_
          unfold yieldsK
          go_simp
          exact ⟨rfl, Keep.refl _ _⟩
        by_cases h3 : i = 3
        · subst h3
          simp only [List.getElem?_toArray, List.getElem?_cons_zero, List.getElem?_cons_succ, Option.some.injEq] at hoo
          subst hoo
          have e1 : a.tmps.getD 1 undef = .pointer (some ⟨w.heap.size, 0, none⟩) := hF.2.2 1 (by decide)
          refine Does.plain rfl ?_
          unfold yieldsK
          go_simp
          exact ⟨rfl, Keep.refl _ _⟩
        by_cases h4 : i = 4
        · subst h4
          simp only [List.getElem?_toArray, List.getElem?_cons_zero, List.getElem?_cons_succ, Option.some.injEq] at hoo
          subst hoo
          have e18 : a.tmps.getD 18 undef = .pointer (some ⟨w.heap.size, 0, none⟩) := hA ⟨3, .data⟩ (by simp) rfl
          have q0 := Keep.cell hK s0 id
          refine Does.plain rfl ?_
          unfold yieldsK
          go_simp
          exact ⟨rfl, Keep.refl _ _⟩
        by_cases h5 : i = 5
        · subst h5
          simp only [List.getElem?_toArray, List.getElem?_cons_zero, List.getElem?_cons_succ, Option.some.injEq] at hoo
          subst hoo
          have e4 : a.tmps.getD 4 undef = .int .i64 (k : Int) := hF.2.2 4 (by decide)
          refine Does.plain rfl ?_
          unfold yieldsK
          go_simp
          exact ⟨rfl, Keep.refl _ _⟩
        by_cases h6 : i = 6
        · subst h6
          simp only [List.getElem?_toArray, List.getElem?_cons_zero, List.getElem?_cons_succ, Option.some.injEq] at hoo
          subst hoo
          have e19 : a.tmps.getD 19 undef = .slice (some ⟨g, off, none⟩) nx cx := hA ⟨4, .data⟩ (by simp) rfl
          have e20 : a.tmps.getD 20 undef = .int .i64 (k : Int) := hA ⟨5, .data⟩ (by simp) rfl
          have hkn : (k : Int) < (nx : Int) := by omega
          refine Does.plain rfl ?_
          unfold yieldsK
          go_simp
          exact ⟨rfl, Keep.refl _ _⟩
        by_cases h7 : i = 7
        · subst h7
          simp only [List.getElem?_toArray, List.getElem?_cons_zero, List.getElem?_cons_succ, Option.some.injEq] at hoo
          subst hoo
          have e21 : a.tmps.getD 21 undef = .pointer (some ⟨g, off + k, none⟩) := hA ⟨6, .data⟩ (by simp) rfl
          have q0 := Keep.cell hK d0 id
          refine Does.plain rfl ?_
          unfold yieldsK
          go_simp
          exact ⟨rfl, Keep.refl _ _⟩
        by_cases h8 : i = 8
        · subst h8
          simp only [List.getElem?_toArray, List.getElem?_cons_zero, List.getElem?_cons_succ, Option.some.injEq] at hoo
          subst hoo
          have e17 : a.tmps.getD 17 undef = .slice none 0 0 := hA ⟨2, .data⟩ (by simp) rfl
          have e22 : a.tmps.getD 22 undef = .slice A1 n1 c1' := hA ⟨7, .data⟩ (by simp) rfl
          have ⟨v9, w9, hrun, hown, hg, hv⟩ := HAP.out w' hK 32
          have hnm := run_app_named w' 32 68 3 Tryz.underlying32 Tryz.underlying68 32 #[.slice none 0 0, .slice A1 n1 c1']
          refine Does.plain rfl ?_
          rw [hrun] at hnm
          refine yields_app (.tmp 17) (.tmp 22) 32 68 rfl _ _ e17 e22 hnm ?_
          have h9 : Own w9 3 1 (fun j => w.heap.size + 1 + 1 + 1 ≤ j) v9 n1 (ivs l) := by
            rw [List.nil_append, Nat.zero_add] at hown
            refine ⟨hown, fun j e => ?_⟩
            rcases hv with h | h
            · rw [h] at e; cases e
            · rw [h] at e; injection e with e; have := hK.size; omega
          obtain ⟨A9, c9, rfl, _, _, _, _⟩ := h9.form
          exact ⟨⟨A9, c9, rfl, h9⟩, (Keep.refl NoB w').grown hg (fun j e => by cases e)⟩
        by_cases h9 : i = 9
        · subst h9
          simp only [List.getElem?_toArray, List.getElem?_cons_zero, List.getElem?_cons_succ, Option.some.injEq] at hoo
          subst hoo
          obtain ⟨A9, c9, e23, h9⟩ := hA ⟨8, .data⟩ (by simp) rfl
          have e23 : a.tmps.getD 23 undef = .slice A9 n1 c9 := e23
          refine Does.plain rfl ?_
          unfold yieldsK
          simp only [Array.getD_eq_getD_getElem?] at e23
          go_simp
          exact ⟨⟨w'.heap.size, A9, c9, rfl, Blk.new _ _ _, h9.keepN ((Keep.refl _ _).alloc _)⟩, (Keep.refl _ _).alloc _⟩
        omega
      case fin =>
        intro a w' hF gK hA
        have e16 : a.tmps.getD 16 undef = .slice A k c := hA 1 (by decide)
        obtain ⟨h24, A9, c9, e24, hb24, h9⟩ := hA 9 (by decide)
        have e24 : a.tmps.getD 24 undef = .slice (some ⟨h24, 0, none⟩) 1 1 := e24
        have ha := frameD_list (l := [15, 16, 17, 18, 19, 20, 21, 22, 23, 24]) rfl hF
        rw [ha]
        simp only [List.map_cons, List.map_nil, e16, e24]
        generalize a.tmps.getD 15 undef = u0
        generalize a.tmps.getD 17 undef = u2
        generalize a.tmps.getD 18 undef = u3
        generalize a.tmps.getD 19 undef = u4
        generalize a.tmps.getD 20 undef = u5
        generalize a.tmps.getD 21 undef = u6
        generalize a.tmps.getD 22 undef = u7
        generalize a.tmps.getD 23 undef = u8
        simp only [fillD, List.setIfInBounds_toArray, List.set_cons_zero, List.set_cons_succ]
        have hbW := HC.out.hb.keep gK id
        have hrW := HC.out.hr.keepN gK
        have hwz2 := gK.size
        have hPn : w.heap.size + 1 + 1 + 1 ≤ w'.heap.size := by omega
        have HFIN : Hid (∀ v' W5, W5.ownsRow 0 68 1 v' (k + 1) (svs es' ++ [.slice A9 n1 c9]) → w'.grownBy W5 (Value.slice A k c).ownBlock → (v'.ownBlock = (Value.slice A k c).ownBlock ∨ v'.ownBlock = some w'.heap.size) →
            Blk W5 (w.heap.size + 1 + 1) 25 #[.slice A k c, .slice none 0 0] ∧ ∀ A5 c5, v' = .slice A5 (k + 1) c5 → CpS wb (W5.setCell ⟨w.heap.size + 1 + 1, 0, none⟩ v') w.heap.size (k + 1) A5 c5 (.slice none 0 0) (w.heap.size + 1 + 1 + 1) es (es' ++ [(⟨A9, n1, c9⟩, l)])) := fun v' W5 hown hg hv => by
          obtain ⟨h1, h2, h3, h4⟩ := row_append (i := 0) hbW hrW (fun j (hj : w.heap.size + 1 + 1 + 1 ≤ j) => by omega) hg hown hv hPn
          have hty := row_ty (F := 3) hbW hrW (by decide) (by decide)
          refine ⟨h1, fun A5 c5 e => ?_⟩
          subst e
          refine ⟨by simpa using h3, by rw [svs_append]; exact h2, fun e he => ?_, by rw [List.map_append, HC.out.he, HT.out]; rfl, (HC.out.hk.trans (gK.mono (fun _ hf _ => hf.elim)) (fun _ h _ => h)).trans h4 (fun j hj hl => by
            rcases (row_at hbW hrW j hj).1 with h | h
            · exact h
            · exfalso
              have : w.heap.size + 1 + 1 + 1 ≤ j := h
              omega)⟩
          rcases List.mem_append.1 he with he | he
          · exact own_other ((HC.out.hs e he).keep gK (fun _ _ => id)) h4 hty
          · rw [List.mem_singleton.1 he]; exact own_other h9 h4 hty
        have HBW := Lib.hid hrW
        clear hA hF ha e16 e24 HC h9 HAP hbW hrW HT s0 c0 c1 d0
        simp only [List.drop_succ_cons, List.drop_zero]
        have hrb := rd_blkN hb24
        generalize svs es' = xs at *
        go_wp2_with (at_builtin; refine wpList_append_rd _ rfl (.tmp 16) (.tmp 24) _ rfl 68 1 24 i0 _ Tryz.underlying22 hi hz0 hz1 hz2 rfl (by decide) (.slice A k c) k xs (some ⟨h24, 0, none⟩) 1 1 [.slice A9 n1 c9] rfl HBW.out.1 rfl hrb rfl (by simp [Value.oneCell']) (by unfold maxLen; omega) (by omega) ?_; intro B5 d5 W5 hrow5 hg5 hv5; obtain ⟨hb5, hfin⟩ := HFIN.out _ _ hrow5 hg5 hv5; have t0 := hb5.cell 0; have f0 := fun i => hb5.frozen i; have l0 := hb5.lt; simp only [List.getElem?_toArray, List.getElem?_cons_zero] at t0)
        go_roundw
        case rel => exact ⟨k + 1, by omega, by go_num, B5, d5, _, hfin _ _ rfl⟩
        case measure => simp [intOf]; omega
    · obtain rfl : k = nx := by omega
      have HES : Hid ((es'.map fun e => e.2) = es.map fun e => e.2) := by
        show _ = _
        rw [HC.out.he, List.take_of_length_le (by omega)]
      have HF0 : Hid (CpF wb wr w.heap.size k 0 A none c 0 (w.heap.size + 1 + 1 + 1) es' fs []) := ⟨HC.out.hb, HC.out.hr, HC.out.hs, Own.nil _ _ _ _, (fun _ h => nomatch h), by simp, HC.out.hk⟩
      clear HC
      go_wp2_with fail
      clear s0
      go_loopw [6] (fun i wr => ∃ j : Nat, j ≤ ny ∧ i = .int .i64 j ∧ ∃ A2 c2 fs', Hid (CpF wb wr w.heap.size k j A A2 c c2 (w.heap.size + 1 + 1 + 1) es' fs fs')) (fun i _ => ny - (intOf i).toNat)
      case atStart => exact ⟨0, Nat.zero_le _, rfl, _, _, _, HF0.out⟩
      case round =>
        obtain ⟨j, hjn, rfl, A2, c2, fs', HC⟩ := hrel
        clear HF0
        have s0 := HC.out.hk.cell p0 (by show ¬ (w.heap.size = w.heap.size + 1 + 1); omega)
        have s1 := HC.out.hk.cell p1 (by show ¬ (w.heap.size = w.heap.size + 1 + 1); omega)
        obtain ⟨c0, c1⟩ := blk2 (v := ⟨A, k, c, A2, j, c2⟩) HC.out.hb
        dsimp only at c0 c1
        by_cases hlt : j < ny
        · have hje : j < fs.length := by omega
          obtain ⟨g, off, rfl, d0, d1, d2, d3, d4⟩ := fun_at (HIK.out wr HC.out.hk).ry hje
          have hfn := (HIK.out wr HC.out.hk).hf _ (List.getElem_mem hje)
          have hsm := HSM.out.fn _ (List.getElem_mem hje)
          have HT : Hid ((fs.take (j + 1)).map (fun e => e.2) = (fs.take j).map (fun e => e.2) ++ [fs[j].2]) := by
            show _ = _
            rw [List.take_succ_eq_append_getElem hje, List.map_append]; rfl
          have hwz := HC.out.hk.size
          have hfl : fs'.length = j := by have := congrArg List.length HC.out.he; simp at this; omega
          have HCP := Lib.hid (fun W (hk : Keep NoB wr W) => F.rcopyF_any fs[j].1 fs[j].2 W (hfn.keepN hk) hsm)
          clear hfn hsm
          generalize fs[j] = e at *
          obtain ⟨⟨S1, A1, na1, ca1, B1, nb1, cb1, L1, nl1, cl1, D1, nd1, cd1⟩, f⟩ := e
          dsimp only [F.FV.val, F.FV.cells] at *
          go_wp2_with fail
          refine wp_region_tail (fun i => [34, 35, 36, 37, 38, 39, 40, 41, 42].getD i 0) 9 (by kernel_rfl) (by kernel_rfl) (by kernel_rfl) (by kernel_rfl) (by kernel_rfl) (SCf w.heap.size (w.heap.size + 1 + 1 + 1) (.slice A2 j c2) (some ⟨g, off, none⟩) ny cy j g off ⟨S1, A1, na1, ca1, B1, nb1, cb1, L1, nl1, cl1, D1, nd1, cd1⟩ f) (fun i u x y h hk => SCf_stable _ _ _ _ _ _ _ _ _ _ _ i u x y h hk) rfl ?step ?fin
          case step =>
            intro i o a w' hoo hi hF hK hA
            by_cases h0 : i = 0
            · subst h0
              simp only [List.getElem?_toArray, List.getElem?_cons_zero, Option.some.injEq] at hoo
              subst hoo
              have e3 : a.tmps.getD 3 undef = .pointer (some ⟨w.heap.size + 1 + 1, 0, none⟩) := hF.2.2 3 (by decide)
              refine Does.plain rfl ?_
              unfold yieldsK
              go_simp
              exact ⟨rfl, Keep.refl _ _⟩
            by_cases h1 : i = 1
            · subst h1
              simp only [List.getElem?_toArray, List.getElem?_cons_zero, List.getElem?_cons_succ, Option.some.injEq] at hoo
              subst hoo
              have e34 : a.tmps.getD 34 undef = .pointer (some ⟨w.heap.size + 1 + 1, 1, none⟩) := hA ⟨0, .data⟩ (by simp) rfl
              have q0 := Keep.cell hK c1 id
              refine Does.plain rfl ?_
              unfold yieldsK
              go_simp
              exact ⟨rfl, Keep.refl _ _⟩
            by_cases h2 : i = 2
            · subst h2
              simp only [List.getElem?_toArray, List.getElem?_cons_zero, List.getElem?_cons_succ, Option.some.injEq] at hoo
              subst hoo
              have e1 : a.tmps.getD 1 undef = .pointer (some ⟨w.heap.size, 0, none⟩) := hF.2.2 1 (by decide)
              refine Does.plain rfl ?_
              unfold yieldsK
              go_simp
              exact ⟨rfl, Keep.refl _ _⟩
            by_cases h3 : i = 3
            · subst h3
              simp only [List.getElem?_toArray, List.getElem?_cons_zero, List.getElem?_cons_succ, Option.some.injEq] at hoo
              subst hoo
              have e36 : a.tmps.getD 36 undef = .pointer (some ⟨w.heap.size, 1, none⟩) := hA ⟨2, .data⟩ (by simp) rfl
              have q0 := Keep.cell hK s1 id
              refine Does.plain rfl ?_
              unfold yieldsK
              go_simp
              exact ⟨rfl, Keep.refl _ _⟩
            by_cases h4 : i = 4
            · subst h4
              simp only [List.getElem?_toArray, List.getElem?_cons_zero, List.getElem?_cons_succ, Option.some.injEq] at hoo
              subst hoo
              have e6 : a.tmps.getD 6 undef = .int .i64 (j : Int) := hF.2.2 6 (by decide)
              refine Does.plain rfl ?_
              unfold yieldsK
              go_simp
              exact ⟨rfl, Keep.refl _ _⟩
            by_cases h5 : i = 5
            · subst h5
              simp only [List.getElem?_toArray, List.getElem?_cons_zero, List.getElem?_cons_succ, Option.some.injEq] at hoo
              subst hoo
              have e37 : a.tmps.getD 37 undef = .slice (some ⟨g, off, none⟩) ny cy := hA ⟨3, .data⟩ (by simp) rfl
              have e38 : a.tmps.getD 38 undef = .int .i64 (j : Int) := hA ⟨4, .data⟩ (by simp) rfl
              have hkn : (j : Int) < (ny : Int) := by omega
              refine Does.plain rfl ?_
              unfold yieldsK
              go_simp
              exact ⟨rfl, Keep.refl _ _⟩
            by_cases h6 : i = 6
            · subst h6
              simp only [List.getElem?_toArray, List.getElem?_cons_zero, List.getElem?_cons_succ, Option.some.injEq] at hoo
              subst hoo
              have e39 : a.tmps.getD 39 undef = .pointer (some ⟨g, off + j * 5, none⟩) := hA ⟨5, .data⟩ (by simp) rfl
              have q0 := Keep.cell hK d0 id
              have q1 := Keep.cell hK d1 id
              have q2 := Keep.cell hK d2 id
              have q3 := Keep.cell hK d3 id
              have q4 := Keep.cell hK d4 id
              refine Does.plain rfl ?_
              unfold yieldsK
              go_simp
              exact ⟨rfl, Keep.refl _ _⟩
            by_cases h7 : i = 7
            · subst h7
              simp only [List.getElem?_toArray, List.getElem?_cons_zero, List.getElem?_cons_succ, Option.some.injEq] at hoo
              subst hoo
              have e40 : a.tmps.getD 40 undef = .agg #[.string S1, .slice A1 na1 ca1, .slice B1 nb1 cb1, .slice L1 nl1 cl1, .slice D1 nd1 cd1] := hA ⟨6, .data⟩ (by simp) rfl
              refine Does.plain rfl ?_
              unfold yieldsK
              go_simp
              refine (HCP.out w' hK).mono ?_
              rintro e w9 ⟨q, rfl, hq, hk9⟩
              exact ⟨_, rfl, ⟨q, rfl, hq.mono (fun i (hi : Fresh w' i) _ => by have := hK.size; unfold Fresh at hi; omega)⟩, hk9⟩
            by_cases h8 : i = 8
            · subst h8
              simp only [List.getElem?_toArray, List.getElem?_cons_zero, List.getElem?_cons_succ, Option.some.injEq] at hoo
              subst hoo
              obtain ⟨q, e41, hq⟩ := hA ⟨7, .data⟩ (by simp) rfl
              have e41 : a.tmps.getD 41 undef = q.val := e41
              refine Does.plain rfl ?_
              obtain ⟨S9, A9, na9, ca9, B9, nb9, cb9, L9, nl9, cl9, D9, nd9, cd9⟩ := q
              dsimp only [F.FV.val, F.FV.cells] at e41
              simp only [Array.getD_eq_getD_getElem?] at e41
              unfold yieldsK
              go_simp
              exact ⟨⟨w'.heap.size, ⟨S9, A9, na9, ca9, B9, nb9, cb9, L9, nl9, cl9, D9, nd9, cd9⟩, rfl, Blk.new _ _ _, hq.keepN ((Keep.refl _ _).alloc _)⟩, (Keep.refl _ _).alloc _⟩
            omega
          case fin =>
            intro a w' hF gK hA
            have e35 : a.tmps.getD 35 undef = .slice A2 j c2 := hA 1 (by decide)
            obtain ⟨h42, q, e42, hb42, hq⟩ := hA 8 (by decide)
            have e42 : a.tmps.getD 42 undef = .slice (some ⟨h42, 0, none⟩) 1 1 := e42
            have ha := frameD_list (l := [34, 35, 36, 37, 38, 39, 40, 41, 42]) rfl hF
            rw [ha]
            simp only [List.map_cons, List.map_nil, e35, e42]
            generalize a.tmps.getD 34 undef = u0
            generalize a.tmps.getD 36 undef = u2
            generalize a.tmps.getD 37 undef = u3
            generalize a.tmps.getD 38 undef = u4
            generalize a.tmps.getD 39 undef = u5
            generalize a.tmps.getD 40 undef = u6
            generalize a.tmps.getD 41 undef = u7
            simp only [fillD, List.setIfInBounds_toArray, List.set_cons_zero, List.set_cons_succ]
            have hbW := HC.out.hb.keep gK id
            have hrW := HC.out.hr2.keepN gK
            have hwz2 := gK.size
            have hPn : w.heap.size + 1 + 1 + 1 ≤ w'.heap.size := by omega
            have HFIN : Hid (∀ v' W5, W5.ownsRow 0 37 5 v' (j + 1) (fvs fs' ++ q.cells.toList) → w'.grownBy W5 (Value.slice A2 j c2).ownBlock → (v'.ownBlock = (Value.slice A2 j c2).ownBlock ∨ v'.ownBlock = some w'.heap.size) →
                Blk W5 (w.heap.size + 1 + 1) 25 #[.slice A k c, .slice A2 j c2] ∧ ∀ A5 c5, v' = .slice A5 (j + 1) c5 → CpF wb (W5.setCell ⟨w.heap.size + 1 + 1, 1, none⟩ v') w.heap.size k (j + 1) A A5 c c5 (w.heap.size + 1 + 1 + 1) es' fs (fs' ++ [(q, f)])) := fun v' W5 hown hg hv => by
              obtain ⟨h1, h2, h3, h4⟩ := row_append (i := 1) hbW hrW (fun j (hj : w.heap.size + 1 + 1 + 1 ≤ j) => by omega) hg hown hv hPn
              have hty := row_ty (F := 3) hbW hrW (by decide) (by decide)
              have hti := row_ty (F := 55) hbW hrW (by decide) (by decide)
              have hts := row_ty (F := 68) hbW hrW (by decide) (by decide)
              refine ⟨h1, fun A5 c5 e => ?_⟩
              subst e
              refine ⟨by simpa using h3, own_other (HC.out.hr.keepN gK) h4 hts, fun e he => own_other ((HC.out.hs e he).keep gK (fun _ _ => id)) h4 hty, by rw [fvs_append]; simpa [fvs] using h2, fun e he => ?_, by rw [List.map_append, HC.out.he, HT.out]; rfl, (HC.out.hk.trans (gK.mono (fun _ hf _ => hf.elim)) (fun _ h _ => h)).trans h4 (fun i hi hl => by
                rcases (row_at hbW hrW i hi).1 with h | h
                · exact h
                · exfalso
                  have : w.heap.size + 1 + 1 + 1 ≤ i := h
                  omega)⟩
              rcases List.mem_append.1 he with he | he
              · exact ownF_other ((HC.out.hf e he).keepN gK) h4 hty hti
              · rw [List.mem_singleton.1 he]; exact ownF_other hq h4 hty hti
            have HBW := Lib.hid hrW
            clear hA hF ha e35 e42 HC hq HCP hbW hrW HT s0 s1 c0 c1 d0 d1 d2 d3 d4
            simp only [List.drop_succ_cons, List.drop_zero]
            have hrb := rd_blkN hb42
            have HQ1 : Hid (q.cells.toList.length = 1 * 5 ∧ ∀ u ∈ q.cells.toList, u.oneCell' = true) := ⟨cells_len q, fun u hu => by
              unfold F.FV.cells at hu
              simp only [List.mem_cons, List.not_mem_nil, or_false] at hu
              rcases hu with rfl | rfl | rfl | rfl | rfl <;> rfl⟩
            generalize fvs fs' = xs at *
            generalize q.cells = qc at *
            go_wp2_with (at_builtin; refine wpList_append_rd _ rfl (.tmp 35) (.tmp 42) _ rfl 37 5 112 j0 _ Tryz.underlying23 hj hy0 hy1 hy2 rfl (by decide) (.slice A2 j c2) j xs (some ⟨h42, 0, none⟩) 1 1 qc.toList rfl HBW.out.1 rfl hrb HQ1.out.1 HQ1.out.2 (by unfold maxLen; omega) (by omega) ?_; intro B5 d5 W5 hrow5 hg5 hv5; obtain ⟨hb5, hfin⟩ := HFIN.out _ _ hrow5 hg5 hv5; have t0 := hb5.cell 1; have f0 := fun i => hb5.frozen i; have l0 := hb5.lt; simp only [List.getElem?_toArray, List.getElem?_cons_zero, List.getElem?_cons_succ] at t0)
            go_roundw
            case rel => exact ⟨j + 1, by omega, by go_num, B5, d5, _, hfin _ _ rfl⟩
            case measure => simp [intOf]; omega
        · obtain rfl : j = ny := by omega
          have bz2 := HBZ.out.keep HC.out.hk (by show ¬ (w.heap.size + 1 = w.heap.size + 1 + 1); omega)
          have f3 := fun i => bz2.frozen i
          have q0 := bz2.cell 0
          have q1 := bz2.cell 1
          simp only [List.getElem?_toArray, List.getElem?_cons_zero, List.getElem?_cons_succ] at q0 q1
          have hlt2 := bz2.lt
          have HP := Lib.hid (put2_img bz2 (.slice A k c) (.slice A2 j c2))
          have kq := keep2_img wr (w.heap.size + 1) (.slice A k c) (.slice A2 j c2)
          have HK : Hid (Keep NoB w ((wr.setCell ⟨w.heap.size + 1, 0, none⟩ (.slice A k c)).setCell ⟨w.heap.size + 1, 1, none⟩ (.slice A2 j c2))) := (gK.trans HC.out.hk (fun k e hl => by omega)).trans kq (fun k e hl => by omega)
          have HO : Hid (OwnIm ((wr.setCell ⟨w.heap.size + 1, 0, none⟩ (.slice A k c)).setCell ⟨w.heap.size + 1, 1, none⟩ (.slice A2 j c2)) (Fresh w) ⟨A, k, c, A2, j, c2⟩ es' fs') :=
            ((⟨HC.out.hr, HC.out.hr2, HC.out.hs, HC.out.hf⟩ : OwnIm wr (fun j => w.heap.size + 1 + 1 + 1 ≤ j) ⟨A, k, c, A2, j, c2⟩ es' fs').keep kq (fun i hi e => by omega)).mono (fun i hi _ => by unfold Fresh; omega)
          have HM : Hid (imOf es' fs' = imOf es fs) := by
            show _ = _
            unfold imOf
            rw [HES.out, HC.out.he, List.take_of_length_le (by omega)]
          clear HC bz2 s0 kq HES
          go_wp2
          refine bodyPost_ret (ret_img (v := ⟨A, k, c, A2, j, c2⟩) rfl rfl HP.out) rfl ?_
          exact ⟨⟨A, k, c, A2, j, c2⟩, es', fs', rfl, HO.out, HM.out, HK.out⟩

end Go.Proofs.YtgnooffedmeenaaGreatDoor.I

namespace Go.Proofs.YtgnooffedmeenaaGreatDoor.I
open Go.RowKit W

end Go.Proofs.YtgnooffedmeenaaGreatDoor.I

namespace Go.Proofs.YtgnooffedmeenaaGreatDoor.I
open Go.RowKit W

end Go.Proofs.YtgnooffedmeenaaGreatDoor.I

namespace Go.Proofs.YtgnooffedmeenaaGreatDoor.O
open Go.RowKit

end Go.Proofs.YtgnooffedmeenaaGreatDoor.O

namespace Go.Proofs.YtgnooffedmeenaaGreatDoor.C
open Go.RowKit O

end Go.Proofs.YtgnooffedmeenaaGreatDoor.C

namespace Go.Proofs.YtgnooffedmeenaaGreatDoor.C
open Go.RowKit O

end Go.Proofs.YtgnooffedmeenaaGreatDoor.C

namespace Go.Proofs.YtgnooffedmeenaaGreatDoor.F
open Go.RowKit W

end Go.Proofs.YtgnooffedmeenaaGreatDoor.F

namespace Go.Proofs.YtgnooffedmeenaaGreatDoor.F
open Go.RowKit W

/-- The bytes so far. -/
def Byt (W2 : World) (b : Nat) (bs : List UInt8) (w : World) : Prop := Keep (fun k => k = b) W2 w ∧ ∃ u, Blk w b 120 #[u] ∧ V.OwnB w (Fresh W2) u bs
/-- A writer: what encodes, the part, and where the bytes go, each in a cell of its own. -/
def WrV (k : Nat) (tc tp : TypeId) (enc : Value) (cells : Array Value) (b m : Nat) (v : Value) (w : World) : Prop :=
  ∃ c p q, v = askV k #[.pointer (some ⟨c, 0, none⟩), .pointer (some ⟨p, 0, none⟩), .pointer (some ⟨q, 0, none⟩)] ∧ (m ≤ c ∧ m ≤ p ∧ m ≤ q) ∧ Blk w c tc #[enc] ∧ Blk w p tp cells ∧ Blk w q 216 #[.pointer (some ⟨b, 0, none⟩)]
theorem WrV.keep {k : Nat} {tc tp : TypeId} {enc : Value} {cells : Array Value} {b m : Nat} {v : Value} {w w' : World} {O : Nat → Prop} (h : WrV k tc tp enc cells b m v w) (hk : Keep O w w') (hO : ∀ x, m ≤ x → ¬ O x) : WrV k tc tp enc cells b m v w' := by
  obtain ⟨c, p, q, e, ⟨m1, m2, m3⟩, h1, h2, h3⟩ := h
  exact ⟨c, p, q, e, ⟨m1, m2, m3⟩, h1.keep hk (hO _ m1), h2.keep hk (hO _ m2), h3.keep hk (hO _ m3)⟩
theorem Byt.keepN {W2 w w' : World} {b : Nat} {bs : List UInt8} (h : Byt W2 b bs w) (hk : Keep NoB w w') : Byt W2 b bs w' := by
  obtain ⟨h1, u, h2, h3⟩ := h
  exact ⟨h1.trans hk (fun _ h _ => h.elim), u, h2.keep hk id, h3.keep hk (fun _ _ => id)⟩
end Go.Proofs.YtgnooffedmeenaaGreatDoor.F

namespace Go.Proofs.YtgnooffedmeenaaGreatDoor.F
open Go.RowKit W

end Go.Proofs.YtgnooffedmeenaaGreatDoor.F

namespace Go.Proofs.YtgnooffedmeenaaGreatDoor.F
open Go.RowKit W

end Go.Proofs.YtgnooffedmeenaaGreatDoor.F

namespace Go.Proofs.YtgnooffedmeenaaGreatDoor.I
open Go.RowKit W

end Go.Proofs.YtgnooffedmeenaaGreatDoor.I

namespace Go.Proofs.YtgnooffedmeenaaGreatDoor.I
open Go.RowKit W

end Go.Proofs.YtgnooffedmeenaaGreatDoor.I

namespace Go.Proofs.YtgnooffedmeenaaGreatDoor
open Go.RowKit
section
variable {P : Program} {md : Region.Mode} {ops : Array Oper}
end
end Go.Proofs.YtgnooffedmeenaaGreatDoor

namespace Go.Proofs.YtgnooffedmeenaaGreatDoor.I
open Go.RowKit W

/-- A slice of bytes that reads as a list. -/
def PtV (l : List UInt8) (u : Value) (w : World) : Prop := ∃ A c, u = .slice A l.length c ∧ V.Rd w A l
theorem PtV.keepN {l : List UInt8} {u : Value} {w w' : World} (h : PtV l u w) (hk : Keep NoB w w') : PtV l u w' := by
  obtain ⟨A, c, e, h⟩ := h
  exact ⟨A, c, e, h.keep hk (fun _ _ _ => id)⟩
/-- One block of bytes gets the run-time's mark. -/
structure MarkK (w w' : World) : Prop where
  os : w'.os = w.os
  tape : w'.tape = w.tape
  output : w'.output = w.output
  size : w'.heap.size = w.heap.size
  block : ∀ k : Nat, w'.heap[k]? = w.heap[k]? ∨ ∃ (cs : Array Value) (t : TypeId) (f f' : Nat × Nat), w.heap[k]? = some (Obj.cells cs t f) ∧ w'.heap[k]? = some (Obj.cells cs t f')
theorem MarkK.cell {w w' : World} (h : MarkK w w') {p : Addr} {v : Value} (hc : w.cell? p = some v) : w'.cell? p = some v := by
  rcases h.block p.block with hb | ⟨cs, t, f, f', h1, h2⟩
  · exact (World.cell?_of_block hb).trans hc
  · unfold World.cell? at hc ⊢
    rw [h1] at hc
    rw [h2]
    exact hc
end Go.Proofs.YtgnooffedmeenaaGreatDoor.I

namespace Go.Proofs.YtgnooffedmeenaaGreatDoor.O
open Go.ChangeShapes Go.WideShapes Go.ChangeAt Go.RowKit

theorem seatOwn : ownKnob Tryz.prog.godebug = none := by kernel_rfl
theorem seatLaidOut : laidOutB Tryz.prog = true := by kernel_rfl
theorem i64_of_wf {n : Int} (h : (Lit.int .i64 n).wf = true) : I64 n := by
  have hmin : IntKind.i64.min = -9223372036854775808 := rfl
  have hmax : IntKind.i64.max = 9223372036854775807 := rfl
  simp only [Lit.wf, Bool.and_eq_true, decide_eq_true_eq] at h
  unfold I64; omega
theorem tLet : (Tryz.prog.globals[1]?).map (·.type) = some 251 := by kernel_rfl
theorem tPow : (Tryz.prog.globals[4]?).map (·.type) = some 352 := by kernel_rfl
theorem tSyn : (Tryz.prog.globals[9]?).map (·.type) = some 128 := by kernel_rfl
theorem tRng : (Tryz.prog.globals[10]?).map (·.type) = some 128 := by kernel_rfl
theorem tBin : (Tryz.prog.globals[5]?).map (·.type) = some 356 := by kernel_rfl
theorem tUn : (Tryz.prog.globals[6]?).map (·.type) = some 358 := by kernel_rfl
theorem errStar : "*" ++ "errors.errorString" = "*errors.errorString" := by decide
theorem errRow (u : TypeId) (h : Tryz.prog.typeName? 3 u = some "*errors.errorString") : u = 400 :=
  typeName_ptr_named (nm := "errors.errorString") (by rw [errStar]; kernel_rfl) (by kernel_rfl) (by decide) u (by rw [errStar]; exact h)

set_option maxRecDepth 100000 in
theorem laidO_of {W0 : World} {x y : String × DataW Unit}
    (h : laidMet Tryz.prog [("backstay/alu.binNames", Rows.laid_backstay_alu_binNames), ("backstay/alu.unNames", Rows.laid_backstay_alu_unNames), x, y, ("internal/strconv.uint64pow10", Rows.laid_internal_strconv_uint64pow10), ("strconv.ErrRange", Rows.laid_strconv_ErrRange), ("strconv.ErrSyntax", Rows.laid_strconv_ErrSyntax), ("backstay/value.letters", Rows.laid_backstay_value_letters)] W0) : LaidO W0 := by
  have h4 := h.tail.tail.tail.tail
  have h5 := h4.tail
  have h6 := h5.tail
  refine ⟨Lib.tabIs_of_head (zs := [0, 73, 82, 70, 80]) (k := .i32) _root_.Go.Proofs.YtgnooffedmeenaaGreatDoor.W.gLet tLet Tryz.underlying251 Tryz.underlying21 (by kernel_rfl) (by kernel_rfl) h6.tail,
    ⟨A.strs_of_head (l := A.binNs) A.gBin tBin Tryz.underlying356 Tryz.underlying9 (by kernel_rfl) (by kernel_rfl) h,
     A.strs_of_head (l := A.unNs) A.gUn tUn Tryz.underlying358 Tryz.underlying9 (by kernel_rfl) (by kernel_rfl) h.tail⟩,
    Lib.tabIs_of_head (zs := Lib.pow10Tab) (k := .u64) _root_.Go.Proofs.YtgnooffedmeenaaGreatDoor.W.gPow tPow Tryz.underlying352 Tryz.underlying194 (by kernel_rfl) (by kernel_rfl) h4, ?_, ?_⟩
  · obtain ⟨a, s, hv, _⟩ := laid_sentinel h6 _root_.Go.Proofs.YtgnooffedmeenaaGreatDoor.W.gSyn tSyn Tryz.underlying128 errRow Tryz.underlying400 Tryz.underlying402 rfl rfl Tryz.underlying9 (by kernel_rfl) (by kernel_rfl)
    exact ⟨_, _, hv⟩
  · obtain ⟨a, s, hv, _⟩ := laid_sentinel h5 _root_.Go.Proofs.YtgnooffedmeenaaGreatDoor.W.gRng tRng Tryz.underlying128 errRow Tryz.underlying400 Tryz.underlying402 rfl rfl Tryz.underlying9 (by kernel_rfl) (by kernel_rfl)
    exact ⟨_, _, hv⟩

section
variable {H : Type} {enc : TypeId × Value → H} {w : World} {base b0 : Nat} {spare : Nat → Bool} {held : Bool} {r : Reach} {v : Value} {d : DataW H} {p : List MemPlace}
end

end Go.Proofs.YtgnooffedmeenaaGreatDoor.O

namespace Go.Proofs.YtgnooffedmeenaaGreatDoor.C
open Go.ChangeShapes Go.WideShapes Go.ChangeAt Go.RowKit Go.Deep O

theorem addr_of_cell {w : World} {a : Addr} {v : Value} (h : w.cell? a = some v) : a = ⟨a.block, a.off, none⟩ := by
  obtain ⟨b, o, s⟩ := a
  cases s with
  | none => rfl
  | some s => unfold World.cell? at h; split at h <;> simp at h
theorem add_of (b o k : Nat) : (⟨b, o, none⟩ : Addr).add k = ⟨b, o + k, none⟩ := by unfold Addr.add; by_cases hk : k = 0 <;> simp [hk]

section
variable {H : Type} {enc : TypeId × Value → H} {W : World} {base : Nat} {spare : Nat → Bool} {held : Bool} {fuel : Nat} {cs : List Value} {x : DataW H × List MemPlace}
set_option maxRecDepth 100000 in
theorem read_insts (h : DataW.trod enc Tryz.prog W base spare held fuel 35 cs = some x) : ∃ A l c, cs = [.slice A l.length c] ∧ Rd W A (iis l) ∧ l.length ≤ c ∧ c ≤ maxLen ∧ AllI l := by
  rcases open_slice Tryz.underlying35 h with ⟨hcs, _⟩ | ⟨a, len, cap, m, n, D, Pl, hcs, _, hl, hm, hmm, _, hi⟩
  · exact ⟨none, [], 0, hcs, Rd.none_ _ _, Nat.le_refl _, Nat.zero_le _, fun _ h => by simp at h⟩
  · have hlm : len ≤ m := by rw [hmm]; split <;> omega
    have cI : Tryz.prog.cellsOf 55 = 3 := by kernel_rfl
    have c3 : Tryz.prog.cellsOf 3 = 1 := by kernel_rfl
    have c2 : Tryz.prog.cellsOf 2 = 1 := by kernel_rfl
    have each : ∀ i : Nat, ∃ v : I3, i < len → W.cell? (a.add (i * 3)) = some (.int .i64 v.1) ∧ W.cell? ((a.add (i * 3)).add 1) = some (.int .i64 v.2.1) ∧ W.cell? ((a.add (i * 3)).add 2) = some (.int .i64 v.2.2) ∧ O.I64 v.2.1 ∧ O.I64 v.2.2 := by
      intro i
      by_cases hlt : i < len
      · obtain ⟨cs', hc, ht'⟩ := hi i (by omega)
        rw [cI] at hc
        obtain ⟨y0, y1, y2, k, _, hlen, h0, h1, h2⟩ := trod_struct3 Tryz.underlying55 ht'
        obtain ⟨_, hcl, hat⟩ := World.cells?_some hc
        match cs', hcl with
        | [u0, u1, u2], _ =>
          have g0 := hat 0 (by omega)
          have g1 := hat 1 (by omega)
          have g2 := hat 2 (by omega)
          obtain ⟨z0, e0, _, w0⟩ := DataW.trod_int Tryz.underlying3 h0
          obtain ⟨z1, e1, _, w1⟩ := DataW.trod_int Tryz.underlying2 h1
          obtain ⟨z2, e2, _, w2⟩ := DataW.trod_int Tryz.underlying2 h2
          simp [c3] at e0
          simp [c2] at e1
          simp [c2] at e2
          subst e0 e1 e2
          exact ⟨(z0, z1, z2), fun _ => ⟨by simpa [Addr.add] using g0, by simpa using g1, by simpa using g2, i64_of_wf w1, i64_of_wf w2⟩⟩
      · exact ⟨(0, 0, 0), fun h => absurd h hlt⟩
    obtain ⟨f, hf⟩ := Classical.axiomOfChoice each
    have hlen : ((List.range len).map f).length = len := by simp
    refine ⟨some a, (List.range len).map f, cap, by rw [hlen]; exact hcs, fun h0 => ?_, by rw [hlen]; exact hl, hm, fun v hv => ?_⟩
    · have h0' : 0 < len := by rw [iis_length, hlen] at h0; omega
      have ea := addr_of_cell (hf 0 h0').1
      have ea' : a = ⟨a.block, a.off, none⟩ := by simpa [Addr.add] using ea
      refine ⟨a.block, a.off, by rw [← ea'], fun j u hu => ?_⟩
      have hj : j < len * 3 := by have := (List.getElem?_eq_some_iff.1 hu).1; rw [iis_length, hlen] at this; exact this
      have hd : j / 3 < len := by omega
      obtain ⟨k0, k1, k2, _⟩ := hf (j / 3) hd
      obtain ⟨q0, q1, q2⟩ := iis_at ((List.range len).map f) (j / 3) (by rw [hlen]; exact hd)
      rw [ea', add_of] at k0 k1 k2
      rw [add_of] at k1 k2
      simp only [List.getElem_map, List.getElem_range] at q0 q1 q2
      have hm3 : j % 3 = 0 ∨ j % 3 = 1 ∨ j % 3 = 2 := by omega
      rcases hm3 with hr | hr | hr
      · have ej : j = j / 3 * 3 := by omega
        rw [ej, q0] at hu
        rw [ej, k0]; exact hu
      · have ej : j = j / 3 * 3 + 1 := by omega
        rw [ej, q1] at hu
        rw [ej, ← Nat.add_assoc, k1]; exact hu
      · have ej : j = j / 3 * 3 + 2 := by omega
        rw [ej, q2] at hu
        rw [ej, ← Nat.add_assoc, k2]; exact hu
    · obtain ⟨i, hi', rfl⟩ := List.mem_map.1 hv
      exact ⟨(hf i (List.mem_range.1 hi')).2.2.2.1, (hf i (List.mem_range.1 hi')).2.2.2.2⟩
end
section
variable {H : Type} {enc : TypeId × Value → H} {w : World} {base b0 : Nat} {spare : Nat → Bool} {held : Bool} {r : Reach} {v : Value} {d : DataW H} {p : List MemPlace}
end

end Go.Proofs.YtgnooffedmeenaaGreatDoor.C

namespace Go.Proofs.YtgnooffedmeenaaGreatDoor.I
open Go.RowKit W

end Go.Proofs.YtgnooffedmeenaaGreatDoor.I

namespace Go.Proofs.YtgnooffedmeenaaGreatDoor.F
open Go.RowKit W

end Go.Proofs.YtgnooffedmeenaaGreatDoor.F

namespace Go.Proofs.YtgnooffedmeenaaGreatDoor.I
open Go.RowKit W

end Go.Proofs.YtgnooffedmeenaaGreatDoor.I

namespace Go.Proofs.YtgnooffedmeenaaGreatDoor.I
open Go.RowKit W

end Go.Proofs.YtgnooffedmeenaaGreatDoor.I

namespace Go.Proofs.YtgnooffedmeenaaGreatDoor.I
open Go.RowKit W

end Go.Proofs.YtgnooffedmeenaaGreatDoor.I

namespace Go.Proofs.YtgnooffedmeenaaGreatDoor.I
open Go.RowKit W

end Go.Proofs.YtgnooffedmeenaaGreatDoor.I

namespace Go.Proofs.YtgnooffedmeenaaGreatDoor.I
open Go.RowKit W

end Go.Proofs.YtgnooffedmeenaaGreatDoor.I

namespace Go.Proofs.YtgnooffedmeenaaGreatDoor.I
open Go.RowKit W

end Go.Proofs.YtgnooffedmeenaaGreatDoor.I

namespace Go.Proofs.YtgnooffedmeenaaGreatDoor.I
open Go.RowKit W

/-- Images that are the same are as great. -/
theorem smI_same {w w' : World} {v v' : IV} {es es' : List SE} {fs fs' : List FE} (h : ImAt w v es fs) (hs : SmI es fs) (h' : ImAt w' v' es' fs') (he : imOf es' fs' = imOf es fs) : SmI es' fs' := by
  have h1 : (es'.map fun e => e.2) = es.map fun e => e.2 := congrArg Im.sh he
  have h2 : (fs'.map fun e => e.2) = fs.map fun e => e.2 := congrArg Im.fn he
  refine ⟨?_, ?_, fun e he => ?_, fun e he => ?_⟩
  · have := congrArg List.length h1; have := hs.ns; simp at *; omega
  · have := congrArg List.length h2; have := hs.nf; simp at *; omega
  · have hm : e.2 ∈ es.map fun e => e.2 := by rw [← h1]; exact List.mem_map.2 ⟨e, he, rfl⟩
    obtain ⟨q, hq, hqe⟩ := List.mem_map.1 hm
    have a := (h.hs q hq).2
    have b := (h'.hs e he).2
    have c := hs.sh q hq
    rw [hqe] at a
    omega
  · have hm : e.2 ∈ fs.map fun e => e.2 := by rw [← h2]; exact List.mem_map.2 ⟨e, he, rfl⟩
    obtain ⟨q, hq, hqe⟩ := List.mem_map.1 hm
    have a := h.hf q hq
    have b := h'.hf e he
    have c := hs.fn q hq
    rw [hqe] at a
    have e0 := F.sz_len b.nm
    have e1 := F.sz_len a.nm
    exact ⟨by have := c.sz; omega, by have := c.na; have := b.la; have := a.la; omega, by have := c.nb; have := b.lb; have := a.lb; omega, by have := c.nl; have := b.ll; have := a.ll; omega, by have := c.nd; have := b.ld; have := a.ld; omega⟩
theorem lg_of_sm {w : World} {v : IV} {es : List SE} {fs : List FE} (h : ImAt w v es fs) (hs : SmI es fs) : LgI v es fs := by
  have hx := h.lx
  have hy := h.ly
  exact ⟨by have := hs.ns; omega, by have := hs.nf; omega, fun e he => by have := hs.sh e he; omega, fun e he => (hs.fn e he).lg⟩
theorem same_self (p : Im) : sameI p p = true := by unfold sameI; simp
/-- What lies in memory ahead of the law's region. -/
structure IB (W : World) (b0 b1 b2 b3 : Nat) (v o x y : IV) (es eo ex ey : List SE) (fs fo fx fy : List FE) (B RA P Q : Option Addr) (b xs : List UInt8) : Prop where
  k0 : Blk W b0 25 v.cells
  k1 : Blk W b1 25 o.cells
  k2 : Blk W b2 25 x.cells
  k3 : Blk W b3 25 y.cells
  i0 : ImAt W v es fs
  i1 : ImAt W o eo fo
  i2 : ImAt W x ex fx
  i3 : ImAt W y ey fy
  rb : V.Rd W B b
  rr : V.Rd W RA b
  rp : V.Rd W P xs
  rq : V.Rd W Q xs
theorem IB.keepN {W W' : World} {b0 b1 b2 b3 : Nat} {v o x y : IV} {es eo ex ey : List SE} {fs fo fx fy : List FE} {B RA P Q : Option Addr} {b xs : List UInt8} (h : IB W b0 b1 b2 b3 v o x y es eo ex ey fs fo fx fy B RA P Q b xs) (hk : Keep NoB W W') : IB W' b0 b1 b2 b3 v o x y es eo ex ey fs fo fx fy B RA P Q b xs :=
  ⟨h.k0.keep hk id, h.k1.keep hk id, h.k2.keep hk id, h.k3.keep hk id, h.i0.keepN hk, h.i1.keepN hk, h.i2.keepN hk, h.i3.keepN hk, S.rd_n h.rb hk, S.rd_n h.rr hk, S.rd_n h.rp hk, S.rd_n h.rq hk⟩
end Go.Proofs.YtgnooffedmeenaaGreatDoor.I

namespace Go.Proofs.YtgnooffedmeenaaGreatDoor.M.L
open Go.RowKit W

/-- What the values are that the law's region yields. -/
def LTy (o v : I.IV) (T0 T1 T2 : ByteArray) : Nat → Value → World → Prop
  | 0 | 6 | 13 | 20 => fun u _ => u = (.agg #[.slice o.X o.nx o.cx, .slice o.Y o.ny o.cy] : Value)
  | 2 | 8 | 15 | 21 => fun u _ => u = (.agg #[.slice v.X v.nx v.cx, .slice v.Y v.ny v.cy] : Value)
  | 1 | 3 => fun u _ => u = .string T0
  | 7 | 9 => fun u _ => u = .string T1
  | 14 | 16 => fun u _ => u = .string T2
  | _ => fun u _ => u = .bool true
theorem LTy_stable (o v : I.IV) (T0 T1 T2 : ByteArray) (i : Nat) (u : Value) (W W' : World) (h : LTy o v T0 T1 T2 i u W) (_hk : Keep NoB W W') : LTy o v T0 T1 T2 i u W' := by
  unfold LTy at h ⊢
  split at h <;> exact h

set_option maxRecDepth 100000 in
set_option maxHeartbeats 4000000 in
theorem texts_walk (v : I.IV) (es : List I.SE) (fs : List I.FE) (w : World) (h : I.ImAt w v es fs) (hl : I.LgI v es fs) (hL : O.LaidO w) :
    Calls Tryz.prog 3 #[v.val] w fun e w' => e = .returned (.bool true) ∧ Keep NoB w w' := by
  have bx := Blk.new w 25 v.cells
  have gK := (Keep.refl NoB w).alloc (.cells v.cells 25)
  have HIV := Lib.hid (fun W (hk : Keep NoB w W) => (h.keepN hk : I.ImAt W v es fs))
  have HLd := Lib.hid (fun W (hk : Keep NoB w W) => hL.keep hk)
  have HG := Lib.hid (fun W (hk : Keep NoB w W) => I.great_any v es fs W (h.keepN hk) hl)
  have HCn := Lib.hid (fun W (hk : Keep NoB w W) (hs : I.SmI es fs) => count_any v es fs W (h.keepN hk) hs)
  clear h hl hL
  obtain ⟨X, nx, cx, Y, ny, cy⟩ := v
  dsimp only [I.IV.val, I.IV.cells] at *
  obtain ⟨p0, p1⟩ := And.intro (bx.cell 0) (bx.cell 1)
  simp only [List.getElem?_toArray, List.getElem?_cons_zero, List.getElem?_cons_succ] at p0 p1
  go_enter Tryz.func3, Tryz.ntmps3
  go_wp2_with fail
  refine (HG.out _ gK).mono ?_
  rintro e w2 ⟨hg, k2⟩
  replace bx := bx.keep k2 id
  replace gK := keepN gK k2
  clear k2 p0 p1 HG
  obtain ⟨p0, p1⟩ := And.intro (bx.cell 0) (bx.cell 1)
  simp only [List.getElem?_toArray, List.getElem?_cons_zero, List.getElem?_cons_succ] at p0 p1
  rcases hg with ⟨rfl, hg1, hg2⟩ | rfl
  rotate_left
  · clear bx
    go_wp2
    go_ret
    exact ⟨rfl, gK⟩
  clear hg2
  have HSM := Lib.hid hg1
  clear hg1
  go_wp2_with fail
  refine (HCn.out _ gK HSM.out).mono ?_
  rintro e w3 ⟨rfl, k3⟩
  replace bx := bx.keep k3 id
  replace gK := keepN gK k3
  clear k3 p0 p1 HCn
  obtain ⟨p0, p1⟩ := And.intro (bx.cell 0) (bx.cell 1)
  simp only [List.getElem?_toArray, List.getElem?_cons_zero, List.getElem?_cons_succ] at p0 p1
  generalize cntF fs = cn at *
  by_cases hcn : cn ≤ 500
  rotate_left
  · have hq : decide ((500 : Int) < (cn : Int)) = true := by rw [decide_eq_true_iff]; omega
    clear bx
    go_wp2
    go_ret
    exact ⟨rfl, gK⟩
  have hq : decide ((500 : Int) < (cn : Int)) = false := by rw [decide_eq_false_iff_not]; omega
  go_wp2_with fail
  refine (I.rcopyI_any ⟨X, nx, cx, Y, ny, cy⟩ es fs _ (HIV.out _ gK) HSM.out).mono ?_
  rintro e w4 ⟨o, eo, fo, rfl, hO, hOe, k4⟩
  replace bx := bx.keep k4 id
  replace gK := keepN gK k4
  clear k4 p0 p1 hq hcn
  have HSO := Lib.hid (I.smI_same (HIV.out _ gK) HSM.out hO.im hOe)
  have HOE := Lib.hid hOe
  have hOi := hO.im
  clear hO hOe
  obtain ⟨oX, onx, ocx, oY, ony, ocy⟩ := o
  dsimp only [I.IV.val, I.IV.cells] at *
  have b1 := Blk.new w4 25 #[.slice oX onx ocx, .slice oY ony ocy]
  have kA := (Keep.refl NoB w4).alloc (.cells #[.slice oX onx ocx, .slice oY ony ocy] 25)
  replace bx := bx.keep kA id
  replace gK := keepN gK kA
  replace hOi := hOi.keepN kA
  clear kA
  obtain ⟨q0, q1⟩ := And.intro (b1.cell 0) (b1.cell 1)
  obtain ⟨p0, p1⟩ := And.intro (bx.cell 0) (bx.cell 1)
  simp only [List.getElem?_toArray, List.getElem?_cons_zero, List.getElem?_cons_succ] at p0 p1 q0 q1
  have HOi := Lib.hid hOi
  have HGK := Lib.hid gK
  obtain ⟨T0, hT0⟩ : ∃ T0, str (textL 0 (I.imOf es fs)) = T0 := ⟨_, rfl⟩
  obtain ⟨T1, hT1⟩ : ∃ T1, str (textL 1 (I.imOf es fs)) = T1 := ⟨_, rfl⟩
  obtain ⟨T2, hT2⟩ : ∃ T2, str (textL 2 (I.imOf es fs)) = T2 := ⟨_, rfl⟩
  have H0 := Lib.hid hT0
  have H1 := Lib.hid hT1
  have H2 := Lib.hid hT2
  clear hT0 hT1 hT2 hOi gK bx b1
  go_wp2_with fail
  generalize w4.alloc (.cells #[.slice oX onx ocx, .slice oY ony ocy] 25) = w5 at *
  refine wp_region_props6 (fun i => [14, 15, 16, 17, 18, 19, 20, 21, 22, 23, 24, 25, 26, 27, 28, 29, 30, 31, 32, 33, 34, 35, 36, 37, 2].getD i 0) 9999 (NoB) (fun _ => false) (by kernel_rfl) (by kernel_rfl) (by kernel_rfl) (LTy ⟨oX, onx, ocx, oY, ony, ocy⟩ ⟨X, nx, cx, Y, ny, cy⟩ T0 T1 T2) (fun i u x y _ _ _ h hk => LTy_stable _ _ _ _ _ i u x y h (hk.mono (fun _ hf _ => hf))) (fun i u x y _ h hk => LTy_stable _ _ _ _ _ i u x y h hk) rfl ?step ?spec ?fin
  case step =>
    intro i o a w' hoo hic hF hK hA
    have hi : i < 25 := by simpa using (Array.getElem?_eq_some_iff.1 hoo).1
    by_cases h0 : i = 0
    · subst h0
      simp only [List.getElem?_toArray, List.getElem?_cons_zero, Option.some.injEq] at hoo
      subst hoo
      have e3 : a.tmps.getD 3 undef = .pointer (some ⟨w4.heap.size, 0, none⟩) := hF.2.2 3 (by decide)
      have c0 := Keep.cell hK q0 id
      have c1 := Keep.cell hK q1 id
      refine Does.plain rfl ?_
      unfold yieldsK
      go_simp
      exact ⟨rfl, Keep.refl _ _⟩
    by_cases h1 : i = 1
    · subst h1
      simp only [List.getElem?_toArray, List.getElem?_cons_zero, List.getElem?_cons_succ, Option.some.injEq] at hoo
      subst hoo
      have e14 : a.tmps.getD 14 undef = (.agg #[.slice oX onx ocx, .slice oY ony ocy] : Value) := hA ⟨0, .data⟩ (by simp) rfl
      refine Does.plain rfl ?_
      unfold yieldsK
      go_simp
      refine (listApi_any ⟨oX, onx, ocx, oY, ony, ocy⟩ eo fo w' (HOi.out.keepN hK) (I.lg_of_sm HOi.out HSO.out) (HLd.out _ (keepN HGK.out hK))).mono ?_
      rw [HOE.out, H0.out]
      rintro e w9 ⟨rfl, h9⟩
      exact ⟨_, rfl, rfl, h9⟩
    by_cases h2 : i = 2
    · subst h2
      simp only [List.getElem?_toArray, List.getElem?_cons_zero, List.getElem?_cons_succ, Option.some.injEq] at hoo
      subst hoo
      have e1 : a.tmps.getD 1 undef = .pointer (some ⟨w.heap.size, 0, none⟩) := hF.2.2 1 (by decide)
      have c0 := Keep.cell hK p0 id
      have c1 := Keep.cell hK p1 id
      refine Does.plain rfl ?_
      unfold yieldsK
      go_simp
      exact ⟨rfl, Keep.refl _ _⟩
    by_cases h3 : i = 3
    · subst h3
      simp only [List.getElem?_toArray, List.getElem?_cons_zero, List.getElem?_cons_succ, Option.some.injEq] at hoo
      subst hoo
      have e16 : a.tmps.getD 16 undef = (.agg #[.slice X nx cx, .slice Y ny cy] : Value) := hA ⟨2, .data⟩ (by simp) rfl
      refine Does.plain rfl ?_
      unfold yieldsK
      go_simp
      refine (rtext10_any 0 (by omega) ⟨X, nx, cx, Y, ny, cy⟩ es fs w' (HIV.out _ (keepN HGK.out hK)) HSM.out).mono ?_
      rw [H0.out]
      rintro e w9 ⟨rfl, h9⟩
      exact ⟨_, rfl, rfl, h9⟩
    by_cases h4 : i = 4
    · subst h4
      simp only [List.getElem?_toArray, List.getElem?_cons_zero, List.getElem?_cons_succ, Option.some.injEq] at hoo
      subst hoo
      have e15 : a.tmps.getD 15 undef = .string T0 := hA ⟨1, .data⟩ (by simp) rfl
      have e17 : a.tmps.getD 17 undef = .string T0 := hA ⟨3, .data⟩ (by simp) rfl
      refine Does.plain rfl ?_
      unfold yieldsK
      go_simp
      exact ⟨rfl, Keep.refl _ _⟩
    by_cases h5 : i = 5
    · subst h5
      simp only [List.getElem?_toArray, List.getElem?_cons_zero, List.getElem?_cons_succ, Option.some.injEq] at hoo
      subst hoo
      have e18 : a.tmps.getD 18 undef = .bool true := hA ⟨4, .data⟩ (by simp) rfl
      refine Does.plain rfl ?_
      unfold yieldsK
      go_simp
      exact ⟨rfl, Keep.refl _ _⟩
    by_cases h6 : i = 6
    · subst h6
      simp only [List.getElem?_toArray, List.getElem?_cons_zero, List.getElem?_cons_succ, Option.some.injEq] at hoo
      subst hoo
      have e3 : a.tmps.getD 3 undef = .pointer (some ⟨w4.heap.size, 0, none⟩) := hF.2.2 3 (by decide)
      have c0 := Keep.cell hK q0 id
      have c1 := Keep.cell hK q1 id
      refine Does.yes (j := 5) (d := 19) (want := true) rfl rfl (hA ⟨5, .guard⟩ (by simp) rfl) ?_
      unfold yieldsK
      go_simp
      exact ⟨rfl, Keep.refl _ _⟩
    by_cases h7 : i = 7
    · subst h7
      simp only [List.getElem?_toArray, List.getElem?_cons_zero, List.getElem?_cons_succ, Option.some.injEq] at hoo
      subst hoo
      have e20 : a.tmps.getD 20 undef = (.agg #[.slice oX onx ocx, .slice oY ony ocy] : Value) := hA ⟨6, .data⟩ (by simp) rfl
      refine Does.yes (j := 5) (d := 19) (want := true) rfl rfl (hA ⟨5, .guard⟩ (by simp) rfl) ?_
      unfold yieldsK
      go_simp
      refine (plainApi_any ⟨oX, onx, ocx, oY, ony, ocy⟩ eo fo w' (HOi.out.keepN hK) (I.lg_of_sm HOi.out HSO.out) (HLd.out _ (keepN HGK.out hK))).mono ?_
      rw [HOE.out, H1.out]
      rintro e w9 ⟨rfl, h9⟩
      exact ⟨_, rfl, rfl, h9⟩
    by_cases h8 : i = 8
    · subst h8
      simp only [List.getElem?_toArray, List.getElem?_cons_zero, List.getElem?_cons_succ, Option.some.injEq] at hoo
      subst hoo
      have e1 : a.tmps.getD 1 undef = .pointer (some ⟨w.heap.size, 0, none⟩) := hF.2.2 1 (by decide)
      have c0 := Keep.cell hK p0 id
      have c1 := Keep.cell hK p1 id
      refine Does.yes (j := 5) (d := 19) (want := true) rfl rfl (hA ⟨5, .guard⟩ (by simp) rfl) ?_
      unfold yieldsK
      go_simp
      exact ⟨rfl, Keep.refl _ _⟩
    by_cases h9 : i = 9
    · subst h9
      simp only [List.getElem?_toArray, List.getElem?_cons_zero, List.getElem?_cons_succ, Option.some.injEq] at hoo
      subst hoo
      have e22 : a.tmps.getD 22 undef = (.agg #[.slice X nx cx, .slice Y ny cy] : Value) := hA ⟨8, .data⟩ (by simp) rfl
      refine Does.yes (j := 5) (d := 19) (want := true) rfl rfl (hA ⟨5, .guard⟩ (by simp) rfl) ?_
      unfold yieldsK
      go_simp
      refine (rtext10_any 1 (by omega) ⟨X, nx, cx, Y, ny, cy⟩ es fs w' (HIV.out _ (keepN HGK.out hK)) HSM.out).mono ?_
      rw [H1.out]
      rintro e w9 ⟨rfl, h9⟩
      exact ⟨_, rfl, rfl, h9⟩
    by_cases h10 : i = 10
    · subst h10
      simp only [List.getElem?_toArray, List.getElem?_cons_zero, List.getElem?_cons_succ, Option.some.injEq] at hoo
      subst hoo
      have e21 : a.tmps.getD 21 undef = .string T1 := hA ⟨7, .data⟩ (by simp) rfl
      have e23 : a.tmps.getD 23 undef = .string T1 := hA ⟨9, .data⟩ (by simp) rfl
      refine Does.yes (j := 5) (d := 19) (want := true) rfl rfl (hA ⟨5, .guard⟩ (by simp) rfl) ?_
      unfold yieldsK
      go_simp
      exact ⟨rfl, Keep.refl _ _⟩
    by_cases h11 : i = 11
    · subst h11
      simp only [List.getElem?_toArray, List.getElem?_cons_zero, List.getElem?_cons_succ, Option.some.injEq] at hoo
      subst hoo
      have e19 : a.tmps.getD 19 undef = .bool true := hA ⟨5, .data⟩ (by simp) rfl
      have e24 : a.tmps.getD 24 undef = .bool true := hA ⟨10, .data⟩ (by simp) rfl
      refine Does.plain rfl ?_
      unfold yieldsK
      go_simp
      exact ⟨rfl, Keep.refl _ _⟩
    by_cases h12 : i = 12
    · subst h12
      simp only [List.getElem?_toArray, List.getElem?_cons_zero, List.getElem?_cons_succ, Option.some.injEq] at hoo
      subst hoo
      have e25 : a.tmps.getD 25 undef = .bool true := hA ⟨11, .data⟩ (by simp) rfl
      refine Does.plain rfl ?_
      unfold yieldsK
      go_simp
      exact ⟨rfl, Keep.refl _ _⟩
    by_cases h13 : i = 13
    · subst h13
      simp only [List.getElem?_toArray, List.getElem?_cons_zero, List.getElem?_cons_succ, Option.some.injEq] at hoo
      subst hoo
      have e3 : a.tmps.getD 3 undef = .pointer (some ⟨w4.heap.size, 0, none⟩) := hF.2.2 3 (by decide)
      have c0 := Keep.cell hK q0 id
      have c1 := Keep.cell hK q1 id
      refine Does.yes (j := 12) (d := 26) (want := true) rfl rfl (hA ⟨12, .guard⟩ (by simp) rfl) ?_
      unfold yieldsK
      go_simp
      exact ⟨rfl, Keep.refl _ _⟩
    by_cases h14 : i = 14
    · subst h14
      simp only [List.getElem?_toArray, List.getElem?_cons_zero, List.getElem?_cons_succ, Option.some.injEq] at hoo
      subst hoo
      have e27 : a.tmps.getD 27 undef = (.agg #[.slice oX onx ocx, .slice oY ony ocy] : Value) := hA ⟨13, .data⟩ (by simp) rfl
      refine Does.yes (j := 12) (d := 26) (want := true) rfl rfl (hA ⟨12, .guard⟩ (by simp) rfl) ?_
      unfold yieldsK
      go_simp
      refine (numberedApi_any ⟨oX, onx, ocx, oY, ony, ocy⟩ eo fo w' (HOi.out.keepN hK) (I.lg_of_sm HOi.out HSO.out) (HLd.out _ (keepN HGK.out hK))).mono ?_
      rw [HOE.out, H2.out]
      rintro e w9 ⟨rfl, h9⟩
      exact ⟨_, rfl, rfl, h9⟩
    by_cases h15 : i = 15
    · subst h15
      simp only [List.getElem?_toArray, List.getElem?_cons_zero, List.getElem?_cons_succ, Option.some.injEq] at hoo
      subst hoo
      have e1 : a.tmps.getD 1 undef = .pointer (some ⟨w.heap.size, 0, none⟩) := hF.2.2 1 (by decide)
      have c0 := Keep.cell hK p0 id
      have c1 := Keep.cell hK p1 id
      refine Does.yes (j := 12) (d := 26) (want := true) rfl rfl (hA ⟨12, .guard⟩ (by simp) rfl) ?_
      unfold yieldsK
      go_simp
      exact ⟨rfl, Keep.refl _ _⟩
    by_cases h16 : i = 16
    · subst h16
      simp only [List.getElem?_toArray, List.getElem?_cons_zero, List.getElem?_cons_succ, Option.some.injEq] at hoo
      subst hoo
      have e29 : a.tmps.getD 29 undef = (.agg #[.slice X nx cx, .slice Y ny cy] : Value) := hA ⟨15, .data⟩ (by simp) rfl
      refine Does.yes (j := 12) (d := 26) (want := true) rfl rfl (hA ⟨12, .guard⟩ (by simp) rfl) ?_
      unfold yieldsK
      go_simp
      refine (rtext10_any 2 (by omega) ⟨X, nx, cx, Y, ny, cy⟩ es fs w' (HIV.out _ (keepN HGK.out hK)) HSM.out).mono ?_
      rw [H2.out]
      rintro e w9 ⟨rfl, h9⟩
      exact ⟨_, rfl, rfl, h9⟩
    by_cases h17 : i = 17
    · subst h17
      simp only [List.getElem?_toArray, List.getElem?_cons_zero, List.getElem?_cons_succ, Option.some.injEq] at hoo
      subst hoo
      have e28 : a.tmps.getD 28 undef = .string T2 := hA ⟨14, .data⟩ (by simp) rfl
      have e30 : a.tmps.getD 30 undef = .string T2 := hA ⟨16, .data⟩ (by simp) rfl
      refine Does.yes (j := 12) (d := 26) (want := true) rfl rfl (hA ⟨12, .guard⟩ (by simp) rfl) ?_
      unfold yieldsK
      go_simp
      exact ⟨rfl, Keep.refl _ _⟩
    by_cases h18 : i = 18
    · subst h18
      simp only [List.getElem?_toArray, List.getElem?_cons_zero, List.getElem?_cons_succ, Option.some.injEq] at hoo
      subst hoo
      have e26 : a.tmps.getD 26 undef = .bool true := hA ⟨12, .data⟩ (by simp) rfl
      have e31 : a.tmps.getD 31 undef = .bool true := hA ⟨17, .data⟩ (by simp) rfl
      refine Does.plain rfl ?_
      unfold yieldsK
      go_simp
      exact ⟨rfl, Keep.refl _ _⟩
    by_cases h19 : i = 19
    · subst h19
      simp only [List.getElem?_toArray, List.getElem?_cons_zero, List.getElem?_cons_succ, Option.some.injEq] at hoo
      subst hoo
      have e32 : a.tmps.getD 32 undef = .bool true := hA ⟨18, .data⟩ (by simp) rfl
      refine Does.plain rfl ?_
      unfold yieldsK
      go_simp
      exact ⟨rfl, Keep.refl _ _⟩
    by_cases h20 : i = 20
    · subst h20
      simp only [List.getElem?_toArray, List.getElem?_cons_zero, List.getElem?_cons_succ, Option.some.injEq] at hoo
      subst hoo
      have e3 : a.tmps.getD 3 undef = .pointer (some ⟨w4.heap.size, 0, none⟩) := hF.2.2 3 (by decide)
      have c0 := Keep.cell hK q0 id
      have c1 := Keep.cell hK q1 id
      refine Does.yes (j := 19) (d := 33) (want := true) rfl rfl (hA ⟨19, .guard⟩ (by simp) rfl) ?_
      unfold yieldsK
      go_simp
      exact ⟨rfl, Keep.refl _ _⟩
    by_cases h21 : i = 21
    · subst h21
      simp only [List.getElem?_toArray, List.getElem?_cons_zero, List.getElem?_cons_succ, Option.some.injEq] at hoo
      subst hoo
      have e1 : a.tmps.getD 1 undef = .pointer (some ⟨w.heap.size, 0, none⟩) := hF.2.2 1 (by decide)
      have c0 := Keep.cell hK p0 id
      have c1 := Keep.cell hK p1 id
      refine Does.yes (j := 19) (d := 33) (want := true) rfl rfl (hA ⟨19, .guard⟩ (by simp) rfl) ?_
      unfold yieldsK
      go_simp
      exact ⟨rfl, Keep.refl _ _⟩
    by_cases h22 : i = 22
    · subst h22
      simp only [List.getElem?_toArray, List.getElem?_cons_zero, List.getElem?_cons_succ, Option.some.injEq] at hoo
      subst hoo
      have e34 : a.tmps.getD 34 undef = (.agg #[.slice oX onx ocx, .slice oY ony ocy] : Value) := hA ⟨20, .data⟩ (by simp) rfl
      have e35 : a.tmps.getD 35 undef = (.agg #[.slice X nx cx, .slice Y ny cy] : Value) := hA ⟨21, .data⟩ (by simp) rfl
      refine Does.yes (j := 19) (d := 33) (want := true) rfl rfl (hA ⟨19, .guard⟩ (by simp) rfl) ?_
      unfold yieldsK
      go_simp
      refine (I.rsame_any ⟨oX, onx, ocx, oY, ony, ocy⟩ ⟨X, nx, cx, Y, ny, cy⟩ eo es fo fs w' (HOi.out.keepN hK) (HIV.out _ (keepN HGK.out hK)) HSO.out HSM.out).mono ?_
      rw [HOE.out, I.same_self]
      rintro e w9 ⟨rfl, h9⟩
      exact ⟨_, rfl, rfl, h9⟩
    by_cases h23 : i = 23
    · subst h23
      simp only [List.getElem?_toArray, List.getElem?_cons_zero, List.getElem?_cons_succ, Option.some.injEq] at hoo
      subst hoo
      have e33 : a.tmps.getD 33 undef = .bool true := hA ⟨19, .data⟩ (by simp) rfl
      have e36 : a.tmps.getD 36 undef = .bool true := hA ⟨22, .data⟩ (by simp) rfl
      refine Does.plain rfl ?_
      unfold yieldsK
      go_simp
      exact ⟨rfl, Keep.refl _ _⟩
    by_cases h24 : i = 24
    · subst h24
      simp only [List.getElem?_toArray, List.getElem?_cons_zero, List.getElem?_cons_succ, Option.some.injEq] at hoo
      subst hoo
      have e37 : a.tmps.getD 37 undef = .bool true := hA ⟨23, .data⟩ (by simp) rfl
      refine Does.plain rfl ?_
      unfold yieldsK
      go_simp
      exact ⟨rfl, Keep.refl _ _⟩
    omega
  case spec =>
    intro o a w' hoo
    simp at hoo
  case fin =>
    intro a w' hF gK hA
    have e2 : a.tmps.getD 2 undef = .bool true := hA 24 (by decide)
    have ha := frameD_list (l := [14, 15, 16, 17, 18, 19, 20, 21, 22, 23, 24, 25, 26, 27, 28, 29, 30, 31, 32, 33, 34, 35, 36, 37, 2]) rfl hF
    rw [ha]
    simp only [List.map_cons, List.map_nil, e2]
    generalize a.tmps.getD 14 undef = u0
    generalize a.tmps.getD 15 undef = u1
    generalize a.tmps.getD 16 undef = u2
    generalize a.tmps.getD 17 undef = u3
    generalize a.tmps.getD 18 undef = u4
    generalize a.tmps.getD 19 undef = u5
    generalize a.tmps.getD 20 undef = u6
    generalize a.tmps.getD 21 undef = u7
    generalize a.tmps.getD 22 undef = u8
    generalize a.tmps.getD 23 undef = u9
    generalize a.tmps.getD 24 undef = u10
    generalize a.tmps.getD 25 undef = u11
    generalize a.tmps.getD 26 undef = u12
    generalize a.tmps.getD 27 undef = u13
    generalize a.tmps.getD 28 undef = u14
    generalize a.tmps.getD 29 undef = u15
    generalize a.tmps.getD 30 undef = u16
    generalize a.tmps.getD 31 undef = u17
    generalize a.tmps.getD 32 undef = u18
    generalize a.tmps.getD 33 undef = u19
    generalize a.tmps.getD 34 undef = u20
    generalize a.tmps.getD 35 undef = u21
    generalize a.tmps.getD 36 undef = u22
    generalize a.tmps.getD 37 undef = u23
    simp only [fillD, List.setIfInBounds_toArray, List.set_cons_zero, List.set_cons_succ]
    have HKF := Lib.hid (keepN HGK.out gK)
    clear hA hF ha e2 HGK gK
    go_wp2
    go_ret
    exact ⟨rfl, HKF.out⟩

end Go.Proofs.YtgnooffedmeenaaGreatDoor.M.L

namespace Go.Proofs.YtgnooffedmeenaaGreatDoor.O
open Go.ChangeShapes Go.WideShapes Go.ChangeAt Go.RowKit

end Go.Proofs.YtgnooffedmeenaaGreatDoor.O

namespace Go.Proofs.YtgnooffedmeenaaGreatDoor.F
open Go.ChangeShapes Go.WideShapes Go.ChangeAt Go.RowKit Go.Deep W

section
variable {H : Type} {enc : TypeId × Value → H} {W0 : World} {base : Nat} {spare : Nat → Bool} {held : Bool} {fuel : Nat} {cs : List Value} {x : DataW H × List MemPlace}
theorem read_ints (h : DataW.trod enc Tryz.prog W0 base spare held fuel 32 cs = some x) : ∃ A l c, cs = [.slice A l.length c] ∧ Rd W0 A (ivs l) ∧ l.length ≤ c ∧ c ≤ maxLen := by
  rcases open_ints Tryz.underlying32 Tryz.underlying3 (by kernel_rfl) h with ⟨hcs, _⟩ | ⟨a, len, cap, zs, hcs, _, hl, hm, hz, _, hcell, _⟩
  · exact ⟨none, [], 0, hcs, Rd.none_ _ _, Nat.le_refl _, Nat.zero_le _⟩
  · have hzl : len ≤ zs.length := by rw [hz]; split <;> omega
    have hlen : (zs.take len).length = len := by rw [List.length_take]; omega
    refine ⟨some a, zs.take len, cap, by rw [hlen]; exact hcs, fun h0 => ?_, by rw [hlen]; exact hl, hm⟩
    have h0' : 0 < len := by rw [List.length_map, hlen] at h0; exact h0
    have ea := C.addr_of_cell (hcell 0 (by omega))
    have ea' : a = ⟨a.block, a.off, none⟩ := by simpa [Addr.add] using ea
    refine ⟨a.block, a.off, by rw [← ea'], fun j u hu => ?_⟩
    obtain ⟨hj, hju⟩ := List.getElem?_eq_some_iff.1 hu
    have hj' : j < len := by simp at hj; omega
    have hc := hcell j (by omega)
    rw [ea', C.add_of] at hc
    rw [hc]
    simp at hju
    rw [← hju]
    simp [List.getD, List.getElem?_eq_getElem (show j < zs.length by omega)]
end
section
variable {H : Type} {enc : TypeId × Value → H} {w : World} {base b0 : Nat} {spare : Nat → Bool} {held : Bool} {r : Reach} {v : Value} {d : DataW H} {p : List MemPlace}
theorem array5 {α : Type} {cs : Array α} (h : cs.size = 5) : ∃ c0 c1 c2 c3 c4, cs = #[c0, c1, c2, c3, c4] := by
  obtain ⟨l⟩ := cs
  match l, h with
  | [c0, c1, c2, c3, c4], _ => exact ⟨c0, c1, c2, c3, c4, rfl⟩
set_option maxRecDepth 100000 in
theorem open_fun (hv : Value.okWide Tryz.prog w r b0 37 v) (h : DataW.Trod enc Tryz.prog w base spare held 37 v d p) : ∃ (fv : FV) (f : Fu), v = fv.val ∧ FnAt w fv f := by
  have k9 : Tryz.prog.cellsOf 9 = 1 := by kernel_rfl
  have k24 : Tryz.prog.cellsOf 34 = 2 := by kernel_rfl
  have k22 : Tryz.prog.cellsOf 32 = 1 := by kernel_rfl
  have k25 : Tryz.prog.cellsOf 35 = 1 := by kernel_rfl
  obtain ⟨cs, rfl, hsz⟩ := okWide_struct Tryz.underlying37 hv
  obtain ⟨c0, c1, c2, c3, c4, rfl⟩ := array5 (hsz.trans (by kernel_rfl))
  obtain ⟨fuel, hf⟩ := h
  obtain ⟨y0, y1, y2, y3, n, hx, _, h0, h1, h2, h3⟩ := Joins.trod_struct4 Tryz.underlying37 hf
  simp only [Value.cells, k9, k24, k22, k25, List.drop_zero, List.drop_succ_cons, List.take_succ_cons, List.take_zero] at h0 h1 h2 h3
  obtain ⟨s0, e0, _, _⟩ := DataW.trod_string Tryz.underlying9 h0
  obtain ⟨z0, z1, n1, _, _, g0, g1⟩ := trod_struct2 Tryz.underlying34 h1
  simp only [k22, List.drop_zero, List.drop_succ_cons, List.take_succ_cons, List.take_zero] at g0 g1
  obtain ⟨A, a, ca, e1, ra, _, _⟩ := read_ints g0
  obtain ⟨B, b, cb, e2, rb, _, _⟩ := read_ints g1
  obtain ⟨L, l, cl, e3, rl, _, _⟩ := read_ints h2
  obtain ⟨D, bd, cd, e4, rd, _, _, hI⟩ := C.read_insts h3
  simp only [List.cons.injEq, and_true] at e0 e1 e2 e3 e4
  subst e0 e1 e2 e3 e4
  exact ⟨⟨s0, A, a.length, ca, B, b.length, cb, L, l.length, cl, D, bd.length, cd⟩, ⟨s0.data.toList, a, b, l, bd⟩, rfl, ⟨rfl, ra, rb, rl, rd, rfl, rfl, rfl, rfl, hI⟩⟩
end

end Go.Proofs.YtgnooffedmeenaaGreatDoor.F
