/-
  What the rows of opcode share: the condition on the listed package-level variables, opened; an instruction as an argument. No conditions.
  An argument that is a list of instructions, opened: an address from which its cells stand; its numbers fit. No conditions.
  What Decode of layer image answers: bytes' image, or what is wrong. Conditions: the bytes lie in memory, no more than 2^30.
  What the document's read of layer shape answers: the types at its Reel's place. Conditions: the Reel reads bytes in memory, no more than 2^47.
  What the document's Decode and DecodeSignature answer. Conditions: the Reel reads bytes in memory, no more than 2^47.
  The document's Decode of a function. Conditions: the Reel reads bytes in memory, no more than 2^47.
  What the document's Decode of images answers. Conditions: the bytes lie in memory, no more than 2^30.
  What the document's Decode of images answers, where there is room for a sum. Conditions: the bytes lie in memory, no more than 2^30.
  What the laws' own one and alive answer. No conditions.
  ImageSums' walk: the sum of bytes hangs on no parting; one byte changed, it is another one; all noughts, it tells how many there are. Conditions: the bytes lie in memory.
  ImageTurned's walk: an image's bytes of which one was changed, or that were cut, or with one more behind, are no image's. Conditions: the image's lists lie in memory, each below 2^47.
  The document's bytes of images, and its Encode. Conditions: the image's lists lie in memory, and are no greater than statements go through.
  ImageForms' walk: whether an image may be, its bytes, what is read of bytes, and the sum of bytes, are the document's; all stays. Conditions: the image's lists, and the bytes, lie in memory.
  The program's Copy of images. Conditions: the image's lists lie in memory, and are no greater than statements go through.
  The document's Context of images, and whether two contexts are the same. Conditions: the lists lie in memory, and are no greater than statements go through.
  What the law's spoil does: numbers of the lists of a function are written over, and nothing else. Conditions: the lists are rows of numbers that may be written, from block lo on.
  ImageAsks' walk: which function has a name, what bodies may refer to, whether two images are the same, and a copy, are the document's; what is answered is new memory. Conditions: the images' lists lie in memory.
  What ImageNames needs ahead: closed answers; bytes of a string to which more is appended; what sealed answers. No conditions.
  What ImageNames builds, in memory: images of functions that return, one behind the other. No conditions.
-/
import Derived.ArgAppend
import Derived.ChangeSame
import Derived.Deep.Fields
import Derived.Deep.OwnRows
import Derived.Deep.Slices
import Derived.Deep.Strs
import Derived.LaidLaws
import Derived.LaidMore
import Derived.Lib.LaidTab
import Derived.Lib.SlBytesConst
import Derived.Lib.SmallJoins
import Derived.OpenShut
import Derived.ProofKit
import Derived.SizedLaws
import Derived.Stop.LaidErr
import Derived.Test.YtgifflfjhockaaaGreatDoorQ5
import Derived.Test.YtgifflfjhockaaaGreatDoorRows
import Derived.Test.YtgifflfjhockaaaGreatDoorQ11
import Derived.Test.YtgifflfjhockaaaGreatDoorQ12
import Derived.Test.YtgifflfjhockaaaGreatDoorQ13
import Derived.Test.YtgifflfjhockaaaGreatDoorQ7
import Derived.Test.YtgifflfjhockaaaGreatDoorQ8
import Derived.Test.YtgifflfjhockaaaGreatDoorQ3
import Derived.Test.YtgifflfjhockaaaGreatDoorQ2
import Derived.Test.YtgifflfjhockaaaGreatDoorQ6
import Derived.Test.YtgifflfjhockaaaGreatDoorQ10
namespace Go.Proofs.YtgifflfjhockaaaGreatDoor.O
open Go.ChangeShapes Go.WideShapes Go.ChangeAt Go.RowKit

theorem seatOwn : ownKnob Tryz.prog.godebug = none := by kernel_rfl
section
variable {H : Type} {enc : TypeId × Value → H} {w : World} {base b0 : Nat} {spare : Nat → Bool} {held : Bool} {r : Reach} {v : Value} {d : DataW H} {p : List MemPlace}
end

end Go.Proofs.YtgifflfjhockaaaGreatDoor.O

namespace Go.Proofs.YtgifflfjhockaaaGreatDoor.C
open Go.ChangeShapes Go.WideShapes Go.ChangeAt Go.RowKit Go.Deep O

section
variable {H : Type} {enc : TypeId × Value → H} {W : World} {base : Nat} {spare : Nat → Bool} {held : Bool} {fuel : Nat} {cs : List Value} {x : DataW H × List MemPlace}
end
section
variable {H : Type} {enc : TypeId × Value → H} {w : World} {base b0 : Nat} {spare : Nat → Bool} {held : Bool} {r : Reach} {v : Value} {d : DataW H} {p : List MemPlace}
end

end Go.Proofs.YtgifflfjhockaaaGreatDoor.C

namespace Go.Proofs.YtgifflfjhockaaaGreatDoor.I
open Go.RowKit W

theorem rdI_small {l : List UInt8} {p q : Nat} {es : List SE} {fs : List FE} (h : rdI l p = some (imOf es fs, q)) : es.length ≤ 64 ∧ fs.length ≤ 64 ∧ (∀ e ∈ es, S.okS e.2 = true) ∧ ∀ e ∈ fs, F.okF e.2 = true := by
  obtain ⟨⟨h1, h2, h3, h4⟩, _⟩ := rdI_ok h
  refine ⟨by simpa [imOf] using h1, by simpa [imOf] using h2, fun e he => List.all_eq_true.1 h3 _ ?_, fun e he => List.all_eq_true.1 h4 _ ?_⟩
  · exact List.mem_map.2 ⟨e, he, rfl⟩
  · exact List.mem_map.2 ⟨e, he, rfl⟩
theorem sm_of {w : World} {v : IV} {es : List SE} {fs : List FE} (h : ImAt w v es fs) (hs : es.length ≤ 64 ∧ fs.length ≤ 64 ∧ (∀ e ∈ es, S.okS e.2 = true) ∧ ∀ e ∈ fs, F.okF e.2 = true) : SmI es fs ∧ LgI v es fs := by
  obtain ⟨h1, h2, h3, h4⟩ := hs
  have hsh : ∀ e ∈ es, e.1.n ≤ 100 := fun e he => by
    have a := (h.hs e he).2
    have b := ((S.okS_iff _).1 (h3 e he)).1
    omega
  have hfn : ∀ e ∈ fs, F.SmF e.1 := fun e he => smF_ok (h.hf e he) (h4 e he)
  have hx := h.lx
  have hy := h.ly
  exact ⟨⟨by omega, by omega, hsh, hfn⟩, ⟨by omega, by omega, fun e he => by have := hsh e he; omega, fun e he => (hfn e he).lg⟩⟩
theorem take_cut {l : List UInt8} (h : l.take 5 = magicL) (h9 : 9 ≤ l.length) : l.take (l.length - 4) = magicL ++ (l.drop 5).take (l.length - 9) ∧ l.drop (l.length - 4) = (l.drop 5).drop (l.length - 9) ∧ (l.take (l.length - 4)).drop 5 = (l.drop 5).take (l.length - 9) := by
  have e1 : l = magicL ++ l.drop 5 := by rw [← h, List.take_append_drop]
  have e2 : l.length - 4 = magicL.length + (l.length - 9) := by show l.length - 4 = 5 + (l.length - 9); omega
  refine ⟨?_, ?_, ?_⟩
  · have e3 : (magicL ++ l.drop 5).take (magicL.length + (l.length - 9)) = magicL ++ (l.drop 5).take (l.length - 9) := List.take_length_add_append _
    rw [← e1, ← e2] at e3
    exact e3
  · rw [List.drop_drop, show 5 + (l.length - 9) = l.length - 4 by omega]
  · rw [List.drop_take, show l.length - 4 - 5 = l.length - 9 by omega]

/-- How Decode ends. -/
def DecR (w : World) (p : Im) (E : Int) (e : Ending) (w' : World) : Prop := ∃ v es fs, e = .returned (.tuple #[v.val, .int .i64 E]) ∧ OwnIm w' (Fresh w) v es fs ∧ imOf es fs = p ∧ Keep NoB w w'

/-- What the values are that Decode's region yields, where there may be a sum. -/
def SO (m : Nat) (ad : Addr) (E c : Nat) (fr : List UInt8) (bb : Bool) : Nat → Value → World → Prop
  | 0 => fun u _ => u = .int .i64 (E : Int)
  | 1 => fun u _ => u = .bool false
  | 2 => fun u _ => u = .bool false
  | 3 => fun u _ => u = .slice (some ad) (E + 4) c
  | 4 => fun u _ => u = .int .i64 (E : Int)
  | 5 => fun u _ => u = .slice (some (ad.add E)) 4 (c - E)
  | 6 => fun u _ => u = .slice (some ⟨m, 0, none⟩) 5 5
  | 7 => fun u _ => u = .slice (some ad) (E + 4) c
  | 8 => fun u _ => u = .int .i64 (E : Int)
  | 9 => fun u _ => u = .slice (some ad) E c
  | 10 => fun u w => ∃ g, u = .slice (some ⟨g, 0, none⟩) 2 2 ∧ Blk w g 26 #[.slice (some ⟨m, 0, none⟩) 5 5, .slice (some ad) E c]
  | 11 => PtV fr
  | 12 => fun u _ => u = .bool bb
  | 13 => fun u _ => u = .bool (!bb)
  | 14 => fun u _ => u = .bool (!bb)
  | _ => fun _ _ => True
theorem SO_stable (m : Nat) (ad : Addr) (E c : Nat) (fr : List UInt8) (bb : Bool) : ∀ i u w w', SO m ad E c fr bb i u w → Keep NoB w w' → SO m ad E c fr bb i u w'
  | 0, _, _, _, h, _ => h
  | 1, _, _, _, h, _ => h
  | 2, _, _, _, h, _ => h
  | 3, _, _, _, h, _ => h
  | 4, _, _, _, h, _ => h
  | 5, _, _, _, h, _ => h
  | 6, _, _, _, h, _ => h
  | 7, _, _, _, h, _ => h
  | 8, _, _, _, h, _ => h
  | 9, _, _, _, h, _ => h
  | 10, _, _, _, ⟨g, e, hb⟩, hk => ⟨g, e, hb.keep hk id⟩
  | 11, _, _, _, h, hk => PtV.keepN h hk
  | 12, _, _, _, h, _ => h
  | 13, _, _, _, h, _ => h
  | 14, _, _, _, h, _ => h
  | _ + 15, _, _, _, h, _ => h
/-- .. where there is none. -/
def SQ (N : Nat) : Nat → Value → World → Prop
  | 0 => fun u _ => u = .int .i64 ((N : Int) - 4)
  | 1 => fun u _ => u = .bool true
  | 2 => fun u _ => u = .bool true
  | 14 => fun u _ => u = .bool true
  | _ => fun _ _ => True
theorem SQ_stable (N : Nat) (i : Nat) (u : Value) (w w' : World) (h : SQ N i u w) : SQ N i u w' := by
  unfold SQ at h ⊢
  split at h <;> exact h

set_option maxRecDepth 100000 in
set_option maxHeartbeats 8000000 in
theorem decode_any (A : Option Addr) (l : List UInt8) (c : Nat) (w : World) (hr : V.Rd w A l) (hc : l.length ≤ c) (hcm : c ≤ maxLen) (hlen : l.length ≤ 1073741824) :
    Calls Tryz.prog 15 #[.slice A l.length c] w (DecR w (decI l).1 (decI l).2) := by
  have bz := ((Blk.new w 25 nilW.cells).alloc (.cells #[.int .u8 98, .int .u8 107, .int .u8 115, .int .u8 116, .int .u8 1] 5))
  have hm := heap_alloc_new (w.alloc (.cells nilW.cells 25)) (.cells #[.int .u8 98, .int .u8 107, .int .u8 115, .int .u8 116, .int .u8 1] 5)
  have kW := ((Keep.refl NoB w).alloc (.cells nilW.cells 25)).alloc (.cells #[.int .u8 98, .int .u8 107, .int .u8 115, .int .u8 116, .int .u8 1] 5)
  simp only [World.size_alloc] at hm
  unfold nilW IV.cells at *
  dsimp only at *
  have hcv := run_mark (n := 5) (c := 5) hm
  have kW3 := keep_mark (k := 5) kW hm (Nat.le_succ _)
  obtain ⟨hmk, hoth⟩ := freeze_mark (k := 5) hm
  have bz3 : Blk (World.freeze _ ⟨w.heap.size + 1, 5, none⟩ 1) w.heap.size 25 #[.slice none 0 0, .slice none 0 0] := (hoth w.heap.size (by omega)).trans bz
  have hmg := (PtV.mark ⟨some ⟨w.heap.size + 1, 0, none⟩, 5, rfl, rdB_blk (l := magicL) (f := (0, 0)) hm⟩ hmk : PtV magicL (.slice (some ⟨w.heap.size + 1, 0, none⟩) 5 5) _).rd
  have hr3 := S.rd_n hr kW3
  simp only [List.size_toArray, List.length_cons, List.length_nil, Nat.reduceAdd] at hcv
  clear bz hm kW hmk hoth hr
  generalize World.freeze _ ⟨w.heap.size + 1, 5, none⟩ 1 = w3 at *
  go_enter Tryz.func15, Tryz.ntmps15
  go_wp2_with fail
  refine (cut_any A (some ⟨w.heap.size + 1, 0, none⟩) l magicL c 5 w3 hr3 hmg hc hcm rfl).mono ?_
  rintro e w4 ⟨rfl, (⟨h5, v4, rfl⟩ | ⟨h5, A', c', rfl, hR, hC⟩)⟩
  · have HD := Lib.hid (decI_1 h5)
    have f3 := fun i => bz3.frozen i
    have q0 := bz3.cell 0
    have q1 := bz3.cell 1
    simp only [List.getElem?_toArray, List.getElem?_cons_zero, List.getElem?_cons_succ] at q0 q1
    have hlt := bz3.lt
    have HP := Lib.hid (put2_img bz3 (.slice none 0 0) (.slice none 0 0))
    have HK := Lib.hid (kW3.trans (keep2_img w3 w.heap.size (.slice none 0 0) (.slice none 0 0)) (fun k e hl => by omega))
    clear bz3 kW3 hmg hr3 hcv
    go_wp2
    refine bodyPost_ret (ret_imgE (v := nilW) rfl rfl HP.out rfl) rfl ?_
    rw [HD.out]
    exact ⟨nilW, [], [], rfl, nil_own _ _, rfl, HK.out⟩
  · by_cases h9 : 9 ≤ l.length
    · obtain ⟨E, hE⟩ : ∃ E, l.length = E + 9 := ⟨l.length - 9, by omega⟩
      have hn : l.length - 5 = E + 4 := by omega
      have h0 : 0 < (l.drop 5).length := by rw [List.length_drop]; omega
      obtain ⟨ad, rfl, _⟩ := hR h0
      have htc := take_cut h5 h9
      rw [show l.length - 9 = E by omega] at htc
      have hx := rd_dp hR E
      have HX : Hid (V.Rd w3 (some (ad.add E)) ((l.drop 5).drop E) ∧ ((l.drop 5).drop E).length = 4) := ⟨hx, by rw [List.length_drop, List.length_drop]; omega⟩
      have HT : Hid (V.Rd w3 (some ad) ((l.drop 5).take E) ∧ ((l.drop 5).take E).length = E) := ⟨rd_tk hR E, by rw [List.length_take, List.length_drop]; omega⟩
      have HTC := Lib.hid htc
      have HM := Lib.hid hmg
      rw [hn] at hC ⊢
      have hce := hC.out.1
      have hcE : ¬ (c' = E) := by omega
      have hcm' := hC.out.2
      have hE30 : E ≤ 1073741824 := by omega
      clear hx htc hmg hr3 hR hC h0
      generalize (l.drop 5).drop E = X at *
      generalize (l.drop 5).take E = T at *
      obtain ⟨fr, hfr⟩ : ∃ fr, four (sumN (magicL ++ T)) = fr := ⟨_, rfl⟩
      have HFR := Lib.hid hfr
      obtain ⟨bb, hbb⟩ : ∃ bb, decide (X = fr) = bb := ⟨_, rfl⟩
      have HBB := Lib.hid hbb
      clear hfr hbb
      go_wp2_with fail
      refine wp_region_props6 (fun i => [23, 24, 25, 26, 27, 28, 29, 30, 31, 32, 33, 34, 35, 36, 37].getD i 0) 9999 (NoB) (fun _ => false) (by kernel_rfl) (by kernel_rfl) (by kernel_rfl) (SO (w.heap.size + 1) ad E c' fr bb) (fun i u x y _ _ _ h hk => SO_stable _ _ _ _ _ _ i u x y (by exact h) (by exact hk.mono (fun _ hf _ => hf))) (fun i u x y _ h hk => SO_stable _ _ _ _ _ _ i u x y h hk) rfl ?step ?spec ?fin
      case step =>
        intro i o a w' hoo hic hF hK hA
        have hi : i < 15 := by simpa using (Array.getElem?_eq_some_iff.1 hoo).1
        by_cases h0 : i = 0
        · subst h0
          simp only [List.getElem?_toArray, List.getElem?_cons_zero, Option.some.injEq] at hoo
          subst hoo
          have e7 : a.tmps.getD 7 undef = .int .i64 (E : Int) := hF.2.2 7 (by decide)
          refine Does.plain rfl ?_
          unfold yieldsK
          go_simp
          exact ⟨rfl, Keep.refl _ _⟩
        by_cases h1 : i = 1
        · subst h1
          simp only [List.getElem?_toArray, List.getElem?_cons_zero, List.getElem?_cons_succ, Option.some.injEq] at hoo
          subst hoo
          have e23 : a.tmps.getD 23 undef = .int .i64 (E : Int) := hA ⟨0, .data⟩ (by simp) rfl
          refine Does.plain rfl ?_
          unfold yieldsK
          go_simp
          exact ⟨rfl, Keep.refl _ _⟩
        by_cases h2 : i = 2
        · subst h2
          simp only [List.getElem?_toArray, List.getElem?_cons_zero, List.getElem?_cons_succ, Option.some.injEq] at hoo
          subst hoo
          have e24 : a.tmps.getD 24 undef = .bool false := hA ⟨1, .data⟩ (by simp) rfl
          refine Does.plain rfl ?_
          unfold yieldsK
          go_simp
          exact ⟨rfl, Keep.refl _ _⟩
        by_cases h3 : i = 3
        · subst h3
          simp only [List.getElem?_toArray, List.getElem?_cons_zero, List.getElem?_cons_succ, Option.some.injEq] at hoo
          subst hoo
          have e5 : a.tmps.getD 5 undef = .slice (some ad) (E + 4) c' := hF.2.2 5 (by decide)
          refine Does.yes (j := 2) (d := 25) (want := false) rfl rfl (hA ⟨2, .guard⟩ (by simp) rfl) ?_
          unfold yieldsK
          go_simp
          exact ⟨rfl, Keep.refl _ _⟩
        by_cases h4 : i = 4
        · subst h4
          simp only [List.getElem?_toArray, List.getElem?_cons_zero, List.getElem?_cons_succ, Option.some.injEq] at hoo
          subst hoo
          have e7 : a.tmps.getD 7 undef = .int .i64 (E : Int) := hF.2.2 7 (by decide)
          refine Does.yes (j := 2) (d := 25) (want := false) rfl rfl (hA ⟨2, .guard⟩ (by simp) rfl) ?_
          unfold yieldsK
          go_simp
          exact ⟨rfl, Keep.refl _ _⟩
        by_cases h5 : i = 5
        · subst h5
          simp only [List.getElem?_toArray, List.getElem?_cons_zero, List.getElem?_cons_succ, Option.some.injEq] at hoo
          subst hoo
          have e26 : a.tmps.getD 26 undef = .slice (some ad) (E + 4) c' := hA ⟨3, .data⟩ (by simp) rfl
          have e27 : a.tmps.getD 27 undef = .int .i64 (E : Int) := hA ⟨4, .data⟩ (by simp) rfl
          have hle : (E : Int) ≤ (E : Int) + 4 := by omega
          refine Does.yes (j := 2) (d := 25) (want := false) rfl rfl (hA ⟨2, .guard⟩ (by simp) rfl) ?_
          unfold yieldsK
          go_simp
          exact ⟨rfl, Keep.refl _ _⟩
        by_cases h6 : i = 6
        · subst h6
          simp only [List.getElem?_toArray, List.getElem?_cons_zero, List.getElem?_cons_succ, Option.some.injEq] at hoo
          subst hoo
          have e4 : a.tmps.getD 4 undef = .slice (some ⟨w.heap.size + 1, 0, none⟩) 5 5 := hF.2.2 4 (by decide)
          refine Does.yes (j := 2) (d := 25) (want := false) rfl rfl (hA ⟨2, .guard⟩ (by simp) rfl) ?_
          unfold yieldsK
          go_simp
          exact ⟨rfl, Keep.refl _ _⟩
        by_cases h7 : i = 7
        · subst h7
          simp only [List.getElem?_toArray, List.getElem?_cons_zero, List.getElem?_cons_succ, Option.some.injEq] at hoo
          subst hoo
          have e5 : a.tmps.getD 5 undef = .slice (some ad) (E + 4) c' := hF.2.2 5 (by decide)
          refine Does.yes (j := 2) (d := 25) (want := false) rfl rfl (hA ⟨2, .guard⟩ (by simp) rfl) ?_
          unfold yieldsK
          go_simp
          exact ⟨rfl, Keep.refl _ _⟩
        by_cases h8 : i = 8
        · subst h8
          simp only [List.getElem?_toArray, List.getElem?_cons_zero, List.getElem?_cons_succ, Option.some.injEq] at hoo
          subst hoo
          have e7 : a.tmps.getD 7 undef = .int .i64 (E : Int) := hF.2.2 7 (by decide)
          refine Does.yes (j := 2) (d := 25) (want := false) rfl rfl (hA ⟨2, .guard⟩ (by simp) rfl) ?_
          unfold yieldsK
          go_simp
          exact ⟨rfl, Keep.refl _ _⟩
        by_cases h9 : i = 9
        · subst h9
          simp only [List.getElem?_toArray, List.getElem?_cons_zero, List.getElem?_cons_succ, Option.some.injEq] at hoo
          subst hoo
          have e30 : a.tmps.getD 30 undef = .slice (some ad) (E + 4) c' := hA ⟨7, .data⟩ (by simp) rfl
          have e31 : a.tmps.getD 31 undef = .int .i64 (E : Int) := hA ⟨8, .data⟩ (by simp) rfl
          have hle : E ≤ c' := by omega
          refine Does.yes (j := 2) (d := 25) (want := false) rfl rfl (hA ⟨2, .guard⟩ (by simp) rfl) ?_
          unfold yieldsK
          go_simp
          exact ⟨rfl, Keep.refl _ _⟩
        by_cases h10 : i = 10
        · subst h10
          simp only [List.getElem?_toArray, List.getElem?_cons_zero, List.getElem?_cons_succ, Option.some.injEq] at hoo
          subst hoo
          have e29 : a.tmps.getD 29 undef = .slice (some ⟨w.heap.size + 1, 0, none⟩) 5 5 := hA ⟨6, .data⟩ (by simp) rfl
          have e32 : a.tmps.getD 32 undef = .slice (some ad) E c' := hA ⟨9, .data⟩ (by simp) rfl
          refine Does.yes (j := 2) (d := 25) (want := false) rfl rfl (hA ⟨2, .guard⟩ (by simp) rfl) ?_
          unfold yieldsK
          simp only [Array.getD_eq_getD_getElem?] at e29 e32
          go_simp
          exact ⟨⟨w'.heap.size, rfl, Blk.new _ _ _⟩, (Keep.refl _ _).alloc _⟩
        by_cases h11 : i = 11
        · subst h11
          simp only [List.getElem?_toArray, List.getElem?_cons_zero, List.getElem?_cons_succ, Option.some.injEq] at hoo
          subst hoo
          obtain ⟨g, e33, hb⟩ := hA ⟨10, .data⟩ (by simp) rfl
          have e33 : a.tmps.getD 33 undef = .slice (some ⟨g, 0, none⟩) 2 2 := e33
          refine Does.yes (j := 2) (d := 25) (want := false) rfl rfl (hA ⟨2, .guard⟩ (by simp) rfl) ?_
          unfold yieldsK
          go_simp
          refine (seal_any (some ⟨g, 0, none⟩) [(⟨some ⟨w.heap.size + 1, 0, none⟩, 5, 5⟩, magicL), (⟨some ad, E, c'⟩, T)] 2 2 w' (rd_two hb) rfl (fun e he => by
            simp only [List.mem_cons, List.not_mem_nil, or_false] at he
            rcases he with rfl | rfl
            · exact ⟨(HM.out.keep hK (fun _ _ _ => id)), rfl⟩
            · exact ⟨(HT.out.1.keep hK (fun _ _ _ => id)), HT.out.2⟩) (by omega) (fun e he => by
            simp only [List.mem_cons, List.not_mem_nil, or_false] at he
            rcases he with rfl | rfl
            · show (5 : Nat) ≤ _; omega
            · show E ≤ _; omega)).mono ?_
          rintro e w5 ⟨u, rfl, h2, h3⟩
          have e4 : allB [(⟨some ⟨w.heap.size + 1, 0, none⟩, 5, 5⟩, magicL), (⟨some ad, E, c'⟩, T)] = magicL ++ T := by simp [allB]
          rw [e4, HFR.out] at h2
          exact ⟨_, rfl, OwnB.ptV h2, h3⟩
        by_cases h12 : i = 12
        · subst h12
          simp only [List.getElem?_toArray, List.getElem?_cons_zero, List.getElem?_cons_succ, Option.some.injEq] at hoo
          subst hoo
          have e28 : a.tmps.getD 28 undef = .slice (some (ad.add E)) 4 (c' - E) := hA ⟨5, .data⟩ (by simp) rfl
          obtain ⟨A34, c34, e34, h34⟩ := hA ⟨11, .data⟩ (by simp) rfl
          have e34 : a.tmps.getD 34 undef = .slice A34 fr.length c34 := e34
          refine Does.yes (j := 2) (d := 25) (want := false) rfl rfl (hA ⟨2, .guard⟩ (by simp) rfl) ?_
          unfold yieldsK
          simp only [Array.getD_eq_getD_getElem?] at e34
          go_simp
          refine (equalB_any (some (ad.add E)) A34 X fr 4 fr.length (c' - E) c34 w' (HX.out.1.keep hK (fun _ _ _ => id)) h34 HX.out.2 rfl bb HBB.out).mono ?_
          rintro e w5 ⟨rfl, rfl⟩
          exact ⟨_, rfl, rfl, Keep.refl _ _⟩
        by_cases h13 : i = 13
        · subst h13
          simp only [List.getElem?_toArray, List.getElem?_cons_zero, List.getElem?_cons_succ, Option.some.injEq] at hoo
          subst hoo
          have e35 : a.tmps.getD 35 undef = .bool bb := hA ⟨12, .data⟩ (by simp) rfl
          refine Does.yes (j := 2) (d := 25) (want := false) rfl rfl (hA ⟨2, .guard⟩ (by simp) rfl) ?_
          unfold yieldsK
          go_simp
          exact ⟨rfl, Keep.refl _ _⟩
        by_cases h14 : i = 14
        · subst h14
          simp only [List.getElem?_toArray, List.getElem?_cons_zero, List.getElem?_cons_succ, Option.some.injEq] at hoo
          subst hoo
          have e25 : a.tmps.getD 25 undef = .bool false := hA ⟨2, .data⟩ (by simp) rfl
          have e36 : a.tmps.getD 36 undef = .bool (!bb) := hA ⟨13, .data⟩ (by simp) rfl
          refine Does.plain rfl ?_
          unfold yieldsK
          go_simp
          exact ⟨rfl, Keep.refl _ _⟩
        omega
      case spec =>
        intro o a w' hoo
        simp at hoo
      case fin =>
        intro a w' hF gK hA
        have e37 : a.tmps.getD 37 undef = .bool (!bb) := hA 14 (by decide)
        have ha := frameD_list (l := [23, 24, 25, 26, 27, 28, 29, 30, 31, 32, 33, 34, 35, 36, 37]) rfl hF
        rw [ha]
        simp only [List.map_cons, List.map_nil, e37]
        generalize a.tmps.getD 23 undef = u0
        generalize a.tmps.getD 24 undef = u1
        generalize a.tmps.getD 25 undef = u2
        generalize a.tmps.getD 26 undef = u3
        generalize a.tmps.getD 27 undef = u4
        generalize a.tmps.getD 28 undef = u5
        generalize a.tmps.getD 29 undef = u6
        generalize a.tmps.getD 30 undef = u7
        generalize a.tmps.getD 31 undef = u8
        generalize a.tmps.getD 32 undef = u9
        generalize a.tmps.getD 33 undef = u10
        generalize a.tmps.getD 34 undef = u11
        generalize a.tmps.getD 35 undef = u12
        generalize a.tmps.getD 36 undef = u13
        simp only [fillD, List.setIfInBounds_toArray, List.set_cons_zero, List.set_cons_succ]
        have bz9 := bz3.keep gK id
        have kW9 := keepN kW3 gK
        have hT9 := HT.out.1.keep gK (fun _ _ _ => id)
        have hTl := HT.out.2
        clear hA hF ha e37 HM HX gK bz3 kW3 hcv HT
        cases bb
        · have HD := Lib.hid (decI_2 h5 (.inr (by rw [HTC.out.1, HTC.out.2.1, HFR.out]; exact of_decide_eq_false HBB.out)))
          clear HBB HFR HTC hT9
          have f3 := fun i => bz9.frozen i
          have q0 := bz9.cell 0
          have q1 := bz9.cell 1
          simp only [List.getElem?_toArray, List.getElem?_cons_zero, List.getElem?_cons_succ] at q0 q1
          have hlt := bz9.lt
          have HP := Lib.hid (put2_img bz9 (.slice none 0 0) (.slice none 0 0))
          have HK := Lib.hid (kW9.trans (keep2_img _ w.heap.size (.slice none 0 0) (.slice none 0 0)) (fun k e hl => by omega))
          clear bz9 kW9
          go_wp2
          refine bodyPost_ret (ret_imgE (v := nilW) rfl rfl HP.out rfl) rfl ?_
          rw [HD.out]
          exact ⟨nilW, [], [], rfl, nil_own _ _, rfl, HK.out⟩
        · have hsum : l.drop (l.length - 4) = four (sumN (l.take (l.length - 4))) := by rw [HTC.out.1, HTC.out.2.1, HFR.out]; exact of_decide_eq_true HBB.out
          have HD4 := Lib.hid (fun p hp => decI_4 (p := p) h5 h9 hsum (by rw [HTC.out.2.2]; exact hp))
          have HD3 := Lib.hid (fun hp => decI_3 h5 h9 hsum (by rw [HTC.out.2.2]; exact hp))
          have hin := inner_any (some ad) T c' _ hT9 (by omega)
          rw [hTl] at hin
          have HIN := Lib.hid hin
          clear HBB HFR HTC hT9 hsum hin h5
          go_wp2_with fail
          refine HIN.out.mono ?_
          rintro e w6 ⟨v6, es, fs, b6, rfl, hO6, k6, hb1, hb0⟩
          have bz6 := bz9.keep k6 id
          have kW6 := keepN kW9 k6
          have hz6 := bz9.lt
          have kA := (Keep.refl NoB w6).alloc (.cells v6.cells 25)
          have bz7 := bz6.keep kA id
          have kW7 := keepN kW6 kA
          have bv7 := Blk.new w6 25 v6.cells
          cases b6
          · have HD := Lib.hid (HD3.out (by
              cases hq : rdI T 0 with
              | none => exact opI_1 hq
              | some x => exact opI_2 hq (fun h => hb0 rfl x hq (by rw [h.1]))))
            have bz9 := bz7
            have kW9 := kW7
            clear hb1 hb0 HD3 HD4 hO6 k6 bz6 kW6 bz7 kW7 bv7 kA
            obtain ⟨X6, nx6, cx6, Y6, ny6, cy6⟩ := v6
            dsimp only [IV.val, IV.cells] at *
            have f3 := fun i => bz9.frozen i
            have q0 := bz9.cell 0
            have q1 := bz9.cell 1
            simp only [List.getElem?_toArray, List.getElem?_cons_zero, List.getElem?_cons_succ] at q0 q1
            have hlt := bz9.lt
            have HP := Lib.hid (put2_img bz9 (.slice none 0 0) (.slice none 0 0))
            have HK := Lib.hid (kW9.trans (keep2_img _ w.heap.size (.slice none 0 0) (.slice none 0 0)) (fun k e hl => by omega))
            clear bz9 kW9
            go_wp2
            refine bodyPost_ret (ret_imgE (v := nilW) rfl rfl HP.out rfl) rfl ?_
            rw [HD.out]
            exact ⟨nilW, [], [], rfl, nil_own _ _, rfl, HK.out⟩
          · have hrd := hb1 rfl
            obtain ⟨hsm, hlg⟩ := sm_of hO6.im (rdI_small hrd)
            have HC6 := Lib.hid (check_any v6 es fs _ (hO6.keepN kA).im hlg _ rfl)
            cases ho : okI (imOf es fs)
            · rw [chkI_no ho] at HC6
              have HD := Lib.hid (HD3.out (opI_2 hrd (fun h => by rw [ho] at h; exact absurd h.2 (by decide))))
              obtain ⟨p0, p1⟩ := blk2 bv7
              have HB7 := Lib.hid (And.intro bz7 kW7)
              clear hb1 hb0 HD3 HD4 hO6 k6 bz6 kW6 bz7 kW7 bv7 kA hrd hsm hlg ho bz9 kW9
              obtain ⟨X6, nx6, cx6, Y6, ny6, cy6⟩ := v6
              dsimp only [IV.val, IV.cells] at *
              go_wp2_with fail
              refine HC6.out.mono ?_
              rintro e w8 ⟨rfl, k8⟩
              have bz9 := HB7.out.1.keep k8 id
              have kW9 := keepN HB7.out.2 k8
              clear HB7 HC6 k8
              have f3 := fun i => bz9.frozen i
              have q0 := bz9.cell 0
              have q1 := bz9.cell 1
              simp only [List.getElem?_toArray, List.getElem?_cons_zero, List.getElem?_cons_succ] at q0 q1
              have hlt := bz9.lt
              have HP := Lib.hid (put2_img bz9 (.slice none 0 0) (.slice none 0 0))
              have HK := Lib.hid (kW9.trans (keep2_img _ w.heap.size (.slice none 0 0) (.slice none 0 0)) (fun k e hl => by omega))
              clear bz9 kW9
              go_wp2
              refine bodyPost_ret (ret_imgE (v := nilW) rfl rfl HP.out rfl) rfl ?_
              rw [HD.out]
              exact ⟨nilW, [], [], rfl, nil_own _ _, rfl, HK.out⟩
            · rw [chkI_ok ho] at HC6
              have HD := Lib.hid (HD4.out (imOf es fs) (opI_3 hrd rfl ho))
              have hO7 := hO6.keepN kA
              clear hb1 hb0 HD3 HD4 hO6 k6 bz6 kW6 kA hrd hsm hlg ho bz9 kW9
              have HB7 := Lib.hid (And.intro bz7 (And.intro kW7 (And.intro hO7 bv7)))
              obtain ⟨p0, p1⟩ := blk2 bv7
              clear bz7 kW7 hO7 bv7
              obtain ⟨X6, nx6, cx6, Y6, ny6, cy6⟩ := v6
              dsimp only [IV.val, IV.cells] at *
              go_wp2_with fail
              refine HC6.out.mono ?_
              rintro e w8 ⟨rfl, k8⟩
              obtain ⟨bz7, kW7, hO7, bv7⟩ := HB7.out
              have bz8 := bz7.keep k8 id
              have kW8 := keepN kW7 k8
              have hO8 := hO7.keepN k8
              obtain ⟨r0, r1⟩ := blk2 (v := ⟨X6, nx6, cx6, Y6, ny6, cy6⟩) (bv7.keep k8 id)
              dsimp only at r0 r1
              have f3 := fun i => bz8.frozen i
              have q0 := bz8.cell 0
              have q1 := bz8.cell 1
              simp only [List.getElem?_toArray, List.getElem?_cons_zero, List.getElem?_cons_succ] at q0 q1
              have hlt := bz8.lt
              have HP := Lib.hid (put2_img bz8 (.slice X6 nx6 cx6) (.slice Y6 ny6 cy6))
              have kq := keep2_img w8 w.heap.size (.slice X6 nx6 cx6) (.slice Y6 ny6 cy6)
              have HK := Lib.hid (kW8.trans kq (fun k e hl => by omega))
              have HO := Lib.hid ((hO8.keep kq (fun k hk e => by unfold Fresh at hk; omega)).mono (P' := Fresh w) (fun k hk _ => by unfold Fresh at *; omega))
              clear bz8 kW8 hO8 bz7 kW7 hO7 bv7 HB7 k8 kq HC6
              go_wp2
              refine bodyPost_ret (ret_imgE (v := ⟨X6, nx6, cx6, Y6, ny6, cy6⟩) rfl rfl HP.out rfl) rfl ?_
              rw [HD.out]
              exact ⟨⟨X6, nx6, cx6, Y6, ny6, cy6⟩, es, fs, rfl, HO.out, rfl, HK.out⟩
    · obtain ⟨N, hN⟩ : ∃ N, l.length - 5 = N := ⟨_, rfl⟩
      have hdN : ((N : Int) - 4 < 0) := by omega
      rw [hN]
      go_wp2_with fail
      refine wp_region_props6 (fun i => [23, 24, 25, 26, 27, 28, 29, 30, 31, 32, 33, 34, 35, 36, 37].getD i 0) 9999 (NoB) (fun _ => false) (by kernel_rfl) (by kernel_rfl) (by kernel_rfl) (SQ N) (fun i u x y _ _ _ h _ => SQ_stable _ i u x y h) (fun i u x y _ h _ => SQ_stable _ i u x y h) rfl ?step ?spec ?fin
      case step =>
        intro i o a w' hoo hic hF hK hA
        have hi : i < 15 := by simpa using (Array.getElem?_eq_some_iff.1 hoo).1
        by_cases h0 : i = 0
        · subst h0
          simp only [List.getElem?_toArray, List.getElem?_cons_zero, Option.some.injEq] at hoo
          subst hoo
          have e7 : a.tmps.getD 7 undef = .int .i64 ((N : Int) - 4) := hF.2.2 7 (by decide)
          refine Does.plain rfl ?_
          unfold yieldsK
          go_simp
          exact ⟨rfl, Keep.refl _ _⟩
        by_cases h1 : i = 1
        · subst h1
          simp only [List.getElem?_toArray, List.getElem?_cons_zero, List.getElem?_cons_succ, Option.some.injEq] at hoo
          subst hoo
          have e23 : a.tmps.getD 23 undef = .int .i64 ((N : Int) - 4) := hA ⟨0, .data⟩ (by simp) rfl
          have hd := hdN
          refine Does.plain rfl ?_
          unfold yieldsK
          go_simp
          exact ⟨rfl, Keep.refl _ _⟩
        by_cases h2 : i = 2
        · subst h2
          simp only [List.getElem?_toArray, List.getElem?_cons_zero, List.getElem?_cons_succ, Option.some.injEq] at hoo
          subst hoo
          have e24 : a.tmps.getD 24 undef = .bool true := hA ⟨1, .data⟩ (by simp) rfl
          refine Does.plain rfl ?_
          unfold yieldsK
          go_simp
          exact ⟨rfl, Keep.refl _ _⟩
        by_cases h3 : i = 3
        · subst h3
          simp only [List.getElem?_toArray, List.getElem?_cons_zero, List.getElem?_cons_succ, Option.some.injEq] at hoo
          subst hoo
          refine Does.no (j := 2) (d := 25) (want := false) rfl rfl (hA ⟨2, .guard⟩ (by simp) rfl) ?_
          exact ⟨trivial, Keep.refl _ _⟩
        by_cases h4 : i = 4
        · subst h4
          simp only [List.getElem?_toArray, List.getElem?_cons_zero, List.getElem?_cons_succ, Option.some.injEq] at hoo
          subst hoo
          refine Does.no (j := 2) (d := 25) (want := false) rfl rfl (hA ⟨2, .guard⟩ (by simp) rfl) ?_
          exact ⟨trivial, Keep.refl _ _⟩
        by_cases h5 : i = 5
        · subst h5
          simp only [List.getElem?_toArray, List.getElem?_cons_zero, List.getElem?_cons_succ, Option.some.injEq] at hoo
          subst hoo
          refine Does.no (j := 2) (d := 25) (want := false) rfl rfl (hA ⟨2, .guard⟩ (by simp) rfl) ?_
          exact ⟨trivial, Keep.refl _ _⟩
        by_cases h6 : i = 6
        · subst h6
          simp only [List.getElem?_toArray, List.getElem?_cons_zero, List.getElem?_cons_succ, Option.some.injEq] at hoo
          subst hoo
          refine Does.no (j := 2) (d := 25) (want := false) rfl rfl (hA ⟨2, .guard⟩ (by simp) rfl) ?_
          exact ⟨trivial, Keep.refl _ _⟩
        by_cases h7 : i = 7
        · subst h7
          simp only [List.getElem?_toArray, List.getElem?_cons_zero, List.getElem?_cons_succ, Option.some.injEq] at hoo
          subst hoo
          refine Does.no (j := 2) (d := 25) (want := false) rfl rfl (hA ⟨2, .guard⟩ (by simp) rfl) ?_
          exact ⟨trivial, Keep.refl _ _⟩
        by_cases h8 : i = 8
        · subst h8
          simp only [List.getElem?_toArray, List.getElem?_cons_zero, List.getElem?_cons_succ, Option.some.injEq] at hoo
          subst hoo
          refine Does.no (j := 2) (d := 25) (want := false) rfl rfl (hA ⟨2, .guard⟩ (by simp) rfl) ?_
          exact ⟨trivial, Keep.refl _ _⟩
        by_cases h9 : i = 9
        · subst h9
          simp only [List.getElem?_toArray, List.getElem?_cons_zero, List.getElem?_cons_succ, Option.some.injEq] at hoo
          subst hoo
          refine Does.no (j := 2) (d := 25) (want := false) rfl rfl (hA ⟨2, .guard⟩ (by simp) rfl) ?_
          exact ⟨trivial, Keep.refl _ _⟩
        by_cases h10 : i = 10
        · subst h10
          simp only [List.getElem?_toArray, List.getElem?_cons_zero, List.getElem?_cons_succ, Option.some.injEq] at hoo
          subst hoo
          refine Does.no (j := 2) (d := 25) (want := false) rfl rfl (hA ⟨2, .guard⟩ (by simp) rfl) ?_
          exact ⟨trivial, Keep.refl _ _⟩
        by_cases h11 : i = 11
        · subst h11
          simp only [List.getElem?_toArray, List.getElem?_cons_zero, List.getElem?_cons_succ, Option.some.injEq] at hoo
          subst hoo
          refine Does.no (j := 2) (d := 25) (want := false) rfl rfl (hA ⟨2, .guard⟩ (by simp) rfl) ?_
          exact ⟨trivial, Keep.refl _ _⟩
        by_cases h12 : i = 12
        · subst h12
          simp only [List.getElem?_toArray, List.getElem?_cons_zero, List.getElem?_cons_succ, Option.some.injEq] at hoo
          subst hoo
          refine Does.no (j := 2) (d := 25) (want := false) rfl rfl (hA ⟨2, .guard⟩ (by simp) rfl) ?_
          exact ⟨trivial, Keep.refl _ _⟩
        by_cases h13 : i = 13
        · subst h13
          simp only [List.getElem?_toArray, List.getElem?_cons_zero, List.getElem?_cons_succ, Option.some.injEq] at hoo
          subst hoo
          refine Does.no (j := 2) (d := 25) (want := false) rfl rfl (hA ⟨2, .guard⟩ (by simp) rfl) ?_
          exact ⟨trivial, Keep.refl _ _⟩
        by_cases h14 : i = 14
        · subst h14
          simp only [List.getElem?_toArray, List.getElem?_cons_zero, List.getElem?_cons_succ, Option.some.injEq] at hoo
          subst hoo
          have e25 : a.tmps.getD 25 undef = .bool true := hA ⟨2, .data⟩ (by simp) rfl
          refine Does.plain rfl ?_
          unfold yieldsK
          go_simp
          exact ⟨rfl, Keep.refl _ _⟩
        omega
      case spec =>
        intro o a w' hoo
        simp at hoo
      case fin =>
        intro a w' hF gK hA
        have e37 : a.tmps.getD 37 undef = .bool true := hA 14 (by decide)
        have ha := frameD_list (l := [23, 24, 25, 26, 27, 28, 29, 30, 31, 32, 33, 34, 35, 36, 37]) rfl hF
        rw [ha]
        simp only [List.map_cons, List.map_nil, e37]
        generalize a.tmps.getD 23 undef = u0
        generalize a.tmps.getD 24 undef = u1
        generalize a.tmps.getD 25 undef = u2
        generalize a.tmps.getD 26 undef = u3
        generalize a.tmps.getD 27 undef = u4
        generalize a.tmps.getD 28 undef = u5
        generalize a.tmps.getD 29 undef = u6
        generalize a.tmps.getD 30 undef = u7
        generalize a.tmps.getD 31 undef = u8
        generalize a.tmps.getD 32 undef = u9
        generalize a.tmps.getD 33 undef = u10
        generalize a.tmps.getD 34 undef = u11
        generalize a.tmps.getD 35 undef = u12
        generalize a.tmps.getD 36 undef = u13
        simp only [fillD, List.setIfInBounds_toArray, List.set_cons_zero, List.set_cons_succ]
        have bz9 := bz3.keep gK id
        have kW9 := keepN kW3 gK
        have HD := Lib.hid (decI_2 h5 (.inl (by omega)))
        clear hA hF ha e37 gK bz3 kW3 hcv hR hC hmg hr3
        have f3 := fun i => bz9.frozen i
        have q0 := bz9.cell 0
        have q1 := bz9.cell 1
        simp only [List.getElem?_toArray, List.getElem?_cons_zero, List.getElem?_cons_succ] at q0 q1
        have hlt := bz9.lt
        have HP := Lib.hid (put2_img bz9 (.slice none 0 0) (.slice none 0 0))
        have HK := Lib.hid (kW9.trans (keep2_img _ w.heap.size (.slice none 0 0) (.slice none 0 0)) (fun k e hl => by omega))
        clear bz9 kW9
        go_wp2
        refine bodyPost_ret (ret_imgE (v := nilW) rfl rfl HP.out rfl) rfl ?_
        rw [HD.out]
        exact ⟨nilW, [], [], rfl, nil_own _ _, rfl, HK.out⟩
end Go.Proofs.YtgifflfjhockaaaGreatDoor.I

namespace Go.Proofs.YtgifflfjhockaaaGreatDoor.S
open Go.RowKit W

end Go.Proofs.YtgifflfjhockaaaGreatDoor.S

namespace Go.Proofs.YtgifflfjhockaaaGreatDoor.S
open Go.RowKit W

end Go.Proofs.YtgifflfjhockaaaGreatDoor.S

namespace Go.Proofs.YtgifflfjhockaaaGreatDoor.F
open Go.RowKit W

end Go.Proofs.YtgifflfjhockaaaGreatDoor.F

namespace Go.Proofs.YtgifflfjhockaaaGreatDoor.I
open Go.RowKit W

end Go.Proofs.YtgifflfjhockaaaGreatDoor.I

namespace Go.Proofs.YtgifflfjhockaaaGreatDoor.I
open Go.RowKit W

end Go.Proofs.YtgifflfjhockaaaGreatDoor.I

namespace Go.Proofs.YtgifflfjhockaaaGreatDoor.I
open Go.RowKit W

/-- A row that has just been made is owned. -/
theorem made_own {w : World} {E size n b : Nat} {cs : Array Value} {xs : List Value} {P : Nat → Prop} (hb : b = w.heap.size) (hs : cs.size = n * size) (hm : n ≤ maxLen) (hx : xs = cs.toList) (hP : P b) : Own (w.alloc (.cells cs E)) E size P (.slice (some ⟨b, 0, none⟩) n n) n xs := by
  subst hb hx
  exact own_blk (Blk.new w E cs) (by simpa using hs) hm hP
/-- The image of one function of a name that returns. -/
def oneF (S : ByteArray) : F.Fu := ⟨S.data.toList, [], [], [], [(24, 0, 0)]⟩
def oneV (m : Nat) (S : ByteArray) : F.FV := ⟨S, none, 0, 0, none, 0, 0, none, 0, 0, some ⟨m + 1, 0, none⟩, 1, 1⟩
def oneI (m : Nat) : IV := ⟨none, 0, 0, some ⟨m + 1 + 1, 0, none⟩, 1, 1⟩
set_option maxRecDepth 100000 in
set_option maxHeartbeats 4000000 in
theorem one_any (S : ByteArray) (w : World) : Calls Tryz.prog 29 #[.string S] w fun e w' => e = .returned (oneI w.heap.size).val ∧ OwnIm w' (Fresh w) (oneI w.heap.size) [] [(oneV w.heap.size S, oneF S)] ∧ Keep NoB w w' := by
  have bz := ((Blk.new w 25 (oneI w.heap.size).cells).alloc (.cells #[.int .i64 24, .int .i64 0, .int .i64 0] 63)).alloc (.cells (oneV w.heap.size S).cells 61)
  have k1 := (Keep.refl NoB w).alloc (.cells (oneI w.heap.size).cells 25)
  have k2 := k1.alloc (.cells #[.int .i64 24, .int .i64 0, .int .i64 0] 63)
  have k3 := k2.alloc (.cells (oneV w.heap.size S).cells 61)
  have a1 := made_own (w := w.alloc (.cells (oneI w.heap.size).cells 25)) (E := 63) (size := 3) (n := 1) (b := w.heap.size + 1) (cs := #[.int .i64 24, .int .i64 0, .int .i64 0]) (xs := C.iis [(24, 0, 0)]) (P := Fresh w) (by simp) rfl (by unfold maxLen; omega) rfl (Nat.le_succ _)
  have a2 := made_own (w := (w.alloc (.cells (oneI w.heap.size).cells 25)).alloc (.cells #[.int .i64 24, .int .i64 0, .int .i64 0] 63)) (E := 61) (size := 5) (n := 1) (b := w.heap.size + 1 + 1) (cs := (oneV w.heap.size S).cells) (xs := fvs [(oneV w.heap.size S, oneF S)]) (P := Fresh w) (by simp) rfl (by unfold maxLen; omega) (by simp [fvs]) (Nat.le_trans (Nat.le_succ _) (Nat.le_succ _))
  have b1 := a1.keepN ((Keep.refl NoB _).alloc (.cells (oneV w.heap.size S).cells 61))
  unfold IV.cells oneI oneV F.FV.cells at *
  dsimp only at *
  have HO := Lib.hid (And.intro b1 a2)
  have HB := Lib.hid bz
  have HK := Lib.hid k3
  clear a1 a2 b1 k1 k2 k3 bz
  go_enter Tryz.func29, Tryz.ntmps29
  go_wp2
  refine bodyPost_ret (ret_img (v := ⟨none, 0, 0, some ⟨w.heap.size + 1 + 1, 0, none⟩, 1, 1⟩) rfl rfl HB.out) rfl ?_
  obtain ⟨b1, a2⟩ := HO.out
  refine ⟨rfl, ⟨Own.nil _ _ _ _, a2, (fun _ h => nomatch h), fun e he => ?_⟩, HK.out⟩
  obtain rfl := List.mem_singleton.1 he
  exact ⟨rfl, Own.nil _ _ _ _, Own.nil _ _ _ _, Own.nil _ _ _ _, b1, F.some_I⟩
theorem one_lg (m : Nat) (S : ByteArray) (hS : S.size ≤ 100) : LgI (oneI m) [] [(oneV m S, oneF S)] := ⟨Nat.zero_le _, by show 1 ≤ _; omega, (fun _ h => nomatch h), fun e he => by
  obtain rfl := List.mem_singleton.1 he
  exact ⟨by show S.size ≤ _; omega, Nat.zero_le _, Nat.zero_le _, Nat.zero_le _, by show 1 ≤ _; omega⟩⟩
/-- Bytes out of a constant: the conversion marks their block. -/
theorem marked {w : World} {cs : Array Value} {n : Nat} (l : List UInt8) (h : cs = (V.bvs l).toArray) (hn : l.length = n) :
    (convert 26 26 (.slice (some ⟨w.heap.size, 0, none⟩) n n)).run Tryz.prog (w.alloc (.cells cs 5)) = .ok (.slice (some ⟨w.heap.size, 0, none⟩) n n) ((w.alloc (.cells cs 5)).freeze ⟨w.heap.size, n, none⟩ 1) ∧
    V.Rd ((w.alloc (.cells cs 5)).freeze ⟨w.heap.size, n, none⟩ 1) (some ⟨w.heap.size, 0, none⟩) l ∧ Keep NoB w ((w.alloc (.cells cs 5)).freeze ⟨w.heap.size, n, none⟩ 1) := by
  subst h hn
  have hm := heap_alloc_new w (.cells (V.bvs l).toArray 5)
  have h1 := run_mark (n := l.length) (c := l.length) hm
  rw [show (V.bvs l).toArray.size = l.length by simp] at h1
  have hp := PtV.mark ⟨some ⟨w.heap.size, 0, none⟩, l.length, rfl, rdB_blk hm⟩ (freeze_mark (k := l.length) hm).1
  exact ⟨h1, hp.rd, keep_mark ((Keep.refl NoB w).alloc _) hm (Nat.le_refl _)⟩
theorem sum_nil (w : World) : Calls Tryz.prog 18 #[.slice none 0 0] w fun e w' => e = .returned (.int .u32 1) ∧ w = w' :=
  sum_any none [] 0 0 w (Rd.none_ _ _) rfl (fun _ h => nomatch h) (Nat.zero_le _) (fun _ h => nomatch h) 1 rfl
theorem sum_one {w : World} {g : Nat} {A : Option Addr} {l : List UInt8} {n c : Nat} (h : Blk w g 26 #[.slice A n c]) (hr : V.Rd w A l) (hn : l.length = n) (hl : n ≤ 140737488355328) (R : Nat) (hR : sumN l = R) :
    Calls Tryz.prog 18 #[.slice (some ⟨g, 0, none⟩) 1 1] w fun e w' => e = .returned (.int .u32 (R : Int)) ∧ w = w' :=
  sum_any _ [(⟨A, n, c⟩, l)] 1 1 w (rd_single h) rfl (fun e he => by obtain rfl := List.mem_singleton.1 he; exact ⟨hr, hn⟩) (by omega) (fun e he => by obtain rfl := List.mem_singleton.1 he; exact hl) R (show _ = _ by simpa [allB] using hR)
theorem own_bytes {w : World} {O : Nat → Prop} {v : Value} {l : List UInt8} {n : Nat} (h : V.OwnB w O v l) (hn : l.length = n) : ∃ A c, v = .slice A n c ∧ n ≤ c ∧ V.Rd w A l := by
  subst hn
  obtain ⟨A, c, e, hc, hr, _, _⟩ := h.form
  exact ⟨A, c, e, hc, hr⟩

theorem enc_f : encI ⟨[], [oneF ⟨#[102]⟩]⟩ = [98, 107, 115, 116, 1, 0, 1, 1, 102, 0, 0, 0, 0, 1, 24, 25, 238, 2, 55] := by decide +kernel
theorem chk_f : chkI ⟨[], [oneF ⟨#[102]⟩]⟩ = 0 := by decide +kernel
theorem sum_wiki : sumN [87, 105, 107, 105, 112, 101, 100, 105, 97] = 300286872 := by decide +kernel
theorem encode_f (m : Nat) (w : World) (h : ImAt w (oneI m) [] [(oneV m ⟨#[102]⟩, oneF ⟨#[102]⟩)]) : Calls Tryz.prog 13 #[(oneI m).val] w fun e w' => ∃ A c, e = .returned (.tuple #[.slice A 19 c, .int .i64 0]) ∧ 19 ≤ c ∧ V.Rd w' A [98, 107, 115, 116, 1, 0, 1, 1, 102, 0, 0, 0, 0, 1, 24, 25, 238, 2, 55] ∧ Keep NoB w w' := by
  refine (encode_any (oneI m) [] _ w h (one_lg _ _ (by decide))).mono ?_
  rintro e w' ⟨u, rfl, hu, hk⟩
  have hu2 : V.OwnB w' (Fresh w) u [98, 107, 115, 116, 1, 0, 1, 1, 102, 0, 0, 0, 0, 1, 24, 25, 238, 2, 55] := by rw [← enc_f]; exact hu
  obtain ⟨A, c, rfl, hc, hr⟩ := own_bytes (n := 19) hu2 rfl
  exact ⟨A, c, congrArg (fun x => Ending.returned (.tuple #[.slice A 19 c, .int .i64 x])) chk_f, hc, hr, hk⟩
/-- What Decode answers where the bytes are no image's: no image, and an error. -/
theorem decode_no (A : Option Addr) (l : List UInt8) (n c : Nat) (w : World) (hr : V.Rd w A l) (hn : l.length = n) (hc : n ≤ c) (hcm : c ≤ maxLen) (hlen : n ≤ 1073741824) (E : Int) (hE : decI l = (nilI, E)) :
    Calls Tryz.prog 15 #[.slice A n c] w fun e w' => ∃ X Y cx cy, e = .returned (.tuple #[.agg #[.slice X 0 cx, .slice Y 0 cy], .int .i64 E]) ∧ Keep NoB w w' := by
  subst hn
  refine (decode_any A l c w hr hc hcm hlen).mono ?_
  rw [hE]
  rintro e w' ⟨v, es, fs, rfl, ho, hi, hk⟩
  have h1 : es = [] := List.map_eq_nil_iff.1 (congrArg Im.sh hi)
  have h2 : fs = [] := List.map_eq_nil_iff.1 (congrArg Im.fn hi)
  subst h1 h2
  have l1 := ho.im.lx
  have l2 := ho.im.ly
  obtain ⟨X, nx, cx, Y, ny, cy⟩ := v
  dsimp only [List.length_nil] at l1 l2
  subst l1 l2
  exact ⟨X, Y, cx, cy, rfl, hk⟩
set_option maxRecDepth 100000 in
set_option maxHeartbeats 8000000 in
theorem alive_any (w : World) : Calls Tryz.prog 31 #[] w fun e w' => e = .returned (.bool true) ∧ Keep NoB w w' := by
  go_enter Tryz.func31, Tryz.ntmps31
  go_wp2_with fail
  refine (one_any _ _).mono ?_
  rintro e w1 ⟨rfl, h1, gK⟩
  have HE := Lib.hid (encode_f _ _ h1.im)
  clear h1
  unfold oneI IV.val at *
  dsimp only at *
  go_wp2_with fail
  refine HE.out.mono ?_
  rintro e w2 ⟨A2, c2, rfl, hc2, r2, k1⟩
  replace gK := keepN gK k1
  clear k1 HE
  go_wp2_with fail
  refine (decode_no none [] 0 0 w2 (V.Rd.none_ _ _) rfl (Nat.le_refl _) (Nat.zero_le _) (Nat.zero_le _) 81 (decI_1 (by decide))).mono ?_
  rintro e w3 ⟨X3, Y3, cx3, cy3, rfl, k1⟩
  replace gK := keepN gK k1
  replace r2 := S.rd_n r2 k1
  clear k1
  have kA := (Keep.refl NoB w3).alloc (.cells #[.slice X3 0 cx3, .slice Y3 0 cy3] 25)
  obtain ⟨hcv, hrd, hkp⟩ := marked (w := w3.alloc (.cells #[.slice X3 0 cx3, .slice Y3 0 cy3] 25)) (cs := #[.int .u8 98, .int .u8 107, .int .u8 115, .int .u8 116, .int .u8 1]) (n := 5) magicL rfl rfl
  replace gK := keepN gK (keepN kA hkp)
  replace r2 := S.rd_n r2 (keepN kA hkp)
  clear kA hkp
  simp only [World.size_alloc] at hcv hrd r2 gK
  generalize World.freeze _ ⟨w3.heap.size + 1, 5, none⟩ 1 = w4 at *
  go_wp2_with fail
  refine (decode_no (some ⟨w3.heap.size + 1, 0, none⟩) magicL 5 5 w4 hrd rfl (Nat.le_refl _) (by unfold maxLen; omega) (by omega) 82 (decI_2 rfl (.inl (by decide)))).mono ?_
  rintro e w5 ⟨X5, Y5, cx5, cy5, rfl, k1⟩
  have kA := (Keep.refl NoB w5).alloc (.cells #[.slice X5 0 cx5, .slice Y5 0 cy5] 25)
  replace gK := keepN gK (keepN k1 kA)
  replace r2 := S.rd_n r2 (keepN k1 kA)
  clear k1 kA hcv hrd
  go_wp2_with fail
  refine (sum_nil _).mono ?_
  rintro e w6 ⟨rfl, rfl⟩
  obtain ⟨hcv, hrd, hkp⟩ := marked (w := w5.alloc (.cells #[.slice X5 0 cx5, .slice Y5 0 cy5] 25)) (cs := #[.int .u8 87, .int .u8 105, .int .u8 107, .int .u8 105, .int .u8 112, .int .u8 101, .int .u8 100, .int .u8 105, .int .u8 97]) (n := 9) [87, 105, 107, 105, 112, 101, 100, 105, 97] rfl rfl
  replace gK := keepN gK hkp
  replace r2 := S.rd_n r2 hkp
  simp only [World.size_alloc] at hcv hrd r2 gK
  clear hkp
  generalize World.freeze _ ⟨w5.heap.size + 1, 9, none⟩ 1 = w7 at *
  have bw := Blk.new w7 26 #[.slice (some ⟨w5.heap.size + 1, 0, none⟩) 9 9]
  have kA := (Keep.refl NoB w7).alloc (.cells #[.slice (some ⟨w5.heap.size + 1, 0, none⟩) 9 9] 26)
  replace gK := keepN gK kA
  replace r2 := S.rd_n r2 kA
  have HS := Lib.hid (sum_one bw (S.rd_n hrd kA) rfl (by omega) 300286872 sum_wiki)
  have hcs : ∀ c, (convert 26 9 (.slice A2 15 c)).run Tryz.prog (w7.alloc (.cells #[.slice (some ⟨w5.heap.size + 1, 0, none⟩) 9 9] 26)) = .ok (.string ⟨#[98, 107, 115, 116, 1, 0, 1, 1, 102, 0, 0, 0, 0, 1, 24]⟩) (w7.alloc (.cells #[.slice (some ⟨w5.heap.size + 1, 0, none⟩) 9 9] 26)) := fun c => V.conv_rd (l := [98, 107, 115, 116, 1, 0, 1, 1, 102, 0, 0, 0, 0, 1, 24]) (rd_tk r2 15)
  clear bw kA r2 hrd
  go_wp2_with fail
  refine HS.out.mono ?_
  rintro e w8 ⟨rfl, rfl⟩
  go_wp2
  go_ret
  exact ⟨rfl, gK⟩

end Go.Proofs.YtgifflfjhockaaaGreatDoor.I

namespace Go.Proofs.YtgifflfjhockaaaGreatDoor.I
open Go.RowKit W

theorem own_headI {w : World} {O : Nat → Prop} {A : Option Addr} {n c : Nat} {l : List UInt8} (h : V.OwnB w O (.slice A n c) l) (hn : l.length = n) (h0 : 0 < n) : ∃ g, A = some ⟨g, 0, none⟩ := by
  rcases h.1.2 with ⟨e, e'⟩ | ⟨g, cap, cur, e, _⟩
  · omega
  · cases e; exact ⟨g, rfl⟩
theorem own_cellI {w : World} {O : Nat → Prop} {g n k c : Nat} {l : List UInt8} {x : UInt8} (h : V.OwnB w O (.slice (some ⟨g, 0, none⟩) n c) l) (hk : l[k]? = some x) : w.cell? ⟨g, k, none⟩ = some (.int .u8 (x.toNat : Int)) := by
  have := h.1.cells (g := g) rfl k (V.bv x) (by simp [V.bvs, hk])
  rw [show (⟨g, 0, none⟩ : Addr).add k = ⟨g, k, none⟩ by unfold Addr.add; split <;> simp_all] at this
  exact this
theorem own_frozenI {w : World} {O : Nat → Prop} {g n c : Nat} {l : List UInt8} (h : V.OwnB w O (.slice (some ⟨g, 0, none⟩) n c) l) (hn : l.length = n) (k : Nat) : w.frozen? ⟨g, k, none⟩ = false := by
  subst hn; exact h.1.frozenAt k
theorem own_setI {w : World} {O : Nat → Prop} {g n k c : Nat} {l : List UInt8} {z : Int} {x : UInt8} (h : V.OwnB w O (.slice (some ⟨g, 0, none⟩) n c) l) (hn : l.length = n) (hz : z = (x.toNat : Int)) : V.OwnB (w.setCell ⟨g, k, none⟩ (.int .u8 z)) O (.slice (some ⟨g, 0, none⟩) n c) (l.set k x) := by
  subst hn hz
  refine ⟨?_, h.2⟩
  have h1 := (h.1.stored k (V.bv x)).1
  rw [V.bvs_set] at h1
  simpa using h1
theorem keep_ownI {W : World} {n c g k : Nat} {l : List UInt8} {wb : World} (hk : Keep NoB wb W) (h : V.OwnB W (Fresh wb) (.slice (some ⟨g, 0, none⟩) n c) l) (u : Value) : Keep NoB wb (W.setCell ⟨g, k, none⟩ u) :=
  hk.setCell (fun hl => absurd (h.2 g rfl) (by unfold Fresh; simp at hl; omega)) u
theorem own_rdI {w : World} {O : Nat → Prop} {A : Option Addr} {n c : Nat} {l : List UInt8} (h : V.OwnB w O (.slice A n c) l) : V.Rd w A l := by
  obtain ⟨A', c', e, _, hr, _⟩ := h.form
  cases e; exact hr
theorem made_ownI (w : World) : V.OwnB (w.alloc (.cells #[] 5)) (Fresh w) (.slice (some ⟨w.heap.size, 0, none⟩) 0 0) [] :=
  ⟨World.ownsRow_made (e := 5) (size := 1) (base := 0) w #[] 0 (Nat.zero_le _) (Nat.zero_le _) rfl, fun g e => by simp [Value.ownBlock] at e; subst e; exact Nat.le_refl _⟩
theorem own_appI {w0 w W : World} {v v' : Value} {l r : List UInt8} (hv : V.OwnB w (Fresh w0) v l) (hk : Keep NoB w0 w) (hown : W.ownsRow 0 5 1 v' (l ++ r).length (V.bvs (l ++ r))) (hg : w.grownBy W v.ownBlock) (hat : v'.ownBlock = v.ownBlock ∨ v'.ownBlock = some w.heap.size) :
    V.OwnB W (Fresh w0) v' (l ++ r) ∧ Keep NoB w0 W :=
  ⟨⟨hown, fun g e => by
    rcases hat with h | h
    · rw [h] at e; exact hv.2 g e
    · rw [h] at e; cases e; exact hk.size⟩, hk.grown hg (fun g e h => absurd (hv.2 g e) (by unfold Fresh; omega))⟩
end Go.Proofs.YtgifflfjhockaaaGreatDoor.I

namespace Go.Proofs.YtgifflfjhockaaaGreatDoor.I
open Go.RowKit W

end Go.Proofs.YtgifflfjhockaaaGreatDoor.I

namespace Go.Proofs.YtgifflfjhockaaaGreatDoor.I
open Go.RowKit W

set_option maxRecDepth 100000 in
/-- Bytes appended to bytes that fill their room. -/
theorem wpList_appG {ops : Array Oper} {rest : List Oper} {o : Oper} {a : Act} {Q : Exit → Act → World → Prop} {w w0 : World} (hgd : o.guard = none) (s x : Operand)
    (ho : o.op = .call { callee := .builtin .append, args := #[s, x], argTypes := #[26, 26] })
    (b : Nat) (xs l : List UInt8) (A : Option Addr) (c m n q : Nat) (hs : a.eval s = .slice (some ⟨b, 0, none⟩) m m) (hr0 : V.Rd w (some ⟨b, 0, none⟩) xs) (hm0 : 0 < m) (hK : Keep NoB w0 w) (hx : a.eval x = .slice A n c) (hm : xs.length = m) (hn : l.length = n) (hn0 : 0 < n) (hr : V.Rd w A l)
    (hq : m + n = q) (hb : q ≤ 140737488355328)
    (h : ∀ A' c' w', Hid (V.OwnB w' (Fresh w0) (.slice A' q c') (xs ++ l)) → Hid (Keep NoB w0 w') → q ≤ c' → c' ≤ maxLen → wpList Tryz.prog ops Q rest (a.put o.dst (.slice A' q c')) w') :
    wpList Tryz.prog ops Q (o :: rest) a w := by
  subst hm hn hq
  obtain ⟨i0, hi, hz0, hz1, hz2⟩ := info_parts byte_info
  obtain ⟨ad, rfl, hc⟩ := hr hn0
  obtain ⟨ad0, e0, hc0⟩ := hr0 hm0
  have hone : ∀ u ∈ V.bvs l, u.oneCell' = true := fun u hu => by
    obtain ⟨z, _, rfl⟩ := List.mem_map.1 hu; rfl
  refine wpList_append_grows w hgd s x 26 ho 5 i0 (.int .u8 0) 1 1 Tryz.underlying26 hi hz0 hz1 hz2 rfl (by decide) (some ⟨b, 0, none⟩) xs.length xs.length (V.bvs xs) hs (fun e => by cases e) (by simp) (fun b' e j u hu => by
    rw [e] at e0; injection e0 with e0; subst e0; exact hc0 j u hu) ad l.length c (V.bvs l) hx (by simp) hc hone (by omega) (by unfold maxLen; omega) (by omega) fun v' w' hown hg => ?_
  have hO : V.OwnB w' (Fresh w0) v' (xs ++ l) := by
    have h1 := Own.of_row (O := Fresh w0) hown (fun k hk => Nat.le_trans hK.size hk)
    refine ⟨?_, h1.2⟩
    have h2 := h1.1
    rw [← List.length_append, show V.bvs xs ++ V.bvs l = V.bvs (xs ++ l) by simp [V.bvs]] at h2
    exact h2
  obtain ⟨A', c', e, hcc, _, _, hcm⟩ := hO.form
  subst e
  rw [List.length_append] at hO hcc ⊢
  exact h A' c' w' (Lib.hid hO) (Lib.hid (hK.grown hg (fun g e => by cases e))) hcc hcm
end Go.Proofs.YtgifflfjhockaaaGreatDoor.I

namespace Go.Proofs.YtgifflfjhockaaaGreatDoor.I
open Go.RowKit W

theorem lg_of_sm {w : World} {v : IV} {es : List SE} {fs : List FE} (h : ImAt w v es fs) (hs : SmI es fs) : LgI v es fs := by
  have hx := h.lx
  have hy := h.ly
  exact ⟨by have := hs.ns; omega, by have := hs.nf; omega, fun e he => by have := hs.sh e he; omega, fun e he => (hs.fn e he).lg⟩
theorem same_self (p : Im) : sameI p p = true := by unfold sameI; simp
/-- What lies in memory ahead of the law's region. -/
structure IB (W : World) (b0 b1 b2 b3 : Nat) (v o x y : IV) (es eo ex ey : List SE) (fs fo fx fy : List FE) (B RA P Q : Option Addr) (b xs : List UInt8) : Prop where
  k0 : Blk W b0 25 v.cells
  k1 : Blk W b1 25 o.cells
  k2 : Blk W b2 25 x.cells
  k3 : Blk W b3 25 y.cells
  i0 : ImAt W v es fs
  i1 : ImAt W o eo fo
  i2 : ImAt W x ex fx
  i3 : ImAt W y ey fy
  rb : V.Rd W B b
  rr : V.Rd W RA b
  rp : V.Rd W P xs
  rq : V.Rd W Q xs
theorem IB.keepN {W W' : World} {b0 b1 b2 b3 : Nat} {v o x y : IV} {es eo ex ey : List SE} {fs fo fx fy : List FE} {B RA P Q : Option Addr} {b xs : List UInt8} (h : IB W b0 b1 b2 b3 v o x y es eo ex ey fs fo fx fy B RA P Q b xs) (hk : Keep NoB W W') : IB W' b0 b1 b2 b3 v o x y es eo ex ey fs fo fx fy B RA P Q b xs :=
  ⟨h.k0.keep hk id, h.k1.keep hk id, h.k2.keep hk id, h.k3.keep hk id, h.i0.keepN hk, h.i1.keepN hk, h.i2.keepN hk, h.i3.keepN hk, S.rd_n h.rb hk, S.rd_n h.rr hk, S.rd_n h.rp hk, S.rd_n h.rq hk⟩
end Go.Proofs.YtgifflfjhockaaaGreatDoor.I

namespace Go.Proofs.YtgifflfjhockaaaGreatDoor.I
open Go.RowKit W

/-- A row's block is of its type. -/
theorem row_not {W : World} {sz k : Nat} {E F : TypeId} {P : Nat → Prop} {v : Value} {xs : List Value} (hrow : Own W E sz P v k xs) (h : F ≠ E) : ∀ j, v.ownBlock = some j → ∀ cs f, W.heap[j]? ≠ some (.cells cs F f) := fun j e cs f h3 => by
  rcases hrow.1.2 with ⟨rfl, _⟩ | ⟨g2, cap, cur, rfl, _, hh, _⟩
  · simp [Value.ownBlock] at e
  · obtain rfl : g2 = j := by simpa [Value.ownBlock] using e
    rw [hh] at h3
    cases h3
    exact h rfl
/-- A row that is owned, with more behind it. -/
theorem row_more {w W W5 : World} {E sz k m : Nat} {v v' : Value} {xs ys : List Value} (hrow : Own W E sz (Fresh w) v k xs) (hk : Keep NoB w W) (hg : W.grownBy W5 v.ownBlock) (hrow5 : W5.ownsRow 0 E sz v' m ys) (hv5 : v'.ownBlock = v.ownBlock ∨ v'.ownBlock = some W.heap.size) :
    Own W5 E sz (Fresh w) v' m ys ∧ Keep NoB w W5 ∧ Keep (fun j => v.ownBlock = some j) W W5 := by
  have hk5 : Keep (fun j => v.ownBlock = some j) W W5 := (Keep.refl _ W).grown hg (fun j e _ => e)
  refine ⟨⟨hrow5, fun j e => ?_⟩, hk.trans hk5 (fun j e hl => ?_), hk5⟩
  · rcases hv5 with h | h
    · exact hrow.2 j (h ▸ e)
    · rw [h] at e; cases e; exact hk.size
  · have := hrow.2 j e
    unfold Fresh at this
    omega

end Go.Proofs.YtgifflfjhockaaaGreatDoor.I

namespace Go.Proofs.YtgifflfjhockaaaGreatDoor.I
open Go.RowKit W

/-- A signature lies in memory. -/
structure GAt (W : World) (e : GE) : Prop where
  a : Rd W e.1.1.A (ivs e.1.2)
  b : Rd W e.2.1.A (ivs e.2.2)
  la : e.1.2.length = e.1.1.n
  lb : e.2.2.length = e.2.1.n
theorem GAt.keepN {W W' : World} {e : GE} (h : GAt W e) (hk : Keep NoB W W') : GAt W' e := ⟨h.a.keepN hk, h.b.keepN hk, h.la, h.lb⟩
end Go.Proofs.YtgifflfjhockaaaGreatDoor.I

namespace Go.Proofs.YtgifflfjhockaaaGreatDoor.F
open Go.RowKit W

/-- A row whose every size-th cell is a number, in a block from lo on. -/
def WipeR (E size : Nat) (A : Option Addr) (m lo : Nat) (w : World) : Prop := 0 < m → ∃ g, A = some ⟨g, 0, none⟩ ∧ lo ≤ g ∧ ∃ cur, Blk w g E cur ∧ ∀ j, j < m → ∃ t : Int, cur[j * size]? = some (.int .i64 t)
theorem WipeR.keep {E size m lo : Nat} {A : Option Addr} {w w' : World} {O : Nat → Prop} (h : WipeR E size A m lo w) (hk : Keep O w w') (hO : ∀ k, lo ≤ k → k < w.heap.size → ¬ O k) : WipeR E size A m lo w' := fun hm => by
  obtain ⟨g, e, h1, cur, hb, hc⟩ := h hm
  exact ⟨g, e, h1, cur, hb.keep hk (hO g h1 hb.lt), hc⟩
theorem WipeR.put {E size m lo g i : Nat} {A : Option Addr} {w : World} (h : WipeR E size A m lo w) (z : Int) : WipeR E size A m lo (w.setCell ⟨g, i, none⟩ (.int .i64 z)) := fun hm => by
  obtain ⟨g', e, h1, cur, hb, hc⟩ := h hm
  by_cases hg : g' = g
  · subst hg
    refine ⟨g', e, h1, _, hb.put i _, fun j hj => ?_⟩
    obtain ⟨t, ht⟩ := hc j hj
    have hsz := (Array.getElem?_eq_some_iff.1 ht).1
    by_cases ej : i = j * size
    · subst ej; exact ⟨z, by simp [hsz]⟩
    · exact ⟨t, by rw [Array.getElem?_setIfInBounds, if_neg ej]; exact ht⟩
  · exact ⟨g', e, h1, cur, hb.far (p := ⟨g, i, none⟩) hg _, hc⟩
/-- A function's lists may be written. -/
structure SpF (lo : Nat) (v : FV) (w : World) : Prop where
  a : WipeR 3 1 v.A v.na lo w
  b : WipeR 3 1 v.B v.nb lo w
  l : WipeR 3 1 v.L v.nl lo w
  d : WipeR 63 3 v.D v.nd lo w
theorem SpF.keep {w w' : World} {O : Nat → Prop} {v : FV} {lo : Nat} (h : SpF lo v w) (hk : Keep O w w') (hO : ∀ k, lo ≤ k → k < w.heap.size → ¬ O k) : SpF lo v w' := ⟨h.a.keep hk hO, h.b.keep hk hO, h.l.keep hk hO, h.d.keep hk hO⟩
structure SpI (lo : Nat) (w0 : World) (x : Nat) (v : FV) (wr : World) : Prop where
  sp : SpF lo v wr
  keep : Keep (fun k => lo ≤ k) w0 wr
  box : Blk wr x 61 v.cells
theorem SpI.put {lo x g i E : Nat} {w0 wr : World} {v : FV} {cur : Array Value} (h : SpI lo w0 x v wr) (hg : lo ≤ g) (hb : Blk wr g E cur) (hE : 61 ≠ E) (z : Int) : SpI lo w0 x v (wr.setCell ⟨g, i, none⟩ (.int .i64 z)) :=
  ⟨⟨h.sp.a.put z, h.sp.b.put z, h.sp.l.put z, h.sp.d.put z⟩, h.keep.setCell (p := ⟨g, i, none⟩) (fun _ => hg) _, h.box.far (p := ⟨g, i, none⟩) (h.box.ne hb hE) _⟩

end Go.Proofs.YtgifflfjhockaaaGreatDoor.F

namespace Go.Proofs.YtgifflfjhockaaaGreatDoor.I
open Go.RowKit W

/-- What may be written over, and what stays ahead of it. -/
structure SpQ (w0 W : World) (gc gd : Nat) (X : Option Addr) (n cx : Nat) (N : Int) (gs : List GE) (d : IV) (es : List SE) (fs : List FE) : Prop where
  kp : Keep (fun k => w0.heap.size ≤ k) w0 W
  bc : Blk W gc 52 #[.slice X n cx, .int .i64 N]
  bd : Blk W gd 25 d.cells
  rc : Own W 57 2 (fun k => w0.heap.size ≤ k) (.slice X n cx) n (gvs gs)
  rs : Own W 58 1 (fun k => w0.heap.size ≤ k) (.slice d.X d.nx d.cx) d.nx (svs es)
  rf : Own W 61 5 (fun k => w0.heap.size ≤ k) (.slice d.Y d.ny d.cy) d.ny (fvs fs)
  wc : ∀ e ∈ gs, F.WipeR 3 1 e.1.1.A e.1.1.n w0.heap.size W
  ws : ∀ e ∈ es, F.WipeR 3 1 e.1.A e.1.n w0.heap.size W
  wf : ∀ e ∈ fs, F.WipeR 63 3 e.1.D e.1.nd w0.heap.size W
theorem SpQ.put {w0 W : World} {gc gd g E n cx : Nat} {X : Option Addr} {N : Int} {gs : List GE} {d : IV} {es : List SE} {fs : List FE} {cur : Array Value} (h : SpQ w0 W gc gd X n cx N gs d es fs) (hg : w0.heap.size ≤ g) (hb : Blk W g E cur) (hE : E = 3 ∨ E = 63) (i : Nat) (z : Int) :
    SpQ w0 (W.setCell ⟨g, i, none⟩ (.int .i64 z)) gc gd X n cx N gs d es fs := by
  have kk : Keep (fun j => j = g) W (W.setCell ⟨g, i, none⟩ (.int .i64 z)) := (Keep.refl (fun j => j = g) W).setCell (p := ⟨g, i, none⟩) (fun _ => rfl) _
  have hot : ∀ T : TypeId, T ≠ 3 → T ≠ 63 → ∀ k, k = g → ∀ cs f, W.heap[k]? ≠ some (.cells cs T f) := fun T h1 h2 k hk cs f h3 => by
    subst hk
    rw [show W.heap[k]? = _ from hb] at h3
    cases h3
    exact hE.elim h1 h2
  exact ⟨h.kp.setCell (p := ⟨g, i, none⟩) (fun _ => hg) _, blk_other h.bc kk (hot _ (by decide) (by decide)), blk_other h.bd kk (hot _ (by decide) (by decide)), own_other h.rc kk (hot _ (by decide) (by decide)), own_other h.rs kk (hot _ (by decide) (by decide)), own_other h.rf kk (hot _ (by decide) (by decide)),
    fun e he => (h.wc e he).put z, fun e he => (h.ws e he).put z, fun e he => (h.wf e he).put z⟩
/-- What lies in memory ahead of what is answered. -/
structure IAs (W : World) (b0 b1 b2 : Nat) (v u o : IV) (es gs eo : List SE) (fs hs fo : List FE) : Prop where
  k0 : Blk W b0 25 v.cells
  k1 : Blk W b1 25 u.cells
  k2 : Blk W b2 25 o.cells
  i0 : ImAt W v es fs
  i1 : ImAt W u gs hs
  i2 : ImAt W o eo fo
theorem IAs.keep {W W' : World} {O : Nat → Prop} {b0 b1 b2 : Nat} {v u o : IV} {es gs eo : List SE} {fs hs fo : List FE} (h : IAs W b0 b1 b2 v u o es gs eo fs hs fo) (hk : Keep O W W') (hO : ∀ k, k < W.heap.size → ¬ O k) : IAs W' b0 b1 b2 v u o es gs eo fs hs fo :=
  ⟨h.k0.keep hk (hO _ h.k0.lt), h.k1.keep hk (hO _ h.k1.lt), h.k2.keep hk (hO _ h.k2.lt), h.i0.keep hk hO, h.i1.keep hk hO, h.i2.keep hk hO⟩
end Go.Proofs.YtgifflfjhockaaaGreatDoor.I

namespace Go.Proofs.YtgifflfjhockaaaGreatDoor.I
open Go.RowKit W

def fA : F.Fu := oneF ⟨#[97]⟩
def fB : F.Fu := oneF ⟨#[98]⟩
def twoI : Im := ⟨[[1, 2], [3]], [fA, fB]⟩
/-- The names of many functions. -/
def nmS (j : Nat) : ByteArray := ⟨#[102, UInt8.ofNat (48 + j / 10), UInt8.ofNat (48 + j % 10)]⟩
def fnL (n : Nat) : List F.Fu := (List.range n).map fun j => oneF (nmS j)
def twoB : List UInt8 := [98, 107, 115, 116, 1, 2, 2, 4, 1, 2, 2, 1, 97, 0, 0, 0, 0, 1, 24, 1, 98, 0, 0, 0, 0, 1, 24, 53, 241, 2, 186]
def turnB : List UInt8 := [98, 107, 115, 116, 1, 2, 3, 4, 1, 2, 2, 1, 97, 0, 0, 0, 0, 1, 24, 1, 98, 0, 0, 0, 0, 1, 24, 53, 241, 2, 186]
theorem enc_two : encI twoI = twoB := by decide +kernel
theorem ok_two : okI twoI = true := by decide +kernel
theorem dec_two : decI twoB = (twoI, 0) := by rw [← enc_two, encI_ok ok_two]; exact decI_enc ok_two
theorem dec_turn : decI turnB = (nilI, 82) := decI_2 rfl (.inr (by decide +kernel))
theorem dec_cut : decI (twoB.take 30) = (nilI, 82) := decI_2 rfl (.inr (by decide +kernel))
theorem dec_x : decI (120 :: twoB) = (nilI, 81) := decI_1 (by decide)
theorem bad_0 : okI ⟨[], []⟩ = false := by decide +kernel
theorem bad_1 : okI ⟨[], [fA, fA]⟩ = false := by decide +kernel
theorem bad_2 : okI ⟨[[4]], [fA]⟩ = false := by decide +kernel
theorem bad_3 : okI ⟨[], [⟨[97], [], [], [], []⟩]⟩ = false := by decide +kernel
theorem bad_4 : okI ⟨[[1, 2], [3]], []⟩ = false := by decide +kernel
theorem bad_5 (l : List (List Int)) (f : List F.Fu) (h : l.length = 65) : okI ⟨l, f⟩ = false := okI_not (fun hh => by have := hh.1.1; dsimp only at this; omega)
theorem bad_6 (l : List (List Int)) (f : List F.Fu) (h : f.length = 65) : okI ⟨l, f⟩ = false := okI_not (fun hh => by have := hh.1.2.1.2; dsimp only at this; omega)
theorem ok_most : okI ⟨List.replicate 64 [1], fnL 64⟩ = true := by decide +kernel
theorem same_one : sameI twoI ⟨[], [fA]⟩ = false := by decide +kernel
/-- The strings that are no image's. -/
def noneL : List (List UInt8) := [[], [0], [0, 0], [65], [1, 1, 3, 1, 1, 102, 0, 0, 0, 0, 1, 24], [0, 1, 1, 102, 0, 0, 0, 0, 1, 24, 0], [0, 2, 1, 102, 0, 0, 0, 0, 1, 24, 1, 102, 0, 0, 0, 0, 1, 24], [0, 1, 1, 102, 0, 0, 0, 0, 1, 0]]
theorem none_op : noneL.all (fun s => (opI s).isNone) = true := by decide +kernel
theorem none_dec {s : List UInt8} (h : s ∈ noneL) : decI ((magicL ++ s) ++ four (sumN (magicL ++ s))) = (nilI, 80) := by
  have h1 : opI s = none := by simpa using List.all_eq_true.1 none_op s h
  have hl : ((magicL ++ s) ++ four (sumN (magicL ++ s))).length = (magicL ++ s).length + 4 := by rw [List.length_append, four_length]
  have h5 : (magicL ++ s).length = 5 + s.length := by rw [List.length_append]; rfl
  have ht : ((magicL ++ s) ++ four (sumN (magicL ++ s))).take (((magicL ++ s) ++ four (sumN (magicL ++ s))).length - 4) = magicL ++ s := by rw [hl, Nat.add_sub_cancel]; exact List.take_left' rfl
  have hd : ((magicL ++ s) ++ four (sumN (magicL ++ s))).drop (((magicL ++ s) ++ four (sumN (magicL ++ s))).length - 4) = four (sumN (magicL ++ s)) := by rw [hl, Nat.add_sub_cancel]; exact List.drop_left' rfl
  refine decI_3 (by rw [List.append_assoc]; exact List.take_left' rfl) (by omega) (by rw [hd, ht]) ?_
  rw [ht]
  have : (magicL ++ s).drop 5 = s := List.drop_left' rfl
  rw [this]; exact h1
theorem none_len {s : List UInt8} (h : s ∈ noneL) : s.length ≤ 100 := by
  have : noneL.all (fun s => decide (s.length ≤ 100)) = true := by decide
  simpa using List.all_eq_true.1 this s h

/-- Bytes at the head of a block that has room for c. -/
structure CvB (W : World) (g : Nat) (l : List UInt8) (c : Nat) : Prop where
  le : l.length ≤ c
  max : c ≤ maxLen
  rd : V.Rd W (some ⟨g, 0, none⟩) l
  sp : ∀ j, j < c → (W.cell? ⟨g, j, none⟩).isSome = true ∧ W.frozen? ⟨g, j, none⟩ = false
  lt : g < W.heap.size
theorem CvB.keep {W W' : World} {g c : Nat} {l : List UInt8} (h : CvB W g l c) (hk : Keep NoB W W') : CvB W' g l c := by
  have hh := hk.block g h.lt id
  exact ⟨h.le, h.max, S.rd_n h.rd hk, fun j hj => ⟨by rw [World.cell?_of_block (a := ⟨g, j, none⟩) hh]; exact (h.sp j hj).1, by rw [World.frozen?_of_block (a := ⟨g, j, none⟩) hh]; exact (h.sp j hj).2⟩, Nat.lt_of_lt_of_le h.lt hk.size⟩
theorem conv_bytes (w : World) (l : List UInt8) (hl : l.length ≤ 1000) : ∃ w' c, (convert 9 26 (.string (V.str l))).run Tryz.prog w = .ok (.slice (some ⟨w.heap.size, 0, none⟩) l.length c) w' ∧ CvB w' w.heap.size l c ∧ Keep NoB w w' := by
  have h := run_bytes_of_string w 9 26 5 (V.str l) Tryz.underlying9 Tryz.underlying26 Tryz.underlying5
  have hs : (V.str l).size = l.length := by simp [ByteArray.size]
  have hge := grownCap_ge w (V.str l).size 0 5
  have hcm : grownCap w (V.str l).size 0 5 ≤ maxLen := grownCap_le_maxLen w _ 0 _ (by rw [hs]; unfold maxLen; omega)
  have hbs : (bytesRow (V.str l) (grownCap w (V.str l).size 0 5)).size = grownCap w (V.str l).size 0 5 := by
    unfold bytesRow
    rw [Array.size_append, Array.size_map, Array.size_replicate]
    show (V.str l).data.size + _ = _
    have : (V.str l).data.size = (V.str l).size := rfl
    omega
  refine ⟨_, _, h, ⟨by rw [← hs]; exact hge, hcm, F.rd_mark w.drew l _ _ ?_, fun j hj => ⟨?_, ?_⟩, by simp⟩, ((Keep.refl NoB w).drew).alloc _⟩
  · intro j u hu
    obtain ⟨hj, rfl⟩ := List.getElem?_eq_some_iff.1 hu
    rw [bytesRow_at (V.str l) _ j (by simpa using hj)]
    simp
  · rw [show w.heap.size = w.drew.heap.size from rfl, World.cell?_alloc_mark]
    exact Option.isSome_iff_exists.2 ⟨_, Array.getElem?_eq_getElem (by rw [hbs]; exact hj)⟩
  · rw [show w.heap.size = w.drew.heap.size from rfl, World.frozen?_alloc_mark, hbs]
    simp only [Bool.and_eq_false_imp, decide_eq_true_eq, decide_eq_false_iff_not]
    intro h2
    omega
theorem keep_setCells (g : Nat) : ∀ (vs : List Value) (o : Nat) (W : World), Keep (fun k => k = g) W (W.setCells g o vs)
  | [], _, W => Keep.refl _ W
  | v :: r, o, W => ((Keep.refl (fun k => k = g) W).setCell (p := ⟨g, o, none⟩) (fun _ => rfl) v).trans (keep_setCells g r (o + 1) _) (fun _ h _ => h)

set_option maxRecDepth 100000 in
/-- Bytes appended to bytes at the head of a block that has room. -/
theorem wpList_appC {ops : Array Oper} {rest : List Oper} {o : Oper} {a : Act} {Q : Exit → Act → World → Prop} {w w0 : World} (hgd : o.guard = none) (s x : Operand)
    (ho : o.op = .call { callee := .builtin .append, args := #[s, x], argTypes := #[26, 26] })
    (g : Nat) (xs l : List UInt8) (ad : Addr) (cap c m n : Nat) (hs : a.eval s = .slice (some ⟨g, 0, none⟩) m cap) (hcv : CvB w g xs cap) (hg0 : w0.heap.size ≤ g) (hK : Keep NoB w0 w) (hx : a.eval x = .slice (some ad) n c) (hm : xs.length = m) (hn : l.length = n) (hr : ∀ j u, (V.bvs l)[j]? = some u → w.cell? (ad.add j) = some u)
    (hb : m + n ≤ 1000000)
    (h : ∀ A' c' w', V.Rd w' A' (xs ++ l) → Keep NoB w0 w' → m + n ≤ c' → c' ≤ maxLen → wpList Tryz.prog ops Q rest (a.put o.dst (.slice A' (m + n) c')) w') :
    wpList Tryz.prog ops Q (o :: rest) a w := by
  subst hm hn
  obtain ⟨i0, hi, hz0, hz1, hz2⟩ := info_parts byte_info
  have hone : ∀ u ∈ V.bvs l, u.oneCell' = true := fun u hu => by
    obtain ⟨z, _, rfl⟩ := List.mem_map.1 hu; rfl
  have hsp : ∀ j, j < cap → (w.cell? ⟨g, 0 + j, none⟩).isSome = true ∧ w.frozen? ⟨g, 0 + j, none⟩ = false := fun j hj => by rw [Nat.zero_add]; exact hcv.sp j hj
  refine wpList_append_arg w hgd s x 26 ho 5 i0 (.int .u8 0) 1 1 Tryz.underlying26 hi hz0 hz1 hz2 rfl (by decide) g 0 xs.length cap (V.bvs xs) hs (by simp) (fun j u hu => by
      obtain ⟨a1, e1, hc1⟩ := hcv.rd (by have := (List.getElem?_eq_some_iff.1 hu).1; simp at this; omega)
      cases e1
      have := hc1 j u hu
      rwa [show (⟨g, 0, none⟩ : Addr).add j = ⟨g, 0 + j, none⟩ by unfold Addr.add; by_cases hj : j = 0 <;> simp [hj]] at this)
    ad l.length c (V.bvs l) hx (by simp) hr hone (fun hr1 j hj => by
      have hj2 : j < l.length := by simpa using hj
      have := hsp (xs.length + j) (by omega)
      rwa [show 0 + (xs.length + j) = 0 + xs.length * 1 + j by omega] at this) (by unfold maxLen; omega) (by omega) (fun hr1 => ?_) (fun hr1 v' w' hown hg => ?_)
  · have hk : Keep (fun k => k = g) w (w.setCells g (0 + xs.length * 1) (V.bvs l)) := keep_setCells g _ _ _
    refine h _ _ _ (fun h0 => ⟨_, rfl, fun j u hu => ?_⟩) (hK.trans hk (fun k e hl => by omega)) hr1 hcv.max
    have e1 : (⟨g, 0, none⟩ : Addr).add j = ⟨g, j, none⟩ := by unfold Addr.add; by_cases hj : j = 0 <;> simp [hj]
    rw [e1]
    by_cases hj : j < xs.length
    · rw [World.cell?_setCells_out g _ _ _ _ (fun _ _ => .inl (by show j < _; omega))]
      obtain ⟨a1, ea, hc1⟩ := hcv.rd (by omega)
      cases ea
      have := hc1 j u (by rw [← hu, show V.bvs (xs ++ l) = V.bvs xs ++ V.bvs l by simp [V.bvs], List.getElem?_append_left (by simpa using hj)])
      rwa [e1] at this
    · obtain ⟨d, rfl⟩ : ∃ d, j = xs.length + d := ⟨j - xs.length, by omega⟩
      have hu2 : (V.bvs l)[d]? = some u := by rw [← hu, show V.bvs (xs ++ l) = V.bvs xs ++ V.bvs l by simp [V.bvs], List.getElem?_append_right (by simp)]; simp
      obtain ⟨hd, rfl⟩ := List.getElem?_eq_some_iff.1 hu2
      have := World.cell?_setCells_in g (V.bvs l) (0 + xs.length * 1) w (fun j hj => by
        have hj2 : j < l.length := by simpa using hj
        have := (hsp (xs.length + j) (by omega)).1
        rwa [show 0 + (xs.length + j) = 0 + xs.length * 1 + j by omega] at this) d hd
      rw [show xs.length + d = 0 + xs.length * 1 + d by omega]
      exact this
  · have hO : Own w' 5 1 (Fresh w) v' (xs.length + l.length) (V.bvs xs ++ V.bvs l) := Own.of_row hown (fun k hk => hk)
    obtain ⟨A', c', rfl, hcc, hcm, hr9, _⟩ := hO.form
    have hr8 : V.Rd w' A' (xs ++ l) := by
      intro h0
      obtain ⟨g9, o9, e9, h9⟩ := hr9 (by simpa using h0)
      refine ⟨_, e9, fun j u hu => ?_⟩
      have := h9 j u (by rw [← hu]; simp [V.bvs])
      rw [← this]
      congr 1
      unfold Addr.add
      by_cases hj : j = 0 <;> simp [hj]
    exact h A' c' w' hr8 (hK.grown hg (fun g e => by cases e)) hcc hcm

set_option maxRecDepth 100000 in
set_option maxHeartbeats 2000000 in
theorem sealed_any (S : ByteArray) (s : List UInt8) (w : World) (hS : S = V.str s) (hn : s.length ≤ 100) :
    Calls Tryz.prog 30 #[.string S] w fun e w' => ∃ A n c, e = .returned (.slice A n c) ∧ n = ((magicL ++ s) ++ four (sumN (magicL ++ s))).length ∧ V.Rd w' A ((magicL ++ s) ++ four (sumN (magicL ++ s))) ∧ n ≤ c ∧ c ≤ maxLen ∧ Keep NoB w w' := by
  have hsz : S.size = s.length := by rw [hS]; simp [ByteArray.size]
  have hcat : (⟨#[98, 107, 115, 116, 1]⟩ : ByteArray) ++ S = V.str (magicL ++ s) := by
    rw [hS]
    apply ByteArray.ext
    simp [V.str, magicL]
  have hl5 : (magicL ++ s).length = 5 + s.length := by rw [List.length_append]; rfl
  obtain ⟨w1, c1, hcv, hC, hk1⟩ := conv_bytes w (magicL ++ s) (by omega)
  rw [← hcat] at hcv
  have HN : Hid ((magicL ++ s).length = 5 + s.length) := hl5
  rw [hl5] at hcv
  have hR := sumN_lt (magicL ++ s)
  have HC := Lib.hid (And.intro hC hk1)
  obtain ⟨n, hnn⟩ : ∃ n, S.size = n := ⟨_, rfl⟩
  have hn2 : s.length = n := by omega
  rw [hn2] at hcv hn HN
  obtain ⟨R, hRR⟩ : ∃ R, sumN (magicL ++ s) = R := ⟨_, rfl⟩
  rw [hRR] at hR ⊢
  have HR := Lib.hid hRR
  have HL : Hid (((magicL ++ s) ++ four R).length = 5 + n + 4) := by show _ = _; rw [List.length_append, four_length, HN.out]
  clear hl5 hC hk1 hRR hn2 hsz hS hcat
  generalize magicL ++ s = ms at *
  go_enter Tryz.func30, Tryz.ntmps30
  go_wp2_with fail
  have bw := Blk.new w1 26 #[.slice (some ⟨w.heap.size, 0, none⟩) (5 + n) c1]
  have kA := (Keep.refl NoB w1).alloc (.cells #[.slice (some ⟨w.heap.size, 0, none⟩) (5 + n) c1] 26)
  have hCA := HC.out.1.keep kA
  have HSU := Lib.hid (sum_one bw hCA.rd HN.out (by omega) R HR.out)
  have HK2 := Lib.hid (And.intro hCA (keepN HC.out.2 kA))
  clear bw kA hCA HC
  refine HSU.out.mono ?_
  rintro e w2 ⟨rfl, rfl⟩
  generalize w1.alloc (.cells #[.slice (some ⟨w.heap.size, 0, none⟩) (5 + n) c1] 26) = w2 at *
  have hO := made_four (w := w2) R hR
  have kB := (Keep.refl NoB w2).alloc (.cells #[Value.int .u8 ((R : Int) / 16777216), Value.int .u8 ((R : Int) / 65536 % 256), Value.int .u8 ((R : Int) / 256 % 256), Value.int .u8 ((R : Int) % 256)] 5)
  have HC3 := Lib.hid (And.intro (HK2.out.1.keep kB) (keepN HK2.out.2 kB))
  have HRD : Hid (∀ j u, (V.bvs (four R))[j]? = some u → (w2.alloc (.cells #[Value.int .u8 ((R : Int) / 16777216), Value.int .u8 ((R : Int) / 65536 % 256), Value.int .u8 ((R : Int) / 256 % 256), Value.int .u8 ((R : Int) % 256)] 5)).cell? ((⟨w2.heap.size, 0, none⟩ : Addr).add j) = some u) := fun j u hu => by
    obtain ⟨A', c', e, _, hr, _⟩ := hO.form
    cases e
    obtain ⟨a1, e1, h1⟩ := hr (by rw [four_length]; omega)
    cases e1
    exact h1 j u hu
  clear hO kB HK2 HSU
  go_wp2_with (at_builtin; refine wpList_appC (w0 := w) rfl (.tmp 11) (.tmp 23) rfl w.heap.size ms (four R) ⟨w2.heap.size, 0, none⟩ c1 4 (5 + n) 4 rfl HC3.out.1 (Nat.le_refl _) HC3.out.2 rfl HN.out (four_length R) HRD.out (by omega) ?_; intro A5 c5 w5 hr5 hk5 hc5 hm5)
  go_ret
  exact ⟨_, _, _, rfl, HL.out.symm, hr5, hc5, hm5, hk5⟩

end Go.Proofs.YtgifflfjhockaaaGreatDoor.I

namespace Go.Proofs.YtgifflfjhockaaaGreatDoor.I
open Go.RowKit W

/-- Two functions of two images, one behind the other. -/
theorem app_ones {w w5 w6 : World} {mA mB c' : Nat} {A' : Option Addr} {Sa Sb : ByteArray} (hA : OwnIm w5 (Fresh w) (oneI mA) [] [(oneV mA Sa, oneF Sa)]) (hB : OwnIm w5 (Fresh w) (oneI mB) [] [(oneV mB Sb, oneF Sb)]) (hK : Keep NoB w w5)
    (hrow : w6.ownsRow 0 61 5 (.slice A' 2 c') 2 (fvs [(oneV mA Sa, oneF Sa)] ++ fvs [(oneV mB Sb, oneF Sb)])) (hg : w5.grownBy w6 (Value.slice (some ⟨mA + 1 + 1, 0, none⟩) 1 1).ownBlock) (hv : (Value.slice A' 2 c').ownBlock = (Value.slice (some ⟨mA + 1 + 1, 0, none⟩) 1 1).ownBlock ∨ (Value.slice A' 2 c').ownBlock = some w5.heap.size) :
    Own w6 61 5 (Fresh w) (.slice A' 2 c') 2 (fvs [(oneV mA Sa, oneF Sa), (oneV mB Sb, oneF Sb)]) ∧ (∀ e ∈ [((oneV mA Sa, oneF Sa) : FE), (oneV mB Sb, oneF Sb)], F.OwnF w6 (Fresh w) e.1 e.2) ∧ Keep NoB w w6 ∧ Keep (fun j => j = mA + 1 + 1) w5 w6 := by
  obtain ⟨m1, m2, m3⟩ := row_more hA.oy hK hg hrow hv
  have m4 : Keep (fun j => j = mA + 1 + 1) w5 w6 := m3.mono (fun k e _ => by injection e with e; exact e.symm)
  refine ⟨by rw [← fvs_append] at m1; exact m1, fun e he => ?_, m2, m4⟩
  have hn : ∀ T : TypeId, T ≠ 61 → ∀ j, (Value.slice (some ⟨mA + 1 + 1, 0, none⟩) 1 1).ownBlock = some j → ∀ cs f, w5.heap[j]? ≠ some (.cells cs T f) := fun T hT => row_not hA.oy hT
  simp only [List.mem_cons, List.not_mem_nil, or_false] at he
  rcases he with rfl | rfl
  · exact ownF_other (hA.hf _ (List.mem_singleton.2 rfl)) m3 (hn _ (by decide)) (hn _ (by decide))
  · exact ownF_other (hB.hf _ (List.mem_singleton.2 rfl)) m3 (hn _ (by decide)) (hn _ (by decide))
/-- An image in a variable, all of whose blocks lie below hi. -/
structure GI (W : World) (hi g : Nat) (p : Im) (v : IV) (es : List SE) (fs : List FE) : Prop where
  b : Blk W g 25 v.cells
  lt : g < hi
  o : OwnIm W (fun k => k < hi) v es fs
  e : imOf es fs = p
theorem GI.keep {W W' : World} {hi g : Nat} {p : Im} {v : IV} {es : List SE} {fs : List FE} (h : GI W hi g p v es fs) {O : Nat → Prop} (hk : Keep O W W') (hO : ∀ k, k < hi → ¬ O k) : GI W' hi g p v es fs :=
  ⟨h.b.keep hk (hO _ h.lt), h.lt, h.o.keep hk hO, h.e⟩
theorem GI.mono {W : World} {hi hi' g : Nat} {p : Im} {v : IV} {es : List SE} {fs : List FE} (h : GI W hi g p v es fs) (hh : hi ≤ hi') : GI W hi' g p v es fs :=
  ⟨h.b, Nat.lt_of_lt_of_le h.lt hh, h.o.mono (fun _ hk _ => Nat.lt_of_lt_of_le hk hh), h.e⟩
/-- An image that is no greater than statements go through. -/
def smB (p : Im) : Bool := decide (p.sh.length ≤ 70) && (decide (p.fn.length ≤ 70) && (p.sh.all (fun l => decide (l.length ≤ 100)) && p.fn.all fun f => decide (f.nm.length ≤ 100) && (decide (f.ar.length ≤ 100) && (decide (f.rs.length ≤ 100) && (decide (f.lc.length ≤ 100) && decide (f.bd.length ≤ 600))))))
theorem sm_of_im {w : World} {v : IV} {es : List SE} {fs : List FE} {p : Im} (h : ImAt w v es fs) (he : imOf es fs = p) (hb : smB p = true) : SmI es fs := by
  subst he
  unfold smB at hb
  simp only [Bool.and_eq_true, decide_eq_true_eq, List.all_eq_true] at hb
  obtain ⟨h1, h2, h3, h4⟩ := hb
  refine ⟨by simpa [imOf] using h1, by simpa [imOf] using h2, fun e he => ?_, fun e he => ?_⟩
  · have a := h3 e.2 (List.mem_map.2 ⟨e, he, rfl⟩)
    have b := (h.hs e he).2
    omega
  · obtain ⟨a1, a2, a3, a4, a5⟩ := h4 e.2 (List.mem_map.2 ⟨e, he, rfl⟩)
    have b := h.hf e he
    have e0 := F.sz_len b.nm
    have := b.la
    have := b.lb
    have := b.ll
    have := b.ld
    exact ⟨by omega, by omega, by omega, by omega, by omega⟩
theorem run_field_img (a a' : Option Addr) (n c n' c' : Nat) (W : World) : (Instr.field 25 (.agg #[.slice a n c, .slice a' n' c']) 1).run Tryz.prog W = .ok (.slice a' n' c') W := by
  kernel_rfl
/-- A row that fills its block. -/
theorem own_full {w : World} {E sz n g : Nat} {P : Nat → Prop} {xs : List Value} (h : Own w E sz P (.slice (some ⟨g, 0, none⟩) n n) n xs) : Blk w g E xs.toArray := by
  rcases h.1.2 with ⟨e, _⟩ | ⟨g2, cap, cur, e, _, hh, _, _, hs, ht⟩
  · cases e
  · injection e with e1 e2 e3
    injection e1 with e1
    injection e1 with e1 _ _
    subst e1 e3
    rw [List.take_of_length_le (by simpa using Nat.le_of_eq hs)] at ht
    subst ht
    rw [Array.toArray_toList]
    exact hh
theorem own_lt {w : World} {E sz n g c : Nat} {o : Nat} {P : Nat → Prop} {xs : List Value} (h : Own w E sz P (.slice (some ⟨g, o, none⟩) n c) n xs) : g < w.heap.size := (h.1.lt g rfl).2
theorem made_nil (n : Nat) : (madeCells #[Value.slice none 0 0] n).toList = List.replicate n (.slice none 0 0) := by
  simp [madeCells, Nat.mod_one]
  rw [List.map_const', List.length_range]
/-- What a round of the first loop leaves. -/
structure MnS (W8 W : World) (s i : Nat) (A : Option Addr) (c : Nat) (es : List SE) (fs : List FE) : Prop where
  hb : Blk W (s + 1) 25 #[.slice (some ⟨s, 0, none⟩) 65 65, .slice A i c]
  hs : Blk W s 58 (svs es ++ List.replicate (65 - i) (Value.slice none 0 0)).toArray
  he : (es.map fun e => e.2) = List.replicate i [1]
  ho : ∀ e ∈ es, OwnS W (fun k => s + 1 + 1 ≤ k) e
  hr : Own W 61 5 (fun k => s + 1 + 1 ≤ k) (.slice A i c) i (fvs fs)
  hf : ∀ e ∈ fs, F.OwnF W (fun k => s + 1 + 1 ≤ k) e.1 e.2
  hm : (fs.map fun e => e.2) = fnL i
  hk : Keep (fun k => k = s ∨ k = s + 1) W8 W
theorem wr_i64 (n : Int) (h1 : 0 ≤ n) (h2 : n ≤ 1000) : IntKind.i64.wrap n = n := by rw [IntKind.wrap_i64]; omega
theorem wr_u8 (n : Int) (h1 : 0 ≤ n) (h2 : n < 256) : IntKind.u8.wrap n = n := by
  show n % 256 = n
  omega
theorem fnL_succ (i : Nat) : fnL (i + 1) = fnL i ++ [oneF (nmS i)] := by
  unfold fnL; rw [List.range_succ, List.map_append]; rfl
/-- Two digits in memory, as a string's bytes. -/
theorem rd_dig {w : World} {g d r : Nat} (hd : d < 100) (hr : r < 100) (h : Blk w g 5 #[.int .u8 (48 + (d : Int)), .int .u8 (48 + (r : Int))]) : V.Rd w (some ⟨g, 0, none⟩) [UInt8.ofNat (48 + d), UInt8.ofNat (48 + r)] := fun _ => ⟨_, rfl, fun j u hu => by
  have e : (⟨g, 0, none⟩ : Addr).add j = ⟨g, j, none⟩ := by unfold Addr.add; by_cases hj : j = 0 <;> simp [hj]
  rw [e, h.cell j, ← hu]
  have f : ∀ a : Nat, a < 256 → ((UInt8.ofNat a).toNat : Int) = (a : Int) := fun a ha => by rw [UInt8.toNat_ofNat', Nat.mod_eq_of_lt ha]
  have f1 := f (48 + d) (by omega)
  have f2 := f (48 + r) (by omega)
  match j with
  | 0 => simp [V.bvs, V.bv]; omega
  | 1 => simp [V.bvs, V.bv]; omega
  | j + 2 => simp [V.bvs]⟩
theorem nm_cat (i : Nat) : (⟨#[102]⟩ : ByteArray) ++ V.str [UInt8.ofNat (48 + i / 10), UInt8.ofNat (48 + i % 10)] = nmS i := by
  apply ByteArray.ext
  simp [V.str, nmS]
/-- What the values are that the region of a round yields. -/
def SN11 (s i d r : Nat) (A : Option Addr) (c : Nat) (T : ByteArray) : Nat → Value → World → Prop
  | 0 => fun u _ => u = .pointer (some ⟨s + 1, 1, none⟩)
  | 1 => fun u _ => u = .slice A i c
  | 2 => fun u _ => u = .int .i64 (i : Int)
  | 3 => fun u _ => u = .int .i64 (d : Int)
  | 4 => fun u _ => u = .int .i64 (48 + (d : Int))
  | 5 => fun u _ => u = .int .u8 (48 + (d : Int))
  | 6 => fun u _ => u = .int .i64 (i : Int)
  | 7 => fun u _ => u = .int .i64 (r : Int)
  | 8 => fun u _ => u = .int .i64 (48 + (r : Int))
  | 9 => fun u _ => u = .int .u8 (48 + (r : Int))
  | 10 => fun u W => ∃ g, u = .slice (some ⟨g, 0, none⟩) 2 2 ∧ Blk W g 5 #[.int .u8 (48 + (d : Int)), .int .u8 (48 + (r : Int))]
  | 11 => fun u _ => u = .string T
  | 12 => fun u _ => u = .string (⟨#[102]⟩ ++ T)
  | 13 => fun u W => ∃ m, u = .agg #[.slice none 0 0, .slice (some ⟨m + 1 + 1, 0, none⟩) 1 1] ∧ OwnIm W (fun k => s + 1 + 1 ≤ k) (oneI m) [] [(oneV m (nmS i), oneF (nmS i))]
  | 14 => fun u W => ∃ m, u = .slice (some ⟨m + 1 + 1, 0, none⟩) 1 1 ∧ OwnIm W (fun k => s + 1 + 1 ≤ k) (oneI m) [] [(oneV m (nmS i), oneF (nmS i))]
  | _ => fun _ _ => True
theorem SN11_stable (s i d r : Nat) (A : Option Addr) (c : Nat) (T : ByteArray) (j : Nat) (u : Value) (W W' : World) (h : SN11 s i d r A c T j u W) (hk : Keep NoB W W') : SN11 s i d r A c T j u W' := by
  unfold SN11 at h ⊢
  split at h <;> first | exact h | (obtain ⟨g, e, hb⟩ := h; first | exact ⟨g, e, hb.keep hk id⟩ | exact ⟨g, e, hb.keepN hk⟩)
/-- An image in a variable. -/
structure JI (W : World) (g : Nat) (p : Im) (v : IV) (es : List SE) (fs : List FE) : Prop where
  b : Blk W g 25 v.cells
  i : ImAt W v es fs
  e : imOf es fs = p
theorem JI.keepN {W W' : World} {g : Nat} {p : Im} {v : IV} {es : List SE} {fs : List FE} (h : JI W g p v es fs) (hk : Keep NoB W W') : JI W' g p v es fs := ⟨h.b.keep hk id, h.i.keepN hk, h.e⟩
theorem GI.ji {W : World} {hi g : Nat} {p : Im} {v : IV} {es : List SE} {fs : List FE} (h : GI W hi g p v es fs) : JI W g p v es fs := ⟨h.b, h.o.im, h.e⟩
theorem rd_takeN {w : World} {A : Option Addr} {xs : List Value} (h : Rd w A xs) (k : Nat) : Rd w A (xs.take k) := fun h0 => by
  rw [List.length_take] at h0
  obtain ⟨g, off, e, hc⟩ := h (by omega)
  refine ⟨g, off, e, fun j u hu => hc j u ?_⟩
  rw [List.getElem?_take] at hu
  split at hu
  · exact hu
  · cases hu
theorem svs_take (es : List SE) (k : Nat) : (svs es).take k = svs (es.take k) := by unfold svs; rw [List.map_take]
theorem fvs_take : ∀ (fs : List FE) (k : Nat), (fvs fs).take (k * 5) = fvs (fs.take k)
  | [], k => by simp [fvs]
  | e :: l, 0 => by simp [fvs]
  | e :: l, k + 1 => by
    have h := fvs_take l k
    unfold fvs at h ⊢
    rw [List.flatMap_cons, List.take_succ_cons, List.flatMap_cons, show (k + 1) * 5 = e.1.cells.toList.length + k * 5 by rw [cells_len]; omega, List.take_length_add_append, h]
theorem ImAt.take {w : World} {v : IV} {es : List SE} {fs : List FE} (h : ImAt w v es fs) (k cx cy : Nat) (hk : k ≤ v.nx) (hk2 : k ≤ v.ny) : ImAt w ⟨v.X, k, cx, v.Y, k, cy⟩ (es.take k) (fs.take k) :=
  ⟨by have := rd_takeN h.rx k; rwa [svs_take] at this, by have := rd_takeN h.ry (k * 5); rwa [fvs_take] at this, by have := h.lx; rw [List.length_take]; show min k es.length = k; omega, by have := h.ly; rw [List.length_take]; show min k fs.length = k; omega, fun e he => h.hs e (List.mem_of_mem_take he), fun e he => h.hf e (List.mem_of_mem_take he)⟩
/-- Parts of two images make one. -/
theorem ImAt.mix {w : World} {v u : IV} {es es' : List SE} {fs fs' : List FE} (h : ImAt w v es fs) (h' : ImAt w u es' fs') : ImAt w ⟨v.X, v.nx, v.cx, u.Y, u.ny, u.cy⟩ es fs' := ⟨h.rx, h'.ry, h.lx, h'.ly, h.hs, h'.hf⟩
theorem nil_im (w : World) : ImAt w nilW [] [] := (nil_own w (fun _ => True)).im
abbrev VE := IV × (List SE × List FE)
def vcs (vl : List VE) : List Value := vl.flatMap fun e => [.slice e.1.X e.1.nx e.1.cx, .slice e.1.Y e.1.ny e.1.cy]
theorem vcs_at : ∀ (vl : List VE) (i : Nat) (h : i < vl.length), (vcs vl)[i * 2]? = some (.slice vl[i].1.X vl[i].1.nx vl[i].1.cx) ∧ (vcs vl)[i * 2 + 1]? = some (.slice vl[i].1.Y vl[i].1.ny vl[i].1.cy)
  | e :: l, 0, _ => ⟨rfl, rfl⟩
  | e :: l, i + 1, h => by
    have := vcs_at l i (by simpa using h)
    unfold vcs at this ⊢
    rw [List.flatMap_cons, show (i + 1) * 2 = i * 2 + 2 by omega]
    exact this
/-- What the values are that the region of most yields. -/
def SN12 (s m : Nat) (ad : Addr) (c : Nat) : Nat → Value → World → Prop
  | 0 => fun u _ => u = .pointer (some ⟨s + 1, 0, none⟩)
  | 1 => fun u _ => u = .slice (some ⟨s, 0, none⟩) 65 65
  | 2 => fun u _ => u = .slice (some ⟨s, 0, none⟩) 64 65
  | 3 => fun u _ => u = .pointer (some ⟨s + 1, 1, none⟩)
  | 4 => fun u _ => u = .slice (some ad) 65 c
  | 5 => fun u _ => u = .slice (some ad) 64 c
  | 6 => fun u _ => u = .agg #[.slice (some ⟨s, 0, none⟩) 64 65, .slice (some ad) 64 c]
  | 7 => fun u W => ∃ g, u = .pointer (some ⟨g, 0, none⟩) ∧ m ≤ g ∧ Blk W g 25 #[.slice none 0 0, .slice none 0 0]
  | _ => fun _ _ => True
theorem SN12_stable (s m : Nat) (ad : Addr) (c : Nat) (j : Nat) (u : Value) (W W' : World) (h : SN12 s m ad c j u W) (hk : Keep NoB W W') : SN12 s m ad c j u W' := by
  unfold SN12 at h ⊢
  split at h <;> first | exact h | (obtain ⟨g, e, hm, hb⟩ := h; exact ⟨g, e, hm, hb.keep hk id⟩)
/-- What the values are that the region of forms yields. -/
def SN30 (q v m : IV) : Nat → Value → World → Prop
  | 0 => fun u _ => u = .int .i64 0
  | 1 => fun u _ => u = .bool true
  | 2 => fun u _ => u = .bool true
  | 3 => fun u _ => u = .int .i64 0
  | 4 => fun u _ => u = .bool true
  | 5 => fun u _ => u = .bool true
  | 6 => fun u _ => u = .bool true
  | 7 => fun u _ => u = q.val
  | 8 => fun u _ => u = v.val
  | 9 => fun u _ => u = .bool true
  | 10 => fun u _ => u = .bool true
  | 11 => fun u _ => u = .bool true
  | 12 => fun u _ => u = q.val
  | 13 => fun u W => ∃ k, u = .agg #[.slice none 0 0, .slice (some ⟨k + 1 + 1, 0, none⟩) 1 1] ∧ ImAt W (oneI k) [] [(oneV k ⟨#[97]⟩, oneF ⟨#[97]⟩)]
  | 14 => fun u _ => u = .bool false
  | 15 => fun u _ => u = .bool true
  | 16 => fun u _ => u = .bool true
  | 17 => fun u _ => u = .bool true
  | 18 => fun u _ => u = .int .i64 82
  | 19 => fun u _ => u = .bool true
  | 20 => fun u _ => u = .bool true
  | 21 => fun u _ => u = .bool true
  | 22 => fun u _ => u = .int .i64 82
  | 23 => fun u _ => u = .bool true
  | 24 => fun u _ => u = .bool true
  | 25 => fun u _ => u = .bool true
  | 26 => fun u _ => u = .int .i64 81
  | 27 => fun u _ => u = .bool true
  | 28 => fun u _ => u = .bool true
  | 29 => fun u _ => u = .bool true
  | 30 => fun u _ => u = m.val
  | 31 => fun u _ => u = .int .i64 0
  | 32 => fun u _ => u = .bool true
  | 33 => fun u _ => u = .bool true
  | 34 => fun u _ => u = .bool true
  | _ => fun _ _ => True
theorem SN30_stable (q v m : IV) (j : Nat) (u : Value) (W W' : World) (h : SN30 q v m j u W) (hk : Keep NoB W W') : SN30 q v m j u W' := by
  unfold SN30 at h ⊢
  split at h <;> first | exact h | (obtain ⟨g, e, hb⟩ := h; exact ⟨g, e, hb.keepN hk⟩)
theorem find_b : findN [fA, fB] [98] = 1 ∧ findE [fA, fB] [98] = 0 := by decide +kernel
theorem find_a : findN [fA, fA] [97] = 0 ∧ findE [fA, fA] [97] = 0 := by decide +kernel
theorem find_c : findN [fA, fB] [99] = 0 ∧ findE [fA, fB] [99] = 83 := by decide +kernel

end Go.Proofs.YtgifflfjhockaaaGreatDoor.I
