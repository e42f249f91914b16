/-
  What Decode of layer image answers: bytes' image, or what is wrong. Conditions: the bytes lie in memory, no more than 2^30.
  What the laws' own one and alive answer. No conditions.
  ImageSums' walk: the sum of bytes hangs on no parting; one byte changed, it is another one; all noughts, it tells how many there are. Conditions: the bytes lie in memory.
  What the rows of opcode share where strings.Cut is called, or bytes come in: the wrap that keeps the world's shape beside the laid variables. No conditions.
  The arguments of the laws: functions, and lists of values, opened. No conditions.
-/
import Derived.Deep.OwnRows
import Derived.HandedShaped
import Derived.Lib.SlBytesConst
import Derived.Shelf.Vars
import Derived.Test.YtgifflfjhockaaaGreatDoorQ9
import Derived.Test.YtgifflfjhockaaaGreatDoorQ10
import Derived.Test.YtgifflfjhockaaaGreatDoorQ12
import Derived.Test.YtgifflfjhockaaaGreatDoorQ8
import Derived.Test.YtgifflfjhockaaaGreatDoorQ5
namespace Go.Proofs.YtgifflfjhockaaaGreatDoor.I
open Go.RowKit W

theorem rdI_small {l : List UInt8} {p q : Nat} {es : List SE} {fs : List FE} (h : rdI l p = some (imOf es fs, q)) : es.length ≤ 64 ∧ fs.length ≤ 64 ∧ (∀ e ∈ es, S.okS e.2 = true) ∧ ∀ e ∈ fs, F.okF e.2 = true := by
  obtain ⟨⟨h1, h2, h3, h4⟩, _⟩ := rdI_ok h
  refine ⟨by simpa [imOf] using h1, by simpa [imOf] using h2, fun e he => List.all_eq_true.1 h3 _ ?_, fun e he => List.all_eq_true.1 h4 _ ?_⟩
  · exact List.mem_map.2 ⟨e, he, rfl⟩
  · exact List.mem_map.2 ⟨e, he, rfl⟩
theorem sm_of {w : World} {v : IV} {es : List SE} {fs : List FE} (h : ImAt w v es fs) (hs : es.length ≤ 64 ∧ fs.length ≤ 64 ∧ (∀ e ∈ es, S.okS e.2 = true) ∧ ∀ e ∈ fs, F.okF e.2 = true) : SmI es fs ∧ LgI v es fs := by
  obtain ⟨h1, h2, h3, h4⟩ := hs
  have hsh : ∀ e ∈ es, e.1.n ≤ 100 := fun e he => by
    have a := (h.hs e he).2
    have b := ((S.okS_iff _).1 (h3 e he)).1
    omega
  have hfn : ∀ e ∈ fs, F.SmF e.1 := fun e he => smF_ok (h.hf e he) (h4 e he)
  have hx := h.lx
  have hy := h.ly
  exact ⟨⟨by omega, by omega, hsh, hfn⟩, ⟨by omega, by omega, fun e he => by have := hsh e he; omega, fun e he => (hfn e he).lg⟩⟩
theorem take_cut {l : List UInt8} (h : l.take 5 = magicL) (h9 : 9 ≤ l.length) : l.take (l.length - 4) = magicL ++ (l.drop 5).take (l.length - 9) ∧ l.drop (l.length - 4) = (l.drop 5).drop (l.length - 9) ∧ (l.take (l.length - 4)).drop 5 = (l.drop 5).take (l.length - 9) := by
  have e1 : l = magicL ++ l.drop 5 := by rw [← h, List.take_append_drop]
  have e2 : l.length - 4 = magicL.length + (l.length - 9) := by show l.length - 4 = 5 + (l.length - 9); omega
  refine ⟨?_, ?_, ?_⟩
  · have e3 : (magicL ++ l.drop 5).take (magicL.length + (l.length - 9)) = magicL ++ (l.drop 5).take (l.length - 9) := List.take_length_add_append _
    rw [← e1, ← e2] at e3
    exact e3
  · rw [List.drop_drop, show 5 + (l.length - 9) = l.length - 4 by omega]
  · rw [List.drop_take, show l.length - 4 - 5 = l.length - 9 by omega]

/-- How Decode ends. -/
def DecR (w : World) (p : Im) (E : Int) (e : Ending) (w' : World) : Prop := ∃ v es fs, e = .returned (.tuple #[v.val, .int .i64 E]) ∧ OwnIm w' (Fresh w) v es fs ∧ imOf es fs = p ∧ Keep NoB w w'

/-- What the values are that Decode's region yields, where there may be a sum. -/
def SO (m : Nat) (ad : Addr) (E c : Nat) (fr : List UInt8) (bb : Bool) : Nat → Value → World → Prop
  | 0 => fun u _ => u = .int .i64 (E : Int)
  | 1 => fun u _ => u = .bool false
  | 2 => fun u _ => u = .bool false
  | 3 => fun u _ => u = .slice (some ad) (E + 4) c
  | 4 => fun u _ => u = .int .i64 (E : Int)
  | 5 => fun u _ => u = .slice (some (ad.add E)) 4 (c - E)
  | 6 => fun u _ => u = .slice (some ⟨m, 0, none⟩) 5 5
  | 7 => fun u _ => u = .slice (some ad) (E + 4) c
  | 8 => fun u _ => u = .int .i64 (E : Int)
  | 9 => fun u _ => u = .slice (some ad) E c
  | 10 => fun u w => ∃ g, u = .slice (some ⟨g, 0, none⟩) 2 2 ∧ Blk w g 26 #[.slice (some ⟨m, 0, none⟩) 5 5, .slice (some ad) E c]
  | 11 => PtV fr
  | 12 => fun u _ => u = .bool bb
  | 13 => fun u _ => u = .bool (!bb)
  | 14 => fun u _ => u = .bool (!bb)
  | _ => fun _ _ => True
theorem SO_stable (m : Nat) (ad : Addr) (E c : Nat) (fr : List UInt8) (bb : Bool) : ∀ i u w w', SO m ad E c fr bb i u w → Keep NoB w w' → SO m ad E c fr bb i u w'
  | 0, _, _, _, h, _ => h
  | 1, _, _, _, h, _ => h
  | 2, _, _, _, h, _ => h
  | 3, _, _, _, h, _ => h
  | 4, _, _, _, h, _ => h
  | 5, _, _, _, h, _ => h
  | 6, _, _, _, h, _ => h
  | 7, _, _, _, h, _ => h
  | 8, _, _, _, h, _ => h
  | 9, _, _, _, h, _ => h
  | 10, _, _, _, ⟨g, e, hb⟩, hk => ⟨g, e, hb.keep hk id⟩
  | 11, _, _, _, h, hk => PtV.keepN h hk
  | 12, _, _, _, h, _ => h
  | 13, _, _, _, h, _ => h
  | 14, _, _, _, h, _ => h
  | _ + 15, _, _, _, h, _ => h
/-- .. where there is none. -/
def SQ (N : Nat) : Nat → Value → World → Prop
  | 0 => fun u _ => u = .int .i64 ((N : Int) - 4)
  | 1 => fun u _ => u = .bool true
  | 2 => fun u _ => u = .bool true
  | 14 => fun u _ => u = .bool true
  | _ => fun _ _ => True
theorem SQ_stable (N : Nat) (i : Nat) (u : Value) (w w' : World) (h : SQ N i u w) : SQ N i u w' := by
  unfold SQ at h ⊢
  split at h <;> exact h

set_option maxRecDepth 100000 in
set_option maxHeartbeats 8000000 in
theorem decode_any (A : Option Addr) (l : List UInt8) (c : Nat) (w : World) (hr : V.Rd w A l) (hc : l.length ≤ c) (hcm : c ≤ maxLen) (hlen : l.length ≤ 1073741824) :
    Calls Tryz.prog 15 #[.slice A l.length c] w (DecR w (decI l).1 (decI l).2) := by
  have bz := ((Blk.new w 25 nilW.cells).alloc (.cells #[.int .u8 98, .int .u8 107, .int .u8 115, .int .u8 116, .int .u8 1] 5))
  have hm := heap_alloc_new (w.alloc (.cells nilW.cells 25)) (.cells #[.int .u8 98, .int .u8 107, .int .u8 115, .int .u8 116, .int .u8 1] 5)
  have kW := ((Keep.refl NoB w).alloc (.cells nilW.cells 25)).alloc (.cells #[.int .u8 98, .int .u8 107, .int .u8 115, .int .u8 116, .int .u8 1] 5)
  simp only [World.size_alloc] at hm
  unfold nilW IV.cells at *
  dsimp only at *
  have hcv := run_mark (n := 5) (c := 5) hm
  have kW3 := keep_mark (k := 5) kW hm (Nat.le_succ _)
  obtain ⟨hmk, hoth⟩ := freeze_mark (k := 5) hm
  have bz3 : Blk (World.freeze _ ⟨w.heap.size + 1, 5, none⟩ 1) w.heap.size 25 #[.slice none 0 0, .slice none 0 0] := (hoth w.heap.size (by omega)).trans bz
  have hmg := (PtV.mark ⟨some ⟨w.heap.size + 1, 0, none⟩, 5, rfl, rdB_blk (l := magicL) (f := (0, 0)) hm⟩ hmk : PtV magicL (.slice (some ⟨w.heap.size + 1, 0, none⟩) 5 5) _).rd
  have hr3 := S.rd_n hr kW3
  simp only [List.size_toArray, List.length_cons, List.length_nil, Nat.reduceAdd] at hcv
  clear bz hm kW hmk hoth hr
  generalize World.freeze _ ⟨w.heap.size + 1, 5, none⟩ 1 = w3 at *
  go_enter Tryz.func15, Tryz.ntmps15
  go_wp2_with fail
  refine (cut_any A (some ⟨w.heap.size + 1, 0, none⟩) l magicL c 5 w3 hr3 hmg hc hcm rfl).mono ?_
  rintro e w4 ⟨rfl, (⟨h5, v4, rfl⟩ | ⟨h5, A', c', rfl, hR, hC⟩)⟩
  · have HD := Lib.hid (decI_1 h5)
    have f3 := fun i => bz3.frozen i
    have q0 := bz3.cell 0
    have q1 := bz3.cell 1
    simp only [List.getElem?_toArray, List.getElem?_cons_zero, List.getElem?_cons_succ] at q0 q1
    have hlt := bz3.lt
    have HP := Lib.hid (put2_img bz3 (.slice none 0 0) (.slice none 0 0))
    have HK := Lib.hid (kW3.trans (keep2_img w3 w.heap.size (.slice none 0 0) (.slice none 0 0)) (fun k e hl => by omega))
    clear bz3 kW3 hmg hr3 hcv
    go_wp2
    refine bodyPost_ret (ret_imgE (v := nilW) rfl rfl HP.out rfl) rfl ?_
    rw [HD.out]
    exact ⟨nilW, [], [], rfl, nil_own _ _, rfl, HK.out⟩
  · by_cases h9 : 9 ≤ l.length
    · obtain ⟨E, hE⟩ : ∃ E, l.length = E + 9 := ⟨l.length - 9, by omega⟩
      have hn : l.length - 5 = E + 4 := by omega
      have h0 : 0 < (l.drop 5).length := by rw [List.length_drop]; omega
      obtain ⟨ad, rfl, _⟩ := hR h0
      have htc := take_cut h5 h9
      rw [show l.length - 9 = E by omega] at htc
      have hx := rd_dp hR E
      have HX : Hid (V.Rd w3 (some (ad.add E)) ((l.drop 5).drop E) ∧ ((l.drop 5).drop E).length = 4) := ⟨hx, by rw [List.length_drop, List.length_drop]; omega⟩
      have HT : Hid (V.Rd w3 (some ad) ((l.drop 5).take E) ∧ ((l.drop 5).take E).length = E) := ⟨rd_tk hR E, by rw [List.length_take, List.length_drop]; omega⟩
      have HTC := Lib.hid htc
      have HM := Lib.hid hmg
      rw [hn] at hC ⊢
      have hce := hC.out.1
      have hcE : ¬ (c' = E) := by omega
      have hcm' := hC.out.2
      have hE30 : E ≤ 1073741824 := by omega
      clear hx htc hmg hr3 hR hC h0
      generalize (l.drop 5).drop E = X at *
      generalize (l.drop 5).take E = T at *
      obtain ⟨fr, hfr⟩ : ∃ fr, four (sumN (magicL ++ T)) = fr := ⟨_, rfl⟩
      have HFR := Lib.hid hfr
      obtain ⟨bb, hbb⟩ : ∃ bb, decide (X = fr) = bb := ⟨_, rfl⟩
      have HBB := Lib.hid hbb
      clear hfr hbb
      go_wp2_with fail
      refine wp_region_props6 (fun i => [23, 24, 25, 26, 27, 28, 29, 30, 31, 32, 33, 34, 35, 36, 37].getD i 0) 9999 (NoB) (fun _ => false) (by kernel_rfl) (by kernel_rfl) (by kernel_rfl) (SO (w.heap.size + 1) ad E c' fr bb) (fun i u x y _ _ _ h hk => SO_stable _ _ _ _ _ _ i u x y (by exact h) (by exact hk.mono (fun _ hf _ => hf))) (fun i u x y _ h hk => SO_stable _ _ _ _ _ _ i u x y h hk) rfl ?step ?spec ?fin
      case step =>
        intro i o a w' hoo hic hF hK hA
        have hi : i < 15 := by simpa using (Array.getElem?_eq_some_iff.1 hoo).1
        by_cases h0 : i = 0
        · subst h0
          simp only [List.getElem?_toArray, List.getElem?_cons_zero, Option.some.injEq] at hoo
          subst hoo
          have e7 : a.tmps.getD 7 undef = .int .i64 (E : Int) := hF.2.2 7 (by decide)
          refine Does.plain rfl ?_
          unfold yieldsK
          go_simp
          exact ⟨rfl, Keep.refl _ _⟩
        by_cases h1 : i = 1
        · subst h1
          simp only [List.getElem?_toArray, List.getElem?_cons_zero, List.getElem?_cons_succ, Option.some.injEq] at hoo
          subst hoo
          have e23 : a.tmps.getD 23 undef = .int .i64 (E : Int) := hA ⟨0, .data⟩ (by simp) rfl
          refine Does.plain rfl ?_
          unfold yieldsK
          go_simp
          exact ⟨rfl, Keep.refl _ _⟩
        by_cases h2 : i = 2
        · subst h2
          simp only [List.getElem?_toArray, List.getElem?_cons_zero, List.getElem?_cons_succ, Option.some.injEq] at hoo
          subst hoo
          have e24 : a.tmps.getD 24 undef = .bool false := hA ⟨1, .data⟩ (by simp) rfl
          refine Does.plain rfl ?_
          unfold yieldsK
          go_simp
          exact ⟨rfl, Keep.refl _ _⟩
        by_cases h3 : i = 3
        · subst h3
          simp only [List.getElem?_toArray, List.getElem?_cons_zero, List.getElem?_cons_succ, Option.some.injEq] at hoo
          subst hoo
          have e5 : a.tmps.getD 5 undef = .slice (some ad) (E + 4) c' := hF.2.2 5 (by decide)
          refine Does.yes (j := 2) (d := 25) (want := false) rfl rfl (hA ⟨2, .guard⟩ (by simp) rfl) ?_
          unfold yieldsK
          go_simp
          exact ⟨rfl, Keep.refl _ _⟩
        by_cases h4 : i = 4
        · subst h4
          simp only [List.getElem?_toArray, List.getElem?_cons_zero, List.getElem?_cons_succ, Option.some.injEq] at hoo
          subst hoo
          have e7 : a.tmps.getD 7 undef = .int .i64 (E : Int) := hF.2.2 7 (by decide)
          refine Does.yes (j := 2) (d := 25) (want := false) rfl rfl (hA ⟨2, .guard⟩ (by simp) rfl) ?_
          unfold yieldsK
          go_simp
          exact ⟨rfl, Keep.refl _ _⟩
        by_cases h5 : i = 5
        · subst h5
          simp only [List.getElem?_toArray, List.getElem?_cons_zero, List.getElem?_cons_succ, Option.some.injEq] at hoo
          subst hoo
          have e26 : a.tmps.getD 26 undef = .slice (some ad) (E + 4) c' := hA ⟨3, .data⟩ (by simp) rfl
          have e27 : a.tmps.getD 27 undef = .int .i64 (E : Int) := hA ⟨4, .data⟩ (by simp) rfl
          have hle : (E : Int) ≤ (E : Int) + 4 := by omega
          refine Does.yes (j := 2) (d := 25) (want := false) rfl rfl (hA ⟨2, .guard⟩ (by simp) rfl) ?_
          unfold yieldsK
          go_simp
          exact ⟨rfl, Keep.refl _ _⟩
        by_cases h6 : i = 6
        · subst h6
          simp only [List.getElem?_toArray, List.getElem?_cons_zero, List.getElem?_cons_succ, Option.some.injEq] at hoo
          subst hoo
          have e4 : a.tmps.getD 4 undef = .slice (some ⟨w.heap.size + 1, 0, none⟩) 5 5 := hF.2.2 4 (by decide)
          refine Does.yes (j := 2) (d := 25) (want := false) rfl rfl (hA ⟨2, .guard⟩ (by simp) rfl) ?_
          unfold yieldsK
          go_simp
          exact ⟨rfl, Keep.refl _ _⟩
        by_cases h7 : i = 7
        · subst h7
          simp only [List.getElem?_toArray, List.getElem?_cons_zero, List.getElem?_cons_succ, Option.some.injEq] at hoo
          subst hoo
          have e5 : a.tmps.getD 5 undef = .slice (some ad) (E + 4) c' := hF.2.2 5 (by decide)
          refine Does.yes (j := 2) (d := 25) (want := false) rfl rfl (hA ⟨2, .guard⟩ (by simp) rfl) ?_
          unfold yieldsK
          go_simp
          exact ⟨rfl, Keep.refl _ _⟩
        by_cases h8 : i = 8
        · subst h8
          simp only [List.getElem?_toArray, List.getElem?_cons_zero, List.getElem?_cons_succ, Option.some.injEq] at hoo
          subst hoo
          have e7 : a.tmps.getD 7 undef = .int .i64 (E : Int) := hF.2.2 7 (by decide)
          refine Does.yes (j := 2) (d := 25) (want := false) rfl rfl (hA ⟨2, .guard⟩ (by simp) rfl) ?_
          unfold yieldsK
          go_simp
          exact ⟨rfl, Keep.refl _ _⟩
        by_cases h9 : i = 9
        · subst h9
          simp only [List.getElem?_toArray, List.getElem?_cons_zero, List.getElem?_cons_succ, Option.some.injEq] at hoo
          subst hoo
          have e30 : a.tmps.getD 30 undef = .slice (some ad) (E + 4) c' := hA ⟨7, .data⟩ (by simp) rfl
          have e31 : a.tmps.getD 31 undef = .int .i64 (E : Int) := hA ⟨8, .data⟩ (by simp) rfl
          have hle : E ≤ c' := by omega
          refine Does.yes (j := 2) (d := 25) (want := false) rfl rfl (hA ⟨2, .guard⟩ (by simp) rfl) ?_
          unfold yieldsK
          go_simp
          exact ⟨rfl, Keep.refl _ _⟩
        by_cases h10 : i = 10
        · subst h10
          simp only [List.getElem?_toArray, List.getElem?_cons_zero, List.getElem?_cons_succ, Option.some.injEq] at hoo
          subst hoo
          have e29 : a.tmps.getD 29 undef = .slice (some ⟨w.heap.size + 1, 0, none⟩) 5 5 := hA ⟨6, .data⟩ (by simp) rfl
          have e32 : a.tmps.getD 32 undef = .slice (some ad) E c' := hA ⟨9, .data⟩ (by simp) rfl
          refine Does.yes (j := 2) (d := 25) (want := false) rfl rfl (hA ⟨2, .guard⟩ (by simp) rfl) ?_
          unfold yieldsK
          simp only [Array.getD_eq_getD_getElem?] at e29 e32
          go_simp
          exact ⟨⟨w'.heap.size, rfl, Blk.new _ _ _⟩, (Keep.refl _ _).alloc _⟩
        by_cases h11 : i = 11
        · subst h11
          simp only [List.getElem?_toArray, List.getElem?_cons_zero, List.getElem?_cons_succ, Option.some.injEq] at hoo
          subst hoo
          obtain ⟨g, e33, hb⟩ := hA ⟨10, .data⟩ (by simp) rfl
          have e33 : a.tmps.getD 33 undef = .slice (some ⟨g, 0, none⟩) 2 2 := e33
          refine Does.yes (j := 2) (d := 25) (want := false) rfl rfl (hA ⟨2, .guard⟩ (by simp) rfl) ?_
          unfold yieldsK
          go_simp
          refine (seal_any (some ⟨g, 0, none⟩) [(⟨some ⟨w.heap.size + 1, 0, none⟩, 5, 5⟩, magicL), (⟨some ad, E, c'⟩, T)] 2 2 w' (rd_two hb) rfl (fun e he => by
            simp only [List.mem_cons, List.not_mem_nil, or_false] at he
            rcases he with rfl | rfl
            · exact ⟨(HM.out.keep hK (fun _ _ _ => id)), rfl⟩
            · exact ⟨(HT.out.1.keep hK (fun _ _ _ => id)), HT.out.2⟩) (by omega) (fun e he => by
            simp only [List.mem_cons, List.not_mem_nil, or_false] at he
            rcases he with rfl | rfl
            · show (5 : Nat) ≤ _; omega
            · show E ≤ _; omega)).mono ?_
          rintro e w5 ⟨u, rfl, h2, h3⟩
          have e4 : allB [(⟨some ⟨w.heap.size + 1, 0, none⟩, 5, 5⟩, magicL), (⟨some ad, E, c'⟩, T)] = magicL ++ T := by simp [allB]
          rw [e4, HFR.out] at h2
          exact ⟨_, rfl, OwnB.ptV h2, h3⟩
        by_cases h12 : i = 12
        · subst h12
          simp only [List.getElem?_toArray, List.getElem?_cons_zero, List.getElem?_cons_succ, Option.some.injEq] at hoo
          subst hoo
          have e28 : a.tmps.getD 28 undef = .slice (some (ad.add E)) 4 (c' - E) := hA ⟨5, .data⟩ (by simp) rfl
          obtain ⟨A34, c34, e34, h34⟩ := hA ⟨11, .data⟩ (by simp) rfl
          have e34 : a.tmps.getD 34 undef = .slice A34 fr.length c34 := e34
          refine Does.yes (j := 2) (d := 25) (want := false) rfl rfl (hA ⟨2, .guard⟩ (by simp) rfl) ?_
          unfold yieldsK
          simp only [Array.getD_eq_getD_getElem?] at e34
          go_simp
          refine (equalB_any (some (ad.add E)) A34 X fr 4 fr.length (c' - E) c34 w' (HX.out.1.keep hK (fun _ _ _ => id)) h34 HX.out.2 rfl bb HBB.out).mono ?_
          rintro e w5 ⟨rfl, rfl⟩
          exact ⟨_, rfl, rfl, Keep.refl _ _⟩
        by_cases h13 : i = 13
        · subst h13
          simp only [List.getElem?_toArray, List.getElem?_cons_zero, List.getElem?_cons_succ, Option.some.injEq] at hoo
          subst hoo
          have e35 : a.tmps.getD 35 undef = .bool bb := hA ⟨12, .data⟩ (by simp) rfl
          refine Does.yes (j := 2) (d := 25) (want := false) rfl rfl (hA ⟨2, .guard⟩ (by simp) rfl) ?_
          unfold yieldsK
          go_simp
          exact ⟨rfl, Keep.refl _ _⟩
        by_cases h14 : i = 14
        · subst h14
          simp only [List.getElem?_toArray, List.getElem?_cons_zero, List.getElem?_cons_succ, Option.some.injEq] at hoo
          subst hoo
          have e25 : a.tmps.getD 25 undef = .bool false := hA ⟨2, .data⟩ (by simp) rfl
          have e36 : a.tmps.getD 36 undef = .bool (!bb) := hA ⟨13, .data⟩ (by simp) rfl
          refine Does.plain rfl ?_
          unfold yieldsK
          go_simp
          exact ⟨rfl, Keep.refl _ _⟩
        omega
      case spec =>
        intro o a w' hoo
        simp at hoo
      case fin =>
        intro a w' hF gK hA
        have e37 : a.tmps.getD 37 undef = .bool (!bb) := hA 14 (by decide)
        have ha := frameD_list (l := [23, 24, 25, 26, 27, 28, 29, 30, 31, 32, 33, 34, 35, 36, 37]) rfl hF
        rw [ha]
        simp only [List.map_cons, List.map_nil, e37]
        generalize a.tmps.getD 23 undef = u0
        generalize a.tmps.getD 24 undef = u1
        generalize a.tmps.getD 25 undef = u2
        generalize a.tmps.getD 26 undef = u3
        generalize a.tmps.getD 27 undef = u4
        generalize a.tmps.getD 28 undef = u5
        generalize a.tmps.getD 29 undef = u6
        generalize a.tmps.getD 30 undef = u7
        generalize a.tmps.getD 31 undef = u8
        generalize a.tmps.getD 32 undef = u9
        generalize a.tmps.getD 33 undef = u10
        generalize a.tmps.getD 34 undef = u11
        generalize a.tmps.getD 35 undef = u12
        generalize a.tmps.getD 36 undef = u13
        simp only [fillD, List.setIfInBounds_toArray, List.set_cons_zero, List.set_cons_succ]
        have bz9 := bz3.keep gK id
        have kW9 := keepN kW3 gK
        have hT9 := HT.out.1.keep gK (fun _ _ _ => id)
        have hTl := HT.out.2
        clear hA hF ha e37 HM HX gK bz3 kW3 hcv HT
        cases bb
        · have HD := Lib.hid (decI_2 h5 (.inr (by rw [HTC.out.1, HTC.out.2.1, HFR.out]; exact of_decide_eq_false HBB.out)))
          clear HBB HFR HTC hT9
          have f3 := fun i => bz9.frozen i
          have q0 := bz9.cell 0
          have q1 := bz9.cell 1
          simp only [List.getElem?_toArray, List.getElem?_cons_zero, List.getElem?_cons_succ] at q0 q1
          have hlt := bz9.lt
          have HP := Lib.hid (put2_img bz9 (.slice none 0 0) (.slice none 0 0))
          have HK := Lib.hid (kW9.trans (keep2_img _ w.heap.size (.slice none 0 0) (.slice none 0 0)) (fun k e hl => by omega))
          clear bz9 kW9
          go_wp2
          refine bodyPost_ret (ret_imgE (v := nilW) rfl rfl HP.out rfl) rfl ?_
          rw [HD.out]
          exact ⟨nilW, [], [], rfl, nil_own _ _, rfl, HK.out⟩
        · have hsum : l.drop (l.length - 4) = four (sumN (l.take (l.length - 4))) := by rw [HTC.out.1, HTC.out.2.1, HFR.out]; exact of_decide_eq_true HBB.out
          have HD4 := Lib.hid (fun p hp => decI_4 (p := p) h5 h9 hsum (by rw [HTC.out.2.2]; exact hp))
          have HD3 := Lib.hid (fun hp => decI_3 h5 h9 hsum (by rw [HTC.out.2.2]; exact hp))
          have hin := inner_any (some ad) T c' _ hT9 (by omega)
          rw [hTl] at hin
          have HIN := Lib.hid hin
          clear HBB HFR HTC hT9 hsum hin h5
          go_wp2_with fail
          refine HIN.out.mono ?_
          rintro e w6 ⟨v6, es, fs, b6, rfl, hO6, k6, hb1, hb0⟩
          have bz6 := bz9.keep k6 id
          have kW6 := keepN kW9 k6
          have hz6 := bz9.lt
          have kA := (Keep.refl NoB w6).alloc (.cells v6.cells 25)
          have bz7 := bz6.keep kA id
          have kW7 := keepN kW6 kA
          have bv7 := Blk.new w6 25 v6.cells
          cases b6
          · have HD := Lib.hid (HD3.out (by
              cases hq : rdI T 0 with
              | none => exact opI_1 hq
              | some x => exact opI_2 hq (fun h => hb0 rfl x hq (by rw [h.1]))))
            have bz9 := bz7
            have kW9 := kW7
            clear hb1 hb0 HD3 HD4 hO6 k6 bz6 kW6 bz7 kW7 bv7 kA
            obtain ⟨X6, nx6, cx6, Y6, ny6, cy6⟩ := v6
            dsimp only [IV.val, IV.cells] at *
            have f3 := fun i => bz9.frozen i
            have q0 := bz9.cell 0
            have q1 := bz9.cell 1
            simp only [List.getElem?_toArray, List.getElem?_cons_zero, List.getElem?_cons_succ] at q0 q1
            have hlt := bz9.lt
            have HP := Lib.hid (put2_img bz9 (.slice none 0 0) (.slice none 0 0))
            have HK := Lib.hid (kW9.trans (keep2_img _ w.heap.size (.slice none 0 0) (.slice none 0 0)) (fun k e hl => by omega))
            clear bz9 kW9
            go_wp2
            refine bodyPost_ret (ret_imgE (v := nilW) rfl rfl HP.out rfl) rfl ?_
            rw [HD.out]
            exact ⟨nilW, [], [], rfl, nil_own _ _, rfl, HK.out⟩
          · have hrd := hb1 rfl
            obtain ⟨hsm, hlg⟩ := sm_of hO6.im (rdI_small hrd)
            have HC6 := Lib.hid (check_any v6 es fs _ (hO6.keepN kA).im hlg _ rfl)
            cases ho : okI (imOf es fs)
            · rw [chkI_no ho] at HC6
              have HD := Lib.hid (HD3.out (opI_2 hrd (fun h => by rw [ho] at h; exact absurd h.2 (by decide))))
              obtain ⟨p0, p1⟩ := blk2 bv7
              have HB7 := Lib.hid (And.intro bz7 kW7)
              clear hb1 hb0 HD3 HD4 hO6 k6 bz6 kW6 bz7 kW7 bv7 kA hrd hsm hlg ho bz9 kW9
              obtain ⟨X6, nx6, cx6, Y6, ny6, cy6⟩ := v6
              dsimp only [IV.val, IV.cells] at *
              go_wp2_with fail
              refine HC6.out.mono ?_
              rintro e w8 ⟨rfl, k8⟩
              have bz9 := HB7.out.1.keep k8 id
              have kW9 := keepN HB7.out.2 k8
              clear HB7 HC6 k8
              have f3 := fun i => bz9.frozen i
              have q0 := bz9.cell 0
              have q1 := bz9.cell 1
              simp only [List.getElem?_toArray, List.getElem?_cons_zero, List.getElem?_cons_succ] at q0 q1
              have hlt := bz9.lt
              have HP := Lib.hid (put2_img bz9 (.slice none 0 0) (.slice none 0 0))
              have HK := Lib.hid (kW9.trans (keep2_img _ w.heap.size (.slice none 0 0) (.slice none 0 0)) (fun k e hl => by omega))
              clear bz9 kW9
              go_wp2
              refine bodyPost_ret (ret_imgE (v := nilW) rfl rfl HP.out rfl) rfl ?_
              rw [HD.out]
              exact ⟨nilW, [], [], rfl, nil_own _ _, rfl, HK.out⟩
            · rw [chkI_ok ho] at HC6
              have HD := Lib.hid (HD4.out (imOf es fs) (opI_3 hrd rfl ho))
              have hO7 := hO6.keepN kA
              clear hb1 hb0 HD3 HD4 hO6 k6 bz6 kW6 kA hrd hsm hlg ho bz9 kW9
              have HB7 := Lib.hid (And.intro bz7 (And.intro kW7 (And.intro hO7 bv7)))
              obtain ⟨p0, p1⟩ := blk2 bv7
              clear bz7 kW7 hO7 bv7
              obtain ⟨X6, nx6, cx6, Y6, ny6, cy6⟩ := v6
              dsimp only [IV.val, IV.cells] at *
              go_wp2_with fail
              refine HC6.out.mono ?_
              rintro e w8 ⟨rfl, k8⟩
              obtain ⟨bz7, kW7, hO7, bv7⟩ := HB7.out
              have bz8 := bz7.keep k8 id
              have kW8 := keepN kW7 k8
              have hO8 := hO7.keepN k8
              obtain ⟨r0, r1⟩ := blk2 (v := ⟨X6, nx6, cx6, Y6, ny6, cy6⟩) (bv7.keep k8 id)
              dsimp only at r0 r1
              have f3 := fun i => bz8.frozen i
              have q0 := bz8.cell 0
              have q1 := bz8.cell 1
              simp only [List.getElem?_toArray, List.getElem?_cons_zero, List.getElem?_cons_succ] at q0 q1
              have hlt := bz8.lt
              have HP := Lib.hid (put2_img bz8 (.slice X6 nx6 cx6) (.slice Y6 ny6 cy6))
              have kq := keep2_img w8 w.heap.size (.slice X6 nx6 cx6) (.slice Y6 ny6 cy6)
              have HK := Lib.hid (kW8.trans kq (fun k e hl => by omega))
              have HO := Lib.hid ((hO8.keep kq (fun k hk e => by unfold Fresh at hk; omega)).mono (P' := Fresh w) (fun k hk _ => by unfold Fresh at *; omega))
              clear bz8 kW8 hO8 bz7 kW7 hO7 bv7 HB7 k8 kq HC6
              go_wp2
              refine bodyPost_ret (ret_imgE (v := ⟨X6, nx6, cx6, Y6, ny6, cy6⟩) rfl rfl HP.out rfl) rfl ?_
              rw [HD.out]
              exact ⟨⟨X6, nx6, cx6, Y6, ny6, cy6⟩, es, fs, rfl, HO.out, rfl, HK.out⟩
    · obtain ⟨N, hN⟩ : ∃ N, l.length - 5 = N := ⟨_, rfl⟩
      have hdN : ((N : Int) - 4 < 0) := by omega
      rw [hN]
      go_wp2_with fail
      refine wp_region_props6 (fun i => [23, 24, 25, 26, 27, 28, 29, 30, 31, 32, 33, 34, 35, 36, 37].getD i 0) 9999 (NoB) (fun _ => false) (by kernel_rfl) (by kernel_rfl) (by kernel_rfl) (SQ N) (fun i u x y _ _ _ h _ => SQ_stable _ i u x y h) (fun i u x y _ h _ => SQ_stable _ i u x y h) rfl ?step ?spec ?fin
      case step =>
        intro i o a w' hoo hic hF hK hA
        have hi : i < 15 := by simpa using (Array.getElem?_eq_some_iff.1 hoo).1
        by_cases h0 : i = 0
        · subst h0
          simp only [List.getElem?_toArray, List.getElem?_cons_zero, Option.some.injEq] at hoo
          subst hoo
          have e7 : a.tmps.getD 7 undef = .int .i64 ((N : Int) - 4) := hF.2.2 7 (by decide)
          refine Does.plain rfl ?_
          unfold yieldsK
          go_simp
          exact ⟨rfl, Keep.refl _ _⟩
        by_cases h1 : i = 1
        · subst h1
          simp only [List.getElem?_toArray, List.getElem?_cons_zero, List.getElem?_cons_succ, Option.some.injEq] at hoo
          subst hoo
          have e23 : a.tmps.getD 23 undef = .int .i64 ((N : Int) - 4) := hA ⟨0, .data⟩ (by simp) rfl
          have hd := hdN
          refine Does.plain rfl ?_
          unfold yieldsK
          go_simp
          exact ⟨rfl, Keep.refl _ _⟩
        by_cases h2 : i = 2
        · subst h2
          simp only [List.getElem?_toArray, List.getElem?_cons_zero, List.getElem?_cons_succ, Option.some.injEq] at hoo
          subst hoo
          have e24 : a.tmps.getD 24 undef = .bool true := hA ⟨1, .data⟩ (by simp) rfl
          refine Does.plain rfl ?_
          unfold yieldsK
          go_simp
          exact ⟨rfl, Keep.refl _ _⟩
        by_cases h3 : i = 3
        · subst h3
          simp only [List.getElem?_toArray, List.getElem?_cons_zero, List.getElem?_cons_succ, Option.some.injEq] at hoo
          subst hoo
          refine Does.no (j := 2) (d := 25) (want := false) rfl rfl (hA ⟨2, .guard⟩ (by simp) rfl) ?_
          exact ⟨trivial, Keep.refl _ _⟩
        by_cases h4 : i = 4
        · subst h4
          simp only [List.getElem?_toArray, List.getElem?_cons_zero, List.getElem?_cons_succ, Option.some.injEq] at hoo
          subst hoo
          refine Does.no (j := 2) (d := 25) (want := false) rfl rfl (hA ⟨2, .guard⟩ (by simp) rfl) ?_
          exact ⟨trivial, Keep.refl _ _⟩
        by_cases h5 : i = 5
        · subst h5
          simp only [List.getElem?_toArray, List.getElem?_cons_zero, List.getElem?_cons_succ, Option.some.injEq] at hoo
          subst hoo
          refine Does.no (j := 2) (d := 25) (want := false) rfl rfl (hA ⟨2, .guard⟩ (by simp) rfl) ?_
          exact ⟨trivial, Keep.refl _ _⟩
        by_cases h6 : i = 6
        · subst h6
          simp only [List.getElem?_toArray, List.getElem?_cons_zero, List.getElem?_cons_succ, Option.some.injEq] at hoo
          subst hoo
          refine Does.no (j := 2) (d := 25) (want := false) rfl rfl (hA ⟨2, .guard⟩ (by simp) rfl) ?_
          exact ⟨trivial, Keep.refl _ _⟩
        by_cases h7 : i = 7
        · subst h7
          simp only [List.getElem?_toArray, List.getElem?_cons_zero, List.getElem?_cons_succ, Option.some.injEq] at hoo
          subst hoo
          refine Does.no (j := 2) (d := 25) (want := false) rfl rfl (hA ⟨2, .guard⟩ (by simp) rfl) ?_
          exact ⟨trivial, Keep.refl _ _⟩
        by_cases h8 : i = 8
        · subst h8
          simp only [List.getElem?_toArray, List.getElem?_cons_zero, List.getElem?_cons_succ, Option.some.injEq] at hoo
          subst hoo
          refine Does.no (j := 2) (d := 25) (want := false) rfl rfl (hA ⟨2, .guard⟩ (by simp) rfl) ?_
          exact ⟨trivial, Keep.refl _ _⟩
        by_cases h9 : i = 9
        · subst h9
          simp only [List.getElem?_toArray, List.getElem?_cons_zero, List.getElem?_cons_succ, Option.some.injEq] at hoo
          subst hoo
          refine Does.no (j := 2) (d := 25) (want := false) rfl rfl (hA ⟨2, .guard⟩ (by simp) rfl) ?_
          exact ⟨trivial, Keep.refl _ _⟩
        by_cases h10 : i = 10
        · subst h10
          simp only [List.getElem?_toArray, List.getElem?_cons_zero, List.getElem?_cons_succ, Option.some.injEq] at hoo
          subst hoo
          refine Does.no (j := 2) (d := 25) (want := false) rfl rfl (hA ⟨2, .guard⟩ (by simp) rfl) ?_
          exact ⟨trivial, Keep.refl _ _⟩
        by_cases h11 : i = 11
        · subst h11
          simp only [List.getElem?_toArray, List.getElem?_cons_zero, List.getElem?_cons_succ, Option.some.injEq] at hoo
          subst hoo
          refine Does.no (j := 2) (d := 25) (want := false) rfl rfl (hA ⟨2, .guard⟩ (by simp) rfl) ?_
          exact ⟨trivial, Keep.refl _ _⟩
        by_cases h12 : i = 12
        · subst h12
          simp only [List.getElem?_toArray, List.getElem?_cons_zero, List.getElem?_cons_succ, Option.some.injEq] at hoo
          subst hoo
          refine Does.no (j := 2) (d := 25) (want := false) rfl rfl (hA ⟨2, .guard⟩ (by simp) rfl) ?_
          exact ⟨trivial, Keep.refl _ _⟩
        by_cases h13 : i = 13
        · subst h13
          simp only [List.getElem?_toArray, List.getElem?_cons_zero, List.getElem?_cons_succ, Option.some.injEq] at hoo
          subst hoo
          refine Does.no (j := 2) (d := 25) (want := false) rfl rfl (hA ⟨2, .guard⟩ (by simp) rfl) ?_
          exact ⟨trivial, Keep.refl _ _⟩
        by_cases h14 : i = 14
        · subst h14
          simp only [List.getElem?_toArray, List.getElem?_cons_zero, List.getElem?_cons_succ, Option.some.injEq] at hoo
          subst hoo
          have e25 : a.tmps.getD 25 undef = .bool true := hA ⟨2, .data⟩ (by simp) rfl
          refine Does.plain rfl ?_
          unfold yieldsK
          go_simp
          exact ⟨rfl, Keep.refl _ _⟩
        omega
      case spec =>
        intro o a w' hoo
        simp at hoo
      case fin =>
        intro a w' hF gK hA
        have e37 : a.tmps.getD 37 undef = .bool true := hA 14 (by decide)
        have ha := frameD_list (l := [23, 24, 25, 26, 27, 28, 29, 30, 31, 32, 33, 34, 35, 36, 37]) rfl hF
        rw [ha]
        simp only [List.map_cons, List.map_nil, e37]
        generalize a.tmps.getD 23 undef = u0
        generalize a.tmps.getD 24 undef = u1
        generalize a.tmps.getD 25 undef = u2
        generalize a.tmps.getD 26 undef = u3
        generalize a.tmps.getD 27 undef = u4
        generalize a.tmps.getD 28 undef = u5
        generalize a.tmps.getD 29 undef = u6
        generalize a.tmps.getD 30 undef = u7
        generalize a.tmps.getD 31 undef = u8
        generalize a.tmps.getD 32 undef = u9
        generalize a.tmps.getD 33 undef = u10
        generalize a.tmps.getD 34 undef = u11
        generalize a.tmps.getD 35 undef = u12
        generalize a.tmps.getD 36 undef = u13
        simp only [fillD, List.setIfInBounds_toArray, List.set_cons_zero, List.set_cons_succ]
        have bz9 := bz3.keep gK id
        have kW9 := keepN kW3 gK
        have HD := Lib.hid (decI_2 h5 (.inl (by omega)))
        clear hA hF ha e37 gK bz3 kW3 hcv hR hC hmg hr3
        have f3 := fun i => bz9.frozen i
        have q0 := bz9.cell 0
        have q1 := bz9.cell 1
        simp only [List.getElem?_toArray, List.getElem?_cons_zero, List.getElem?_cons_succ] at q0 q1
        have hlt := bz9.lt
        have HP := Lib.hid (put2_img bz9 (.slice none 0 0) (.slice none 0 0))
        have HK := Lib.hid (kW9.trans (keep2_img _ w.heap.size (.slice none 0 0) (.slice none 0 0)) (fun k e hl => by omega))
        clear bz9 kW9
        go_wp2
        refine bodyPost_ret (ret_imgE (v := nilW) rfl rfl HP.out rfl) rfl ?_
        rw [HD.out]
        exact ⟨nilW, [], [], rfl, nil_own _ _, rfl, HK.out⟩
end Go.Proofs.YtgifflfjhockaaaGreatDoor.I

namespace Go.Proofs.YtgifflfjhockaaaGreatDoor.I
open Go.RowKit W

/-- A row that has just been made is owned. -/
theorem made_own {w : World} {E size n b : Nat} {cs : Array Value} {xs : List Value} {P : Nat → Prop} (hb : b = w.heap.size) (hs : cs.size = n * size) (hm : n ≤ maxLen) (hx : xs = cs.toList) (hP : P b) : Own (w.alloc (.cells cs E)) E size P (.slice (some ⟨b, 0, none⟩) n n) n xs := by
  subst hb hx
  exact own_blk (Blk.new w E cs) (by simpa using hs) hm hP
/-- The image of one function of a name that returns. -/
def oneF (S : ByteArray) : F.Fu := ⟨S.data.toList, [], [], [], [(24, 0, 0)]⟩
def oneV (m : Nat) (S : ByteArray) : F.FV := ⟨S, none, 0, 0, none, 0, 0, none, 0, 0, some ⟨m + 1, 0, none⟩, 1, 1⟩
def oneI (m : Nat) : IV := ⟨none, 0, 0, some ⟨m + 1 + 1, 0, none⟩, 1, 1⟩
set_option maxRecDepth 100000 in
set_option maxHeartbeats 4000000 in
theorem one_any (S : ByteArray) (w : World) : Calls Tryz.prog 29 #[.string S] w fun e w' => e = .returned (oneI w.heap.size).val ∧ OwnIm w' (Fresh w) (oneI w.heap.size) [] [(oneV w.heap.size S, oneF S)] ∧ Keep NoB w w' := by
  have bz := ((Blk.new w 25 (oneI w.heap.size).cells).alloc (.cells #[.int .i64 24, .int .i64 0, .int .i64 0] 63)).alloc (.cells (oneV w.heap.size S).cells 61)
  have k1 := (Keep.refl NoB w).alloc (.cells (oneI w.heap.size).cells 25)
  have k2 := k1.alloc (.cells #[.int .i64 24, .int .i64 0, .int .i64 0] 63)
  have k3 := k2.alloc (.cells (oneV w.heap.size S).cells 61)
  have a1 := made_own (w := w.alloc (.cells (oneI w.heap.size).cells 25)) (E := 63) (size := 3) (n := 1) (b := w.heap.size + 1) (cs := #[.int .i64 24, .int .i64 0, .int .i64 0]) (xs := C.iis [(24, 0, 0)]) (P := Fresh w) (by simp) rfl (by unfold maxLen; omega) rfl (Nat.le_succ _)
  have a2 := made_own (w := (w.alloc (.cells (oneI w.heap.size).cells 25)).alloc (.cells #[.int .i64 24, .int .i64 0, .int .i64 0] 63)) (E := 61) (size := 5) (n := 1) (b := w.heap.size + 1 + 1) (cs := (oneV w.heap.size S).cells) (xs := fvs [(oneV w.heap.size S, oneF S)]) (P := Fresh w) (by simp) rfl (by unfold maxLen; omega) (by simp [fvs]) (Nat.le_trans (Nat.le_succ _) (Nat.le_succ _))
  have b1 := a1.keepN ((Keep.refl NoB _).alloc (.cells (oneV w.heap.size S).cells 61))
  unfold IV.cells oneI oneV F.FV.cells at *
  dsimp only at *
  have HO := Lib.hid (And.intro b1 a2)
  have HB := Lib.hid bz
  have HK := Lib.hid k3
  clear a1 a2 b1 k1 k2 k3 bz
  go_enter Tryz.func29, Tryz.ntmps29
  go_wp2
  refine bodyPost_ret (ret_img (v := ⟨none, 0, 0, some ⟨w.heap.size + 1 + 1, 0, none⟩, 1, 1⟩) rfl rfl HB.out) rfl ?_
  obtain ⟨b1, a2⟩ := HO.out
  refine ⟨rfl, ⟨Own.nil _ _ _ _, a2, (fun _ h => nomatch h), fun e he => ?_⟩, HK.out⟩
  obtain rfl := List.mem_singleton.1 he
  exact ⟨rfl, Own.nil _ _ _ _, Own.nil _ _ _ _, Own.nil _ _ _ _, b1, F.some_I⟩
theorem one_lg (m : Nat) (S : ByteArray) (hS : S.size ≤ 100) : LgI (oneI m) [] [(oneV m S, oneF S)] := ⟨Nat.zero_le _, by show 1 ≤ _; omega, (fun _ h => nomatch h), fun e he => by
  obtain rfl := List.mem_singleton.1 he
  exact ⟨by show S.size ≤ _; omega, Nat.zero_le _, Nat.zero_le _, Nat.zero_le _, by show 1 ≤ _; omega⟩⟩
/-- Bytes out of a constant: the conversion marks their block. -/
theorem marked {w : World} {cs : Array Value} {n : Nat} (l : List UInt8) (h : cs = (V.bvs l).toArray) (hn : l.length = n) :
    (convert 26 26 (.slice (some ⟨w.heap.size, 0, none⟩) n n)).run Tryz.prog (w.alloc (.cells cs 5)) = .ok (.slice (some ⟨w.heap.size, 0, none⟩) n n) ((w.alloc (.cells cs 5)).freeze ⟨w.heap.size, n, none⟩ 1) ∧
    V.Rd ((w.alloc (.cells cs 5)).freeze ⟨w.heap.size, n, none⟩ 1) (some ⟨w.heap.size, 0, none⟩) l ∧ Keep NoB w ((w.alloc (.cells cs 5)).freeze ⟨w.heap.size, n, none⟩ 1) := by
  subst h hn
  have hm := heap_alloc_new w (.cells (V.bvs l).toArray 5)
  have h1 := run_mark (n := l.length) (c := l.length) hm
  rw [show (V.bvs l).toArray.size = l.length by simp] at h1
  have hp := PtV.mark ⟨some ⟨w.heap.size, 0, none⟩, l.length, rfl, rdB_blk hm⟩ (freeze_mark (k := l.length) hm).1
  exact ⟨h1, hp.rd, keep_mark ((Keep.refl NoB w).alloc _) hm (Nat.le_refl _)⟩
theorem sum_nil (w : World) : Calls Tryz.prog 18 #[.slice none 0 0] w fun e w' => e = .returned (.int .u32 1) ∧ w = w' :=
  sum_any none [] 0 0 w (Rd.none_ _ _) rfl (fun _ h => nomatch h) (Nat.zero_le _) (fun _ h => nomatch h) 1 rfl
theorem sum_one {w : World} {g : Nat} {A : Option Addr} {l : List UInt8} {n c : Nat} (h : Blk w g 26 #[.slice A n c]) (hr : V.Rd w A l) (hn : l.length = n) (hl : n ≤ 140737488355328) (R : Nat) (hR : sumN l = R) :
    Calls Tryz.prog 18 #[.slice (some ⟨g, 0, none⟩) 1 1] w fun e w' => e = .returned (.int .u32 (R : Int)) ∧ w = w' :=
  sum_any _ [(⟨A, n, c⟩, l)] 1 1 w (rd_single h) rfl (fun e he => by obtain rfl := List.mem_singleton.1 he; exact ⟨hr, hn⟩) (by omega) (fun e he => by obtain rfl := List.mem_singleton.1 he; exact hl) R (show _ = _ by simpa [allB] using hR)
theorem own_bytes {w : World} {O : Nat → Prop} {v : Value} {l : List UInt8} {n : Nat} (h : V.OwnB w O v l) (hn : l.length = n) : ∃ A c, v = .slice A n c ∧ n ≤ c ∧ V.Rd w A l := by
  subst hn
  obtain ⟨A, c, e, hc, hr, _, _⟩ := h.form
  exact ⟨A, c, e, hc, hr⟩

theorem enc_f : encI ⟨[], [oneF ⟨#[102]⟩]⟩ = [98, 107, 115, 116, 1, 0, 1, 1, 102, 0, 0, 0, 0, 1, 24, 25, 238, 2, 55] := by decide +kernel
theorem chk_f : chkI ⟨[], [oneF ⟨#[102]⟩]⟩ = 0 := by decide +kernel
theorem sum_wiki : sumN [87, 105, 107, 105, 112, 101, 100, 105, 97] = 300286872 := by decide +kernel
theorem encode_f (m : Nat) (w : World) (h : ImAt w (oneI m) [] [(oneV m ⟨#[102]⟩, oneF ⟨#[102]⟩)]) : Calls Tryz.prog 13 #[(oneI m).val] w fun e w' => ∃ A c, e = .returned (.tuple #[.slice A 19 c, .int .i64 0]) ∧ 19 ≤ c ∧ V.Rd w' A [98, 107, 115, 116, 1, 0, 1, 1, 102, 0, 0, 0, 0, 1, 24, 25, 238, 2, 55] ∧ Keep NoB w w' := by
  refine (encode_any (oneI m) [] _ w h (one_lg _ _ (by decide))).mono ?_
  rintro e w' ⟨u, rfl, hu, hk⟩
  have hu2 : V.OwnB w' (Fresh w) u [98, 107, 115, 116, 1, 0, 1, 1, 102, 0, 0, 0, 0, 1, 24, 25, 238, 2, 55] := by rw [← enc_f]; exact hu
  obtain ⟨A, c, rfl, hc, hr⟩ := own_bytes (n := 19) hu2 rfl
  exact ⟨A, c, congrArg (fun x => Ending.returned (.tuple #[.slice A 19 c, .int .i64 x])) chk_f, hc, hr, hk⟩
/-- What Decode answers where the bytes are no image's: no image, and an error. -/
theorem decode_no (A : Option Addr) (l : List UInt8) (n c : Nat) (w : World) (hr : V.Rd w A l) (hn : l.length = n) (hc : n ≤ c) (hcm : c ≤ maxLen) (hlen : n ≤ 1073741824) (E : Int) (hE : decI l = (nilI, E)) :
    Calls Tryz.prog 15 #[.slice A n c] w fun e w' => ∃ X Y cx cy, e = .returned (.tuple #[.agg #[.slice X 0 cx, .slice Y 0 cy], .int .i64 E]) ∧ Keep NoB w w' := by
  subst hn
  refine (decode_any A l c w hr hc hcm hlen).mono ?_
  rw [hE]
  rintro e w' ⟨v, es, fs, rfl, ho, hi, hk⟩
  have h1 : es = [] := List.map_eq_nil_iff.1 (congrArg Im.sh hi)
  have h2 : fs = [] := List.map_eq_nil_iff.1 (congrArg Im.fn hi)
  subst h1 h2
  have l1 := ho.im.lx
  have l2 := ho.im.ly
  obtain ⟨X, nx, cx, Y, ny, cy⟩ := v
  dsimp only [List.length_nil] at l1 l2
  subst l1 l2
  exact ⟨X, Y, cx, cy, rfl, hk⟩
set_option maxRecDepth 100000 in
set_option maxHeartbeats 8000000 in
theorem alive_any (w : World) : Calls Tryz.prog 31 #[] w fun e w' => e = .returned (.bool true) ∧ Keep NoB w w' := by
  go_enter Tryz.func31, Tryz.ntmps31
  go_wp2_with fail
  refine (one_any _ _).mono ?_
  rintro e w1 ⟨rfl, h1, gK⟩
  have HE := Lib.hid (encode_f _ _ h1.im)
  clear h1
  unfold oneI IV.val at *
  dsimp only at *
  go_wp2_with fail
  refine HE.out.mono ?_
  rintro e w2 ⟨A2, c2, rfl, hc2, r2, k1⟩
  replace gK := keepN gK k1
  clear k1 HE
  go_wp2_with fail
  refine (decode_no none [] 0 0 w2 (V.Rd.none_ _ _) rfl (Nat.le_refl _) (Nat.zero_le _) (Nat.zero_le _) 81 (decI_1 (by decide))).mono ?_
  rintro e w3 ⟨X3, Y3, cx3, cy3, rfl, k1⟩
  replace gK := keepN gK k1
  replace r2 := S.rd_n r2 k1
  clear k1
  have kA := (Keep.refl NoB w3).alloc (.cells #[.slice X3 0 cx3, .slice Y3 0 cy3] 25)
  obtain ⟨hcv, hrd, hkp⟩ := marked (w := w3.alloc (.cells #[.slice X3 0 cx3, .slice Y3 0 cy3] 25)) (cs := #[.int .u8 98, .int .u8 107, .int .u8 115, .int .u8 116, .int .u8 1]) (n := 5) magicL rfl rfl
  replace gK := keepN gK (keepN kA hkp)
  replace r2 := S.rd_n r2 (keepN kA hkp)
  clear kA hkp
  simp only [World.size_alloc] at hcv hrd r2 gK
  generalize World.freeze _ ⟨w3.heap.size + 1, 5, none⟩ 1 = w4 at *
  go_wp2_with fail
  refine (decode_no (some ⟨w3.heap.size + 1, 0, none⟩) magicL 5 5 w4 hrd rfl (Nat.le_refl _) (by unfold maxLen; omega) (by omega) 82 (decI_2 rfl (.inl (by decide)))).mono ?_
  rintro e w5 ⟨X5, Y5, cx5, cy5, rfl, k1⟩
  have kA := (Keep.refl NoB w5).alloc (.cells #[.slice X5 0 cx5, .slice Y5 0 cy5] 25)
  replace gK := keepN gK (keepN k1 kA)
  replace r2 := S.rd_n r2 (keepN k1 kA)
  clear k1 kA hcv hrd
  go_wp2_with fail
  refine (sum_nil _).mono ?_
  rintro e w6 ⟨rfl, rfl⟩
  obtain ⟨hcv, hrd, hkp⟩ := marked (w := w5.alloc (.cells #[.slice X5 0 cx5, .slice Y5 0 cy5] 25)) (cs := #[.int .u8 87, .int .u8 105, .int .u8 107, .int .u8 105, .int .u8 112, .int .u8 101, .int .u8 100, .int .u8 105, .int .u8 97]) (n := 9) [87, 105, 107, 105, 112, 101, 100, 105, 97] rfl rfl
  replace gK := keepN gK hkp
  replace r2 := S.rd_n r2 hkp
  simp only [World.size_alloc] at hcv hrd r2 gK
  clear hkp
  generalize World.freeze _ ⟨w5.heap.size + 1, 9, none⟩ 1 = w7 at *
  have bw := Blk.new w7 26 #[.slice (some ⟨w5.heap.size + 1, 0, none⟩) 9 9]
  have kA := (Keep.refl NoB w7).alloc (.cells #[.slice (some ⟨w5.heap.size + 1, 0, none⟩) 9 9] 26)
  replace gK := keepN gK kA
  replace r2 := S.rd_n r2 kA
  have HS := Lib.hid (sum_one bw (S.rd_n hrd kA) rfl (by omega) 300286872 sum_wiki)
  have hcs : ∀ c, (convert 26 9 (.slice A2 15 c)).run Tryz.prog (w7.alloc (.cells #[.slice (some ⟨w5.heap.size + 1, 0, none⟩) 9 9] 26)) = .ok (.string ⟨#[98, 107, 115, 116, 1, 0, 1, 1, 102, 0, 0, 0, 0, 1, 24]⟩) (w7.alloc (.cells #[.slice (some ⟨w5.heap.size + 1, 0, none⟩) 9 9] 26)) := fun c => V.conv_rd (l := [98, 107, 115, 116, 1, 0, 1, 1, 102, 0, 0, 0, 0, 1, 24]) (rd_tk r2 15)
  clear bw kA r2 hrd
  go_wp2_with fail
  refine HS.out.mono ?_
  rintro e w8 ⟨rfl, rfl⟩
  go_wp2
  go_ret
  exact ⟨rfl, gK⟩

end Go.Proofs.YtgifflfjhockaaaGreatDoor.I

namespace Go.Proofs.YtgifflfjhockaaaGreatDoor.I
open Go.RowKit W

theorem u8_infoZ : (Tryz.prog.info? 5).map (fun i => (i.zero, i.size, i.bytes)) = some (some (.int .u8 0), 1, 1) := by kernel_rfl
theorem made_zero (k : Nat) : madeCells #[.int .u8 0] k = (V.bvs (List.replicate k 0)).toArray := by
  unfold madeCells
  apply Array.ext
  · simp
  · intro i h1 h2
    simp [V.bvs, V.bv, Nat.mod_one]
theorem rd_zero (w : World) (k : Nat) : V.Rd (w.alloc (.cells (madeCells #[.int .u8 0] k) 5)) (some ⟨w.heap.size, 0, none⟩) (List.replicate k 0) := by
  have hm := heap_alloc_new w (.cells (madeCells #[.int .u8 0] k) 5)
  rw [made_zero] at hm ⊢
  exact rdB_blk hm
/-- Bytes from a place on. -/
def fromA (B : Option Addr) (k c : Nat) : Option Addr := if c = k then B else B.map (·.add k)
theorem rd_from {w : World} {B : Option Addr} {l : List UInt8} {c : Nat} (h : V.Rd w B l) (hc : l.length ≤ c) (k : Nat) : V.Rd w (fromA B k c) (l.drop k) := fun h0 => by
  rw [List.length_drop] at h0
  obtain ⟨ad, rfl, _⟩ := h (by omega)
  unfold fromA
  rw [if_neg (by omega)]
  exact rd_dp h k (by rw [List.length_drop]; omega)
theorem run_from (B : Option Addr) (n c k : Nat) (hk : k ≤ n) (W : World) : (Instr.slice 26 (.slice B n c) (some (.int .i64 (k : Int))) none none).run Tryz.prog W = .ok (.slice (fromA B k c) (n - k) (c - k)) W := by
  have he : Tryz.prog.elem 26 = 5 := by kernel_rfl
  have hi : (Tryz.prog.info? 5).map (·.size) = some 1 := by kernel_rfl
  obtain ⟨i, hi1, hi2⟩ := Option.map_eq_some_iff.1 hi
  have h1 : (sizeOf 5).run Tryz.prog W = .ok 1 W := by simp [sizeOf, typeInfo, hi1, hi2]
  rw [run_slice_l (P := Tryz.prog) W 26 B n c (by rw [he]; exact Tryz.underlying26) .i64 k (by omega) (by omega), he, h1]
  simp only [Result.andThen, sliced, Int.toNat_natCast, Nat.mul_one]
  rfl
theorem wrap_32 (z : Int) (h0 : 0 ≤ z) (h : z < 4294967296) : IntKind.u32.wrap z = z := by rw [IntKind.wrap_u32]; omega
theorem or_one (k : Nat) (hk : k ≤ 3000) : bits .or .u32 ((k : Int) * 65536) 1 = ((k * 65536 + 1 : Nat) : Int) := by
  rw [show (k : Int) * 65536 = ((k * 65536 : Nat) : Int) by omega, show (1 : Int) = ((1 : Nat) : Int) from rfl, u32_or_nat _ _ (by omega) (by omega)]
  congr 1
  have h := Nat.shiftLeft_add_eq_or_of_lt (show 1 < 2 ^ 16 by omega) k
  rw [Nat.shiftLeft_eq] at h
  exact h.symm
theorem xor_u8 (x y : UInt8) : bits .xor .u8 (x.toNat : Int) (y.toNat : Int) = ((x ^^^ y).toNat : Int) := by
  rw [u8_xor_nat _ _ x.toNat_lt y.toNat_lt]; rfl
theorem xor_ne {x y : UInt8} (h : y ≠ 0) : x ^^^ y ≠ x := by
  intro e
  apply h
  have e2 := congrArg (x ^^^ ·) e
  simp only [← UInt8.xor_assoc, UInt8.xor_self, UInt8.zero_xor] at e2
  exact e2
theorem sum_at {l : List UInt8} {j : Nat} {x y : UInt8} (h : l[j]? = some x) (hy : (y.toNat : Int) ≠ 0) : sumN (l.set j (x ^^^ y)) ≠ sumN l := by
  obtain ⟨hj, hx⟩ := List.getElem?_eq_some_iff.1 h
  exact sum_set l j hj _ (by rw [hx]; exact xor_ne (fun e => hy (by rw [e]; rfl)))
theorem own_headI {w : World} {O : Nat → Prop} {A : Option Addr} {n c : Nat} {l : List UInt8} (h : V.OwnB w O (.slice A n c) l) (hn : l.length = n) (h0 : 0 < n) : ∃ g, A = some ⟨g, 0, none⟩ := by
  rcases h.1.2 with ⟨e, e'⟩ | ⟨g, cap, cur, e, _⟩
  · omega
  · cases e; exact ⟨g, rfl⟩
theorem own_cellI {w : World} {O : Nat → Prop} {g n k c : Nat} {l : List UInt8} {x : UInt8} (h : V.OwnB w O (.slice (some ⟨g, 0, none⟩) n c) l) (hk : l[k]? = some x) : w.cell? ⟨g, k, none⟩ = some (.int .u8 (x.toNat : Int)) := by
  have := h.1.cells (g := g) rfl k (V.bv x) (by simp [V.bvs, hk])
  rw [show (⟨g, 0, none⟩ : Addr).add k = ⟨g, k, none⟩ by unfold Addr.add; split <;> simp_all] at this
  exact this
theorem own_frozenI {w : World} {O : Nat → Prop} {g n c : Nat} {l : List UInt8} (h : V.OwnB w O (.slice (some ⟨g, 0, none⟩) n c) l) (hn : l.length = n) (k : Nat) : w.frozen? ⟨g, k, none⟩ = false := by
  subst hn; exact h.1.frozenAt k
theorem own_setI {w : World} {O : Nat → Prop} {g n k c : Nat} {l : List UInt8} {z : Int} {x : UInt8} (h : V.OwnB w O (.slice (some ⟨g, 0, none⟩) n c) l) (hn : l.length = n) (hz : z = (x.toNat : Int)) : V.OwnB (w.setCell ⟨g, k, none⟩ (.int .u8 z)) O (.slice (some ⟨g, 0, none⟩) n c) (l.set k x) := by
  subst hn hz
  refine ⟨?_, h.2⟩
  have h1 := (h.1.stored k (V.bv x)).1
  rw [V.bvs_set] at h1
  simpa using h1
theorem keep_ownI {W : World} {n c g k : Nat} {l : List UInt8} {wb : World} (hk : Keep NoB wb W) (h : V.OwnB W (Fresh wb) (.slice (some ⟨g, 0, none⟩) n c) l) (u : Value) : Keep NoB wb (W.setCell ⟨g, k, none⟩ u) :=
  hk.setCell (fun hl => absurd (h.2 g rfl) (by unfold Fresh; simp at hl; omega)) u
theorem own_rdI {w : World} {O : Nat → Prop} {A : Option Addr} {n c : Nat} {l : List UInt8} (h : V.OwnB w O (.slice A n c) l) : V.Rd w A l := by
  obtain ⟨A', c', e, _, hr, _⟩ := h.form
  cases e; exact hr
theorem made_ownI (w : World) : V.OwnB (w.alloc (.cells #[] 5)) (Fresh w) (.slice (some ⟨w.heap.size, 0, none⟩) 0 0) [] :=
  ⟨World.ownsRow_made (e := 5) (size := 1) (base := 0) w #[] 0 (Nat.zero_le _) (Nat.zero_le _) rfl, fun g e => by simp [Value.ownBlock] at e; subst e; exact Nat.le_refl _⟩
theorem own_appI {w0 w W : World} {v v' : Value} {l r : List UInt8} (hv : V.OwnB w (Fresh w0) v l) (hk : Keep NoB w0 w) (hown : W.ownsRow 0 5 1 v' (l ++ r).length (V.bvs (l ++ r))) (hg : w.grownBy W v.ownBlock) (hat : v'.ownBlock = v.ownBlock ∨ v'.ownBlock = some w.heap.size) :
    V.OwnB W (Fresh w0) v' (l ++ r) ∧ Keep NoB w0 W :=
  ⟨⟨hown, fun g e => by
    rcases hat with h | h
    · rw [h] at e; exact hv.2 g e
    · rw [h] at e; cases e; exact hk.size⟩, hk.grown hg (fun g e h => absurd (hv.2 g e) (by unfold Fresh; omega))⟩
/-- What the values are that the law's region of parts yields. -/
def SP (B : Option Addr) (n c k R : Nat) : Nat → Value → World → Prop
  | 0 => fun u _ => u = .slice B n c
  | 1 => fun u _ => u = .int .i64 (k : Int)
  | 2 => fun u _ => u = .slice B k c
  | 3 => fun u _ => u = .slice B n c
  | 4 => fun u _ => u = .int .i64 (k : Int)
  | 5 => fun u _ => u = .slice (fromA B k c) (n - k) (c - k)
  | 6 => fun u w => ∃ g, u = .slice (some ⟨g, 0, none⟩) 2 2 ∧ Blk w g 26 #[.slice B k c, .slice (fromA B k c) (n - k) (c - k)]
  | 7 => fun u _ => u = .int .u32 (R : Int)
  | 8 => fun u _ => u = .int .u32 (R : Int)
  | 9 => fun u _ => u = .bool false
  | 10 => fun u _ => u = .bool false
  | 11 => fun u _ => u = .int .i64 (k : Int)
  | 12 => fun u w => ∃ g, u = .slice (some ⟨g, 0, none⟩) k k ∧ V.Rd w (some ⟨g, 0, none⟩) (List.replicate k 0)
  | 13 => fun u w => ∃ g g2, u = .slice (some ⟨g, 0, none⟩) 1 1 ∧ Blk w g 26 #[.slice (some ⟨g2, 0, none⟩) k k] ∧ V.Rd w (some ⟨g2, 0, none⟩) (List.replicate k 0)
  | 14 => fun u _ => u = .int .u32 ((k * 65536 + 1 : Nat) : Int)
  | 15 => fun u _ => u = .int .i64 (k : Int)
  | 16 => fun u _ => u = .int .u32 (k : Int)
  | 17 => fun u _ => u = .int .u32 ((k : Int) * 65536)
  | 18 => fun u _ => u = .int .u32 ((k * 65536 + 1 : Nat) : Int)
  | 19 => fun u _ => u = .bool false
  | 20 => fun u _ => u = .bool false
  | _ => fun _ _ => True
theorem SP_stable (B : Option Addr) (n c k R : Nat) : ∀ i u w w', SP B n c k R i u w → Keep NoB w w' → SP B n c k R i u w'
  | 0, _, _, _, h, _ | 1, _, _, _, h, _ | 2, _, _, _, h, _ | 3, _, _, _, h, _ | 4, _, _, _, h, _ | 5, _, _, _, h, _ => h
  | 6, _, _, _, ⟨g, e, hb⟩, hk => ⟨g, e, hb.keep hk id⟩
  | 7, _, _, _, h, _ | 8, _, _, _, h, _ | 9, _, _, _, h, _ | 10, _, _, _, h, _ | 11, _, _, _, h, _ => h
  | 12, _, _, _, ⟨g, e, hr⟩, hk => ⟨g, e, S.rd_n hr hk⟩
  | 13, _, _, _, ⟨g, g2, e, hb, hr⟩, hk => ⟨g, g2, e, hb.keep hk id, S.rd_n hr hk⟩
  | 14, _, _, _, h, _ | 15, _, _, _, h, _ | 16, _, _, _, h, _ | 17, _, _, _, h, _ | 18, _, _, _, h, _ | 19, _, _, _, h, _ | 20, _, _, _, h, _ => h
  | _ + 21, _, _, _, h, _ => h

set_option maxRecDepth 100000 in
set_option maxHeartbeats 8000000 in
theorem sums_walk (B : Option Addr) (l : List UInt8) (c at_ : Nat) (by_ : UInt8) (w : World) (hr : V.Rd w B l) (hc : l.length ≤ c) (hat : at_ < 65536) :
    Calls Tryz.prog 8 #[.slice B l.length c, .int .u16 (at_ : Int), .int .u8 (by_.toNat : Int)] w fun e w' => e = .returned (.bool true) ∧ Keep NoB w w' := by
  have hb8 := by_.toNat_lt
  by_cases h3 : l.length ≤ 3000
  · obtain ⟨n, hn⟩ : ∃ n, l.length = n := ⟨_, rfl⟩
    have HN := Lib.hid hn
    rw [hn] at h3 hc ⊢
    clear hn
    obtain ⟨k, hk⟩ : ∃ k, at_ % (n + 1) = k := ⟨_, rfl⟩
    have hkn : k ≤ n := by have := Nat.mod_lt at_ (show 0 < n + 1 by omega); omega
    have hrem : Int.tmod (at_ : Int) ((n : Int) + 1) = (k : Int) := by
      rw [show ((n : Int) + 1) = ((n + 1 : Nat) : Int) by omega, ← Int.ofNat_tmod, hk]
    have hz : ¬ ((n : Int) + 1 = 0) := by omega
    obtain ⟨R, hR⟩ : ∃ R, sumN l = R := ⟨_, rfl⟩
    have hRl : R < 4294967296 := by rw [← hR]; exact sumN_lt l
    have HR := Lib.hid hR
    clear hk hR
    go_enter Tryz.func8, Tryz.ntmps8
    go_wp2_with fail
    refine (alive_any _).mono ?_
    rintro e w1 ⟨rfl, gK⟩
    replace hr := S.rd_n hr gK
    have bw := Blk.new w1 26 #[.slice B n c]
    have kA := (Keep.refl NoB w1).alloc (.cells #[.slice B n c] 26)
    have HS := Lib.hid (sum_one bw (S.rd_n hr kA) HN.out (by omega) R HR.out)
    replace gK := keepN gK kA
    replace hr := S.rd_n hr kA
    clear bw kA
    go_wp2_with fail
    refine HS.out.mono ?_
    rintro e w2 ⟨rfl, rfl⟩
    generalize w1.alloc (.cells #[.slice B n c] 26) = w2 at *
    clear HS
    have HP0 := Lib.hid (rd_tk hr k)
    have HP1 := Lib.hid (rd_from hr (by rw [HN.out]; exact hc) k)
    have hsl := fun W => run_from B n c k hkn W
    have hmk := fun W => run_make_row' (P := Tryz.prog) 26 5 (.int .u8 0) 1 Tryz.underlying26 u8_infoZ rfl .i64 .i64 k (by omega) (by omega) W
    have hor := or_one k (by omega)
    go_wp2_with fail
    refine wp_region_props6 (fun i => [29, 30, 31, 32, 33, 34, 35, 36, 37, 38, 39, 40, 41, 42, 43, 44, 45, 46, 47, 48, 49].getD i 0) 9999 (NoB) (fun _ => false) (by kernel_rfl) (by kernel_rfl) (by kernel_rfl) (SP B n c k R) (fun i u x y _ _ _ h hk => SP_stable _ _ _ _ _ i u x y (by exact h) (by exact hk.mono (fun _ hf _ => hf))) (fun i u x y _ h hk => SP_stable _ _ _ _ _ i u x y h hk) rfl ?step ?spec ?fin
    case step =>
      intro i o a w' hoo hic hF hK hA
      have hi : i < 21 := by simpa using (Array.getElem?_eq_some_iff.1 hoo).1
      by_cases h0 : i = 0
      · subst h0
        simp only [List.getElem?_toArray, List.getElem?_cons_zero, Option.some.injEq] at hoo
        subst hoo
        have e0 : a.tmps.getD 0 undef = .slice B n c := hF.2.2 0 (by decide)
        refine Does.plain rfl ?_
        unfold yieldsK
        go_simp
        exact ⟨rfl, Keep.refl _ _⟩
      by_cases h1 : i = 1
      · subst h1
        simp only [List.getElem?_toArray, List.getElem?_cons_zero, List.getElem?_cons_succ, Option.some.injEq] at hoo
        subst hoo
        have e8 : a.tmps.getD 8 undef = .int .i64 (k : Int) := hF.2.2 8 (by decide)
        refine Does.plain rfl ?_
        unfold yieldsK
        go_simp
        exact ⟨rfl, Keep.refl _ _⟩
      by_cases h2 : i = 2
      · subst h2
        simp only [List.getElem?_toArray, List.getElem?_cons_zero, List.getElem?_cons_succ, Option.some.injEq] at hoo
        subst hoo
        have e29 : a.tmps.getD 29 undef = .slice B n c := hA ⟨0, .data⟩ (by simp) rfl
        have e30 : a.tmps.getD 30 undef = .int .i64 (k : Int) := hA ⟨1, .data⟩ (by simp) rfl
        have hkc : (k : Int) ≤ (c : Int) := by omega
        refine Does.plain rfl ?_
        unfold yieldsK
        go_simp
        exact ⟨rfl, Keep.refl _ _⟩
      by_cases h3 : i = 3
      · subst h3
        simp only [List.getElem?_toArray, List.getElem?_cons_zero, List.getElem?_cons_succ, Option.some.injEq] at hoo
        subst hoo
        have e0 : a.tmps.getD 0 undef = .slice B n c := hF.2.2 0 (by decide)
        refine Does.plain rfl ?_
        unfold yieldsK
        go_simp
        exact ⟨rfl, Keep.refl _ _⟩
      by_cases h4 : i = 4
      · subst h4
        simp only [List.getElem?_toArray, List.getElem?_cons_zero, List.getElem?_cons_succ, Option.some.injEq] at hoo
        subst hoo
        have e8 : a.tmps.getD 8 undef = .int .i64 (k : Int) := hF.2.2 8 (by decide)
        refine Does.plain rfl ?_
        unfold yieldsK
        go_simp
        exact ⟨rfl, Keep.refl _ _⟩
      by_cases h5 : i = 5
      · subst h5
        simp only [List.getElem?_toArray, List.getElem?_cons_zero, List.getElem?_cons_succ, Option.some.injEq] at hoo
        subst hoo
        have e32 : a.tmps.getD 32 undef = .slice B n c := hA ⟨3, .data⟩ (by simp) rfl
        have e33 : a.tmps.getD 33 undef = .int .i64 (k : Int) := hA ⟨4, .data⟩ (by simp) rfl
        refine Does.plain rfl ?_
        unfold yieldsK
        go_simp
        exact ⟨rfl, Keep.refl _ _⟩
      by_cases h6 : i = 6
      · subst h6
        simp only [List.getElem?_toArray, List.getElem?_cons_zero, List.getElem?_cons_succ, Option.some.injEq] at hoo
        subst hoo
        have e31 : a.tmps.getD 31 undef = .slice B k c := hA ⟨2, .data⟩ (by simp) rfl
        have e34 : a.tmps.getD 34 undef = .slice (fromA B k c) (n - k) (c - k) := hA ⟨5, .data⟩ (by simp) rfl
        refine Does.plain rfl ?_
        unfold yieldsK
        simp only [Array.getD_eq_getD_getElem?] at e31 e34
        go_simp
        exact ⟨⟨w'.heap.size, rfl, Blk.new _ _ _⟩, (Keep.refl _ _).alloc _⟩
      by_cases h7 : i = 7
      · subst h7
        simp only [List.getElem?_toArray, List.getElem?_cons_zero, List.getElem?_cons_succ, Option.some.injEq] at hoo
        subst hoo
        obtain ⟨g, e35, hb⟩ := hA ⟨6, .data⟩ (by simp) rfl
        have e35 : a.tmps.getD 35 undef = .slice (some ⟨g, 0, none⟩) 2 2 := e35
        refine Does.plain rfl ?_
        unfold yieldsK
        go_simp
        refine (sum_any (some ⟨g, 0, none⟩) [(⟨B, k, c⟩, l.take k), (⟨fromA B k c, n - k, c - k⟩, l.drop k)] 2 2 w' (rd_two hb) rfl (fun e he => by
          simp only [List.mem_cons, List.not_mem_nil, or_false] at he
          rcases he with rfl | rfl
          · exact ⟨S.rd_n HP0.out hK, by rw [List.length_take, HN.out]; show min k n = k; omega⟩
          · exact ⟨S.rd_n HP1.out hK, by rw [List.length_drop, HN.out]⟩) (by omega) (fun e he => by
          simp only [List.mem_cons, List.not_mem_nil, or_false] at he
          rcases he with rfl | rfl
          · show k ≤ _; omega
          · show n - k ≤ _; omega) R (by
          have e4 : allB [(⟨B, k, c⟩, l.take k), (⟨fromA B k c, n - k, c - k⟩, l.drop k)] = l := by simp [allB]
          show _ = _
          rw [e4]; exact HR.out)).mono ?_
        rintro e w5 ⟨rfl, rfl⟩
        exact ⟨_, rfl, rfl, Keep.refl _ _⟩
      by_cases h8 : i = 8
      · subst h8
        simp only [List.getElem?_toArray, List.getElem?_cons_zero, List.getElem?_cons_succ, Option.some.injEq] at hoo
        subst hoo
        have e9 : a.tmps.getD 9 undef = .int .u32 (R : Int) := hF.2.2 9 (by decide)
        refine Does.plain rfl ?_
        unfold yieldsK
        go_simp
        exact ⟨rfl, Keep.refl _ _⟩
      by_cases h9 : i = 9
      · subst h9
        simp only [List.getElem?_toArray, List.getElem?_cons_zero, List.getElem?_cons_succ, Option.some.injEq] at hoo
        subst hoo
        have e36 : a.tmps.getD 36 undef = .int .u32 (R : Int) := hA ⟨7, .data⟩ (by simp) rfl
        have e37 : a.tmps.getD 37 undef = .int .u32 (R : Int) := hA ⟨8, .data⟩ (by simp) rfl
        refine Does.plain rfl ?_
        unfold yieldsK
        go_simp
        exact ⟨rfl, Keep.refl _ _⟩
      by_cases h10 : i = 10
      · subst h10
        simp only [List.getElem?_toArray, List.getElem?_cons_zero, List.getElem?_cons_succ, Option.some.injEq] at hoo
        subst hoo
        have e38 : a.tmps.getD 38 undef = .bool false := hA ⟨9, .data⟩ (by simp) rfl
        refine Does.plain rfl ?_
        unfold yieldsK
        go_simp
        exact ⟨rfl, Keep.refl _ _⟩
      by_cases h11 : i = 11
      · subst h11
        simp only [List.getElem?_toArray, List.getElem?_cons_zero, List.getElem?_cons_succ, Option.some.injEq] at hoo
        subst hoo
        have e8 : a.tmps.getD 8 undef = .int .i64 (k : Int) := hF.2.2 8 (by decide)
        refine Does.yes (j := 10) (d := 39) (want := false) rfl rfl (hA ⟨10, .guard⟩ (by simp) rfl) ?_
        unfold yieldsK
        go_simp
        exact ⟨rfl, Keep.refl _ _⟩
      by_cases h12 : i = 12
      · subst h12
        simp only [List.getElem?_toArray, List.getElem?_cons_zero, List.getElem?_cons_succ, Option.some.injEq] at hoo
        subst hoo
        have e40 : a.tmps.getD 40 undef = .int .i64 (k : Int) := hA ⟨11, .data⟩ (by simp) rfl
        refine Does.yes (j := 10) (d := 39) (want := false) rfl rfl (hA ⟨10, .guard⟩ (by simp) rfl) ?_
        unfold yieldsK
        go_simp
        exact ⟨⟨w'.heap.size, rfl, rd_zero w' k⟩, (Keep.refl _ _).alloc _⟩
      by_cases h13 : i = 13
      · subst h13
        simp only [List.getElem?_toArray, List.getElem?_cons_zero, List.getElem?_cons_succ, Option.some.injEq] at hoo
        subst hoo
        obtain ⟨g2, e41, hz2⟩ := hA ⟨12, .data⟩ (by simp) rfl
        have e41 : a.tmps.getD 41 undef = .slice (some ⟨g2, 0, none⟩) k k := e41
        refine Does.yes (j := 10) (d := 39) (want := false) rfl rfl (hA ⟨10, .guard⟩ (by simp) rfl) ?_
        unfold yieldsK
        simp only [Array.getD_eq_getD_getElem?] at e41
        go_simp
        exact ⟨⟨w'.heap.size, g2, rfl, Blk.new _ _ _, S.rd_n hz2 ((Keep.refl _ _).alloc _)⟩, (Keep.refl _ _).alloc _⟩
      by_cases h14 : i = 14
      · subst h14
        simp only [List.getElem?_toArray, List.getElem?_cons_zero, List.getElem?_cons_succ, Option.some.injEq] at hoo
        subst hoo
        obtain ⟨g, g2, e42, hb, hz2⟩ := hA ⟨13, .data⟩ (by simp) rfl
        have e42 : a.tmps.getD 42 undef = .slice (some ⟨g, 0, none⟩) 1 1 := e42
        refine Does.yes (j := 10) (d := 39) (want := false) rfl rfl (hA ⟨10, .guard⟩ (by simp) rfl) ?_
        unfold yieldsK
        go_simp
        refine (sum_one hb hz2 (by simp) (by omega) (k * 65536 + 1) (sum_zero k (by omega))).mono ?_
        rintro e w5 ⟨rfl, rfl⟩
        exact ⟨_, rfl, rfl, Keep.refl _ _⟩
      by_cases h15 : i = 15
      · subst h15
        simp only [List.getElem?_toArray, List.getElem?_cons_zero, List.getElem?_cons_succ, Option.some.injEq] at hoo
        subst hoo
        have e8 : a.tmps.getD 8 undef = .int .i64 (k : Int) := hF.2.2 8 (by decide)
        refine Does.yes (j := 10) (d := 39) (want := false) rfl rfl (hA ⟨10, .guard⟩ (by simp) rfl) ?_
        unfold yieldsK
        go_simp
        exact ⟨rfl, Keep.refl _ _⟩
      by_cases h16 : i = 16
      · subst h16
        simp only [List.getElem?_toArray, List.getElem?_cons_zero, List.getElem?_cons_succ, Option.some.injEq] at hoo
        subst hoo
        have e44 : a.tmps.getD 44 undef = .int .i64 (k : Int) := hA ⟨15, .data⟩ (by simp) rfl
        refine Does.yes (j := 10) (d := 39) (want := false) rfl rfl (hA ⟨10, .guard⟩ (by simp) rfl) ?_
        unfold yieldsK
        go_simp
        exact ⟨congrArg (Value.int IntKind.u32) (wrap_32 _ (by omega) (by omega)), Keep.refl _ _⟩
      by_cases h17 : i = 17
      · subst h17
        simp only [List.getElem?_toArray, List.getElem?_cons_zero, List.getElem?_cons_succ, Option.some.injEq] at hoo
        subst hoo
        have e45 : a.tmps.getD 45 undef = .int .u32 (k : Int) := hA ⟨16, .data⟩ (by simp) rfl
        refine Does.yes (j := 10) (d := 39) (want := false) rfl rfl (hA ⟨10, .guard⟩ (by simp) rfl) ?_
        unfold yieldsK
        go_simp
        exact ⟨congrArg (Value.int IntKind.u32) (wrap_32 _ (by omega) (by omega)), Keep.refl _ _⟩
      by_cases h18 : i = 18
      · subst h18
        simp only [List.getElem?_toArray, List.getElem?_cons_zero, List.getElem?_cons_succ, Option.some.injEq] at hoo
        subst hoo
        have e46 : a.tmps.getD 46 undef = .int .u32 ((k : Int) * 65536) := hA ⟨17, .data⟩ (by simp) rfl
        refine Does.yes (j := 10) (d := 39) (want := false) rfl rfl (hA ⟨10, .guard⟩ (by simp) rfl) ?_
        unfold yieldsK
        go_simp
        exact ⟨rfl, Keep.refl _ _⟩
      by_cases h19 : i = 19
      · subst h19
        simp only [List.getElem?_toArray, List.getElem?_cons_zero, List.getElem?_cons_succ, Option.some.injEq] at hoo
        subst hoo
        have e43 : a.tmps.getD 43 undef = .int .u32 ((k * 65536 + 1 : Nat) : Int) := hA ⟨14, .data⟩ (by simp) rfl
        have e47 : a.tmps.getD 47 undef = .int .u32 ((k * 65536 + 1 : Nat) : Int) := hA ⟨18, .data⟩ (by simp) rfl
        refine Does.yes (j := 10) (d := 39) (want := false) rfl rfl (hA ⟨10, .guard⟩ (by simp) rfl) ?_
        unfold yieldsK
        go_simp
        exact ⟨rfl, Keep.refl _ _⟩
      by_cases h20 : i = 20
      · subst h20
        simp only [List.getElem?_toArray, List.getElem?_cons_zero, List.getElem?_cons_succ, Option.some.injEq] at hoo
        subst hoo
        have e39 : a.tmps.getD 39 undef = .bool false := hA ⟨10, .data⟩ (by simp) rfl
        have e48 : a.tmps.getD 48 undef = .bool false := hA ⟨19, .data⟩ (by simp) rfl
        refine Does.plain rfl ?_
        unfold yieldsK
        go_simp
        exact ⟨rfl, Keep.refl _ _⟩
      omega
    case spec =>
      intro o a w' hoo
      simp at hoo
    case fin =>
      intro a w' hF gKr hA
      have e49 : a.tmps.getD 49 undef = .bool false := hA 20 (by decide)
      have ha := frameD_list (l := [29, 30, 31, 32, 33, 34, 35, 36, 37, 38, 39, 40, 41, 42, 43, 44, 45, 46, 47, 48, 49]) rfl hF
      rw [ha]
      simp only [List.map_cons, List.map_nil, e49]
      generalize a.tmps.getD 29 undef = u0
      generalize a.tmps.getD 30 undef = u1
      generalize a.tmps.getD 31 undef = u2
      generalize a.tmps.getD 32 undef = u3
      generalize a.tmps.getD 33 undef = u4
      generalize a.tmps.getD 34 undef = u5
      generalize a.tmps.getD 35 undef = u6
      generalize a.tmps.getD 36 undef = u7
      generalize a.tmps.getD 37 undef = u8
      generalize a.tmps.getD 38 undef = u9
      generalize a.tmps.getD 39 undef = u10
      generalize a.tmps.getD 40 undef = u11
      generalize a.tmps.getD 41 undef = u12
      generalize a.tmps.getD 42 undef = u13
      generalize a.tmps.getD 43 undef = u14
      generalize a.tmps.getD 44 undef = u15
      generalize a.tmps.getD 45 undef = u16
      generalize a.tmps.getD 46 undef = u17
      generalize a.tmps.getD 47 undef = u18
      generalize a.tmps.getD 48 undef = u19
      simp only [fillD, List.setIfInBounds_toArray, List.set_cons_zero, List.set_cons_succ]
      have gK2 := keepN gK gKr
      have hr2 := S.rd_n hr gKr
      clear hA hF ha e49 gK gKr hr HP0 HP1 hsl hmk hor hrem
      generalize hRi : (R : Int) = Ri at *
      by_cases h0 : n = 0
      · subst h0
        go_wp2
        go_ret
        exact ⟨rfl, gK2⟩
      by_cases hy : by_ = 0
      · subst hy
        go_wp2
        go_ret
        exact ⟨rfl, gK2⟩
      have hj : k % n < n := Nat.mod_lt _ (by omega)
      obtain ⟨j, hjd⟩ : ∃ j, k % n = j := ⟨_, rfl⟩
      rw [hjd] at hj
      have hrem2 : Int.tmod (k : Int) (n : Int) = (j : Int) := by rw [← Int.ofNat_tmod, hjd]
      have hy2 : ¬ ((by_.toNat : Int) = 0) := fun e => hy (UInt8.toNat_inj.1 (by simpa using e))
      have hy3 : by_.toNat ≠ 0 := by omega
      clear hjd
      have hjl : j < l.length := by rw [HN.out]; exact hj
      obtain ⟨x, hx⟩ : ∃ x, l[j] = x := ⟨_, rfl⟩
      have hzx := xor_u8 x by_
      have hz0 := (x ^^^ by_).toNat_lt
      obtain ⟨z, hz1⟩ : ∃ z : Int, ((x ^^^ by_).toNat : Int) = z := ⟨_, rfl⟩
      rw [hz1] at hzx
      have hz2 : 0 ≤ z ∧ z < 256 := by omega
      have HX := Lib.hid hz1.symm
      clear hz0 hz1 hb8
      have HJ := Lib.hid (List.getElem?_eq_getElem hjl ▸ hx ▸ rfl : l[j]? = some x)
      clear hx hjl
      obtain rfl := HN.out
      have hq1 : ((l.length : Int) == 0) = false := beq_false_of_ne (by omega)
      have hq2 : ((by_.toNat : Int) == 0) = false := beq_false_of_ne hy2
      have bm := made_ownI w'
      have kM := (Keep.refl NoB w').alloc (.cells #[] 5)
      have hK := keepN gK2 kM
      have hO : V.OwnB (w'.alloc (.cells #[] 5)) (Fresh w) (.slice (some ⟨w'.heap.size, 0, none⟩) 0 0) [] := bm.mono (fun k hk _ => Nat.le_trans gK2.size hk)
      have hrM := S.rd_n hr2 kM
      have hle : ([] : List UInt8).length + l.length ≤ 140737488355328 := by simp; omega
      clear bm kM gK2 hr2 hy
      have hxb := x.toNat_lt
      have hbb := by_.toNat_lt
      obtain ⟨xz, hxz⟩ : ∃ xz : Int, (x.toNat : Int) = xz := ⟨_, rfl⟩
      obtain ⟨bz, hbz⟩ : ∃ bz : Int, (by_.toNat : Int) = bz := ⟨_, rfl⟩
      have hxb2 : 0 ≤ xz ∧ xz < 256 := by omega
      have hbb2 : 0 ≤ bz ∧ bz < 256 := by omega
      rw [hxz, hbz] at hzx
      rw [hbz] at hy2 hq2 ⊢
      have HXZ := Lib.hid hxz
      have HBZ := Lib.hid hbz
      clear hxb hbb hxz hbz hy3
      have hjn : (j : Int) < (l.length : Int) := by omega
      go_wp2_with (at_builtin; refine V.wpList_append_rd _ rfl (.tmp 58) (.tmp 59) rfl (.slice (some ⟨w'.heap.size, 0, none⟩) 0 0) [] l B c rfl hO.1 rfl hrM hle ?_; intro v5 w5 hown hg hat; obtain ⟨hO5, hK5⟩ := own_appI hO hK hown hg hat; clear hown hg hat hO hK hrM; rw [List.nil_append] at hO5; obtain ⟨Av, cv, rfl, hcv, hrv, hadv, hcmv⟩ := hO5.form; clear hrv hadv; obtain ⟨g, rfl⟩ := own_headI hO5 rfl (by omega); have hcell := own_cellI hO5 HJ.out; rw [HXZ.out] at hcell; have hfr := own_frozenI hO5 rfl j; have HO5 := Lib.hid (And.intro hO5 hK5); clear hO5 hK5)
      go_wp2_with fail
      obtain ⟨hO5, hK5⟩ := HO5.out
      have hset := own_setI (k := j) (z := z) hO5 rfl HX.out
      have hKs := keep_ownI (k := j) hK5 hO5 (.int .u8 z)
      have bw := Blk.new (w5.setCell ⟨g, j, none⟩ (.int .u8 z)) 26 #[.slice (some ⟨g, 0, none⟩) l.length cv]
      have kA := (Keep.refl NoB (w5.setCell ⟨g, j, none⟩ (.int .u8 z))).alloc (.cells #[.slice (some ⟨g, 0, none⟩) l.length cv] 26)
      have hR2 := sum_at (y := by_) HJ.out (by rw [HBZ.out]; exact hy2)
      rw [HR.out] at hR2
      simp only [World.size_setCell] at bw
      have HS := Lib.hid (sum_one bw (S.rd_n (own_rdI hset) kA) (by simp) (by omega) _ rfl)
      have HKs := Lib.hid (keepN hKs kA)
      clear hO5 hK5 hset hKs bw kA HO5 HX HJ hcell hfr
      generalize sumN (l.set j (x ^^^ by_)) = R2 at *
      have hR3 : ((R2 : Int) != Ri) = true := bne_iff_ne.2 (by omega)
      refine HS.out.mono ?_
      rintro e w8 ⟨rfl, rfl⟩
      clear HS
      go_wp2
      go_ret
      exact ⟨rfl, HKs.out⟩
  · have hq : decide ((3000 : Int) < (l.length : Int)) = true := by rw [decide_eq_true_iff]; omega
    generalize l.length = n at *
    go_enter Tryz.func8, Tryz.ntmps8
    go_wp2_with fail
    refine (alive_any _).mono ?_
    rintro e w1 ⟨rfl, gK⟩
    go_wp2
    go_ret
    exact ⟨rfl, gK⟩

end Go.Proofs.YtgifflfjhockaaaGreatDoor.I

namespace Go.Proofs.YtgifflfjhockaaaGreatDoor.O
open Go.ChangeShapes Go.WideShapes Go.ChangeAt Go.RowKit

end Go.Proofs.YtgifflfjhockaaaGreatDoor.O

namespace Go.Proofs.YtgifflfjhockaaaGreatDoor.F
open Go.ChangeShapes Go.WideShapes Go.ChangeAt Go.RowKit Go.Deep W

section
variable {H : Type} {enc : TypeId × Value → H} {W0 : World} {base : Nat} {spare : Nat → Bool} {held : Bool} {fuel : Nat} {cs : List Value} {x : DataW H × List MemPlace}
theorem read_ints (h : DataW.trod enc Tryz.prog W0 base spare held fuel 55 cs = some x) : ∃ A l c, cs = [.slice A l.length c] ∧ Rd W0 A (ivs l) ∧ l.length ≤ c ∧ c ≤ maxLen := by
  rcases open_ints Tryz.underlying55 Tryz.underlying3 (by kernel_rfl) h with ⟨hcs, _⟩ | ⟨a, len, cap, zs, hcs, _, hl, hm, hz, _, hcell, _⟩
  · exact ⟨none, [], 0, hcs, Rd.none_ _ _, Nat.le_refl _, Nat.zero_le _⟩
  · have hzl : len ≤ zs.length := by rw [hz]; split <;> omega
    have hlen : (zs.take len).length = len := by rw [List.length_take]; omega
    refine ⟨some a, zs.take len, cap, by rw [hlen]; exact hcs, fun h0 => ?_, by rw [hlen]; exact hl, hm⟩
    have h0' : 0 < len := by rw [List.length_map, hlen] at h0; exact h0
    have ea := C.addr_of_cell (hcell 0 (by omega))
    have ea' : a = ⟨a.block, a.off, none⟩ := by simpa [Addr.add] using ea
    refine ⟨a.block, a.off, by rw [← ea'], fun j u hu => ?_⟩
    obtain ⟨hj, hju⟩ := List.getElem?_eq_some_iff.1 hu
    have hj' : j < len := by simp at hj; omega
    have hc := hcell j (by omega)
    rw [ea', C.add_of] at hc
    rw [hc]
    simp at hju
    rw [← hju]
    simp [List.getD, List.getElem?_eq_getElem (show j < zs.length by omega)]
end
section
variable {H : Type} {enc : TypeId × Value → H} {w : World} {base b0 : Nat} {spare : Nat → Bool} {held : Bool} {r : Reach} {v : Value} {d : DataW H} {p : List MemPlace}
end

end Go.Proofs.YtgifflfjhockaaaGreatDoor.F
