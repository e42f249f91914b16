/-
  ImageParts' walk: an image may be just if its shapes, and functions, each alone, may be, there are not too many, and names are unlike; then each function is found by its name. Conditions: the image's lists lie in memory, each below 2^47, none longer than its room.
  What the rows of opcode share where strings.Cut is called, or bytes come in: the wrap that keeps the world's shape beside the laid variables. No conditions.
  The arguments of the laws: functions, and lists of values, opened. No conditions.
  The arguments of the laws: images opened. No conditions.
  An image opened, its lists' room beside. No conditions.
-/
import Derived.Deep.CutRange
import Derived.HandedShaped
import Derived.Shelf.Vars
import Derived.SizedLaws
import Derived.Test.YtgifflfjhockaaaGreatDoorQ12
import Derived.Test.YtgifflfjhockaaaGreatDoorQ13
import Derived.Test.YtgifflfjhockaaaGreatDoorQ8
import Derived.Test.YtgifflfjhockaaaGreatDoorQ5
import Derived.Test.YtgifflfjhockaaaGreatDoorQ9
namespace Go.Proofs.YtgifflfjhockaaaGreatDoor.I
open Go.RowKit W

def F0 (nx ny : Nat) : Bool := decide (nx ≤ 64 ∧ 1 ≤ ny ∧ ny ≤ 64)
def F1 (c : Bool) (es : List SE) (k : Nat) : Bool := c && (es.take k).all fun e => S.okS e.2
def nmF (e : FE) : List UInt8 := e.1.S.data.toList
def F2 (c : Bool) (fs : List FE) (k : Nat) : Bool := c && (decide (((fs.take k).map nmF).Nodup) && (fs.take k).all fun e => F.okF e.2)
/-- How often a name has come. -/
def cntN (fs : List FE) (k : Nat) (s : List UInt8) : Nat := ((fs.take k).map nmF).count s
theorem F1_zero (c : Bool) (es : List SE) : F1 c es 0 = c := by simp [F1]
theorem F1_succ (c : Bool) {es : List SE} {k : Nat} (h : k < es.length) : F1 c es (k + 1) = (F1 c es k && S.okS es[k].2) := by
  unfold F1; rw [List.take_succ_eq_append_getElem h, List.all_append]; simp [Bool.and_assoc]
theorem F2_zero (c : Bool) (fs : List FE) : F2 c fs 0 = c := by simp [F2]
theorem F2_succ (c : Bool) {fs : List FE} {k : Nat} (h : k < fs.length) : F2 c fs (k + 1) = (F2 c fs k && (decide (cntN fs k (nmF fs[k]) = 0) && F.okF fs[k].2)) := by
  unfold F2 cntN
  rw [List.take_succ_eq_append_getElem h, List.map_append, List.all_append]
  rw [Bool.eq_iff_iff]
  simp only [List.map_cons, List.map_nil, List.nodup_append, List.all_cons, List.all_nil, Bool.and_eq_true, decide_eq_true_eq, List.count_eq_zero, Bool.and_true]
  constructor
  · rintro ⟨h1, ⟨h2, _, h3⟩, h4, h5⟩
    exact ⟨⟨h1, h2, h4⟩, fun hm => h3 _ hm _ (by simp) rfl, h5⟩
  · rintro ⟨⟨h1, h2, h4⟩, h3, h5⟩
    refine ⟨h1, ⟨h2, by simp, fun a ha b hb e => ?_⟩, h4, h5⟩
    simp at hb
    subst hb
    subst e
    exact h3 ha
theorem cnt_succ {fs : List FE} {k : Nat} (h : k < fs.length) : ∀ s, cntN fs (k + 1) s = setS (cntN fs k) (nmF fs[k]) (cntN fs k (nmF fs[k]) + 1) s := by
  intro s
  unfold cntN setS
  rw [List.take_succ_eq_append_getElem h, List.map_append, List.count_append]
  by_cases e : s = nmF fs[k]
  · subst e; simp
  · rw [if_neg e]
    simp only [List.map_cons, List.map_nil]
    rw [List.count_singleton]
    have : (nmF fs[k] == s) = false := beq_false_of_ne (fun h => e h.symm)
    simp [this]
theorem fine_all {es : List SE} {fs : List FE} {nx ny : Nat} (hx : es.length = nx) (hy : fs.length = ny) (hN : NmsI fs) : F2 (F1 (F0 nx ny) es nx) fs ny = okI (imOf es fs) := by
  subst hx hy
  unfold F2 F1 F0 okI names imOf
  rw [List.take_of_length_le (Nat.le_refl _), List.take_of_length_le (Nat.le_refl _)]
  have e : fs.map nmF = (fs.map fun e => e.2).map fun f => f.nm := by
    rw [List.map_map]
    exact List.map_congr_left fun e he => hN e he
  rw [e, Bool.eq_iff_iff]
  simp only [Bool.and_eq_true, decide_eq_true_eq, List.length_map, List.all_map, Function.comp_def]
  constructor
  · rintro ⟨⟨⟨h1, h2, h3⟩, h4⟩, h5, h6⟩; exact ⟨⟨h1, ⟨h2, h3⟩, h5⟩, h4, h6⟩
  · rintro ⟨⟨h1, ⟨h2, h3⟩, h5⟩, h4, h6⟩; exact ⟨⟨⟨h1, h2, h3⟩, h4⟩, h5, h6⟩

theorem rd_svs1 {W : World} {g o : Nat} {e : SE} (h : W.cell? ⟨g, o, none⟩ = some (.slice e.1.A e.1.n e.1.c)) : Rd W (some ⟨g, o, none⟩) (svs [e]) := fun _ => ⟨g, o, rfl, fun j u hu => by
  match j, hu with
  | 0, hu => cases hu; exact h⟩
theorem fun_atS {W : World} {g off : Nat} {fs : List FE} (h : Rd W (some ⟨g, off, none⟩) (fvs fs)) {i : Nat} (hi : i < fs.length) : W.cell? ⟨g, off + i * 5, none⟩ = some (.string fs[i].1.S) := by
  obtain ⟨g', off', e, c0, _⟩ := fun_at h hi
  cases e; exact c0
theorem rd_fvs1 {W : World} {g off : Nat} {fs : List FE} (h : Rd W (some ⟨g, off, none⟩) (fvs fs)) {i : Nat} (hi : i < fs.length) : Rd W (some ⟨g, off + i * 5, none⟩) (fvs [fs[i]]) := fun _ => ⟨g, off + i * 5, rfl, fun j u hu => by
  obtain ⟨g', off', e, hc⟩ := h (by rw [fvs_length]; omega)
  cases e
  have hj : j < 5 := by have := (List.getElem?_eq_some_iff.1 hu).1; rw [fvs_length] at this; simpa using this
  have h1 := fvs_at fs i j hi hj
  have h2 := fvs_at [fs[i]] 0 j (by simp) hj
  rw [Nat.zero_mul, Nat.zero_add] at h2
  rw [h2] at hu
  have := hc (i * 5 + j) u (by rw [h1]; exact hu)
  rwa [← Nat.add_assoc] at this⟩
theorem okF_one : F.okF (oneF ⟨#[102]⟩) = true := by decide +kernel
theorem okI_shape (l : List Int) : okI ⟨[l], [oneF ⟨#[102]⟩]⟩ = S.okS l := by
  unfold okI names
  simp [okF_one]
theorem okI_fun (f : F.Fu) : okI ⟨[], [f]⟩ = F.okF f := by
  unfold okI names
  simp
theorem chkI_if (p : Im) : chkI p = if okI p = true then 0 else 80 := rfl
/-- Check of an image of one shape, and of a function that may be. -/
theorem check_one {W : World} {g o c m : Nat} {e : SE} (hc : W.cell? ⟨g, o, none⟩ = some (.slice e.1.A e.1.n e.1.c)) (hS : ShAt W e.1 e.2) (hn : e.1.n ≤ 100) (h5 : ImAt W (oneI m) [] [(oneV m ⟨#[102]⟩, oneF ⟨#[102]⟩)]) (R : Int) (hR : (if S.okS e.2 = true then (0 : Int) else 80) = R) :
    Calls Tryz.prog 20 #[.agg #[.slice (some ⟨g, o, none⟩) 1 c, .slice (some ⟨m + 1 + 1, 0, none⟩) 1 1]] W fun e' w' => e' = .returned (.int .i64 R) ∧ Keep NoB W w' := by
  refine check_any ⟨some ⟨g, o, none⟩, 1, c, some ⟨m + 1 + 1, 0, none⟩, 1, 1⟩ [e] [(oneV m ⟨#[102]⟩, oneF ⟨#[102]⟩)] W ⟨rd_svs1 hc, h5.ry, rfl, rfl, fun x hx => ?_, h5.hf⟩ ⟨by show 1 ≤ _; omega, by show 1 ≤ _; omega, fun x hx => ?_, (one_lg m ⟨#[102]⟩ (by decide)).fn⟩ R ?_
  · rw [List.mem_singleton.1 hx]; exact hS
  · rw [List.mem_singleton.1 hx]; omega
  · show chkI ⟨[e.2], [oneF ⟨#[102]⟩]⟩ = R
    rw [chkI_if, okI_shape]; exact hR
/-- Check of an image of one function. -/
theorem check_fun1 {W : World} {g o c : Nat} {e : FE} (hr : Rd W (some ⟨g, o, none⟩) (fvs [e])) (hF : F.FnAt W e.1 e.2) (hs : F.SmF e.1) (R : Int) (hR : (if F.okF e.2 = true then (0 : Int) else 80) = R) :
    Calls Tryz.prog 20 #[.agg #[.slice none 0 0, .slice (some ⟨g, o, none⟩) 1 c]] W fun e' w' => e' = .returned (.int .i64 R) ∧ Keep NoB W w' := by
  refine check_any ⟨none, 0, 0, some ⟨g, o, none⟩, 1, c⟩ [] [e] W ⟨Rd.none_ _ _, hr, rfl, rfl, (fun _ h => nomatch h), fun x hx => ?_⟩ ⟨Nat.zero_le _, by show 1 ≤ _; omega, (fun _ h => nomatch h), fun x hx => ?_⟩ R ?_
  · rw [List.mem_singleton.1 hx]; exact hF
  · rw [List.mem_singleton.1 hx]; exact hs.lg
  · show chkI ⟨[], [e.2]⟩ = R
    rw [chkI_if, okI_fun]; exact hR
theorem cnt_le (fs : List FE) (k : Nat) (s : List UInt8) : cntN fs k s ≤ k := by
  unfold cntN
  have := List.count_le_length (a := s) (l := (fs.take k).map nmF)
  rw [List.length_map, List.length_take] at this
  omega
theorem wf_nat {n : Nat} (h : n ≤ 1000) : (Lit.int .i64 (n : Int)).wf = true := by
  have hmin : IntKind.i64.min = -9223372036854775808 := rfl
  have hmax : IntKind.i64.max = 9223372036854775807 := rfl
  simp only [Lit.wf, Bool.and_eq_true, decide_eq_true_eq]
  omega
/-- What is found of a name that a function has. -/
theorem find_of {es : List SE} {fs : List FE} {j : Nat} (hj : j < fs.length) (hN : NmsI fs) : ∃ m, ∃ hm : m < fs.length, m ≤ j ∧ findN (imOf [] fs).fn (nmF fs[j]) = (m : Int) ∧ findE (imOf [] fs).fn (nmF fs[j]) = 0 ∧ fs[m].1.S = fs[j].1.S ∧ (okI (imOf es fs) = true → m = j) := by
  have hjl : (nmF fs[j]) = fs[j].2.nm := hN _ (List.getElem_mem hj)
  cases hf : findI (imOf [] fs).fn (nmF fs[j]) with
  | none =>
    unfold findI at hf
    rw [List.findIdx?_eq_none_iff] at hf
    have := hf fs[j].2 (List.mem_map.2 ⟨_, List.getElem_mem hj, rfl⟩)
    rw [hjl] at this
    simp at this
  | some m =>
    have h2 := hf
    unfold findI at h2
    rw [List.findIdx?_eq_some_iff_getElem] at h2
    obtain ⟨hm, h3, h4⟩ := h2
    have hmf : m < fs.length := by simpa [imOf] using hm
    have e3 : fs[m].2.nm = nmF fs[j] := by
      have := of_decide_eq_true h3
      simpa [imOf] using this
    have hmj : m ≤ j := by
      rcases Nat.lt_or_ge j m with h5 | h5
      · have := h4 j h5
        rw [hjl] at this
        simp [imOf] at this
      · exact h5
    have hnm : nmF fs[m] = nmF fs[j] := by rw [← e3]; exact hN _ (List.getElem_mem hmf)
    refine ⟨m, hmf, hmj, (find_yes hf).1, (find_yes hf).2, ?_, fun ho => ?_⟩
    · unfold nmF at hnm
      generalize fs[m].1.S = T at hnm
      generalize fs[j].1.S = U at hnm
      cases T; cases U; simp at hnm; rw [hnm]
    · have hnd := ((okI_iff _).1 ho).1.2.2
      have hl : (names (imOf es fs)).length = fs.length := by simp [names, imOf]
      refine (List.getElem_inj (h₀ := by omega) (h₁ := by omega) hnd).1 ?_
      simp only [names, imOf, List.getElem_map]
      rw [e3, hjl]
/-- What the values are that the law's last region yields. -/
def SZp (nx cx : Nat) (X Y : Option Addr) (ny cy b : Nat) : Nat → Value → World → Prop
  | 0 => fun u _ => u = .bool true
  | 1 => fun u _ => u = .bool true
  | 2 => fun u _ => u = .agg #[.slice X nx cx, .slice Y ny cy]
  | 3 => fun u _ => ∃ X2 c2, u = .agg #[.slice X2 ny c2, .int .i64 (nx : Int)]
  | 4 => fun u _ => ∃ X2 c2, u = .slice X2 ny c2
  | 5 => fun u _ => u = .int .i64 (ny : Int)
  | 6 => fun u _ => u = .pointer (some ⟨b, 1, none⟩)
  | 7 => fun u _ => u = .slice Y ny cy
  | 8 => fun u _ => u = .int .i64 (ny : Int)
  | 9 => fun u _ => u = .bool true
  | 10 => fun u _ => u = .bool true
  | 11 => fun u _ => u = .bool true
  | _ => fun _ _ => True
theorem SZp_stable (nx cx : Nat) (X Y : Option Addr) (ny cy b : Nat) (i : Nat) (u : Value) (w w' : World) (h : SZp nx cx X Y ny cy b i u w) : SZp nx cx X Y ny cy b i u w' := by
  unfold SZp at h ⊢
  split at h <;> exact h

set_option maxRecDepth 100000 in
set_option maxHeartbeats 4000000 in
theorem parts_walk (v : IV) (es : List SE) (fs : List FE) (w : World) (h : ImAt w v es fs) (hl : LgI v es fs) (hcx : v.nx ≤ v.cx) (hcy : v.ny ≤ v.cy) :
    Calls Tryz.prog 9 #[v.val] w fun e w' => e = .returned (.bool true) ∧ Keep NoB w w' := by
  have bx := Blk.new w 25 v.cells
  have gK := (Keep.refl NoB w).alloc (.cells v.cells 25)
  have HG := Lib.hid (fun W (hk : Keep NoB w W) => great_any v es fs W (h.keepN hk) hl)
  have HI := Lib.hid (fun W (hk : Keep NoB w W) => h.keepN hk)
  have HCK := Lib.hid (fun W (hk : Keep NoB w W) => check_any v es fs W (h.keepN hk) hl _ rfl)
  have hlx := h.lx
  have hly := h.ly
  have HF := Lib.hid (fine_all hlx hly (nms_of h))
  have HNM := Lib.hid (nms_of h)
  clear h hl
  obtain ⟨X, nx, cx, Y, ny, cy⟩ := v
  dsimp only [IV.val, IV.cells] at *
  go_enter Tryz.func9, Tryz.ntmps9
  go_wp2_with fail
  refine (alive_any _).mono ?_
  rintro e w1 ⟨rfl, k1⟩
  replace bx := bx.keep k1 id
  replace gK := keepN gK k1
  clear k1
  obtain ⟨p0, p1⟩ := blk2 (v := ⟨X, nx, cx, Y, ny, cy⟩) bx
  dsimp only at p0 p1
  go_wp2_with fail
  refine (HG.out _ gK).mono ?_
  rintro e wB ⟨hg, k2⟩
  replace bx := bx.keep k2 id
  replace gK := keepN gK k2
  clear k2 p0 p1 HG
  rcases hg with ⟨rfl, hsm, hg2⟩ | rfl
  rotate_left
  · clear bx
    go_wp2
    go_ret
    exact ⟨rfl, gK⟩
  clear hg2
  have hnx := hsm.ns
  have hny := hsm.nf
  rw [hlx] at hnx
  rw [hly] at hny
  have HSM := Lib.hid hsm
  clear hsm
  obtain ⟨p0, p1⟩ := blk2 (v := ⟨X, nx, cx, Y, ny, cy⟩) bx
  dsimp only at p0 p1
  go_upto_region 4 with fail
  go_cut [4] from 21 to 36 (fun c wx => c = .bool (F0 nx ny) ∧ wx = wB)
  case first =>
    by_cases h1 : nx ≤ 64
    · by_cases h2 : 1 ≤ ny
      · by_cases h3 : ny ≤ 64
        · have hF : F0 nx ny = true := decide_eq_true ⟨h1, h2, h3⟩
          go_wp2_with fail
          go_meet
          exact ⟨congrArg Value.bool (by rw [hF]; exact decide_eq_true (by omega)), rfl⟩
        · have hF : F0 nx ny = false := decide_eq_false (fun h => h3 h.2.2)
          go_wp2_with fail
          go_meet
          exact ⟨congrArg Value.bool (by rw [hF]; exact decide_eq_false (by omega)), rfl⟩
      · have hF : F0 nx ny = false := decide_eq_false (fun h => h2 h.2.1)
        go_wp2_with fail
        go_meet
        exact ⟨congrArg Value.bool hF.symm, rfl⟩
    · have hF : F0 nx ny = false := decide_eq_false (fun h => h1 h.1)
      go_wp2_with fail
      go_meet
      exact ⟨congrArg Value.bool hF.symm, rfl⟩
  case rest =>
    obtain ⟨rfl, rfl⟩ := hcut
    generalize F0 nx ny = c0 at *
    go_wp2_with fail
    go_loopw [4, 40] (fun f i wr => ∃ k : Nat, k ≤ nx ∧ i = .int .i64 k ∧ f = .bool (F1 c0 es k) ∧ Keep NoB wc wr) (fun _ i _ => nx - (intOf i).toNat)
    case atStart => exact ⟨0, Nat.zero_le _, rfl, by rw [F1_zero], Keep.refl _ _⟩
    case round =>
      obtain ⟨k, hk, rfl, rfl, hK⟩ := hrel
      replace p0 := hK.cell p0 id
      have hp0r := p0
      by_cases hlt : k < nx
      · have hke : k < es.length := by omega
        obtain ⟨g, off, rfl, d0⟩ := shape_at (HI.out wr (keepN gK hK)).rx hke
        have HSU := Lib.hid (F1_succ c0 hke)
        have HSA := Lib.hid (fun W hk => (HI.out W hk).hs _ (List.getElem_mem hke))
        have hsz := HSM.out.sh _ (List.getElem_mem hke)
        generalize es[k] = e at *
        obtain ⟨⟨A, n, c⟩, l⟩ := e
        dsimp only at *
        go_wp2_with fail
        refine (one_any ⟨#[102]⟩ wr).mono ?_
        rintro e w5 ⟨rfl, h5, k5⟩
        have kA := (Keep.refl NoB w5).alloc (.cells #[.slice none 0 0, .slice (some ⟨wr.heap.size + 1 + 1, 0, none⟩) 1 1] 25)
        have r0 := (keepN k5 kA).cell p0 id
        have hkc : (k : Int) + 1 ≤ (cx : Int) := by omega
        have hkn : ¬ (cx = k) := by omega
        unfold oneI IV.val IV.cells at *
        dsimp only at *
        have kF := (Keep.refl NoB w5).alloc (.cells #[.slice (some ⟨g, off + k, none⟩) 1 (cx - k), .slice (some ⟨wr.heap.size + 1 + 1, 0, none⟩) 1 1] 25)
        cases hf : F1 c0 es k
        · rw [hf, Bool.false_and] at HSU
          have HKF := Lib.hid (keepN hK (keepN k5 kF))
          clear h5 k5 kA kF hK HSA
          go_wp2
          go_roundw
          case rel => exact ⟨k + 1, by omega, by go_num, by rw [HSU.out], HKF.out⟩
          case measure => simp [intOf]; omega
        · rw [hf, Bool.true_and] at HSU
          have HCO := Lib.hid (fun R hR => check_one (W := w5.alloc (.cells #[.slice (some ⟨g, off + k, none⟩) 1 (cx - k), .slice (some ⟨wr.heap.size + 1 + 1, 0, none⟩) 1 1] 25)) (g := g) (o := off + k) (c := cx - k) (m := wr.heap.size) (e := (⟨A, n, c⟩, l)) ((keepN k5 kF).cell d0 id) (HSA.out _ (keepN gK (keepN hK (keepN k5 kF)))) hsz (h5.im.keepN kF) R hR)
          have HKF := Lib.hid (keepN hK (keepN k5 kF))
          clear h5 k5 kA kF hK HSA
          cases ho : S.okS l
          · rw [ho] at HSU HCO
            go_wp2_with fail
            refine (HCO.out 80 rfl).mono ?_
            rintro e w7 ⟨rfl, k7⟩
            have HK7 := Lib.hid (keepN HKF.out k7)
            clear k7
            go_wp2
            go_roundw
            case rel => exact ⟨k + 1, by omega, by go_num, by rw [HSU.out], HK7.out⟩
            case measure => simp [intOf]; omega
          · rw [ho] at HSU HCO
            go_wp2_with fail
            refine (HCO.out 0 rfl).mono ?_
            rintro e w7 ⟨rfl, k7⟩
            have HK7 := Lib.hid (keepN HKF.out k7)
            clear k7
            go_wp2
            go_roundw
            case rel => exact ⟨k + 1, by omega, by go_num, by rw [HSU.out], HK7.out⟩
            case measure => simp [intOf]; omega
      · obtain rfl : k = nx := by omega
        obtain ⟨wM, hwM⟩ : ∃ wM, wM = wr := ⟨_, rfl⟩
        subst hwM
        replace p1 := hK.cell p1 id
        replace gK := keepN gK hK
        clear hK hlt
        have hM0 := SMap.new Tryz.prog 9 3 wM
        have kM := (Keep.refl NoB wM).alloc (.map #[] 0)
        generalize F1 c0 es k = c1 at *
        have hmm := @run_makeMap Tryz.prog
        have r1 := kM.cell p1 id
        have HM0 : Hid (SMap Tryz.prog 9 3 wM.heap.size 0 (cntN fs 0) (wM.alloc (.map #[] 0)) ∧ Keep NoB wM (wM.alloc (.map #[] 0))) := ⟨hM0.congr (fun x => by simp [cntN]), kM⟩
        clear hM0 kM
        go_wp2_with fail
        go_loopw [4, 62] (fun f i wr => ∃ j : Nat, j ≤ ny ∧ i = .int .i64 j ∧ f = .bool (F2 c1 fs j) ∧ Hid (SMap Tryz.prog 9 3 wM.heap.size j (cntN fs j) wr ∧ Keep NoB wM wr)) (fun _ i _ => ny - (intOf i).toNat)
        case atStart => exact ⟨0, Nat.zero_le _, rfl, by rw [F2_zero], HM0⟩
        case round =>
          obtain ⟨j, hj, rfl, rfl, HM⟩ := hrel
          clear HM0
          obtain ⟨hM, hK⟩ := HM.out
          replace p0 := hK.cell p0 id
          replace p1 := hK.cell p1 id
          clear r1
          by_cases hlt : j < ny
          · have hje : j < fs.length := by omega
            have hry := (HI.out wr (keepN gK hK)).ry
            obtain ⟨g, off, rfl, _⟩ := fun_at hry hje
            have d0 := fun_atS hry hje
            have hsm := HSM.out.fn _ (List.getElem_mem hje)
            have hsz : fs[j].1.S.size ≤ maxLen := by have := hsm.sz; unfold maxLen; omega
            obtain ⟨em, cmc, hobj⟩ := hM.obj
            have hql := cnt_le fs j (nmF fs[j])
            have hlk := hM.look (t := 75) Tryz.underlying75 Tryz.underlying9 Tryz.underlying3 (met_zero _) fs[j].1.S hsz
            obtain ⟨w5, hup, hM5, hg5⟩ := hM.update (t := 75) Tryz.underlying75 Tryz.underlying9 Tryz.underlying3 (by unfold maxLen; omega) fs[j].1.S (cntN fs j (nmF fs[j]) + 1) hsz (wf_nat (by omega))
            have hlk5 := hM5.look (t := 75) Tryz.underlying75 Tryz.underlying9 Tryz.underlying3 (met_zero _) fs[j].1.S hsz
            have hK5 := hK.grown hg5 (fun g e hl => by cases e; omega)
            have hry5 := (HI.out w5 (keepN gK hK5)).ry
            have e0 := fun_atS hry5 hje
            have HR1 := Lib.hid (rd_fvs1 hry5 hje)
            have HFA := Lib.hid ((HI.out w5 (keepN gK hK5)).hf _ (List.getElem_mem hje))
            have HM5 : Hid (SMap Tryz.prog 9 3 wM.heap.size (j + 1) (cntN fs (j + 1)) w5 ∧ Keep NoB wM w5) := ⟨hM5.congr (cnt_succ hje), hK5⟩
            have s0 : w5.cell? ⟨w.heap.size, 0, none⟩ = _ := (World.cell?_of_block (hg5.block _ (World.block_lt_of_cell? _ _ p0) (fun e => by
              have e2 : wM.heap.size = w.heap.size := by simpa using e.symm
              have := World.block_lt_of_cell? _ _ hp0r
              simp at this; omega))).trans p0
            have s1 : w5.cell? ⟨w.heap.size, 1, none⟩ = _ := (World.cell?_of_block (hg5.block _ (World.block_lt_of_cell? _ _ p1) (fun e => by
              have e2 : wM.heap.size = w.heap.size := by simpa using e.symm
              have := World.block_lt_of_cell? _ _ hp0r
              simp at this; omega))).trans p1
            have HSU := Lib.hid (F2_succ c1 hje)
            have e2 : setS (cntN fs j) fs[j].1.S.data.toList (cntN fs j (nmF fs[j]) + 1) fs[j].1.S.data.toList = cntN fs j (nmF fs[j]) + 1 := if_pos rfl
            rw [e2] at hlk5
            change (Instr.lookup 75 (.map (some wM.heap.size)) (.string fs[j].1.S) false).run Tryz.prog wr = .ok (.int .i64 ((cntN fs j (nmF fs[j]) : Nat) : Int)) wr at hlk
            rw [show ((cntN fs j (nmF fs[j]) + 1 : Nat) : Int) = (cntN fs j (nmF fs[j]) : Int) + 1 by omega] at hup hlk5
            clear hM hM5 hg5 hobj hry hry5 e2 HM hK hK5
            generalize cntN fs j (nmF fs[j]) = q at *
            generalize fs[j] = e at *
            obtain ⟨fv, f⟩ := e
            dsimp only at *
            have hjc : (j : Int) + 1 ≤ (cy : Int) := by omega
            have hjn : ¬ (cy = j) := by omega
            cases hf : F2 c1 fs j
            · rw [hf, Bool.false_and] at HSU
              go_wp2
              go_roundw
              case rel => exact ⟨j + 1, by omega, by go_num, by rw [HSU.out], HM5⟩
              case measure => simp [intOf]; omega
            · rw [hf, Bool.true_and] at HSU
              by_cases hq : q = 0
              · subst hq
                rw [show ((0 : Nat) : Int) = 0 from rfl] at hlk
                rw [show ((0 : Nat) : Int) + 1 = 1 from rfl] at hup hlk5
                rw [decide_eq_true (rfl : (0 : Nat) = 0), Bool.true_and] at HSU
                have HCO := Lib.hid (fun R hR => check_fun1 (c := cy - j) HR1.out HFA.out hsm R hR)
                dsimp only at HCO
                cases ho : F.okF f
                · rw [ho] at HSU HCO
                  go_wp2_with fail
                  refine (HCO.out 80 rfl).mono ?_
                  rintro e w7 ⟨rfl, k7⟩
                  have HK7 := Lib.hid (And.intro (HM5.out.1.keep k7 id) (keepN HM5.out.2 k7))
                  clear k7
                  go_wp2
                  go_roundw
                  case rel => exact ⟨j + 1, by omega, by go_num, by rw [HSU.out], HK7⟩
                  case measure => simp [intOf]; omega
                · rw [ho] at HSU HCO
                  go_wp2_with fail
                  refine (HCO.out 0 rfl).mono ?_
                  rintro e w7 ⟨rfl, k7⟩
                  have HK7 := Lib.hid (And.intro (HM5.out.1.keep k7 id) (keepN HM5.out.2 k7))
                  clear k7
                  go_wp2
                  go_roundw
                  case rel => exact ⟨j + 1, by omega, by go_num, by rw [HSU.out], HK7⟩
                  case measure => simp [intOf]; omega
              · rw [decide_eq_false hq, Bool.false_and] at HSU
                have hq1 : ((q : Int) + 1 == 1) = false := beq_false_of_ne (by omega)
                have hq2 : ¬ ((q : Int) + 1 = 1) := by omega
                go_wp2
                go_roundw
                case rel => exact ⟨j + 1, by omega, by go_num, by rw [HSU.out], HM5⟩
                case measure => simp [intOf]; omega
          · obtain rfl : j = ny := by omega
            have HCK2 := Lib.hid (HCK.out wr (keepN gK hK))
            replace gK := keepN gK hK
            clear hM HM hK hlt HCK
            have HFO : Hid (∀ i (hi : i < fs.length), ∃ m, ∃ hm : m < fs.length, m ≤ i ∧ (okI (imOf es fs) = true → m = i) ∧ fs[m].1.S = fs[i].1.S ∧ ∀ W, Keep NoB w W → Calls Tryz.prog 22 #[.agg #[.slice X k cx, .slice Y j cy], .string fs[i].1.S] W fun e w' => e = .returned (.tuple #[.int .i64 (m : Int), .int .i64 0]) ∧ Keep NoB W w') := fun i hi => by
              obtain ⟨m, hm, h1, h2, h3, h4, h5⟩ := find_of (es := es) hi HNM.out
              refine ⟨m, hm, h1, h5, h4, fun W hk => ?_⟩
              have := find_any ⟨X, k, cx, Y, j, cy⟩ es fs fs[i].1.S (nmF fs[i]) W (HI.out W hk) (by show j ≤ 1000; omega) rfl
              rw [h2, h3] at this
              exact this
            have HCX := Lib.hid (fun W (hk : Keep NoB w W) => context_any ⟨X, k, cx, Y, j, cy⟩ es fs W (HI.out W hk) HSM.out.fn (by show j ≤ 1000; omega))
            dsimp only [IV.val] at HCX
            cases ho : okI (imOf es fs)
            · rw [chkI_no ho] at HCK2
              rw [ho] at HFO
              have hok : F2 c1 fs j = false := by rw [HF.out, ho]
              clear HF
              go_wp2_with fail
              refine HCK2.out.mono ?_
              rintro e w6 ⟨rfl, k6⟩
              replace p0 := k6.cell p0 id
              replace p1 := k6.cell p1 id
              replace gK := keepN gK k6
              clear k6 HCK2
              go_wp2_with fail
              go_loopw [106] (fun i wr => ∃ i0 : Nat, i0 ≤ j ∧ i = .int .i64 i0 ∧ Keep NoB w6 wr) (fun i _ => j - (intOf i).toNat)
              case atStart => exact ⟨0, Nat.zero_le _, rfl, Keep.refl _ _⟩
              case round =>
                obtain ⟨i0, hi0, rfl, hK⟩ := hrel
                by_cases hlt : i0 < j
                · have hie : i0 < fs.length := by omega
                  have hry := (HI.out wr (keepN gK hK)).ry
                  obtain ⟨g, off, rfl, _⟩ := fun_at hry hie
                  obtain ⟨m, hm, hmi, hmo, hS, hFD⟩ := HFO.out i0 hie
                  have HFD := Lib.hid (fun (n : KW wr) => hFD n.w (keepN (keepN gK hK) n.keep))
                  have d0 := fun_atS hry hie
                  have d1 := fun_atS hry hm
                  rw [hS] at d1
                  have hmj : (m : Int) < (j : Int) := by omega
                  have hij : (i0 : Int) < (j : Int) := by omega
                  have hgt : decide ((i0 : Int) < (m : Int)) = false := decide_eq_false (by omega)
                  have q0 := hK.cell p0 id
                  have q1 := hK.cell p1 id
                  clear hmo
                  clear hry hFD hS
                  generalize fs[i0].1.S = T at *
                  have z0 := fun n : KW wr => n.keep.cell q0 id
                  have z1 := fun n : KW wr => n.keep.cell q1 id
                  have zd := fun n : KW wr => n.keep.cell d0 id
                  go_wp2_with fail
                  refine wp_region_kept wr (by kernel_rfl) (by kernel_rfl) (Keep.refl NoB wr) ?_
                  repeat (go_big_quiet_step ((go_at_call 22; exact kept_of (HFD.out _))))
                  refine wpQuiet_nil ?_
                  rintro _ ⟨n9, rfl⟩
                  have hk9 := n9.keep
                  clear z0 z1 zd HFD
                  generalize n9.w = w9 at hk9 ⊢
                  replace q0 := hk9.cell q0 id
                  replace q1 := hk9.cell q1 id
                  replace d0 := hk9.cell d0 id
                  replace d1 := hk9.cell d1 id
                  have HK9 := Lib.hid (keepN hK hk9)
                  clear hk9 hK
                  go_wp2
                  go_quiet (fail)
                  go_wp2
                  go_roundw
                  case rel => exact ⟨i0 + 1, by omega, by go_num, HK9.out.drewN _⟩
                  case measure => simp [intOf]; omega
                · obtain rfl : i0 = j := by omega
                  have q0 := hK.cell p0 id
                  have q1 := hK.cell p1 id
                  have HC5 := Lib.hid (fun W hk => HCX.out W (keepN (keepN gK hK) hk))
                  replace gK := keepN gK hK
                  clear hK HFO HCX
                  go_wp2_with fail
                  refine wp_region_props6 (fun i => [151, 152, 153, 154, 155, 156, 157, 158, 159, 160, 161, 2].getD i 0) 9999 (NoB) (fun _ => false) (by kernel_rfl) (by kernel_rfl) (by kernel_rfl) (SZp k cx X Y i0 cy w.heap.size) (fun i u x y _ _ _ h _ => SZp_stable _ _ _ _ _ _ _ i u x y h) (fun i u x y _ h _ => SZp_stable _ _ _ _ _ _ _ i u x y h) rfl ?step ?spec ?fin
                  case step =>
                    intro i o a w' hoo hic hF hK hA
                    have hi : i < 12 := by simpa using (Array.getElem?_eq_some_iff.1 hoo).1
                    by_cases h0 : i = 0
                    · subst h0
                      simp only [List.getElem?_toArray, List.getElem?_cons_zero, Option.some.injEq] at hoo
                      subst hoo
                      have e3 : a.tmps.getD 3 undef = .bool true := hF.2.2 3 (by decide)
                      refine Does.plain rfl ?_
                      unfold yieldsK
                      go_simp
                      exact ⟨rfl, Keep.refl _ _⟩
                    by_cases h1 : i = 1
                    · subst h1
                      simp only [List.getElem?_toArray, List.getElem?_cons_zero, List.getElem?_cons_succ, Option.some.injEq] at hoo
                      subst hoo
                      have e151 : a.tmps.getD 151 undef = .bool true := hA ⟨0, .data⟩ (by simp) rfl
                      refine Does.plain rfl ?_
                      unfold yieldsK
                      go_simp
                      exact ⟨rfl, Keep.refl _ _⟩
                    by_cases h2 : i = 2
                    · subst h2
                      simp only [List.getElem?_toArray, List.getElem?_cons_zero, List.getElem?_cons_succ, Option.some.injEq] at hoo
                      subst hoo
                      have e1 : a.tmps.getD 1 undef = .pointer (some ⟨w.heap.size, 0, none⟩) := hF.2.2 1 (by decide)
                      have s0 := Keep.cell hK q0 id
                      have s1 := Keep.cell hK q1 id
                      refine Does.yes (j := 1) (d := 152) (want := true) rfl rfl (hA ⟨1, .guard⟩ (by simp) rfl) ?_
                      unfold yieldsK
                      go_simp
                      exact ⟨rfl, Keep.refl _ _⟩
                    by_cases h3 : i = 3
                    · subst h3
                      simp only [List.getElem?_toArray, List.getElem?_cons_zero, List.getElem?_cons_succ, Option.some.injEq] at hoo
                      subst hoo
                      have e153 : a.tmps.getD 153 undef = .agg #[.slice X k cx, .slice Y i0 cy] := hA ⟨2, .data⟩ (by simp) rfl
                      refine Does.yes (j := 1) (d := 152) (want := true) rfl rfl (hA ⟨1, .guard⟩ (by simp) rfl) ?_
                      unfold yieldsK
                      go_simp
                      refine (HC5.out w' hK).mono ?_
                      rintro e w5 ⟨X2, c2, gs2, rfl, _, _, _, h3⟩
                      exact ⟨_, rfl, ⟨X2, c2, rfl⟩, h3⟩
                    by_cases h4 : i = 4
                    · subst h4
                      simp only [List.getElem?_toArray, List.getElem?_cons_zero, List.getElem?_cons_succ, Option.some.injEq] at hoo
                      subst hoo
                      obtain ⟨X2, c2, e154⟩ := hA ⟨3, .data⟩ (by simp) rfl
                      have e154 : a.tmps.getD 154 undef = .agg #[.slice X2 i0 c2, .int .i64 (k : Int)] := e154
                      refine Does.yes (j := 1) (d := 152) (want := true) rfl rfl (hA ⟨1, .guard⟩ (by simp) rfl) ?_
                      unfold yieldsK
                      go_simp
                      exact ⟨⟨X2, c2, rfl⟩, Keep.refl _ _⟩
                    by_cases h5 : i = 5
                    · subst h5
                      simp only [List.getElem?_toArray, List.getElem?_cons_zero, List.getElem?_cons_succ, Option.some.injEq] at hoo
                      subst hoo
                      obtain ⟨X2, c2, e155⟩ := hA ⟨4, .data⟩ (by simp) rfl
                      have e155 : a.tmps.getD 155 undef = .slice X2 i0 c2 := e155
                      refine Does.yes (j := 1) (d := 152) (want := true) rfl rfl (hA ⟨1, .guard⟩ (by simp) rfl) ?_
                      unfold yieldsK
                      go_simp
                      exact ⟨rfl, Keep.refl _ _⟩
                    by_cases h6 : i = 6
                    · subst h6
                      simp only [List.getElem?_toArray, List.getElem?_cons_zero, List.getElem?_cons_succ, Option.some.injEq] at hoo
                      subst hoo
                      have e1 : a.tmps.getD 1 undef = .pointer (some ⟨w.heap.size, 0, none⟩) := hF.2.2 1 (by decide)
                      refine Does.yes (j := 1) (d := 152) (want := true) rfl rfl (hA ⟨1, .guard⟩ (by simp) rfl) ?_
                      unfold yieldsK
                      go_simp
                      exact ⟨rfl, Keep.refl _ _⟩
                    by_cases h7 : i = 7
                    · subst h7
                      simp only [List.getElem?_toArray, List.getElem?_cons_zero, List.getElem?_cons_succ, Option.some.injEq] at hoo
                      subst hoo
                      have e157 : a.tmps.getD 157 undef = .pointer (some ⟨w.heap.size, 1, none⟩) := hA ⟨6, .data⟩ (by simp) rfl
                      have s1 := Keep.cell hK q1 id
                      refine Does.yes (j := 1) (d := 152) (want := true) rfl rfl (hA ⟨1, .guard⟩ (by simp) rfl) ?_
                      unfold yieldsK
                      go_simp
                      exact ⟨rfl, Keep.refl _ _⟩
                    by_cases h8 : i = 8
                    · subst h8
                      simp only [List.getElem?_toArray, List.getElem?_cons_zero, List.getElem?_cons_succ, Option.some.injEq] at hoo
                      subst hoo
                      have e158 : a.tmps.getD 158 undef = .slice Y i0 cy := hA ⟨7, .data⟩ (by simp) rfl
                      refine Does.yes (j := 1) (d := 152) (want := true) rfl rfl (hA ⟨1, .guard⟩ (by simp) rfl) ?_
                      unfold yieldsK
                      go_simp
                      exact ⟨rfl, Keep.refl _ _⟩
                    by_cases h9 : i = 9
                    · subst h9
                      simp only [List.getElem?_toArray, List.getElem?_cons_zero, List.getElem?_cons_succ, Option.some.injEq] at hoo
                      subst hoo
                      have e156 : a.tmps.getD 156 undef = .int .i64 (i0 : Int) := hA ⟨5, .data⟩ (by simp) rfl
                      have e159 : a.tmps.getD 159 undef = .int .i64 (i0 : Int) := hA ⟨8, .data⟩ (by simp) rfl
                      refine Does.yes (j := 1) (d := 152) (want := true) rfl rfl (hA ⟨1, .guard⟩ (by simp) rfl) ?_
                      unfold yieldsK
                      go_simp
                      exact ⟨rfl, Keep.refl _ _⟩
                    by_cases h10 : i = 10
                    · subst h10
                      simp only [List.getElem?_toArray, List.getElem?_cons_zero, List.getElem?_cons_succ, Option.some.injEq] at hoo
                      subst hoo
                      have e152 : a.tmps.getD 152 undef = .bool true := hA ⟨1, .data⟩ (by simp) rfl
                      have e160 : a.tmps.getD 160 undef = .bool true := hA ⟨9, .data⟩ (by simp) rfl
                      refine Does.plain rfl ?_
                      unfold yieldsK
                      go_simp
                      exact ⟨rfl, Keep.refl _ _⟩
                    by_cases h11 : i = 11
                    · subst h11
                      simp only [List.getElem?_toArray, List.getElem?_cons_zero, List.getElem?_cons_succ, Option.some.injEq] at hoo
                      subst hoo
                      have e161 : a.tmps.getD 161 undef = .bool true := hA ⟨10, .data⟩ (by simp) rfl
                      refine Does.plain rfl ?_
                      unfold yieldsK
                      go_simp
                      exact ⟨rfl, Keep.refl _ _⟩
                    omega
                  case spec =>
                    intro o a w' hoo
                    simp at hoo
                  case fin =>
                    intro a w' hF gKr hA
                    have e2 : a.tmps.getD 2 undef = .bool true := hA 11 (by decide)
                    have ha := frameD_list (l := [151, 152, 153, 154, 155, 156, 157, 158, 159, 160, 161, 2]) rfl hF
                    rw [ha]
                    simp only [List.map_cons, List.map_nil, e2]
                    generalize a.tmps.getD 151 undef = u0
                    generalize a.tmps.getD 152 undef = u1
                    generalize a.tmps.getD 153 undef = u2
                    generalize a.tmps.getD 154 undef = u3
                    generalize a.tmps.getD 155 undef = u4
                    generalize a.tmps.getD 156 undef = u5
                    generalize a.tmps.getD 157 undef = u6
                    generalize a.tmps.getD 158 undef = u7
                    generalize a.tmps.getD 159 undef = u8
                    generalize a.tmps.getD 160 undef = u9
                    generalize a.tmps.getD 161 undef = u10
                    simp only [fillD, List.setIfInBounds_toArray, List.set_cons_zero, List.set_cons_succ]
                    have gK2 := keepN gK gKr
                    clear hA hF ha e2 gK gKr q0 q1 HC5
                    go_wp2
                    go_ret
                    exact ⟨rfl, gK2⟩
            · rw [chkI_ok ho] at HCK2
              rw [ho] at HFO
              have hok : F2 c1 fs j = true := by rw [HF.out, ho]
              clear HF
              go_wp2_with fail
              refine HCK2.out.mono ?_
              rintro e w6 ⟨rfl, k6⟩
              replace p0 := k6.cell p0 id
              replace p1 := k6.cell p1 id
              replace gK := keepN gK k6
              clear k6 HCK2
              go_wp2_with fail
              go_loopw [106] (fun i wr => ∃ i0 : Nat, i0 ≤ j ∧ i = .int .i64 i0 ∧ Keep NoB w6 wr) (fun i _ => j - (intOf i).toNat)
              case atStart => exact ⟨0, Nat.zero_le _, rfl, Keep.refl _ _⟩
              case round =>
                obtain ⟨i0, hi0, rfl, hK⟩ := hrel
                by_cases hlt : i0 < j
                · have hie : i0 < fs.length := by omega
                  have hry := (HI.out wr (keepN gK hK)).ry
                  obtain ⟨g, off, rfl, _⟩ := fun_at hry hie
                  obtain ⟨m, hm, hmi, hmo, hS, hFD⟩ := HFO.out i0 hie
                  have HFD := Lib.hid (fun (n : KW wr) => hFD n.w (keepN (keepN gK hK) n.keep))
                  have d0 := fun_atS hry hie
                  have d1 := fun_atS hry hm
                  rw [hS] at d1
                  have hmj : (m : Int) < (j : Int) := by omega
                  have hij : (i0 : Int) < (j : Int) := by omega
                  have hgt : decide ((i0 : Int) < (m : Int)) = false := decide_eq_false (by omega)
                  have q0 := hK.cell p0 id
                  have q1 := hK.cell p1 id
                  obtain rfl : i0 = m := (hmo (by first | rfl | trivial)).symm
                  clear hry hFD hS
                  generalize fs[i0].1.S = T at *
                  have z0 := fun n : KW wr => n.keep.cell q0 id
                  have z1 := fun n : KW wr => n.keep.cell q1 id
                  have zd := fun n : KW wr => n.keep.cell d0 id
                  go_wp2_with fail
                  refine wp_region_kept wr (by kernel_rfl) (by kernel_rfl) (Keep.refl NoB wr) ?_
                  repeat (go_big_quiet_step ((go_at_call 22; exact kept_of (HFD.out _))))
                  refine wpQuiet_nil ?_
                  rintro _ ⟨n9, rfl⟩
                  have hk9 := n9.keep
                  clear z0 z1 zd HFD
                  generalize n9.w = w9 at hk9 ⊢
                  replace q0 := hk9.cell q0 id
                  replace q1 := hk9.cell q1 id
                  replace d0 := hk9.cell d0 id
                  replace d1 := hk9.cell d1 id
                  have HK9 := Lib.hid (keepN hK hk9)
                  clear hk9 hK
                  go_wp2
                  go_quiet (fail)
                  go_wp2
                  go_roundw
                  case rel => exact ⟨i0 + 1, by omega, by go_num, HK9.out.drewN _⟩
                  case measure => simp [intOf]; omega
                · obtain rfl : i0 = j := by omega
                  have q0 := hK.cell p0 id
                  have q1 := hK.cell p1 id
                  have HC5 := Lib.hid (fun W hk => HCX.out W (keepN (keepN gK hK) hk))
                  replace gK := keepN gK hK
                  clear hK HFO HCX
                  go_wp2_with fail
                  refine wp_region_props6 (fun i => [151, 152, 153, 154, 155, 156, 157, 158, 159, 160, 161, 2].getD i 0) 9999 (NoB) (fun _ => false) (by kernel_rfl) (by kernel_rfl) (by kernel_rfl) (SZp k cx X Y i0 cy w.heap.size) (fun i u x y _ _ _ h _ => SZp_stable _ _ _ _ _ _ _ i u x y h) (fun i u x y _ h _ => SZp_stable _ _ _ _ _ _ _ i u x y h) rfl ?step ?spec ?fin
                  case step =>
                    intro i o a w' hoo hic hF hK hA
                    have hi : i < 12 := by simpa using (Array.getElem?_eq_some_iff.1 hoo).1
                    by_cases h0 : i = 0
                    · subst h0
                      simp only [List.getElem?_toArray, List.getElem?_cons_zero, Option.some.injEq] at hoo
                      subst hoo
                      have e3 : a.tmps.getD 3 undef = .bool true := hF.2.2 3 (by decide)
                      refine Does.plain rfl ?_
                      unfold yieldsK
                      go_simp
                      exact ⟨rfl, Keep.refl _ _⟩
                    by_cases h1 : i = 1
                    · subst h1
                      simp only [List.getElem?_toArray, List.getElem?_cons_zero, List.getElem?_cons_succ, Option.some.injEq] at hoo
                      subst hoo
                      have e151 : a.tmps.getD 151 undef = .bool true := hA ⟨0, .data⟩ (by simp) rfl
                      refine Does.plain rfl ?_
                      unfold yieldsK
                      go_simp
                      exact ⟨rfl, Keep.refl _ _⟩
                    by_cases h2 : i = 2
                    · subst h2
                      simp only [List.getElem?_toArray, List.getElem?_cons_zero, List.getElem?_cons_succ, Option.some.injEq] at hoo
                      subst hoo
                      have e1 : a.tmps.getD 1 undef = .pointer (some ⟨w.heap.size, 0, none⟩) := hF.2.2 1 (by decide)
                      have s0 := Keep.cell hK q0 id
                      have s1 := Keep.cell hK q1 id
                      refine Does.yes (j := 1) (d := 152) (want := true) rfl rfl (hA ⟨1, .guard⟩ (by simp) rfl) ?_
                      unfold yieldsK
                      go_simp
                      exact ⟨rfl, Keep.refl _ _⟩
                    by_cases h3 : i = 3
                    · subst h3
                      simp only [List.getElem?_toArray, List.getElem?_cons_zero, List.getElem?_cons_succ, Option.some.injEq] at hoo
                      subst hoo
                      have e153 : a.tmps.getD 153 undef = .agg #[.slice X k cx, .slice Y i0 cy] := hA ⟨2, .data⟩ (by simp) rfl
                      refine Does.yes (j := 1) (d := 152) (want := true) rfl rfl (hA ⟨1, .guard⟩ (by simp) rfl) ?_
                      unfold yieldsK
                      go_simp
                      refine (HC5.out w' hK).mono ?_
                      rintro e w5 ⟨X2, c2, gs2, rfl, _, _, _, h3⟩
                      exact ⟨_, rfl, ⟨X2, c2, rfl⟩, h3⟩
                    by_cases h4 : i = 4
                    · subst h4
                      simp only [List.getElem?_toArray, List.getElem?_cons_zero, List.getElem?_cons_succ, Option.some.injEq] at hoo
                      subst hoo
                      obtain ⟨X2, c2, e154⟩ := hA ⟨3, .data⟩ (by simp) rfl
                      have e154 : a.tmps.getD 154 undef = .agg #[.slice X2 i0 c2, .int .i64 (k : Int)] := e154
                      refine Does.yes (j := 1) (d := 152) (want := true) rfl rfl (hA ⟨1, .guard⟩ (by simp) rfl) ?_
                      unfold yieldsK
                      go_simp
                      exact ⟨⟨X2, c2, rfl⟩, Keep.refl _ _⟩
                    by_cases h5 : i = 5
                    · subst h5
                      simp only [List.getElem?_toArray, List.getElem?_cons_zero, List.getElem?_cons_succ, Option.some.injEq] at hoo
                      subst hoo
                      obtain ⟨X2, c2, e155⟩ := hA ⟨4, .data⟩ (by simp) rfl
                      have e155 : a.tmps.getD 155 undef = .slice X2 i0 c2 := e155
                      refine Does.yes (j := 1) (d := 152) (want := true) rfl rfl (hA ⟨1, .guard⟩ (by simp) rfl) ?_
                      unfold yieldsK
                      go_simp
                      exact ⟨rfl, Keep.refl _ _⟩
                    by_cases h6 : i = 6
                    · subst h6
                      simp only [List.getElem?_toArray, List.getElem?_cons_zero, List.getElem?_cons_succ, Option.some.injEq] at hoo
                      subst hoo
                      have e1 : a.tmps.getD 1 undef = .pointer (some ⟨w.heap.size, 0, none⟩) := hF.2.2 1 (by decide)
                      refine Does.yes (j := 1) (d := 152) (want := true) rfl rfl (hA ⟨1, .guard⟩ (by simp) rfl) ?_
                      unfold yieldsK
                      go_simp
                      exact ⟨rfl, Keep.refl _ _⟩
                    by_cases h7 : i = 7
                    · subst h7
                      simp only [List.getElem?_toArray, List.getElem?_cons_zero, List.getElem?_cons_succ, Option.some.injEq] at hoo
                      subst hoo
                      have e157 : a.tmps.getD 157 undef = .pointer (some ⟨w.heap.size, 1, none⟩) := hA ⟨6, .data⟩ (by simp) rfl
                      have s1 := Keep.cell hK q1 id
                      refine Does.yes (j := 1) (d := 152) (want := true) rfl rfl (hA ⟨1, .guard⟩ (by simp) rfl) ?_
                      unfold yieldsK
                      go_simp
                      exact ⟨rfl, Keep.refl _ _⟩
                    by_cases h8 : i = 8
                    · subst h8
                      simp only [List.getElem?_toArray, List.getElem?_cons_zero, List.getElem?_cons_succ, Option.some.injEq] at hoo
                      subst hoo
                      have e158 : a.tmps.getD 158 undef = .slice Y i0 cy := hA ⟨7, .data⟩ (by simp) rfl
                      refine Does.yes (j := 1) (d := 152) (want := true) rfl rfl (hA ⟨1, .guard⟩ (by simp) rfl) ?_
                      unfold yieldsK
                      go_simp
                      exact ⟨rfl, Keep.refl _ _⟩
                    by_cases h9 : i = 9
                    · subst h9
                      simp only [List.getElem?_toArray, List.getElem?_cons_zero, List.getElem?_cons_succ, Option.some.injEq] at hoo
                      subst hoo
                      have e156 : a.tmps.getD 156 undef = .int .i64 (i0 : Int) := hA ⟨5, .data⟩ (by simp) rfl
                      have e159 : a.tmps.getD 159 undef = .int .i64 (i0 : Int) := hA ⟨8, .data⟩ (by simp) rfl
                      refine Does.yes (j := 1) (d := 152) (want := true) rfl rfl (hA ⟨1, .guard⟩ (by simp) rfl) ?_
                      unfold yieldsK
                      go_simp
                      exact ⟨rfl, Keep.refl _ _⟩
                    by_cases h10 : i = 10
                    · subst h10
                      simp only [List.getElem?_toArray, List.getElem?_cons_zero, List.getElem?_cons_succ, Option.some.injEq] at hoo
                      subst hoo
                      have e152 : a.tmps.getD 152 undef = .bool true := hA ⟨1, .data⟩ (by simp) rfl
                      have e160 : a.tmps.getD 160 undef = .bool true := hA ⟨9, .data⟩ (by simp) rfl
                      refine Does.plain rfl ?_
                      unfold yieldsK
                      go_simp
                      exact ⟨rfl, Keep.refl _ _⟩
                    by_cases h11 : i = 11
                    · subst h11
                      simp only [List.getElem?_toArray, List.getElem?_cons_zero, List.getElem?_cons_succ, Option.some.injEq] at hoo
                      subst hoo
                      have e161 : a.tmps.getD 161 undef = .bool true := hA ⟨10, .data⟩ (by simp) rfl
                      refine Does.plain rfl ?_
                      unfold yieldsK
                      go_simp
                      exact ⟨rfl, Keep.refl _ _⟩
                    omega
                  case spec =>
                    intro o a w' hoo
                    simp at hoo
                  case fin =>
                    intro a w' hF gKr hA
                    have e2 : a.tmps.getD 2 undef = .bool true := hA 11 (by decide)
                    have ha := frameD_list (l := [151, 152, 153, 154, 155, 156, 157, 158, 159, 160, 161, 2]) rfl hF
                    rw [ha]
                    simp only [List.map_cons, List.map_nil, e2]
                    generalize a.tmps.getD 151 undef = u0
                    generalize a.tmps.getD 152 undef = u1
                    generalize a.tmps.getD 153 undef = u2
                    generalize a.tmps.getD 154 undef = u3
                    generalize a.tmps.getD 155 undef = u4
                    generalize a.tmps.getD 156 undef = u5
                    generalize a.tmps.getD 157 undef = u6
                    generalize a.tmps.getD 158 undef = u7
                    generalize a.tmps.getD 159 undef = u8
                    generalize a.tmps.getD 160 undef = u9
                    generalize a.tmps.getD 161 undef = u10
                    simp only [fillD, List.setIfInBounds_toArray, List.set_cons_zero, List.set_cons_succ]
                    have gK2 := keepN gK gKr
                    clear hA hF ha e2 gK gKr q0 q1 HC5
                    go_wp2
                    go_ret
                    exact ⟨rfl, gK2⟩

end Go.Proofs.YtgifflfjhockaaaGreatDoor.I

namespace Go.Proofs.YtgifflfjhockaaaGreatDoor.O
open Go.ChangeShapes Go.WideShapes Go.ChangeAt Go.RowKit

end Go.Proofs.YtgifflfjhockaaaGreatDoor.O

namespace Go.Proofs.YtgifflfjhockaaaGreatDoor.F
open Go.ChangeShapes Go.WideShapes Go.ChangeAt Go.RowKit Go.Deep W

section
variable {H : Type} {enc : TypeId × Value → H} {W0 : World} {base : Nat} {spare : Nat → Bool} {held : Bool} {fuel : Nat} {cs : List Value} {x : DataW H × List MemPlace}
theorem read_ints (h : DataW.trod enc Tryz.prog W0 base spare held fuel 55 cs = some x) : ∃ A l c, cs = [.slice A l.length c] ∧ Rd W0 A (ivs l) ∧ l.length ≤ c ∧ c ≤ maxLen := by
  rcases open_ints Tryz.underlying55 Tryz.underlying3 (by kernel_rfl) h with ⟨hcs, _⟩ | ⟨a, len, cap, zs, hcs, _, hl, hm, hz, _, hcell, _⟩
  · exact ⟨none, [], 0, hcs, Rd.none_ _ _, Nat.le_refl _, Nat.zero_le _⟩
  · have hzl : len ≤ zs.length := by rw [hz]; split <;> omega
    have hlen : (zs.take len).length = len := by rw [List.length_take]; omega
    refine ⟨some a, zs.take len, cap, by rw [hlen]; exact hcs, fun h0 => ?_, by rw [hlen]; exact hl, hm⟩
    have h0' : 0 < len := by rw [List.length_map, hlen] at h0; exact h0
    have ea := C.addr_of_cell (hcell 0 (by omega))
    have ea' : a = ⟨a.block, a.off, none⟩ := by simpa [Addr.add] using ea
    refine ⟨a.block, a.off, by rw [← ea'], fun j u hu => ?_⟩
    obtain ⟨hj, hju⟩ := List.getElem?_eq_some_iff.1 hu
    have hj' : j < len := by simp at hj; omega
    have hc := hcell j (by omega)
    rw [ea', C.add_of] at hc
    rw [hc]
    simp at hju
    rw [← hju]
    simp [List.getD, List.getElem?_eq_getElem (show j < zs.length by omega)]
end
section
variable {H : Type} {enc : TypeId × Value → H} {w : World} {base b0 : Nat} {spare : Nat → Bool} {held : Bool} {r : Reach} {v : Value} {d : DataW H} {p : List MemPlace}
end

end Go.Proofs.YtgifflfjhockaaaGreatDoor.F

namespace Go.Proofs.YtgifflfjhockaaaGreatDoor.I
open Go.ChangeShapes Go.WideShapes Go.ChangeAt Go.RowKit Go.Deep W

section
variable {H : Type} {enc : TypeId × Value → H} {W0 : World} {base : Nat} {spare : Nat → Bool} {held : Bool} {fuel : Nat} {cs : List Value} {x : DataW H × List MemPlace}
/-- What is read weighs no more than memory holds. -/
def Wt (t : TypeId) (d : DataW H) : Prop := ∀ k ∈ d.weights Tryz.prog t, k ≤ reachBytes
theorem wt_slice {t E : TypeId} {xs ys : List (DataW H)} (ht : Tryz.prog.underlying t = some (.slice E)) (hw : Wt t (.slice xs ys)) : (∀ d ∈ xs, Wt E d) ∧ (xs.length + ys.length) * Tryz.prog.bytesOf E ≤ reachBytes := by
  have all : ∀ (l : List (DataW H)) (d : DataW H), d ∈ l → ∀ k ∈ d.weights Tryz.prog E, k ∈ DataW.weightsAll Tryz.prog E l := by
    intro l
    induction l with
    | nil => intro d hd; cases hd
    | cons a l ih =>
      intro d hd k hk
      rw [DataW.weightsAll, List.mem_append]
      rcases List.mem_cons.1 hd with rfl | hd
      · exact .inl hk
      · exact .inr (ih d hd k hk)
  refine ⟨fun d hd k hk => hw k ?_, hw _ ?_⟩
  · simp only [DataW.weights, ht, List.mem_cons, List.mem_append]
    exact .inr (.inl (all xs d hd k hk))
  · simp only [DataW.weights, ht, List.mem_cons, true_or]
theorem wt_struct {t : TypeId} {fl : Array Field} {xs : List (DataW H)} (ht : Tryz.prog.underlying t = some (.struct fl)) (hw : Wt t (.agg xs)) {j : Nat} {f : Field} {d : DataW H} (hf : fl.toList[j]? = some f) (hd : xs[j]? = some d) : Wt f.type d := fun k hk => hw k (by
  simp only [DataW.weights, ht]
  exact DataW.weights_mem_each (j := j) (by simpa using congrArg (Option.map (·.type)) hf) hd k hk)
theorem wt_len {t E : TypeId} {A : Option Addr} {n c : Nat} (ht : Tryz.prog.underlying t = some (.slice E)) (hb : Nat.ble 1 (Tryz.prog.bytesOf E) = true) (h : DataW.trod enc Tryz.prog W0 base spare held fuel t [.slice A n c] = some x) (hw : Wt t x.1) : n ≤ 140737488355328 := by
  have hr : reachBytes ≤ 140737488355328 := by decide
  rcases open_slice ht h with ⟨hcs, _⟩ | ⟨a, len, cap, m, k, D, Pl, hcs, _, hl, hm, hmm, hx, _⟩
  · simp only [List.cons.injEq, Value.slice.injEq, and_true] at hcs; omega
  · simp only [List.cons.injEq, Value.slice.injEq, and_true] at hcs
    obtain ⟨_, rfl, _⟩ := hcs
    subst hx
    have h2 := (wt_slice ht hw).2
    simp only [List.length_map, List.length_range] at h2
    have h3 : n * 1 ≤ (n + (m - n)) * Tryz.prog.bytesOf E := Nat.mul_le_mul (Nat.le_add_right _ _) (Nat.le_of_ble_eq_true hb)
    omega
theorem read_shape (h : DataW.trod enc Tryz.prog W0 base spare held fuel 58 cs = some x) : ∃ e : SE, cs = [e.1.val] ∧ ShAt W0 e.1 e.2 ∧ e.1.n ≤ maxLen := by
  rcases open_ints Tryz.underlying58 Tryz.underlying3 (by kernel_rfl) h with ⟨hcs, _⟩ | ⟨a, len, cap, zs, hcs, _, hl, hm, hz, _, hcell, _⟩
  · exact ⟨(⟨none, 0, 0⟩, []), hcs, ⟨Rd.none_ _ _, rfl⟩, Nat.zero_le _⟩
  · have hzl : len ≤ zs.length := by rw [hz]; split <;> omega
    have hlen : (zs.take len).length = len := by rw [List.length_take]; omega
    refine ⟨(⟨some a, len, cap⟩, zs.take len), hcs, ⟨fun h0 => ?_, hlen⟩, Nat.le_trans hl hm⟩
    have h0' : 0 < len := by rw [List.length_map, hlen] at h0; exact h0
    have ea := C.addr_of_cell (hcell 0 (by omega))
    have ea' : a = ⟨a.block, a.off, none⟩ := by simpa [Addr.add] using ea
    refine ⟨a.block, a.off, by dsimp only; rw [← ea'], fun j u hu => ?_⟩
    obtain ⟨hj, hju⟩ := List.getElem?_eq_some_iff.1 hu
    have hj' : j < len := by simp at hj; omega
    have hc := hcell j (by omega)
    rw [ea', C.add_of] at hc
    rw [hc]
    simp at hju
    rw [← hju]
    simp [List.getD, List.getElem?_eq_getElem (show j < zs.length by omega)]
set_option maxRecDepth 100000 in
theorem read_fun (hsz : cs.length = 5) (h : DataW.trod enc Tryz.prog W0 base spare held fuel 61 cs = some x) : ∃ e : FE, cs = e.1.cells.toList ∧ F.FnAt W0 e.1 e.2 ∧ (Wt 61 x.1 → F.LgF e.1) := by
  have k9 : Tryz.prog.cellsOf 9 = 1 := by kernel_rfl
  have k24 : Tryz.prog.cellsOf 57 = 2 := by kernel_rfl
  have k22 : Tryz.prog.cellsOf 55 = 1 := by kernel_rfl
  have k25 : Tryz.prog.cellsOf 59 = 1 := by kernel_rfl
  match cs, hsz with
  | [c0, c1, c2, c3, c4], _ =>
  obtain ⟨y0, y1, y2, y3, n, rfl, _, h0, h1, h2, h3⟩ := Joins.trod_struct4 Tryz.underlying61 h
  simp only [k9, k24, k22, k25, List.drop_zero, List.drop_succ_cons, List.take_succ_cons, List.take_zero] at h0 h1 h2 h3
  obtain ⟨s0, e0, x0, _⟩ := DataW.trod_string Tryz.underlying9 h0
  obtain ⟨z0, z1, n1, x1, _, g0, g1⟩ := trod_struct2 Tryz.underlying57 h1
  simp only [k22, List.drop_zero, List.drop_succ_cons, List.take_succ_cons, List.take_zero] at g0 g1
  obtain ⟨A, a, ca, e1, ra, _, _⟩ := F.read_ints g0
  obtain ⟨B, b, cb, e2, rb, _, _⟩ := F.read_ints g1
  obtain ⟨L, l, cl, e3, rl, _, _⟩ := F.read_ints h2
  obtain ⟨D, bd, cd, e4, rd, _, _, hI⟩ := C.read_insts h3
  simp only [List.cons.injEq, and_true] at e0 e1 e2 e3 e4
  subst e0 e1 e2 e3 e4
  refine ⟨(⟨s0, A, a.length, ca, B, b.length, cb, L, l.length, cl, D, bd.length, cd⟩, ⟨s0.data.toList, a, b, l, bd⟩), rfl, ⟨rfl, ra, rb, rl, rd, rfl, rfl, rfl, rfl, hI⟩, fun hw => ?_⟩
  have w0 := wt_struct (j := 0) Tryz.underlying61 hw rfl rfl
  have w1 := wt_struct (j := 1) Tryz.underlying61 hw rfl rfl
  have w2 := wt_struct (j := 2) Tryz.underlying61 hw rfl rfl
  have w3 := wt_struct (j := 3) Tryz.underlying61 hw rfl rfl
  subst x0 x1
  have v0 := wt_struct (j := 0) Tryz.underlying57 w1 rfl rfl
  have v1 := wt_struct (j := 1) Tryz.underlying57 w1 rfl rfl
  refine ⟨?_, wt_len Tryz.underlying55 (by kernel_rfl) g0 v0, wt_len Tryz.underlying55 (by kernel_rfl) g1 v1, wt_len Tryz.underlying55 (by kernel_rfl) h2 w2, wt_len Tryz.underlying59 (by kernel_rfl) h3 w3⟩
  have := w0 s0.data.toList.length (by simp [DataW.weights])
  have hr : reachBytes ≤ 140737488355328 := by decide
  have e : s0.data.toList.length = s0.size := Array.length_toList
  dsimp only
  omega
theorem add_zero_addr (a : Addr) : a.add 0 = a := by simp [Addr.add]
set_option maxRecDepth 100000 in
theorem read_shapes (h : DataW.trod enc Tryz.prog W0 base spare held fuel 22 cs = some x) : ∃ X, ∃ es : List SE, ∃ c, cs = [.slice X es.length c] ∧ Rd W0 X (svs es) ∧ (∀ e ∈ es, ShAt W0 e.1 e.2 ∧ e.1.n ≤ maxLen) ∧ es.length ≤ c ∧ c ≤ maxLen ∧ (Wt 22 x.1 → ∀ e ∈ es, e.1.n ≤ 140737488355328) := by
  rcases open_slice Tryz.underlying22 h with ⟨hcs, _⟩ | ⟨a, len, cap, m, n, D, Pl, hcs, _, hl, hm, hmm, rfl, hi⟩
  · exact ⟨none, [], 0, hcs, Rd.none_ _ _, (fun _ h => nomatch h), Nat.le_refl _, Nat.zero_le _, fun _ _ h => nomatch h⟩
  · have hlm : len ≤ m := by rw [hmm]; split <;> omega
    have c1 : Tryz.prog.cellsOf 58 = 1 := by kernel_rfl
    have each : ∀ i : Nat, ∃ e : SE, i < len → W0.cell? (a.add i) = some e.1.val ∧ (ShAt W0 e.1 e.2 ∧ e.1.n ≤ maxLen) ∧ (Wt 58 (D i) → e.1.n ≤ 140737488355328) := by
      intro i
      by_cases hlt : i < len
      · obtain ⟨cs', hc, ht'⟩ := hi i (by omega)
        rw [c1, Nat.mul_one] at hc
        obtain ⟨e, he, hs, hn⟩ := read_shape ht'
        obtain ⟨_, hcl, hat⟩ := World.cells?_some hc
        have g0 := hat 0 (by omega)
        refine ⟨e, fun _ => ⟨?_, ⟨hs, hn⟩, fun hw => ?_⟩⟩
        rotate_left
        · rw [he] at ht'
          exact wt_len Tryz.underlying58 (by kernel_rfl) ht' hw
        rw [he] at g0
        rw [add_zero_addr] at g0
        simpa using g0
      · exact ⟨(⟨none, 0, 0⟩, []), fun h => absurd h hlt⟩
    obtain ⟨f, hf⟩ := Classical.axiomOfChoice each
    have hlen : ((List.range len).map f).length = len := by simp
    refine ⟨some a, (List.range len).map f, cap, by rw [hlen]; exact hcs, fun h0 => ?_, fun e he => ?_, by rw [hlen]; exact hl, hm, fun hw e he => ?_⟩
    · have h0' : 0 < len := by rw [svs_length, hlen] at h0; omega
      have ea := C.addr_of_cell (hf 0 h0').1
      have ea' : a = ⟨a.block, a.off, none⟩ := by simpa [Addr.add] using ea
      refine ⟨a.block, a.off, by rw [← ea'], fun j u hu => ?_⟩
      have hj : j < len := by have := (List.getElem?_eq_some_iff.1 hu).1; rw [svs_length, hlen] at this; exact this
      have q0 := svs_at ((List.range len).map f) j (by rw [hlen]; exact hj)
      have k0 := (hf j hj).1
      rw [ea', C.add_of] at k0
      rw [q0] at hu
      simp only [List.getElem_map, List.getElem_range] at hu
      rw [k0]; exact hu
    · obtain ⟨i, hi', rfl⟩ := List.mem_map.1 he
      exact (hf i (List.mem_range.1 hi')).2.1
    · obtain ⟨i, hi', rfl⟩ := List.mem_map.1 he
      exact (hf i (List.mem_range.1 hi')).2.2 ((wt_slice Tryz.underlying22 hw).1 _ (List.mem_map.2 ⟨i, hi', rfl⟩))
set_option maxRecDepth 100000 in
theorem read_funs (h : DataW.trod enc Tryz.prog W0 base spare held fuel 23 cs = some x) : ∃ Y, ∃ fs : List FE, ∃ c, cs = [.slice Y fs.length c] ∧ Rd W0 Y (fvs fs) ∧ (∀ e ∈ fs, F.FnAt W0 e.1 e.2) ∧ fs.length ≤ c ∧ c ≤ maxLen ∧ (Wt 23 x.1 → ∀ e ∈ fs, F.LgF e.1) := by
  rcases open_slice Tryz.underlying23 h with ⟨hcs, _⟩ | ⟨a, len, cap, m, n, D, Pl, hcs, _, hl, hm, hmm, rfl, hi⟩
  · exact ⟨none, [], 0, hcs, Rd.none_ _ _, (fun _ h => nomatch h), Nat.le_refl _, Nat.zero_le _, fun _ _ h => nomatch h⟩
  · have hlm : len ≤ m := by rw [hmm]; split <;> omega
    have c5 : Tryz.prog.cellsOf 61 = 5 := by kernel_rfl
    have each : ∀ i : Nat, ∃ e : FE, i < len → (∀ j u, e.1.cells.toList[j]? = some u → W0.cell? ((a.add (i * 5)).add j) = some u) ∧ F.FnAt W0 e.1 e.2 ∧ (Wt 61 (D i) → F.LgF e.1) := by
      intro i
      by_cases hlt : i < len
      · obtain ⟨cs', hc, ht'⟩ := hi i (by omega)
        rw [c5] at hc
        obtain ⟨_, hcl, hat⟩ := World.cells?_some hc
        obtain ⟨e, rfl, hs⟩ := read_fun hcl ht'
        refine ⟨e, fun _ => ⟨fun j u hu => ?_, hs⟩⟩
        have hj : j < 5 := by rw [← hcl]; exact (List.getElem?_eq_some_iff.1 hu).1
        rw [hat j hj]; exact hu
      · exact ⟨(F.nilV, F.nilF), fun h => absurd h hlt⟩
    obtain ⟨f, hf⟩ := Classical.axiomOfChoice each
    have hlen : ((List.range len).map f).length = len := by simp
    refine ⟨some a, (List.range len).map f, cap, by rw [hlen]; exact hcs, fun h0 => ?_, fun e he => ?_, by rw [hlen]; exact hl, hm, fun hw e he => ?_⟩
    · have h0' : 0 < len := by rw [fvs_length, hlen] at h0; omega
      have ea := C.addr_of_cell ((hf 0 h0').1 0 _ rfl)
      have ea' : a = ⟨a.block, a.off, none⟩ := by simpa [Addr.add] using ea
      refine ⟨a.block, a.off, by rw [← ea'], fun j u hu => ?_⟩
      have hj : j < len * 5 := by have := (List.getElem?_eq_some_iff.1 hu).1; rw [fvs_length, hlen] at this; exact this
      have hd : j / 5 < len := by omega
      have q0 := fvs_at ((List.range len).map f) (j / 5) (j % 5) (by rw [hlen]; exact hd) (by omega)
      rw [show j / 5 * 5 + j % 5 = j by omega, hu] at q0
      simp only [List.getElem_map, List.getElem_range] at q0
      have k0 := (hf (j / 5) hd).1 (j % 5) u q0.symm
      rw [ea', C.add_of, C.add_of, Nat.add_assoc, show j / 5 * 5 + j % 5 = j by omega] at k0
      exact k0
    · obtain ⟨i, hi', rfl⟩ := List.mem_map.1 he
      exact (hf i (List.mem_range.1 hi')).2.1
    · obtain ⟨i, hi', rfl⟩ := List.mem_map.1 he
      exact (hf i (List.mem_range.1 hi')).2.2 ((wt_slice Tryz.underlying23 hw).1 _ (List.mem_map.2 ⟨i, hi', rfl⟩))
end
section
variable {H : Type} {enc : TypeId × Value → H} {w : World} {base b0 : Nat} {spare : Nat → Bool} {held : Bool} {r : Reach} {v : Value} {d : DataW H} {p : List MemPlace}
theorem array2 {α : Type} {cs : Array α} (h : cs.size = 2) : ∃ c0 c1, cs = #[c0, c1] := by
  obtain ⟨l⟩ := cs
  match l, h with
  | [c0, c1], _ => exact ⟨c0, c1, rfl⟩
end

/-- The wrap that hands on the world's shape, and how much is read at most. -/
theorem handed_sized {H : Type} {enc : TypeId × Value → H} {a : Assume} {C : Checked} {os : Os} {f : FuncId} {fn : Func} {s : ChangeSpec} {conds : List PathCond} {apart fresh handsOn again : Bool} {X : World → Array Value → Prop}
    (hX : ∀ (w w' : World) (args : Array Value), w.heap = w'.heap → X w args → X w' args) (own : ownKnob C.prog.godebug = none) (started : os.Started) (noInit : C.prog.inits.idxOf? f = none) (hfn : C.prog.funcs[f]? = some fn)
    (witness : ∃ (w : World) (tape : Tape) (i : Input), w.os = os ∧ (w.forCall tape i).Shaped C.prog ∧ i.vars = [] ∧ Input.okWide C.prog (w.forCall tape i) .any w.heap.size f i ∧
      ((s.pre enc C.prog fn conds apart (w.forCall tape i).memory i.args ∧ X (w.forCall tape i).memory i.args) ∧ sizedMet enc C.prog fn (OpenSpec.ofChange s) apart (w.forCall tape i).memory i.args) ∧ a.holds C.prog (lone (Frame.enter C.prog f i.args .normal) [] (w.forCall tape i)))
    (contract : ∀ (W : World) (base : Nat) (args : Array Value) (ds gs : List (DataW H)) (before : List MemPlace),
      (∀ (j : Nat) t v, fn.params[j]? = some t → args[j]? = some v → Value.okWide C.prog W .any base t v) → DataW.Whole enc C.prog fn.params.toList s.vars apart W args.toList ds gs before →
      W.ShapedOpen C.prog → X W args → (DataW.weightsEach C.prog (fn.params.toList ++ s.plain.varTypes C.prog) (ds ++ gs)).all (· ≤ reachBytes) = true →
      Calls C.prog f args W fun e W' => ∃ v, e = .returned v ∧ s.post enc C.prog fn apart fresh handsOn again W args v W') :
    ReturnsInHanded a C os f .any (fun w args => (s.pre enc C.prog fn conds apart w args ∧ X w args) ∧ sizedMet enc C.prog fn (OpenSpec.ofChange s) apart w args) (s.post enc C.prog fn apart fresh handsOn again) := by
  refine returnsInHanded_of_calls own started noInit witness ?_
  intro w tape i _ hsh _ hok hpre _
  obtain ⟨_, _, _, fn', hfn', _, _, _, _, hval⟩ := hok
  obtain rfl : fn' = fn := Option.some.inj (hfn'.symm.trans hfn)
  obtain ⟨⟨⟨ds, gs, before, hw, _⟩, hx⟩, hz⟩ := hpre
  have hw' := DataW.Whole.of_heap (w' := w.forCall tape i) (by rfl) hw
  refine (contract (w.forCall tape i) w.heap.size i.args ds gs before hval hw' hsh (hX _ _ _ (by rfl) hx) (hz.weights hw)).mono fun e W' ⟨v, he, hp⟩ => ?_
  subst he
  exact ChangeSpec.post_blind hp
theorem wt_arg {H : Type} {ts : List TypeId} {ds : List (DataW H)} (h : (DataW.weightsEach Tryz.prog ts ds).all (· ≤ reachBytes) = true) {j : Nat} {t : TypeId} {d : DataW H} (ht : ts[j]? = some t) (hd : ds[j]? = some d) : Wt t d :=
  fun k hk => by simpa using List.all_eq_true.1 h _ (DataW.weights_mem_each ht hd k hk)

section
variable {H : Type} {enc : TypeId × Value → H} {w : World} {base b0 : Nat} {spare : Nat → Bool} {held : Bool} {r : Reach} {v : Value} {d : DataW H} {p : List MemPlace}
end
section
variable {H : Type} {enc : TypeId × Value → H} {P : Program} {w : World} {base : Nat} {spare : Nat → Bool} {held : Bool}
end

end Go.Proofs.YtgifflfjhockaaaGreatDoor.I

namespace Go.Proofs.YtgifflfjhockaaaGreatDoor.I
open Go.ChangeShapes Go.WideShapes Go.ChangeAt Go.RowKit Go.Deep W
section
variable {H : Type} {enc : TypeId × Value → H} {w : World} {base b0 : Nat} {spare : Nat → Bool} {held : Bool} {r : Reach} {v : Value} {d : DataW H} {p : List MemPlace}
set_option maxRecDepth 100000 in
theorem open_imgC (hv : Value.okWide Tryz.prog w r b0 25 v) (h : DataW.Trod enc Tryz.prog w base spare held 25 v d p) : ∃ (iv : IV) (es : List SE) (fs : List FE), v = iv.val ∧ ImAt w iv es fs ∧ (Wt 25 d → LgI iv es fs) ∧ iv.nx ≤ iv.cx ∧ iv.ny ≤ iv.cy := by
  have k0 : Tryz.prog.cellsOf 22 = 1 := by kernel_rfl
  have k1 : Tryz.prog.cellsOf 23 = 1 := by kernel_rfl
  obtain ⟨cs, rfl, hsz⟩ := okWide_struct Tryz.underlying25 hv
  obtain ⟨c0, c1, rfl⟩ := array2 (hsz.trans (by kernel_rfl))
  obtain ⟨fuel, hf⟩ := h
  obtain ⟨z0, z1, n1, hx, _, g0, g1⟩ := trod_struct2 Tryz.underlying25 hf
  obtain ⟨rfl, _⟩ := Prod.mk.inj hx
  simp only [Value.cells, k0, k1, List.drop_zero, List.drop_succ_cons, List.take_succ_cons, List.take_zero] at g0 g1
  obtain ⟨X, es, cx, e1, rx, hs, hcx, _, ws⟩ := read_shapes g0
  obtain ⟨Y, fs, cy, e2, ry, hfn, hcy, _, wf⟩ := read_funs g1
  simp only [List.cons.injEq, and_true] at e1 e2
  subst e1 e2
  refine ⟨⟨X, es.length, cx, Y, fs.length, cy⟩, es, fs, rfl, ⟨rx, ry, rfl, rfl, fun e he => (hs e he).1, hfn⟩, fun hw => ?_, hcx, hcy⟩
  have w0 := wt_struct (j := 0) Tryz.underlying25 hw rfl rfl
  have w1 := wt_struct (j := 1) Tryz.underlying25 hw rfl rfl
  exact ⟨wt_len Tryz.underlying22 (by kernel_rfl) g0 w0, wt_len Tryz.underlying23 (by kernel_rfl) g1 w1, ws w0, wf w1⟩
end

end Go.Proofs.YtgifflfjhockaaaGreatDoor.I
