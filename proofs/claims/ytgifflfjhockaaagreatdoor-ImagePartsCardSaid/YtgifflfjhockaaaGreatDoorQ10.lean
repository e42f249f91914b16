/-
  Are no two functions of one name: the program's apart, by the iterator and a map. Conditions: the image's lists lie in memory; no more than 1000 functions.
  Which images may be: what Check of layer image answers. Conditions: the image's lists lie in memory, each below 2^47.
  What write puts on a Tape: an operand's bytes. Conditions: the number is one of the kind; no more than 2^47 bytes in all.
  What Encode answers. Condition: numbers fit an int64.
  Show and Encode of any instruction; the law's own bytes, of, alive. Conditions: the listed package-level variables hold what their initialisers lay; numbers fit an int64.
  What the document's Encode answers. Conditions: the operands fit an int64.
  What Encode of layer code answers, the program's and the document's: a body's bytes. Conditions: the list lies in memory; numbers fit an int64.
  What the document's Named answers. Conditions: the name's length fits an int64.
  The document's Types and Check of layer function. Conditions: the function's lists lie in memory, and are no longer than statements go through.
  What the document's Bytes and Encode of layer code answer. Conditions: the list lies in memory; numbers fit an int64.
  The document's bytes of a function: Bytes and Encode. Conditions: the function's lists lie in memory, and are no longer than statements go through.
  What the closures of writes do: a part's bytes behind others; a name's bytes. Conditions: what encodes answers by its contract.
  A name's bytes: what encodeName answers. Conditions: the name is no longer than statements go through.
  A region that draws its order, by what each of its values is, where one operation, number c, writes what lay in the blocks of O, and the words of c and of those that stand behind it (late) may speak of these blocks. No program, no conditions.
-/
import Derived.Test.YtgifflfjhockaaaGreatDoorQ9
import Derived.Test.YtgifflfjhockaaaGreatDoorQ8
import Derived.Test.YtgifflfjhockaaaGreatDoorQ3
import Derived.Test.YtgifflfjhockaaaGreatDoorQ4
import Derived.Test.YtgifflfjhockaaaGreatDoorQ5
import Derived.Test.YtgifflfjhockaaaGreatDoorQ2
import Derived.Test.YtgifflfjhockaaaGreatDoorQ6
import Derived.Test.YtgifflfjhockaaaGreatDoorQ7
namespace Go.Proofs.YtgifflfjhockaaaGreatDoor.I
open Go.RowKit Go.Shelf W
attribute [local go_sem] Oper.semAt_some

/-- The name of a number. -/
def nmx (fs : List FE) (x : Nat) : List UInt8 := (fnI fs x).1.S.data.toList
/-- How often a name has come, if none came twice. -/
def cntF (fs : List FE) (pre : List Nat) (s : List UInt8) : Nat := if s ∈ pre.map (nmx fs) then 1 else 0
theorem cntF_new {fs : List FE} {pre : List Nat} {x : Nat} : ∀ s, cntF fs (pre ++ [x]) s = setS (cntF fs pre) (nmx fs x) 1 s := by
  intro s
  unfold cntF setS
  by_cases e : s = nmx fs x
  · subst e; simp
  · rw [if_neg e]; simp [e]
theorem nodup_new {fs : List FE} {pre : List Nat} {x : Nat} (h : nmx fs x ∉ pre.map (nmx fs)) (hp : (pre.map (nmx fs)).Nodup) : ((pre ++ [x]).map (nmx fs)).Nodup := by
  rw [List.map_append, List.nodup_append]
  refine ⟨hp, by simp, ?_⟩
  intro a ha b hb
  simp at hb
  subst hb
  rintro rfl
  exact h ha
theorem names_range {fs : List FE} {n : Nat} (hn : fs.length = n) (hN : ∀ e ∈ fs, e.1.S.data.toList = e.2.nm) : (List.range n).map (nmx fs) = names (imOf [] fs) := by
  apply List.ext_getElem?
  intro i
  unfold names imOf nmx
  by_cases h : i < fs.length
  · rw [List.getElem?_map, List.getElem?_range (by omega)]
    simp [fnI_at h, h, hN _ (List.getElem_mem h)]
  · rw [List.getElem?_eq_none (by simp; omega), List.getElem?_eq_none (by simp; omega)]
theorem rd_grown {W W' : World} {A : Option Addr} {xs : List Value} {mb : Nat} {es : Array MapEntry} {c : Nat} (hg : W.grownBy W' (some mb)) (hm : W.heap[mb]? = some (.map es c)) (hr : Rd W A xs) : Rd W' A xs := fun h0 => by
  obtain ⟨g, off, e, hc⟩ := hr h0
  refine ⟨g, off, e, fun j u hu => ?_⟩
  have h1 := hc j u hu
  have hne : g ≠ mb := by
    rintro rfl
    unfold World.cell? at h1
    simp [hm] at h1
  exact (World.cell?_of_block (hg.block g (World.block_lt_of_cell? W _ h1) (by simp [hne]))).trans h1
theorem blk_grown_map {W W' : World} {mb g : Nat} {t : TypeId} {cs : Array Value} {es : Array MapEntry} {c : Nat} (hg : W.grownBy W' (some mb)) (hm : W.heap[mb]? = some (.map es c)) (h : Blk W g t cs) : Blk W' g t cs :=
  h.grown hg (fun e => by
    cases e
    unfold Blk at h
    rw [hm] at h; cases h)
/-- What the loop keeps. -/
def ApI (w : World) (b : Nat) (fs : List FE) (pre : List Nat) (W : World) : Prop :=
  (Blk W (b + 1) 4 #[.bool false] ∧ Blk W (b + 1 + 1 + 1) 75 #[.map (some (b + 1 + 1))]) ∧ SMap Tryz.prog 9 3 (b + 1 + 1) pre.length (cntF fs pre) W ∧ Keep NoB w W ∧ (pre.map (nmx fs)).Nodup
/-- Where it is left: a name came twice. -/
def ApX (w : World) (b : Nat) (fs : List FE) (c : Code) (pre : List Nat) (W : World) : Prop :=
  c = .ret ∧ Blk W (b + 1) 4 #[.bool false] ∧ Keep NoB w W ∧ ¬ (pre.map (nmx fs)).Nodup
def ApA (v : IV) (fs : List FE) (b : Nat) (x : Nat) (Bo : Nat) : Act :=
  { tmps := #[v.val, .pointer (some ⟨b, 0, none⟩), .pointer (some ⟨b + 1, 0, none⟩), .pointer (some ⟨b + 1 + 1 + 1, 0, none⟩), undef, .pointer (some ⟨Bo, 0, none⟩), .map (some (b + 1 + 1)), v.val, .func (.func 104) #[] #[.pointer (some ⟨b + 1 + 1 + 1 + 1, 0, none⟩)], .int .i64 (x : Int), (fnI fs x).1.val, undef, undef, undef, undef, undef, undef, undef, undef, undef, undef], defers := [] }
theorem apI_own {w : World} {b B : Nat} {fs : List FE} (hb : b + 4 ≤ B) (hB : w.heap.size ≤ B) : OwnFrom B (ApI w b fs) := by
  intro s X Y row ⟨⟨h1, h2⟩, h3, h4, h5⟩ hg hrow
  exact ⟨⟨O.blk_own (β := Unit) _ _ _ (fun _ => _) () _ _ _ h1 hg hrow, O.blk_own (β := Unit) _ _ _ (fun _ => _) () _ _ _ h2 hg hrow⟩, h3.grown hg (fun e => by have := (hrow _ e.symm).1; omega), O.keep_own (β := Unit) _ hB () _ _ _ h4 hg hrow, h5⟩
theorem apX_own {w : World} {b B : Nat} {fs : List FE} (hB : w.heap.size ≤ B) (c : Code) : OwnFrom B (fun (pre : List Nat) W => ApX w b fs c pre W) := by
  intro s X Y row ⟨h0, h1, h4, h5⟩ hg hrow
  exact ⟨h0, O.blk_own (β := Unit) _ _ _ (fun _ => _) () _ _ _ h1 hg hrow, O.keep_own (β := Unit) _ hB () _ _ _ h4 hg hrow, h5⟩
theorem met_zero (w : World) : (zeroValue 3).run Tryz.prog w = .ok (.int .i64 0) w := Tryz.zeroValue3 w
theorem not_nodup_range {fs : List FE} {k n : Nat} (hk : k ≤ n) (h : ¬ ((List.range k).map (nmx fs)).Nodup) : ¬ ((List.range n).map (nmx fs)).Nodup := by
  intro h2
  refine h (List.Nodup.sublist ?_ h2)
  exact (List.range_sublist.2 hk).map _
theorem blk_putObj {W : World} {g D : Nat} {t : TypeId} {cs : Array Value} {o o' : Obj} (h : Blk W g t cs) (hl : W.heap[D]? = some o) (ho : o.isCells = false) : Blk (W.putObj D o') g t cs := by
  have hne : g ≠ D := by
    rintro rfl
    unfold Blk at h
    rw [hl] at h; cases h; cases ho
  exact (World.putObj_heap_other hne).trans h
theorem run_bool {w : World} {g : Nat} {u : Bool} (h : Blk w g 4 #[.bool u]) : (loadVar 4 ⟨g, 0, none⟩).run Tryz.prog w = .ok (.bool u) w := by
  have ha : (isAgg 4).run Tryz.prog w = .ok false w := Tryz.isAgg4 w
  have hc : w.cell? ⟨g, 0, none⟩ = some (.bool u) := h.cell 0
  simp [loadVar, ha, hc]

set_option maxRecDepth 100000 in
set_option maxHeartbeats 4000000 in
theorem apart_any (v : IV) (es : List SE) (fs : List FE) (w : World) (h : ImAt w v es fs) (hn : v.ny ≤ 1000) (hf : ∀ e ∈ fs, e.1.S.size ≤ 140737488355328) (R : Bool) (hR : Hid (decide ((names (imOf [] fs)).Nodup) = R)) :
    Calls Tryz.prog 54 #[v.val] w fun e w' => e = .returned (.bool R) ∧ Keep NoB w w' := by
  have hly := h.ly
  have HR := Lib.hid (fun W (hk : Keep NoB w W) => h.ry.keepN hk)
  have HN := Lib.hid (names_range hly (fun e he => (h.hf e he).nm))
  have HSZ : Hid (∀ x, (fnI fs x).1.S.size ≤ maxLen) := fun x => by
    by_cases hx : x < fs.length
    · rw [fnI_at hx]; have := hf _ (List.getElem_mem hx); unfold maxLen; omega
    · unfold fnI; rw [List.getElem?_eq_none (by omega)]; exact Nat.zero_le _
  clear h hf
  refine (callsIn_wide (n := 4)).1 ?_
  refine callsIn_of_wp_marks Tryz.func54 rfl trivial ?_ rfl
  have hmm := @run_makeMap Tryz.prog
  have hst := Lib.hid (fun m hm b w hx hr => each_stops m hm b v fs hly hn w hx hr)
  have he1 := Lib.hid (fun m w => each_any m v w)
  have hkk := ((((Keep.refl NoB w).alloc (.cells v.cells 25)).alloc (.cells #[.bool false] 4)).alloc (.map #[] 0)).alloc (.cells #[.map (some (w.heap.size + 1 + 1))] 75)
  have hs := (((Blk.new (w.alloc (.cells v.cells 25)) 4 #[.bool false]).alloc (.map #[] 0)).alloc (.cells #[.map (some (w.heap.size + 1 + 1))] 75)).alloc (.cells v.cells 25)
  have hm0 := SMap.new Tryz.prog 9 3 ((w.alloc (.cells v.cells 25)).alloc (.cells #[.bool false] 4))
  simp only [World.size_alloc] at hm0
  have hm1 := hm0.keep (O := NoB) (((Keep.refl NoB _).alloc (.cells #[.map (some (w.heap.size + 1 + 1))] 75)).alloc (.cells v.cells 25)) id
  have hb3 := (Blk.new (((w.alloc (.cells v.cells 25)).alloc (.cells #[.bool false] 4)).alloc (.map #[] 0)) 75 #[.map (some (w.heap.size + 1 + 1))]).alloc (.cells v.cells 25)
  have hi5 := Blk.new ((((w.alloc (.cells v.cells 25)).alloc (.cells #[.bool false] 4)).alloc (.map #[] 0)).alloc (.cells #[.map (some (w.heap.size + 1 + 1))] 75)) 25 v.cells
  simp only [World.size_alloc] at hs hb3 hi5
  have hK := hkk.alloc (.cells v.cells 25)
  have hr5 := HR.out _ hK
  have hI0 : ApI w w.heap.size fs [] _ := ⟨⟨hs, hb3⟩, hm1.congr (fun x => by simp [cntF]), hK, by simp⟩
  have HI0 := Lib.hid hI0
  have HX5 := Lib.hid hi5
  have HR5 := Lib.hid hr5
  clear hs hm0 hm1 hb3 hi5 hkk hK hr5 hI0
  obtain ⟨X, nx, cx, Y, ny, cy⟩ := v
  dsimp only [IV.val, IV.cells] at *
  simp only [Tryz.ntmps54, List.size_toArray, List.length_cons, List.length_nil, Nat.reduceAdd, Nat.reduceSub, Array.replicate_succ, Array.replicate_zero, List.push_toArray, List.append_toArray, List.nil_append, List.cons_append]
  gi_wp2_with (refine ⟨trivial, ?_⟩; gi_at_call 57; refine (he1.out _ _).mono ?_; rintro e w1 ⟨rfl, rfl⟩)
  refine wpIn_rangeFunc_ownH rfl (by omega) (gf := 104) (lb := #[.pointer (some ⟨w.heap.size + 1 + 1 + 1 + 1, 0, none⟩)]) rfl trivial (enters_of Tryz.func104 (by kernel_rfl) rfl)
    (hst.out _ (by omega) _ _ HX5.out HR5.out) FsK.trans (fun W l o o' _ hl ho _ => FsK.putObj W l o o' hl ho) (Below.refl _ _) (fun _ => rfl)
    (ApI w w.heap.size fs) (fun c pre W => ApX w w.heap.size fs c pre W) (apI_own (by simp) (by simp; omega)) (fun c => apX_own (by simp; omega) c) HI0.out
    (fun x a' W => ∃ Bo, Blk W Bo 61 (fnI fs x).1.cells ∧ a' = ApA ⟨X, nx, cx, Y, ny, cy⟩ fs w.heap.size x Bo) ?hax ?assign ?body ?done ?stop
  case hax =>
    rintro x a' s X Y row ⟨Bo, h1, h2⟩ hg hrow
    exact ⟨Bo, O.blk_own (β := Unit) _ _ _ (fun _ => _) () _ _ _ h1 hg hrow, h2⟩
  case assign =>
    intro l pre x W K hi hK
    have HI := Lib.hid (fun W' hk => apI_own (w := w) (b := w.heap.size) (fs := fs) (B := w.heap.size + 4) (Nat.le_refl _) (by omega) pre W W' none hi (Keep.grows hk) (fun r e => by cases e))
    have HB1 := Lib.hid (Blk.new W 61 (fnI fs x).1.cells)
    have HK2 := Lib.hid (fun a' W' h1 h2 h3 h4 => hK a' W' h1 h2 h3 h4)
    unfold ApA at HK2
    dsimp only [eaA]
    clear hi
    generalize fnI fs x = e at *
    obtain ⟨⟨S1, A1, na1, ca1, B1, nb1, cb1, L1, nl1, cl1, D1, nd1, cd1⟩, f⟩ := e
    dsimp only [F.FV.val, F.FV.cells, IV.val, IV.cells] at *
    clear hK
    gi_wp2
    exact HK2.out _ _ (keepsFrom_keep ((Keep.refl NoB W).alloc _)) (fun h => h.keepN ((Keep.refl NoB W).alloc _)) (HI.out _ ((Keep.refl NoB W).alloc _)) ⟨_, HB1.out, rfl⟩
  case body =>
    rintro l pre x a' W hl _ ⟨⟨hs, hm3⟩, hM, hK, hnd⟩ ⟨Bo, hb, rfl⟩ hlt
    have cb : W.cell? ⟨Bo, 0, none⟩ = some (.string (fnI fs x).1.S) := hb.cell 0
    have cm : W.cell? ⟨w.heap.size + 1 + 1 + 1, 0, none⟩ = some (.map (some (w.heap.size + 1 + 1))) := hm3.cell 0
    have hsz := HSZ.out x
    obtain ⟨em, cmc, hobj⟩ := hM.obj
    dsimp only [ApA, IV.val, IV.cells]
    have hzs := hs.lt
    by_cases hx : nmx fs x ∈ pre.map (nmx fs)
    · have e1 : cntF fs pre (fnI fs x).1.S.data.toList = 1 := if_pos hx
      have hlk := hM.look (t := 75) Tryz.underlying75 Tryz.underlying9 Tryz.underlying3 (met_zero _) (fnI fs x).1.S hsz
      obtain ⟨w5, hup, hM5, hg5⟩ := hM.update (t := 75) Tryz.underlying75 Tryz.underlying9 Tryz.underlying3 (by unfold maxLen; omega) (fnI fs x).1.S 2 hsz (by decide)
      have hlk5 := hM5.look (t := 75) Tryz.underlying75 Tryz.underlying9 Tryz.underlying3 (met_zero _) (fnI fs x).1.S hsz
      have e2 : setS (cntF fs pre) (fnI fs x).1.S.data.toList 2 (fnI fs x).1.S.data.toList = 2 := if_pos rfl
      rw [e1, show ((1 : Nat) : Int) = 1 from rfl] at hlk
      rw [e2, show ((2 : Nat) : Int) = 2 from rfl] at hlk5
      rw [show ((2 : Nat) : Int) = 2 from rfl] at hup
      have cb5 := (blk_grown_map hg5 hobj hb).cell 0
      have cm5 := (blk_grown_map hg5 hobj hm3).cell 0
      have hs5 := blk_grown_map hg5 hobj hs
      have hs6 := hs5.put 0 (.bool false)
      have fz := fun i => hs5.frozen i
      have c5 := hs5.cell 0
      have hzs5 := hs5.lt
      have HX : Hid (ApX w w.heap.size fs .ret (pre ++ [x]) (w5.setCell ⟨w.heap.size + 1, 0, none⟩ (.bool false))) :=
        ⟨rfl, hs6, (hK.grown hg5 (fun g e hl => by cases e; omega)).setCell (fun h => absurd h (by simp)) _, fun h => by
          rw [List.map_append, List.nodup_append] at h
          exact h.2.2 _ hx _ (by simp) rfl⟩
      have HKF : Hid (KeepsFrom (w.heap.size + 1 + 1 + 1 + 1 + 1) W (w5.setCell ⟨w.heap.size + 1, 0, none⟩ (.bool false))) :=
        ⟨by have := hg5.size; simpa [World.setCell] using this, fun k o hk1 hk2 hk3 => (Below.heap_setCell _ _ _ _ (by show k ≠ w.heap.size + 1; omega)).trans ((hg5.block k (Array.getElem?_eq_some_iff.1 hk2).1 (by simp; omega)).trans hk2)⟩
      simp only [F.FV.cells, List.getElem?_toArray, List.getElem?_cons_zero] at cb5 cm5 c5
      clear hM hM5 hs hm3 hb hs5 hs6 hK hg5 hobj hnd e1 e2 hx
      generalize fnI fs x = e at *
      obtain ⟨⟨S1, A1, na1, ca1, B1, nb1, cb1, L1, nl1, cl1, D1, nd1, cd1⟩, f⟩ := e
      dsimp only [F.FV.val, F.FV.cells] at *
      gi_wp2
      exact ⟨by simpa using HKF.out, HX.out⟩
    · have e1 : cntF fs pre (fnI fs x).1.S.data.toList = 0 := if_neg hx
      have hlk := hM.look (t := 75) Tryz.underlying75 Tryz.underlying9 Tryz.underlying3 (met_zero _) (fnI fs x).1.S hsz
      obtain ⟨w5, hup, hM5, hg5⟩ := hM.update (t := 75) Tryz.underlying75 Tryz.underlying9 Tryz.underlying3 (by unfold maxLen; omega) (fnI fs x).1.S 1 hsz (by decide)
      have hlk5 := hM5.look (t := 75) Tryz.underlying75 Tryz.underlying9 Tryz.underlying3 (met_zero _) (fnI fs x).1.S hsz
      have e2 : setS (cntF fs pre) (fnI fs x).1.S.data.toList 1 (fnI fs x).1.S.data.toList = 1 := if_pos rfl
      rw [e1, show ((0 : Nat) : Int) = 0 from rfl] at hlk
      rw [e2, show ((1 : Nat) : Int) = 1 from rfl] at hlk5
      rw [show ((1 : Nat) : Int) = 1 from rfl] at hup
      have cb5 := (blk_grown_map hg5 hobj hb).cell 0
      have cm5 := (blk_grown_map hg5 hobj hm3).cell 0
      have HX : Hid (ApI w w.heap.size fs (pre ++ [x]) w5) :=
        ⟨⟨blk_grown_map hg5 hobj hs, blk_grown_map hg5 hobj hm3⟩, by
          have := hM5.congr (g := cntF fs (pre ++ [x])) cntF_new
          rwa [show pre.length + 1 = (pre ++ [x]).length by simp] at this, hK.grown hg5 (fun g e hl => by cases e; omega), nodup_new hx hnd⟩
      have HKF : Hid (KeepsFrom (w.heap.size + 1 + 1 + 1 + 1 + 1) W w5 ∧ FsK Y fs W w5) :=
        ⟨⟨hg5.size, fun k o hk1 hk2 hk3 => (hg5.block k (Array.getElem?_eq_some_iff.1 hk2).1 (by simp; omega)).trans hk2⟩, fun hr => rd_grown hg5 hobj hr⟩
      simp only [F.FV.cells, List.getElem?_toArray, List.getElem?_cons_zero] at cb5 cm5
      clear hM hM5 hs hm3 hb hK hg5 hobj hnd e1 e2 hx
      generalize fnI fs x = e at *
      obtain ⟨⟨S1, A1, na1, ca1, B1, nb1, cb1, L1, nl1, cl1, D1, nd1, cd1⟩, f⟩ := e
      dsimp only [F.FV.val, F.FV.cells] at *
      gi_wp2
      exact ⟨by simpa using HKF.out.1, HKF.out.2, HX.out⟩
  case done =>
    rintro D ys W hD rfl ⟨⟨hs, hm3⟩, hM, hK, hnd⟩ hDf
    rw [HN.out] at hnd
    obtain rfl : true = R := by rw [← hR.out, decide_eq_true hnd]
    have hs6 := hs.put 0 (.bool true)
    have fz := fun i => hs.frozen i
    have c5 : W.cell? ⟨w.heap.size + 1, 0, none⟩ = some (.bool false) := hs.cell 0
    have hK6 := hK.setCell (p := ⟨w.heap.size + 1, 0, none⟩) (fun h => absurd h (by simp)) (.bool true)
    have hDf6 := (Below.heap_setCell W ⟨w.heap.size + 1, 0, none⟩ (.bool true) D (by show D ≠ w.heap.size + 1; simp at hD; omega)).trans hDf
    have HS6 := Lib.hid hs6
    clear hs hm3 hM hnd hK hs6
    gi_wp2
    refine ⟨by simp, .inl ⟨_, _, rfl, run_takeDeferred hDf6, ?_⟩⟩
    exact ⟨_, O.results_cell rfl rfl (run_bool (blk_putObj HS6.out hDf6 rfl)), rfl, O.Keep_putObj hK6 (by simp at hD; omega)⟩
  case stop =>
    rintro D c pre W hD ⟨k, hk, rfl⟩ ⟨rfl, hs, hK, hnd⟩ hDf
    have hnd2 := not_nodup_range hk hnd
    rw [HN.out] at hnd2
    obtain rfl : false = R := by rw [← hR.out, decide_eq_false hnd2]
    gi_wp2
    refine ⟨by simp, .inl ⟨_, _, rfl, run_takeDeferred hDf, ?_⟩⟩
    exact ⟨_, O.results_cell rfl rfl (run_bool (blk_putObj hs hDf rfl)), rfl, O.Keep_putObj hK (by simp at hD; omega)⟩

end Go.Proofs.YtgifflfjhockaaaGreatDoor.I

namespace Go.Proofs.YtgifflfjhockaaaGreatDoor.I
open Go.RowKit W

theorem okI_parts (es : List SE) (fs : List FE) : okI (imOf es fs) = (mayS es && (mayF fs && decide ((names (imOf [] fs)).Nodup))) := by
  have hn : names (imOf es fs) = names (imOf [] fs) := rfl
  rw [Bool.eq_iff_iff, okI_iff, hn]
  simp only [Bool.and_eq_true, mayS, mayF, decide_eq_true_eq]
  have e1 : (imOf es fs).sh.all S.okS = es.all fun e => S.okS e.2 := by simp [imOf, List.all_map, Function.comp_def]
  have e2 : (imOf es fs).fn.all F.okF = fs.all fun e => F.okF e.2 := by simp [imOf, List.all_map, Function.comp_def]
  have e3 : (imOf es fs).sh.length = es.length := by simp [imOf]
  have e4 : (imOf es fs).fn.length = fs.length := by simp [imOf]
  rw [e1, e2, e3, e4]
  constructor
  · rintro ⟨⟨a, ⟨b, c⟩, d⟩, e, f⟩
    exact ⟨⟨⟨Nat.zero_le _, a⟩, e⟩, ⟨⟨b, c⟩, f⟩, d⟩
  · rintro ⟨⟨⟨_, a⟩, e⟩, ⟨⟨b, c⟩, f⟩, d⟩
    exact ⟨⟨a, ⟨b, c⟩, d⟩, e, f⟩

set_option maxRecDepth 100000 in
set_option maxHeartbeats 8000000 in
theorem check_any (v : IV) (es : List SE) (fs : List FE) (w : World) (h : ImAt w v es fs) (hl : LgI v es fs) (R : Int) (hR : Hid (chkI (imOf es fs) = R)) :
    Calls Tryz.prog 20 #[v.val] w fun e w' => e = .returned (.int .i64 R) ∧ Keep NoB w w' := by
  have bx := Blk.new w 25 v.cells
  have k0 := (Keep.refl NoB w).alloc (.cells v.cells 25)
  have hlx := h.lx
  have hly := h.ly
  have HS := Lib.hid (fun W (hk : Keep NoB w W) => mayS_any v.X es v.nx v.cx W (fun W' hk' => (h.keepN (keepN hk hk')).rx) hlx (by have := hl.nx; omega) (fun e he W' hk' => S.chkS_any e.1.A e.2 e.1.n e.1.c W' ((h.keepN (keepN hk hk')).hs e he).1 (h.hs e he).2 (by have := hl.sh e he; omega) _ rfl))
  have HF := Lib.hid (fun W (hk : Keep NoB w W) => mayF_any v.Y fs v.ny v.cy W (fun W' hk' => (h.keepN (keepN hk hk')).ry) hly (by have := hl.ny; omega) (fun e he W' hk' => F.checkL_any e.1 e.2 W' ((h.keepN (keepN hk hk')).hf e he) (hl.fn e he) _ rfl))
  have HA : Hid (mayF fs = true → ∀ W, Keep NoB w W → Calls Tryz.prog 54 #[v.val] W fun e w' => e = .returned (.bool (decide ((names (imOf [] fs)).Nodup))) ∧ Keep NoB W w') := fun hm W hk =>
    apart_any v es fs W (h.keepN hk) (by unfold mayF at hm; rw [Bool.and_eq_true, decide_eq_true_eq] at hm; omega) (fun e he => (hl.fn e he).sz) _ rfl
  have HR : Hid (chkI (imOf es fs) = if (mayS es && (mayF fs && decide ((names (imOf [] fs)).Nodup))) = true then 0 else 80) := by show _ = _; unfold chkI; rw [okI_parts]
  obtain ⟨q0, q1⟩ := blk2 bx
  clear h hl bx hlx hly
  obtain ⟨X, nx, cx, Y, ny, cy⟩ := v
  dsimp only [IV.val, IV.cells] at *
  generalize hw1 : w.alloc (.cells #[.slice X nx cx, .slice Y ny cy] 25) = w1 at k0 q0 q1
  have HP := Lib.hid (fun (n : KW w1) => keepN k0 n.keep)
  have z0 : ∀ n : KW w1, n.w.cell? ⟨w.heap.size, 0, none⟩ = some (.slice X nx cx) := fun n => n.keep.cell q0 id
  have z1 : ∀ n : KW w1, n.w.cell? ⟨w.heap.size, 1, none⟩ = some (.slice Y ny cy) := fun n => n.keep.cell q1 id
  generalize decide ((names (imOf [] fs)).Nodup) = bA at *
  cases hs : mayS es
  · rw [hs] at HS HR
    obtain rfl : 80 = R := by rw [← hR.out, HR.out]; rfl
    clear hR HR HF HA hs
    go_enter Tryz.func20, Tryz.ntmps20
    go_wp2_with fail
    clear hw1
    refine wp_region_kept w1 (by kernel_rfl) (by kernel_rfl) (Keep.refl NoB w1) ?_
    repeat (go_big_quiet_step (first | (go_at_call 37; exact kept_of (partsS_any _)) | (go_at_call 52; exact kept_of (HS.out _ (HP.out _)))))
    refine wpQuiet_nil ?_
    rintro _ ⟨n9, rfl⟩
    have hk9 := n9.keep
    generalize n9.w = w9 at hk9 ⊢
    have hK9 := keepN k0 hk9
    go_wp2
    go_ret
    exact ⟨rfl, hK9⟩
  · rw [hs] at HS HR
    cases hf : mayF fs
    · rw [hf] at HF HR
      obtain rfl : 80 = R := by rw [← hR.out, HR.out]; rfl
      clear hR HR HA hs hf
      go_enter Tryz.func20, Tryz.ntmps20
      go_wp2_with fail
      clear hw1
      refine wp_region_kept w1 (by kernel_rfl) (by kernel_rfl) (Keep.refl NoB w1) ?_
      repeat (go_big_quiet_step (first | (go_at_call 37; exact kept_of (partsS_any _)) | (go_at_call 52; exact kept_of (HS.out _ (HP.out _))) | (go_at_call 39; exact kept_of (partsF_any _)) | (go_at_call 53; exact kept_of (HF.out _ (HP.out _)))))
      refine wpQuiet_nil ?_
      rintro _ ⟨n9, rfl⟩
      have hk9 := n9.keep
      generalize n9.w = w9 at hk9 ⊢
      have hK9 := keepN k0 hk9
      go_wp2
      go_ret
      exact ⟨rfl, hK9⟩
    · have HA2 := Lib.hid (HA.out hf)
      rw [hf] at HF HR
      cases bA
      · obtain rfl : 80 = R := by rw [← hR.out, HR.out]; rfl
        clear hR HR HA hs hf
        go_enter Tryz.func20, Tryz.ntmps20
        go_wp2_with fail
        clear hw1
        refine wp_region_kept w1 (by kernel_rfl) (by kernel_rfl) (Keep.refl NoB w1) ?_
        repeat (go_big_quiet_step (first | (go_at_call 37; exact kept_of (partsS_any _)) | (go_at_call 52; exact kept_of (HS.out _ (HP.out _))) | (go_at_call 39; exact kept_of (partsF_any _)) | (go_at_call 53; exact kept_of (HF.out _ (HP.out _))) | (go_at_call 54; exact kept_of (HA2.out _ (HP.out _)))))
        refine wpQuiet_nil ?_
        rintro _ ⟨n9, rfl⟩
        have hk9 := n9.keep
        generalize n9.w = w9 at hk9 ⊢
        have hK9 := keepN k0 hk9
        go_wp2
        go_ret
        exact ⟨rfl, hK9⟩
      · obtain rfl : 0 = R := by rw [← hR.out, HR.out]; rfl
        clear hR HR HA hs hf
        go_enter Tryz.func20, Tryz.ntmps20
        go_wp2_with fail
        clear hw1
        refine wp_region_kept w1 (by kernel_rfl) (by kernel_rfl) (Keep.refl NoB w1) ?_
        repeat (go_big_quiet_step (first | (go_at_call 37; exact kept_of (partsS_any _)) | (go_at_call 52; exact kept_of (HS.out _ (HP.out _))) | (go_at_call 39; exact kept_of (partsF_any _)) | (go_at_call 53; exact kept_of (HF.out _ (HP.out _))) | (go_at_call 54; exact kept_of (HA2.out _ (HP.out _)))))
        refine wpQuiet_nil ?_
        rintro _ ⟨n9, rfl⟩
        have hk9 := n9.keep
        generalize n9.w = w9 at hk9 ⊢
        have hK9 := keepN k0 hk9
        go_wp2
        go_ret
        exact ⟨rfl, hK9⟩

end Go.Proofs.YtgifflfjhockaaaGreatDoor.I

namespace Go.Proofs.YtgifflfjhockaaaGreatDoor.O
open Go.RowKit

/-- Block k holds cells. -/
def CellsAt (W : World) (k : Nat) : Prop := ∃ cs t f, W.heap[k]? = some (.cells cs t f)
theorem CellsAt.lt {W : World} {k : Nat} (h : CellsAt W k) : k < W.heap.size := by obtain ⟨_, _, _, h⟩ := h; exact (Array.getElem?_eq_some_iff.1 h).1
theorem Blk.cellsAt {w : World} {g : Nat} {t : TypeId} {cs : Array Value} (h : Blk w g t cs) : CellsAt w g := ⟨cs, t, (0, 0), h⟩
theorem own_cells {w : World} {O : Nat → Prop} {v : Value} {l : List UInt8} (h : V.OwnB w O v l) : ∀ g, v.ownBlock = some g → CellsAt w g := by
  intro g e
  rcases h.1.2 with ⟨rfl, _⟩ | ⟨g', cap, cur, rfl, _, hh, _⟩
  · simp [Value.ownBlock] at e
  · simp [Value.ownBlock] at e
    subst e
    exact ⟨_, _, _, hh⟩
/-- A Tape's blocks are cells. -/
theorem tape_cells {w : World} {bt : Nat} {O : Nat → Prop} {l : List UInt8} (h : V.TapeAt w bt O l) : V.TapeAt w bt (fun k => O k ∧ CellsAt w k) l := by
  rcases h.2 with ⟨hb, hl⟩ | ⟨bs, v, ho, hb, hs, hv⟩
  · exact ⟨⟨h.1, Blk.cellsAt hb⟩, .inl ⟨hb, hl⟩⟩
  · exact ⟨⟨h.1, Blk.cellsAt hb⟩, .inr ⟨bs, v, ⟨ho, Blk.cellsAt hs⟩, hb, hs, hv.1, fun g e => ⟨hv.2 g e, own_cells hv g e⟩⟩⟩
/-- A step that turns none of a Tape's blocks leaves it. -/
theorem tape_grown {w w' : World} {row : Option Nat} {bt : Nat} {O : Nat → Prop} {l : List UInt8} (h : V.TapeAt w bt O l) (hg : w.grownBy w' row) (hr : ∀ r, row = some r → ¬ O r) : V.TapeAt w' bt O l := by
  have hk : Keep (fun k => some k = row) w w' := ⟨hg.os, hg.tape, hg.output, hg.size, fun k hk hn => hg.block k hk hn⟩
  exact h.keep hk (fun k ho e => hr k e.symm ho)

/-- What write leaves. -/
def WroteR (w : World) (bt : Nat) (O : Nat → Prop) (xs : List UInt8) (e : Ending) (w' : World) : Prop := e = .returned (.tuple #[]) ∧ V.TapeAt w' bt (V.More O w w') xs ∧ Keep O w w'

set_option maxHeartbeats 1000000 in
theorem write_any (k n : Int) (sh gu : Value) (bt : Nat) (O : Nat → Prop) (l : List UInt8) (w : World) (hk : k ≠ 0) (hn : inK k n = true) (h64 : -9223372036854775808 ≤ n ∧ n ≤ 9223372036854775807)
    (h : V.TapeAt w bt O l) (hO : ∀ k, O k → k < w.heap.size) (hb : l.length + 9 ≤ 140737488355328) :
    Calls Tryz.prog 195 #[opV k sh gu, .pointer (some ⟨bt, 0, none⟩), .int .i64 n] w (WroteR w bt O (l ++ encP k n)) := by
  have hK := (Keep.refl NoB w).alloc (.cells #[.int .i64 k, .int .i64 (lo k), .int .i64 (hi k), sh, gu] 268)
  have h1 := h.keep hK (fun _ _ => id)
  have hO1 : ∀ j, O j → j < (w.alloc (.cells #[.int .i64 k, .int .i64 (lo k), .int .i64 (hi k), sh, gu] 268)).heap.size := by intro j hj; have := hO j hj; simp; omega
  have hsz : (w.alloc (.cells #[.int .i64 k, .int .i64 (lo k), .int .i64 (hi k), sh, gu] 268)).heap.size = w.heap.size + 1 := by simp
  by_cases h1k : k = 1
  · subst h1k
    have HE : Hid (encP 1 n = V.encL (V.zig n)) := rfl
    have HS := Lib.hid (V.tsigned_any _ bt O l n h64.1 h64.2 h1 hO1 hb)
    clear hk hn hO hb h h1 hO1
    unfold opV
    go_enter Tryz.func195, Tryz.ntmps195
    go_wp2_with fail
    refine HS.out.mono ?_
    rintro e w2 ⟨rfl, h2, k2⟩
    go_wp2
    go_end0
    rw [HE.out]
    refine ⟨rfl, h2.mono ?_, hK.mono (fun _ hf _ => hf.elim) |>.trans k2 (fun _ ho _ => ho)⟩
    rintro j (hj | ⟨hj1, hj2⟩) _
    · exact .inl hj
    · exact .inr ⟨by omega, hj2⟩
  · have hn0 : 0 ≤ n := by
      have := (of_decide_eq_true hn).1
      unfold lo at this
      rw [if_neg h1k] at this
      split at this <;> omega
    obtain ⟨m, rfl⟩ := Int.eq_ofNat_of_zero_le hn0
    have HE : Hid (encP k m = V.encL m) := by show _ = _; unfold encP; rw [if_neg hk, if_neg h1k]; rfl
    have HS := Lib.hid (V.tnumber_any _ bt O l m h1 hO1 hb)
    have q1 : (k == 1) = false := by rw [beq_eq_false_iff_ne]; exact h1k
    have hm : (m : Int) ≤ 9223372036854775807 := h64.2
    have hw : IntKind.u64.wrap (m : Int) = (m : Int) := by simp [IntKind.wrap, IntKind.bits, IntKind.signed]; omega
    clear hk hn hO hb h h1 hO1 h1k h64
    unfold opV
    go_enter Tryz.func195, Tryz.ntmps195
    go_wp2_with fail
    refine HS.out.mono ?_
    rintro e w2 ⟨rfl, h2, k2⟩
    go_wp2
    go_end0
    rw [HE.out]
    refine ⟨rfl, h2.mono ?_, hK.mono (fun _ hf _ => hf.elim) |>.trans k2 (fun _ ho _ => ho)⟩
    rintro j (hj | ⟨hj1, hj2⟩) _
    · exact .inl hj
    · exact .inr ⟨by omega, hj2⟩

end Go.Proofs.YtgifflfjhockaaaGreatDoor.O

namespace Go.Proofs.YtgifflfjhockaaaGreatDoor.O
open Go.RowKit Go.Shelf
attribute [local go_sem] Oper.semAt_some

/-- The bytes of the operands that have come. -/
def bytesP (l : List (Int × Int)) : List UInt8 := l.flatMap fun x => encP x.1 x.2
theorem bytesP_snoc (l : List (Int × Int)) (x : Int × Int) : bytesP (l ++ [x]) = bytesP l ++ encP x.1 x.2 := by unfold bytesP; simp
theorem encP_0 (n : Int) : encP 0 n = [] := rfl
theorem bytesP_parts (ka kb a b : Int) (h : ka = 0 → kb = 0) : bytesP (partsL ka kb a b) = encP ka a ++ encP kb b := by
  unfold partsL bytesP
  split
  · rename_i hz
    rw [hz, h hz]; rfl
  · split
    · rename_i h2; rw [h2]; simp [encP_0]
    · simp
theorem encP_len (k n : Int) : (encP k n).length ≤ 9 := by
  unfold encP
  split
  · exact Nat.zero_le _
  · split <;> exact V.encL_len _
theorem bytesP_len : ∀ (l : List (Int × Int)), (bytesP l).length ≤ 9 * l.length
  | [] => Nat.zero_le _
  | x :: l => by
    have h1 := encP_len x.1 x.2
    have h2 := bytesP_len l
    have e : bytesP (x :: l) = encP x.1 x.2 ++ bytesP l := by unfold bytesP; simp
    rw [e]
    simp
    omega
theorem parts_in {ka kb a b : Int} {x : Int × Int} (h : x ∈ partsL ka kb a b) (ha : inK ka a = true) (hb : inK kb b = true) : inK x.1 x.2 = true := by
  unfold partsL at h
  split at h
  · cases h
  · split at h
    · simp at h; subst h; exact ha
    · simp at h
      rcases h with rfl | rfl
      · exact ha
      · exact hb

/-- What a Tape in the loop is. -/
def TapeI (w : World) (bt Bx Br : Nat) (xs : List UInt8) (op a b : Int) (r : Row) (W : World) : Prop :=
  ∃ O, V.TapeAt W bt O xs ∧ (∀ k, O k → CellsAt W k ∧ w.heap.size ≤ k ∧ k ≠ Bx ∧ k ≠ Br) ∧ Blk W Bx 63 #[.int .i64 op, .int .i64 a, .int .i64 b] ∧ Blk W Br 259 (cells9 r) ∧ Keep NoB w W
theorem tapeI_own {β : Type} {B : Nat} {w : World} (hB : w.heap.size ≤ B) (bt Bx Br : Nat) (xs : β → List UInt8) (op a b : Int) (r : Row) : OwnFrom B (fun s W => TapeI w bt Bx Br (xs s) op a b r W) := by
  rintro s X Y row ⟨O, h1, h2, h3, h4, h5⟩ hg hrow
  have hO : ∀ k, row = some k → ¬ O k := fun k e ho => by
    obtain ⟨cs, t, f, hc⟩ := (h2 k ho).1
    obtain ⟨_, o, ho', hn⟩ := hrow k e
    rw [hc] at ho'; cases ho'; cases hn
  refine ⟨O, tape_grown h1 hg hO, fun k ho => ⟨?_, (h2 k ho).2⟩, blk_own (β := Unit) _ _ _ (fun _ => _) () _ _ _ h3 hg hrow, blk_own (β := Unit) _ _ _ (fun _ => _) () _ _ _ h4 hg hrow, keep_own (β := Unit) NoB hB () _ _ _ h5 hg hrow⟩
  obtain ⟨cs, t, f, hc⟩ := (h2 k ho).1
  exact ⟨cs, t, f, (hg.block k (Array.getElem?_eq_some_iff.1 hc).1 (fun e => hO k e.symm ho)).trans hc⟩
theorem tapeI_keep {w : World} {bt Bx Br : Nat} {xs : List UInt8} {op a b : Int} {r : Row} {W W' : World} (h : TapeI w bt Bx Br xs op a b r W) (hk : Keep NoB W W') : TapeI w bt Bx Br xs op a b r W' :=
  tapeI_own (β := Unit) (Nat.le_refl _) bt Bx Br (fun _ => xs) op a b r () W W' none h hk.grows (fun _ e => by cases e)

/-- A round: the Tape with so much more. -/
theorem tapeI_wrote {w : World} {bt Bx Br B : Nat} {xs ys : List UInt8} {op a b : Int} {r : Row} {W W' : World} {O : Nat → Prop} (hO : ∀ k, O k → CellsAt W k ∧ w.heap.size ≤ k ∧ k ≠ Bx ∧ k ≠ Br)
    (h3 : Blk W Bx 63 #[.int .i64 op, .int .i64 a, .int .i64 b]) (h4 : Blk W Br 259 (cells9 r)) (h5 : Keep NoB w W) (ht : V.TapeAt W' bt (V.More O W W') ys) (hk : Keep O W W') (hxy : ys = xs) :
    TapeI w bt Bx Br xs op a b r W' ∧ KeepsFrom B W W' := by
  subst hxy
  have hx := h3.lt
  have hr := h4.lt
  refine ⟨⟨_, tape_cells ht, ?_, h3.keep hk (fun h => (hO _ h).2.2.1 rfl), h4.keep hk (fun h => (hO _ h).2.2.2 rfl), h5.trans hk (fun k h hl => by have := (hO k h).2.1; omega)⟩, ?_⟩
  · rintro k ⟨h | ⟨h, _⟩, hc⟩
    · exact ⟨hc, (hO k h).2⟩
    · have := h5.size
      exact ⟨hc, by omega, by omega, by omega⟩
  · refine ⟨hk.size, fun k o _ hh hn => (hk.block k (Array.getElem?_eq_some_iff.1 hh).1 (fun ho => ?_)).trans hh⟩
    obtain ⟨cs, t, f, hc⟩ := (hO k ho).1
    rw [hh] at hc; cases hc; cases hn

/-- The activation at the head of the loop's body. -/
def encAct (op a b : Int) (r : Row) (g h q : Nat) (x : Part) (Bo : Nat) : Act :=
  { tmps := #[instV op a b, .pointer (some ⟨g, 0, none⟩), .slice none 0 0, .int .i64 0, .pointer (some ⟨h, 0, none⟩), .bool true, .pointer (some ⟨h + 1, 0, none⟩), .pointer (some ⟨Bo, 0, none⟩), .int .i64 x.n, .tuple #[rowV r, .bool true],
      instV op a b, .tuple #[rowV r, .bool true], rowV r, .bool true, .bool true, .bool false, .pointer (some ⟨g, 0, none⟩), .int .i64 op, .int .u64 op, .pointer (some ⟨h + 1, 0, none⟩), rowV r, instV op a b,
      .func (.func 210) #[] #[.pointer (some ⟨q + 1, 0, none⟩), .pointer (some ⟨q, 0, none⟩)], .agg #[.int .i64 x.k, .int .i64 (lo x.k), .int .i64 (hi x.k), x.sh, x.gu], .int .i64 x.n,
      undef, undef, undef, undef], defers := [] }

set_option maxRecDepth 100000 in
set_option maxHeartbeats 4000000 in
theorem encode_yes (op a b : Int) (w : World) (hok : okI op a b = true) (ha : I64 a) (hb : I64 b) :
    Calls Tryz.prog 175 #[instV op a b] w fun e w' => ∃ v, e = .returned (.tuple #[v, .int .i64 0]) ∧ V.OwnB w' (Fresh w) v (bytesI op a b) ∧ Keep NoB w w' := by
  obtain ⟨r, hr⟩ : ∃ r, rowAt op = r := ⟨_, rfl⟩
  have hka := kinds_ok op
  have hkn := kinds_none op
  obtain ⟨ho, hia, hib⟩ := ok_op hok
  obtain ⟨m, rfl⟩ := Int.eq_ofNat_of_zero_le (isOp_yes ho).1
  have hm : m < 30 := by have := (isOp_yes ho).2; omega
  have HT : Hid (bytesI m a b = V.encL m ++ bytesP (partsL r.ka r.kb a b)) := by show _ = _; unfold bytesI; rw [hr, bytesP_parts _ _ _ _ (hr ▸ hkn)]; rfl
  have HR := Lib.hid (fun w => rowFor_any m a b r w (by rw [rowR_ok hok]; exact hr))
  rw [hr] at hka hia hib
  rw [hok] at HR
  have HA := Lib.hid (And.intro ha hia)
  have HB := Lib.hid (And.intro hb hib)
  have hw64 : IntKind.u64.wrap (m : Int) = (m : Int) := by simp [IntKind.wrap, IntKind.bits, IntKind.signed]; omega
  clear hok hr hkn ha hb ho hia hib
  refine (callsIn_wide (n := 4)).1 ?_
  refine callsIn_of_wp_marks Tryz.func175 rfl trivial ?_ rfl
  simp only [Tryz.ntmps175, List.size_toArray, List.length_cons, List.length_nil, Nat.reduceAdd, Nat.reduceSub, Array.replicate_succ, Array.replicate_zero, List.push_toArray, List.append_toArray, List.nil_append, List.cons_append]
  gi_wp2_with (refine ⟨trivial, ?_⟩; gi_at_call 193; refine (callsIn_wide.2 (HR.out _)).mono ?_; rintro e w1 ⟨rfl, k1⟩; have bi := (Blk.new w 63 #[.int .i64 m, .int .i64 a, .int .i64 b]).keep k1 id; have i0 : ∀ o o', ((w1.alloc o).alloc o').cell? ⟨w.heap.size, 0, none⟩ = some (.int .i64 m) := fun o o' => ((bi.alloc o).alloc o').cell 0)
  have ht := V.TapeAt.new (w1.alloc (.cells (cells9 r) 259))
  rw [World.size_alloc] at ht
  have hl0 := V.encL_len m
  refine ⟨trivial, ?_⟩
  refine (callsIn_wide.2 (V.tnumber_any _ (w1.heap.size + 1) _ [] m ht (fun k e => by subst e; simp) (by simp))).mono ?_
  rintro e w2 ⟨rfl, ht2, k2⟩
  have hsz : w.heap.size < w1.heap.size := by have := k1.size; simp at this; omega
  have hs2 : w1.heap.size + 1 < w2.heap.size := by have := k2.size; simp at this; omega
  have bi2 := ((bi.alloc (.cells (cells9 r) 259)).alloc (.cells #[.pointer none, .int .i64 0] 134)).keep k2 (by omega)
  have br2 := ((Blk.new w1 259 (cells9 r)).alloc (.cells #[.pointer none, .int .i64 0] 134)).keep k2 (by omega)
  have hK2 : Keep NoB w w2 := ((keepN ((Keep.refl NoB w).alloc _) k1).alloc _ |>.alloc _).trans k2 (fun k e hl => by omega)
  obtain ⟨c0, c1, c2, c3, c4, c5, c6, c7, c8⟩ := blk9 br2
  have d0 : w2.cell? ⟨w.heap.size, 0, none⟩ = some (.int .i64 m) := bi2.cell 0
  have d1 : w2.cell? ⟨w.heap.size, 1, none⟩ = some (.int .i64 a) := bi2.cell 1
  have d2 : w2.cell? ⟨w.heap.size, 2, none⟩ = some (.int .i64 b) := bi2.cell 2
  have HT2 := Lib.hid ht2
  clear ht2 ht bi i0 bi2 br2 k1 k2
  gi_wp2_with (refine ⟨trivial, ?_⟩; gi_at_call 194; refine (callsIn_wide.2 (parts_any r m a b _)).mono ?_; rintro e w3 ⟨rfl, br, bx, k3⟩)
  have hK3 : Keep NoB w w3 := keepN hK2 k3
  have hI0 : TapeI w (w1.heap.size + 1) (w2.heap.size + 1) w2.heap.size (V.encL m ++ bytesP (([] : List Part).map Part.key)) m a b r w3 := by
    have h1 := tape_cells HT2.out
    have h2 := h1.keep k3 (fun _ _ => id)
    refine ⟨_, by simpa [bytesP] using h2, ?_, bx, br, hK3⟩
    rintro k ⟨hk, hc⟩
    have hlt := hc.lt
    obtain ⟨cs, t, f, hh⟩ := hc
    refine ⟨⟨cs, t, f, (k3.block k hlt id).trans hh⟩, ?_, by omega, by omega⟩
    rcases hk with rfl | ⟨hk, _⟩
    · omega
    · simp at hk; omega
  clear c0 c1 c2 c3 c4 c5 c6 c7 c8 d0 d1 d2 HT2 hs2 hw64 HR
  have hI : OwnFrom w3.heap.size (fun (pre : List Part) W => TapeI w (w1.heap.size + 1) (w2.heap.size + 1) w2.heap.size (V.encL m ++ bytesP (pre.map Part.key)) m a b r W) :=
    tapeI_own hK3.size (w1.heap.size + 1) (w2.heap.size + 1) w2.heap.size (fun pre : List Part => V.encL m ++ bytesP (pre.map Part.key)) m a b r
  refine wpIn_rangeFunc_brings (m := 2) (gf := 210) (lb := #[.pointer (some ⟨w2.heap.size + 1, 0, none⟩), .pointer (some ⟨w2.heap.size, 0, none⟩)]) rfl (enters_of Tryz.func210 (by kernel_rfl) rfl)
    (parts1_in 2 r m a b (w2.heap.size + 1) w2.heap.size ⟨hka.1, hka.2.1⟩ hka.2.2 (fun pre W => TapeI w (w1.heap.size + 1) (w2.heap.size + 1) w2.heap.size (V.encL m ++ bytesP (pre.map Part.key)) m a b r W)
      (fun pre W ⟨_, _, _, h, _⟩ => h) (fun pre W ⟨_, _, _, _, h, _⟩ => h)) (fun _ => rfl) hI hI0
    (fun pre x a' W => TapeI w (w1.heap.size + 1) (w2.heap.size + 1) w2.heap.size (V.encL m ++ bytesP (pre.map Part.key)) m a b r W ∧ (∃ post, pre.map Part.key ++ x.key :: post = partsL r.ka r.kb a b) ∧ ∃ Bo, Blk W Bo 268 #[.int .i64 x.k, .int .i64 (lo x.k), .int .i64 (hi x.k), x.sh, x.gu] ∧ a' = encAct m a b r w.heap.size w1.heap.size w2.heap.size x Bo) ?hax ?assign ?body ?done
  case hax =>
    rintro pre x a' s X Y row ⟨h1, h2, Bo, h5, h6⟩ hg hrow
    exact ⟨hI _ _ _ _ h1 hg hrow, h2, Bo, blk_own (β := Unit) _ _ _ (fun _ => _) () _ _ _ h5 hg hrow, h6⟩
  case assign =>
    rintro l pre ⟨k, n, sh, gu⟩ W hi hen
    have hk0 := (part_facts hen HA.out.1 HB.out.1).1
    have hen2 := Lib.hid hen.1
    have hi2 := Lib.hid hi
    rcases hen.2 with ⟨h0, _⟩ | ⟨_, h1, h2⟩ | ⟨_, b1, c1, h1, h2, _, _⟩
    · exact absurd h0 hk0
    all_goals
      simp only at h1 h2
      subst h1 h2
      clear hen hi
      dsimp only [partE, opV]
      gi_wp2
      exact ⟨⟨tapeI_keep hi2.out ((Keep.refl NoB W).alloc _), hen2.out, W.heap.size, Blk.new W _ _, rfl⟩, keepsFrom_keep ((Keep.refl NoB W).alloc _)⟩
  case body =>
    rintro l pre ⟨k, n, sh, gu⟩ a' W ⟨⟨O, ht, hO, bx2, br2, hKW⟩, hen, Bo, bo, rfl⟩
    obtain ⟨post, hp⟩ := hen
    have hmem : ((k, n) : Int × Int) ∈ partsL r.ka r.kb a b := by rw [← hp]; simp [Part.key]
    have hk0 : k ≠ 0 := (parts_mem hmem).1
    have hn64 : -9223372036854775808 ≤ n ∧ n ≤ 9223372036854775807 := by
      rcases (parts_mem hmem).2 with e | e
      · simp only at e; rw [e]; exact HA.out.1
      · simp only at e; rw [e]; exact HB.out.1
    have hin : inK k n = true := parts_in hmem HA.out.2 HB.out.2
    have hl1 := bytesP_len (pre.map Part.key)
    have hl2 := congrArg List.length hp
    have hl3 := parts_len r.ka r.kb a b
    simp at hl1 hl2
    have HC := Lib.hid (write_any k n sh gu (w1.heap.size + 1) O (V.encL m ++ bytesP (pre.map Part.key)) W hk0 hin hn64 ht (fun j hj => (hO j hj).1.lt) (by rw [List.length_append]; omega))
    have o0 : W.cell? ⟨Bo, 0, none⟩ = some (.int .i64 k) := bo.cell 0
    have o1 : W.cell? ⟨Bo, 1, none⟩ = some (.int .i64 (lo k)) := bo.cell 1
    have o2 : W.cell? ⟨Bo, 2, none⟩ = some (.int .i64 (hi k)) := bo.cell 2
    have o3 : W.cell? ⟨Bo, 3, none⟩ = some sh := bo.cell 3
    have o4 : W.cell? ⟨Bo, 4, none⟩ = some gu := bo.cell 4
    have HX : Hid ((V.encL m ++ bytesP (pre.map Part.key)) ++ encP k n = V.encL m ++ bytesP (pre.map Part.key ++ [(⟨k, n, sh, gu⟩ : Part).key])) := by
      show _ = _
      rw [bytesP_snoc, List.append_assoc]
      rfl
    have HE := Lib.hid (fun (W' : World) (h1 : V.TapeAt W' (w1.heap.size + 1) (V.More O W W') ((V.encL m ++ bytesP (pre.map Part.key)) ++ encP k n)) (h2 : Keep O W W') => tapeI_wrote (B := w3.heap.size) hO bx2 br2 hKW h1 h2 HX.out)
    clear hp hmem hk0 hn64 hin hl1 hl2 hl3 ht hO bx2 br2 hKW bo HX
    dsimp only [encAct]
    gi_wp2_with (refine ⟨trivial, ?_⟩; gi_at_call 195; refine (CallsIn.inRound l (callsIn_wide.2 HC.out)).mono ?_; rintro e w4 ⟨rfl, h4, k4⟩)
    exact HE.out _ h4 k4
  case done =>
    rintro D xs W hD hS ⟨O, ht, hO, _, _, hKW⟩ hK
    rw [hS, ← HT.out] at ht
    have hlen : (bytesI m a b).length ≤ 140737488355328 := by
      have h1 := bytesP_len (partsL r.ka r.kb a b)
      have h2 := parts_len r.ka r.kb a b
      rw [HT.out, List.length_append]; omega
    have HC := Lib.hid (V.all_any W (w1.heap.size + 1) O (bytesI m a b) ht hlen)
    clear ht hO hlen
    gi_wp2_with (refine ⟨trivial, ?_⟩; gi_at_call 71; refine (callsIn_wide.2 HC.out).mono ?_; rintro e w4 ⟨v, rfl, h4, k4⟩)
    have hK4 := (k4.block _ (Array.getElem?_eq_some_iff.1 hK).1 id).trans hK
    refine ⟨by simp, .inl ⟨_, _, rfl, run_takeDeferred hK4, ?_⟩⟩
    exact ⟨_, results_tmp2 rfl _ _ _, v, rfl, ⟨ownsRow_putObj h4.1 _ hK4 rfl, fun g e => Nat.le_trans hKW.size (h4.2 g e)⟩, Keep_putObj (keepN hKW k4) (Nat.le_trans hK3.size hD)⟩

end Go.Proofs.YtgifflfjhockaaaGreatDoor.O

namespace Go.Proofs.YtgifflfjhockaaaGreatDoor.O
open Go.RowKit

set_option maxHeartbeats 1000000 in
theorem encode_any (op a b : Int) (w : World) (ha : I64 a) (hb : I64 b) :
    Calls Tryz.prog 175 #[instV op a b] w fun e w' => ∃ v, e = .returned (.tuple #[v, .int .i64 (chk op a b)]) ∧ V.OwnB w' (Fresh w) v (encI op a b) ∧ Keep NoB w w' := by
  cases hok : okI op a b
  · have hK := (Keep.refl NoB w).alloc (.cells #[.int .i64 op, .int .i64 a, .int .i64 b] 63)
    have HR := Lib.hid (fun w => rowFor_any op a b row0 w (rowR_no hok))
    rw [hok] at HR
    have HX : Hid (encI op a b = [] ∧ chk op a b = 40) := ⟨by unfold encI; rw [if_neg (by rw [hok]; decide)], by unfold chk; rw [if_neg (by rw [hok]; decide)]⟩
    clear hok ha hb
    go_enter Tryz.func175, Tryz.ntmps175
    go_wp2_with fail
    refine (HR.out _).mono ?_
    rintro e w1 ⟨rfl, k1⟩
    go_wp2
    go_ret2
    rw [HX.out.1, HX.out.2]
    exact ⟨_, rfl, V.OwnB.nil _ _, (keepN hK k1).alloc _⟩
  · refine (encode_yes op a b w hok ha hb).mono ?_
    rintro e w' ⟨v, rfl, hv, hk⟩
    refine ⟨v, ?_, ?_, hk⟩
    · unfold chk; rw [if_pos hok]
    · unfold encI; rw [if_pos hok]; exact hv

end Go.Proofs.YtgifflfjhockaaaGreatDoor.O

namespace Go.Proofs.YtgifflfjhockaaaGreatDoor.O
open Go.RowKit

theorem own_app {w w1 w2 : World} {v v' : Value} {l m : List UInt8} (hv : V.OwnB w1 (Fresh w) v l) (hk : Keep NoB w w1) (hown : w2.ownsRow 0 5 1 v' (l ++ m).length (V.bvs (l ++ m))) (hg : w1.grownBy w2 v.ownBlock)
    (hat : v'.ownBlock = v.ownBlock ∨ v'.ownBlock = some w1.heap.size) : V.OwnB w2 (Fresh w) v' (l ++ m) ∧ Keep NoB w w2 := by
  refine ⟨⟨hown, fun g e => ?_⟩, hk.grown hg (fun g e hlt => by have := hv.2 g e; unfold Fresh at this; omega)⟩
  rcases hat with h | h
  · rw [h] at e; exact hv.2 g e
  · rw [h] at e
    injection e with e
    subst e
    exact hk.size
theorem own_keep {w w1 w2 : World} {v : Value} {l : List UInt8} (hv : V.OwnB w1 (Fresh w) v l) (hk : Keep NoB w1 w2) : V.OwnB w2 (Fresh w) v l := hv.keep hk (fun _ _ => id)

theorem nat_of {k n : Int} (h1 : k ≠ 1) (h : inK k n = true) : ∃ m : Nat, n = (m : Int) ∧ m ≤ 511 := by
  have := (in_bounds h).2.1 h1
  exact ⟨n.toNat, by omega, by omega⟩
theorem wrap_u64 {m : Nat} (h : m ≤ 511) : IntKind.u64.wrap (m : Int) = (m : Int) := by simp [IntKind.wrap, IntKind.bits, IntKind.signed]; omega

theorem kind_one (op : Int) : (rowAt op).ka = 1 → (rowAt op).kb = 0 := by
  have := rowAt_all (p := fun r => decide (r.ka = 1 → r.kb = 0)) (by decide) (by decide) op
  exact of_decide_eq_true this
theorem kind_two (op : Int) : (rowAt op).kb ≠ 1 := by
  have := rowAt_all (p := fun r => decide (r.kb ≠ 1)) (by decide) (by decide) op
  simpa using this

set_option maxHeartbeats 2000000 in
theorem rbytes_any (op a b : Int) (w : World) (hok : okI op a b = true) :
    Calls Tryz.prog 185 #[instV op a b] w fun e w' => ∃ v, e = .returned v ∧ V.OwnB w' (Fresh w) v (bytesI op a b) ∧ Keep NoB w w' := by
  obtain ⟨ho, hA, hB⟩ := ok_op hok
  have hb := isOp_yes ho
  obtain ⟨o, rfl⟩ := Int.eq_ofNat_of_zero_le hb.1
  have hwo := wrap_u64 (m := o) (by omega)
  have HO := Lib.hid (fun w => V.refnum_any o w (by show _ < _; omega))
  have HK := Lib.hid (fun w => rkinds_any (o : Int) w)
  have hkk := kinds_ok (o : Int)
  have hkn := kinds_none (o : Int)
  have HX : Hid (bytesI o a b = V.encL o ++ (encP (rowAt o).ka a ++ encP (rowAt o).kb b)) := rfl
  have hl1 := V.encL_len o
  have hk1 := kind_one (o : Int)
  have hkb := kind_two (o : Int)
  clear ho hok hb
  generalize (rowAt (o : Int)).ka = ka at *
  generalize (rowAt (o : Int)).kb = kb at *
  have bx0 := Blk.new w 63 #[.int .i64 o, .int .i64 a, .int .i64 b]
  have gK := (Keep.refl NoB w).alloc (.cells #[.int .i64 o, .int .i64 a, .int .i64 b] 63)
  by_cases h0 : ka = 0
  · have h00 := hkn h0
    subst h0 h00
    have HX2 : Hid (bytesI o a b = V.encL o) := by show _ = _; rw [HX.out]; simp [encP_0]
    clear HX hA hB hkk hkn hk1 hkb
    go_enter Tryz.func185, Tryz.ntmps185
    go_wp2_with fail
    refine (HO.out _).mono ?_
    rintro e w1 ⟨v, rfl, hv, k1⟩
    obtain ⟨x0, x1, x2⟩ := blk_inst (bx0.keep k1 id)
    go_wp2_with fail
    refine (HK.out _).mono ?_
    rintro e w2 ⟨rfl, rfl⟩
    go_wp2
    go_ret
    rw [HX2.out]
    exact ⟨v, rfl, hv.mono (fun k hk _ => by unfold Fresh at hk ⊢; simp at hk; omega), keepN gK k1⟩
  · have q0 : decide (0 < ka) = true := by rw [decide_eq_true_iff]; omega
    by_cases h1 : ka = 1
    · subst h1
      have h00 := hk1 rfl
      subst h00
      have HX2 : Hid (bytesI o a b = V.encL o ++ V.encL (V.zig a)) := by show _ = _; rw [HX.out]; unfold encP; simp
      have hb1 := in_bounds hA
      have HZ := Lib.hid (fun w => V.rzig_any a w hb1.1.1 hb1.1.2)
      have HN := Lib.hid (fun w => V.refnum_any (V.zig a) w (V.zig_lt a hb1.1.1 hb1.1.2))
      have hl2 := V.encL_len (V.zig a)
      clear HX hA hB hkk hkn hk1 hb1 h0
      go_enter Tryz.func185, Tryz.ntmps185
      go_wp2_with fail
      refine (HO.out _).mono ?_
      rintro e w1 ⟨v, rfl, hv, k1⟩
      have bx := bx0.keep k1 id
      have hv : V.OwnB w1 (Fresh w) v (V.encL o) := hv.mono (fun k hk _ => by unfold Fresh at hk ⊢; simp at hk; omega)
      replace gK := keepN gK k1
      obtain ⟨x0, x1, x2⟩ := blk_inst bx
      go_wp2_with fail
      refine (HK.out _).mono ?_
      rintro e w2 ⟨rfl, rfl⟩
      go_wp2_with fail
      refine (HZ.out _).mono ?_
      rintro e w2 ⟨rfl, rfl⟩
      go_wp2_with fail
      refine (HN.out _).mono ?_
      rintro e w3 ⟨v2, rfl, hv2, k2⟩
      obtain ⟨A2, c2, rfl, _, hr2, _, _⟩ := hv2.form
      have hv3 := own_keep hv k2
      replace gK := keepN gK k2
      go_wp2_with (at_builtin; refine V.wpList_append_rd _ rfl _ _ rfl v (V.encL o) (V.encL (V.zig a)) A2 c2 rfl hv3.1 rfl hr2 (by omega) ?_; intro v' w4 hown' hg hat)
      go_ret
      rw [HX2.out]
      have := own_app hv3 gK hown' hg hat
      exact ⟨v', rfl, this.1, this.2⟩
    · have q1 : (ka == 1) = false := by rw [beq_eq_false_iff_ne]; exact h1
      obtain ⟨m, rfl, hm⟩ := nat_of h1 hA
      have hwm := wrap_u64 hm
      have HN := Lib.hid (fun w => V.refnum_any m w (by show _ < _; omega))
      have hl2 := V.encL_len m
      have e1 : encP ka (m : Int) = V.encL m := by unfold encP; rw [if_neg h0, if_neg h1]; simp
      by_cases h2 : kb = 0
      · subst h2
        have HX2 : Hid (bytesI o (m : Int) b = V.encL o ++ V.encL m) := by show _ = _; rw [HX.out, e1, encP_0]; simp
        clear HX hA hB hkk hkn hk1 h0 h1 e1 hm
        go_enter Tryz.func185, Tryz.ntmps185
        go_wp2_with fail
        refine (HO.out _).mono ?_
        rintro e w1 ⟨v, rfl, hv, k1⟩
        have bx := bx0.keep k1 id
        have hv : V.OwnB w1 (Fresh w) v (V.encL o) := hv.mono (fun k hk _ => by unfold Fresh at hk ⊢; simp at hk; omega)
        replace gK := keepN gK k1
        obtain ⟨x0, x1, x2⟩ := blk_inst bx
        go_wp2_with fail
        refine (HK.out _).mono ?_
        rintro e w2 ⟨rfl, rfl⟩
        go_wp2_with fail
        refine (HN.out _).mono ?_
        rintro e w3 ⟨v2, rfl, hv2, k2⟩
        obtain ⟨A2, c2, rfl, _, hr2, _, _⟩ := hv2.form
        have hv3 := own_keep hv k2
        replace gK := keepN gK k2
        go_wp2_with (at_builtin; refine V.wpList_append_rd _ rfl _ _ rfl v (V.encL o) (V.encL m) A2 c2 rfl hv3.1 rfl hr2 (by omega) ?_; intro v' w4 hown' hg hat)
        go_ret
        rw [HX2.out]
        have := own_app hv3 gK hown' hg hat
        exact ⟨v', rfl, this.1, this.2⟩
      · have hkb1 : kb ≠ 1 := hkb
        obtain ⟨n, rfl, hn⟩ := nat_of hkb1 hB
        have hwn := wrap_u64 hn
        have q2 : decide (0 < kb) = true := by rw [decide_eq_true_iff]; omega
        have HN2 := Lib.hid (fun w => V.refnum_any n w (by show _ < _; omega))
        have hl3 := V.encL_len n
        have e2 : encP kb (n : Int) = V.encL n := by unfold encP; rw [if_neg h2, if_neg hkb1]; simp
        have HX2 : Hid (bytesI o (m : Int) (n : Int) = (V.encL o ++ V.encL m) ++ V.encL n) := by show _ = _; rw [HX.out, e1, e2]; simp
        clear HX hA hB hkk hkn hk1 h0 h1 e1 e2 hm hn h2 hkb hkb1
        go_enter Tryz.func185, Tryz.ntmps185
        go_wp2_with fail
        refine (HO.out _).mono ?_
        rintro e w1 ⟨v, rfl, hv, k1⟩
        have bx := bx0.keep k1 id
        have hv : V.OwnB w1 (Fresh w) v (V.encL o) := hv.mono (fun k hk _ => by unfold Fresh at hk ⊢; simp at hk; omega)
        replace gK := keepN gK k1
        obtain ⟨x0, x1, x2⟩ := blk_inst bx
        go_wp2_with fail
        refine (HK.out _).mono ?_
        rintro e w2 ⟨rfl, rfl⟩
        go_wp2_with fail
        refine (HN.out _).mono ?_
        rintro e w3 ⟨v2, rfl, hv2, k2⟩
        obtain ⟨A2, c2, rfl, _, hr2, _, _⟩ := hv2.form
        have hv3 := own_keep hv k2
        have bx2 := bx.keep k2 id
        replace gK := keepN gK k2
        clear x0 x1 x2
        go_wp2_with (at_builtin; refine V.wpList_append_rd _ rfl _ _ rfl v (V.encL o) (V.encL m) A2 c2 rfl hv3.1 rfl hr2 (by omega) ?_; intro v' w4 hown' hg hat; have hap := own_app hv3 gK hown' hg hat; have hne : some w.heap.size ≠ v.ownBlock := (hv3.not_blk bx2 (by decide)).symm; have bx4 := bx2.grown hg hne; obtain ⟨x0, x1, x2⟩ := blk_inst bx4)
        go_wp2_with fail
        refine (HN2.out _).mono ?_
        rintro e w5 ⟨v5, rfl, hv5, k5⟩
        obtain ⟨A5, c5, rfl, _, hr5, _, _⟩ := hv5.form
        have hv6 := own_keep hap.1 k5
        have gK6 := keepN hap.2 k5
        go_wp2_with (at_builtin; refine V.wpList_append_rd _ rfl _ _ rfl v' (V.encL o ++ V.encL m) (V.encL n) A5 c5 rfl hv6.1 rfl hr5 (by simp; omega) ?_; intro v7 w7 hown7 hg7 hat7)
        go_ret
        rw [HX2.out]
        have := own_app hv6 gK6 hown7 hg7 hat7
        exact ⟨v7, rfl, this.1, this.2⟩

end Go.Proofs.YtgifflfjhockaaaGreatDoor.O

namespace Go.Proofs.YtgifflfjhockaaaGreatDoor.C
open Go.RowKit O

theorem bytesI_len (op a b : Int) : (bytesI op a b).length ≤ 27 := by
  unfold bytesI
  have h1 := V.encL_len op.toNat
  have h2 := encP_len (O.rowAt op).ka a
  have h3 := encP_len (O.rowAt op).kb b
  rw [List.length_append, List.length_append]
  omega
theorem byt_len : ∀ (l : List I3), (byt l).length ≤ 27 * l.length
  | [] => Nat.zero_le _
  | x :: l => by
    have h1 := bytesI_len x.1 x.2.1 x.2.2
    have h2 := byt_len l
    have e : byt (x :: l) = bytesI x.1 x.2.1 x.2.2 ++ byt l := rfl
    rw [e, List.length_append]
    simp only [List.length_cons]; omega
theorem wrap_n {n : Nat} (h : n ≤ 512) : IntKind.u64.wrap (n : Int) = (n : Int) := by simp [IntKind.wrap, IntKind.bits, IntKind.signed]; omega
theorem encB_ok {l : List I3} (h : okB l = true) : encB l = bytesB l := if_pos h
theorem encB_no {l : List I3} (h : okB l = false) : encB l = [] := if_neg (by rw [h]; decide)
theorem enc_one (op a b : Int) (w : World) (h : okI op a b = true) (ha : O.I64 a) (hb : O.I64 b) :
    Calls Tryz.prog 175 #[instV op a b] w fun e w' => ∃ v, e = .returned (.tuple #[v, .int .i64 0]) ∧ V.OwnB w' (Fresh w) v (bytesI op a b) ∧ Keep NoB w w' :=
  encode_yes op a b w h ha hb
/-- How Encode ends. -/
def EncR (w : World) (bs : List UInt8) (E : Int) (e : Ending) (w' : World) : Prop := ∃ v, e = .returned (.tuple #[v, .int .i64 E]) ∧ V.OwnB w' (Fresh w) v bs ∧ Keep NoB w w'
theorem encR_none {w w' : World} {E : Int} (h : Keep NoB w w') : EncR w [] E (.returned (.tuple #[.slice none 0 0, .int .i64 E])) w' := ⟨_, rfl, V.OwnB.nil _ _, h⟩
theorem ownB_older {w w0 w' : World} {v : Value} {l : List UInt8} (h : V.OwnB w' (Fresh w0) v l) (hk : Keep NoB w w0) : V.OwnB w' (Fresh w) v l := h.mono (fun _ hf _ => Nat.le_trans hk.size hf)

set_option maxRecDepth 100000 in
set_option maxHeartbeats 4000000 in
theorem cencode_any (A : Option Addr) (l : List I3) (n c : Nat) (w : World) (hr : Rd w A (iis l)) (hn : Hid (l.length = n)) (hI : Hid (AllI l)) (hm : n ≤ 9223372036854775807) :
    Calls Tryz.prog 131 #[.slice A n c] w (EncR w (encB l) (chkB l)) := by
  have hr0 := Lib.hid hr
  cases ho : okB l
  · rw [encB_no ho, chkB_no ho]
    have HC := Lib.hid (fun w hr => cchk_any A l n c w hr hn hm 50 (chkB_no ho))
    clear ho hr
    go_enter Tryz.func131, Tryz.ntmps131
    go_wp2_with (go_at_call 125; refine (HC.out _ hr0.out).mono ?_; rintro e w1 ⟨rfl, k1⟩)
    go_ret2
    exact encR_none k1
  · rw [encB_ok ho, chkB_ok ho]
    obtain ⟨h1, h5, _, hall⟩ := okB_parts ho
    rw [hn.out] at h1 h5
    have HC := Lib.hid (fun w hr => cchk_any A l n c w hr hn hm 0 (chkB_ok ho))
    have HA : Hid (∀ (k : Nat) (hk : k < l.length), okI l[k].1 l[k].2.1 l[k].2.2 = true) := fun k hk => (item_parts (okB_at ho hk)).1
    have HB : Hid (bytesB l = V.encL n ++ byt l) := by show _ = _; unfold bytesB; rw [hn.out]
    have hw64 := wrap_n h5
    have hl0 := V.encL_len n
    clear ho hr hall
    go_enter Tryz.func131, Tryz.ntmps131
    go_wp2_with fail
    refine (HC.out _ hr0.out).mono ?_
    rintro e w1 ⟨rfl, k1⟩
    have ht := V.TapeAt.new w1
    have hr1 := Lib.hid (hr0.out.keepN (k1.alloc (.cells #[.pointer none, .int .i64 0] 134)))
    have gK := k1.alloc (.cells #[.pointer none, .int .i64 0] 134)
    have hsz : w.heap.size ≤ w1.heap.size := k1.size
    go_wp2_with fail
    refine (V.tnumber_any _ w1.heap.size _ [] n ht (fun k e => by subst e; simp) (by simp)).mono ?_
    rintro e w2 ⟨rfl, ht2, k2⟩
    replace gK := gK.trans k2 (fun k e hl => by omega)
    have hr2 := Lib.hid (hr1.out.keep k2 (fun ad e ho => by
      have hlt : 0 < (iis l).length := by rw [iis_length, hn.out]; omega
      obtain ⟨g, off, e2, hc⟩ := hr0.out hlt
      rw [e2] at e; cases e
      obtain ⟨u, hu⟩ : ∃ u, (iis l)[0]? = some u := ⟨_, List.getElem?_eq_getElem hlt⟩
      have := World.block_lt_of_cell? w _ (hc 0 u hu)
      simp at this ho; omega))
    clear hr1 ht k1 k2
    rw [List.nil_append] at ht2
    go_wp2_with (go_at_call 71; refine (V.all_any w2 w1.heap.size _ (V.encL n) ht2 (by omega)).mono ?_; rintro e w3 ⟨v3, rfl, h3, k3⟩)
    have h3' := ownB_older h3 gK
    replace gK := keepN gK k3
    have hr3 := Lib.hid (hr2.out.keepN k3)
    clear ht2 h3 k3 hr2 hsz HC
    have gsz := gK.size
    go_loopw [5, 20] (fun v i wr => ∃ k : Nat, k ≤ n ∧ i = .int .i64 k ∧ V.OwnB wr (Fresh w) v (V.encL n ++ byt (l.take k)) ∧ Keep NoB w wr) (fun _ i _ => n - (intOf i).toNat)
    case atStart => exact ⟨0, Nat.zero_le _, rfl, by rw [List.take_zero]; simpa [byt] using h3', gK⟩
    case round =>
      obtain ⟨k, hk, rfl, hO, hK⟩ := hrel
      have hR := hr0.out.keepN hK
      clear h3' gK gsz hr3
      by_cases hlt : k < n
      · have hkl : k < l.length := by rw [hn.out]; exact hlt
        obtain ⟨g, off, rfl, hc⟩ := rdJ_at hR (by omega)
        obtain ⟨c0, c1, c2⟩ := hc k hkl
        have HT := Lib.hid (show l.take (k + 1) = l.take k ++ [l[k]] from List.take_succ_eq_append_getElem hkl)
        have hab := hI.out l[k] (List.getElem_mem hkl)
        have hok := HA.out k hkl
        have hl1 := byt_len (l.take k)
        rw [List.length_take] at hl1
        clear hc
        generalize l[k] = x at c0 c1 c2 HT hab hok
        obtain ⟨op, a, b⟩ := x
        dsimp only at c0 c1 c2 hab hok
        have HE := Lib.hid (fun w => enc_one op a b w hok hab.1 hab.2)
        have HX : Hid ((V.encL n ++ byt (l.take k)) ++ bytesI op a b = V.encL n ++ byt (l.take (k + 1))) := by show _ = _; rw [HT.out, byt_snoc, List.append_assoc]
        have hl2 := bytesI_len op a b
        have hl3 : (V.encL n ++ byt (l.take k)).length ≤ 20000 := by rw [List.length_append]; omega
        have hO1 := own_keep hO ((Keep.refl NoB wr).alloc (.cells #[.int .i64 op, .int .i64 a, .int .i64 b] 63))
        have hK1 := hK.alloc (.cells #[.int .i64 op, .int .i64 a, .int .i64 b] 63)
        have hR1 := hR.keepN ((Keep.refl NoB wr).alloc (.cells #[.int .i64 op, .int .i64 a, .int .i64 b] 63))
        clear hab hok HT hl1 hO hK hR hl0
        go_wp2_with fail
        refine (HE.out _).mono ?_
        rintro e w4 ⟨v4, rfl, h4, k4⟩
        obtain ⟨A4, c4, rfl, _, hr4, _, _⟩ := h4.form
        have hO2 := own_keep hO1 k4
        have hK2 := keepN hK1 k4
        have hR2 := hR1.keepN k4
        clear h4 k4 hO1 hK1 hR1 c0 c1 c2
        go_wp2_with (at_builtin; refine V.wpList_append_rd _ rfl _ _ rfl _ (V.encL n ++ byt (l.take k)) (bytesI op a b) A4 c4 rfl hO2.1 rfl hr4 (by omega) ?_; intro v5 w5 hown hg hat; obtain ⟨hO3, hK3⟩ := own_app hO2 hK2 hown hg hat; rw [HX.out] at hO3; clear hown hg hat)
        go_roundw
        case rel => exact ⟨k + 1, by omega, by go_num, hO3, hK3⟩
        case measure => simp [intOf]; omega
      · obtain rfl : k = n := by omega
        rw [List.take_of_length_le (by rw [hn.out]; omega), ← HB.out] at hO
        go_wp2
        go_ret2
        exact ⟨_, rfl, hO, hK⟩

end Go.Proofs.YtgifflfjhockaaaGreatDoor.C

namespace Go.Proofs.YtgifflfjhockaaaGreatDoor.F
open Go.RowKit W

end Go.Proofs.YtgifflfjhockaaaGreatDoor.F

namespace Go.Proofs.YtgifflfjhockaaaGreatDoor.F
open Go.RowKit W

end Go.Proofs.YtgifflfjhockaaaGreatDoor.F

namespace Go.Proofs.YtgifflfjhockaaaGreatDoor.C
open Go.RowKit O

end Go.Proofs.YtgifflfjhockaaaGreatDoor.C

namespace Go.Proofs.YtgifflfjhockaaaGreatDoor.F
open Go.RowKit W

theorem bytesB_len {l : List C.I3} (h : C.okB l = true) : (C.bytesB l).length ≤ 13840 := by
  have h1 := V.encL_len l.length
  have h2 := C.byt_len l
  obtain ⟨_, h5, _, _⟩ := C.okB_parts h
  unfold C.bytesB
  rw [List.length_append]
  omega
theorem str_of {S : ByteArray} {l : List UInt8} (h : S.data.toList = l) : S = V.str l := by subst h; rfl
theorem rd_mark (w : World) (l : List UInt8) (C : Array Value) (fr : Nat × Nat) (hC : ∀ (j : Nat) (u : Value), (V.bvs l)[j]? = some u → C[j]? = some u) :
    V.Rd (w.alloc (.cells C 5 fr)) (some ⟨w.heap.size, 0, none⟩) l := fun _ =>
  ⟨_, rfl, fun j u hu => by
    have e : (⟨w.heap.size, 0, none⟩ : Addr).add j = ⟨w.heap.size, j, none⟩ := by unfold Addr.add; split <;> simp_all
    rw [e, World.cell?_alloc_mark]
    exact hC j u hu⟩
theorem conv_name (w : World) (l : List UInt8) : ∃ w' c, (convert 9 26 (.string (V.str l))).run Tryz.prog w = .ok (.slice (some ⟨w.heap.size, 0, none⟩) l.length c) w' ∧ V.Rd w' (some ⟨w.heap.size, 0, none⟩) l ∧ Keep NoB w w' ∧ w.heap.size < w'.heap.size := by
  have h := run_bytes_of_string w 9 26 5 (V.str l) Tryz.underlying9 Tryz.underlying26 Tryz.underlying5
  refine ⟨_, _, h, ?_, ((Keep.refl NoB w).drew).alloc _, by simp⟩
  refine rd_mark w.drew l _ _ (fun j u hu => ?_)
  obtain ⟨hj, rfl⟩ := List.getElem?_eq_some_iff.1 hu
  rw [bytesRow_at (V.str l) _ j (by simpa using hj)]
  simp
end Go.Proofs.YtgifflfjhockaaaGreatDoor.F

namespace Go.Proofs.YtgifflfjhockaaaGreatDoor.F
open Go.RowKit W

/-- The bytes so far. -/
def Byt (W2 : World) (b : Nat) (bs : List UInt8) (w : World) : Prop := Keep (fun k => k = b) W2 w ∧ ∃ u, Blk w b 26 #[u] ∧ V.OwnB w (Fresh W2) u bs
/-- A writer: what encodes, the part, and where the bytes go, each in a cell of its own. -/
def WrV (k : Nat) (tc tp : TypeId) (enc : Value) (cells : Array Value) (b m : Nat) (v : Value) (w : World) : Prop :=
  ∃ c p q, v = askV k #[.pointer (some ⟨c, 0, none⟩), .pointer (some ⟨p, 0, none⟩), .pointer (some ⟨q, 0, none⟩)] ∧ (m ≤ c ∧ m ≤ p ∧ m ≤ q) ∧ Blk w c tc #[enc] ∧ Blk w p tp cells ∧ Blk w q 188 #[.pointer (some ⟨b, 0, none⟩)]
theorem WrV.keep {k : Nat} {tc tp : TypeId} {enc : Value} {cells : Array Value} {b m : Nat} {v : Value} {w w' : World} {O : Nat → Prop} (h : WrV k tc tp enc cells b m v w) (hk : Keep O w w') (hO : ∀ x, m ≤ x → ¬ O x) : WrV k tc tp enc cells b m v w' := by
  obtain ⟨c, p, q, e, ⟨m1, m2, m3⟩, h1, h2, h3⟩ := h
  exact ⟨c, p, q, e, ⟨m1, m2, m3⟩, h1.keep hk (hO _ m1), h2.keep hk (hO _ m2), h3.keep hk (hO _ m3)⟩
theorem Byt.keepN {W2 w w' : World} {b : Nat} {bs : List UInt8} (h : Byt W2 b bs w) (hk : Keep NoB w w') : Byt W2 b bs w' := by
  obtain ⟨h1, u, h2, h3⟩ := h
  exact ⟨h1.trans hk (fun _ h _ => h.elim), u, h2.keep hk id, h3.keep hk (fun _ _ => id)⟩
/-- What an encoder answers. -/
def EncA (w : World) (xs : List UInt8) (E : Int) (e : Ending) (w' : World) : Prop := ∃ v, e = .returned (.tuple #[v, .int .i64 E]) ∧ V.OwnB w' (Fresh w) v xs ∧ Keep NoB w w'

theorem wr_put {W2 w1 w' : World} {b : Nat} {bs xs : List UInt8} {u v' : Value} {u0 : Value} (hb2 : b < W2.heap.size) (hK : Keep (fun k => k = b) W2 w1) (hb : Blk w1 b 26 #[u0]) (hO : V.OwnB w1 (Fresh W2) u bs)
    (hown : w'.ownsRow 0 5 1 v' (bs ++ xs).length (V.bvs (bs ++ xs))) (hg : w1.drew.grownBy w' u.ownBlock) (hat : v'.ownBlock = u.ownBlock ∨ v'.ownBlock = some w1.drew.heap.size) : Byt W2 b (bs ++ xs) (w'.setCell ⟨b, 0, none⟩ v') := by
  have hF : ∀ g, v'.ownBlock = some g → Fresh W2 g := fun g e => by
    rcases hat with h | h
    · exact hO.2 g (h ▸ e)
    · rw [h] at e
      injection e with e
      subst e
      exact hK.size
  have hne : ∀ g, u.ownBlock = some g → g ≠ b := fun g e h => by have := hO.2 g e; unfold Fresh at this; omega
  have hb1 : Blk w' b 26 #[u0] := Blk.grown (show Blk w1.drew b 26 #[u0] from hb) hg (fun e => hne b e.symm rfl)
  have hK1 : Keep (fun k => k = b) W2 w' := hK.drew.grown hg (fun g e h => by have := hO.2 g e; unfold Fresh at this; omega)
  refine ⟨hK1.setCell (fun _ => rfl) _, v', ?_, ⟨?_, hF⟩⟩
  · have := hb1.put 0 v'
    simpa using this
  · exact ownsRow_keep hown ((Keep.refl (fun k => k = b) w').setCell (fun _ => rfl) _) (fun g e h => by have := hF g e; unfold Fresh at this; omega)

set_option maxRecDepth 100000 in
set_option maxHeartbeats 4000000 in
theorem writesStr_any (k b m : Nat) (S : ByteArray) (w : World) (hm : m ≤ w.heap.size) :
    Calls Tryz.prog 126 #[.pointer (some ⟨b, 0, none⟩), fnV k, .string S] w fun e w' => ∃ u, e = .returned u ∧ WrV 170 189 9 (fnV k) (#[.string S]) b m u w' ∧ Keep NoB w w' := by
  have hmf : ∀ (fn : Go.Fn) (first cap : Array Value) (w : World), (Instr.makeFunc fn first cap).run Tryz.prog w = .ok (.func fn first cap) w := fun _ _ _ _ => rfl
  have b0 := ((Blk.new w 188 #[.pointer (some ⟨b, 0, none⟩)]).alloc (.cells #[fnV k] 189)).alloc (.cells (#[.string S]) 9)
  have b1 := (Blk.new (w.alloc (.cells #[.pointer (some ⟨b, 0, none⟩)] 188)) 189 #[fnV k]).alloc (.cells (#[.string S]) 9)
  have b2 := Blk.new ((w.alloc (.cells #[.pointer (some ⟨b, 0, none⟩)] 188)).alloc (.cells #[fnV k] 189)) 9 (#[.string S])
  simp only [World.size_alloc] at b1 b2
  have k0 := (((Keep.refl NoB w).alloc (.cells #[.pointer (some ⟨b, 0, none⟩)] 188)).alloc (.cells #[fnV k] 189)).alloc (.cells (#[.string S]) 9)
  unfold fnV at *
  have HB0 := Lib.hid b0
  have HB1 := Lib.hid b1
  have HB2 := Lib.hid b2
  have HK := Lib.hid k0
  clear b0 b1 b2 k0
  go_enter Tryz.func126, Tryz.ntmps126
  go_wp2
  go_ret
  exact ⟨_, rfl, ⟨w.heap.size + 1, w.heap.size + 1 + 1, w.heap.size, rfl, ⟨by omega, by omega, hm⟩, HB1.out, HB2.out, HB0.out⟩, HK.out⟩

set_option maxRecDepth 100000 in
set_option maxHeartbeats 4000000 in
theorem wroteStr_any (k : Nat) (hcf : ∀ args w, (callFunc k args).run Tryz.prog w = .ok (.enter k args) w) (S : ByteArray) (W2 : World) (c p q b : Nat) (bs xs : List UInt8) (w : World) (hc : Blk w c 189 #[fnV k]) (hp : Blk w p 9 (#[.string S])) (hq : Blk w q 188 #[.pointer (some ⟨b, 0, none⟩)]) (hqb : q < W2.heap.size) (hb2 : b < W2.heap.size)
    (hB : Byt W2 b bs w) (hl : bs.length + xs.length ≤ 140737488355328) (E : Int) (a : Bool) (ha : (E == 0) = a)
    (HG : Hid (Calls Tryz.prog k #[.string S] w (EncA w xs E))) :
    Calls Tryz.prog 170 #[.pointer (some ⟨c, 0, none⟩), .pointer (some ⟨p, 0, none⟩), .pointer (some ⟨q, 0, none⟩)] w fun e w' => e = .returned (.bool a) ∧ Byt W2 b (bs ++ xs) w' := by
  obtain ⟨hK, u, hb, hO⟩ := hB
  have cc := hc.cell 0
  have cq := hq.cell 0
  unfold fnV at cc
  have cp : w.cell? ⟨p, 0, none⟩ = some (.string S) := hp.cell 0
  have hqne : q ≠ b := hq.ne hb (by decide)
  clear hc hp
  go_enter Tryz.func170, Tryz.ntmps170
  go_wp2_with fail
  refine HG.out.mono ?_
  rintro e w1 ⟨v, rfl, hv, k1⟩
  obtain ⟨A, cA, rfl, _, hr, _, _⟩ := hv.form
  have hb1 := hb.keep k1 id
  have hq1 := hq.keep k1 id
  have cq1 := hq1.cell 0
  have cb1 := hb1.cell 0
  simp at cq1 cb1
  have hO1 := hO.keep k1 (fun _ _ => id)
  have hK1 := hK.trans k1 (fun _ h _ => h.elim)
  obtain ⟨A0, c0, rfl, _, _, _, _⟩ := hO1.form
  have HX := Lib.hid (fun (A' : Option Addr) (c' : Nat) (w' : World) (hown : w'.ownsRow 0 5 1 (.slice A' (bs ++ xs).length c') (bs ++ xs).length (V.bvs (bs ++ xs))) (hg : w1.drew.grownBy w' (Value.slice A0 bs.length c0).ownBlock) (hat : (Value.slice A' (bs ++ xs).length c').ownBlock = (Value.slice A0 bs.length c0).ownBlock ∨ (Value.slice A' (bs ++ xs).length c').ownBlock = some w1.drew.heap.size) =>
    (show Byt W2 b (bs ++ xs) (w'.setCell ⟨b, 0, none⟩ (.slice A' (bs ++ xs).length c')) from wr_put hb2 hK1 hb1 hO1 hown hg hat))
  have HN1 : Hid (some b ≠ (Value.slice A0 bs.length c0).ownBlock) := fun e => absurd (hO1.2 b e.symm) (by unfold Fresh; omega)
  have HN2 : Hid (some q ≠ (Value.slice A0 bs.length c0).ownBlock) := fun e => absurd (hO1.2 q e.symm) (by unfold Fresh; omega)
  have hrow := hO1.1
  clear hv hO hb hq hK cc cp cq k1 HG
  go_wp2_with fail
  go_region_law ((refine V.step_append_rd _ (by rfl) _ _ (by rfl) (.slice A0 bs.length c0) bs xs A cA (by rfl) (by exact hrow) (by rfl) (by exact hr) hl ?_; intro A1 c1 w2 hown1 hgrow hat; have hs1 := Blk.grown (w' := w2) (by exact hb1) hgrow HN1.out; have ht1 := Blk.grown (w' := w2) (by exact hq1) hgrow HN2.out; have cs1 := hs1.cell 0; have fs1 := hs1.frozen 0; have ct1 := ht1.cell 0; have HD := Lib.hid (HX.out _ _ _ hown1 hgrow hat); simp at cs1 ct1))
  all_goals go_wp2
  all_goals go_ret
  all_goals exact ⟨rfl, by have h9 := HD.out; rw [List.length_append] at h9; exact h9⟩

set_option maxRecDepth 100000 in
set_option maxHeartbeats 4000000 in
theorem writesSig_any (k b m : Nat) (x y : Value) (w : World) (hm : m ≤ w.heap.size) :
    Calls Tryz.prog 128 #[.pointer (some ⟨b, 0, none⟩), fnV k, .agg #[x, y]] w fun e w' => ∃ u, e = .returned u ∧ WrV 172 191 57 (fnV k) (#[x, y]) b m u w' ∧ Keep NoB w w' := by
  have hmf : ∀ (fn : Go.Fn) (first cap : Array Value) (w : World), (Instr.makeFunc fn first cap).run Tryz.prog w = .ok (.func fn first cap) w := fun _ _ _ _ => rfl
  have b0 := ((Blk.new w 188 #[.pointer (some ⟨b, 0, none⟩)]).alloc (.cells #[fnV k] 191)).alloc (.cells (#[x, y]) 57)
  have b1 := (Blk.new (w.alloc (.cells #[.pointer (some ⟨b, 0, none⟩)] 188)) 191 #[fnV k]).alloc (.cells (#[x, y]) 57)
  have b2 := Blk.new ((w.alloc (.cells #[.pointer (some ⟨b, 0, none⟩)] 188)).alloc (.cells #[fnV k] 191)) 57 (#[x, y])
  simp only [World.size_alloc] at b1 b2
  have k0 := (((Keep.refl NoB w).alloc (.cells #[.pointer (some ⟨b, 0, none⟩)] 188)).alloc (.cells #[fnV k] 191)).alloc (.cells (#[x, y]) 57)
  unfold fnV at *
  have HB0 := Lib.hid b0
  have HB1 := Lib.hid b1
  have HB2 := Lib.hid b2
  have HK := Lib.hid k0
  clear b0 b1 b2 k0
  go_enter Tryz.func128, Tryz.ntmps128
  go_wp2
  go_ret
  exact ⟨_, rfl, ⟨w.heap.size + 1, w.heap.size + 1 + 1, w.heap.size, rfl, ⟨by omega, by omega, hm⟩, HB1.out, HB2.out, HB0.out⟩, HK.out⟩

set_option maxRecDepth 100000 in
set_option maxHeartbeats 4000000 in
theorem wroteSig_any (k : Nat) (hcf : ∀ args w, (callFunc k args).run Tryz.prog w = .ok (.enter k args) w) (x y : Value) (W2 : World) (c p q b : Nat) (bs xs : List UInt8) (w : World) (hc : Blk w c 191 #[fnV k]) (hp : Blk w p 57 (#[x, y])) (hq : Blk w q 188 #[.pointer (some ⟨b, 0, none⟩)]) (hqb : q < W2.heap.size) (hb2 : b < W2.heap.size)
    (hB : Byt W2 b bs w) (hl : bs.length + xs.length ≤ 140737488355328) (E : Int) (a : Bool) (ha : (E == 0) = a)
    (HG : Hid (Calls Tryz.prog k #[.agg #[x, y]] w (EncA w xs E))) :
    Calls Tryz.prog 172 #[.pointer (some ⟨c, 0, none⟩), .pointer (some ⟨p, 0, none⟩), .pointer (some ⟨q, 0, none⟩)] w fun e w' => e = .returned (.bool a) ∧ Byt W2 b (bs ++ xs) w' := by
  obtain ⟨hK, u, hb, hO⟩ := hB
  have cc := hc.cell 0
  have cq := hq.cell 0
  unfold fnV at cc
  have cp : w.cell? ⟨p, 0, none⟩ = some x := hp.cell 0
  have cp2 : w.cell? ⟨p, 1, none⟩ = some y := hp.cell 1
  have hqne : q ≠ b := hq.ne hb (by decide)
  clear hc hp
  go_enter Tryz.func172, Tryz.ntmps172
  go_wp2_with fail
  refine HG.out.mono ?_
  rintro e w1 ⟨v, rfl, hv, k1⟩
  obtain ⟨A, cA, rfl, _, hr, _, _⟩ := hv.form
  have hb1 := hb.keep k1 id
  have hq1 := hq.keep k1 id
  have cq1 := hq1.cell 0
  have cb1 := hb1.cell 0
  simp at cq1 cb1
  have hO1 := hO.keep k1 (fun _ _ => id)
  have hK1 := hK.trans k1 (fun _ h _ => h.elim)
  obtain ⟨A0, c0, rfl, _, _, _, _⟩ := hO1.form
  have HX := Lib.hid (fun (A' : Option Addr) (c' : Nat) (w' : World) (hown : w'.ownsRow 0 5 1 (.slice A' (bs ++ xs).length c') (bs ++ xs).length (V.bvs (bs ++ xs))) (hg : w1.drew.grownBy w' (Value.slice A0 bs.length c0).ownBlock) (hat : (Value.slice A' (bs ++ xs).length c').ownBlock = (Value.slice A0 bs.length c0).ownBlock ∨ (Value.slice A' (bs ++ xs).length c').ownBlock = some w1.drew.heap.size) =>
    (show Byt W2 b (bs ++ xs) (w'.setCell ⟨b, 0, none⟩ (.slice A' (bs ++ xs).length c')) from wr_put hb2 hK1 hb1 hO1 hown hg hat))
  have HN1 : Hid (some b ≠ (Value.slice A0 bs.length c0).ownBlock) := fun e => absurd (hO1.2 b e.symm) (by unfold Fresh; omega)
  have HN2 : Hid (some q ≠ (Value.slice A0 bs.length c0).ownBlock) := fun e => absurd (hO1.2 q e.symm) (by unfold Fresh; omega)
  have hrow := hO1.1
  clear hv hO hb hq hK cc cp cq k1 HG
  go_wp2_with fail
  go_region_law ((refine V.step_append_rd _ (by rfl) _ _ (by rfl) (.slice A0 bs.length c0) bs xs A cA (by rfl) (by exact hrow) (by rfl) (by exact hr) hl ?_; intro A1 c1 w2 hown1 hgrow hat; have hs1 := Blk.grown (w' := w2) (by exact hb1) hgrow HN1.out; have ht1 := Blk.grown (w' := w2) (by exact hq1) hgrow HN2.out; have cs1 := hs1.cell 0; have fs1 := hs1.frozen 0; have ct1 := ht1.cell 0; have HD := Lib.hid (HX.out _ _ _ hown1 hgrow hat); simp at cs1 ct1))
  all_goals go_wp2
  all_goals go_ret
  all_goals exact ⟨rfl, by have h9 := HD.out; rw [List.length_append] at h9; exact h9⟩

set_option maxRecDepth 100000 in
set_option maxHeartbeats 4000000 in
theorem writesBod_any (k b m : Nat) (D : Option Addr) (nd cd : Nat) (w : World) (hm : m ≤ w.heap.size) :
    Calls Tryz.prog 130 #[.pointer (some ⟨b, 0, none⟩), fnV k, .slice D nd cd] w fun e w' => ∃ u, e = .returned u ∧ WrV 174 193 59 (fnV k) (#[.slice D nd cd]) b m u w' ∧ Keep NoB w w' := by
  have hmf : ∀ (fn : Go.Fn) (first cap : Array Value) (w : World), (Instr.makeFunc fn first cap).run Tryz.prog w = .ok (.func fn first cap) w := fun _ _ _ _ => rfl
  have b0 := ((Blk.new w 188 #[.pointer (some ⟨b, 0, none⟩)]).alloc (.cells #[fnV k] 193)).alloc (.cells (#[.slice D nd cd]) 59)
  have b1 := (Blk.new (w.alloc (.cells #[.pointer (some ⟨b, 0, none⟩)] 188)) 193 #[fnV k]).alloc (.cells (#[.slice D nd cd]) 59)
  have b2 := Blk.new ((w.alloc (.cells #[.pointer (some ⟨b, 0, none⟩)] 188)).alloc (.cells #[fnV k] 193)) 59 (#[.slice D nd cd])
  simp only [World.size_alloc] at b1 b2
  have k0 := (((Keep.refl NoB w).alloc (.cells #[.pointer (some ⟨b, 0, none⟩)] 188)).alloc (.cells #[fnV k] 193)).alloc (.cells (#[.slice D nd cd]) 59)
  unfold fnV at *
  have HB0 := Lib.hid b0
  have HB1 := Lib.hid b1
  have HB2 := Lib.hid b2
  have HK := Lib.hid k0
  clear b0 b1 b2 k0
  go_enter Tryz.func130, Tryz.ntmps130
  go_wp2
  go_ret
  exact ⟨_, rfl, ⟨w.heap.size + 1, w.heap.size + 1 + 1, w.heap.size, rfl, ⟨by omega, by omega, hm⟩, HB1.out, HB2.out, HB0.out⟩, HK.out⟩

set_option maxRecDepth 100000 in
set_option maxHeartbeats 4000000 in
theorem wroteBod_any (k : Nat) (hcf : ∀ args w, (callFunc k args).run Tryz.prog w = .ok (.enter k args) w) (D : Option Addr) (nd cd : Nat) (W2 : World) (c p q b : Nat) (bs xs : List UInt8) (w : World) (hc : Blk w c 193 #[fnV k]) (hp : Blk w p 59 (#[.slice D nd cd])) (hq : Blk w q 188 #[.pointer (some ⟨b, 0, none⟩)]) (hqb : q < W2.heap.size) (hb2 : b < W2.heap.size)
    (hB : Byt W2 b bs w) (hl : bs.length + xs.length ≤ 140737488355328) (E : Int) (a : Bool) (ha : (E == 0) = a)
    (HG : Hid (Calls Tryz.prog k #[.slice D nd cd] w (EncA w xs E))) :
    Calls Tryz.prog 174 #[.pointer (some ⟨c, 0, none⟩), .pointer (some ⟨p, 0, none⟩), .pointer (some ⟨q, 0, none⟩)] w fun e w' => e = .returned (.bool a) ∧ Byt W2 b (bs ++ xs) w' := by
  obtain ⟨hK, u, hb, hO⟩ := hB
  have cc := hc.cell 0
  have cq := hq.cell 0
  unfold fnV at cc
  have cp : w.cell? ⟨p, 0, none⟩ = some (.slice D nd cd) := hp.cell 0
  have hqne : q ≠ b := hq.ne hb (by decide)
  clear hc hp
  go_enter Tryz.func174, Tryz.ntmps174
  go_wp2_with fail
  refine HG.out.mono ?_
  rintro e w1 ⟨v, rfl, hv, k1⟩
  obtain ⟨A, cA, rfl, _, hr, _, _⟩ := hv.form
  have hb1 := hb.keep k1 id
  have hq1 := hq.keep k1 id
  have cq1 := hq1.cell 0
  have cb1 := hb1.cell 0
  simp at cq1 cb1
  have hO1 := hO.keep k1 (fun _ _ => id)
  have hK1 := hK.trans k1 (fun _ h _ => h.elim)
  obtain ⟨A0, c0, rfl, _, _, _, _⟩ := hO1.form
  have HX := Lib.hid (fun (A' : Option Addr) (c' : Nat) (w' : World) (hown : w'.ownsRow 0 5 1 (.slice A' (bs ++ xs).length c') (bs ++ xs).length (V.bvs (bs ++ xs))) (hg : w1.drew.grownBy w' (Value.slice A0 bs.length c0).ownBlock) (hat : (Value.slice A' (bs ++ xs).length c').ownBlock = (Value.slice A0 bs.length c0).ownBlock ∨ (Value.slice A' (bs ++ xs).length c').ownBlock = some w1.drew.heap.size) =>
    (show Byt W2 b (bs ++ xs) (w'.setCell ⟨b, 0, none⟩ (.slice A' (bs ++ xs).length c')) from wr_put hb2 hK1 hb1 hO1 hown hg hat))
  have HN1 : Hid (some b ≠ (Value.slice A0 bs.length c0).ownBlock) := fun e => absurd (hO1.2 b e.symm) (by unfold Fresh; omega)
  have HN2 : Hid (some q ≠ (Value.slice A0 bs.length c0).ownBlock) := fun e => absurd (hO1.2 q e.symm) (by unfold Fresh; omega)
  have hrow := hO1.1
  clear hv hO hb hq hK cc cp cq k1 HG
  go_wp2_with fail
  go_region_law ((refine V.step_append_rd _ (by rfl) _ _ (by rfl) (.slice A0 bs.length c0) bs xs A cA (by rfl) (by exact hrow) (by rfl) (by exact hr) hl ?_; intro A1 c1 w2 hown1 hgrow hat; have hs1 := Blk.grown (w' := w2) (by exact hb1) hgrow HN1.out; have ht1 := Blk.grown (w' := w2) (by exact hq1) hgrow HN2.out; have cs1 := hs1.cell 0; have fs1 := hs1.frozen 0; have ct1 := ht1.cell 0; have HD := Lib.hid (HX.out _ _ _ hown1 hgrow hat); simp at cs1 ct1))
  all_goals go_wp2
  all_goals go_ret
  all_goals exact ⟨rfl, by have h9 := HD.out; rw [List.length_append] at h9; exact h9⟩

end Go.Proofs.YtgifflfjhockaaaGreatDoor.F

namespace Go.Proofs.YtgifflfjhockaaaGreatDoor.F
open Go.RowKit W

set_option maxRecDepth 100000 in
set_option maxHeartbeats 4000000 in
theorem encName_any (S : ByteArray) (s : List UInt8) (hS : S.data.toList = s) (hl : s.length ≤ 1000) (w : World) : Calls Tryz.prog 127 #[.string S] w (EncA w (V.encL s.length ++ s) 0) := by
  have hcv : ∀ w : World, ∃ w' c, (convert 9 26 (.string S)).run Tryz.prog w = .ok (.slice (some ⟨w.heap.size, 0, none⟩) s.length c) w' ∧ V.Rd w' (some ⟨w.heap.size, 0, none⟩) s ∧ Keep NoB w w' ∧ w.heap.size < w'.heap.size := fun w => by rw [str_of hS]; exact conv_name w s
  have ht := V.TapeAt.new w
  have k0 := (Keep.refl NoB w).alloc (.cells #[.pointer none, .int .i64 0] 134)
  have hel := V.encL_len s.length
  obtain ⟨wc, cc, hcv2, hrc, kc, hz⟩ := hcv (w.alloc (.cells #[.pointer none, .int .i64 0] 134))
  simp only [World.size_alloc] at hrc hz
  have HT := Lib.hid (V.tbytes_any wc w.heap.size _ [] s _ cc (ht.keep kc (fun _ _ h => h.elim)) (fun k hk => by subst hk; omega) hrc (fun ad e => by injection e with e; subst e; exact ⟨by show ¬ (w.heap.size + 1 = w.heap.size); omega, hz⟩) (by simp; omega))
  rw [List.nil_append] at HT
  have hlx : (V.encL s.length ++ s).length ≤ 1009 := by rw [List.length_append]; omega
  generalize V.encL s.length ++ s = xs at HT hlx ⊢
  clear hS ht hcv hl hel
  go_enter Tryz.func127, Tryz.ntmps127
  go_wp2_with fail
  refine HT.out.mono ?_
  rintro e w2 ⟨rfl, h2, k2⟩
  have kA : Keep NoB w w2 := (k0.trans kc (fun _ h _ => h.elim)).trans k2 (fun k e hl => by subst e; omega)
  clear hrc hcv2 kc k0 HT
  go_wp2_with fail
  refine (V.all_any _ _ _ _ h2 (by omega)).mono ?_
  rintro e w3 ⟨v, rfl, hO, k3⟩
  obtain ⟨A3, c3, rfl, _, _, _, _⟩ := hO.form
  have HO := Lib.hid (hO.mono (fun k (hf : Fresh w2 k) _ => (Nat.le_trans kA.size hf : Fresh w k)))
  have HK := Lib.hid (keepN kA k3)
  clear hO k2 k3 h2 kA
  go_wp2
  go_ret2
  exact ⟨_, rfl, HO.out, HK.out⟩

end Go.Proofs.YtgifflfjhockaaaGreatDoor.F

namespace Go.Proofs.YtgifflfjhockaaaGreatDoor
open Go.RowKit
section
variable {P : Program} {md : Region.Mode} {ops : Array Oper}

/-- Each late number is c, or stands behind c or a late one. -/
def lateG (md : Region.Mode) (ops : Array Oper) (c : Nat) (late : Nat → Bool) : Bool := (List.range ops.size).all fun i => match ops[i]? with
  | none => false
  | some o => !late i || (i == c || o.after.any fun e => Region.binds md e && (e.on == c || late e.on))
theorem lateG_at {c : Nat} {late : Nat → Bool} (h : lateG md ops c late = true) {i : Nat} {o : Oper} (ho : ops[i]? = some o) (hl : late i = true) (hc : i ≠ c) : ∃ e ∈ o.after, Region.binds md e = true ∧ (e.on = c ∨ late e.on = true) := by
  have hi := (Array.getElem?_eq_some_iff.1 ho).1
  have h1 := List.all_eq_true.1 h i (List.mem_range.2 hi)
  simp only [ho, hl, Bool.not_true, Bool.false_or, Bool.or_eq_true, beq_iff_eq] at h1
  rcases h1 with h1 | h1
  · exact absurd h1 hc
  · obtain ⟨j, hj, h2⟩ := Array.any_eq_true.1 h1
    simp only [Bool.and_eq_true, Bool.or_eq_true, beq_iff_eq] at h2
    exact ⟨o.after[j], Array.getElem_mem hj, h2.1, h2.2⟩

theorem wpAny_props4 {Q : Exit → Act → World → Prop} (d0 c : Nat) (O : Nat → Prop) (late : Nat → Bool) (hB : propsG ops d0 c = true) (hLt : lateG md ops c late = true) (S : Nat → Value → World → Prop) (w0 : World) (a0 : Act) (hS1 : ∀ i v w w', i ≠ c → late i = false → Keep O w0 w → S i v w → Keep O w w' → S i v w') (hS2 : ∀ i v w w', Keep O w0 w → S i v w → Keep NoB w w' → S i v w') (hsz : d0 + ops.size ≤ a0.tmps.size)
    (hstep : ∀ i o (a : Act) (w : World), ops[i]? = some o → i ≠ c → FrameI a0 d0 ops.size a → Keep O w0 w → (∀ e ∈ o.after, Region.binds md e = true → S e.on (a.tmps.getD (d0 + e.on) undef) w) → Does P ops o a w fun u w' => S i u w' ∧ Keep NoB w w')
    (hspec : ∀ o (a : Act) (w : World), ops[c]? = some o → FrameI a0 d0 ops.size a → Keep NoB w0 w → (∀ e ∈ o.after, Region.binds md e = true → S e.on (a.tmps.getD (d0 + e.on) undef) w) → Does P ops o a w fun u w' => (∀ v, (o.dst.isSome = true → v = u) → S c v w') ∧ Keep O w w')
    (hend : ∀ (a : Act) (w : World), FrameI a0 d0 ops.size a → Keep O w0 w → (∀ i, i < ops.size → S i (a.tmps.getD (d0 + i) undef) w) → Q .normal a w) :
    ∀ (fuel : Nat) (listed : Array Bool) (a : Act) (w : World), listed.size = ops.size → (∃ L : List Nat, L.length ≤ fuel ∧ ∀ i, i < ops.size → listed.getD i true = false → i ∈ L) → FrameI a0 d0 ops.size a → Keep O w0 w → (listed.getD c true = false → Keep NoB w0 w) → (∀ i, i < ops.size → late i = true → listed.getD i true = true → listed.getD c true = true) →
      (∀ i, i < ops.size → listed.getD i true = true → S i (a.tmps.getD (d0 + i) undef) w) → wpAny P md ops Q fuel listed a w := by
  have hNO : ∀ {X Y : World}, Keep NoB X Y → Keep O X Y := fun h => h.mono (fun _ hf _ => hf.elim)
  intro fuel
  induction fuel with
  | zero =>
    intro listed a w hs ⟨L, hL, hin⟩ hF hK hC hLa hA
    obtain rfl : L = [] := List.length_eq_zero_iff.1 (by omega)
    have hall : ∀ i, i < ops.size → listed.getD i true = true := fun i hi => by
      cases h : listed.getD i true
      · cases hin i hi h
      · rfl
    refine ⟨?_, hend a w hF hK fun i hi => hA i hi (hall i hi)⟩
    rw [List.eq_nil_iff_forall_not_mem]
    intro i hi
    obtain ⟨h1, o, ho, _⟩ := mem_ready.1 hi
    rw [hall i (Array.getElem?_eq_some_iff.1 ho).1] at h1; cases h1
  | succ fuel ih =>
    intro listed a w hs ⟨L, hL, hin⟩ hF hK hC hLa hA
    refine ⟨fun h0 => hend a w hF hK fun i hi => hA i hi (no_readyG hB hs h0 i hi), fun i hi => ?_⟩
    obtain ⟨h1, o, ho, hall⟩ := mem_ready.1 hi
    have hi' := (Array.getElem?_eq_some_iff.1 ho).1
    obtain ⟨hd, hlt⟩ := propsG_at hB ho
    have hdeps : ∀ e ∈ o.after, Region.binds md e = true → S e.on (a.tmps.getD (d0 + e.on) undef) w := fun e he hb => by
      have h2 := hall e he hb
      have h3 := hlt e he
      refine hA e.on (by omega) ?_
      have h4 : e.on < listed.size := by omega
      simpa [h4] using h2
    have hKO : (if i = c then Keep NoB w0 w else True) := by
      split
      · rename_i e; subst e; exact hC h1
      · trivial
    have hdoes : Does P ops o a w fun u w' => (∀ v, (o.dst.isSome = true → v = u) → S i v w') ∧ Keep O w w' ∧ (i ≠ c → Keep NoB w w') := by
      by_cases e : i = c
      · subst e
        rw [if_pos rfl] at hKO
        rcases hspec o a w ho hF hKO hdeps with ⟨hw, hy⟩ | ⟨hw, h2, h3⟩
        · refine .inl ⟨hw, ?_⟩
          unfold yieldsK at hy ⊢
          exact yieldsR_mono (fun u w' ⟨h2, h3⟩ => ⟨h2, h3, fun h => absurd rfl h⟩) _ _ hy
        · exact .inr ⟨hw, h2, h3, fun h => absurd rfl h⟩
      · have hsome : o.dst.isSome = true := by
          rcases hd with h | ⟨_, h⟩
          · rw [h]; rfl
          · exact absurd h e
        rcases hstep i o a w ho e hF hK hdeps with ⟨hw, hy⟩ | ⟨hw, h2, h3⟩
        · refine .inl ⟨hw, ?_⟩
          unfold yieldsK at hy ⊢
          exact yieldsR_mono (fun u w' ⟨h2, h3⟩ => ⟨fun v hv => by rw [hv hsome]; exact h2, hNO h3, fun _ => h3⟩) _ _ hy
        · exact .inr ⟨hw, fun v hv => by rw [hv hsome]; exact h2, hNO h3, fun _ => h3⟩
    have hnext : ∀ u w', (∀ v, (o.dst.isSome = true → v = u) → S i v w') → Keep O w w' → (i ≠ c → Keep NoB w w') → wpAny P md ops Q fuel (listed.setIfInBounds i true) (a.put o.dst u) w' := by
      intro u w' hSu hk hkn
      have hfr : FrameI a0 d0 ops.size (a.put o.dst u) ∧ (∀ k, k < ops.size → k ≠ i → (a.put o.dst u).tmps.getD (d0 + k) undef = a.tmps.getD (d0 + k) undef) ∧ (o.dst.isSome = true → (a.put o.dst u).tmps.getD (d0 + i) undef = u) := by
        rcases hd with hd | ⟨hd, _⟩
        · rw [hd]
          have hds : d0 + i < a.tmps.size := by rw [hF.2.1]; omega
          have hget : ∀ s, (a.put (some (d0 + i)) u).tmps.getD s undef = if s = d0 + i then u else a.tmps.getD s undef := fun s => by
            unfold Act.put
            by_cases e : s = d0 + i
            · subst e; simp [hds]
            · rw [if_neg e]
              simp only [Array.getD_eq_getD_getElem?, Array.getElem?_setIfInBounds]
              rw [if_neg (fun h => e h.symm)]
          refine ⟨⟨hF.1, by unfold Act.put; simpa using hF.2.1, fun s hs' => ?_⟩, fun k hk' hki => ?_, fun _ => ?_⟩
          · rw [hget, if_neg (by omega)]; exact hF.2.2 s hs'
          · rw [hget, if_neg (by omega)]
          · rw [hget, if_pos rfl]
        · rw [hd]
          exact ⟨hF, fun _ _ _ => rfl, fun h => by cases h⟩
      obtain ⟨hF', hother, hself⟩ := hfr
      refine ih (listed.setIfInBounds i true) _ w' (by simpa using hs) ⟨L.erase i, ?_, fun k hk' hl => ?_⟩ hF' (hK.trans hk (fun _ h _ => h)) (fun hl => ?_) (fun k hk' hlk hl => ?_) fun k hk' hl => ?_
      · rw [List.length_erase_of_mem (hin i hi' h1)]; omega
      · have hki : k ≠ i := by
          rintro rfl
          have : k < listed.size := by omega
          simp [this] at hl
        have hl2 : listed.getD k true = false := by rw [getD_set_ne true (Ne.symm hki)] at hl; exact hl
        exact (List.mem_erase_of_ne hki).2 (hin k hk' hl2)
      · have hci : c ≠ i := by
          rintro rfl
          have : c < listed.size := by omega
          simp [this] at hl
        rw [getD_set_ne true (Ne.symm hci)] at hl
        exact keepN (hC hl) (hkn (Ne.symm hci))
      · have hcl : ∀ n, listed.getD n true = true → (listed.setIfInBounds i true).getD n true = true := fun n hn => by
          by_cases e : i = n
          · subst e
            have h5 : i < listed.size := by omega
            simp [h5]
          · rw [getD_set_ne true e]; exact hn
        by_cases e : k = i
        · subst e
          by_cases ec : k = c
          · rw [← ec]; exact hl
          · obtain ⟨x, hx, hb, h6⟩ := lateG_at hLt ho hlk ec
            have h7 := hall x hx hb
            have h8 := hlt x hx
            have h9 : x.on < listed.size := by omega
            have h10 : listed.getD x.on true = true := by simpa [h9] using h7
            refine hcl c ?_
            rcases h6 with h6 | h6
            · rw [← h6]; exact h10
            · exact hLa x.on (by omega) h6 h10
        · rw [getD_set_ne true (Ne.symm e)] at hl
          exact hcl c (hLa k hk' hlk hl)
      · by_cases e : k = i
        · subst e
          exact hSu _ hself
        · rw [hother k hk' e]
          rw [getD_set_ne true (Ne.symm e)] at hl
          by_cases ec : i = c
          · subst ec
            by_cases hlk : late k = true
            · have := hLa k hk' hlk hl
              rw [h1] at this; cases this
            · exact hS1 k _ _ _ e (by simpa using hlk) hK (hA k hk' hl) hk
          · exact hS2 k _ _ _ hK (hA k hk' hl) (hkn ec)
    unfold wpOp
    simp only [ho]
    rcases hdoes with ⟨hw, hy⟩ | ⟨hw, h2, h3, h4⟩
    · rw [if_pos hw]
      exact .inl (Oper.wp_of_yields hy fun u w' ⟨h2, h3, h4⟩ => hnext u w' h2 h3 h4)
    · rw [if_neg (by rw [hw]; decide)]
      exact hnext undef w h2 h3 h4
theorem wp_region_props4 {id : Nat} {Q : Exit → Act → World → Prop} {a0 : Act} {w : World} (d0 c : Nat) (O : Nat → Prop) (late : Nat → Bool) (hm : P.follows .mixedOrders = true) (hB : propsG ops d0 c = true) (hLt : lateG .any ops c late = true) (S : Nat → Value → World → Prop) (hS1 : ∀ i v w1 w', i ≠ c → late i = false → Keep O w w1 → S i v w1 → Keep O w1 w' → S i v w') (hS2 : ∀ i v w1 w', Keep O w w1 → S i v w1 → Keep NoB w1 w' → S i v w') (hsz : d0 + ops.size ≤ a0.tmps.size)
    (hstep : ∀ i o (a : Act) (w' : World), ops[i]? = some o → i ≠ c → FrameI a0 d0 ops.size a → Keep O w w' → (∀ e ∈ o.after, Region.binds .any e = true → S e.on (a.tmps.getD (d0 + e.on) undef) w') → Does P ops o a w' fun u w'' => S i u w'' ∧ Keep NoB w' w'')
    (hspec : ∀ o (a : Act) (w' : World), ops[c]? = some o → FrameI a0 d0 ops.size a → Keep NoB w w' → (∀ e ∈ o.after, Region.binds .any e = true → S e.on (a.tmps.getD (d0 + e.on) undef) w') → Does P ops o a w' fun u w'' => (∀ v, (o.dst.isSome = true → v = u) → S c v w'') ∧ Keep O w' w'')
    (hend : ∀ (a : Act) (w' : World), FrameI a0 d0 ops.size a → Keep O w w' → (∀ i, i < ops.size → S i (a.tmps.getD (d0 + i) undef) w') → Q .normal a w') : (Code.region id ops true).wp P Q a0 w :=
  wp_region_any hm (wpAny_props4 d0 c O late hB hLt S w a0 hS1 hS2 hsz hstep hspec hend _ _ a0 w.drew (by simp) ⟨List.range ops.size, by simp, fun i hi _ => List.mem_range.2 hi⟩ ⟨rfl, rfl, fun _ _ => rfl⟩ (Keep.refl O w).drew (fun _ => (Keep.refl NoB w).drew) (fun i hi _ hl => by simp [hi] at hl) fun i hi hl => by
    simp [hi] at hl)
end
end Go.Proofs.YtgifflfjhockaaaGreatDoor
