/-
  Part 10 of the proofs of LNamesRow, LOneRow: what is laid, and what the functions that the law runs answer. Conditions: each theorem names its own.
-/
import Derived.Lib.OwnBridge
import Derived.Sort.Grow
import Derived.Sort.OwnSortedInts
import Derived.Test.YtgnooffedmeenaaGreatDoorQC9
namespace Go.Proofs.YtgnooffedmeenaaGreatDoor
open Go.RowKit Go.Maps

def IMap (P : Program) (k e : TypeId) (b n : Nat) (f : Int → Nat) (w : World) : Prop :=
 ∃ D : DataW Unit, w.ownsMap P k (plainElem P e) b n D ∧ IsMap D ∧ ∀ h : Int, D.atKey (.int .i64 h) (.lit (.int .i64 0)) = .lit (.int .i64 (f h : Int))
section
variable {P : Program} {k e t : TypeId} {b n : Nat} {f : Int → Nat} {w w' : World}
theorem IMap.lt (h : IMap P k e b n f w) : b < w.heap.size := by obtain ⟨_, h, _⟩ := h; exact h.lt
theorem IMap.mono {m : Nat} (h : IMap P k e b n f w) (hm : n ≤ m) : IMap P k e b m f w := by
 obtain ⟨D, h1, h2, h3⟩ := h
 exact ⟨D, h1.mono hm, h2, h3⟩
def setF (f : Int → Nat) (x : Int) (v : Nat) : Int → Nat := fun y => if y = x then v else f y
theorem lit_inj {a b : Int} (h : (DataW.lit (.int .i64 a) : DataW Unit) = .lit (.int .i64 b)) : a = b := by injection h with h; injection h with _ h
theorem isMap_put {D : DataW Unit} {f : Int → Nat} {x : Int} {v : Nat} (hD : IsMap D) (h3 : ∀ h : Int, D.atKey (.int .i64 h) (.lit (.int .i64 0)) = .lit (.int .i64 (f h : Int))) :
  ∀ h : Int, (D.put (.int .i64 x) (.lit (.int .i64 (v : Int)))).atKey (.int .i64 h) (.lit (.int .i64 0)) = .lit (.int .i64 (setF f x v h : Int)) := by
 intro h
 unfold setF
 by_cases he : h = x
 ·subst he; rw [if_pos rfl]; exact atKey_put_same hD (by unfold WideAt.IsKeyLit; trivial) _ _
 ·rw [if_neg he, atKey_put_other (by intro e; injection e with _ e; exact he e)]; exact h3 h
theorem IMap.look (h : IMap P k e b n f w) (ht : P.underlying t = some (.map k e)) (hk : P.underlying k = some (.int .i64)) (he : P.underlying e = some (.int .i64)) (hz : (zeroValue e).run P w = .ok (.int .i64 0) w) (x : Int) (hx : (Lit.int .i64 x).wf = true) :
  (Instr.lookup t (.map (some b)) (.int .i64 x) false).run P w = .ok (.int .i64 (f x : Int)) w := by
 obtain ⟨D, h1, h2, h3⟩ := h
 obtain ⟨c, hrun, hat, _⟩ := h1.lookup_int (int_keyed hk) ht he hz (keyOf_int_mk hk hx)
 rw [h3 x] at hat
 rw [lit_inj hat]
 exact hrun
end
end Go.Proofs.YtgnooffedmeenaaGreatDoor

namespace Go.Proofs.YtgnooffedmeenaaGreatDoor
open Go.RowKit Go.Maps

def SMap (P : Program) (k e : TypeId) (b n : Nat) (f : List UInt8 → Nat) (w : World) : Prop :=
 ∃ D : DataW Unit, w.ownsMap P k (plainElem P e) b n D ∧ IsMap D ∧ ∀ s : List UInt8, D.atKey (.string s) (.lit (.int .i64 0)) = .lit (.int .i64 (f s : Int))
section
variable {P : Program} {k e t : TypeId} {b n : Nat} {f : List UInt8 → Nat} {w w' : World}
theorem SMap.new (P : Program) (k e : TypeId) (w : World) : SMap P k e w.heap.size 0 (fun _ => 0) (w.alloc (.map #[] 0)) :=
 ⟨.map [], World.ownsMap_made w P k _, isMap_empty, fun _ => rfl⟩
theorem SMap.lt (h : SMap P k e b n f w) : b < w.heap.size := by obtain ⟨_, h, _⟩ := h; exact h.lt
theorem SMap.obj (h : SMap P k e b n f w) : ∃ es c, w.heap[b]? = some (.map es c) := by
 obtain ⟨_, ⟨es, c, hb, _⟩, _⟩ := h
 exact ⟨es, c, hb⟩
theorem SMap.grown {row : Option Nat} (h : SMap P k e b n f w) (hg : w.grownBy w' row) (hne : some b ≠ row) : SMap P k e b n f w' := by
 obtain ⟨D, h1, h2, h3⟩ := h
 exact ⟨D, h1.kept hg hne, h2, h3⟩
theorem SMap.keep {O : Nat → Prop} (h : SMap P k e b n f w) (hk : Keep O w w') (hb : ¬ O b) : SMap P k e b n f w' := by
 obtain ⟨D, ⟨es, c, h0, hr⟩, h2, h3⟩ := h
 exact ⟨D, ⟨es, c, (hk.block b (Array.getElem?_eq_some_iff.1 h0).1 hb).trans h0, hr⟩, h2, h3⟩
theorem SMap.mono {m : Nat} (h : SMap P k e b n f w) (hm : n ≤ m) : SMap P k e b m f w := by
 obtain ⟨D, h1, h2, h3⟩ := h
 exact ⟨D, h1.mono hm, h2, h3⟩
theorem SMap.congr {g : List UInt8 → Nat} (h : SMap P k e b n f w) (hg : ∀ x, g x = f x) : SMap P k e b n g w := by
 obtain ⟨D, h1, h2, h3⟩ := h
 exact ⟨D, h1, h2, fun x => by rw [hg]; exact h3 x⟩
def setS (f : List UInt8 → Nat) (x : List UInt8) (v : Nat) : List UInt8 → Nat := fun y => if y = x then v else f y
theorem isMap_putS {D : DataW Unit} {f : List UInt8 → Nat} {x : List UInt8} {v : Nat} (hD : IsMap D) (h3 : ∀ h : List UInt8, D.atKey (.string h) (.lit (.int .i64 0)) = .lit (.int .i64 (f h : Int))) :
  ∀ h : List UInt8, (D.put (.string x) (.lit (.int .i64 (v : Int)))).atKey (.string h) (.lit (.int .i64 0)) = .lit (.int .i64 (setS f x v h : Int)) := by
 intro h
 unfold setS
 by_cases he : h = x
 ·subst he; rw [if_pos rfl]; exact atKey_put_same hD (by unfold WideAt.IsKeyLit; trivial) _ _
 ·rw [if_neg he, atKey_put_other (by intro e; injection e with e; exact he e)]; exact h3 h
theorem keyOf_str {P : Program} {k : TypeId} (hk : P.underlying k = some .string) {S : ByteArray} (hs : S.size ≤ maxLen) : keyOf P k (.string S) = some (.string S.data.toList) := by
 simp [keyOf, hk, mapKey, hs]
theorem SMap.update (h : SMap P k e b n f w) (ht : P.underlying t = some (.map k e)) (hk : P.underlying k = some .string) (he : P.underlying e = some (.int .i64)) (hn : n < maxLen) (S : ByteArray) (v : Nat) (hx : S.size ≤ maxLen) (hv : (Lit.int .i64 (v : Int)).wf = true) :
  ∃ w', (Instr.mapUpdate t (.map (some b)) (.string S) (.int .i64 (v : Int))).run P w = .ok () w' ∧ SMap P k e b (n + 1) (setS f S.data.toList v) w' ∧ w.grownBy w' (some b) := by
 obtain ⟨D, h1, h2, h3⟩ := h
 obtain ⟨w', hrun, r1, r2⟩ := h1.update (string_keyed hk) ht hn (keyOf_str hk hx) (plainElem_int he hv)
 exact ⟨w', hrun, ⟨_, r1, h2.put _ _, isMap_putS h2 h3⟩, r2⟩
theorem SMap.look (h : SMap P k e b n f w) (ht : P.underlying t = some (.map k e)) (hk : P.underlying k = some .string) (he : P.underlying e = some (.int .i64)) (hz : (zeroValue e).run P w = .ok (.int .i64 0) w) (S : ByteArray) (hx : S.size ≤ maxLen) :
  (Instr.lookup t (.map (some b)) (.string S) false).run P w = .ok (.int .i64 (f S.data.toList : Int)) w := by
 obtain ⟨D, h1, h2, h3⟩ := h
 obtain ⟨c, hrun, hat, _⟩ := h1.lookup_int (string_keyed hk) ht he hz (keyOf_str hk hx)
 rw [h3 S.data.toList] at hat
 rw [lit_inj hat]
 exact hrun
end
end Go.Proofs.YtgnooffedmeenaaGreatDoor

namespace Go.Proofs.YtgnooffedmeenaaGreatDoor.I
open Go.RowKit Go.Shelf W
attribute [local go_sem] Oper.semAt_some

def nmx (fs : List FE) (x : Nat) : List UInt8 := (fnI fs x).1.S.data.toList
def cntF (fs : List FE) (pre : List Nat) (s : List UInt8) : Nat := if s ∈ pre.map (nmx fs) then 1 else 0
theorem cntF_new {fs : List FE} {pre : List Nat} {x : Nat} : ∀ s, cntF fs (pre ++ [x]) s = setS (cntF fs pre) (nmx fs x) 1 s := by
 intro s
 unfold cntF setS
 by_cases e : s = nmx fs x
 ·subst e; simp
 ·rw [if_neg e]; simp [e]
theorem nodup_new {fs : List FE} {pre : List Nat} {x : Nat} (h : nmx fs x ∉ pre.map (nmx fs)) (hp : (pre.map (nmx fs)).Nodup) : ((pre ++ [x]).map (nmx fs)).Nodup := by
 rw [List.map_append, List.nodup_append]
 refine ⟨hp, by simp, ?_⟩
 intro a ha b hb
 simp at hb
 subst hb
 rintro rfl
 exact h ha
theorem names_range {fs : List FE} {n : Nat} (hn : fs.length = n) (hN : ∀ e ∈ fs, e.1.S.data.toList = e.2.nm) : (List.range n).map (nmx fs) = names (imOf [] fs) := by
 apply List.ext_getElem?
 intro i
 unfold names imOf nmx
 by_cases h : i < fs.length
 ·rw [List.getElem?_map, List.getElem?_range (by omega)]
  simp [fnI_at h, h, hN _ (List.getElem_mem h)]
 ·rw [List.getElem?_eq_none (by simp; omega), List.getElem?_eq_none (by simp; omega)]
theorem rd_grown {W W' : World} {A : Option Addr} {xs : List Value} {mb : Nat} {es : Array MapEntry} {c : Nat} (hg : W.grownBy W' (some mb)) (hm : W.heap[mb]? = some (.map es c)) (hr : Rd W A xs) : Rd W' A xs := fun h0 => by
 obtain ⟨g, off, e, hc⟩ := hr h0
 refine ⟨g, off, e, fun j u hu => ?_⟩
 have h1 := hc j u hu
 have hne : g ≠ mb := by
  rintro rfl
  unfold World.cell? at h1
  simp [hm] at h1
 exact (World.cell?_of_block (hg.block g (World.block_lt_of_cell? W _ h1) (by simp [hne]))).trans h1
theorem blk_grown_map {W W' : World} {mb g : Nat} {t : TypeId} {cs : Array Value} {es : Array MapEntry} {c : Nat} (hg : W.grownBy W' (some mb)) (hm : W.heap[mb]? = some (.map es c)) (h : Blk W g t cs) : Blk W' g t cs :=
 h.grown hg (fun e => by
  cases e
  unfold Blk at h
  rw [hm] at h; cases h)
def ApI (w : World) (b : Nat) (fs : List FE) (pre : List Nat) (W : World) : Prop :=
 (Blk W (b + 1) 4 #[.bool false] ∧ Blk W (b + 1 + 1 + 1) 111 #[.map (some (b + 1 + 1))]) ∧ SMap Tryz.prog 9 3 (b + 1 + 1) pre.length (cntF fs pre) W ∧ Keep NoB w W ∧ (pre.map (nmx fs)).Nodup
def ApX (w : World) (b : Nat) (fs : List FE) (c : Code) (pre : List Nat) (W : World) : Prop :=
 c = .ret ∧ Blk W (b + 1) 4 #[.bool false] ∧ Keep NoB w W ∧ ¬ (pre.map (nmx fs)).Nodup
def ApA (v : IV) (fs : List FE) (b : Nat) (x : Nat) (Bo : Nat) : Act :=
 { tmps := #[v.val, .pointer (some ⟨b, 0, none⟩), .pointer (some ⟨b + 1, 0, none⟩), .pointer (some ⟨b + 1 + 1 + 1, 0, none⟩), undef, .pointer (some ⟨Bo, 0, none⟩), .map (some (b + 1 + 1)), v.val, .func (.func 195) #[] #[.pointer (some ⟨b + 1 + 1 + 1 + 1, 0, none⟩)], .int .i64 (x : Int), (fnI fs x).1.val, undef, undef, undef, undef, undef, undef, undef, undef, undef, undef], defers := [] }
theorem apI_own {w : World} {b B : Nat} {fs : List FE} (hb : b + 4 ≤ B) (hB : w.heap.size ≤ B) : OwnFrom B (ApI w b fs) := by
 intro s X Y row ⟨⟨h1, h2⟩, h3, h4, h5⟩ hg hrow
 exact ⟨⟨O.blk_own (β := Unit) _ _ _ (fun _ => _) () _ _ _ h1 hg hrow, O.blk_own (β := Unit) _ _ _ (fun _ => _) () _ _ _ h2 hg hrow⟩, h3.grown hg (fun e => by have := (hrow _ e.symm).1; omega), O.keep_own (β := Unit) _ hB () _ _ _ h4 hg hrow, h5⟩
theorem apX_own {w : World} {b B : Nat} {fs : List FE} (hB : w.heap.size ≤ B) (c : Code) : OwnFrom B (fun (pre : List Nat) W => ApX w b fs c pre W) := by
 intro s X Y row ⟨h0, h1, h4, h5⟩ hg hrow
 exact ⟨h0, O.blk_own (β := Unit) _ _ _ (fun _ => _) () _ _ _ h1 hg hrow, O.keep_own (β := Unit) _ hB () _ _ _ h4 hg hrow, h5⟩
theorem met_zero (w : World) : (zeroValue 3).run Tryz.prog w = .ok (.int .i64 0) w := Tryz.zeroValue3 w
theorem not_nodup_range {fs : List FE} {k n : Nat} (hk : k ≤ n) (h : ¬ ((List.range k).map (nmx fs)).Nodup) : ¬ ((List.range n).map (nmx fs)).Nodup := by
 intro h2
 refine h (List.Nodup.sublist ?_ h2)
 exact (List.range_sublist.2 hk).map _
theorem blk_putObj {W : World} {g D : Nat} {t : TypeId} {cs : Array Value} {o o' : Obj} (h : Blk W g t cs) (hl : W.heap[D]? = some o) (ho : o.isCells = false) : Blk (W.putObj D o') g t cs := by
 have hne : g ≠ D := by
  rintro rfl
  unfold Blk at h
  rw [hl] at h; cases h; cases ho
 exact (World.putObj_heap_other hne).trans h
theorem run_bool {w : World} {g : Nat} {u : Bool} (h : Blk w g 4 #[.bool u]) : (loadVar 4 ⟨g, 0, none⟩).run Tryz.prog w = .ok (.bool u) w := by
 have ha : (isAgg 4).run Tryz.prog w = .ok false w := Tryz.isAgg4 w
 have hc : w.cell? ⟨g, 0, none⟩ = some (.bool u) := h.cell 0
 simp [loadVar, ha, hc]

set_option maxRecDepth 100000 in
set_option maxHeartbeats 4000000 in
theorem apart_any (v : IV) (es : List SE) (fs : List FE) (w : World) (h : ImAt w v es fs) (hn : v.ny ≤ 1000) (hf : ∀ e ∈ fs, e.1.S.size ≤ 140737488355328) (R : Bool) (hR : Hid (decide ((names (imOf [] fs)).Nodup) = R)) :
  Calls Tryz.prog 58 #[v.val] w fun e w' => e = .returned (.bool R) ∧ Keep NoB w w' := by
 have hly := h.ly
 have HR := Lib.hid (fun W (hk : Keep NoB w W) => h.ry.keepN hk)
 have HN := Lib.hid (names_range hly (fun e he => (h.hf e he).nm))
 have HSZ : Hid (∀ x, (fnI fs x).1.S.size ≤ maxLen) := fun x => by
  by_cases hx : x < fs.length
  ·rw [fnI_at hx]; have := hf _ (List.getElem_mem hx); unfold maxLen; omega
  ·unfold fnI; rw [List.getElem?_eq_none (by omega)]; exact Nat.zero_le _
 clear h hf
 refine (callsIn_wide (n := 4)).1 ?_
 refine callsIn_of_wp_marks Tryz.func58 rfl trivial ?_ rfl
 have hmm := @run_makeMap Tryz.prog
 have hst := Lib.hid (fun m hm b w hx hr => each_stops m hm b v fs hly hn w hx hr)
 have he1 := Lib.hid (fun m w => each_any m v w)
 have hkk := ((((Keep.refl NoB w).alloc (.cells v.cells 25)).alloc (.cells #[.bool false] 4)).alloc (.map #[] 0)).alloc (.cells #[.map (some (w.heap.size + 1 + 1))] 111)
 have hs := (((Blk.new (w.alloc (.cells v.cells 25)) 4 #[.bool false]).alloc (.map #[] 0)).alloc (.cells #[.map (some (w.heap.size + 1 + 1))] 111)).alloc (.cells v.cells 25)
 have hm0 := SMap.new Tryz.prog 9 3 ((w.alloc (.cells v.cells 25)).alloc (.cells #[.bool false] 4))
 simp only [World.size_alloc] at hm0
 have hm1 := hm0.keep (O := NoB) (((Keep.refl NoB _).alloc (.cells #[.map (some (w.heap.size + 1 + 1))] 111)).alloc (.cells v.cells 25)) id
 have hb3 := (Blk.new (((w.alloc (.cells v.cells 25)).alloc (.cells #[.bool false] 4)).alloc (.map #[] 0)) 111 #[.map (some (w.heap.size + 1 + 1))]).alloc (.cells v.cells 25)
 have hi5 := Blk.new ((((w.alloc (.cells v.cells 25)).alloc (.cells #[.bool false] 4)).alloc (.map #[] 0)).alloc (.cells #[.map (some (w.heap.size + 1 + 1))] 111)) 25 v.cells
 simp only [World.size_alloc] at hs hb3 hi5
 have hK := hkk.alloc (.cells v.cells 25)
 have hr5 := HR.out _ hK
 have hI0 : ApI w w.heap.size fs [] _ := ⟨⟨hs, hb3⟩, hm1.congr (fun x => by simp [cntF]), hK, by simp⟩
 have HI0 := Lib.hid hI0
 have HX5 := Lib.hid hi5
 have HR5 := Lib.hid hr5
 clear hs hm0 hm1 hb3 hi5 hkk hK hr5 hI0
 obtain ⟨X, nx, cx, Y, ny, cy⟩ := v
 dsimp only [IV.val, IV.cells] at *
 simp only [Tryz.ntmps58, List.size_toArray, List.length_cons, List.length_nil, Nat.reduceAdd, Nat.reduceSub, Array.replicate_succ, Array.replicate_zero, List.push_toArray, List.append_toArray, List.nil_append, List.cons_append]
 gi_wp2_with (refine ⟨trivial, ?_⟩; gi_at_call 126; refine (he1.out _ _).mono ?_; rintro e w1 ⟨rfl, rfl⟩)
 refine wpIn_rangeFunc_ownH rfl (by omega) (gf := 195) (lb := #[.pointer (some ⟨w.heap.size + 1 + 1 + 1 + 1, 0, none⟩)]) rfl trivial (enters_of Tryz.func195 (by kernel_rfl) rfl)
  (hst.out _ (by omega) _ _ HX5.out HR5.out) FsK.trans (fun W l o o' _ hl ho _ => FsK.putObj W l o o' hl ho) (Below.refl _ _) (fun _ => rfl)
  (ApI w w.heap.size fs) (fun c pre W => ApX w w.heap.size fs c pre W) (apI_own (by simp) (by simp; omega)) (fun c => apX_own (by simp; omega) c) HI0.out
  (fun x a' W => ∃ Bo, Blk W Bo 37 (fnI fs x).1.cells ∧ a' = ApA ⟨X, nx, cx, Y, ny, cy⟩ fs w.heap.size x Bo) ?hax ?assign ?body ?done ?stop
 case hax =>
  rintro x a' s X Y row ⟨Bo, h1, h2⟩ hg hrow
  exact ⟨Bo, O.blk_own (β := Unit) _ _ _ (fun _ => _) () _ _ _ h1 hg hrow, h2⟩
 case assign =>
  intro l pre x W K hi hK
  have HI := Lib.hid (fun W' hk => apI_own (w := w) (b := w.heap.size) (fs := fs) (B := w.heap.size + 4) (Nat.le_refl _) (by omega) pre W W' none hi (Keep.grows hk) (fun r e => by cases e))
  have HB1 := Lib.hid (Blk.new W 37 (fnI fs x).1.cells)
  have HK2 := Lib.hid (fun a' W' h1 h2 h3 h4 => hK a' W' h1 h2 h3 h4)
  unfold ApA at HK2
  dsimp only [eaA]
  clear hi
  generalize fnI fs x = e at *
  obtain ⟨⟨S1, A1, na1, ca1, B1, nb1, cb1, L1, nl1, cl1, D1, nd1, cd1⟩, f⟩ := e
  dsimp only [F.FV.val, F.FV.cells, IV.val, IV.cells] at *
  clear hK
  gi_wp2
  exact HK2.out _ _ (keepsFrom_keep ((Keep.refl NoB W).alloc _)) (fun h => h.keepN ((Keep.refl NoB W).alloc _)) (HI.out _ ((Keep.refl NoB W).alloc _)) ⟨_, HB1.out, rfl⟩
 case body =>
  rintro l pre x a' W hl _ ⟨⟨hs, hm3⟩, hM, hK, hnd⟩ ⟨Bo, hb, rfl⟩ hlt
  have cb : W.cell? ⟨Bo, 0, none⟩ = some (.string (fnI fs x).1.S) := hb.cell 0
  have cm : W.cell? ⟨w.heap.size + 1 + 1 + 1, 0, none⟩ = some (.map (some (w.heap.size + 1 + 1))) := hm3.cell 0
  have hsz := HSZ.out x
  obtain ⟨em, cmc, hobj⟩ := hM.obj
  dsimp only [ApA, IV.val, IV.cells]
  have hzs := hs.lt
  by_cases hx : nmx fs x ∈ pre.map (nmx fs)
  ·have e1 : cntF fs pre (fnI fs x).1.S.data.toList = 1 := if_pos hx
   have hlk := hM.look (t := 111) Tryz.underlying111 Tryz.underlying9 Tryz.underlying3 (met_zero _) (fnI fs x).1.S hsz
   obtain ⟨w5, hup, hM5, hg5⟩ := hM.update (t := 111) Tryz.underlying111 Tryz.underlying9 Tryz.underlying3 (by unfold maxLen; omega) (fnI fs x).1.S 2 hsz (by decide)
   have hlk5 := hM5.look (t := 111) Tryz.underlying111 Tryz.underlying9 Tryz.underlying3 (met_zero _) (fnI fs x).1.S hsz
   have e2 : setS (cntF fs pre) (fnI fs x).1.S.data.toList 2 (fnI fs x).1.S.data.toList = 2 := if_pos rfl
   rw [e1, show ((1 : Nat) : Int) = 1 from rfl] at hlk
   rw [e2, show ((2 : Nat) : Int) = 2 from rfl] at hlk5
   rw [show ((2 : Nat) : Int) = 2 from rfl] at hup
   have cb5 := (blk_grown_map hg5 hobj hb).cell 0
   have cm5 := (blk_grown_map hg5 hobj hm3).cell 0
   have hs5 := blk_grown_map hg5 hobj hs
   have hs6 := hs5.put 0 (.bool false)
   have fz := fun i => hs5.frozen i
   have c5 := hs5.cell 0
   have hzs5 := hs5.lt
   have HX : Hid (ApX w w.heap.size fs .ret (pre ++ [x]) (w5.setCell ⟨w.heap.size + 1, 0, none⟩ (.bool false))) :=
    ⟨rfl, hs6, (hK.grown hg5 (fun g e hl => by cases e; omega)).setCell (fun h => absurd h (by simp)) _, fun h => by
     rw [List.map_append, List.nodup_append] at h
     exact h.2.2 _ hx _ (by simp) rfl⟩
   have HKF : Hid (KeepsFrom (w.heap.size + 1 + 1 + 1 + 1 + 1) W (w5.setCell ⟨w.heap.size + 1, 0, none⟩ (.bool false))) :=
    ⟨by have := hg5.size; simpa [World.setCell] using this, fun k o hk1 hk2 hk3 => (Below.heap_setCell _ _ _ _ (by show k ≠ w.heap.size + 1; omega)).trans ((hg5.block k (Array.getElem?_eq_some_iff.1 hk2).1 (by simp; omega)).trans hk2)⟩
   simp only [F.FV.cells, List.getElem?_toArray, List.getElem?_cons_zero] at cb5 cm5 c5
   clear hM hM5 hs hm3 hb hs5 hs6 hK hg5 hobj hnd e1 e2 hx
   generalize fnI fs x = e at *
   obtain ⟨⟨S1, A1, na1, ca1, B1, nb1, cb1, L1, nl1, cl1, D1, nd1, cd1⟩, f⟩ := e
   dsimp only [F.FV.val, F.FV.cells] at *
   gi_wp2
   exact ⟨by simpa using HKF.out, HX.out⟩
  ·have e1 : cntF fs pre (fnI fs x).1.S.data.toList = 0 := if_neg hx
   have hlk := hM.look (t := 111) Tryz.underlying111 Tryz.underlying9 Tryz.underlying3 (met_zero _) (fnI fs x).1.S hsz
   obtain ⟨w5, hup, hM5, hg5⟩ := hM.update (t := 111) Tryz.underlying111 Tryz.underlying9 Tryz.underlying3 (by unfold maxLen; omega) (fnI fs x).1.S 1 hsz (by decide)
   have hlk5 := hM5.look (t := 111) Tryz.underlying111 Tryz.underlying9 Tryz.underlying3 (met_zero _) (fnI fs x).1.S hsz
   have e2 : setS (cntF fs pre) (fnI fs x).1.S.data.toList 1 (fnI fs x).1.S.data.toList = 1 := if_pos rfl
   rw [e1, show ((0 : Nat) : Int) = 0 from rfl] at hlk
   rw [e2, show ((1 : Nat) : Int) = 1 from rfl] at hlk5
   rw [show ((1 : Nat) : Int) = 1 from rfl] at hup
   have cb5 := (blk_grown_map hg5 hobj hb).cell 0
   have cm5 := (blk_grown_map hg5 hobj hm3).cell 0
   have HX : Hid (ApI w w.heap.size fs (pre ++ [x]) w5) :=
    ⟨⟨blk_grown_map hg5 hobj hs, blk_grown_map hg5 hobj hm3⟩, by
     have := hM5.congr (g := cntF fs (pre ++ [x])) cntF_new
     rwa [show pre.length + 1 = (pre ++ [x]).length by simp] at this, hK.grown hg5 (fun g e hl => by cases e; omega), nodup_new hx hnd⟩
   have HKF : Hid (KeepsFrom (w.heap.size + 1 + 1 + 1 + 1 + 1) W w5 ∧ FsK Y fs W w5) :=
    ⟨⟨hg5.size, fun k o hk1 hk2 hk3 => (hg5.block k (Array.getElem?_eq_some_iff.1 hk2).1 (by simp; omega)).trans hk2⟩, fun hr => rd_grown hg5 hobj hr⟩
   simp only [F.FV.cells, List.getElem?_toArray, List.getElem?_cons_zero] at cb5 cm5
   clear hM hM5 hs hm3 hb hK hg5 hobj hnd e1 e2 hx
   generalize fnI fs x = e at *
   obtain ⟨⟨S1, A1, na1, ca1, B1, nb1, cb1, L1, nl1, cl1, D1, nd1, cd1⟩, f⟩ := e
   dsimp only [F.FV.val, F.FV.cells] at *
   gi_wp2
   exact ⟨by simpa using HKF.out.1, HKF.out.2, HX.out⟩
 case done =>
  rintro D ys W hD rfl ⟨⟨hs, hm3⟩, hM, hK, hnd⟩ hDf
  rw [HN.out] at hnd
  obtain rfl : true = R := by rw [← hR.out, decide_eq_true hnd]
  have hs6 := hs.put 0 (.bool true)
  have fz := fun i => hs.frozen i
  have c5 : W.cell? ⟨w.heap.size + 1, 0, none⟩ = some (.bool false) := hs.cell 0
  have hK6 := hK.setCell (p := ⟨w.heap.size + 1, 0, none⟩) (fun h => absurd h (by simp)) (.bool true)
  have hDf6 := (Below.heap_setCell W ⟨w.heap.size + 1, 0, none⟩ (.bool true) D (by show D ≠ w.heap.size + 1; simp at hD; omega)).trans hDf
  have HS6 := Lib.hid hs6
  clear hs hm3 hM hnd hK hs6
  gi_wp2
  refine ⟨by simp, .inl ⟨_, _, rfl, run_takeDeferred hDf6, ?_⟩⟩
  exact ⟨_, O.results_cell rfl rfl (run_bool (blk_putObj HS6.out hDf6 rfl)), rfl, O.Keep_putObj hK6 (by simp at hD; omega)⟩
 case stop =>
  rintro D c pre W hD ⟨k, hk, rfl⟩ ⟨rfl, hs, hK, hnd⟩ hDf
  have hnd2 := not_nodup_range hk hnd
  rw [HN.out] at hnd2
  obtain rfl : false = R := by rw [← hR.out, decide_eq_false hnd2]
  gi_wp2
  refine ⟨by simp, .inl ⟨_, _, rfl, run_takeDeferred hDf, ?_⟩⟩
  exact ⟨_, O.results_cell rfl rfl (run_bool (blk_putObj hs hDf rfl)), rfl, O.Keep_putObj hK (by simp at hD; omega)⟩

end Go.Proofs.YtgnooffedmeenaaGreatDoor.I

namespace Go.Proofs.YtgnooffedmeenaaGreatDoor.I
open Go.RowKit W

theorem okI_parts (es : List SE) (fs : List FE) : okI (imOf es fs) = (mayS es && (mayF fs && decide ((names (imOf [] fs)).Nodup))) := by
 have hn : names (imOf es fs) = names (imOf [] fs) := rfl
 rw [Bool.eq_iff_iff, okI_iff, hn]
 simp only [Bool.and_eq_true, mayS, mayF, decide_eq_true_eq]
 have e1 : (imOf es fs).sh.all S.okS = es.all fun e => S.okS e.2 := by simp [imOf, List.all_map, Function.comp_def]
 have e2 : (imOf es fs).fn.all F.okF = fs.all fun e => F.okF e.2 := by simp [imOf, List.all_map, Function.comp_def]
 have e3 : (imOf es fs).sh.length = es.length := by simp [imOf]
 have e4 : (imOf es fs).fn.length = fs.length := by simp [imOf]
 rw [e1, e2, e3, e4]
 constructor
 ·rintro ⟨⟨a, ⟨b, c⟩, d⟩, e, f⟩
  exact ⟨⟨⟨Nat.zero_le _, a⟩, e⟩, ⟨⟨b, c⟩, f⟩, d⟩
 ·rintro ⟨⟨⟨_, a⟩, e⟩, ⟨⟨b, c⟩, f⟩, d⟩
  exact ⟨⟨a, ⟨b, c⟩, d⟩, e, f⟩

set_option maxRecDepth 100000 in
set_option maxHeartbeats 8000000 in
theorem check_any (v : IV) (es : List SE) (fs : List FE) (w : World) (h : ImAt w v es fs) (hl : LgI v es fs) (R : Int) (hR : Hid (chkI (imOf es fs) = R)) :
  Calls Tryz.prog 30 #[v.val] w fun e w' => e = .returned (.int .i64 R) ∧ Keep NoB w w' := by
 have bx := Blk.new w 25 v.cells
 have k0 := (Keep.refl NoB w).alloc (.cells v.cells 25)
 have hlx := h.lx
 have hly := h.ly
 have HS := Lib.hid (fun W (hk : Keep NoB w W) => mayS_any v.X es v.nx v.cx W (fun W' hk' => (h.keepN (keepN hk hk')).rx) hlx (by have := hl.nx; omega) (fun e he W' hk' => S.chkS_any e.1.A e.2 e.1.n e.1.c W' ((h.keepN (keepN hk hk')).hs e he).1 (h.hs e he).2 (by have := hl.sh e he; omega) _ rfl))
 have HF := Lib.hid (fun W (hk : Keep NoB w W) => mayF_any v.Y fs v.ny v.cy W (fun W' hk' => (h.keepN (keepN hk hk')).ry) hly (by have := hl.ny; omega) (fun e he W' hk' => F.checkL_any e.1 e.2 W' ((h.keepN (keepN hk hk')).hf e he) (hl.fn e he) _ rfl))
 have HA : Hid (mayF fs = true → ∀ W, Keep NoB w W → Calls Tryz.prog 58 #[v.val] W fun e w' => e = .returned (.bool (decide ((names (imOf [] fs)).Nodup))) ∧ Keep NoB W w') := fun hm W hk =>
  apart_any v es fs W (h.keepN hk) (by unfold mayF at hm; rw [Bool.and_eq_true, decide_eq_true_eq] at hm; omega) (fun e he => (hl.fn e he).sz) _ rfl
 have HR : Hid (chkI (imOf es fs) = if (mayS es && (mayF fs && decide ((names (imOf [] fs)).Nodup))) = true then 0 else 80) := by show _ = _; unfold chkI; rw [okI_parts]
 obtain ⟨q0, q1⟩ := blk2 bx
 clear h hl bx hlx hly
 obtain ⟨X, nx, cx, Y, ny, cy⟩ := v
 dsimp only [IV.val, IV.cells] at *
 generalize hw1 : w.alloc (.cells #[.slice X nx cx, .slice Y ny cy] 25) = w1 at k0 q0 q1
 have HP := Lib.hid (fun (n : KW w1) => keepN k0 n.keep)
 have z0 : ∀ n : KW w1, n.w.cell? ⟨w.heap.size, 0, none⟩ = some (.slice X nx cx) := fun n => n.keep.cell q0 id
 have z1 : ∀ n : KW w1, n.w.cell? ⟨w.heap.size, 1, none⟩ = some (.slice Y ny cy) := fun n => n.keep.cell q1 id
 generalize decide ((names (imOf [] fs)).Nodup) = bA at *
 cases hs : mayS es
 ·rw [hs] at HS HR
  obtain rfl : 80 = R := by rw [← hR.out, HR.out]; rfl
  clear hR HR HF HA hs
  go_enter Tryz.func30, Tryz.ntmps30
  go_wp2_with fail
  clear hw1
  refine wp_region_kept w1 (by kernel_rfl) (by kernel_rfl) (Keep.refl NoB w1) ?_
  repeat (go_big_quiet_step (first | (go_at_call 55; exact kept_of (partsS_any _)) | (go_at_call 54; exact kept_of (HS.out _ (HP.out _)))))
  refine wpQuiet_nil ?_
  rintro _ ⟨n9, rfl⟩
  have hk9 := n9.keep
  generalize n9.w = w9 at hk9 ⊢
  have hK9 := keepN k0 hk9
  go_wp2
  go_ret
  exact ⟨rfl, hK9⟩
 ·rw [hs] at HS HR
  cases hf : mayF fs
  ·rw [hf] at HF HR
   obtain rfl : 80 = R := by rw [← hR.out, HR.out]; rfl
   clear hR HR HA hs hf
   go_enter Tryz.func30, Tryz.ntmps30
   go_wp2_with fail
   clear hw1
   refine wp_region_kept w1 (by kernel_rfl) (by kernel_rfl) (Keep.refl NoB w1) ?_
   repeat (go_big_quiet_step (first | (go_at_call 55; exact kept_of (partsS_any _)) | (go_at_call 54; exact kept_of (HS.out _ (HP.out _))) | (go_at_call 57; exact kept_of (partsF_any _)) | (go_at_call 56; exact kept_of (HF.out _ (HP.out _)))))
   refine wpQuiet_nil ?_
   rintro _ ⟨n9, rfl⟩
   have hk9 := n9.keep
   generalize n9.w = w9 at hk9 ⊢
   have hK9 := keepN k0 hk9
   go_wp2
   go_ret
   exact ⟨rfl, hK9⟩
  ·have HA2 := Lib.hid (HA.out hf)
   rw [hf] at HF HR
   cases bA
   ·obtain rfl : 80 = R := by rw [← hR.out, HR.out]; rfl
    clear hR HR HA hs hf
    go_enter Tryz.func30, Tryz.ntmps30
    go_wp2_with fail
    clear hw1
    refine wp_region_kept w1 (by kernel_rfl) (by kernel_rfl) (Keep.refl NoB w1) ?_
    repeat (go_big_quiet_step (first | (go_at_call 55; exact kept_of (partsS_any _)) | (go_at_call 54; exact kept_of (HS.out _ (HP.out _))) | (go_at_call 57; exact kept_of (partsF_any _)) | (go_at_call 56; exact kept_of (HF.out _ (HP.out _))) | (go_at_call 58; exact kept_of (HA2.out _ (HP.out _)))))
    refine wpQuiet_nil ?_
    rintro _ ⟨n9, rfl⟩
    have hk9 := n9.keep
    generalize n9.w = w9 at hk9 ⊢
    have hK9 := keepN k0 hk9
    go_wp2
    go_ret
    exact ⟨rfl, hK9⟩
   ·obtain rfl : 0 = R := by rw [← hR.out, HR.out]; rfl
    clear hR HR HA hs hf
    go_enter Tryz.func30, Tryz.ntmps30
    go_wp2_with fail
    clear hw1
    refine wp_region_kept w1 (by kernel_rfl) (by kernel_rfl) (Keep.refl NoB w1) ?_
    repeat (go_big_quiet_step (first | (go_at_call 55; exact kept_of (partsS_any _)) | (go_at_call 54; exact kept_of (HS.out _ (HP.out _))) | (go_at_call 57; exact kept_of (partsF_any _)) | (go_at_call 56; exact kept_of (HF.out _ (HP.out _))) | (go_at_call 58; exact kept_of (HA2.out _ (HP.out _)))))
    refine wpQuiet_nil ?_
    rintro _ ⟨n9, rfl⟩
    have hk9 := n9.keep
    generalize n9.w = w9 at hk9 ⊢
    have hK9 := keepN k0 hk9
    go_wp2
    go_ret
    exact ⟨rfl, hK9⟩

end Go.Proofs.YtgnooffedmeenaaGreatDoor.I

namespace Go.Proofs.YtgnooffedmeenaaGreatDoor.M.L
open Go.RowKit W

def cutV (b : Bool) (v : I.IV) : I.IV := if b = true then v else I.nilW
def cutE (b : Bool) (es : List I.SE) : List I.SE := if b = true then es else []
def cutF (b : Bool) (fs : List I.FE) : List I.FE := if b = true then fs else []
theorem cut_im {b : Bool} {w : World} {v : I.IV} {es : List I.SE} {fs : List I.FE} (h : I.ImAt w v es fs) : I.ImAt w (cutV b v) (cutE b es) (cutF b fs) := by
 cases b
 ·exact (I.nil_own w NoB).im
 ·exact h
abbrev sheetW (W : World) (b : Nat) (u0 u1 u2 u3 u4 : Value) : World := ((((W.setCell ⟨b, 0, none⟩ u0).setCell ⟨b, 1, none⟩ u1).setCell ⟨b, 2, none⟩ u2).setCell ⟨b, 3, none⟩ u3).setCell ⟨b, 4, none⟩ u4
theorem sheet_put {W : World} {b : Nat} {T : TypeId} {a0 a1 a2 a3 a4 : Value} (h : Blk W b T #[a0, a1, a2, a3, a4]) (u0 u1 u2 u3 u4 : Value) : Blk (sheetW W b u0 u1 u2 u3 u4) b T #[u0, u1, u2, u3, u4] := ((((h.put 0 u0).put 1 u1).put 2 u2).put 3 u3).put 4 u4
theorem sheet_keep {w W : World} {b : Nat} (h : Keep NoB w W) (u0 u1 u2 u3 u4 : Value) (hb : w.heap.size ≤ b) : Keep NoB w (sheetW W b u0 u1 u2 u3 u4) :=
 ((((h.setCell (p := ⟨b, 0, none⟩) (fun h => absurd h (Nat.not_lt.2 hb)) u0).setCell (p := ⟨b, 1, none⟩) (fun h => absurd h (Nat.not_lt.2 hb)) u1).setCell (p := ⟨b, 2, none⟩) (fun h => absurd h (Nat.not_lt.2 hb)) u2).setCell (p := ⟨b, 3, none⟩) (fun h => absurd h (Nat.not_lt.2 hb)) u3).setCell (p := ⟨b, 4, none⟩) (fun h => absurd h (Nat.not_lt.2 hb)) u4
def plainH (v : I.IV) : SH := ⟨v, none, 89, #[], 90, #[]⟩
def numbH (v : I.IV) : SH := ⟨v, none, 89, #[], 91, #[]⟩

set_option maxRecDepth 100000 in
set_option maxHeartbeats 4000000 in
theorem plain_any (v : I.IV) (es : List I.SE) (fs : List I.FE) (w : World) (h : I.ImAt w v es fs) (hl : I.LgI v es fs) :
  Calls Tryz.prog 42 #[v.val] w fun e w' => e = .returned (plainH (cutV (I.okI (I.imOf es fs)) v)).val ∧ Keep NoB w w' := by
 have HC := Lib.hid (fun W (hk : Keep NoB w W) => I.check_any v es fs W (h.keepN hk) hl (I.chkI (I.imOf es fs)) rfl)
 have hB := (Blk.new w 25 v.cells).alloc (.cells #[.slice none 0 0, .slice none 0 0, .map none, .nilFunc, .nilFunc] 72)
 have hS := Blk.new (w.alloc (.cells v.cells 25)) 72 #[.slice none 0 0, .slice none 0 0, .map none, .nilFunc, .nilFunc]
 have k0 := ((Keep.refl NoB w).alloc (.cells v.cells 25)).alloc (.cells #[.slice none 0 0, .slice none 0 0, .map none, .nilFunc, .nilFunc] 72)
 rw [World.size_alloc] at hS
 clear h hl
 obtain ⟨X, nx, cx, Y, ny, cy⟩ := v
 dsimp only [I.IV.val, I.IV.cells] at *
 have c0 := hB.cell 0
 have c1 := hB.cell 1
 simp only [List.getElem?_toArray, List.getElem?_cons_zero, List.getElem?_cons_succ] at c0 c1
 cases hok : I.okI (I.imOf es fs)
 ·rw [I.chkI_no hok] at HC
  clear hok
  go_enter Tryz.func42, Tryz.ntmps42
  go_wp2_with fail
  refine (HC.out _ k0).mono ?_
  rintro e w1 ⟨rfl, k1⟩
  have hK := keepN k0 k1
  have hB1 := hB.keep k1 id
  have hS1 := hS.keep k1 id
  have hne : w.heap.size ≠ w.heap.size + 1 := by omega
  obtain ⟨q0, q1⟩ := And.intro (hB1.cell 0) (hB1.cell 1)
  simp only [List.getElem?_toArray, List.getElem?_cons_zero, List.getElem?_cons_succ] at q0 q1
  have f1 := fun i => hB1.frozen i
  have l1 := hB1.lt
  have hB2 : Blk ((w1.setCell ⟨w.heap.size, 0, none⟩ (.slice none 0 0)).setCell ⟨w.heap.size, 1, none⟩ (.slice none 0 0)) w.heap.size 25 #[.slice none 0 0, .slice none 0 0] := (hB1.put 0 _).put 1 _
  have hS2 : Blk ((w1.setCell ⟨w.heap.size, 0, none⟩ (.slice none 0 0)).setCell ⟨w.heap.size, 1, none⟩ (.slice none 0 0)) (w.heap.size + 1) 72 #[.slice none 0 0, .slice none 0 0, .map none, .nilFunc, .nilFunc] := (hS1.far (p := ⟨w.heap.size, 0, none⟩) (fun e => hne e.symm) _).far (p := ⟨w.heap.size, 1, none⟩) (fun e => hne e.symm) _
  have hK2 : Keep NoB w ((w1.setCell ⟨w.heap.size, 0, none⟩ (.slice none 0 0)).setCell ⟨w.heap.size, 1, none⟩ (.slice none 0 0)) := (hK.setCell (p := ⟨w.heap.size, 0, none⟩) (fun h => absurd h (Nat.lt_irrefl _)) _).setCell (p := ⟨w.heap.size, 1, none⟩) (fun h => absurd h (Nat.lt_irrefl _)) _
  obtain ⟨d0, d1⟩ := And.intro (hB2.cell 0) (hB2.cell 1)
  simp only [List.getElem?_toArray, List.getElem?_cons_zero, List.getElem?_cons_succ] at d0 d1
  have s0 := hS2.cell 0
  have s1 := hS2.cell 1
  have s2 := hS2.cell 2
  have s3 := hS2.cell 3
  have s4 := hS2.cell 4
  simp only [List.getElem?_toArray, List.getElem?_cons_zero, List.getElem?_cons_succ] at s0 s1 s2 s3 s4
  have f2 := fun i => hS2.frozen i
  have l2 := hS2.lt
  generalize hW2 : (w1.setCell ⟨w.heap.size, 0, none⟩ (.slice none 0 0)).setCell ⟨w.heap.size, 1, none⟩ (.slice none 0 0) = W2 at *
  have HS3 := Lib.hid (sheet_put hS2 (.slice none 0 0) (.slice none 0 0) (.map none) (.func (.func 89) #[] #[]) (.func (.func 90) #[] #[]))
  have HK3 := Lib.hid (sheet_keep hK2 (.slice none 0 0) (.slice none 0 0) (.map none) (.func (.func 89) #[] #[]) (.func (.func 90) #[] #[]) (by omega : w.heap.size ≤ w.heap.size + 1))
  clear hB hS k0 k1 hK hB1 hS1 hB2 hS2 hK2 c0 c1 HC
  go_wp2
  have b3 := HS3.out
  have o0 := b3.cell 0
  have o1 := b3.cell 1
  have o2 := b3.cell 2
  have o3 := b3.cell 3
  have o4 := b3.cell 4
  simp only [List.getElem?_toArray, List.getElem?_cons_zero, List.getElem?_cons_succ] at o0 o1 o2 o3 o4
  refine bodyPost_ret (v := .agg #[.slice none 0 0, .slice none 0 0, .map none, .func (.func 89) #[] #[], .func (.func 90) #[] #[]]) (by simp [results, Tryz.results42, go_sem, o0, o1, o2, o3, o4]) rfl ?_
  exact ⟨rfl, HK3.out⟩
 ·rw [I.chkI_ok hok] at HC
  clear hok
  go_enter Tryz.func42, Tryz.ntmps42
  go_wp2_with fail
  refine (HC.out _ k0).mono ?_
  rintro e w1 ⟨rfl, k1⟩
  have hK2 := keepN k0 k1
  have hB1 := hB.keep k1 id
  have hS2 := hS.keep k1 id
  obtain ⟨d0, d1⟩ := And.intro (hB1.cell 0) (hB1.cell 1)
  simp only [List.getElem?_toArray, List.getElem?_cons_zero, List.getElem?_cons_succ] at d0 d1
  have s0 := hS2.cell 0
  have s1 := hS2.cell 1
  have s2 := hS2.cell 2
  have s3 := hS2.cell 3
  have s4 := hS2.cell 4
  simp only [List.getElem?_toArray, List.getElem?_cons_zero, List.getElem?_cons_succ] at s0 s1 s2 s3 s4
  have f2 := fun i => hS2.frozen i
  have l2 := hS2.lt
  have HS3 := Lib.hid (sheet_put hS2 (.slice X nx cx) (.slice Y ny cy) (.map none) (.func (.func 89) #[] #[]) (.func (.func 90) #[] #[]))
  have HK3 := Lib.hid (sheet_keep hK2 (.slice X nx cx) (.slice Y ny cy) (.map none) (.func (.func 89) #[] #[]) (.func (.func 90) #[] #[]) (by omega : w.heap.size ≤ w.heap.size + 1))
  clear hB hS k0 k1 hB1 hS2 hK2 c0 c1 HC
  go_wp2
  have b3 := HS3.out
  have o0 := b3.cell 0
  have o1 := b3.cell 1
  have o2 := b3.cell 2
  have o3 := b3.cell 3
  have o4 := b3.cell 4
  simp only [List.getElem?_toArray, List.getElem?_cons_zero, List.getElem?_cons_succ] at o0 o1 o2 o3 o4
  refine bodyPost_ret (v := .agg #[.slice X nx cx, .slice Y ny cy, .map none, .func (.func 89) #[] #[], .func (.func 90) #[] #[]]) (by simp [results, Tryz.results42, go_sem, o0, o1, o2, o3, o4]) rfl ?_
  exact ⟨rfl, HK3.out⟩

end Go.Proofs.YtgnooffedmeenaaGreatDoor.M.L

namespace Go.Proofs.YtgnooffedmeenaaGreatDoor.M.L
open Go.RowKit W

def opS (p : I.Im) (k : Nat) (x : C.I3) : Bs := (NWp p k x).getD []
def opT (p : I.Im) (k : Nat) (x : C.I3) : Bool := (NWp p k x).isSome
theorem nw_place {p : I.Im} (hp : ImOk p) {k : Nat} {f : F.Fu} (hf : p.fn[k]? = some f) {x : C.I3} (hx : x ∈ f.bd) (h : (O.rowAt x.1).ka = 10) :
  ∃ t n : Nat, x.2.1 = (t : Int) ∧ t ≤ 511 ∧ lbN p k t = some n ∧ n ≤ 511 ∧ NWp p k x = some (lbl ((n : Nat) : Int)) := by
 obtain ⟨h1, h2⟩ := hp.fn hf
 obtain ⟨b1, _, b3, b4⟩ := ok_body h1
 have hok := List.all_eq_true.1 b1 x hx
 have hg := C.ka_gB hok h
 have hin := C.gB_in hg
 have h6 := b4 x hx
 rw [C.gN_yes hg] at h6
 have ht : x.2.1 = ((x.2.1.toNat : Nat) : Int) := by omega
 have hm : x.2.1.toNat ∈ tgs f.bd := tgs_mem.2 ⟨by omega, hit_of hx hg ht⟩
 obtain ⟨s, hs⟩ := labA_mem hm
 have hl : LBp p k x.2.1.toNat = some s := by unfold LBp; rw [hf]; exact hs
 have hnw : NWp p k x = some s := by unfold NWp; rw [if_pos hg]; exact hl
 rw [lb_lbN] at hl
 cases hn : lbN p k x.2.1.toNat with
 | none => rw [hn] at hl; cases hl
 | some n =>
  rw [hn] at hl
  injection hl with hl
  obtain ⟨f', hf', hlt, _⟩ := lbN_lt hn
  rw [hf] at hf'
  injection hf' with hf'
  subst hf'
  have := tgs_len f.bd
  exact ⟨_, n, ht, by omega, hn, by omega, by rw [hnw, ← hl]⟩
theorem nw_func {p : I.Im} (hp : ImOk p) {k : Nat} {f : F.Fu} (hf : p.fn[k]? = some f) {x : C.I3} (hx : x ∈ f.bd) (h : (O.rowAt x.1).ka = 7) :
  ∃ t : Nat, x.2.1 = (t : Int) ∧ NWp p k x = (p.fn[t]?).map F.Fu.nm := by
 obtain ⟨h1, h2⟩ := hp.fn hf
 have hok := List.all_eq_true.1 (ok_body h1).1 x hx
 have hng : ¬ C.gB x = true := fun hg => by have := (C.gB_ka hg).2; rw [h] at this; exact absurd this (by decide)
 have h3 := (O.ok_op hok).2.1
 rw [h] at h3
 have hb := (O.in_bounds h3).2.1 (by decide)
 refine ⟨x.2.1.toNat, by omega, ?_⟩
 unfold NWp
 rw [if_neg hng, if_pos h]
theorem nw_else {p : I.Im} {k : Nat} {x : C.I3} (h1 : ¬ (O.rowAt x.1).ka = 10) (h2 : ¬ (O.rowAt x.1).ka = 7) : NWp p k x = none := by
 unfold NWp
 rw [if_neg (fun hg => h1 (C.gB_ka hg).2), if_neg h2]

structure NmAt (w : World) (p : I.Im) (b n b1 b2 : Nat) (Y : Option Addr) (ny cy : Nat) (fs : List I.FE) : Prop where
 pm : PM b n (labF p) w
 k1 : Blk w b1 69 #[.map (some b)]
 k2 : Blk w b2 23 #[.slice Y ny cy]
 rd : Rd w Y (I.fvs fs)
 nl : fs.length = ny
 pf : p.fn = fs.map fun e => e.2
 nm : ∀ e ∈ fs, e.1.S.data.toList = e.2.nm
theorem NmAt.keep {w w' : World} {p : I.Im} {b n b1 b2 : Nat} {Y : Option Addr} {ny cy : Nat} {fs : List I.FE} (h : NmAt w p b n b1 b2 Y ny cy fs) (hk : Keep NoB w w') : NmAt w' p b n b1 b2 Y ny cy fs :=
 ⟨h.pm.keep hk id, h.k1.keep hk id, h.k2.keep hk id, h.rd.keepN hk, h.nl, h.pf, h.nm⟩

set_option maxRecDepth 100000 in
set_option maxHeartbeats 4000000 in
theorem named1_any (p : I.Im) (hp : ImOk p) (b n b1 b2 : Nat) (Y : Option Addr) (ny cy : Nat) (fs : List I.FE) (w : World) (h : NmAt w p b n b1 b2 Y ny cy fs) (hL : W.Laid w) (k : Nat) (f : F.Fu) (hf : p.fn[k]? = some f) (x : C.I3) (hx : x ∈ f.bd) :
  Calls Tryz.prog 77 #[.int .i64 (k : Int), O.instV x.1 x.2.1 x.2.2, .pointer (some ⟨b1, 0, none⟩), .pointer (some ⟨b2, 0, none⟩)] w fun e w' =>
   e = .returned (.tuple #[.string (str (opS p k x)), .bool (opT p k x)]) ∧ Keep NoB w w' := by
 have hkf : k < 64 := by
  have h1 := (List.getElem?_eq_some_iff.1 hf).1
  have h2 := hp.nf
  omega
 have hB := Blk.new w 55 #[.int .i64 x.1, .int .i64 x.2.1, .int .i64 x.2.2]
 have k0 := (Keep.refl NoB w).alloc (.cells #[.int .i64 x.1, .int .i64 x.2.1, .int .i64 x.2.2] 55)
 have HK := Lib.hid (fun W => O.kinds_any x.1 W)
 have HA := Lib.hid (fun W (hk : Keep NoB w W) => h.keep hk)
 have HLd := Lib.hid (fun W (hk : Keep NoB w W) => hL.keep hk)
 by_cases h10 : (O.rowAt x.1).ka = 10
 ·obtain ⟨t, m, e1, e2, e3, e4, e5⟩ := nw_place hp hf hx h10
  have HX : Hid (opS p k x = lbl ((m : Nat) : Int) ∧ opT p k x = true) := by unfold opS opT; rw [e5]; exact ⟨rfl, rfl⟩
  have HLb := Lib.hid (fun W (hk : Keep NoB w W) => label_any m W (by omega) (hL.keep hk))
  have HLk : Hid (∀ W, Keep NoB w W → (Instr.lookup 69 (.map (some b)) (.agg #[.int .i64 (k : Int), .int .i64 (t : Int)]) false).run Tryz.prog W = .ok (.int .i64 (m : Int)) W) := by
   intro W hk
   have h1 := pm_look (h.keep hk).pm k t (by omega) (by omega)
   rw [labF_nat, e3] at h1
   exact h1
  obtain ⟨op, a, c⟩ := x
  dsimp only at *
  subst e1
  rw [HX.out.1, HX.out.2]
  rw [h10] at HK
  have c0 := hB.cell 0
  have c1 := hB.cell 1
  simp only [List.getElem?_toArray, List.getElem?_cons_zero, List.getElem?_cons_succ] at c0 c1
  clear h hL hp hf hx h10 e2 e3 e4 e5 HX
  go_enter Tryz.func77, Tryz.ntmps77
  go_wp2_with fail
  refine (HK.out _).mono ?_
  rintro e w1 ⟨rfl, k1⟩
  have hk1 := keepN k0 k1
  have hB1 := hB.keep k1 id
  have c1 := hB1.cell 1
  have d0 := (HA.out _ hk1).k1.cell 0
  have hlk := HLk.out _ hk1
  simp only [List.getElem?_toArray, List.getElem?_cons_zero, List.getElem?_cons_succ] at c1 d0
  clear hB hB1 k0 k1 c0 HK
  go_wp2_with fail
  refine (HLb.out _ hk1).mono ?_
  rintro e w2 ⟨rfl, k2⟩
  go_wp2
  go_ret2
  exact ⟨rfl, keepN hk1 k2⟩
 ·have q10 : ((O.rowAt x.1).ka == 10) = false := by rw [beq_eq_false_iff_ne]; exact h10
  by_cases h7 : (O.rowAt x.1).ka = 7
  ·obtain ⟨t, e1, e2⟩ := nw_func hp hf hx h7
   rw [h.pf] at e2
   rw [List.getElem?_map] at e2
   have hny := h.nl
   have hn64 : ny ≤ 64 := by
    have := hp.nf
    rw [h.pf, List.length_map] at this
    omega
   by_cases hlt : t < ny
   ·have hlf : t < fs.length := by omega
    rw [List.getElem?_eq_getElem hlf] at e2
    have hfa := h.nm _ (List.getElem_mem hlf)
    have HX : Hid (str (opS p k x) = fs[t].1.S ∧ opT p k x = true) := by
     unfold opS opT
     rw [e2]
     refine ⟨?_, rfl⟩
     show str fs[t].2.nm = _
     rw [str_of hfa]
    have HFa : Hid (∀ W, Keep NoB w W → ∃ g off, Y = some ⟨g, off, none⟩ ∧ W.cell? ⟨g, off + t * 5, none⟩ = some (.string fs[t].1.S)) := fun W hk => by
     obtain ⟨g, off, h1, h2, _⟩ := I.fun_at (h.keep hk).rd hlf
     exact ⟨g, off, h1, h2⟩
    obtain ⟨op, a, c⟩ := x
    dsimp only at *
    subst e1
    rw [HX.out.1, HX.out.2]
    rw [h7] at HK
    have c0 := hB.cell 0
    simp only [List.getElem?_toArray, List.getElem?_cons_zero] at c0
    generalize fs[t].1.S = S at *
    clear h hL hp hf hx h10 h7 q10 e2 HX hfa hny hlf
    go_enter Tryz.func77, Tryz.ntmps77
    go_wp2_with fail
    refine (HK.out _).mono ?_
    rintro e w1 ⟨rfl, k1⟩
    have hk1 := keepN k0 k1
    have hB1 := hB.keep k1 id
    have c1 := hB1.cell 1
    have d0 := (HA.out _ hk1).k2.cell 0
    obtain ⟨g, off, rfl, hc⟩ := HFa.out _ hk1
    simp only [List.getElem?_toArray, List.getElem?_cons_zero, List.getElem?_cons_succ] at c1 d0
    clear hB hB1 k0 k1 c0 HK HFa HA
    go_wp2
    go_ret2
    exact ⟨rfl, hk1⟩
   ·rw [List.getElem?_eq_none (by omega)] at e2
    have HX : Hid (opS p k x = [] ∧ opT p k x = false) := by unfold opS opT; rw [e2]; exact ⟨rfl, rfl⟩
    obtain ⟨op, a, c⟩ := x
    dsimp only at *
    subst e1
    rw [HX.out.1, HX.out.2]
    rw [h7] at HK
    have c0 := hB.cell 0
    simp only [List.getElem?_toArray, List.getElem?_cons_zero] at c0
    have hge : ¬ (t : Int) < (ny : Int) := by omega
    clear h hL hp hf hx h10 h7 q10 e2 HX hny hlt
    go_enter Tryz.func77, Tryz.ntmps77
    go_wp2_with fail
    refine (HK.out _).mono ?_
    rintro e w1 ⟨rfl, k1⟩
    have hk1 := keepN k0 k1
    have hB1 := hB.keep k1 id
    have c1 := hB1.cell 1
    have d0 := (HA.out _ hk1).k2.cell 0
    simp only [List.getElem?_toArray, List.getElem?_cons_zero, List.getElem?_cons_succ] at c1 d0
    clear hB hB1 k0 k1 c0 HK HA
    go_wp2
    go_ret2
    exact ⟨rfl, hk1⟩
  ·have q7 : ((O.rowAt x.1).ka == 7) = false := by rw [beq_eq_false_iff_ne]; exact h7
   have HX : Hid (opS p k x = [] ∧ opT p k x = false) := by unfold opS opT; rw [nw_else h10 h7]; exact ⟨rfl, rfl⟩
   obtain ⟨op, a, c⟩ := x
   dsimp only at *
   rw [HX.out.1, HX.out.2]
   have c0 := hB.cell 0
   simp only [List.getElem?_toArray, List.getElem?_cons_zero] at c0
   generalize (O.rowAt op).ka = ka at *
   clear h hL hp hf hx h10 h7 HX
   go_enter Tryz.func77, Tryz.ntmps77
   go_wp2_with fail
   refine (HK.out _).mono ?_
   rintro e w1 ⟨rfl, k1⟩
   have hk1 := keepN k0 k1
   clear hB k0 k1 c0 HK HA
   go_wp2
   go_ret2
   exact ⟨rfl, hk1⟩

end Go.Proofs.YtgnooffedmeenaaGreatDoor.M.L

namespace Go.Proofs.YtgnooffedmeenaaGreatDoor.M.L
open Go.RowKit W

theorem goL_succ {l : List C.I3} {k : Nat} (h : k < l.length) : goL (l.take (k + 1)) = goL (l.take k) ++ (if C.gB l[k] = true then [C.gN l[k]] else []) := by
 unfold goL
 rw [List.take_succ_eq_append_getElem h, List.filterMap_append]
 congr 1
 by_cases hg : C.gB l[k] = true
 ·rw [if_pos hg]; simp [hg]
 ·rw [if_neg hg]; simp [hg]
theorem sort_own {w w1 : World} {g cap nn q : Nat} {os : Array Obj} {zs : List Int} (hown : Own w1 3 1 (Fresh w) (.slice (some ⟨g, 0, none⟩) zs.length cap) zs.length (ivs zs)) (hk : Keep NoB w w1) (hg : w.heap.size ≤ g) :
  let w3 := Sort.putRow (Value.int .i64) (Sort.ahead (Sort.grow (Sort.putRow (Value.int .i64) (Sort.ahead w1 nn) g 0 (zs.mergeSort fun x y => decide (x ≤ y)).toArray) os) q) g 0 (Lib.compact (zs.mergeSort fun x y => decide (x ≤ y)) ++ List.replicate ((zs.mergeSort fun x y => decide (x ≤ y)).length - (Lib.compact (zs.mergeSort fun x y => decide (x ≤ y))).length) 0).toArray
  Own w3 3 1 (Fresh w) (.slice (some ⟨g, 0, none⟩) (Lib.compact (zs.mergeSort fun x y => decide (x ≤ y))).length cap) (Lib.compact (zs.mergeSort fun x y => decide (x ≤ y))).length (ivs (Lib.compact (zs.mergeSort fun x y => decide (x ≤ y)))) ∧ Keep NoB w w3 := by
 intro w3
 have hl2 : (zs.mergeSort fun x y => decide (x ≤ y)).length = zs.length := List.length_mergeSort zs
 have hle := Lib.compact_length_le (zs.mergeSort fun x y => decide (x ≤ y))
 rcases hown.1.2 with ⟨h0, _⟩ | ⟨g', cap', cur, hv, hbase, hb, h1, h2, h3, h4⟩
 ·cases h0
 cases hv
 have hs := ownsRow_sortedI (n := nn) (os := os) (ts := zs.mergeSort fun x y => decide (x ≤ y)) hl2 hbase hb h1 h2 h3
 have hc := Lib.ownsRow_putRow (q := q) (k := (Lib.compact (zs.mergeSort fun x y => decide (x ≤ y))).length) (ys := Lib.compact (zs.mergeSort fun x y => decide (x ≤ y)) ++ List.replicate ((zs.mergeSort fun x y => decide (x ≤ y)).length - (Lib.compact (zs.mergeSort fun x y => decide (x ≤ y))).length) 0) hs (by simp; omega) (by omega)
 rw [List.take_left] at hc
 refine ⟨⟨hc, fun b e => ?_⟩, Keep.of_below (Lib.below_putRow (hk.toBelow.grown (row := some g) (grownBy_sortedI _) hk.size (fun j hj => by injection hj with hj; omega)) hg)⟩
 simp only [Value.ownBlock, Option.some.injEq] at e
 subst e
 exact hg

set_option maxRecDepth 100000 in
set_option maxHeartbeats 4000000 in
theorem targets_any (A : Option Addr) (l : List C.I3) (n c : Nat) (w : World) (hr : Rd w A (C.iis l)) (hn : Hid (l.length = n)) (h6 : n ≤ 9000000000000) :
  Calls Tryz.prog 48 #[.slice A n c] w fun e w' => ∃ B d, e = .returned (.slice B (tgI l).length d) ∧ Own w' 3 1 (Fresh w) (.slice B (tgI l).length d) (tgI l).length (ivs (tgI l)) ∧ Keep NoB w w' := by
 have HR := Lib.hid hr
 obtain ⟨T, hT⟩ : ∃ T, tgI l = T := ⟨_, rfl⟩
 have HT := Lib.hid hT
 rw [hT]
 clear hT
 obtain ⟨i0, hi, hz0, hz1, hz2⟩ := info_parts int_info
 clear hr
 go_enter Tryz.func48, Tryz.ntmps48
 go_wp2_with fail
 go_loopw [3, 10] (fun v i wr => ∃ k : Nat, k ≤ n ∧ i = .int .i64 k ∧ (∃ B d, v = .slice B (goL (l.take k)).length d ∧ Own wr 3 1 (Fresh w) (.slice B (goL (l.take k)).length d) (goL (l.take k)).length (ivs (goL (l.take k)))) ∧ Keep NoB w wr) (fun _ i _ => n - (intOf i).toNat)
 case atStart => exact ⟨0, Nat.zero_le _, rfl, ⟨none, 0, rfl, Own.nil _ _ _ _⟩, Keep.refl _ _⟩
 case round =>
  obtain ⟨k, hk, rfl, ⟨B, d, rfl, hO⟩, hK⟩ := hrel
  by_cases hlt : k < n
  ·have hkl : k < l.length := by rw [hn.out]; exact hlt
   obtain ⟨g, off, rfl, hc⟩ := C.rdJ_at HR.out (by omega)
   obtain ⟨d0, d1, d2⟩ := hc k hkl
   have c0 := hK.cell d0 id
   have c1 := hK.cell d1 id
   have c2 := hK.cell d2 id
   have hs := Lib.hid (goL_succ hkl)
   have hle : (goL (l.take k)).length ≤ k := Nat.le_trans (goL_len _) (by simp; omega)
   clear hc d0 d1 d2
   generalize l[k] = x at c0 c1 c2 hs
   obtain ⟨op, a, b⟩ := x
   dsimp only at c0 c1 c2
   obtain ⟨m, hm'⟩ : ∃ m, (goL (l.take k)).length = m := ⟨_, rfl⟩
   rw [hm'] at hle hO ⊢
   have hgn : O.goesN op a b = C.gN (op, a, b) := rfl
   have hgi : O.goesI op a b = C.gB (op, a, b) := rfl
   have HG := Lib.hid (fun w => O.goes_any op a b w)
   simp only [hgn, hgi] at HG
   clear hgn hgi
   generalize C.gN (op, a, b) = to1 at HG hs
   cases hg : C.gB (op, a, b)
   ·have HS : Hid (goL (l.take (k + 1)) = goL (l.take k)) := by show _ = _; rw [hs.out, hg]; simp
    have HL : Hid ((goL (l.take (k + 1))).length = m) := by show _ = _; rw [HS.out, hm']
    rw [hg] at HG
    have hO2 := hO.keepN ((Keep.refl NoB wr).alloc (.cells #[.int .i64 op, .int .i64 a, .int .i64 b] 55))
    have hK2 := hK.alloc (.cells #[.int .i64 op, .int .i64 a, .int .i64 b] 55)
    clear hg hm' hs hO hK
    go_wp2_with (go_at_call 106; refine (HG.out _).mono ?_; rintro e w2 ⟨rfl, k2⟩)
    go_roundw
    case rel => exact ⟨k + 1, by omega, by go_num, ⟨B, d, by rw [HL.out], by rw [HL.out, HS.out]; exact hO2.keepN k2⟩, keepN hK2 k2⟩
    case measure => simp [intOf]; omega
   ·have HS : Hid (ivs (goL (l.take (k + 1))) = ivs (goL (l.take k)) ++ [.int .i64 to1]) := by show _ = _; rw [hs.out, hg]; simp [ivs]
    have HL : Hid ((goL (l.take (k + 1))).length = m + 1) := by show _ = _; rw [hs.out, hg, List.length_append, hm']; rfl
    rw [hg] at HG
    have hO1 := hO.keepN ((Keep.refl NoB wr).alloc (.cells #[.int .i64 op, .int .i64 a, .int .i64 b] 55))
    have hK1 := hK.alloc (.cells #[.int .i64 op, .int .i64 a, .int .i64 b] 55)
    clear hg hm' hs hO hK
    go_wp2_with fail
    refine (HG.out _).mono ?_
    rintro e w2 ⟨rfl, k2⟩
    have hO2 := hO1.keepN k2
    have hK2 := keepN hK1 k2
    clear hO1 hK1 k2 c0 c1 c2
    go_wp2_with (at_builtin; refine wpList_append_rd _ rfl (.tmp 20) (.tmp 22) _ rfl 3 1 8 i0 _ Tryz.underlying32 hi hz0 hz1 hz2 rfl (by decide) _ m _ _ 1 _ [.int .i64 to1] rfl (hO2.1.alloc _) rfl (W.rd_made (by simp) rfl) rfl (by simp [Value.oneCell']) (by unfold maxLen; omega) (by omega) ?_; intro B2 d2 w3 hrow3 hg3 hv3; rw [← HS.out] at hrow3; obtain ⟨hO3, hK3⟩ := W.own_after hO2.2 (hK2.alloc _) hg3 hv3 hrow3; clear hrow3 hg3 hv3)
    go_roundw
    case rel => exact ⟨k + 1, by omega, by go_num, ⟨B2, d2, by rw [HL.out], by rw [HL.out]; exact hO3⟩, hK3⟩
    case measure => simp [intOf]; omega
  ·obtain rfl : k = n := by omega
   have hall : goL (l.take k) = goL l := by rw [List.take_of_length_le (by rw [hn.out]; exact Nat.le_refl _)]
   have hlen : (goL l).length ≤ k := by rw [← hn.out]; exact goL_len l
   rw [hall] at hO ⊢
   have HT2 : Hid (T = Lib.compact ((goL l).mergeSort fun x y => decide (x ≤ y))) := HT.out.symm
   clear hall HT hn HR
   generalize goL l = zs at *
   by_cases h0 : zs.length = 0
   ·obtain rfl : zs = [] := List.length_eq_zero_iff.1 h0
    have HS := Lib.hid (fun W => Tryz.slices_Sort_int_none B d W)
    have HC := Lib.hid (fun W => Tryz.slices_Compact_int_empty B d W)
    clear h0
    go_wp2_with (go_at_call 107; refine (HS.out _).mono ?_; rintro e w2 ⟨rfl, rfl⟩)
    go_wp2_with (go_at_call 108; refine (HC.out _).mono ?_; rintro e w2 ⟨rfl, rfl⟩)
    go_ret
    rw [HT2.out, List.mergeSort_nil, show Lib.compact ([] : List Int) = [] from rfl]
    exact ⟨B, d, rfl, hO, hK⟩
   ·have hnn : (Value.slice B zs.length d) ≠ .slice none 0 0 := fun e => by injection e with _ e; exact h0 e
    obtain ⟨g, cap, e0, _, hgl, hcap, hcm, _, hH⟩ := Lib.holds_of_ownsRow hO.1 hnn
    injection e0 with e1 _ e2
    subst e1 e2
    have hgf : w.heap.size ≤ g := hO.2 g rfl
    have HS := Lib.hid (Tryz.slices_Sort_int g 0 d zs wr hH hgl (by omega))
    have hl2 : (zs.mergeSort fun x y => decide (x ≤ y)).length = zs.length := List.length_mergeSort zs
    have HC : Hid (∀ nn os, Calls Tryz.prog 108 #[.slice (some ⟨g, 0, none⟩) zs.length d] (Sort.grow (Sort.putRow (Value.int .i64) (Sort.ahead wr nn) g 0 (zs.mergeSort fun x y => decide (x ≤ y)).toArray) os) fun e w' =>
      e = .returned (.slice (some ⟨g, 0, none⟩) (Lib.compact (zs.mergeSort fun x y => decide (x ≤ y))).length d) ∧ ∃ q, w' = Sort.putRow (Value.int .i64) (Sort.ahead (Sort.grow (Sort.putRow (Value.int .i64) (Sort.ahead wr nn) g 0 (zs.mergeSort fun x y => decide (x ≤ y)).toArray) os) q) g 0 (Lib.compact (zs.mergeSort fun x y => decide (x ≤ y)) ++ List.replicate ((zs.mergeSort fun x y => decide (x ≤ y)).length - (Lib.compact (zs.mergeSort fun x y => decide (x ≤ y))).length) 0).toArray) := by
     intro nn os
     have hH2 : Sort.Holds (Value.int .i64) (Sort.grow (Sort.putRow (Value.int .i64) (Sort.ahead wr nn) g 0 (zs.mergeSort fun x y => decide (x ≤ y)).toArray) os) g 0 (zs.mergeSort fun x y => decide (x ≤ y)).toArray :=
      Sort.holds_grow _ _ os g 0 _ (by simpa [Sort.putRow, Sort.mapBlock, Sort.ahead] using hgl) (Sort.holds_putRow _ _ g 0 _ _ (Sort.holds_ahead _ wr nn g 0 _ hH) (by simp))
     have h := Tryz.slices_Compact_int g 0 d (zs.mergeSort fun x y => decide (x ≤ y)) _ hH2 (by omega) (by omega)
     rw [hl2] at h ⊢
     exact h
    have HO : Hid (∀ nn os q, _) := fun nn os q => sort_own (w := w) (nn := nn) (os := os) (q := q) hO hK hgf
    clear hH hO hK hnn hl2
    go_wp2_with (go_at_call 107; refine HS.out.mono ?_; rintro e w2 ⟨rfl, nn, os, rfl⟩)
    go_wp2_with (go_at_call 108; refine (HC.out nn os).mono ?_; rintro e w2 ⟨rfl, q, rfl⟩)
    go_ret
    have h := HO.out nn os q
    simp only [List.length_mergeSort] at h
    rw [HT2.out]
    exact ⟨_, _, rfl, h.1, h.2⟩

end Go.Proofs.YtgnooffedmeenaaGreatDoor.M.L

namespace Go.Proofs.YtgnooffedmeenaaGreatDoor.M.L
open Go.RowKit W

def labK (p : I.Im) (k j : Nat) (x y : Int) : Option Nat :=
 if 0 ≤ x ∧ 0 ≤ y then (if x.toNat < k then lbN p x.toNat y.toNat else if x.toNat = k then (p.fn[k]?).bind fun f => ((tgs f.bd).take j).findIdx? fun i => decide (i = y.toNat) else none) else none
theorem labK_zero (p : I.Im) (x y : Int) : labK p 0 0 x y = none := by
 unfold labK
 split
 ·rw [if_neg (by omega)]
  split
  ·cases p.fn[0]? <;> rfl
  ·rfl
 ·rfl
theorem labK_next {p : I.Im} {k : Nat} {f : F.Fu} (hf : p.fn[k]? = some f) (x y : Int) : labK p k (tgs f.bd).length x y = labK p (k + 1) 0 x y := by
 unfold labK
 by_cases h0 : 0 ≤ x ∧ 0 ≤ y
 ·rw [if_pos h0, if_pos h0]
  by_cases h1 : x.toNat < k
  ·rw [if_pos h1, if_pos (by omega)]
  ·rw [if_neg h1]
   by_cases h2 : x.toNat = k
   ·rw [if_pos h2, if_pos (by omega), hf, h2]
    show List.findIdx? _ ((tgs f.bd).take (tgs f.bd).length) = lbN p k y.toNat
    rw [List.take_length]
    unfold lbN
    rw [hf]
    rfl
   ·rw [if_neg h2, if_neg (by omega)]
    by_cases h3 : x.toNat = k + 1
    ·rw [if_pos h3]
     cases p.fn[k + 1]? <;> rfl
    ·rw [if_neg h3]
 ·rw [if_neg h0, if_neg h0]
theorem labK_all (p : I.Im) (x y : Int) : labK p p.fn.length 0 x y = labF p x y := by
 unfold labK labF
 by_cases h0 : 0 ≤ x ∧ 0 ≤ y
 ·rw [if_pos h0, if_pos h0]
  by_cases h1 : x.toNat < p.fn.length
  ·rw [if_pos h1]
  ·rw [if_neg h1]
   have h2 : lbN p x.toNat y.toNat = none := by
    unfold lbN
    rw [List.getElem?_eq_none (by omega)]
    rfl
   rw [h2]
   split
   ·rw [List.getElem?_eq_none (by omega)]; rfl
   ·rfl
 ·rw [if_neg h0, if_neg h0]
theorem labK_put {p : I.Im} {k j t : Nat} {f : F.Fu} (hf : p.fn[k]? = some f) (hj : (tgs f.bd)[j]? = some t) (x y : Int) : labK p k (j + 1) x y = setP (labK p k j) (k : Int) (t : Int) j x y := by
 obtain ⟨hl, ht⟩ := List.getElem?_eq_some_iff.1 hj
 unfold setP labK
 by_cases h0 : 0 ≤ x ∧ 0 ≤ y
 ·rw [if_pos h0, if_pos h0]
  by_cases h1 : x.toNat < k
  ·rw [if_pos h1, if_pos h1, if_neg (by omega)]
  ·rw [if_neg h1, if_neg h1]
   by_cases h2 : x.toNat = k
   ·rw [if_pos h2, if_pos h2, hf]
    show List.findIdx? _ ((tgs f.bd).take (j + 1)) = if _ then _ else List.findIdx? _ ((tgs f.bd).take j)
    have hno : ((tgs f.bd).take j).findIdx? (fun i => decide (i = t)) = none := by
     rw [List.findIdx?_eq_none_iff]
     intro i hi
     refine decide_eq_false fun e => ?_
     subst e
     obtain ⟨q, hq, e2⟩ := List.getElem_of_mem hi
     have hq2 : q < j := by simp at hq; omega
     rw [List.getElem_take] at e2
     exact (List.pairwise_iff_getElem.1 (tgs_nodup f.bd)) q j (by omega) hl hq2 (e2.trans ht.symm)
    rw [List.take_succ_eq_append_getElem hl, List.findIdx?_append, ht]
    by_cases h3 : y = (t : Int)
    ·rw [if_pos ⟨by omega, h3⟩]
     have h4 : y.toNat = t := by omega
     rw [h4, hno]
     have : ((tgs f.bd).take j).length = j := by simp; omega
     simp [this]
    ·rw [if_neg (fun h => h3 h.2)]
     have h4 : ¬ t = y.toNat := by omega
     simp [h4]
   ·rw [if_neg h2, if_neg h2, if_neg (by omega)]
 ·rw [if_neg h0, if_neg h0, if_neg (by omega)]
theorem ivs_map_at {l : List Nat} {w : World} {A : Option Addr} (h : Rd w A (ivs (l.map fun i => ((i : Nat) : Int)))) (h0 : 0 < l.length) : ∃ g off, A = some ⟨g, off, none⟩ ∧ ∀ (i : Nat) (hi : i < l.length), w.cell? ⟨g, off + i, none⟩ = some (.int .i64 (l[i] : Int)) := by
 obtain ⟨g, off, e, hc⟩ := rdI_at h (by simpa using h0)
 exact ⟨g, off, e, fun i hi => by have := hc i (by simpa using hi); rwa [List.getElem_map] at this⟩

set_option maxRecDepth 100000 in
set_option maxHeartbeats 8000000 in
theorem labelsOf_any (v : I.IV) (es : List I.SE) (fs : List I.FE) (w : World) (h : I.ImAt w v es fs) (hp : ImOk (I.imOf es fs) ∨ fs = []) :
  Calls Tryz.prog 76 #[v.val] w fun e w' => ∃ b n, e = .returned (.map (some b)) ∧ PM b n (labF (I.imOf es fs)) w' ∧ w.heap.size ≤ b ∧ Keep NoB w w' := by
 have hB := Blk.new w 25 v.cells
 have k0 := (Keep.refl NoB w).alloc (.cells v.cells 25)
 have kM := k0.alloc (.map #[] 0)
 have hM := PMap.new Tryz.prog 82 3 (w.alloc (.cells v.cells 25))
 have hBM := hB.alloc (.map #[] 0)
 have HI := Lib.hid (fun W (hk : Keep NoB w W) => h.keepN hk)
 have hly := h.ly
 have hpn : (I.imOf es fs).fn = fs.map fun e => e.2 := rfl
 have hn64 : fs.length ≤ 64 := by
  rcases hp with hp | hp
  ·have := hp.nf; rw [hpn, List.length_map] at this; exact this
  ·subst hp; exact Nat.zero_le _
 have HPf : Hid (∀ (k : Nat) (hk : k < fs.length), (I.imOf es fs).fn[k]? = some fs[k].2 ∧ tgI fs[k].2.bd = (tgs fs[k].2.bd).map (fun i => ((i : Nat) : Int)) ∧ (tgs fs[k].2.bd).length ≤ 512 ∧ fs[k].2.bd.length ≤ 512 ∧ ∀ t ∈ tgs fs[k].2.bd, t < 512) := by
  intro k hk
  rcases hp with hp | hp
  ·have hf : (I.imOf es fs).fn[k]? = some fs[k].2 := by rw [hpn, List.getElem?_map, List.getElem?_eq_getElem hk]; rfl
   obtain ⟨h1, _⟩ := hp.fn hf
   obtain ⟨_, _, b3, b4⟩ := ok_body h1
   refine ⟨hf, tgI_eq b4, Nat.le_trans (tgs_len _) b3, b3, fun t ht => ?_⟩
   have := (tgs_mem.1 ht).1
   omega
  ·subst hp; exact absurd hk (Nat.not_lt_zero _)
 have HZ : Hid (∀ (b n : Nat) W, PM b n (labK (I.imOf es fs) fs.length 0) W → PM b n (labF (I.imOf es fs)) W) := fun b n W hm => hm.congr fun x y => by
  rw [← labK_all, hpn, List.length_map]
 have HNx : Hid (∀ (k : Nat) (hk : k < fs.length) (b n : Nat) W, PM b n (labK (I.imOf es fs) k (tgs fs[k].2.bd).length) W → PM b n (labK (I.imOf es fs) (k + 1) 0) W) := fun k hk b n W hm => hm.congr fun x y => (labK_next (HPf.out k hk).1 x y).symm
 have HPt : Hid (∀ (k : Nat) (hk : k < fs.length) (j t : Nat), (tgs fs[k].2.bd)[j]? = some t → ∀ (b n : Nat) W, PM b n (setP (labK (I.imOf es fs) k j) (k : Int) (t : Int) j) W → PM b n (labK (I.imOf es fs) k (j + 1)) W) := fun k hk j t hj b n W hm => hm.congr fun x y => labK_put (HPf.out k hk).1 hj x y
 have H0 : Hid (PM (w.heap.size + 1) 0 (labK (I.imOf es fs) 0 0) ((w.alloc (.cells v.cells 25)).alloc (.map #[] 0))) := by
  rw [World.size_alloc] at hM
  exact hM.congr fun x y => labK_zero _ x y
 clear hM h hp hB hpn
 obtain ⟨X, nx, cx, Y, ny, cy⟩ := v
 dsimp only [I.IV.val, I.IV.cells] at *
 have p1 := hBM.cell 1
 simp only [List.getElem?_toArray, List.getElem?_cons_zero, List.getElem?_cons_succ] at p1
 have HLY := Lib.hid hly
 rw [hly] at hn64
 obtain ⟨i0, hi, hz0, hz1, hz2⟩ := info_parts int_info
 have hmm := @run_makeMap Tryz.prog
 clear hly k0 i0 hi hz0 hz1 hz2
 go_enter Tryz.func76, Tryz.ntmps76
 go_wp2
 generalize hW1 : (w.alloc (.cells #[.slice X nx cx, .slice Y ny cy] 25)).alloc (.map #[] 0) = W1 at *
 clear hW1 p1 hBM hmm
 go_loopw [12] (fun i wr => ∃ k N : Nat, k ≤ ny ∧ i = .int .i64 (k : Int) ∧ N ≤ 513 * k ∧ Hid (PM (w.heap.size + 1) N (labK (I.imOf es fs) k 0) wr) ∧ Keep NoB w wr) (fun i _ => ny - (intOf i).toNat)
 case atStart => exact ⟨0, 0, Nat.zero_le _, rfl, Nat.zero_le _, H0, kM⟩
 case round =>
  obtain ⟨k, N, hk, rfl, hN, HM, hK⟩ := hrel
  by_cases hlt : k < ny
  ·have hkf : k < fs.length := by rw [HLY.out]; exact hlt
   have hI := HI.out _ hK
   obtain ⟨g, off, hY, f0, f1, f2, f3, f4⟩ := I.fun_at hI.ry hkf
   have hF := hI.hf _ (List.getElem_mem hkf)
   obtain ⟨_, hT, hm5, hb5, ht5⟩ := HPf.out k hkf
   have HPt2 := Lib.hid (HPt.out k hkf)
   have HNx2 := Lib.hid (HNx.out k hkf)
   have hr := hF.rd
   have hl := hF.ld
   clear hI hF
   generalize fs[k] = fe at *
   obtain ⟨⟨S, A, na, ca, B, nb, cb, Lc, nl, cl, D, nd, cd⟩, f⟩ := fe
   dsimp only at *
   subst hY
   have hnd : nd ≤ 9000000000000 := by omega
   have h7 := Blk.new wr 37 #[.string S, .slice A na ca, .slice B nb cb, .slice Lc nl cl, .slice D nd cd]
   have k7 := (Keep.refl NoB wr).alloc (.cells #[.string S, .slice A na ca, .slice B nb cb, .slice Lc nl cl, .slice D nd cd] 37)
   have c4 := h7.cell 4
   simp only [List.getElem?_toArray, List.getElem?_cons_zero, List.getElem?_cons_succ] at c4
   have HT := Lib.hid (targets_any D f.bd nd cd _ (hr.keepN k7) (Lib.hid hl) hnd)
   have HM7 : Hid (PM (w.heap.size + 1) N (labK (I.imOf es fs) k 0) _) := HM.out.keep k7 id
   have hK7 := keepN hK k7
   rw [hT, List.length_map] at HT
   generalize hts : tgs f.bd = ts at *
   have hbl := HM.out.lt
   clear h7 k7 hr hl hT hts hK HM
   go_wp2_with fail
   refine HT.out.mono ?_
   clear HT f0 f1 f2 f3 f4 c4
   rintro e W8 ⟨B8, d8, rfl, hO, k8⟩
   have hK8 := keepN hK7 k8
   have HM8 : Hid (PM (w.heap.size + 1) N (labK (I.imOf es fs) k 0) W8) := HM7.out.keep k8 id
   obtain ⟨A', c', e', _, _, hrd, hob⟩ := hO.form
   injection e' with e1 _ e2
   subst e1 e2
   have HR8 := Lib.hid (And.intro hrd (fun (ad : Addr) (e : B8 = some ad) => (show ad.block ≠ w.heap.size + 1 from by have h1 : _ ≤ ad.block := (hob _ e).1; rw [World.size_alloc] at h1; omega)))
   obtain ⟨m, hm⟩ : ∃ m, ts.length = m := ⟨_, rfl⟩
   rw [hm] at hm5 ⊢
   have HMm := Lib.hid hm
   clear hO hob hrd hK7 k8 HM7 hm hbl
   go_wp2
   go_loopw [21] (fun i wr2 => ∃ j N2 : Nat, j ≤ m ∧ i = .int .i64 (j : Int) ∧ N2 ≤ 513 * k + j ∧ Hid (PM (w.heap.size + 1) N2 (labK (I.imOf es fs) k j) wr2) ∧ Keep NoB w wr2 ∧ Hid (Rd wr2 B8 (ivs (ts.map fun i => ((i : Nat) : Int))) ∧ ∀ ad : Addr, B8 = some ad → ad.block ≠ w.heap.size + 1)) (fun i _ => m - (intOf i).toNat)
   case atStart => exact ⟨0, N, Nat.zero_le _, rfl, hN, HM8, hK8, HR8⟩
   case round =>
    obtain ⟨j, N2, hj, rfl, hN2, HM2, hK2, HR2⟩ := hrel
    by_cases hlt2 : j < m
    ·have hjl : j < ts.length := by rw [HMm.out]; exact hlt2
     obtain ⟨g2, off2, hB2, hc⟩ := ivs_map_at HR2.out.1 (by omega)
     have cj := hc j hjl
     have hne := HR2.out.2 _ hB2
     have htb := ht5 _ (List.getElem_mem hjl)
     have HPj := Lib.hid (HPt2.out j _ (List.getElem?_eq_getElem hjl))
     clear hc
     generalize ts[j] = t at *
     obtain ⟨wu, hrun, hpm, hgr⟩ := pm_put HM2.out (by unfold maxLen; omega) k t j (by omega) (by omega) (by omega)
     have HM3 := Lib.hid (HPj.out _ _ _ hpm)
     have hKu : Keep (fun q => q = w.heap.size + 1) wr wu := (Keep.refl _ _).grown hgr (fun g e _ => by injection e with e; exact e.symm)
     have hK3 : Keep NoB w wu := hK2.trans hKu (fun q hq hl => by omega)
     have HR3 : Hid (Rd wu B8 (ivs (ts.map fun i => ((i : Nat) : Int))) ∧ ∀ ad : Addr, B8 = some ad → ad.block ≠ w.heap.size + 1) := ⟨HR2.out.1.keep hKu (fun ad e hq => HR2.out.2 ad e hq), HR2.out.2⟩
     have hB2' := hB2
     subst hB2'
     clear hpm hgr hKu hK2 HR2 HM2 hne HPj hB2
     go_wp2
     go_roundw
     case rel => exact ⟨j + 1, N2 + 1, by omega, by go_num, by omega, HM3, hK3, HR3⟩
     case measure => simp [intOf]; omega
    ·obtain rfl : j = m := by omega
     have HMf : Hid (PM (w.heap.size + 1) N2 (labK (I.imOf es fs) (k + 1) 0) wr) := HNx2.out _ _ _ (by rw [HMm.out]; exact HM2.out)
     clear HM2 HR2 HR8 HM8
     go_wp2
     go_roundw
     case rel => exact ⟨k + 1, N2, by omega, by go_num, by omega, HMf, hK2⟩
     case measure => simp [intOf]; omega
  ·obtain rfl : k = ny := by omega
   have HMf : Hid (PM (w.heap.size + 1) N (labF (I.imOf es fs)) wr) := HZ.out _ _ _ (by rw [HLY.out]; exact HM.out)
   clear HM
   go_wp2
   go_ret
   exact ⟨_, _, rfl, HMf.out, by omega, hK⟩

end Go.Proofs.YtgnooffedmeenaaGreatDoor.M.L
