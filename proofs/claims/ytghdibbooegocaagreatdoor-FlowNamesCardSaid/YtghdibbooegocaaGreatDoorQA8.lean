/-
  Part 8 of the proofs of GLoopsRow, GReachRow, GMustRow, GNamesRow: what is laid, and what the functions that the law runs answer. Conditions: each theorem names its own.
-/
import Derived.Deep.DeepFit
import Derived.Laws.OwnMore
import Derived.Lib.Strings
import Derived.StillTailTactics
import Derived.Test.YtghdibbooegocaaGreatDoorQA7
namespace Go.Proofs.YtghdibbooegocaaGreatDoor.G
open Go.RowKit Go.Shelf W
attribute [local go_sem] Oper.semAt_some

theorem keep_putD (W : World) (D : Nat) (o : Obj) : Keep (fun k => k = D) W (W.putObj D o) := (Keep.refl _ W).grown (grownBy_putObj' W D o) (fun g e _ => by cases e; rfl)
def ReachedR (n : Nat) (s : Nat → List Nat) (w : World) (e : Ending) (w' : World) : Prop :=
 ∃ met b, e = .returned (.map (some b)) ∧ OMapS Tryz.prog 3 3 b met.length (lookN met) w' ∧ w.heap.size ≤ b ∧ Keep NoB w w' ∧ ((n = 0 ∧ met = []) ∨ (n ≠ 0 ∧ AllN s (fun _ => true) 0 met))
structure RchI (w : World) (m bx : Nat) (pre : List (Nat × Nat)) (p : BSet) (W : World) : Prop where
 p : p = fun k => k = m
 kp : Keep NoB w W
 map : OMapS Tryz.prog 3 3 m pre.length (lookN pre) W
 bx : Blk W bx 51 #[.map (some m)]
theorem rch_out (w : World) (m bx B : Nat) (hm : m < B) (hb : bx < B) (hw : w.heap.size ≤ B) : KeepsOutF B (RchI w m bx) := by
 rintro pre p W W' h hs
 exact ⟨h.p, h.kp.trans hs.keep (fun k hk hl => by omega), h.map.keep hs.keep (fun hk => by omega), h.bx.keep hs.keep (fun hk => by omega)⟩

set_option maxRecDepth 100000 in
set_option maxHeartbeats 8000000 in
theorem reached_any (A : Option Addr) (T : BSet) (Bf : Nat → Option Addr) (cf : Nat → Nat) (n c : Nat) (s : Nat → List Nat) (w : World) (hst : StAt T A Bf cf n s w) (hn : n ≤ 1000) (hs : Hid (∀ i a, i < n → a ∈ s i → a < n)) (hsl : Hid (∀ i, i < n → (s i).length ≤ 2)) :
  Calls Tryz.prog 34 #[.slice A n c] w (ReachedR n s w) := by
 have hmm := @run_makeMap Tryz.prog
 have HS := Lib.hid hst.here
 clear hst
 refine (callsIn_wide (n := 4)).1 ?_
 refine callsIn_of_wp_marks Tryz.func34 rfl trivial ?_ rfl
 simp only [Tryz.ntmps34, List.size_toArray, List.length_cons, List.length_nil, Nat.reduceAdd, Nat.reduceSub, Array.replicate_succ, Array.replicate_zero, List.push_toArray, List.append_toArray, List.nil_append, List.cons_append]
 have hM0 : OMapS Tryz.prog 3 3 w.heap.size 0 (lookN []) ((w.alloc (.map #[] 0)).alloc (.cells #[.map (some w.heap.size)] 51)) := ((OMapS.new Tryz.prog 3 3 w).keep ((Keep.refl NoB _).alloc _) id).congr fun _ => rfl
 have hB0 : Blk ((w.alloc (.map #[] 0)).alloc (.cells #[.map (some w.heap.size)] 51)) (w.heap.size + 1) 51 #[.map (some w.heap.size)] := by have := Blk.new (w.alloc (.map #[] 0)) 51 #[.map (some w.heap.size)]; simpa [World.size_alloc] using this
 have hk0 : Keep NoB w ((w.alloc (.map #[] 0)).alloc (.cells #[.map (some w.heap.size)] 51)) := ((Keep.refl NoB w).alloc _).alloc _
 have hz0 : ((w.alloc (.map #[] 0)).alloc (.cells #[.map (some w.heap.size)] 51)).heap.size = w.heap.size + 1 + 1 := by simp [World.size_alloc]
 gi_wp2
 generalize (w.alloc (.map #[] 0)).alloc (.cells #[.map (some w.heap.size)] 51) = W0 at *
 refine ⟨trivial, (callsIn_wide.2 (nearest_any A n c 0 51 #[] W0)).mono ?_⟩
 rintro e W1 ⟨rfl, hz1, k1, bf, bs, bo⟩
 have hH0 : NrH w.heap.size 0 A Bf cf n c s 51 #[] (W0.heap.size + 1) W0.heap.size (W0.heap.size + 1 + 1) W1 := ⟨bf, bs, bo, HS.out.keepN (keepN hk0 k1)⟩
 have hstp := Lib.hid (near_stops 2 3 0 n c 51 (W0.heap.size + 1) W0.heap.size (W0.heap.size + 1 + 1) A Bf cf s (fun _ => true) #[] hn (fun h => by omega) (by omega) hs hsl
  (NrH w.heap.size 0 A Bf cf n c s 51 #[] (W0.heap.size + 1) W0.heap.size (W0.heap.size + 1 + 1)) (fun _ _ => True) (fun W h => h.nr) (enters_of Tryz.func51 rfl rfl) (fun _ W q _ _ _ => anywhere_any q W))
 have hi0 : RchI w w.heap.size (w.heap.size + 1) [] (fun k => k = w.heap.size) W1 := ⟨rfl, keepN hk0 k1, hM0.keep k1 id, hB0.keep k1 id⟩
 have hHs : ∀ (O : Nat → Prop) (W2 W3 : World), (∀ k, O k → (k = w.heap.size) ∨ W1.heap.size ≤ k) → NrH w.heap.size 0 A Bf cf n c s 51 #[] (W0.heap.size + 1) W0.heap.size (W0.heap.size + 1 + 1) W2 → Keep O W2 W3 → NrH w.heap.size 0 A Bf cf n c s 51 #[] (W0.heap.size + 1) W0.heap.size (W0.heap.size + 1 + 1) W3 :=
  fun O W2 W3 hO h hk => h.keep hk (fun k hk h => by have := hO k h; omega) (fun h => by have := hO _ h; omega) (fun h => by have := hO _ h; omega) (fun h => by have := hO _ h; omega)
 have hp0 : ∀ k, (k = w.heap.size) → k < W1.heap.size := fun k hk => by omega
 have HZ := Lib.hid (And.intro hz0 hz1)
 clear bf bs bo k1 hk0 hM0 hB0 HS hmm hz0 hz1
 gi_wp2_with fail
 obtain ⟨hz0, hz1⟩ := HZ.out
 refine wpIn_rangeFunc_F (m := 2) (gf := 64) (lb := #[.pointer (some ⟨W0.heap.size + 1, 0, none⟩), .pointer (some ⟨W0.heap.size, 0, none⟩), .pointer (some ⟨W0.heap.size + 1 + 1, 0, none⟩)]) rfl (enters_of Tryz.func64 rfl rfl)
  hstp.out (fun _ => rfl) (RchI w w.heap.size (w.heap.size + 1)) (fun _ _ _ _ => False) (rch_out w _ _ _ (by omega) (by omega) (by omega)) (fun pre q W h k hk => by rw [h.p] at hk; subst hk; exact h.map.omap.lt) (fun _ _ _ _ => trivial) (fun _ _ _ _ _ h _ => h) hi0 hp0 hH0 hHs
  (fun pre x q a' W => RchI w w.heap.size (w.heap.size + 1) pre q W ∧ a' = { tmps := #[.slice A n c, undef, .map none, .pointer (some ⟨w.heap.size + 1, 0, none⟩), .int .i64 (x.1 : Int), .int .i64 (x.2 : Int), .map (some w.heap.size), .slice A n c, .func (.func 64) #[] #[.pointer (some ⟨W0.heap.size + 1, 0, none⟩), .pointer (some ⟨W0.heap.size, 0, none⟩), .pointer (some ⟨W0.heap.size + 1 + 1, 0, none⟩)], .int .i64 (x.1 : Int), .int .i64 (x.2 : Int), undef, undef, undef, undef], defers := [] }) ?hax ?assign ?body ?done ?stop
 case hax =>
  rintro pre x a' u q W W' ⟨g1, g4⟩ hs
  exact ⟨rch_out w _ _ _ (by omega) (by omega) (by omega) _ _ _ _ g1 hs, g4⟩
 case assign =>
  rintro l pre x q W hI hen
  have HI := Lib.hid hI
  clear hI hi0 hp0 hH0 hHs hstp hz0 hz1
  gi_wp2
  exact ⟨q, Rnd.refl _ _, HI.out, trivial⟩
 case body =>
  rintro l pre x q a' W hen ⟨g1, rfl⟩
  obtain ⟨hxm, hx1, hx2, hpl⟩ := hen.new hs.out
  obtain ⟨W4, hup, hM4, hg4⟩ := g1.map.update (t := 51) Tryz.underlying51 Tryz.underlying3 Tryz.underlying3 (by unfold maxLen; omega) (x.1 : Int) x.2 (look_nat.2 hxm) (wfN (by omega)) (wfN (by omega))
  have c0 := g1.bx.cell 0
  simp only [List.getElem?_toArray, List.getElem?_cons_zero] at c0
  have hq := g1.p
  have hfin : Hid (∃ p', Rnd q p' W W4 ∧ RchI w w.heap.size (w.heap.size + 1) (pre ++ [x]) p' W4) := by
   subst hq
   have hkm : Keep (fun k => k = w.heap.size) W W4 := (Keep.refl _ W).grown hg4 (fun g e _ => by cases e; rfl)
   refine ⟨_, Rnd.of_keep hkm, rfl, g1.kp.trans hkm (fun k hk hl => by omega), ?_, g1.bx.keep hkm (by omega)⟩
   rw [List.length_append, List.length_singleton]
   exact hM4.congr fun y => by have := putO_look (p := x.2) hxm y; exact this
  clear g1 hM4 hg4 hi0 hp0 hH0 hHs hstp hq hz0 hz1
  gi_wp2
  exact hfin.out
 case done =>
  rintro D xs q W hD hpD hS g1 hK
  have c0 := g1.bx.cell 0
  simp only [List.getElem?_toArray, List.getElem?_cons_zero] at c0
  have HF := Lib.hid (And.intro g1.map (And.intro g1.kp hS))
  rename_i K2 aK
  refine aK _ _ ?_
  clear g1 hi0 hp0 hH0 hHs hstp hS
  gi_wp2
  refine ⟨by simp, .inl ⟨_, _, rfl, run_takeDeferred hK, ?_⟩⟩
  refine ⟨.map (some w.heap.size), by simp [results, Tryz.results34, go_sem], ?_⟩
  have hkD : Keep (fun k => k = D) W (W.putObj D (.deferred none)) := keep_putD W D _
  exact ⟨xs, w.heap.size, rfl, HF.out.1.keep hkD (fun h => by omega), Nat.le_refl _, HF.out.2.1.trans hkD (fun k hk hl => by omega), HF.out.2.2⟩
 case stop =>
  rintro D c pre q W hD hpD _ h
  exact h.elim
end Go.Proofs.YtghdibbooegocaaGreatDoor.G

namespace Go.Proofs.YtghdibbooegocaaGreatDoor
open Go.RowKit Go.Shelf

def markOf (D : Nat) : Deferred := { target := .collected D, args := #[] }
def Marks (w : World) (W : World) (Ds : List Nat) : Prop := Ds.Nodup ∧ ∀ D ∈ Ds, w.heap.size ≤ D ∧ W.heap[D]? = some (.deferred (some []))
theorem Marks.nil (w W : World) : Marks w W [] := ⟨List.nodup_nil, fun _ h => by simp at h⟩
theorem Marks.keep {O : Nat → Prop} {w W W' : World} {Ds : List Nat} (h : Marks w W Ds) (hk : Keep O W W') (hO : ∀ D ∈ Ds, ¬ O D) : Marks w W' Ds := ⟨h.1, fun D hD => ⟨(h.2 D hD).1, (hk.block D (Array.getElem?_eq_some_iff.1 (h.2 D hD).2).1 (hO D hD)).trans (h.2 D hD).2⟩⟩
theorem Marks.lt {w W : World} {Ds : List Nat} (h : Marks w W Ds) {D : Nat} (hD : D ∈ Ds) : D < W.heap.size := (Array.getElem?_eq_some_iff.1 (h.2 D hD).2).1
theorem Marks.cons {w W : World} {Ds : List Nat} {D : Nat} (h : Marks w W Ds) (hn : D ∉ Ds) (hw : w.heap.size ≤ D) (hD : W.heap[D]? = some (.deferred (some []))) : Marks w W (D :: Ds) :=
 ⟨List.nodup_cons.2 ⟨hn, h.1⟩, fun E hE => by
  rcases List.mem_cons.1 hE with rfl | hE
  ·exact ⟨hw, hD⟩
  ·exact h.2 E hE⟩
theorem leaves_marks {F : Fence} {n : Nat} {P : Program} {fn : Func} {tmps : Array Value} {R : Ending → World → Prop} {w : World} (T : World → Prop) (hT : ∀ (D : Nat) W, w.heap.size ≤ D → W.heap[D]? = some (.deferred (some [])) → T W → T (W.putObj D (.deferred none)))
  (hR : ∀ W, T W → LeavesIn F n P fn tmps R [] .returning W) : ∀ (Ds : List Nat) (W : World), Marks w W Ds → T W → LeavesInM F n P fn tmps R (Ds.map markOf) .returning W
 | [], W, _, h => hR W h
 | D :: Ds, W, hm, h => by
  have hD := hm.2 D (by simp)
  have hn := List.nodup_cons.1 hm.1
  refine ⟨by simp, .inl ⟨D, _, rfl, run_takeDeferred hD.2, leaves_marks T hT hR Ds _ ⟨hn.2, fun E hE => ?_⟩ (hT D W hD.1 hD.2 h)⟩⟩
  have hE' := hm.2 E (by simp [hE])
  exact ⟨hE'.1, (World.putObj_heap_other (by rintro rfl; exact hn.1 hE)).trans hE'.2⟩
end Go.Proofs.YtghdibbooegocaaGreatDoor

namespace Go.Proofs.YtghdibbooegocaaGreatDoor.G
open Go.RowKit Go.Shelf W

def wm (wl VL : List Nat) : List (Nat × Nat) := wl.zipIdx ++ VL.map fun y => (y, 0)
section
variable {wl VL : List Nat}
theorem keys_wm : keysN (wm wl VL) = wl ++ VL := by
 unfold wm
 rw [keys_append, zip_keys]
 unfold keysN
 rw [List.map_map, show ((fun x : Nat × Nat => x.1) ∘ fun y => (y, 0)) = id from rfl, List.map_id]
theorem wm_snoc (y : Nat) : wm wl (VL ++ [y]) = wm wl VL ++ [(y, 0)] := by unfold wm; rw [List.map_append, List.append_assoc]; rfl
theorem wm_nil : wm wl [] = wl.zipIdx := by unfold wm; simp
theorem look_wm (y : Nat) : (lookN (wm wl VL) (y : Int)).getD 0 = posL wl y := by
 unfold posL wm lookN
 rw [List.find?_append]
 cases hf : wl.zipIdx.find? fun e => decide ((e.1 : Int) = (y : Int)) with
 | some e => rfl
 | none =>
  show (Option.map _ (List.find? _ (VL.map _))).getD 0 = 0
  cases hg : (VL.map fun y => (y, 0)).find? fun e => decide ((e.1 : Int) = (y : Int)) with
  | none => rfl
  | some e =>
   obtain ⟨z, _, rfl⟩ := List.mem_map.1 (List.mem_of_find?_eq_some hg)
   rfl
theorem some_wm (y : Nat) : (lookN (wm wl VL) (y : Int)).isSome = decide (y ∈ wl ∨ y ∈ VL) := by
 by_cases h : y ∈ wl ∨ y ∈ VL
 ·rw [decide_eq_true h]
  cases hl : lookN (wm wl VL) (y : Int) with
  | some _ => rfl
  | none =>
   have := look_nat.1 hl
   rw [keys_wm, List.mem_append] at this
   exact absurd h this
 ·rw [decide_eq_false h, look_nat.2 (by rw [keys_wm, List.mem_append]; exact h)]
  rfl
def vl (wl VL : List Nat) (pre : List (Nat × Nat)) : List Nat := VL ++ (keysN pre).filter fun y => decide (y ∉ wl)
theorem vl_nil : vl wl VL [] = VL := by unfold vl; simp [keysN]
theorem vl_in {pre : List (Nat × Nat)} {x : Nat × Nat} (h : x.1 ∈ wl) : vl wl VL (pre ++ [x]) = vl wl VL pre := by
 unfold vl
 rw [keys_append, List.filter_append]
 simp [keysN, h]
theorem vl_out {pre : List (Nat × Nat)} {x : Nat × Nat} (h : x.1 ∉ wl) : vl wl VL (pre ++ [x]) = vl wl VL pre ++ [x.1] := by
 unfold vl
 rw [keys_append, List.filter_append, List.append_assoc]
 simp [keysN, h]
theorem vl_mem {pre : List (Nat × Nat)} {y : Nat} : y ∈ vl wl VL pre ↔ y ∈ VL ∨ (y ∈ keysN pre ∧ y ∉ wl) := by
 unfold vl
 rw [List.mem_append, List.mem_filter, decide_eq_true_iff]
end
theorem Near.opens {s : Nat → List Nat} {op : Nat → Bool} {fr k : Nat} {met : List (Nat × Nat)} (h : Near s op fr k met) {y : Nat} (hy : y ∈ keysN met) : y = fr ∨ op y = true := by
 obtain ⟨l, hw, hl⟩ := h.way y hy
 exact hl y hw.mem

structure NwI (w : World) (A : Option Addr) (n c b8 b16 : Nat) (wl VL : List Nat) (far : Nat) (v : Value) (L Ds : List Nat) (W : World) : Prop where
 kp : Keep NoB w W
 k2 : Blk W w.heap.size 49 #[.slice A n c]
 k5 : Blk W (w.heap.size + 1 + 1) 51 #[.map (some b16)]
 k8 : Blk W b8 59 #[.func (.func 56) #[] #[.pointer (some ⟨w.heap.size + 1 + 1, 0, none⟩)]]
 k10 : Blk W (b8 + 1) 3 #[.int .i64 (far : Int)]
 map : OMapS Tryz.prog 3 3 b16 (wm wl VL).length (lookN (wm wl VL)) W
 own : Own W 3 1 (fun k => b8 + 1 < k) v L.length (ivs (nz L))
 marks : Marks w W Ds
 nd : (wl ++ VL).Nodup
 lt : ∀ y ∈ wl ++ VL, y < n
 b : w.heap.size + 1 + 1 < b8
 b6 : w.heap.size ≤ b16
section
variable {w : World} {A : Option Addr} {n c b8 b16 far : Nat} {wl VL : List Nat} {v : Value} {L Ds : List Nat} {W W' : World}
theorem NwI.keep {O : BSet} (h : NwI w A n c b8 b16 wl VL far v L Ds W) (hk : Keep O W W') (h0 : ∀ k, k ≤ b8 + 1 → ¬ O k) (h1 : ¬ O b16) (h2 : ∀ g, v.ownBlock = some g → ¬ O g) (h3 : ∀ D ∈ Ds, ¬ O D) : NwI w A n c b8 b16 wl VL far v L Ds W' :=
 have hb := h.b
 ⟨h.kp.trans hk (fun k hk hl => absurd hk (h0 k (by omega))), h.k2.keep hk (h0 _ (by omega)), h.k5.keep hk (h0 _ (by omega)), h.k8.keep hk (h0 _ (by omega)), h.k10.keep hk (h0 _ (by omega)), h.map.keep hk h1,
  ⟨ownsRow_keep h.own.1 hk h2, h.own.2⟩, h.marks.keep hk h3, h.nd, h.lt, hb, h.b6⟩
theorem NwI.keepN (h : NwI w A n c b8 b16 wl VL far v L Ds W) (hk : Keep NoB W W') : NwI w A n c b8 b16 wl VL far v L Ds W' := h.keep hk (fun _ _ => id) id (fun _ _ => id) (fun _ _ => id)
theorem NwI.len (h : NwI w A n c b8 b16 wl VL far v L Ds W) : (wm wl VL).length ≤ n := by
 have h1 := nodup_len n _ h.nd h.lt
 have : (wm wl VL).length = (keysN (wm wl VL)).length := by unfold keysN; rw [List.length_map]
 rw [this, keys_wm]
 exact h1
structure NwA (w : World) (b8 b16 : Nat) (v : Value) (Ds : List Nat) (W : World) : Prop where
 m0 : b16 ≠ w.heap.size
 m5 : b16 ≠ w.heap.size + 1 + 1
 m8 : b16 ≠ b8
 m10 : b16 ≠ b8 + 1
 mv : ∀ g, v.ownBlock = some g → g ≠ b16 ∧ b8 + 1 < g ∧ g < W.heap.size
 md : b16 ∉ Ds
 dk : ∀ D ∈ Ds, D ≠ b8 + 1 ∧ D < W.heap.size ∧ v.ownBlock ≠ some D
 ml : b16 < W.heap.size
 bl : b8 + 1 < W.heap.size
theorem map_ne {P : Program} {k e : TypeId} {b m g : Nat} {f : Int → Option Nat} {W : World} {t : TypeId} {cs : Array Value} (h : OMapS P k e b m f W) (hg : Blk W g t cs) : b ≠ g := by
 obtain ⟨es, cc, hb⟩ := h.omap.obj
 rintro rfl
 have := (show W.heap[_]? = _ from hg).symm.trans hb
 cases this
theorem NwI.apart (h : NwI w A n c b8 b16 wl VL far v L Ds W) : NwA w b8 b16 v Ds W := by
 obtain ⟨es, cc, hb⟩ := h.map.omap.obj
 have hg : ∀ g, v.ownBlock = some g → ∃ cur, W.heap[g]? = some (.cells cur 3 (0, 0)) := fun g hg => by
  rcases h.own.1.2 with ⟨rfl, _⟩ | ⟨g', cap, cur, rfl, _, hh, _⟩
  ·cases hg
  ·cases hg; exact ⟨cur, hh⟩
 refine ⟨map_ne h.map h.k2, map_ne h.map h.k5, map_ne h.map h.k8, map_ne h.map h.k10, fun g e => ?_, fun hD => ?_, fun D hD => ⟨?_, h.marks.lt hD, fun e => ?_⟩, h.map.omap.lt, h.k10.lt⟩
 ·obtain ⟨cur, hcur⟩ := hg g e
  refine ⟨?_, h.own.2 g e, (Array.getElem?_eq_some_iff.1 hcur).1⟩
  rintro rfl
  rw [hb] at hcur; cases hcur
 ·have := (h.marks.2 b16 hD).2
  rw [hb] at this; cases this
 ·rintro rfl
  have := (h.marks.2 _ hD).2
  have := (show W.heap[_]? = _ from h.k10).symm.trans this
  cases this
 ·obtain ⟨cur, hcur⟩ := hg D e
  have := (h.marks.2 _ hD).2
  rw [hcur] at this; cases this
theorem NwI.setFar (h : NwI w A n c b8 b16 wl VL far v L Ds W) (far' : Nat) : NwI w A n c b8 b16 wl VL far' v L Ds (W.setCell ⟨b8 + 1, 0, none⟩ (.int .i64 (far' : Int))) := by
 have ha := h.apart
 have hb := h.b
 have hk := keep_set W (b8 + 1) 0 (.int .i64 (far' : Int))
 have hp := h.k10.put 0 (.int .i64 (far' : Int))
 simp only [List.setIfInBounds_toArray, List.set_cons_zero] at hp
 exact ⟨h.kp.trans hk (fun k hk hl => by omega), h.k2.keep hk (by omega), h.k5.keep hk (by omega), h.k8.keep hk (by omega), hp, h.map.keep hk ha.m10,
  ⟨ownsRow_keep h.own.1 hk (fun g e => by have := (ha.mv g e).2.1; omega), h.own.2⟩, h.marks.keep hk (fun D hD => (ha.dk D hD).1), h.nd, h.lt, hb, h.b6⟩
theorem NwI.more (h : NwI w A n c b8 b16 wl VL far v L Ds W) {y : Nat} (hy : y ∉ wl ++ VL) (hyn : y < n) {W' : World} (hm : OMapS Tryz.prog 3 3 b16 ((wm wl VL).length + 1) (putO (lookN (wm wl VL)) (y : Int) 0) W') (hg : W.grownBy W' (some b16)) : NwI w A n c b8 b16 wl (VL ++ [y]) far v L Ds W' := by
 have ha := h.apart
 have hb6 := h.b6
 have hk : Keep (fun k => k = b16) W W' := (Keep.refl _ W).grown hg (fun g e _ => by cases e; rfl)
 refine ⟨h.kp.trans hk (fun k hk hl => by omega), h.k2.keep hk (Ne.symm ha.m0), h.k5.keep hk (Ne.symm ha.m5), h.k8.keep hk (Ne.symm ha.m8), h.k10.keep hk (Ne.symm ha.m10), ?_,
  ⟨ownsRow_keep h.own.1 hk (fun g e => (ha.mv g e).1), h.own.2⟩, h.marks.keep hk (fun D hD e => ha.md (e ▸ hD)), ?_, fun z hz => ?_, h.b, hb6⟩
 ·rw [wm_snoc, List.length_append, List.length_singleton]
  exact hm.congr fun z => putO_look (by rw [keys_wm]; exact hy) z
 ·rw [← List.append_assoc]
  exact List.nodup_append.2 ⟨h.nd, by simp, fun a ha b hb => by rw [List.mem_singleton] at hb; subst hb; exact fun e => hy (e ▸ ha)⟩
 ·rw [← List.append_assoc] at hz
  rcases List.mem_append.1 hz with hz | hz
  ·exact h.lt z hz
  ·rw [List.mem_singleton.1 hz]; exact hyn
end

theorem around_any (q N b5 b16 : Nat) (g : Int → Option Nat) (w : World) (hq : q < 1000) (hb : Blk w b5 51 #[.map (some b16)]) (hm : OMap Tryz.prog 3 3 b16 N g w) :
  Calls Tryz.prog 56 #[.int .i64 (q : Int), .pointer (some ⟨b5, 0, none⟩)] w fun e w' => e = .returned (.bool (!(g (q : Int)).isSome)) ∧ w' = w := by
 have hlk := hm.look2 (t := 51) Tryz.underlying51 Tryz.underlying3 Tryz.underlying3 (int_zeroG _) (q : Int) (wfN (by omega))
 have c0 := hb.cell 0
 simp only [List.getElem?_toArray, List.getElem?_cons_zero] at c0
 generalize (g (q : Int)).isSome = r at hlk
 generalize (g (q : Int)).getD 0 = u at hlk
 clear hm hb
 go_enter Tryz.func56, Tryz.ntmps56
 go_wp2
 go_ret
 exact ⟨rfl, rfl⟩
end Go.Proofs.YtghdibbooegocaaGreatDoor.G

namespace Go.Proofs.YtghdibbooegocaaGreatDoor.G
open Go.RowKit Go.Shelf W
attribute [local go_sem] Oper.semAt_some

def narA (A : Option Addr) (n c : Nat) (Wa : Option Addr) (m cw : Nat) (w : World) (b8 i : Nat) (v : Value) (Ds : List Nat) (j6 j7 j11 j12 j17 j18 j19 j20 j21 j22 j23 j24 j25 j26 j27 j32 j33 j34 j35 j36 j37 j38 j39 j40 j41 j42 j43 j44 j45 j46 j69 : Value) : Act :=
 { tmps := #[.slice A n c, .slice Wa m cw, .pointer (some ⟨w.heap.size, 0, none⟩), undef, .slice none 0 0, .pointer (some ⟨w.heap.size + 1 + 1, 0, none⟩), j6, j7, .pointer (some ⟨b8, 0, none⟩), v, .pointer (some ⟨b8 + 1, 0, none⟩), j11, j12, undef, undef, undef, .map (some (w.heap.size + 1)), j17, j18, j19, j20, j21, j22, j23, j24, j25, j26, j27, .func (.func 56) #[] #[.pointer (some ⟨w.heap.size + 1 + 1, 0, none⟩)], .slice Wa m cw, .int .i64 (m : Int), .int .i64 (i : Int), j32, j33, j34, j35, j36, j37, j38, j39, j40, j41, j42, j43, j44, j45, j46, undef, undef, undef, undef, undef, undef, undef, undef, undef, undef, undef, undef, undef, undef, undef, undef, undef, undef, undef, undef, undef, undef, j69, undef], defers := Ds.map markOf }
def NwJ (w : World) (A : Option Addr) (n c b8 b16 : Nat) (s : Nat → List Nat) (wl VL : List Nat) (far : Nat) (v : Value) (L Ds : List Nat) (pre : List (Nat × Nat)) (p : BSet) (W : World) : Prop :=
 (p = fun k => k = b16 ∨ k = b8 + 1) ∧ NwI w A n c b8 b16 wl (vl wl VL pre) (farS s wl far (keysN pre)) v L Ds W
theorem nwJ_out {w : World} {A : Option Addr} {n c b8 b16 far B : Nat} {s : Nat → List Nat} {wl VL : List Nat} {v : Value} {L Ds : List Nat} (h0 : b8 + 1 < B) (h1 : b16 < B) (h2 : ∀ g, v.ownBlock = some g → g < B) (h3 : ∀ D ∈ Ds, D < B) : KeepsOutF B (NwJ w A n c b8 b16 s wl VL far v L Ds) := by
 rintro pre p W W' ⟨h, hn⟩ hs
 exact ⟨h, hn.keep hs.keep (fun k hk hh => by omega) (fun hh => by omega) (fun g e hh => by have := h2 g e; omega) (fun D hD hh => by have := h3 D hD; omega)⟩
theorem vl_op {wl VL : List Nat} {pre : List (Nat × Nat)} {q : Nat} (hq : q ∉ keysN pre) : (!(decide (q ∈ wl ∨ q ∈ vl wl VL pre))) = decide (q ∉ wl ∧ q ∉ VL) := by
 rw [Bool.eq_iff_iff]
 simp only [Bool.not_eq_true', decide_eq_false_iff_not, decide_eq_true_eq, vl_mem]
 constructor
 ·intro h
  exact ⟨fun hw => h (.inl hw), fun hv => h (.inr (.inl hv))⟩
 ·rintro ⟨h1, h2⟩ (h | h | ⟨h, _⟩)
  ·exact h1 h
  ·exact h2 h
  ·exact hq h
theorem own_push {B n : Nat} {v : Value} {xs : List Value} {W : World} (h : Own W 3 1 (fun k => B < k) v n xs) (hB : B < W.heap.size) (x : Int) (hn : n + 1 ≤ 1000000) :
  ∃ v' W', (Builtin.append_ #[23, 23] 23 #[v, .slice (some ⟨W.heap.size, 0, none⟩) 1 1]).run Tryz.prog (W.alloc (.cells #[.int .i64 x] 3)) = .ok v' W' ∧ Own W' 3 1 (fun k => B < k) v' (n + 1) (xs ++ [.int .i64 x]) ∧ (W.alloc (.cells #[.int .i64 x] 3)).grownBy W' v.ownBlock := by
 obtain ⟨i0, hi, hz0, hz1, hz2⟩ := info_parts int_info
 have hr : W.ownsRow (B + 1) 3 1 v n xs := by
  refine ⟨h.1.1, ?_⟩
  rcases h.1.2 with h2 | ⟨g, cap, cur, h1, _, h2⟩
  ·exact .inl h2
  ·exact .inr ⟨g, cap, cur, h1, by have := h.2 g (by rw [h1]; rfl); omega, h2⟩
 obtain ⟨v', W', hrun, h2, h3, _⟩ := run_append_own (P := Tryz.prog) (W.alloc (.cells #[.int .i64 x] 3)) (B + 1) 23 23 3 i0 (.int .i64 0) 1 8 Tryz.underlying23 hi hz0 hz1 hz2 rfl (by decide) v n xs (hr.alloc _) ⟨W.heap.size, 0, none⟩ 1 1 [.int .i64 x] rfl
  (fun j u hu => by
   cases j with
   | zero => simp at hu; subst hu; rw [Addr.add_lit]; exact (Blk.new W _ _).cell 0
   | succ j => simp at hu) (by simp [Value.oneCell']) (by unfold maxLen; omega) (by omega) (by rw [World.size_alloc]; omega)
 exact ⟨v', W', hrun, Own.of_row h2 (fun k hk => by omega), h3⟩

set_option maxRecDepth 100000 in
set_option maxHeartbeats 16000000 in
theorem narrows_any (A : Option Addr) (T : BSet) (Bf : Nat → Option Addr) (cf : Nat → Nat) (n c : Nat) (s : Nat → List Nat) (Wa : Option Addr) (m cw at0 : Nat) (wl : List Nat) (f : Nat → Bool) (w : World) (hst : StAt T A Bf cf n s w) (hrw : Rd w Wa (ivs (nz wl))) (hm : Hid (wl.length = m)) (hp : Hid (Path s wl 0 at0)) (hwl : Hid (∀ y ∈ wl, y < n))
  (hn : n ≤ 1000) (hs : Hid (∀ i a, i < n → a ∈ s i → a < n)) (hsl : Hid (∀ i, i < n → (s i).length ≤ 2)) (hf : Hid (∀ y, f y = true ↔ Must s [0] at0 y)) :
  Calls Tryz.prog 40 #[.slice A n c, .slice Wa m cw] w fun e w' => ∃ v, e = .returned v ∧ Own w' 3 1 (Fresh w) v (wl.filter f).length (ivs (nz (wl.filter f))) ∧ Keep NoB w w' := by
 have hmm := @run_makeMap Tryz.prog
 have HS := Lib.hid (fun W (hk : Keep NoB w W) => hst.here.keepN hk)
 have HR := Lib.hid (fun W (hk : Keep NoB w W) => hrw.keepN hk)
 have hmn : m ≤ n := by rw [← hm.out]; exact nodup_len n wl hp.out.nodup hwl.out
 have hm0 : 0 < m := by rw [← hm.out]; exact hp.out.pos
 clear hst hrw
 have k2 := ((Blk.new w 49 #[.slice A n c]).alloc (.map #[] 0)).alloc (.cells #[.map (some (w.heap.size + 1))] 51)
 have hM := ((OMapS.new Tryz.prog 3 3 (w.alloc (.cells #[.slice A n c] 49))).keep ((Keep.refl NoB _).alloc (.cells #[.map (some (w.heap.size + 1))] 51)) id)
 have k5 := Blk.new ((w.alloc (.cells #[.slice A n c] 49)).alloc (.map #[] 0)) 51 #[.map (some (w.heap.size + 1))]
 simp only [World.size_alloc] at hM k5
 have kp : Keep NoB w (((w.alloc (.cells #[.slice A n c] 49)).alloc (.map #[] 0)).alloc (.cells #[.map (some (w.heap.size + 1))] 51)) := (((Keep.refl NoB w).alloc _).alloc _).alloc _
 have HM := Lib.hid (And.intro kp (And.intro k2 (And.intro k5 hM)))
 have hzw : (((w.alloc (.cells #[.slice A n c] 49)).alloc (.map #[] 0)).alloc (.cells #[.map (some (w.heap.size + 1))] 51)).heap.size = w.heap.size + 1 + 1 + 1 := by simp [World.size_alloc]
 have HZ := Lib.hid hzw
 clear kp k2 k5 hM hzw
 refine (callsIn_wide (n := 4)).1 ?_
 refine callsIn_of_wp_marks Tryz.func40 rfl trivial ?_ rfl
 simp only [Tryz.ntmps40, List.size_toArray, List.length_cons, List.length_nil, Nat.reduceAdd, Nat.reduceSub, Array.replicate_succ, Array.replicate_zero, List.push_toArray, List.append_toArray, List.nil_append, List.cons_append]
 gi_wp2
 clear hmm
 generalize ((w.alloc (.cells #[.slice A n c] 49)).alloc (.map #[] 0)).alloc (.cells #[.map (some (w.heap.size + 1))] 51) = W0 at HM HZ ⊢
 gi_loopw [19] (fun i wr => ∃ k : Nat, k ≤ m ∧ i = .int .i64 (k : Int) ∧ Hid (Keep NoB w wr ∧ Blk wr w.heap.size 49 #[.slice A n c] ∧ Blk wr (w.heap.size + 1 + 1) 51 #[.map (some (w.heap.size + 1))] ∧ OMapS Tryz.prog 3 3 (w.heap.size + 1) k (lookN (wl.zipIdx.take k)) wr ∧ w.heap.size + 1 + 1 + 1 ≤ wr.heap.size)) (fun i _ => m - (intOf i).toNat)
 case atStart => exact ⟨0, Nat.zero_le _, rfl, HM.out.1, HM.out.2.1, HM.out.2.2.1, HM.out.2.2.2, by rw [HZ.out]; exact Nat.le_refl _⟩
 case round =>
  obtain ⟨k, hk, rfl, HI⟩ := hrel
  obtain ⟨h1, h2, h3, h4, h5⟩ := HI.out
  by_cases hlt : k < m
  ·have hkl : k < wl.length := by rw [hm.out]; exact hlt
   obtain ⟨gw, ow, rfl, hc⟩ := rd_steps (HR.out wr h1) (by omega)
   have hx := List.getElem?_eq_getElem hkl
   have cx := hc k _ hx
   have hxn := hwl.out _ (List.getElem_mem hkl)
   have c5 := h3.cell 0
   simp only [List.getElem?_toArray, List.getElem?_cons_zero] at c5
   have hnk : wl[k] ∉ keysN (wl.zipIdx.take k) := fun h => by
    obtain ⟨i, e, hi, he⟩ := mem_keys_iff.1 h
    rw [List.getElem?_take] at hi
    by_cases hik : i < k
    ·rw [if_pos hik, zip_at] at hi
     obtain ⟨y, hy, rfl⟩ := Option.map_eq_some_iff.1 hi
     dsimp only at he
     rw [he] at hy
     have := at_inj hp.out.nodup hy hx
     omega
    ·rw [if_neg hik] at hi
     exact absurd hi (by simp)
   have hsn : wl.zipIdx.take (k + 1) = wl.zipIdx.take k ++ [(wl[k], k)] := by
    rw [List.take_succ_eq_append_getElem (by simpa using hkl)]
    congr 1
    simp
   obtain ⟨w5, hup, hM5, hg5⟩ := h4.update (t := 51) Tryz.underlying51 Tryz.underlying3 Tryz.underlying3 (by unfold maxLen; omega) (wl[k] : Int) k (look_nat.2 hnk) (wfN (by omega)) (wfN (by omega))
   have HN : Hid (Keep NoB w w5 ∧ Blk w5 w.heap.size 49 #[.slice A n c] ∧ Blk w5 (w.heap.size + 1 + 1) 51 #[.map (some (w.heap.size + 1))] ∧ OMapS Tryz.prog 3 3 (w.heap.size + 1) (k + 1) (lookN (wl.zipIdx.take (k + 1))) w5 ∧ w.heap.size + 1 + 1 + 1 ≤ w5.heap.size) := by
    refine ⟨h1.grown hg5 (fun g e hl => by cases e; omega), h2.grown hg5 (by simp), h3.grown hg5 (by simp), ?_, Nat.le_trans h5 hg5.size⟩
    rw [hsn]
    exact hM5.congr fun y => putO_look hnk y
   generalize wl[k] = x at cx hup hxn
   clear h1 h2 h3 h4 h5 HI hM5 hg5 hnk hsn hx hc HM HZ
   gi_wp2
   go_roundw
   case rel => exact ⟨k + 1, by omega, by go_num, HN⟩
   case measure => simp [intOf]; omega
  ·obtain rfl : k = m := by omega
   obtain ⟨b8, hb8⟩ : ∃ b8, wr.heap.size = b8 := ⟨_, rfl⟩
   have k8 := (Blk.new wr 59 #[.func (.func 56) #[] #[.pointer (some ⟨w.heap.size + 1 + 1, 0, none⟩)]]).alloc (.cells #[.int .i64 0] 3)
   have k10 := Blk.new (wr.alloc (.cells #[.func (.func 56) #[] #[.pointer (some ⟨w.heap.size + 1 + 1, 0, none⟩)]] 59)) 3 #[.int .i64 0]
   simp only [World.size_alloc] at k10
   have hkk : Keep NoB wr ((wr.alloc (.cells #[.func (.func 56) #[] #[.pointer (some ⟨w.heap.size + 1 + 1, 0, none⟩)]] 59)).alloc (.cells #[.int .i64 0] 3)) := ((Keep.refl NoB wr).alloc _).alloc _
   have hN0 : Hid (NwI w A n c b8 (w.heap.size + 1) wl [] 0 (.slice none 0 0) [] [] ((wr.alloc (.cells #[.func (.func 56) #[] #[.pointer (some ⟨w.heap.size + 1 + 1, 0, none⟩)]] 59)).alloc (.cells #[.int .i64 0] 3))) := by
    rw [hb8] at k8 k10
    refine ⟨keepN h1 hkk, h2.keep hkk id, h3.keep hkk id, k8, k10, ?_, Own.nil _ _ _ _, Marks.nil _ _, by rw [List.append_nil]; exact hp.out.nodup, by rw [List.append_nil]; exact hwl.out, by omega, by omega⟩
    rw [wm_nil, List.length_zipIdx, hm.out]
    have h6 := h4.keep hkk id
    rwa [List.take_of_length_le (by rw [List.length_zipIdx, hm.out]; exact Nat.le_refl _)] at h6
   clear h1 h2 h3 h4 h5 HI HM HZ k8 k10 hkk
   gi_wp2
   generalize (wr.alloc (.cells #[.func (.func 56) #[] #[.pointer (some ⟨w.heap.size + 1 + 1, 0, none⟩)]] 59)).alloc (.cells #[.int .i64 0] 3) = W1 at hN0 ⊢
   clear hb8 wr
   refine wpIn_loop (fun a' W => ∃ (i : Nat) (Ds : List Nat) (VL : List Nat) (far : Nat) (v : Value) (j6 j7 j11 j12 j17 j18 j19 j20 j21 j22 j23 j24 j25 j26 j27 j32 j33 j34 j35 j36 j37 j38 j39 j40 j41 j42 j43 j44 j45 j46 j69 : Value), a' = narA A n c Wa k cw w b8 i v Ds j6 j7 j11 j12 j17 j18 j19 j20 j21 j22 j23 j24 j25 j26 j27 j32 j33 j34 j35 j36 j37 j38 j39 j40 j41 j42 j43 j44 j45 j46 j69 ∧ i ≤ k ∧ Hid (NwI w A n c b8 (w.heap.size + 1) wl VL far v ((wl.take i).filter f) Ds W ∧ Nar s wl (fun y => y ∈ VL) i far ∧ far < k)) (fun a' _ => k - (intOf (a'.tmps.getD 31 undef)).toNat) ?start ?round
   case start => exact ⟨0, [], [], 0, _, _, _, _, _, _, _, _, _, _, _, _, _, _, _, _, _, _, _, _, _, _, _, _, _, _, _, _, _, _, _, _, rfl, Nat.zero_le _, hN0.out, by simpa using Nar.start s wl, hm0⟩
   case round =>
    rintro a' W ⟨i, Ds, VL, far, v, j6, j7, j11, j12, j17, j18, j19, j20, j21, j22, j23, j24, j25, j26, j27, j32, j33, j34, j35, j36, j37, j38, j39, j40, j41, j42, j43, j44, j45, j46, j69, rfl, hi, HN⟩
    dsimp only [narA]
    by_cases hik : i < k
    ·have hil : i < wl.length := by rw [hm.out]; exact hik
     have hN := HN.out.1
     obtain ⟨gw, ow, rfl, hc⟩ := rd_steps (HR.out W hN.kp) (by omega)
     have hx := List.getElem?_eq_getElem hil
     have cx := hc i _ hx
     obtain ⟨p, hpx⟩ : ∃ p, wl[i] = p := ⟨_, rfl⟩
     rw [hpx] at hx cx
     have hpw : p ∈ wl := List.mem_of_getElem? hx
     have hpn : p < n := hwl.out p hpw
     have c10 := hN.k10.cell 0
     simp only [List.getElem?_toArray, List.getElem?_cons_zero] at c10
     have hmust := HN.out.2.1.must hp.out hx
     have hfl := HN.out.2.2
     have htk : (wl.take (i + 1)).filter f = (wl.take i).filter f ++ (if f p = true then [p] else []) := by
      rw [List.take_succ_eq_append_getElem hil, List.filter_append, hpx]
      congr 1
      by_cases h : f p = true
      ·rw [if_pos h]; simp [h]
      ·rw [if_neg h]; simp [h]
     have hLl : ((wl.take i).filter f).length ≤ i := Nat.le_trans (List.length_filter_le _ _) (by rw [List.length_take]; omega)
     have hbW := hN.apart
     have HTK : Hid (∃ v2 W2, ((f p = true ∧ far = i ∧ (Builtin.append_ #[23, 23] 23 #[v, .slice (some ⟨W.heap.size, 0, none⟩) 1 1]).run Tryz.prog (W.alloc (.cells #[.int .i64 (p : Int)] 3)) = .ok v2 W2) ∨ (f p = false ∧ far ≠ i ∧ v2 = v ∧ W2 = W)) ∧
       NwI w A n c b8 (w.heap.size + 1) wl VL far v2 ((wl.take (i + 1)).filter f) Ds W2) := by
      cases hfp : f p with
      | true =>
       obtain ⟨v2, W2, hrun, hO, hg⟩ := own_push hN.own hbW.bl (p : Int) (by omega)
       have hk2 : Keep (fun k => v.ownBlock = some k) W W2 := ((Keep.refl _ W).alloc _).grown hg (fun g e _ => e)
       refine ⟨v2, W2, .inl ⟨rfl, hmust.2 ((hf.out p).1 hfp), hrun⟩, ?_⟩
       have hmv : ∀ k, k ≤ b8 + 1 → ¬ v.ownBlock = some k := fun k hk e => by have := (hbW.mv k e).2.1; omega
       rw [htk, if_pos hfp]
       exact ⟨hN.kp.trans hk2 (fun k hk hl => by have h1 := (hbW.mv k hk).2.1; have h2 := hN.b; omega), hN.k2.keep hk2 (hmv _ (by have := hN.b; omega)), hN.k5.keep hk2 (hmv _ (by have := hN.b; omega)), hN.k8.keep hk2 (hmv _ (by omega)), hN.k10.keep hk2 (hmv _ (by omega)), hN.map.keep hk2 (fun e => (hbW.mv _ e).1 rfl),
        by rw [List.length_append]; simpa [nz] using hO, hN.marks.keep hk2 (fun D hD => (hbW.dk D hD).2.2), hN.nd, hN.lt, hN.b, hN.b6⟩
      | false =>
       refine ⟨v, W, .inr ⟨rfl, fun e => ?_, rfl, rfl⟩, ?_⟩
       ·have := (hf.out p).2 (hmust.1 e)
        rw [hfp] at this; cases this
       ·rw [htk, if_neg (by rw [hfp]; decide), List.append_nil]; exact hN
     clear hN hmust htk hbW hc hLl hpx
     obtain ⟨v2, W2, hcase, hN2⟩ := HTK.out
     have HN2 := Lib.hid hN2
     have hNar := Lib.hid HN.out.2.1
     have c2 := hN2.k2.cell 0
     have c8 := hN2.k8.cell 0
     simp only [List.getElem?_toArray, List.getElem?_cons_zero] at c2 c8
     have HX := Lib.hid hx
     clear HTK HN hx hN2 hN0
     rcases hcase with ⟨_, hfi, hap⟩ | ⟨_, hfi, rfl, rfl⟩
     case' inl => have q1 : ((far : Int) == (i : Int)) = true := by rw [beq_iff_eq]; omega
     case' inr => have q1 : ((far : Int) == (i : Int)) = false := by rw [beq_eq_false_iff_ne]; omega
     case' inl => gi_wp2_with (first | (gi_at_builtin; refine wpListIn_append_run _ rfl _ _ 23 rfl _ _ v2 W2 rfl rfl hap ?_) | fail)
     case' inr => gi_wp2_with fail
     all_goals
      have hN2 := HN2.out
      refine ⟨trivial, (callsIn_wide.2 (nearest_any A n c p 56 #[.pointer (some ⟨w.heap.size + 1 + 1, 0, none⟩)] W2)).mono ?_⟩
      rintro e W4 ⟨rfl, hz4, k4, bf, bs, bo⟩
      have hN4 := hN2.keepN k4
      have hA4 := hN4.apart
      have hA2 := hN2.apart
      have hH0 : NrH w.heap.size p A Bf cf n c s 56 #[.pointer (some ⟨w.heap.size + 1 + 1, 0, none⟩)] (W2.heap.size + 1) W2.heap.size (W2.heap.size + 1 + 1) W4 := ⟨bf, bs, bo, HS.out W4 hN4.kp⟩
      have hstp := Lib.hid (near_stops 2 3 p n c 56 (W2.heap.size + 1) W2.heap.size (W2.heap.size + 1 + 1) A Bf cf s (fun y => decide (y ∉ wl ∧ y ∉ VL)) #[.pointer (some ⟨w.heap.size + 1 + 1, 0, none⟩)] hn (fun _ => hpn) (by omega) hs hsl (NrH w.heap.size p A Bf cf n c s 56 #[.pointer (some ⟨w.heap.size + 1 + 1, 0, none⟩)] (W2.heap.size + 1) W2.heap.size (W2.heap.size + 1 + 1)) (fun pre W => Blk W (w.heap.size + 1 + 1) 51 #[.map (some (w.heap.size + 1))] ∧ OMapS Tryz.prog 3 3 (w.heap.size + 1) (wm wl (vl wl VL pre)).length (lookN (wm wl (vl wl VL pre))) W) (fun W h => h.nr) (enters_of Tryz.func56 rfl rfl)
       (fun pre W q hfa hq hqn => (around_any q _ _ _ _ W (by omega) hfa.1 hfa.2.omap).mono (by rintro e W' ⟨rfl, rfl⟩; exact ⟨by rw [some_wm, vl_op hq], rfl⟩)))
      have hi0 : (NwJ w A n c b8 (w.heap.size + 1) s wl VL far v2 ((wl.take (i + 1)).filter f) Ds) [] (fun k => k = w.heap.size + 1 ∨ k = b8 + 1) W4 := ⟨rfl, by rw [vl_nil]; exact hN4⟩
      have hbb := hN2.b
      have hm2 := hA2.ml
      have hb2 := hA2.bl
      have hHs : ∀ (O : Nat → Prop) (X Y : World), (∀ k, O k → (k = w.heap.size + 1 ∨ k = b8 + 1) ∨ W4.heap.size ≤ k) → NrH w.heap.size p A Bf cf n c s 56 #[.pointer (some ⟨w.heap.size + 1 + 1, 0, none⟩)] (W2.heap.size + 1) W2.heap.size (W2.heap.size + 1 + 1) X → Keep O X Y → NrH w.heap.size p A Bf cf n c s 56 #[.pointer (some ⟨w.heap.size + 1 + 1, 0, none⟩)] (W2.heap.size + 1) W2.heap.size (W2.heap.size + 1 + 1) Y :=
       fun O X Y hO h hk => h.keep hk (fun k hk h => by have := hO k h; omega) (fun h => by have := hO _ h; omega) (fun h => by have := hO _ h; omega) (fun h => by have := hO _ h; omega)
      have hp0 : ∀ k, (k = w.heap.size + 1 ∨ k = b8 + 1) → k < W4.heap.size := fun k hk => by omega
      have hJo := nwJ_out (w := w) (A := A) (n := n) (c := c) (b8 := b8) (b16 := w.heap.size + 1) (far := far) (B := W4.heap.size) (s := s) (wl := wl) (VL := VL) (v := v2) (L := (wl.take (i + 1)).filter f) (Ds := Ds) (by omega) (by omega) (fun g e => (hA4.mv g e).2.2) (fun D hD => (hA4.dk D hD).2.1)
      have HD := Lib.hid (fun D hD => (hA4.dk D hD).2.1)
      have HZ := Lib.hid (And.intro hz4 (And.intro hbb (And.intro hm2 (And.intro hb2 hN4.kp.size))))
      clear hN2 hN4 hA4 hA2 bf bs bo k4 c2 c8 c10 cx hz4 hbb hm2 hb2
      gi_wp2_with fail
      obtain ⟨hz4, hbb, hm2, hb2, hw4⟩ := HZ.out
      refine wpIn_rangeFunc_F (m := 2) (gf := 64) (lb := #[.pointer (some ⟨W2.heap.size + 1, 0, none⟩), .pointer (some ⟨W2.heap.size, 0, none⟩), .pointer (some ⟨W2.heap.size + 1 + 1, 0, none⟩)]) rfl (enters_of Tryz.func64 rfl rfl)
       hstp.out (fun _ => rfl) (NwJ w A n c b8 (w.heap.size + 1) s wl VL far v2 ((wl.take (i + 1)).filter f) Ds) (fun _ _ _ _ => False) hJo (fun pre q W h k hk => by have ha := h.2.apart; rw [h.1] at hk; rcases hk with rfl | rfl; exact ha.ml; exact ha.bl) (fun pre q W h => ⟨h.2.k5, h.2.map⟩) (fun _ _ _ _ _ h _ => h) hi0 hp0 hH0 hHs
       (fun pre x q a' W => (NwJ w A n c b8 (w.heap.size + 1) s wl VL far v2 ((wl.take (i + 1)).filter f) Ds) pre q W ∧ ∃ (j6 j7 j9 j11 j12 j17 j18 j19 j20 j21 j22 j23 j24 j25 j26 j27 j32 j33 j34 j35 j36 j37 j38 j39 j40 j41 j42 j43 j44 j45 j46 j69 : Value), a' = { tmps := #[.slice A n c, .slice (some ⟨gw, ow, none⟩) k cw, .pointer (some ⟨w.heap.size, 0, none⟩), undef, .slice none 0 0, .pointer (some ⟨w.heap.size + 1 + 1, 0, none⟩), j6, j7, .pointer (some ⟨b8, 0, none⟩), j9, .pointer (some ⟨b8 + 1, 0, none⟩), j11, j12, .int .i64 (x.1 : Int), undef, undef, .map (some (w.heap.size + 1)), j17, j18, j19, j20, j21, j22, j23, j24, j25, j26, j27, .func (.func 56) #[] #[.pointer (some ⟨w.heap.size + 1 + 1, 0, none⟩)], .slice (some ⟨gw, ow, none⟩) k cw, .int .i64 (k : Int), .int .i64 (i : Int), j32, j33, j34, j35, j36, j37, j38, j39, j40, j41, j42, j43, j44, j45, j46, .int .i64 (x.1 : Int), .int .i64 (x.2 : Int), undef, undef, undef, undef, undef, undef, undef, undef, undef, undef, undef, undef, undef, undef, undef, undef, undef, undef, undef, undef, j69, undef], defers := [] }) ?hax ?assign ?body ?done ?stop
      case hax =>
       rintro pre x a' u q W W' ⟨g1, g4⟩ hs
       exact ⟨hJo _ _ _ _ g1 hs, g4⟩
      case assign =>
       rintro l pre x q W hI hen
       have HI := Lib.hid hI
       clear hI hi0 hp0 hH0 hHs hstp hz4 hbb hm2 hb2 hJo
       gi_wp2
       exact ⟨q, Rnd.refl _ _, HI.out, _, _, _, _, _, _, _, _, _, _, _, _, _, _, _, _, _, _, _, _, _, _, _, _, _, _, _, _, _, _, _, _, rfl⟩
      case body =>
       rintro l pre x q a' X hen ⟨g1, j6, j7, j9, j11, j12, j17, j18, j19, j20, j21, j22, j23, j24, j25, j26, j27, j32, j33, j34, j35, j36, j37, j38, j39, j40, j41, j42, j43, j44, j45, j46, j69, rfl⟩
       obtain ⟨hxm, hx1, hx2, hpl⟩ := hen.new hs.out
       obtain ⟨_, met, hnr, hpe, hmx⟩ := hen
       have hopn := hnr.opens (mem_keys_iff.2 ⟨_, _, hmx, rfl⟩)
       clear hpe hnr hmx
       obtain ⟨y, hy⟩ : ∃ y, x.1 = y := ⟨_, rfl⟩
       have HY : Hid (x.1 = y) := hy
       rw [hy] at hxm hx1 hopn ⊢
       generalize x.2 = y2 at hx2 ⊢
       obtain ⟨ln, hln⟩ : ∃ ln, (s y).length = ln := ⟨_, rfl⟩
       have hl2 : ln ≤ 2 := by rw [← hln]; exact hsl.out y hx1
       have hg := g1.2
       obtain ⟨gs, rfl, _, cq, _, _⟩ := HS.out X hg.kp y hx1
       have HRd : Hid (∀ Y, Keep NoB w Y → Rd Y (Bf y) (ivs (nz (s y)))) := fun Y hk => by
        obtain ⟨_, _, _, _, h4, _⟩ := HS.out Y hk y hx1
        exact h4
       rw [hln] at cq
       generalize Bf y = B at cq HRd
       generalize cf y = cB at cq
       have e2 := hg.k2.cell 0
       simp only [List.getElem?_toArray, List.getElem?_cons_zero] at e2
       have HG : Hid (NwI w (some ⟨gs, 0, none⟩) n c b8 (w.heap.size + 1) wl (vl wl VL pre) (farR wl (farS s wl far (keysN pre)) ((s y).take 0)) v2 ((wl.take (i + 1)).filter f) Ds X ∧ Keep (fun k => k = b8 + 1) X X) := ⟨hg, Keep.refl _ _⟩
       have HQ := Lib.hid g1.1
       clear g1 hg hi0 hp0 hH0 hHs hstp hJo hz4 hbb hm2 hb2 hy
       gi_wp2
       clear e2 cq
       gi_loopw [54] (fun i' wr => ∃ j : Nat, j ≤ ln ∧ i' = .int .i64 (j : Int) ∧ Hid (NwI w (some ⟨gs, 0, none⟩) n c b8 (w.heap.size + 1) wl (vl wl VL pre) (farR wl (farS s wl far (keysN pre)) ((s y).take j)) v2 ((wl.take (i + 1)).filter f) Ds wr ∧ Keep (fun k => k = b8 + 1) X wr)) (fun i' _ => ln - (intOf i').toNat)
       case atStart => exact ⟨0, Nat.zero_le _, rfl, HG⟩
       case round =>
        obtain ⟨j, hj, rfl, HI⟩ := hrel
        have hI := HI.out.1
        have e5 := hI.k5.cell 0
        have e8 := hI.k8.cell 0
        have e10 := hI.k10.cell 0
        have f10 := hI.k10.frozen 0
        simp only [List.getElem?_toArray, List.getElem?_cons_zero] at e5 e8 e10
        by_cases hlt' : j < ln
        ·have hjl : j < (s y).length := by rw [hln]; exact hlt'
         obtain ⟨gb, ob, rfl, hcb⟩ := rd_steps (HRd.out wr hI.kp) (by omega)
         have hz := List.getElem?_eq_getElem hjl
         have cz := hcb j _ hz
         have hzn : (s y)[j] < n := hs.out y _ hx1 (List.getElem_mem hjl)
         have hsn : farR wl (farS s wl far (keysN pre)) ((s y).take (j + 1)) = max (farR wl (farS s wl far (keysN pre)) ((s y).take j)) (posL wl (s y)[j]) := by
          rw [List.take_succ_eq_append_getElem hjl, farR_snoc]
         generalize (s y)[j] = z at cz hzn hsn
         have hlk := hI.map.omap.look (t := 51) Tryz.underlying51 Tryz.underlying3 Tryz.underlying3 (int_zeroG _) (z : Int) (wfN (by omega))
         rw [look_wm] at hlk
         have HN2 := Lib.hid (hI.setFar (farR wl (farS s wl far (keysN pre)) ((s y).take (j + 1))))
         have HK2 := Lib.hid (HI.out.2.trans (keep_set wr (b8 + 1) 0 (.int .i64 ((farR wl (farS s wl far (keysN pre)) ((s y).take (j + 1)) : Nat) : Int))) (fun _ h _ => h))
         have HSN := Lib.hid hsn
         obtain ⟨f2, hf2⟩ : ∃ f2, farR wl (farS s wl far (keysN pre)) ((s y).take (j + 1)) = f2 := ⟨_, rfl⟩
         have HF2 := Lib.hid hf2
         rw [hf2] at HN2 HK2 HSN
         clear hf2
         generalize farR wl (farS s wl far (keysN pre)) ((s y).take j) = f1 at e10 HSN
         generalize posL wl z = pz at hlk HSN
         have q3 : max (f1 : Int) (pz : Int) = (f2 : Int) := by have := HSN.out; omega
         clear hz hI HI HG hcb hsn HSN
         gi_wp2
         go_roundw
         case rel => exact ⟨j + 1, by omega, by go_num, by rw [HF2.out]; exact ⟨HN2.out, HK2.out⟩⟩
         case measure => simp [intOf]; omega
        ·obtain rfl : j = ln := by omega
         have hall : (s y).take j = s y := List.take_of_length_le (by rw [hln]; exact Nat.le_refl _)
         have hfs : farS s wl far (keysN (pre ++ [x])) = farR wl (farS s wl far (keysN pre)) (s y) := by
          rw [keys_append, ← HY.out]
          exact farS_snoc s far (keysN pre) x.1
         rw [hall] at hI
         have hA := around_any y _ _ _ _ wr (by omega) hI.k5 hI.map.omap
         rw [some_wm, vl_op hxm] at hA
         have hKX := HI.out.2
         by_cases hyw : y ∈ wl
         ·rw [decide_eq_false (fun h => h.1 hyw)] at hA
          have HA := Lib.hid hA
          have HFIN : Hid (∃ p', Rnd q p' X wr ∧ NwJ w (some ⟨gs, 0, none⟩) n c b8 (w.heap.size + 1) s wl VL far v2 ((wl.take (i + 1)).filter f) Ds (pre ++ [x]) p' wr) := by
           have hq := HQ.out
           subst hq
           exact ⟨_, Rnd.of_keep (hKX.mono (fun k h _ => .inr h)), rfl, by rw [vl_in (by rw [HY.out]; exact hyw), hfs]; exact hI⟩
          clear hI HI HG hA hKX hfs hall hxm hopn
          gi_wp2_with fail
          refine ⟨trivial, (callsIn_wide.2 HA.out).mono ?_⟩
          rintro e w9 ⟨rfl, rfl⟩
          gi_wp2
          exact HFIN.out
         ·have hyV : y ∉ VL := by
           rcases hopn with h | h
           ·exact absurd (h ▸ hpw) hyw
           ·exact (of_decide_eq_true h).2
          rw [decide_eq_true ⟨hyw, hyV⟩] at hA
          have HA := Lib.hid hA
          have hnv : y ∉ wl ++ vl wl VL pre := fun h => by
           rcases List.mem_append.1 h with h | h
           ·exact hyw h
           ·rcases vl_mem.1 h with h | h
            ·exact hyV h
            ·exact hxm h.1
          have hml := hI.len
          obtain ⟨w5, hup, hM5, hg5⟩ := hI.map.update (t := 51) Tryz.underlying51 Tryz.underlying3 Tryz.underlying3 (by unfold maxLen; omega) (y : Int) 0 (look_nat.2 (by rw [keys_wm]; exact hnv)) (wfN (by omega)) (by decide)
          have hup : (Instr.mapUpdate 51 (.map (some (w.heap.size + 1))) (.int .i64 (y : Int)) (.int .i64 0)).run Tryz.prog wr = .ok () w5 := hup
          have hmore := hI.more hnv hx1 hM5 hg5
          have HFIN : Hid (∃ p', Rnd q p' X w5 ∧ NwJ w (some ⟨gs, 0, none⟩) n c b8 (w.heap.size + 1) s wl VL far v2 ((wl.take (i + 1)).filter f) Ds (pre ++ [x]) p' w5) := by
           have hq := HQ.out
           subst hq
           exact ⟨_, Rnd.of_keep ((hKX.mono (fun k h _ => .inr h)).grown hg5 (fun g e _ => by cases e; exact .inl rfl)), rfl, by rw [vl_out (by rw [HY.out]; exact hyw), HY.out, hfs]; exact hmore⟩
          clear hI HI HG hA hKX hfs hall hxm hopn hmore hM5 hg5 hnv
          gi_wp2_with fail
          refine ⟨trivial, (callsIn_wide.2 HA.out).mono ?_⟩
          rintro e w9 ⟨rfl, rfl⟩
          gi_wp2
          exact HFIN.out
      case done =>
       rintro D xs q X hD hpD hS g1 hK
       rcases hS with ⟨h0, _⟩ | ⟨_, hall⟩
       ·omega
       ·have hst := (hNar.out.step hp.out HX.out hall (fun y => by rw [decide_eq_true_iff]))
        have hVL : (fun y => y ∈ VL ∨ (y ∈ keysN xs ∧ y ∉ wl)) = fun y => y ∈ vl wl VL xs := by funext y; exact propext vl_mem.symm
        rw [hVL] at hst
        have hDn : D ∉ Ds := fun h => by have := HD.out D h; omega
        have hng := g1.2
        have HF : Hid (NwI w A n c b8 (w.heap.size + 1) wl (vl wl VL xs) (farS s wl far (keysN xs)) v2 ((wl.take (i + 1)).filter f) (D :: Ds) X ∧ Nar s wl (fun y => y ∈ vl wl VL xs) (i + 1) (farS s wl far (keysN xs)) ∧ farS s wl far (keysN xs) < k) :=
         ⟨⟨hng.kp, hng.k2, hng.k5, hng.k8, hng.k10, hng.map, hng.own, hng.marks.cons hDn (by omega) hK, hng.nd, hng.lt, hng.b, hng.b6⟩, hst, by rw [← hm.out]; exact farS_lt (by rw [hm.out]; exact hm0) (by rw [hm.out]; exact hfl) _⟩
        clear g1 hng hi0 hp0 hH0 hHs hstp hJo hz4 hbb hm2 hb2 hst hVL hall
        gi_wp2
        exact ⟨⟨i + 1, D :: Ds, _, _, v2, _, _, _, _, _, _, _, _, _, _, _, _, _, _, _, _, _, _, _, _, _, _, _, _, _, _, _, _, _, _, _, rfl, by omega, HF⟩, by simp [intOf]; omega⟩
      case stop =>
       rintro D c pre q X hD hpD _ h
       exact h.elim
    ·obtain rfl : i = k := by omega
     have hN := HN.out.1
     have htk : wl.take i = wl := List.take_of_length_le (by rw [hm.out]; exact Nat.le_refl _)
     rw [htk] at hN
     have HF := Lib.hid hN
     clear hN HN hN0
     gi_wp2
     refine leaves_marks (fun W => Own W 3 1 (fun k => b8 + 1 < k) v (wl.filter f).length (ivs (nz (wl.filter f))) ∧ Keep NoB w W) ?_ ?_ Ds W HF.out.marks ⟨HF.out.own, HF.out.kp⟩
     ·rintro D W' hD hDo ⟨h1, h2⟩
      refine ⟨⟨ownsRow_keep h1.1 (keep_putD W' D _) (fun g e h => ?_), h1.2⟩, h2.trans (keep_putD W' D _) (fun k hk hl => by omega)⟩
      subst h
      rcases h1.1.2 with ⟨rfl, _⟩ | ⟨g', cap, cur, rfl, _, hh, _⟩
      ·cases e
      ·cases e
       rw [hh] at hDo; cases hDo
     ·rintro W' ⟨h1, h2⟩
      have hb8 := HF.out.b
      exact ⟨_, results_tmp rfl _ _ _, v, rfl, ⟨h1.1, fun g e => by have := h1.2 g e; show w.heap.size ≤ g; omega⟩, h2⟩
end Go.Proofs.YtghdibbooegocaaGreatDoor.G

namespace Go.Proofs.YtghdibbooegocaaGreatDoor.V
open Go.RowKit

def Rd (w : World) (A : Option Addr) (l : List UInt8) : Prop :=
 0 < l.length → ∃ ad, A = some ad ∧ ∀ j u, (bvs l)[j]? = some u → w.cell? (ad.add j) = some u
theorem block_add (a : Addr) (n : Nat) : (a.add n).block = a.block := by unfold Addr.add; split <;> rfl
theorem Rd.none_ (w : World) (A : Option Addr) : Rd w A [] := fun h => by simp at h
theorem Rd.lt {w : World} {A : Option Addr} {l : List UInt8} (h : Rd w A l) {ad : Addr} (e : A = some ad) (h0 : 0 < l.length) : ad.block < w.heap.size := by
 obtain ⟨ad', e', hc⟩ := h h0
 rw [e] at e'; cases e'
 have := World.block_lt_of_cell? w _ (hc 0 (bv l[0]) (by simp [h0]))
 rwa [block_add] at this

def OwnB (w : World) (O : Nat → Prop) (v : Value) (l : List UInt8) : Prop :=
 w.ownsRow 0 5 1 v l.length (bvs l) ∧ ∀ g, v.ownBlock = some g → O g
section
variable {w w' : World} {O O' : Nat → Prop} {v : Value} {l : List UInt8}
theorem OwnB.mono (h : OwnB w O v l) (hO : ∀ k, O k → k < w.heap.size → O' k) : OwnB w O' v l := ⟨h.1, fun g e => hO g (h.2 g e) (h.1.lt g e).2⟩
end

end Go.Proofs.YtghdibbooegocaaGreatDoor.V

namespace Go.Proofs.YtghdibbooegocaaGreatDoor.V
open Go.RowKit


def More (O : Nat → Prop) (w w' : World) : Nat → Prop := fun k => O k ∨ (w.heap.size ≤ k ∧ k < w'.heap.size)

end Go.Proofs.YtghdibbooegocaaGreatDoor.V

namespace Go.Proofs.YtghdibbooegocaaGreatDoor.V
open Go.RowKit

theorem More.trans {O : Nat → Prop} {w w1 w2 : World} (h : w.heap.size ≤ w1.heap.size) : ∀ k, More O w1 w2 k → k < w2.heap.size → More O w w2 k := by
 rintro k (h1 | ⟨h1, h2⟩) _
 ·exact .inl h1
 ·exact .inr ⟨by omega, h2⟩

end Go.Proofs.YtghdibbooegocaaGreatDoor.V

namespace Go.Proofs.YtghdibbooegocaaGreatDoor.V
open Go.RowKit

def hd (n : Nat) : Nat := mk (wd n) + n / 256 ^ (wd n - 1)

end Go.Proofs.YtghdibbooegocaaGreatDoor.V

namespace Go.Proofs.YtghdibbooegocaaGreatDoor.V
open Go.RowKit

end Go.Proofs.YtghdibbooegocaaGreatDoor.V

namespace Go.Proofs.YtghdibbooegocaaGreatDoor.V
open Go.RowKit

end Go.Proofs.YtghdibbooegocaaGreatDoor.V

namespace Go.Proofs.YtghdibbooegocaaGreatDoor.V
open Go.RowKit

theorem keepN {w w1 w2 : World} (h : Keep NoB w w1) (h' : Keep NoB w1 w2) : Keep NoB w w2 := h.trans h' (fun _ hf _ => hf.elim)

end Go.Proofs.YtghdibbooegocaaGreatDoor.V

namespace Go.Proofs.YtghdibbooegocaaGreatDoor.V
open Go.RowKit

end Go.Proofs.YtghdibbooegocaaGreatDoor.V

namespace Go.Proofs.YtghdibbooegocaaGreatDoor.V
open Go.RowKit

end Go.Proofs.YtghdibbooegocaaGreatDoor.V

namespace Go.Proofs.YtghdibbooegocaaGreatDoor.V
open Go.RowKit

end Go.Proofs.YtghdibbooegocaaGreatDoor.V

namespace Go.Proofs.YtghdibbooegocaaGreatDoor.V
open Go.RowKit

end Go.Proofs.YtghdibbooegocaaGreatDoor.V

namespace Go.Proofs.YtghdibbooegocaaGreatDoor.V
open Go.RowKit

end Go.Proofs.YtghdibbooegocaaGreatDoor.V

namespace Go.Proofs.YtghdibbooegocaaGreatDoor.V
open Go.RowKit

end Go.Proofs.YtghdibbooegocaaGreatDoor.V

namespace Go.Proofs.YtghdibbooegocaaGreatDoor.V
open Go.RowKit

end Go.Proofs.YtghdibbooegocaaGreatDoor.V

namespace Go.Proofs.YtghdibbooegocaaGreatDoor.V
open Go.RowKit

end Go.Proofs.YtghdibbooegocaaGreatDoor.V

namespace Go.Proofs.YtghdibbooegocaaGreatDoor.V
open Go.RowKit

end Go.Proofs.YtghdibbooegocaaGreatDoor.V

namespace Go.Proofs.YtghdibbooegocaaGreatDoor.S
open Go.RowKit

end Go.Proofs.YtghdibbooegocaaGreatDoor.S

namespace Go.Proofs.YtghdibbooegocaaGreatDoor.S
open Go.RowKit W

def heldB (t : Int) : Bool := decide (1 ≤ t ∧ t ≤ 3)
def okS (l : List Int) : Bool := decide (1 ≤ l.length ∧ l.length ≤ 16) && l.all heldB
def okG (a r : List Int) : Bool := decide (a.length + r.length ≤ 64) && (a.all knownB && r.all heldB)
def arr (s : List UInt8) : Nat := s.findIdx fun c => c == 62
def rdS (s : List UInt8) : Option (List Int) := match untxt s with
 | none => none
 | some x => if okS x = true then some x else none
def rdG (s : List UInt8) : Option (List Int × List Int) := if arr s < s.length then
  (match untxt (s.take (arr s)), untxt (s.drop (arr s + 1)) with
  | some a, some r => if okG a r = true then some (a, r) else none
  | _, _ => none)
 else none
end Go.Proofs.YtghdibbooegocaaGreatDoor.S

namespace Go.Proofs.YtghdibbooegocaaGreatDoor.F
open Go.RowKit W

def letB (c : UInt8) : Bool := decide ((97 ≤ c.toNat ∧ c.toNat ≤ 122) ∨ (65 ≤ c.toNat ∧ c.toNat ≤ 90))
def digB (c : UInt8) : Bool := decide (48 ≤ c.toNat ∧ c.toNat ≤ 57)
def inB (c : UInt8) : Bool := letB c || digB c
def headB : List UInt8 → Bool
 | [] => false
 | c :: _ => letB c
def okN (s : List UInt8) : Bool := decide (s.length ≤ 32) && (headB s && s.all inB)
structure Fu where
 nm : List UInt8
 ar : List Int
 rs : List Int
 lc : List Int
 bd : List C.I3
def sameF (f g : Fu) : Bool := decide (f.nm = g.nm ∧ (f.ar = g.ar ∧ f.rs = g.rs) ∧ f.lc = g.lc ∧ f.bd = g.bd)
theorem sameF_iff (f g : Fu) : sameF f g = true ↔ f = g := by
 unfold sameF
 rw [decide_eq_true_iff]
 constructor
 ·rintro ⟨h1, ⟨h2, h3⟩, h4, h5⟩
  cases f; cases g
  simp only at h1 h2 h3 h4 h5
  subst h1 h2 h3 h4 h5; rfl
 ·rintro rfl; exact ⟨rfl, ⟨rfl, rfl⟩, rfl, rfl⟩

end Go.Proofs.YtghdibbooegocaaGreatDoor.F

namespace Go.Proofs.YtghdibbooegocaaGreatDoor.O

theorem in_bounds {k n : Int} (h : inK k n = true) : (-9223372036854775808 ≤ n ∧ n ≤ 9223372036854775807) ∧ (k ≠ 1 → 0 ≤ n ∧ n ≤ 511) ∧ (k = 0 → n = 0) := by
 have h := of_decide_eq_true h
 unfold lo hi at h
 repeat' split at h
 all_goals omega

def upto (l : List UInt8) : List UInt8 := l.takeWhile (fun c => decide (c ≠ 32))
theorem upto_of {s r : List UInt8} (hs : ∀ c ∈ s, c ≠ 32) (hr : r = [] ∨ ∃ r', r = 32 :: r') : upto (s ++ r) = s := by
 unfold upto
 rw [List.takeWhile_append_of_pos (by intro c hc; simpa using hs c hc)]
 rcases hr with rfl | ⟨r', rfl⟩
 ·simp
 ·simp
theorem split_at {s t r q : List UInt8} (hs : ∀ c ∈ s, c ≠ 32) (ht : ∀ c ∈ t, c ≠ 32) (hr : r = [] ∨ ∃ r', r = 32 :: r') (hq : q = [] ∨ ∃ q', q = 32 :: q') (h : s ++ r = t ++ q) : s = t ∧ r = q := by
 have e := congrArg upto h
 rw [upto_of hs hr, upto_of ht hq] at e
 subst e
 exact ⟨rfl, List.append_cancel_left h⟩

theorem itoa_no (n : Int) : ∀ c ∈ Lib.itoa n, c ≠ 32 := by
 have hd : ∀ u, ∀ c ∈ Lib.decDigits u, c ≠ 32 := fun u c hc e => by
  have := W.dec_digits u c hc
  rw [e] at this
  exact absurd this (by decide)
 intro c hc
 rcases Int.lt_or_le n 0 with h | h
 ·rw [W.itoa_minus h] at hc
  rcases List.mem_cons.1 hc with rfl | hc
  ·decide
  ·exact hd _ c hc
 ·rw [W.itoa_pos h] at hc
  exact hd _ c hc
theorem nameAt_all {l : List (List UInt8)} {p : List UInt8 → Bool} (h : l.all p = true) (h0 : p [] = true) (n : Int) : p (A.nameAt l n) = true := by
 unfold A.nameAt
 split
 ·rcases Nat.lt_or_ge n.toNat l.length with hlt | hge
  ·rw [A.getD_at hlt]
   exact List.all_eq_true.1 h _ (List.getElem_mem hlt)
  ·rw [A.getD_past hge]; exact h0
 ·exact h0
def noSp (s : List UInt8) : Bool := s.all fun c => decide (c ≠ 32)
theorem noSp_mem {s : List UInt8} (h : noSp s = true) : ∀ c ∈ s, c ≠ 32 := fun c hc => by simpa using List.all_eq_true.1 h c hc
theorem word_no (k n : Int) : ∀ c ∈ word k n, c ≠ 32 := by
 unfold word
 split
 ·apply noSp_mem
  unfold W.letC
  repeat' split
  all_goals decide
 ·split
  ·exact noSp_mem (nameAt_all (p := noSp) (by decide) (by decide) n)
  ·split
   ·exact noSp_mem (nameAt_all (p := noSp) (by decide) (by decide) n)
   ·exact itoa_no n
theorem name_no (op : Int) : ∀ c ∈ (rowAt op).name, c ≠ 32 := noSp_mem (rowAt_all (p := fun r => noSp r.name) (by decide) (by decide) op)
theorem part_sp (k n : Int) : partL k n = [] ∨ ∃ r, partL k n = 32 :: r := by
 unfold partL
 split
 ·exact .inl rfl
 ·exact .inr ⟨_, rfl⟩
theorem names_inj (l : List (List UInt8)) (hnd : (List.range l.length).all (fun i => (List.range l.length).all fun j => decide (l.getD i [] = l.getD j [] → i = j)) = true) {a b : Int} (ha : 0 ≤ a ∧ a < l.length) (hb : 0 ≤ b ∧ b < l.length) (h : A.nameAt l a = A.nameAt l b) : a = b := by
 unfold A.nameAt at h
 rw [if_pos ha.1, if_pos hb.1] at h
 have h1 := List.all_eq_true.1 hnd a.toNat (List.mem_range.2 (by omega))
 have h2 := List.all_eq_true.1 h1 b.toNat (List.mem_range.2 (by omega))
 have := of_decide_eq_true h2 h
 omega
theorem word_inj {k a b : Int} (hk : k ≠ 0) (ha : inK k a = true) (hb : inK k b = true) (h : word k a = word k b) : a = b := by
 have xa := in_bounds ha
 have xb := in_bounds hb
 have ya := of_decide_eq_true ha
 have yb := of_decide_eq_true hb
 unfold word at h
 split at h
 ·rename_i hk2
  have z1 : 1 ≤ a ∧ a ≤ 4 ∧ 1 ≤ b ∧ b ≤ 4 := by unfold lo hi at ya yb; rcases hk2 with rfl | rfl <;> simp at ya yb <;> omega
  obtain ⟨p1, p2, p3, p4⟩ := z1
  have va : a = 1 ∨ a = 2 ∨ a = 3 ∨ a = 4 := by omega
  have vb : b = 1 ∨ b = 2 ∨ b = 3 ∨ b = 4 := by omega
  rcases va with rfl | rfl | rfl | rfl <;> rcases vb with rfl | rfl | rfl | rfl <;> first | rfl | (exact absurd h (by decide))
 ·split at h
  ·rename_i h1 h2
   subst h2
   exact names_inj A.binNs (by decide +kernel) (by unfold lo hi at ya; simp at ya; exact ⟨ya.1, by have : A.binNs.length = 14 := rfl; omega⟩) (by unfold lo hi at yb; simp at yb; exact ⟨yb.1, by have : A.binNs.length = 14 := rfl; omega⟩) h
  ·split at h
   ·rename_i h1 h2 h3
    subst h3
    exact names_inj A.unNs (by decide +kernel) (by unfold lo hi at ya; simp at ya; exact ⟨ya.1, by have : A.unNs.length = 9 := rfl; omega⟩) (by unfold lo hi at yb; simp at yb; exact ⟨yb.1, by have : A.unNs.length = 9 := rfl; omega⟩) h
   ·exact W.itoa_inj xa.1 xb.1 h
theorem rowsN_nodup : (List.range 30).all (fun i => (List.range 30).all fun j => decide ((rowsL.getD i row0).name = (rowsL.getD j row0).name → i = j)) = true := by decide +kernel
theorem name_inj {op op' : Int} (h1 : isOp op = true) (h2 : isOp op' = true) (h : (rowAt op).name = (rowAt op').name) : op = op' := by
 have x1 := isOp_yes h1
 have x2 := isOp_yes h2
 unfold rowAt at h
 rw [if_pos h1, if_pos h2] at h
 have e1 := List.all_eq_true.1 rowsN_nodup op.toNat (List.mem_range.2 (by omega))
 have e2 := List.all_eq_true.1 e1 op'.toNat (List.mem_range.2 (by omega))
 have := of_decide_eq_true e2 h
 omega
theorem part_cancel {k a b : Int} {s t : List UInt8} (ha : inK k a = true) (hb : inK k b = true) (hs : s = [] ∨ ∃ r, s = 32 :: r) (ht : t = [] ∨ ∃ r, t = 32 :: r) (h : partL k a ++ s = partL k b ++ t) : a = b ∧ s = t := by
 unfold partL at h
 split at h
 ·rename_i h0
  rw [(in_bounds ha).2.2 h0, (in_bounds hb).2.2 h0]; exact ⟨rfl, by simpa using h⟩
 ·rename_i h0
  simp only [List.cons_append, List.cons.injEq, true_and] at h
  obtain ⟨h1, h2⟩ := split_at (word_no k a) (word_no k b) hs ht h
  exact ⟨word_inj h0 ha hb h1, h2⟩
theorem text_inj {op a b op' a' b' : Int} (h1 : okI op a b = true) (h2 : okI op' a' b' = true) (h : textI op a b = textI op' a' b') : op = op' ∧ a = a' ∧ b = b' := by
 obtain ⟨o1, a1, b1⟩ := ok_op h1
 obtain ⟨o2, a2, b2⟩ := ok_op h2
 have hsp : ∀ k a k' b, (partL k a ++ partL k' b = [] ∨ ∃ r, partL k a ++ partL k' b = 32 :: r) := fun k a k' b => by
  rcases part_sp k a with e | ⟨r, e⟩
  ·rw [e]; exact part_sp k' b
  ·rw [e]; exact .inr ⟨_, rfl⟩
 unfold textI at h
 obtain ⟨e1, h⟩ := split_at (name_no op) (name_no op') (hsp _ _ _ _) (hsp _ _ _ _) h
 have e1 := name_inj o1 o2 e1
 subst e1
 obtain ⟨e2, h2⟩ := part_cancel a1 a2 (part_sp _ _) (part_sp _ _) h
 have h' : partL (rowAt op).kb b ++ [] = partL (rowAt op).kb b' ++ [] := by simpa using h2
 obtain ⟨e3, _⟩ := part_cancel b1 b2 (.inl rfl) (.inl rfl) h'
 exact ⟨rfl, e2, e3⟩

end Go.Proofs.YtghdibbooegocaaGreatDoor.O

namespace Go.Proofs.YtghdibbooegocaaGreatDoor.O

end Go.Proofs.YtghdibbooegocaaGreatDoor.O

namespace Go.Proofs.YtghdibbooegocaaGreatDoor.C
open Go.RowKit O

end Go.Proofs.YtghdibbooegocaaGreatDoor.C

namespace Go.Proofs.YtghdibbooegocaaGreatDoor.F
open Go.RowKit W

end Go.Proofs.YtghdibbooegocaaGreatDoor.F

namespace Go.Proofs.YtghdibbooegocaaGreatDoor.I
open Go.RowKit W

structure Im where
 sh : List (List Int)
 fn : List F.Fu
def names (p : Im) : List (List UInt8) := p.fn.map fun f => f.nm
def adS (s : Nat × Nat) (x : UInt8) : Nat × Nat := (s.1 + x.toNat, s.2 + (s.1 + x.toNat))
def ad (l : List UInt8) : Nat × Nat := l.foldl adS (1, 0)
section
variable {α : Type}
end

instance fuEq : DecidableEq F.Fu := fun a b => decidable_of_iff (F.sameF a b = true) (F.sameF_iff a b)
end Go.Proofs.YtghdibbooegocaaGreatDoor.I

namespace Go.Proofs.YtghdibbooegocaaGreatDoor.O
open Go.RowKit

end Go.Proofs.YtghdibbooegocaaGreatDoor.O

namespace Go.Proofs.YtghdibbooegocaaGreatDoor.O
open Go.RowKit

def nm (k : Nat) : ByteArray := str (rowAt (k : Int)).name
def findFrom (S : ByteArray) : Nat → Nat → Int
 | 0, _ => -1
 | n + 1, k => if nm k = S then (k : Int) else findFrom S n (k + 1)
def findI (S : ByteArray) : Int := findFrom S 30 0
def ofN (S : ByteArray) : Int := if findI S < 0 then 0 else findI S
def ofE (S : ByteArray) : Int := if findI S < 0 then 40 else 0

end Go.Proofs.YtghdibbooegocaaGreatDoor.O

namespace Go.Proofs.YtghdibbooegocaaGreatDoor.O
open Go.RowKit Go.Shelf
attribute [local go_sem] Oper.semAt_some

structure Part where
 k : Int
 n : Int
 sh : Value
 gu : Value
def Part.key (x : Part) : Int × Int := (x.k, x.n)
abbrev partE (x : Part) : Array Value := #[opV x.k x.sh x.gu, .int .i64 x.n]
def partsL (ka kb a b : Int) : List (Int × Int) := if ka = 0 then [] else if kb = 0 then [(ka, a)] else [(ka, a), (kb, b)]
def PartN (ka kb a b : Int) (pre : List Part) (x : Part) (W : World) : Prop := (∃ post, pre.map Part.key ++ x.key :: post = partsL ka kb a b) ∧ FnAt x.k x.sh x.gu W

theorem parts_0 {ka kb a b : Int} (h : ka = 0) : partsL ka kb a b = [] := by unfold partsL; rw [if_pos h]
theorem parts_1 {ka kb a b : Int} (h : ka ≠ 0) (h' : kb = 0) : partsL ka kb a b = [(ka, a)] := by unfold partsL; rw [if_neg h, if_pos h']
theorem parts_2 {ka kb a b : Int} (h : ka ≠ 0) (h' : kb ≠ 0) : partsL ka kb a b = [(ka, a), (kb, b)] := by unfold partsL; rw [if_neg h, if_neg h']

theorem run_index_nums (a b : Int) (w : World) : (Instr.index 127 (.agg #[.int .i64 a, .int .i64 b]) (.int .i64 0)).run Tryz.prog w = .ok (.int .i64 a) w ∧
  (Instr.index 127 (.agg #[.int .i64 a, .int .i64 b]) (.int .i64 1)).run Tryz.prog w = .ok (.int .i64 b) w := by
 have hs : (sizeOf 2).run Tryz.prog w = .ok 1 w := Tryz.sizeOf2 w
 unfold Instr.index
 constructor
 ·simp [run_underlying Tryz.underlying127, asIntOf, hs, part]
 ·simp [run_underlying Tryz.underlying127, asIntOf, hs, part]

set_option maxRecDepth 100000 in
set_option maxHeartbeats 4000000 in
theorem parts1_in (m : Nat) (q : Row) (op a b : Int) (Bx Br : Nat) (hka : 0 ≤ q.ka ∧ q.ka ≤ 10) (hkb : 0 ≤ q.kb ∧ q.kb ≤ 10) (I : List Part → World → Prop)
  (hbx : ∀ pre W, I pre W → Blk W Bx 45 #[.int .i64 op, .int .i64 a, .int .i64 b]) (hbr : ∀ pre W, I pre W → Blk W Br 82 (cells9 q)) :
  Brings Tryz.prog m (m + 1) 102 #[.pointer (some ⟨Bx, 0, none⟩), .pointer (some ⟨Br, 0, none⟩)] partE I (PartN q.ka q.kb a b) (fun xs => xs.map Part.key = partsL q.ka q.kb a b) := by
 intro L J hJk hJI hY W h0
 refine callsIn_of_wp Tryz.func102 rfl trivial ?_ rfl
 simp only [Tryz.ntmps102, List.size_toArray, List.length_cons, List.length_nil, Nat.reduceAdd, Nat.reduceSub, Array.replicate_succ, Array.replicate_zero, List.push_toArray, List.append_toArray, List.nil_append, List.cons_append]
 have x0 := hbx _ _ (hJI _ _ h0)
 have c1 : W.cell? ⟨Bx, 1, none⟩ = some (.int .i64 a) := x0.cell 1
 have c2 : W.cell? ⟨Bx, 2, none⟩ = some (.int .i64 b) := x0.cell 2
 clear x0
 gi_wp2
 gi_loopw [11] (fun i wr => ∃ (k : Nat) (pre : List Part), k ≤ 2 ∧ i = .int .i64 (k : Int) ∧ Hid (pre.map Part.key = [(q.ka, a), (q.kb, b)].take k ∧ (1 ≤ k → q.ka ≠ 0) ∧ (2 ≤ k → q.kb ≠ 0)) ∧ J pre wr)
  (fun i _ => 2 - (intOf i).toNat)
 case atStart => exact ⟨0, [], by omega, rfl, ⟨rfl, fun h => by omega, fun h => by omega⟩, h0⟩
 case round =>
  obtain ⟨k, pre, hk, rfl, HP, hJ⟩ := hrel
  have r0 := hbr _ _ (hJI _ _ hJ)
  have d1 : wr.cell? ⟨Br, 1, none⟩ = some (.int .i64 q.ka) := r0.cell 1
  have d2 : wr.cell? ⟨Br, 2, none⟩ = some (.int .i64 q.kb) := r0.cell 2
  clear r0 c1 c2
  have hix := fun w => run_index_nums a b w
  have hi0 := fun w => (hix w).1
  have hi1 := fun w => (hix w).2
  clear hix
  obtain rfl | rfl | rfl : k = 0 ∨ k = 1 ∨ k = 2 := by omega
  ·by_cases hz : q.ka = 0
   ·have hS : Hid (pre.map Part.key = partsL q.ka q.kb a b) := by show _ = _; rw [HP.out.1, parts_0 hz]; rfl
    have e0 : (q.ka == 0) = true := by rw [beq_iff_eq]; exact hz
    clear HP hz hka hkb
    rw [show ((0 : Nat) : Int) = 0 from rfl]
    gi_wp2
    refine ⟨trivial, ?_⟩
    gi_wp2
    refine ⟨fun _ h => (by cases h), ?_⟩
    gi_wp2
    refine bodyPost_ret (results_none rfl _ _ _) rfl ?_
    exact ⟨⟨_, rfl⟩, pre, hS.out, hJ⟩
   ·have e0 : (q.ka == 0) = false := by rw [beq_eq_false_iff_ne]; exact hz
    have HN : Hid (pre.map Part.key ++ (q.ka, a) :: (if q.kb = 0 then [] else [(q.kb, b)]) = partsL q.ka q.kb a b) := by show _ = _; rw [HP.out.1]; unfold partsL; rw [if_neg hz]; split <;> rfl
    have HQ : Hid (∀ x : Part, x.key = (q.ka, a) → (pre ++ [x]).map Part.key = [(q.ka, a), (q.kb, b)].take 1) := by intro x hx; rw [List.map_append, HP.out.1]; simp [hx]
    have hp1 := HP.out.2.1
    have HZ : Hid ((1 ≤ 1 → q.ka ≠ 0) ∧ (2 ≤ 1 → q.kb ≠ 0)) := ⟨fun _ => hz, fun h => by omega⟩
    clear HP hz hp1
    rw [show ((0 : Nat) : Int) = 0 from rfl]
    gi_wp2_with (refine ⟨trivial, ?_⟩; gi_at_call 79; refine (callsIn_wide.2 (operandOf_any q.ka hka _)).mono ?_; rintro e w1 ⟨sh, gu, rfl, hF, k1⟩; have hJ1 := hJk _ _ _ hJ k1; obtain ⟨fn, tmps, assign, body, hy, hR⟩ := hY pre ⟨q.ka, a, sh, gu⟩ w1 hJ1 ⟨⟨_, HN.out⟩, hF⟩; dsimp only [partE] at hy)
    refine hR.mono ?_
    rintro e W3 ⟨rfl, hJ3⟩
    gi_wp2
    go_roundw
    case rel => exact ⟨1, pre ++ [_], by omega, rfl, ⟨HQ.out _ rfl, HZ.out⟩, hJ3⟩
    case measure => simp [intOf]
  ·by_cases hz : q.kb = 0
   ·have hS : Hid (pre.map Part.key = partsL q.ka q.kb a b) := by show _ = _; rw [HP.out.1, parts_1 (HP.out.2.1 (by omega)) hz]; rfl
    have e0 : (q.kb == 0) = true := by rw [beq_iff_eq]; exact hz
    clear HP hz hka hkb
    rw [show ((1 : Nat) : Int) = 1 from rfl]
    gi_wp2
    refine ⟨trivial, ?_⟩
    gi_wp2
    refine ⟨fun _ h => (by cases h), ?_⟩
    gi_wp2
    refine bodyPost_ret (results_none rfl _ _ _) rfl ?_
    exact ⟨⟨_, rfl⟩, pre, hS.out, hJ⟩
   ·have e0 : (q.kb == 0) = false := by rw [beq_eq_false_iff_ne]; exact hz
    have HN : Hid (pre.map Part.key ++ (q.kb, b) :: [] = partsL q.ka q.kb a b) := by show _ = _; rw [HP.out.1, parts_2 (HP.out.2.1 (by omega)) hz]; rfl
    have HQ : Hid (∀ x : Part, x.key = (q.kb, b) → (pre ++ [x]).map Part.key = [(q.ka, a), (q.kb, b)].take 2) := by intro x hx; rw [List.map_append, HP.out.1]; simp [hx]
    have hp1 := HP.out.2.1
    have HZ : Hid ((1 ≤ 2 → q.ka ≠ 0) ∧ (2 ≤ 2 → q.kb ≠ 0)) := ⟨fun _ => hp1 (by omega), fun _ => hz⟩
    clear HP hz hp1
    rw [show ((1 : Nat) : Int) = 1 from rfl]
    gi_wp2_with (refine ⟨trivial, ?_⟩; gi_at_call 79; refine (callsIn_wide.2 (operandOf_any q.kb hkb _)).mono ?_; rintro e w1 ⟨sh, gu, rfl, hF, k1⟩; have hJ1 := hJk _ _ _ hJ k1; obtain ⟨fn, tmps, assign, body, hy, hR⟩ := hY pre ⟨q.kb, b, sh, gu⟩ w1 hJ1 ⟨⟨_, HN.out⟩, hF⟩; dsimp only [partE] at hy)
    refine hR.mono ?_
    rintro e W3 ⟨rfl, hJ3⟩
    gi_wp2
    go_roundw
    case rel => exact ⟨2, pre ++ [_], by omega, rfl, ⟨HQ.out _ rfl, HZ.out⟩, hJ3⟩
    case measure => simp [intOf]
  ·have hS : Hid (pre.map Part.key = partsL q.ka q.kb a b) := by show _ = _; rw [HP.out.1, parts_2 (HP.out.2.1 (by omega)) (HP.out.2.2 (by omega))]; rfl
   clear HP hka hkb
   rw [show ((2 : Nat) : Int) = 2 from rfl]
   gi_wp2
   go_end0
   exact ⟨⟨_, rfl⟩, pre, hS.out, hJ⟩

end Go.Proofs.YtghdibbooegocaaGreatDoor.O
