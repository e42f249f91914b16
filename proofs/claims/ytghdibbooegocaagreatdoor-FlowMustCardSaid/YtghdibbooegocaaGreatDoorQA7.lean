/-
  Part 7 of the proofs of GLoopsRow, GReachRow, GMustRow, GNamesRow: what is laid, and what the functions that the law runs answer. Conditions: each theorem names its own.
-/
import Derived.IntWalk
import Derived.LaidLaws
import Derived.LaidMore
import Derived.Lib.AppendIntMem
import Derived.Lib.SmallJoins
import Derived.OpenShut
import Derived.Test.YtghdibbooegocaaGreatDoorQA6
namespace Go.Proofs.YtghdibbooegocaaGreatDoor.G
open Go.RowKit

abbrev nz (l : List Nat) : List Int := l.map fun x : Nat => (x : Int)
def StAt (T : BSet) (A : Option Addr) (Bf : Nat → Option Addr) (cf : Nat → Nat) (n : Nat) (s : Nat → List Nat) (W : World) : Prop :=
 ∀ i, i < n → ∃ g, A = some ⟨g, 0, none⟩ ∧ T g ∧ W.cell? ⟨g, i, none⟩ = some (.slice (Bf i) (s i).length (cf i)) ∧ Rd W (Bf i) (ivs (nz (s i))) ∧ (0 < (s i).length → ∀ ad, Bf i = some ad → T ad.block)
section
variable {T O : BSet} {A : Option Addr} {Bf : Nat → Option Addr} {cf : Nat → Nat} {n : Nat} {s : Nat → List Nat} {W W' : World}
theorem StAt.keep (h : StAt T A Bf cf n s W) (hk : Keep O W W') (hO : ∀ k, T k → ¬ O k) : StAt T A Bf cf n s W' := fun i hi => by
 obtain ⟨g, h1, h2, h3, h4, h5⟩ := h i hi
 refine ⟨g, h1, h2, hk.cell h3 (hO g h2), fun h0 => ?_, h5⟩
 have hl : 0 < (s i).length := by simpa [nz] using h0
 exact h4.keep hk (fun ad e => hO _ (h5 hl ad e)) h0
theorem StAt.keepN (h : StAt T A Bf cf n s W) (hk : Keep NoB W W') : StAt T A Bf cf n s W' := h.keep hk (fun _ _ => id)
theorem StAt.here (h : StAt T A Bf cf n s W) : StAt (fun k => k < W.heap.size) A Bf cf n s W := fun i hi => by
 obtain ⟨g, h1, h2, h3, h4, h5⟩ := h i hi
 refine ⟨g, h1, World.block_lt_of_cell? W _ h3, h3, h4, fun hl ad e => ?_⟩
 obtain ⟨gb, o, e2, hc⟩ := h4 (by simpa [nz] using hl)
 rw [e] at e2
 cases e2
 have := hc 0 _ (List.getElem?_eq_getElem (by simpa [nz] using hl))
 exact World.block_lt_of_cell? W _ this
theorem StAt.mono {T' : BSet} (h : StAt T A Bf cf n s W) (hT : ∀ k, T k → T' k) : StAt T' A Bf cf n s W := fun i hi => by
 obtain ⟨g, h1, h2, h3, h4, h5⟩ := h i hi
 exact ⟨g, h1, hT _ h2, h3, h4, fun hl ad e => hT _ (h5 hl ad e)⟩
theorem nz_len (l : List Nat) : (nz l).length = l.length := List.length_map ..
theorem rd_steps {B : Option Addr} {l : List Nat} (h : Rd W B (ivs (nz l))) (h0 : 0 < l.length) : ∃ g o, B = some ⟨g, o, none⟩ ∧ ∀ (j x : Nat), l[j]? = some x → W.cell? ⟨g, o + j, none⟩ = some (.int .i64 (x : Int)) := by
 obtain ⟨g, o, e, hc⟩ := h (by simpa [nz] using h0)
 exact ⟨g, o, e, fun j x hj => hc j _ (by simp [nz, hj])⟩
end

structure NrAt (fr : Nat) (A : Option Addr) (Bf : Nat → Option Addr) (cf : Nat → Nat) (n c : Nat) (s : Nat → List Nat) (fo : Nat) (lo : Array Value) (bf bs bo : Nat) (W : World) : Prop where
 kf : Blk W bf 3 #[.int .i64 (fr : Int)]
 ks : Blk W bs 49 #[.slice A n c]
 ko : Blk W bo 59 #[.func (.func fo) #[] lo]
 st : StAt (fun _ => True) A Bf cf n s W
def NrH (B0 fr : Nat) (A : Option Addr) (Bf : Nat → Option Addr) (cf : Nat → Nat) (n c : Nat) (s : Nat → List Nat) (fo : Nat) (lo : Array Value) (bf bs bo : Nat) (W : World) : Prop :=
 Blk W bf 3 #[.int .i64 (fr : Int)] ∧ Blk W bs 49 #[.slice A n c] ∧ Blk W bo 59 #[.func (.func fo) #[] lo] ∧ StAt (fun k => k < B0) A Bf cf n s W
theorem NrH.nr {B0 fr : Nat} {A : Option Addr} {Bf : Nat → Option Addr} {cf : Nat → Nat} {n c : Nat} {s : Nat → List Nat} {fo : Nat} {lo : Array Value} {bf bs bo : Nat} {W : World} (h : NrH B0 fr A Bf cf n c s fo lo bf bs bo W) : NrAt fr A Bf cf n c s fo lo bf bs bo W :=
 ⟨h.1, h.2.1, h.2.2.1, h.2.2.2.mono (fun _ _ => trivial)⟩
theorem NrH.keep {B0 fr : Nat} {A : Option Addr} {Bf : Nat → Option Addr} {cf : Nat → Nat} {n c : Nat} {s : Nat → List Nat} {fo : Nat} {lo : Array Value} {bf bs bo : Nat} {W W' : World} {O : BSet} (h : NrH B0 fr A Bf cf n c s fo lo bf bs bo W) (hk : Keep O W W')
  (h0 : ∀ k, k < B0 → ¬ O k) (h1 : ¬ O bf) (h2 : ¬ O bs) (h3 : ¬ O bo) : NrH B0 fr A Bf cf n c s fo lo bf bs bo W' :=
 ⟨h.1.keep hk h1, h.2.1.keep hk h2, h.2.2.1.keep hk h3, h.2.2.2.keep hk h0⟩
abbrev encN (x : Nat × Nat) : Array Value := #[.int .i64 (x.1 : Int), .int .i64 (x.2 : Int)]
def EnN (n : Nat) (s : Nat → List Nat) (op : Nat → Bool) (fr : Nat) (pre : List (Nat × Nat)) (x : Nat × Nat) : Prop := fr < n ∧ ∃ met, Near s op fr pre.length met ∧ pre = met.take pre.length ∧ met[pre.length]? = some x
theorem EnN.new {n : Nat} {s : Nat → List Nat} {op : Nat → Bool} {fr : Nat} {pre : List (Nat × Nat)} {x : Nat × Nat} (h : EnN n s op fr pre x) (hs : ∀ i a, i < n → a ∈ s i → a < n) : x.1 ∉ keysN pre ∧ x.1 < n ∧ x.2 < n ∧ pre.length ≤ n := by
 obtain ⟨hf, met, hnr, hpre, hmx⟩ := h
 refine ⟨fun h => ?_, hnr.lt hf hs _ (mem_keys_iff.2 ⟨_, _, hmx, rfl⟩), hnr.lt hf hs _ (hnr.snd _ (List.mem_of_getElem? hmx)), Nat.le_trans hnr.le (hnr.len hf hs)⟩
 obtain ⟨i, e, hi, he⟩ := mem_keys_iff.1 h
 have hil := (List.getElem?_eq_some_iff.1 hi).1
 rw [hpre, List.getElem?_take, if_pos hil] at hi
 have h1 : (keysN met)[i]? = some x.1 := by unfold keysN; rw [List.getElem?_map, hi]; exact congrArg some he
 have h2 : (keysN met)[pre.length]? = some x.1 := by unfold keysN; rw [List.getElem?_map, hmx]; rfl
 have := nodup_at hnr.nodup h1 h2
 omega
def AllN (s : Nat → List Nat) (op : Nat → Bool) (fr : Nat) (xs : List (Nat × Nat)) : Prop := Near s op fr xs.length xs
def line (met : List (Nat × Nat)) (k : Nat) : List Int := (met.drop k).map fun e => (e.1 : Int)
theorem line_len (met : List (Nat × Nat)) (k : Nat) : (line met k).length = met.length - k := by unfold line; rw [List.length_map, List.length_drop]
theorem line_at {met : List (Nat × Nat)} {k : Nat} {e : Nat × Nat} (h : met[k]? = some e) : line met k = (e.1 : Int) :: line met (k + 1) := by
 obtain ⟨hl, rfl⟩ := List.getElem?_eq_some_iff.1 h
 unfold line
 rw [List.drop_eq_getElem_cons hl, List.map_cons]
theorem line_snoc {met : List (Nat × Nat)} {k : Nat} (hk : k ≤ met.length) (x p : Nat) : line (met ++ [(x, p)]) k = line met k ++ [(x : Int)] := by
 unfold line
 rw [List.drop_append_of_le_length hk, List.map_append]
 rfl
theorem putO_look {met : List (Nat × Nat)} {x p : Nat} (h : x ∉ keysN met) (y : Int) : lookN (met ++ [(x, p)]) y = putO (lookN met) (x : Int) p y := look_snoc h y
def lenOf (v : Value) : Nat := match v with
 | .slice _ n _ => n
 | _ => 0
end Go.Proofs.YtghdibbooegocaaGreatDoor.G

namespace Go.Proofs.YtghdibbooegocaaGreatDoor.G
open Go.RowKit Go.Shelf W
attribute [local go_sem] Oper.semAt_some

theorem int_zeroG (w : World) : (zeroValue 3).run Tryz.prog w = .ok (.int .i64 0) w := by kernel_rfl
theorem wfN {x : Nat} (h : x < 10000) : (Lit.int .i64 (x : Int)).wf = true := WalkArith.wf_i64 (by omega)

structure NrI (J : List (Nat × Nat) → BSet → World → Prop) (H : World → Prop) (s : Nat → List Nat) (op : Nat → Bool) (fr n m0 bm : Nat) (p0 : BSet) (k : Nat) (met : List (Nat × Nat)) (p : BSet) (g : Nat) (v : Value) (W : World) : Prop where
 near : Near s op fr k met
 qu : Qu g v (line met k) W
 map : OMapS Tryz.prog 3 3 bm met.length (lookN met) W
 j : J (met.take k) p W
 nbm : ¬ p bm
 ng : ¬ p g
 hbm : m0 ≤ bm
 hg : m0 ≤ g
 h : H W
 own : ∀ k, k < m0 → p k → p0 k
structure NrJ (J : List (Nat × Nat) → BSet → World → Prop) (H : World → Prop) (s : Nat → List Nat) (op : Nat → Bool) (fr n m0 bm : Nat) (p0 : BSet) (k : Nat) (met : List (Nat × Nat)) (q : Nat) (i : Nat) (met2 : List (Nat × Nat)) (p : BSet) (g : Nat) (v : Value) (W : World) : Prop where
 eq : met2 = meetAll op q ((s q).take i) met
 qu : Qu g v (line met2 (k + 1)) W
 map : OMapS Tryz.prog 3 3 bm met2.length (lookN met2) W
 j : J (met.take (k + 1)) p W
 nbm : ¬ p bm
 ng : ¬ p g
 hbm : m0 ≤ bm
 hg : m0 ≤ g
 h : H W
 own : ∀ k, k < m0 → p k → p0 k

section
variable {J : List (Nat × Nat) → BSet → World → Prop} {H : World → Prop} {s : Nat → List Nat} {op : Nat → Bool} {fr n m0 bm k q i g : Nat} {p0 p : BSet} {met met2 : List (Nat × Nat)} {v : Value} {W : World}
theorem NrJ.len (h : NrJ J H s op fr n m0 bm p0 k met q i met2 p g v W) (hn : Near s op fr k met) (hf : fr < n) (hs : ∀ i a, i < n → a ∈ s i → a < n) (hq : q < n) : met2.length ≤ n := by
 have h1 : (keysN met2).Nodup := by rw [h.eq]; exact meetAll_nodup _ hn.nodup
 have h2 : ∀ y ∈ keysN met2, y < n := fun y hy => by
  rw [h.eq, meetAll_mem] at hy
  rcases hy with hy | ⟨hy, _⟩
  ·exact hn.lt hf hs y hy
  ·exact hs q y hq (List.mem_of_mem_take hy)
 have := nodup_len n _ h1 h2
 simpa [keysN] using this
theorem NrJ.pre (h : NrJ J H s op fr n m0 bm p0 k met q i met2 p g v W) : met.length ≤ met2.length ∧ (k < met.length → met.take (k + 1) = met2.take (k + 1)) := by
 obtain ⟨r, hr⟩ := meetAll_prefix (op := op) (p := q) ((s q).take i) met
 rw [h.eq, ← hr, List.length_append]
 exact ⟨by omega, fun hk => by rw [List.take_append_of_le_length hk]⟩
theorem NrJ.ne (h : NrJ J H s op fr n m0 bm p0 k met q i met2 p g v W) : g ≠ bm := by
 obtain ⟨es, c, hb⟩ := h.map.omap.obj
 obtain ⟨_, _, cur, _, hB, _⟩ := h.qu
 rintro rfl
 have := (show W.heap[g]? = _ from hB).symm.trans hb
 simp at this
end
theorem yield_anyG {m n : Nat} {P : Program} {l : Nat} {args : Array Value} {W : World} {R : Ending → World → Prop} (h : YieldAt Fence.wide m P l args W R) : YieldAt Fence.wide n P l args W R := by
 obtain ⟨f1, f2, f3, f4, h1, h2, h3⟩ := h
 exact ⟨f1, f2, f3, f4, h1, h2, fun c cs _ => h3 c cs (room_wide _)⟩
theorem take_snoc {met : List (Nat × Nat)} {k : Nat} {e : Nat × Nat} (h : met[k]? = some e) : met.take k ++ [e] = met.take (k + 1) := by
 obtain ⟨hl, rfl⟩ := List.getElem?_eq_some_iff.1 h
 exact (List.take_succ_eq_append_getElem hl).symm

set_option maxRecDepth 100000 in
set_option maxHeartbeats 8000000 in
theorem near_stops (m k fr n c fo bf bs bo : Nat) (A : Option Addr) (Bf : Nat → Option Addr) (cf : Nat → Nat) (s : Nat → List Nat) (op : Nat → Bool) (lo : Array Value) (hn : n ≤ 1000) (hfr : n ≠ 0 → fr < n) (hf2 : fr ≤ 1000) (hs : Hid (∀ i a, i < n → a ∈ s i → a < n)) (hsl : Hid (∀ i, i < n → (s i).length ≤ 2)) (H : World → Prop) (Fa : List (Nat × Nat) → World → Prop)
  (hH : Hid (∀ W, H W → NrAt fr A Bf cf n c s fo lo bf bs bo W)) (eg : ∀ args w, (callFunc fo args).run Tryz.prog w = .ok (.enter fo args) w)
  (hO : Hid (∀ pre W (q : Nat), Fa pre W → q ∉ keysN pre → q < n → Calls Tryz.prog fo (#[.int .i64 (q : Int)] ++ lo) W fun e W' => e = .returned (.bool (op q)) ∧ W' = W)) :
  StopsF Tryz.prog m k 64 #[.pointer (some ⟨bf, 0, none⟩), .pointer (some ⟨bs, 0, none⟩), .pointer (some ⟨bo, 0, none⟩)] encN H Fa (EnN n s op fr) (fun xs => (n = 0 ∧ xs = []) ∨ (n ≠ 0 ∧ AllN s op fr xs)) (fun _ => True) := by
 intro L J Jx p W hJ hJx hb hFa hY h0 hp0 hH0 hst
 have hn0 := hH.out W hH0
 have cf := hn0.kf.cell 0
 have cs := hn0.ks.cell 0
 simp only [List.getElem?_toArray, List.getElem?_cons_zero] at cf cs
 have hmm := @run_makeMap Tryz.prog
 obtain ⟨i0, hi, hz0, hz1, hz2⟩ := info_parts int_info
 have hwf : (Lit.int .i64 (fr : Int)).wf = true := wfN (by omega)
 obtain ⟨W1, hins, hI1, hg1⟩ := (OMapS.new Tryz.prog 3 3 W).update (t := 51) Tryz.underlying51 Tryz.underlying3 Tryz.underlying3 (by decide) (fr : Int) fr rfl hwf hwf
 have cf1 : (W.alloc (.map #[] 0)).cell? ⟨bf, 0, none⟩ = some (.int .i64 (fr : Int)) := ((Keep.refl NoB W).alloc _).cell cf id
 have k1 : Keep NoB W W1 := ((Keep.refl NoB W).alloc _).grown hg1 (fun g e hl => by cases e; exact absurd hl (Nat.lt_irrefl _))
 have cf2 : W1.cell? ⟨bf, 0, none⟩ = some (.int .i64 (fr : Int)) := k1.cell cf id
 have hz1s : W.heap.size < W1.heap.size := hI1.omap.lt
 have hW2 : Hid (n ≠ 0 → NrI J H s op fr n W.heap.size W.heap.size p 0 [(fr, fr)] p W1.heap.size (.slice (some ⟨W1.heap.size, 0, none⟩) 1 1) (W1.alloc (.cells #[.int .i64 (fr : Int)] 3))) := fun _ => by
  have k2 : Keep NoB W (W1.alloc (.cells #[.int .i64 (fr : Int)] 3)) := k1.alloc _
  refine ⟨.start, Qu.new W1 _, ?_, ?_, fun h => by have := hp0 _ h; omega, fun h => by have := hp0 _ h; omega, Nat.le_refl _, by omega, hst NoB _ _ (fun _ h => h.elim) hH0 k2, fun k _ h => h⟩
  ·refine (hI1.keep ((Keep.refl NoB _).alloc _) id).congr fun y => ?_
   have := putO_look (met := []) (x := fr) (p := fr) (by simp [keysN]) y
   rw [List.nil_append] at this
   exact this
  ·exact hJ _ _ _ _ h0 (k2.mono fun _ h => h.elim)
 have HY := Lib.hid hY
 have HJ := Lib.hid hJ
 have HF := Lib.hid hFa
 have HB := Lib.hid hb
 have HT := Lib.hid hst
 have HP := Lib.hid hp0
 have H0 := Lib.hid (And.intro h0 hH0)
 clear hY hJ hJx hFa hb hst hp0 h0 hH0 hn0 hI1 hg1 k1
 refine callsIn_of_wp Tryz.func64 rfl trivial ?_ rfl
 simp only [Tryz.ntmps64, List.size_toArray, List.length_cons, List.length_nil, Nat.reduceAdd, Nat.reduceSub, Array.replicate_succ, Array.replicate_zero, List.push_toArray, List.append_toArray, List.nil_append, List.cons_append]
 by_cases hz : n = 0
 ·have hq : ((n : Nat) : Int) ≤ (fr : Int) := by omega
  clear hW2 hins hmm
  gi_wp2
  refine bodyPost_ret (results_none rfl _ _ _) rfl ?_
  exact ⟨⟨_, rfl⟩, p, .inl ⟨[], .inl ⟨hz, rfl⟩, H0.out.1⟩⟩
 have hfn := hfr hz
 have hq : ¬ ((n : Nat) : Int) ≤ (fr : Int) := by omega
 have hI2 := Lib.hid (hW2.out hz)
 clear hW2 hfr
 gi_wp2
 generalize hW2 : W1.alloc (.cells #[.int .i64 (fr : Int)] 3) = W2 at *
 clear hW2 cf1 cf2 hins hmm cf cs
 gi_loopw [6] (fun v wr => ∃ (k0 : Nat) (met : List (Nat × Nat)) (p' : BSet) (g : Nat), Hid (NrI J H s op fr n W.heap.size W.heap.size p k0 met p' g v wr)) (fun v wr => n + lenOf v - mapSize wr W.heap.size)
 case atStart => exact ⟨0, _, p, _, hI2⟩
 case round =>
  obtain ⟨k0, met, p2, g, HI⟩ := hrel
  have hle := HI.out.near.le
  have hlen : met.length ≤ n := HI.out.near.len hfn hs.out
  by_cases hk : k0 < met.length
  ·have he := List.getElem?_eq_getElem hk
   obtain ⟨⟨q, from0⟩, hqe⟩ : ∃ e, met[k0] = e := ⟨_, rfl⟩
   rw [hqe] at he
   have hql := line_at he
   have hqu := HI.out.qu
   rw [hql] at hqu
   obtain ⟨off, cap, o1, c1, rfl, hc0, hcap, hcm, ho1, hqu1⟩ := hqu.rest
   rw [line_len] at hcap hqu1
   have hqm : q ∈ keysN met := mem_keys_iff.2 ⟨k0, _, he, rfl⟩
   have hqn : q < n := HI.out.near.lt hfn hs.out q hqm
   have hlk := HI.out.map.omap.look (t := 51) Tryz.underlying51 Tryz.underlying3 Tryz.underlying3 (int_zeroG _) (q : Int) (wfN (by omega))
   rw [look_mem HI.out.near.nodup he, Option.getD_some] at hlk
   have hpl : (met.take k0).length = k0 := by rw [List.length_take]; omega
   have hen : EnN n s op fr (met.take k0) (q, from0) := ⟨hfn, met, by rw [hpl]; exact HI.out.near, by rw [hpl], by rw [hpl]; exact he⟩
   have HY1 : YieldAt Fence.wide (k - 1) Tryz.prog L #[.int .i64 (q : Int), .int .i64 (from0 : Int)] wr _ := yield_anyG (n := k - 1) (HY.out _ _ _ _ HI.out.j hen)
   have hms := HI.out.map.size
   obtain ⟨fn, tmps, assign, body, hy, hR⟩ := HY1
   have hlc : (line met (k0 + 1)).length = met.length - (k0 + 1) := line_len _ _
   have q0 : (0 : Int) < ((met.length - (k0 + 1) + 1 : Nat) : Int) := by omega
   have HQ := Lib.hid hqu1
   rw [hlc]
   clear hqu hqu1 hql hqe
   generalize hN : met.length - (k0 + 1) = N1 at *
   rcases ho1 with ⟨rfl, rfl, rfl⟩ | ⟨hc1, rfl, rfl⟩
   case' inl => obtain rfl : N1 = 0 := by omega
   all_goals
    gi_wp2
    refine ⟨(fun h => by cases h), hR.mono ?_⟩
    clear hR hy hc0 hlk
    generalize Value.slice (some ⟨g, _, none⟩) _ _ = v1 at HQ ⊢
    rintro e W3 ⟨p3, hr3, ⟨rfl, hj3⟩ | ⟨rfl, hx3⟩⟩
    ·have hj := HI.out
     have hown3 : ∀ k, k < W.heap.size → p3 k → p k := fun k hk h3 => hj.own k hk (hr3.own k (Nat.lt_of_lt_of_le hk (by have := hj.map.omap.lt; omega)) h3)
     have hH3 : H W3 := HT.out p2 wr W3 (fun k hk => by
      rcases Nat.lt_or_ge k W.heap.size with h | h
      ·exact .inl (hj.own k h hk)
      ·exact .inr h) hj.h hr3.keep
     have hbm3 : ¬ p3 W.heap.size := hr3.not hj.map.omap.lt hj.nbm
     have hg3 : ¬ p3 g := hr3.not hj.qu.lt hj.ng
     have hJJ : Hid (NrJ J H s op fr n W.heap.size W.heap.size p k0 met q 0 met p3 g v1 W3) :=
      ⟨by simp [meetAll], HQ.out.keep hr3.keep hj.ng, hj.map.keep hr3.keep hj.nbm, by rw [← take_snoc he]; exact hj3, hbm3, hg3, hj.hbm, hj.hg, hH3, hown3⟩
     clear hj hown3 hbm3 hg3 hj3 hr3
     have hn3 := hH.out W3 hH3
     have cs3 := hn3.ks.cell 0
     simp only [List.getElem?_toArray, List.getElem?_cons_zero] at cs3
     obtain ⟨gs, rfl, _, cq, _, _⟩ := hn3.st q hqn
     obtain ⟨B, hB⟩ : ∃ B, Bf q = B := ⟨_, rfl⟩
     generalize cf q = cB at cq
     rw [hB] at cq
     obtain ⟨ln, hln⟩ : ∃ ln, (s q).length = ln := ⟨_, rfl⟩
     rw [hln] at cq
     have hl2 : ln ≤ 2 := by rw [← hln]; exact hsl.out q hqn
     have HRd : Hid (∀ wx, H wx → Rd wx B (ivs (nz (s q)))) := fun wx h => by
      obtain ⟨_, _, _, _, h2, _⟩ := (hH.out wx h).st q hqn
      rw [← hB]; exact h2
     clear hn3 hH3 HQ
     gi_wp2
     clear cq cs3
     gi_loopw [6, 42] (fun v i wr2 => ∃ (j : Nat) (met2 : List (Nat × Nat)) (p4 : BSet) (g4 : Nat), j ≤ ln ∧ i = .int .i64 (j : Int) ∧ Hid (NrJ J H s op fr n W.heap.size W.heap.size p k0 met q j met2 p4 g4 v wr2)) (fun _ i _ => ln - (intOf i).toNat)
     case atStart => exact ⟨0, met, p3, g, Nat.zero_le _, rfl, hJJ⟩
     case round =>
      obtain ⟨j, met2, p4, g4, hj, rfl, HI2⟩ := hrel
      by_cases hlt : j < ln
      ·have hjl : j < (s q).length := by rw [hln]; exact hlt
       obtain ⟨gb, ob, rfl, hcb⟩ := rd_steps (HRd.out _ HI2.out.h) (by omega)
       have hx := List.getElem?_eq_getElem hjl
       have cx := hcb j _ hx
       have hsn : meetAll op q ((s q).take (j + 1)) met = meetOne op q met2 (s q)[j] := by
        rw [List.take_succ_eq_append_getElem hjl, meetAll_snoc, ← HI2.out.eq]
       have hxn : (s q)[j] < n := hs.out q _ hqn (List.getElem_mem hjl)
       generalize (s q)[j] = x at cx hsn hxn
       have hwx := wfN (x := x) (by omega)
       have hlk2 := HI2.out.map.omap.look2 (t := 51) Tryz.underlying51 Tryz.underlying3 Tryz.underlying3 (int_zeroG _) (x : Int) hwx
       clear hx hcb
       cases hl : lookN met2 (x : Int) with
       | some v0 =>
        have hxm : x ∈ keysN met2 := Classical.byContradiction fun h => by rw [look_nat.2 h] at hl; cases hl
        have hsm : meetOne op q met2 x = met2 := if_pos hxm
        rw [hsm] at hsn
        rw [hl] at hlk2
        simp only [Option.getD_some, Option.isSome_some] at hlk2
        have hi2 := HI2.out
        have HN : Hid (NrJ J H s op fr n W.heap.size W.heap.size p k0 met q (j + 1) met2 p4 g4 u6 wr) :=
         ⟨hsn.symm, hi2.qu, hi2.map, hi2.j, hi2.nbm, hi2.ng, hi2.hbm, hi2.hg, hi2.h, hi2.own⟩
        clear hl hi2 HI2 hJJ
        gi_wp2
        refine ⟨(fun f hf => by cases hf), ?_⟩
        gi_wp2
        go_roundw
        case rel => exact ⟨j + 1, met2, p4, g4, by omega, by go_num, HN⟩
        case measure => simp [intOf]; omega
       | none =>
        have hxm : x ∉ keysN met2 := look_nat.1 hl
        rw [hl] at hlk2
        simp only [Option.getD_none, Option.isSome_none] at hlk2
        have hi2 := HI2.out
        have co := (hH.out wr hi2.h).ko.cell 0
        simp only [List.getElem?_toArray, List.getElem?_cons_zero] at co
        have hsub : ∀ y ∈ keysN (met.take (k0 + 1)), y ∈ keysN met2 := fun y hy => by
         rw [hi2.eq, meetAll_mem]
         obtain ⟨i', e', hi', he'⟩ := mem_keys_iff.1 hy
         rw [List.getElem?_take] at hi'
         split at hi'
         ·exact .inl (mem_keys_iff.2 ⟨i', e', hi', he'⟩)
         ·cases hi'
        have HC := Lib.hid (hO.out (met.take (k0 + 1)) wr x (HF.out _ _ _ hi2.j) (fun h => hxm (hsub x h)) hxn)
        clear hl hsub
        cases hop : op x with
        | false =>
         have hsm : meetOne op q met2 x = met2 := by unfold meetOne; rw [if_neg hxm, if_neg (by rw [hop]; decide)]
         rw [hsm] at hsn
         rw [hop] at HC
         have HN : Hid (NrJ J H s op fr n W.heap.size W.heap.size p k0 met q (j + 1) met2 p4 g4 u6 wr) :=
          ⟨hsn.symm, hi2.qu, hi2.map, hi2.j, hi2.nbm, hi2.ng, hi2.hbm, hi2.hg, hi2.h, hi2.own⟩
         clear hi2 HI2 hJJ hop
         gi_wp2
         refine ⟨trivial, (fun h => by cases h), (callsIn_wide.2 HC.out).mono ?_⟩
         rintro e w9 ⟨rfl, rfl⟩
         gi_wp2
         go_roundw
         case rel => exact ⟨j + 1, met2, p4, g4, by omega, by go_num, HN⟩
         case measure => simp [intOf]; omega
        | true =>
         have hsm : meetOne op q met2 x = met2 ++ [(x, q)] := by unfold meetOne; rw [if_neg hxm, if_pos hop]
         rw [hsm] at hsn
         rw [hop] at HC
         have hm2 : met2.length ≤ n := NrJ.len hi2 HI.out.near hfn hs.out hqn
         have hpre := NrJ.pre hi2
         have hwq := wfN (x := q) (by omega)
         obtain ⟨w5, hup, hM5, hg5⟩ := hi2.map.update (t := 51) Tryz.underlying51 Tryz.underlying3 Tryz.underlying3 (by unfold maxLen; omega) (x : Int) q (look_nat.2 hxm) hwx hwq
         have hgb : g4 ≠ W.heap.size := hi2.ne
         have hQ5 : Qu g4 u6 (line met2 (k0 + 1)) (w5.alloc (.cells #[.int .i64 (x : Int)] 3)) := (hi2.qu.grown hg5 (by intro e; injection e with e; exact hgb e)).keep ((Keep.refl NoB _).alloc _) id
         have hx5 : (w5.alloc (.cells #[.int .i64 (x : Int)] 3)).cell? ⟨w5.heap.size, 0, none⟩ = some (.int .i64 (x : Int)) := (Blk.new w5 _ _).cell 0
         obtain ⟨v7, w7, g7, hap, hQ7, hg7, hgr7⟩ := hQ5.push (t := 23) (ty := 23) Tryz.underlying23 hi hz0 hz1 hz2 (x : Int) w5.heap.size 0 1 hx5 (by rw [line_len]; omega)
         have hK7 : Keep (fun k => W.heap.size ≤ k ∧ ¬ p4 k) wr w7 := by
          refine (((Keep.refl _ wr).grown hg5 (fun g e _ => by cases e; exact ⟨Nat.le_refl _, hi2.nbm⟩)).alloc _).grown hgr7 (fun g e _ => by cases e; exact ⟨hi2.hg, hi2.ng⟩)
         have hps := HB.out _ _ _ hi2.j
         have hng7 : ¬ p4 g7 := by
          rcases hg7 with rfl | h7
          ·exact hi2.ng
          ·intro h; have h1 := hps _ h; have h2 := hg5.size; rw [World.size_alloc] at h7; omega
         have hg72 : W.heap.size ≤ g7 := by
          rcases hg7 with rfl | h7
          ·exact hi2.hg
          ·have h1 := hi2.map.omap.lt; have h2 := hg5.size; rw [World.size_alloc] at h7; omega
         have HN : Hid (NrJ J H s op fr n W.heap.size W.heap.size p k0 met q (j + 1) (met2 ++ [(x, q)]) p4 g7 v7 w7) := by
          refine ⟨hsn.symm, ?_, ?_, HJ.out _ _ _ _ hi2.j hK7, hi2.nbm, hng7, hi2.hbm, hg72, ?_, hi2.own⟩
          ·rw [line_snoc (by omega)]; exact hQ7
          ·rw [List.length_append, List.length_singleton]
           exact ((hM5.keep ((Keep.refl NoB _).alloc _) id).grown hgr7 (by intro e; injection e with e; exact hgb e.symm)).congr fun y => putO_look hxm y
          ·exact HT.out _ _ _ (fun k hk => .inr hk.1) hi2.h hK7
         clear hi2 HI2 hJJ hop hps hK7 hQ7 hQ5 hM5 hg5 hgr7 hng7 hg72 hg7 hgb hm2 hpre hx5 HI
         gi_wp2
         refine ⟨trivial, (fun h => by cases h), (callsIn_wide.2 HC.out).mono ?_⟩
         rintro e w9 ⟨rfl, rfl⟩
         gi_wp2_with (gi_at_builtin; refine wpListIn_append_run _ rfl _ _ 23 rfl _ _ v7 w7 rfl rfl hap ?_)
         go_roundw
         case rel => exact ⟨j + 1, _, p4, g7, by omega, by go_num, HN⟩
         case measure => simp [intOf]; omega
      ·obtain rfl : j = ln := by omega
       have hi2 := HI2.out
       have hall : (s q).take j = s q := List.take_of_length_le (by rw [hln]; exact Nat.le_refl _)
       have heq := hi2.eq
       rw [hall] at heq
       have hm2 : met2.length ≤ n := NrJ.len hi2 HI.out.near hfn hs.out hqn
       have hpre := NrJ.pre hi2
       have HN : Hid (NrI J H s op fr n W.heap.size W.heap.size p (k0 + 1) met2 p4 g4 u6 wr) :=
        ⟨by rw [heq]; exact .step HI.out.near he, hi2.qu, hi2.map, by rw [← hpre.2 hk]; exact hi2.j, hi2.nbm, hi2.ng, hi2.hbm, hi2.hg, hi2.h, hi2.own⟩
       have hsz2 : mapSize wr W.heap.size = met2.length := hi2.map.size
       obtain ⟨of2, ca2, hv2⟩ := hi2.qu.form
       have hlv : lenOf u6 = met2.length - (k0 + 1) := by rw [hv2]; show (line met2 (k0 + 1)).length = _; rw [line_len]
       have hpl2 := hpre.1
       clear hi2 HI2 hJJ HI hall heq hpre hv2
       gi_wp2
       go_roundw
       case rel => exact ⟨k0 + 1, met2, p4, g4, HN⟩
       case measure => rw [hms, hsz2, hlv]; simp only [lenOf]; omega
    ·have HX := Lib.hid hx3
     clear hx3 hr3
     gi_wp2
     refine bodyPost_ret (results_none rfl _ _ _) rfl ?_
     exact ⟨⟨_, rfl⟩, p3, .inr ⟨_, trivial, HX.out⟩⟩
  ·obtain rfl : k0 = met.length := by omega
   have hqu := HI.out.qu
   have hl0 : line met met.length = [] := List.length_eq_zero_iff.1 (by rw [line_len]; omega)
   rw [hl0] at hqu
   obtain ⟨off, cap, rfl⟩ := hqu.nil
   have HX : Hid ((n ≠ 0 ∧ AllN s op fr met) ∧ J met p2 wr) := ⟨⟨hz, HI.out.near⟩, by have := HI.out.j; rwa [List.take_length] at this⟩
   clear hqu HI hl0
   gi_wp2
   go_end0
   exact ⟨⟨_, rfl⟩, p2, .inl ⟨met, .inr HX.out.1, HX.out.2⟩⟩

end Go.Proofs.YtghdibbooegocaaGreatDoor.G

namespace Go.Proofs.YtghdibbooegocaaGreatDoor.C
open Go.RowKit O

theorem goes_gen (op a b tgt : Int) (t : Bool) (w : World) (h1 : goesN op a b = tgt) (h2 : goesI op a b = t) :
  Calls Tryz.prog 45 #[instV op a b] w fun e w' => e = .returned (.tuple #[.int .i64 tgt, .bool t]) ∧ Keep NoB w w' := by subst h1 h2; exact goes_any op a b w
theorem ends_gen (op a b : Int) (t : Bool) (w : World) (h : endsI op a b = t) :
  Calls Tryz.prog 44 #[instV op a b] w fun e w' => e = .returned (.bool t) ∧ Keep NoB w w' := by subst h; exact ends_any op a b w
theorem chk_gen (op a b c : Int) (w : World) (h : chk op a b = c) :
  Calls Tryz.prog 46 #[instV op a b] w fun e w' => e = .returned (.int .i64 c) ∧ Keep NoB w w' := by subst h; exact check_any op a b w
theorem blk3 {w : World} {g : Nat} {t : TypeId} {a0 a1 a2 : Value} (h : Blk w g t #[a0, a1, a2]) : w.cell? ⟨g, 0, none⟩ = some a0 ∧ w.cell? ⟨g, 1, none⟩ = some a1 ∧ w.cell? ⟨g, 2, none⟩ = some a2 := ⟨h.cell 0, h.cell 1, h.cell 2⟩

set_option maxRecDepth 100000 in
set_option maxHeartbeats 4000000 in
theorem cchk_any (A : Option Addr) (l : List I3) (n c : Nat) (w : World) (hr : Rd w A (iis l)) (hn : Hid (l.length = n)) (hm : n ≤ 9223372036854775807) (R : Int) (hR : Hid (chkB l = R)) :
  Calls Tryz.prog 27 #[.slice A n c] w fun e w' => e = .returned (.int .i64 R) ∧ Keep NoB w w' := by
 by_cases h0 : n = 0
 ·subst h0
  obtain rfl : 50 = R := by rw [← hR.out, List.length_eq_zero_iff.1 hn.out]; rfl
  go_enter Tryz.func27, Tryz.ntmps27
  go_wp2
  go_ret
  exact ⟨rfl, Keep.refl _ _⟩
 have hz : ((n : Int) == 0) = false := by rw [beq_eq_false_iff_ne]; omega
 by_cases h5 : 512 < n
 ·obtain rfl : 50 = R := by rw [← hR.out, chkB_no (okB_long (by rw [hn.out]; omega))]
  have hq : decide ((512 : Int) < (n : Int)) = true := by rw [decide_eq_true_iff]; omega
  clear h5 h0
  go_enter Tryz.func27, Tryz.ntmps27
  go_wp2
  go_ret
  exact ⟨rfl, Keep.refl _ _⟩
 have hq : decide ((512 : Int) < (n : Int)) = false := by rw [decide_eq_false_iff_not]; omega
 obtain ⟨m, rfl⟩ : ∃ m, n = m + 1 := ⟨n - 1, by omega⟩
 have hz2 : ((m : Int) + 1 == 0) = false := by rw [beq_eq_false_iff_ne]; omega
 have hq2 : decide ((512 : Int) < (m : Int) + 1) = false := by rw [decide_eq_false_iff_not]; omega
 have hl0 : 0 < l.length := by rw [hn.out]; omega
 obtain ⟨g, off, rfl, hc⟩ := rdJ_at hr hl0
 have hml : m < l.length := by rw [hn.out]; omega
 obtain ⟨c0, c1, c2⟩ := hc m hml
 have HC := Lib.hid hc
 have hlast : Hid (lastB l = eB l[m]) := by
  show _ = _
  rw [lastB_at hl0]
  congr 2
  rw [hn.out]; omega
 clear hc hr h0 h5 hl0
 generalize l[m] = x at c0 c1 c2 hlast
 obtain ⟨op, a, b⟩ := x
 dsimp only at c0 c1 c2
 cases he : endsI op a b
 ·obtain rfl : 50 = R := by rw [← hR.out, chkB_no (okB_last (by rw [hlast.out]; exact he))]
  have HE := Lib.hid (fun w => ends_gen op a b _ w he)
  clear he hlast HC hR
  go_enter Tryz.func27, Tryz.ntmps27
  go_wp2_with (go_at_call 44; refine (HE.out _).mono ?_; rintro e w1 ⟨rfl, k1⟩)
  go_ret
  exact ⟨rfl, k1⟩
 have HL : Hid (lastB l = true) := by show _ = _; rw [hlast.out]; exact he
 have HE := Lib.hid (fun w => ends_gen op a b _ w he)
 clear he hlast
 go_enter Tryz.func27, Tryz.ntmps27
 go_wp2_with (go_at_call 44; refine (HE.out _).mono ?_; rintro e w1 ⟨rfl, k1⟩)
 clear c0 c1 c2 HE hml
 go_loopw [27] (fun i wr => ∃ k : Nat, k ≤ m + 1 ∧ i = .int .i64 k ∧ Hid ((l.take k).all (itemB (m + 1)) = true) ∧ Keep NoB w wr) (fun i _ => m + 1 - (intOf i).toNat)
 case atStart => exact ⟨0, Nat.zero_le _, rfl, rfl, k1⟩
 case round =>
  obtain ⟨k, hk, rfl, hall, hK⟩ := hrel
  by_cases hlt : k < m + 1
  ·have hkl : k < l.length := by rw [hn.out]; exact hlt
   obtain ⟨d0, d1, d2⟩ := HC.out k hkl
   have c0 := hK.cell d0 id
   have c1 := hK.cell d1 id
   have c2 := hK.cell d2 id
   have HT := Lib.hid (show l.take (k + 1) = l.take k ++ [l[k]] from List.take_succ_eq_append_getElem hkl)
   have HN : Hid (itemB l.length l[k] = false → 50 = R) := fun h => by rw [← hR.out, chkB_no (okB_item (all_no hkl h))]
   rw [hn.out] at HN
   clear d0 d1 d2
   generalize l[k] = x at c0 c1 c2 HT HN
   obtain ⟨op, a, b⟩ := x
   dsimp only at c0 c1 c2
   obtain ⟨tgt, hto⟩ : ∃ tgt, goesN op a b = tgt := ⟨_, rfl⟩
   have hb : 0 ≤ tgt ∧ tgt ≤ 511 := by rw [← hto]; exact gN_in (op, a, b)
   have HG := Lib.hid (fun w => goes_gen op a b tgt _ w hto rfl)
   have bx := Blk.new wr 45 #[.int .i64 op, .int .i64 a, .int .i64 b]
   have gK := hK.alloc (.cells #[.int .i64 op, .int .i64 a, .int .i64 b] 45)
   cases ho : okI op a b
   ·obtain rfl := HN.out (item_no1 ho)
    have HO := Lib.hid (fun w => chk_gen op a b 40 w (by unfold chk; rw [ho]; rfl))
    clear ho hto HN HT HL hall hK hR
    go_wp2_with fail
    refine (HG.out _).mono ?_
    rintro e w2 ⟨rfl, k2⟩
    replace bx := bx.keep k2 id
    replace gK := keepN gK k2
    obtain ⟨x0, x1, x2⟩ := blk3 bx
    go_wp2_with (go_at_call 46; refine (HO.out _).mono ?_; rintro e w3 ⟨rfl, k3⟩)
    go_ret
    exact ⟨rfl, keepN gK k3⟩
   have HO := Lib.hid (fun w => chk_gen op a b 0 w (by unfold chk; rw [ho]; rfl))
   by_cases ht : tgt < ((m + 1 : Nat) : Int)
   ·have ht2 : ¬ ((m : Int) + 1 ≤ tgt) := by omega
    have ha2 : Hid ((l.take (k + 1)).all (itemB (m + 1)) = true) := by
     show _ = _
     rw [HT.out, List.all_append, hall.out]
     simp only [List.all_cons, List.all_nil, Bool.and_true, Bool.true_and]
     exact item_yes ho (by show goesN op a b < _; rw [hto]; exact ht)
    clear ho hto HN HT HL hall hK hR ht
    go_wp2_with fail
    refine (HG.out _).mono ?_
    rintro e w2 ⟨rfl, k2⟩
    replace bx := bx.keep k2 id
    replace gK := keepN gK k2
    obtain ⟨x0, x1, x2⟩ := blk3 bx
    go_wp2_with (go_at_call 46; refine (HO.out _).mono ?_; rintro e w3 ⟨rfl, k3⟩)
    go_roundw
    case rel => exact ⟨k + 1, by omega, by go_num, ha2, keepN gK k3⟩
    case measure => simp [intOf]; omega
   ·obtain rfl := HN.out (item_no2 (by show ¬ goesN op a b < _; rw [hto]; exact ht))
    have ht2 : ((m : Int) + 1 ≤ tgt) := by omega
    clear ho hto HN HT HL hall hK hR ht
    go_wp2_with fail
    refine (HG.out _).mono ?_
    rintro e w2 ⟨rfl, k2⟩
    replace bx := bx.keep k2 id
    replace gK := keepN gK k2
    obtain ⟨x0, x1, x2⟩ := blk3 bx
    go_wp2_with (go_at_call 46; refine (HO.out _).mono ?_; rintro e w3 ⟨rfl, k3⟩)
    go_ret
    exact ⟨rfl, keepN gK k3⟩
  ·obtain rfl : 0 = R := by
    rw [← hR.out, chkB_ok (okB_mk (by rw [hn.out]; have := decide_eq_false_iff_not.1 hq; omega) HL.out ?_)]
    have := hall.out
    rw [List.take_of_length_le (by rw [hn.out]; omega)] at this
    rw [hn.out]; exact this
   clear HC hR
   go_wp2
   go_ret
   exact ⟨rfl, hK⟩

end Go.Proofs.YtghdibbooegocaaGreatDoor.C

namespace Go.Proofs.YtghdibbooegocaaGreatDoor.C
open Go.RowKit O

end Go.Proofs.YtghdibbooegocaaGreatDoor.C

namespace Go.Proofs.YtghdibbooegocaaGreatDoor.O
open Go.RowKit

theorem pr_ii {a b a' b' : Int} (h1 : a = a') (h2 : b = b') : Ending.returned (.tuple #[.int .i64 a, .int .i64 b]) = .returned (.tuple #[.int .i64 a', .int .i64 b']) := by rw [h1, h2]

end Go.Proofs.YtghdibbooegocaaGreatDoor.O

namespace Go.Proofs.YtghdibbooegocaaGreatDoor.W
open Go.RowKit

set_option maxHeartbeats 400000 in
theorem known_any (t : Int) (w : World) :
  Calls Tryz.prog 114 #[.int .i64 t] w fun e w' => e = .returned (.bool (knownB t)) ∧ w = w' := by
 by_cases h1 : 1 ≤ t
 ·by_cases h2 : t < 5
  ·go_enter Tryz.func114, Tryz.ntmps114
   go_wp2
   go_ret
   exact ⟨ret_bool (by simp [knownB]; omega), rfl⟩
  ·go_enter Tryz.func114, Tryz.ntmps114
   go_wp2
   go_ret
   exact ⟨ret_bool (by simp [knownB]; omega), rfl⟩
 ·go_enter Tryz.func114, Tryz.ntmps114
  go_wp2
  go_ret
  exact ⟨ret_bool (by simp [knownB]; omega), rfl⟩

/-! ### Zero, Nil -/

end Go.Proofs.YtghdibbooegocaaGreatDoor.W

namespace Go.Proofs.YtghdibbooegocaaGreatDoor.W
open Go.RowKit

/-! ### great -/

end Go.Proofs.YtghdibbooegocaaGreatDoor.W

namespace Go.Proofs.YtghdibbooegocaaGreatDoor.W
open Go.RowKit

set_option maxRecDepth 100000 in
set_option maxHeartbeats 2000000 in
theorem ints_any (A B : Option Addr) (la lb : List Int) (n m c d : Nat) (w : World) (ha : Rd w A (ivs la)) (hb : Rd w B (ivs lb)) (hn : Hid (la.length = n)) (hm : Hid (lb.length = m))
  (h1 : n ≤ 9223372036854775807) (h2 : m ≤ 9223372036854775807) (R : Bool) (hR : Hid (R = decide (la = lb))) :
  Calls Tryz.prog 16 #[.slice A n c, .slice B m d] w fun e w' => e = .returned (.bool R) ∧ Keep NoB w w' := by
 by_cases hnm : n = m
 ·subst hnm
  go_enter Tryz.func16, Tryz.ntmps16
  go_wp2
  go_loopw [5] (fun i wr => ∃ k : Nat, k ≤ n ∧ i = .int .i64 k ∧ Hid (la.take k = lb.take k) ∧ Keep NoB w wr) (fun i _ => n - (intOf i).toNat)
  case atStart => exact ⟨0, Nat.zero_le _, rfl, rfl, Keep.refl _ _⟩
  case round =>
   obtain ⟨k, hk, rfl, ht, hK⟩ := hrel
   by_cases hlt : k < n
   ·have hka : k < la.length := by rw [hn.out]; exact hlt
    have hkb : k < lb.length := by rw [hm.out]; exact hlt
    obtain ⟨ga, oa, rfl, hca⟩ := rdI_at ha (by omega)
    obtain ⟨gb, ob, rfl, hcb⟩ := rdI_at hb (by omega)
    have ca := hK.cell (hca k hka) id
    have cb := hK.cell (hcb k hkb) id
    have HT := Lib.hid (show la.take (k + 1) = la.take k ++ [la[k]] from List.take_succ_eq_append_getElem hka)
    have HU := Lib.hid (show lb.take (k + 1) = lb.take k ++ [lb[k]] from List.take_succ_eq_append_getElem hkb)
    clear hca hcb
    by_cases he : la[k] = lb[k]
    ·have HV : Hid (la.take (k + 1) = lb.take (k + 1)) := by show _ = _; rw [HT.out, HU.out, ht.out, he]
     rw [he] at ca
     clear he HT HU ha hb
     generalize lb[k] = y at ca cb
     go_wp2
     go_quiet (fail)
     go_wp2
     go_roundw
     case rel => exact ⟨k + 1, by omega, by go_num, HV, hK.drewN _⟩
     case measure => simp [intOf]; omega
    ·have hf : R = false := by
      rw [hR.out, decide_eq_false_iff_not]
      intro e
      exact he (by simp [e])
     subst hf
     clear HT HU ha hb
     generalize la[k] = x at ca he
     generalize lb[k] = y at cb he
     have hne : (x != y) = true := by rw [bne_iff_ne]; exact he
     clear he
     go_wp2
     go_quiet (fail)
     go_wp2
     go_ret
     exact ⟨rfl, hK.drewN _⟩
   ·have hf : R = true := by
     rw [hR.out, decide_eq_true_iff]
     have e1 := ht.out
     rwa [List.take_of_length_le (by rw [hn.out]; omega), List.take_of_length_le (by rw [hm.out]; omega)] at e1
    subst hf
    go_wp2
    go_ret
    exact ⟨rfl, hK⟩
 ·have hf : R = false := by
   rw [hR.out, decide_eq_false_iff_not]
   intro e
   exact hnm (by rw [← hn.out, ← hm.out, e])
  subst hf
  have hne : ((n : Int) != (m : Int)) = true := by rw [bne_iff_ne]; omega
  clear hnm
  go_enter Tryz.func16, Tryz.ntmps16
  go_wp2
  go_ret
  exact ⟨rfl, Keep.refl _ _⟩

end Go.Proofs.YtghdibbooegocaaGreatDoor.W

namespace Go.Proofs.YtghdibbooegocaaGreatDoor.W
open Go.RowKit

theorem rd_new (w : World) (E : TypeId) (cs : Array Value) : Rd (w.alloc (.cells cs E)) (some ⟨w.heap.size, 0, none⟩) cs.toList := fun _ =>
 ⟨_, _, rfl, fun j u hu => by rw [Nat.zero_add, (Blk.new w E cs).cell j]; simpa using hu⟩

theorem own_after {w W W' : World} {E size n : Nat} {v v' : Value} {xs : List Value} (ho : ∀ g, v.ownBlock = some g → Fresh w g) (hK : Keep NoB w W) (hg : W.grownBy W' v.ownBlock)
  (hv : v'.ownBlock = v.ownBlock ∨ v'.ownBlock = some W.heap.size) (hrow : W'.ownsRow 0 E size v' n xs) : Own W' E size (Fresh w) v' n xs ∧ Keep NoB w W' := by
 refine ⟨⟨hrow, fun g e => ?_⟩, hK.grown hg (fun g e h => by have := ho g e; unfold Fresh at this; omega)⟩
 rcases hv with h | h
 ·exact ho g (h ▸ e)
 ·rw [h] at e; cases e; exact hK.size

theorem rd_made {w : World} {E : TypeId} {cs : Array Value} {b : Nat} {xs : List Value} (hb : b = w.heap.size) (hx : xs = cs.toList) : Rd (w.alloc (.cells cs E)) (some ⟨b, 0, none⟩) xs := by
 subst hb hx; exact rd_new w E cs

def zs (l : List Int) : List (Int × Int) := l.map fun t => (t, 0)

def ts (x : List (Int × Int)) : List Int := x.map (·.1)

end Go.Proofs.YtghdibbooegocaaGreatDoor.W

namespace Go.Proofs.YtghdibbooegocaaGreatDoor.W
open Go.RowKit

end Go.Proofs.YtghdibbooegocaaGreatDoor.W

namespace Go.Proofs.YtghdibbooegocaaGreatDoor.W
open Go.RowKit

theorem gLet : Tryz.prog.globalNamed "backstay/value.letters" = some 1 := by kernel_rfl
theorem gPow : Tryz.prog.globalNamed "internal/strconv.uint64pow10" = some 4 := by kernel_rfl
theorem gSyn : Tryz.prog.globalNamed "strconv.ErrSyntax" = some 5 := by kernel_rfl
theorem gRng : Tryz.prog.globalNamed "strconv.ErrRange" = some 6 := by kernel_rfl

theorem var_keep {n : String} {g : Nat} {cs : Array Value} {w w' : World} (hg : Tryz.prog.globalNamed n = some g) (h : w.var? Tryz.prog n = some cs) (hk : Keep NoB w w') : w'.var? Tryz.prog n = some cs :=
 Go.Joins.var_stays hg h hk.toBelow (Nat.le_refl _)

def letV : Array Value := #[.int .i32 0, .int .i32 73, .int .i32 82, .int .i32 70, .int .i32 80]
def LetAt (w : World) : Prop := w.var? Tryz.prog "backstay/value.letters" = some letV
theorem LetAt.keep {w w' : World} (h : LetAt w) (hk : Keep NoB w w') : LetAt w' := var_keep gLet h hk
theorem LetAt.cell {w : World} (h : LetAt w) (i : Nat) : w.cell? ⟨1, i, none⟩ = letV[i]? := World.var?_cell gLet h i

structure Laid (w : World) : Prop where
 pow : Lib.TabIs Tryz.prog w "internal/strconv.uint64pow10" .u64 Lib.pow10Tab
 syn : ∃ tp p, w.var? Tryz.prog "strconv.ErrSyntax" = some #[.iface tp p]
 rng : ∃ tp p, w.var? Tryz.prog "strconv.ErrRange" = some #[.iface tp p]
theorem Laid.keep {w w' : World} (h : Laid w) (hk : Keep NoB w w') : Laid w' :=
 ⟨var_keep gPow h.pow hk, h.syn.imp fun _ ⟨p, hp⟩ => ⟨p, var_keep gSyn hp hk⟩, h.rng.imp fun _ ⟨p, hp⟩ => ⟨p, var_keep gRng hp hk⟩⟩
set_option maxRecDepth 100000 in
set_option maxHeartbeats 1000000 in
theorem letter_any (t : Int) (w : World) (h : LetAt w) :
  Calls Tryz.prog 96 #[.int .i64 t] w fun e w' => e = .returned (.string (str (letC t))) ∧ w = w' := by
 cases hk : knownB t
 ·have HL := Lib.hid (letC_none hk)
  go_enter Tryz.func96, Tryz.ntmps96
  go_wp2_with (go_at_call 114; refine (known_any _ _).mono ?_; rintro e w' ⟨rfl, rfl⟩)
  go_ret
  exact ⟨by rw [HL.out]; rfl, rfl⟩
 ·rcases known_cases hk with rfl | rfl | rfl | rfl
  ·have c : w.cell? ⟨1, 1, none⟩ = some (.int .i32 73) := h.cell 1
   go_enter Tryz.func96, Tryz.ntmps96
   go_wp2_with (go_at_call 114; refine (known_any _ _).mono ?_; rintro e w' ⟨rfl, rfl⟩)
   go_ret
   exact ⟨rfl, rfl⟩
  ·have c : w.cell? ⟨1, 2, none⟩ = some (.int .i32 82) := h.cell 2
   go_enter Tryz.func96, Tryz.ntmps96
   go_wp2_with (go_at_call 114; refine (known_any _ _).mono ?_; rintro e w' ⟨rfl, rfl⟩)
   go_ret
   exact ⟨rfl, rfl⟩
  ·have c : w.cell? ⟨1, 3, none⟩ = some (.int .i32 70) := h.cell 3
   go_enter Tryz.func96, Tryz.ntmps96
   go_wp2_with (go_at_call 114; refine (known_any _ _).mono ?_; rintro e w' ⟨rfl, rfl⟩)
   go_ret
   exact ⟨rfl, rfl⟩
  ·have c : w.cell? ⟨1, 4, none⟩ = some (.int .i32 80) := h.cell 4
   go_enter Tryz.func96, Tryz.ntmps96
   go_wp2_with (go_at_call 114; refine (known_any _ _).mono ?_; rintro e w' ⟨rfl, rfl⟩)
   go_ret
   exact ⟨rfl, rfl⟩

end Go.Proofs.YtghdibbooegocaaGreatDoor.W

namespace Go.Proofs.YtghdibbooegocaaGreatDoor.W
open Go.RowKit

theorem format_any (n : Int) (w : World) (h0 : -9223372036854775808 ≤ n) (h1 : n ≤ 9223372036854775807) (h : Laid w) :
  Calls Tryz.prog 109 #[.int .i64 n, .int .i64 10] w fun e w' => ∃ d, e = .returned (.string d) ∧ d.size ≤ 21 ∧ Hid (d = str (Lib.itoa n)) ∧ Keep NoB w w' := by
 refine (Tryz.strconv_FormatInt_10 n h0 h1 w h.pow).mono ?_
 rintro e w' ⟨rfl, k, os, rfl⟩
 exact ⟨_, rfl, by have := Lib.itoa_length_le n h0 h1; rw [size_of (s := Lib.itoa n) (by simp)]; exact this, rfl, Keep.of_below (Go.Lib.below_grow _ w (Nat.le_refl _) k os)⟩

end Go.Proofs.YtghdibbooegocaaGreatDoor.W

namespace Go.Proofs.YtghdibbooegocaaGreatDoor.A
open Go.ChangeShapes Go.WideShapes Go.ChangeAt Go.RowKit

def strD (l : List (List UInt8)) : DataW Unit := .agg (l.map fun s => .lit (.string s))

theorem strs_of_head {P : Program} {W : World} {name : String} {l : List (List UInt8)} {rest : List (String × DataW Unit)} {g : Nat} {t e : TypeId} {n : Nat}
  (hg : P.globalNamed name = some g) (hty : (P.globals[g]?).map (·.type) = some t) (ht : P.underlying t = some (.array n e)) (he : P.underlying e = some .string) (hce : P.cellsOf e = 1) (hct : P.cellsOf t = n)
  (h : laidMet P ((name, strD l) :: rest) W) : W.var? P name = some (svs l).toArray := by
 obtain ⟨ps, ⟨g', t', cs, fuel, p, q, hg', ht', hvar, hd, _, _⟩, _⟩ := h
 obtain rfl := Option.some.inj (hg.symm.trans hg')
 obtain rfl := Option.some.inj (hty.symm.trans ht')
 obtain ⟨xs, m, _, ex, hlen, hl, hel⟩ := DataW.trod_array ht hd
 rw [hct] at hlen
 rw [hce] at hel
 have e3 : l.map (fun s => (DataW.lit (.string s) : DataW Unit)) = xs.map (·.1) := DataW.agg.inj (Prod.mk.inj ex).1
 have hll : l.length = n := by have := congrArg List.length e3; simpa [hl] using this
 have key : cs.toList = svs l := by
  refine List.ext_getElem (by simp [hlen, hll]) fun i h1 h2 => ?_
  have hin : i < n := by rw [← hlen]; exact h1
  have k := hel i hin
  have hix : i < xs.length := by rw [hl]; exact hin
  rw [List.getElem?_eq_getElem hix, Nat.mul_one, List.drop_eq_getElem_cons h1] at k
  obtain ⟨z, a0, b0, _⟩ := DataW.trod_string he k
  have a1 : cs.toList[i] = .string z := by simpa using a0
  have hil : i < l.length := by rw [hll]; exact hin
  have b1 : (DataW.lit (.string l[i]) : DataW Unit) = (xs[i]).1 := by
   have := congrArg (fun y => y[i]?) e3
   simpa [hil, hix] using this
  rw [b0] at b1
  simp only [DataW.lit.injEq, Lit.string.injEq] at b1
  rw [a1, List.getElem_map, b1]
 rw [hvar]
 have : cs = (svs l).toArray := by rw [← key]
 rw [this]

theorem strs_cell {P : Program} {W : World} {name : String} {l : List (List UInt8)} {g : Nat} (hg : P.globalNamed name = some g) (h : W.var? P name = some (svs l).toArray) (i : Nat) (hi : i < l.length) :
  W.cell? ⟨g, i, none⟩ = some (.string (str l[i])) := by
 have := World.var?_cell hg h i
 simpa [hi] using this

end Go.Proofs.YtghdibbooegocaaGreatDoor.A

namespace Go.Proofs.YtghdibbooegocaaGreatDoor.A
open Go.RowKit

theorem gBin : Tryz.prog.globalNamed "backstay/alu.binNames" = some 2 := by kernel_rfl
theorem gUn : Tryz.prog.globalNamed "backstay/alu.unNames" = some 3 := by kernel_rfl
theorem var_keepA {n : String} {g : Nat} {cs : Array Value} {w w' : World} (hg : Tryz.prog.globalNamed n = some g) (h : w.var? Tryz.prog n = some cs) (hk : Keep NoB w w') : w'.var? Tryz.prog n = some cs :=
 Go.Joins.var_stays hg h hk.toBelow (Nat.le_refl _)

structure NamesAt (w : World) : Prop where
 bin : w.var? Tryz.prog "backstay/alu.binNames" = some (svs binNs).toArray
 un : w.var? Tryz.prog "backstay/alu.unNames" = some (svs unNs).toArray
theorem NamesAt.keep (w w' : World) (h : NamesAt w) (hk : Keep NoB w w') : NamesAt w' := ⟨var_keepA gBin h.bin hk, var_keepA gUn h.un hk⟩

def NmS (f : FuncId) (l : List (List UInt8)) : Prop := ∀ (n : Int) (W : World), NamesAt W → -9223372036854775808 ≤ n ∧ n ≤ 9223372036854775807 →
 Calls Tryz.prog f #[.int .i64 n] W fun e w' => e = .returned (.string (str (nameAt l n))) ∧ W = w'
set_option maxHeartbeats 4000000 in
theorem binName_any : NmS 98 binNs := fun n w h _ => by
 by_cases hi : 0 ≤ n ∧ n < 14
 ·obtain ⟨k, rfl⟩ := Int.eq_ofNat_of_zero_le hi.1
  have hkl : k < binNs.length := by have : binNs.length = 14 := rfl; omega
  have hck := strs_cell gBin h.bin k hkl
  have HD : Hid (nameAt binNs (k : Int) = binNs[k]) := Lib.hid (by unfold nameAt; rw [if_pos hi.1, Int.toNat_natCast, getD_at hkl])
  generalize binNs[k] = x at hck HD
  clear h hkl
  go_enter Tryz.func98, Tryz.ntmps98
  go_wp2
  go_ret
  exact ⟨by rw [HD.out]; rfl, rfl⟩
 ·have HD : Hid (nameAt binNs n = []) := Lib.hid (by
   unfold nameAt
   split
   ·have : binNs.length ≤ n.toNat := by have : binNs.length = 14 := rfl; omega
    exact getD_past this
   ·rfl)
  by_cases h0 : n < 0
  ·go_enter Tryz.func98, Tryz.ntmps98
   go_wp2
   go_ret
   exact ⟨by rw [HD.out]; rfl, rfl⟩
  ·have h2 : (14 : Int) ≤ n := by omega
   have h0' : decide (n < 0) = false := by simpa using h0
   go_enter Tryz.func98, Tryz.ntmps98
   go_wp2
   go_ret
   exact ⟨by rw [HD.out]; rfl, rfl⟩

set_option maxHeartbeats 4000000 in
theorem unName_any : NmS 100 unNs := fun n w h _ => by
 by_cases hi : 0 ≤ n ∧ n < 9
 ·obtain ⟨k, rfl⟩ := Int.eq_ofNat_of_zero_le hi.1
  have hkl : k < unNs.length := by have : unNs.length = 9 := rfl; omega
  have hck := strs_cell gUn h.un k hkl
  have HD : Hid (nameAt unNs (k : Int) = unNs[k]) := Lib.hid (by unfold nameAt; rw [if_pos hi.1, Int.toNat_natCast, getD_at hkl])
  generalize unNs[k] = x at hck HD
  clear h hkl
  go_enter Tryz.func100, Tryz.ntmps100
  go_wp2
  go_ret
  exact ⟨by rw [HD.out]; rfl, rfl⟩
 ·have HD : Hid (nameAt unNs n = []) := Lib.hid (by
   unfold nameAt
   split
   ·have : unNs.length ≤ n.toNat := by have : unNs.length = 9 := rfl; omega
    exact getD_past this
   ·rfl)
  by_cases h0 : n < 0
  ·go_enter Tryz.func100, Tryz.ntmps100
   go_wp2
   go_ret
   exact ⟨by rw [HD.out]; rfl, rfl⟩
  ·have h2 : (9 : Int) ≤ n := by omega
   have h0' : decide (n < 0) = false := by simpa using h0
   go_enter Tryz.func100, Tryz.ntmps100
   go_wp2
   go_ret
   exact ⟨by rw [HD.out]; rfl, rfl⟩

set_option maxHeartbeats 4000000 in
theorem named_any (f : FuncId) (hcf : ∀ (args : Array Value) (w : World), (callFunc f args).run Tryz.prog w = .ok (.enter f args) w) (l : List (List UInt8)) (n : Nat) (N : Hid (NmS f l)) (S : ByteArray) (s : List UInt8) (w : World) (h : NamesAt w)
  (hn : Hid (l.length = n)) (h1 : n ≤ 100000) (hs : Hid (S.data.toList = s)) :
  Calls Tryz.prog 116 #[.string S, .int .i64 n, .func (.func f) #[] #[]] w fun e w' => e = .returned (.tuple #[.int .i64 (ofI l s), .int .i64 (ofE l s)]) ∧ w = w' := by
 have hS : S.toList = s := by rw [ByteArray.toList_eq, hs.out]
 have HN := Lib.hid (fun n hn => N.out n w h hn)
 clear h N
 go_enter Tryz.func116, Tryz.ntmps116
 go_wp2
 go_loop [10] (fun i => ∃ k : Nat, k ≤ n ∧ i = .int .i64 (k : Int) ∧ Hid (∀ j (_ : j < k), l.getD j [] ≠ s)) (fun i => n - (intOf i).toNat)
 case atStart => exact ⟨0, Nat.zero_le _, rfl, fun j hj => by omega⟩
 case round =>
  obtain ⟨k, hk, rfl, hb⟩ := hrel
  by_cases hlt : k < n
  ·have hkl : k < l.length := by rw [hn.out]; exact hlt
   have HK := Lib.hid (HN.out (k : Int) ⟨by omega, by omega⟩)
   have hD : nameAt l (k : Int) = l[k] := by unfold nameAt; rw [if_pos (by omega), Int.toNat_natCast, getD_at hkl]
   have hE : Hid (l.getD k [] = l[k]) := getD_at hkl
   rw [hD] at HK
   clear hD
   by_cases he : l[k] = s
   ·have HH := Lib.hid (of_hit hkl he hb.out)
    have hq : (l[k] == S.toList) = true := by rw [hS, he]; simp
    generalize l[k] = x at HK hq
    clear he hE hS
    go_wp2_with fail
    refine HK.out.mono ?_
    rintro e w' ⟨rfl, rfl⟩
    go_wp2
    go_ret2
    exact ⟨ret2 HH.out.1.symm HH.out.2.symm, rfl⟩
   ·have hq : (l[k] == S.toList) = false := by rw [hS]; simpa using he
    have HB : Hid (∀ j (_ : j < k + 1), l.getD j [] ≠ s) := fun j hj => by
     rcases Nat.lt_succ_iff_lt_or_eq.1 hj with h | rfl
     ·exact hb.out j h
     ·rw [hE.out]; exact he
    generalize l[k] = x at HK hq
    clear he hE hS
    go_wp2_with fail
    refine HK.out.mono ?_
    rintro e w' ⟨rfl, rfl⟩
    go_wp2
    go_round
    case rel => exact ⟨k + 1, by omega, by go_num, HB⟩
    case measure => simp [intOf]; omega
  ·obtain rfl : k = n := by omega
   have HH := Lib.hid (of_miss (l := l) (s := s) (fun j hj => hb.out j (by rw [← hn.out]; exact hj)))
   clear hS
   go_wp2
   go_ret2
   exact ⟨ret2 HH.out.1.symm HH.out.2.symm, rfl⟩

theorem binOf_all (S : ByteArray) (s : List UInt8) (w : World) (h : NamesAt w) (hs : S.data.toList = s) : Calls Tryz.prog 99 #[.string S] w fun e w' => e = .returned (.tuple #[.int .i64 (ofI binNs s), .int .i64 (ofE binNs s)]) ∧ Keep NoB w w' := by
 have H := Lib.hid (fun W hW => named_any 98 Tryz.call98 binNs 14 (Lib.hid binName_any) S s W hW rfl (by omega) hs)
 go_enter Tryz.func99, Tryz.ntmps99
 go_wp2_with (go_at_call 116; refine (H.out _ h).mono ?_; rintro e w' ⟨rfl, rfl⟩)
 go_ret2
 exact ⟨rfl, Keep.refl _ _⟩
theorem unOf_all (S : ByteArray) (s : List UInt8) (w : World) (h : NamesAt w) (hs : S.data.toList = s) : Calls Tryz.prog 101 #[.string S] w fun e w' => e = .returned (.tuple #[.int .i64 (ofI unNs s), .int .i64 (ofE unNs s)]) ∧ Keep NoB w w' := by
 have H := Lib.hid (fun W hW => named_any 100 Tryz.call100 unNs 9 (Lib.hid unName_any) S s W hW rfl (by omega) hs)
 go_enter Tryz.func101, Tryz.ntmps101
 go_wp2_with (go_at_call 116; refine (H.out _ h).mono ?_; rintro e w' ⟨rfl, rfl⟩)
 go_ret2
 exact ⟨rfl, Keep.refl _ _⟩

end Go.Proofs.YtghdibbooegocaaGreatDoor.A

namespace Go.Proofs.YtghdibbooegocaaGreatDoor.O
open Go.RowKit

structure LaidO (w : World) : Prop where
 lets : W.LetAt w
 names : A.NamesAt w
 lib : W.Laid w
theorem LaidO.keep {w w' : World} (h : LaidO w) (hk : Keep NoB w w') : LaidO w' := ⟨h.lets.keep hk, A.NamesAt.keep _ _ h.names hk, h.lib.keep hk⟩
def I64 (n : Int) : Prop := -9223372036854775808 ≤ n ∧ n ≤ 9223372036854775807

theorem word_dig {k n : Int} (h : digK k = true) : word k n = Lib.itoa n := by
 have h := of_decide_eq_true h
 unfold word
 rw [if_neg (by omega), if_neg (by omega), if_neg (by omega)]
theorem dig_0 {k : Int} (h : digK k = true) : k ≠ 0 := by have h := of_decide_eq_true h; omega
theorem word_0 {k : Int} (h : wordK k = true) : k ≠ 0 := by have h := of_decide_eq_true h; omega

theorem nameAt_len {l : List (List UInt8)} {m : Nat} (h : l.all (fun s => decide (s.length ≤ m)) = true) (n : Int) : (A.nameAt l n).length ≤ m := by
 unfold A.nameAt
 split
 ·rcases Nat.lt_or_ge n.toNat l.length with hlt | hge
  ·rw [A.getD_at hlt]
   exact of_decide_eq_true (List.all_eq_true.1 h _ (List.getElem_mem hlt))
  ·rw [A.getD_past hge]; exact Nat.zero_le _
 ·exact Nat.zero_le _
theorem word_len (k n : Int) (hn : I64 n) : (word k n).length ≤ 21 := by
 unfold word
 split
 ·unfold W.letC
  repeat' split
  all_goals simp
 ·split
  ·exact Nat.le_trans (nameAt_len (m := 6) (by decide) n) (by omega)
  ·split
   ·exact Nat.le_trans (nameAt_len (m := 6) (by decide) n) (by omega)
   ·exact Lib.itoa_length_le n hn.1 hn.2

set_option maxHeartbeats 1000000 in
theorem show_dig (k n : Int) (w : World) (hk : digK k = true) (hn : I64 n) (h : LaidO w) :
  Calls Tryz.prog 108 #[.int .i64 n] w fun e w' => ∃ d, e = .returned (.string d) ∧ Hid (d = str (word k n)) ∧ Keep NoB w w' := by
 have HW := Lib.hid (word_dig (n := n) hk)
 have HF := Lib.hid (W.format_any n w hn.1 hn.2 h.lib)
 clear h hk hn
 go_enter Tryz.func108, Tryz.ntmps108
 go_wp2_with fail
 refine HF.out.mono ?_
 rintro e w1 ⟨d, rfl, _, hd, k1⟩
 go_wp2
 go_ret
 exact ⟨d, rfl, by show _ = _; rw [hd.out, HW.out], k1⟩

set_option maxHeartbeats 1000000 in
theorem show_word (k n : Int) (b : Nat) (w : World) (hk : wordK k = true) (hn : I64 n) (h : LaidO w) (hb : w.cell? ⟨b, 0, none⟩ = some (fnV (wordF k))) :
  Calls Tryz.prog 112 #[.int .i64 n, .pointer (some ⟨b, 0, none⟩)] w fun e w' => ∃ d, e = .returned (.string d) ∧ Hid (d = str (word k n)) ∧ Keep NoB w w' := by
 have hk := of_decide_eq_true hk
 have hc : k = 8 ∨ k = 9 ∨ (k = 2 ∨ k = 3) := by omega
 clear hk
 rcases hc with rfl | rfl | hk
 ·have HF := Lib.hid (A.binName_any n w h.names hn)
  have hb' : w.cell? ⟨b, 0, none⟩ = some (fnV 98) := hb
  clear h hn hb
  go_enter Tryz.func112, Tryz.ntmps112
  go_wp2_with fail
  refine HF.out.mono ?_
  rintro e w1 ⟨rfl, rfl⟩
  go_wp2
  go_ret
  exact ⟨_, rfl, rfl, Keep.refl _ _⟩
 ·have HF := Lib.hid (A.unName_any n w h.names hn)
  have hb' : w.cell? ⟨b, 0, none⟩ = some (fnV 100) := hb
  clear h hn hb
  go_enter Tryz.func112, Tryz.ntmps112
  go_wp2_with fail
  refine HF.out.mono ?_
  rintro e w1 ⟨rfl, rfl⟩
  go_wp2
  go_ret
  exact ⟨_, rfl, rfl, Keep.refl _ _⟩
 ·have HF := Lib.hid (W.letter_any n w h.lets)
  have hb' : w.cell? ⟨b, 0, none⟩ = some (fnV 96) := by rw [hb]; unfold wordF; rw [if_neg (by omega), if_neg (by omega)]
  have HW : Hid (word k n = W.letC n) := by show _ = _; unfold word; rw [if_pos (by omega)]
  clear h hn hb hk
  go_enter Tryz.func112, Tryz.ntmps112
  go_wp2_with fail
  refine HF.out.mono ?_
  rintro e w1 ⟨rfl, rfl⟩
  go_wp2
  go_ret
  exact ⟨_, rfl, by show _ = _; rw [HW.out], Keep.refl _ _⟩

end Go.Proofs.YtghdibbooegocaaGreatDoor.O

namespace Go.Proofs.YtghdibbooegocaaGreatDoor.O
open Go.RowKit

theorem blk_inst {w : World} {g : Nat} {t : TypeId} {a0 a1 a2 : Value} (h : Blk w g t #[a0, a1, a2]) : w.cell? ⟨g, 0, none⟩ = some a0 ∧ w.cell? ⟨g, 1, none⟩ = some a1 ∧ w.cell? ⟨g, 2, none⟩ = some a2 := ⟨h.cell 0, h.cell 1, h.cell 2⟩

end Go.Proofs.YtghdibbooegocaaGreatDoor.O

namespace Go.Proofs.YtghdibbooegocaaGreatDoor.O
open Go.RowKit

end Go.Proofs.YtghdibbooegocaaGreatDoor.O

namespace Go.Proofs.YtghdibbooegocaaGreatDoor.C
open Go.RowKit O

def AllI (l : List I3) : Prop := ∀ x ∈ l, O.I64 x.2.1 ∧ O.I64 x.2.2

end Go.Proofs.YtghdibbooegocaaGreatDoor.C

namespace Go.Proofs.YtghdibbooegocaaGreatDoor.G
open Go.RowKit W

def IntR (w : World) (l : List Nat) (e : Ending) (w' : World) : Prop := ∃ B c, e = .returned (.slice B l.length c) ∧ Rd w' B (ivs (nz l)) ∧ (∀ ad, B = some ad → w.heap.size ≤ ad.block) ∧ Keep NoB w w'
theorem rd_blk {w : World} {g : Nat} {T : TypeId} {l : List Nat} (h : Blk w g T (ivs (nz l)).toArray) : Rd w (some ⟨g, 0, none⟩) (ivs (nz l)) := fun _ => ⟨g, 0, rfl, fun j u hu => by rw [Nat.zero_add, h.cell, List.getElem?_toArray]; exact hu⟩
theorem intR_new {w w2 : World} {l : List Nat} (hk : Keep NoB w w2) : IntR w l (.returned (.slice (some ⟨w2.heap.size, 0, none⟩) l.length l.length)) (w2.alloc (.cells (ivs (nz l)).toArray 3)) :=
 ⟨_, _, rfl, rd_blk (Blk.new w2 _ _), fun ad e => by cases e; exact hk.size, hk.alloc _⟩
theorem intR_nil {w w2 : World} (hk : Keep NoB w w2) : IntR w [] (.returned (.slice none 0 0)) w2 := ⟨none, 0, rfl, Rd.none_ _ _, (fun ad e => by cases e), hk⟩
set_option maxRecDepth 100000 in
set_option maxHeartbeats 400000 in
theorem behind_tt (op a b : Int) (i : Nat) (w : World) (hi : i ≤ 1000) (hg : C.gB (op, a, b) = true) (he : C.eB (op, a, b) = true) (t : Nat) (ha : a = (t : Int)) (_ht : t ≤ 511) :
  Calls Tryz.prog 30 #[.agg #[.int .i64 op, .int .i64 a, .int .i64 b], .int .i64 (i : Int)] w (IntR w (stepsX (op, a, b) i)) := by
 subst ha
 have HS := Lib.hid (show stepsX (op, (t : Int), b) i = [t] from by unfold stepsX; rw [if_pos ⟨hg, he⟩]; simp)
 have HG := Lib.hid (fun w => O.goes_any op (t : Int) b w)
 have HE := Lib.hid (fun w => O.ends_any op (t : Int) b w)
 have hgn : O.goesN op (t : Int) b = (t : Int) := by have := C.gN_yes hg; exact this
 have hgi : O.goesI op (t : Int) b = true := hg
 have hei : O.endsI op (t : Int) b = true := he
 simp only [hgn, hgi] at HG
 simp only [hei] at HE
 have b0 := Blk.new w 45 #[.int .i64 op, .int .i64 (t : Int), .int .i64 b]
 have k0 := (Keep.refl NoB w).alloc (.cells #[.int .i64 op, .int .i64 (t : Int), .int .i64 b] 45)
 clear hg he hgn hgi hei
 go_enter Tryz.func30, Tryz.ntmps30
 go_wp2_with fail
 refine (HG.out _).mono ?_
 rintro e1 w2 ⟨rfl, k2⟩
 have b2 : Blk w2 w.heap.size 45 #[.int .i64 op, .int .i64 (t : Int), .int .i64 b] := b0.keep k2 id
 have c0 := b2.cell 0
 have c1 := b2.cell 1
 have c2 := b2.cell 2
 simp only [List.getElem?_toArray, List.getElem?_cons_zero, List.getElem?_cons_succ] at c0 c1 c2
 have k3 := keepN k0 k2
 clear b0 b2 k0 k2
 go_wp2_with fail
 refine (HE.out _).mono ?_
 rintro e1 w3 ⟨rfl, k4⟩
 have k5 := keepN k3 k4
 clear k3 k4 c0 c1 c2 HG HE
 go_wp2
 go_ret
 rw [HS.out]
 have := intR_new (l := [t]) k5
 simpa [nz] using this

set_option maxRecDepth 100000 in
set_option maxHeartbeats 400000 in
theorem behind_ft (op a b : Int) (i : Nat) (w : World) (hi : i ≤ 1000) (hg : C.gB (op, a, b) = false) (he : C.eB (op, a, b) = true) :
  Calls Tryz.prog 30 #[.agg #[.int .i64 op, .int .i64 a, .int .i64 b], .int .i64 (i : Int)] w (IntR w (stepsX (op, a, b) i)) := by
 have HS := Lib.hid (show stepsX (op, a, b) i = [] from by unfold stepsX; rw [if_neg (by rw [hg]; simp), if_pos he])
 have HG := Lib.hid (fun w => O.goes_any op a b w)
 have HE := Lib.hid (fun w => O.ends_any op a b w)
 have hgn : O.goesN op a b = 0 := by have := C.gN_no hg; exact this
 have hgi : O.goesI op a b = false := hg
 have hei : O.endsI op a b = true := he
 simp only [hgn, hgi] at HG
 simp only [hei] at HE
 have b0 := Blk.new w 45 #[.int .i64 op, .int .i64 a, .int .i64 b]
 have k0 := (Keep.refl NoB w).alloc (.cells #[.int .i64 op, .int .i64 a, .int .i64 b] 45)
 clear hg he hgn hgi hei
 go_enter Tryz.func30, Tryz.ntmps30
 go_wp2_with fail
 refine (HG.out _).mono ?_
 rintro e1 w2 ⟨rfl, k2⟩
 have b2 : Blk w2 w.heap.size 45 #[.int .i64 op, .int .i64 a, .int .i64 b] := b0.keep k2 id
 have c0 := b2.cell 0
 have c1 := b2.cell 1
 have c2 := b2.cell 2
 simp only [List.getElem?_toArray, List.getElem?_cons_zero, List.getElem?_cons_succ] at c0 c1 c2
 have k3 := keepN k0 k2
 clear b0 b2 k0 k2
 go_wp2_with fail
 refine (HE.out _).mono ?_
 rintro e1 w3 ⟨rfl, k4⟩
 have k5 := keepN k3 k4
 clear k3 k4 c0 c1 c2 HG HE
 go_wp2
 go_ret
 rw [HS.out]
 exact intR_nil k5

set_option maxRecDepth 100000 in
set_option maxHeartbeats 400000 in
theorem behind_ff (op a b : Int) (i : Nat) (w : World) (hi : i ≤ 1000) (hg : C.gB (op, a, b) = false) (he : C.eB (op, a, b) = false) :
  Calls Tryz.prog 30 #[.agg #[.int .i64 op, .int .i64 a, .int .i64 b], .int .i64 (i : Int)] w (IntR w (stepsX (op, a, b) i)) := by
 have HS := Lib.hid (show stepsX (op, a, b) i = [i + 1] from by unfold stepsX; rw [if_neg (by rw [hg]; simp), if_neg (by rw [he]; decide), if_pos (.inl hg)])
 have HG := Lib.hid (fun w => O.goes_any op a b w)
 have HE := Lib.hid (fun w => O.ends_any op a b w)
 have hgn : O.goesN op a b = 0 := by have := C.gN_no hg; exact this
 have hgi : O.goesI op a b = false := hg
 have hei : O.endsI op a b = false := he
 simp only [hgn, hgi] at HG
 simp only [hei] at HE
 have b0 := Blk.new w 45 #[.int .i64 op, .int .i64 a, .int .i64 b]
 have k0 := (Keep.refl NoB w).alloc (.cells #[.int .i64 op, .int .i64 a, .int .i64 b] 45)
 clear hg he hgn hgi hei
 go_enter Tryz.func30, Tryz.ntmps30
 go_wp2_with fail
 refine (HG.out _).mono ?_
 rintro e1 w2 ⟨rfl, k2⟩
 have b2 : Blk w2 w.heap.size 45 #[.int .i64 op, .int .i64 a, .int .i64 b] := b0.keep k2 id
 have c0 := b2.cell 0
 have c1 := b2.cell 1
 have c2 := b2.cell 2
 simp only [List.getElem?_toArray, List.getElem?_cons_zero, List.getElem?_cons_succ] at c0 c1 c2
 have k3 := keepN k0 k2
 clear b0 b2 k0 k2
 go_wp2_with fail
 refine (HE.out _).mono ?_
 rintro e1 w3 ⟨rfl, k4⟩
 have k5 := keepN k3 k4
 clear k3 k4 c0 c1 c2 HG HE
 go_wp2
 go_ret
 rw [HS.out]
 have := intR_new (l := [i + 1]) k5
 simpa [nz] using this

set_option maxRecDepth 100000 in
set_option maxHeartbeats 400000 in
theorem behind_tf_eq (op a b : Int) (i : Nat) (w : World) (hi : i ≤ 1000) (hg : C.gB (op, a, b) = true) (he : C.eB (op, a, b) = false) (t : Nat) (ha : a = (t : Int)) (_ht : t ≤ 511) (hc : t = i + 1) :
  Calls Tryz.prog 30 #[.agg #[.int .i64 op, .int .i64 a, .int .i64 b], .int .i64 (i : Int)] w (IntR w (stepsX (op, a, b) i)) := by
 subst ha
 have HS := Lib.hid (show stepsX (op, (t : Int), b) i = [i + 1] from by unfold stepsX; rw [if_neg (by rw [he]; simp), if_neg (by rw [he]; decide), if_pos (.inr (by show (t : Int).toNat = _; omega))])
 have HG := Lib.hid (fun w => O.goes_any op (t : Int) b w)
 have HE := Lib.hid (fun w => O.ends_any op (t : Int) b w)
 have hgn : O.goesN op (t : Int) b = (t : Int) := by have := C.gN_yes hg; exact this
 have hgi : O.goesI op (t : Int) b = true := hg
 have hei : O.endsI op (t : Int) b = false := he
 simp only [hgn, hgi] at HG
 simp only [hei] at HE
 have b0 := Blk.new w 45 #[.int .i64 op, .int .i64 (t : Int), .int .i64 b]
 have k0 := (Keep.refl NoB w).alloc (.cells #[.int .i64 op, .int .i64 (t : Int), .int .i64 b] 45)
 clear hg he hgn hgi hei
 have q1 : ((t : Int) == (i : Int) + 1) = true := by rw [beq_iff_eq]; omega
 clear hc
 go_enter Tryz.func30, Tryz.ntmps30
 go_wp2_with fail
 refine (HG.out _).mono ?_
 rintro e1 w2 ⟨rfl, k2⟩
 have b2 : Blk w2 w.heap.size 45 #[.int .i64 op, .int .i64 (t : Int), .int .i64 b] := b0.keep k2 id
 have c0 := b2.cell 0
 have c1 := b2.cell 1
 have c2 := b2.cell 2
 simp only [List.getElem?_toArray, List.getElem?_cons_zero, List.getElem?_cons_succ] at c0 c1 c2
 have k3 := keepN k0 k2
 clear b0 b2 k0 k2
 go_wp2_with fail
 refine (HE.out _).mono ?_
 rintro e1 w3 ⟨rfl, k4⟩
 have k5 := keepN k3 k4
 clear k3 k4 c0 c1 c2 HG HE
 go_wp2
 go_ret
 rw [HS.out]
 have := intR_new (l := [i + 1]) k5
 simpa [nz] using this

set_option maxRecDepth 100000 in
set_option maxHeartbeats 400000 in
theorem behind_tf_lt (op a b : Int) (i : Nat) (w : World) (hi : i ≤ 1000) (hg : C.gB (op, a, b) = true) (he : C.eB (op, a, b) = false) (t : Nat) (ha : a = (t : Int)) (_ht : t ≤ 511) (hc : t < i + 1) :
  Calls Tryz.prog 30 #[.agg #[.int .i64 op, .int .i64 a, .int .i64 b], .int .i64 (i : Int)] w (IntR w (stepsX (op, a, b) i)) := by
 subst ha
 have HS := Lib.hid (show stepsX (op, (t : Int), b) i = [t, i + 1] from by unfold stepsX; rw [if_neg (by rw [he]; simp), if_neg (by rw [he]; decide), if_neg (by rw [hg]; simp; omega), if_pos (by show (t : Int).toNat < _; omega), show (op, (t : Int), b).2.1.toNat = t by show (t : Int).toNat = t; omega])
 have HG := Lib.hid (fun w => O.goes_any op (t : Int) b w)
 have HE := Lib.hid (fun w => O.ends_any op (t : Int) b w)
 have hgn : O.goesN op (t : Int) b = (t : Int) := by have := C.gN_yes hg; exact this
 have hgi : O.goesI op (t : Int) b = true := hg
 have hei : O.endsI op (t : Int) b = false := he
 simp only [hgn, hgi] at HG
 simp only [hei] at HE
 have b0 := Blk.new w 45 #[.int .i64 op, .int .i64 (t : Int), .int .i64 b]
 have k0 := (Keep.refl NoB w).alloc (.cells #[.int .i64 op, .int .i64 (t : Int), .int .i64 b] 45)
 clear hg he hgn hgi hei
 have q1 : ((t : Int) == (i : Int) + 1) = false := by rw [beq_eq_false_iff_ne]; omega
 have q2 : min (t : Int) ((i : Int) + 1) = t := by omega
 have q3 : max (t : Int) ((i : Int) + 1) = (i : Int) + 1 := by omega
 go_enter Tryz.func30, Tryz.ntmps30
 go_wp2_with fail
 refine (HG.out _).mono ?_
 rintro e1 w2 ⟨rfl, k2⟩
 have b2 : Blk w2 w.heap.size 45 #[.int .i64 op, .int .i64 (t : Int), .int .i64 b] := b0.keep k2 id
 have c0 := b2.cell 0
 have c1 := b2.cell 1
 have c2 := b2.cell 2
 simp only [List.getElem?_toArray, List.getElem?_cons_zero, List.getElem?_cons_succ] at c0 c1 c2
 have k3 := keepN k0 k2
 clear b0 b2 k0 k2
 go_wp2_with fail
 refine (HE.out _).mono ?_
 rintro e1 w3 ⟨rfl, k4⟩
 have k5 := keepN k3 k4
 clear k3 k4 c0 c1 c2 HG HE
 go_wp2
 go_ret
 rw [HS.out]
 have := intR_new (l := [t, i + 1]) k5
 simpa [nz] using this

set_option maxRecDepth 100000 in
set_option maxHeartbeats 400000 in
theorem behind_tf_gt (op a b : Int) (i : Nat) (w : World) (hi : i ≤ 1000) (hg : C.gB (op, a, b) = true) (he : C.eB (op, a, b) = false) (t : Nat) (ha : a = (t : Int)) (_ht : t ≤ 511) (hc : i + 1 < t) :
  Calls Tryz.prog 30 #[.agg #[.int .i64 op, .int .i64 a, .int .i64 b], .int .i64 (i : Int)] w (IntR w (stepsX (op, a, b) i)) := by
 subst ha
 have HS := Lib.hid (show stepsX (op, (t : Int), b) i = [i + 1, t] from by unfold stepsX; rw [if_neg (by rw [he]; simp), if_neg (by rw [he]; decide), if_neg (by rw [hg]; simp; omega), if_neg (by show ¬ (t : Int).toNat < _; omega), show (op, (t : Int), b).2.1.toNat = t by show (t : Int).toNat = t; omega])
 have HG := Lib.hid (fun w => O.goes_any op (t : Int) b w)
 have HE := Lib.hid (fun w => O.ends_any op (t : Int) b w)
 have hgn : O.goesN op (t : Int) b = (t : Int) := by have := C.gN_yes hg; exact this
 have hgi : O.goesI op (t : Int) b = true := hg
 have hei : O.endsI op (t : Int) b = false := he
 simp only [hgn, hgi] at HG
 simp only [hei] at HE
 have b0 := Blk.new w 45 #[.int .i64 op, .int .i64 (t : Int), .int .i64 b]
 have k0 := (Keep.refl NoB w).alloc (.cells #[.int .i64 op, .int .i64 (t : Int), .int .i64 b] 45)
 clear hg he hgn hgi hei
 have q1 : ((t : Int) == (i : Int) + 1) = false := by rw [beq_eq_false_iff_ne]; omega
 have q2 : min (t : Int) ((i : Int) + 1) = (i : Int) + 1 := by omega
 have q3 : max (t : Int) ((i : Int) + 1) = t := by omega
 go_enter Tryz.func30, Tryz.ntmps30
 go_wp2_with fail
 refine (HG.out _).mono ?_
 rintro e1 w2 ⟨rfl, k2⟩
 have b2 : Blk w2 w.heap.size 45 #[.int .i64 op, .int .i64 (t : Int), .int .i64 b] := b0.keep k2 id
 have c0 := b2.cell 0
 have c1 := b2.cell 1
 have c2 := b2.cell 2
 simp only [List.getElem?_toArray, List.getElem?_cons_zero, List.getElem?_cons_succ] at c0 c1 c2
 have k3 := keepN k0 k2
 clear b0 b2 k0 k2
 go_wp2_with fail
 refine (HE.out _).mono ?_
 rintro e1 w3 ⟨rfl, k4⟩
 have k5 := keepN k3 k4
 clear k3 k4 c0 c1 c2 HG HE
 go_wp2
 go_ret
 rw [HS.out]
 have := intR_new (l := [i + 1, t]) k5
 simpa [nz] using this

theorem behind_any (x : C.I3) (i : Nat) (w : World) (hi : i ≤ 1000) : Calls Tryz.prog 30 #[.agg #[.int .i64 x.1, .int .i64 x.2.1, .int .i64 x.2.2], .int .i64 (i : Int)] w (IntR w (stepsX x i)) := by
 obtain ⟨op, a, b⟩ := x
 cases hg : C.gB (op, a, b) with
 | false =>
  cases he : C.eB (op, a, b) with
  | true => exact behind_ft op a b i w hi hg he
  | false => exact behind_ff op a b i w hi hg he
 | true =>
  have hin := C.gB_in hg
  have ha : a = (a.toNat : Int) := by have h := hin.1; show a = _; dsimp only at h; omega
  have ht : a.toNat ≤ 511 := by have h := hin.2; dsimp only at h; omega
  cases he : C.eB (op, a, b) with
  | true => exact behind_tt op a b i w hi hg he _ ha ht
  | false =>
   rcases Nat.lt_trichotomy a.toNat (i + 1) with h | h | h
   ·exact behind_tf_lt op a b i w hi hg he _ ha ht h
   ·exact behind_tf_eq op a b i w hi hg he _ ha ht h
   ·exact behind_tf_gt op a b i w hi hg he _ ha ht h
end Go.Proofs.YtghdibbooegocaaGreatDoor.G

namespace Go.Proofs.YtghdibbooegocaaGreatDoor.G
open Go.RowKit W

theorem blk_of_row {w1 : World} {E : TypeId} {sz g n : Nat} {zs : List Value} (hrow : w1.ownsRow 0 E sz (.slice (some ⟨g, 0, none⟩) n n) n zs) : ∃ cur, Blk w1 g E cur ∧ cur.size = n * sz := by
 obtain ⟨h3, h4⟩ := hrow
 rcases h4 with ⟨h4, _⟩ | ⟨g', cap, cur, h4, _, h6, _, _, h7, _⟩
 ·cases h4
 ·injection h4 with h4 _ h8
  injection h4 with h4
  injection h4 with h4 _ _
  subst h4 h8
  exact ⟨cur, h6, h7⟩
theorem keep_set (w : World) (g k : Nat) (v : Value) : Keep (fun x => x = g) w (w.setCell ⟨g, k, none⟩ v) := (Keep.refl (fun x => x = g) w).setCell (p := ⟨g, k, none⟩) (fun _ => rfl) v
theorem sl_info : (Tryz.prog.info? 23).map (fun i => (i.zero, i.size, i.bytes)) = some (some (.slice none 0 0), 1, 24) := by kernel_rfl
def StepsR (l : List C.I3) (w : World) (e : Ending) (w' : World) : Prop :=
 Keep NoB w w' ∧ ((C.okB l = false ∧ e = .returned (.slice none 0 0)) ∨
  (C.okB l = true ∧ ∃ g Bf cf, e = .returned (.slice (some ⟨g, 0, none⟩) l.length l.length) ∧ StAt (Fresh w) (some ⟨g, 0, none⟩) Bf cf l.length (stepsG l) w'))
def updF {β : Type} (f : Nat → β) (k : Nat) (v : β) : Nat → β := fun i => if i = k then v else f i

set_option maxRecDepth 100000 in
set_option maxHeartbeats 4000000 in
theorem stepsOf_any (A : Option Addr) (l : List C.I3) (n c : Nat) (w : World) (hr : Rd w A (C.iis l)) (hn : Hid (l.length = n)) (hm : n ≤ 9223372036854775807) :
  Calls Tryz.prog 33 #[.slice A n c] w (StepsR l w) := by
 cases ho : C.okB l
 ·have HC := Lib.hid (fun w hr => C.cchk_any A l n c w hr hn hm 50 (C.chkB_no ho))
  have HO := Lib.hid ho
  clear ho
  go_enter Tryz.func33, Tryz.ntmps33
  go_wp2_with (go_at_call 27; refine (HC.out _ hr).mono ?_; rintro e w1 ⟨rfl, k1⟩)
  go_ret
  exact ⟨k1, .inl ⟨HO.out, rfl⟩⟩
 ·obtain ⟨h1, h5, _, _⟩ := C.okB_parts ho
  rw [hn.out] at h1 h5
  have HC := Lib.hid (fun w hr => C.cchk_any A l n c w hr hn hm 0 (C.chkB_ok ho))
  have HO := Lib.hid ho
  have hr0 := Lib.hid hr
  obtain ⟨i0, hi, hz0, hz1, hz2⟩ := info_parts sl_info
  clear hr ho
  go_enter Tryz.func33, Tryz.ntmps33
  go_wp2_with fail
  refine (HC.out _ hr0.out).mono ?_
  rintro e w1 ⟨rfl, k1⟩
  clear HC
  go_wp2_with (at_make; refine wpList_make_full _ rfl _ _ 49 rfl 0 23 i0 _ 1 Tryz.underlying49 hi hz0 hz1 _ _ _ _ n rfl rfl rfl rfl (by rw [hz2]; omega) (by unfold maxLen; omega) (Nat.zero_le _) ?_; intro w3 hrow hg3)
  obtain ⟨cur, hB, hcs⟩ := blk_of_row hrow
  have hK3 : Keep NoB w w3 := k1.grown hg3 (fun g e _ => by cases e)
  have hw3 : w.heap.size ≤ w1.heap.size := k1.size
  obtain ⟨g, hg⟩ : ∃ g, w1.heap.size = g := ⟨_, rfl⟩
  rw [hg] at hB hw3 ⊢
  clear hrow hg3 k1 hg
  go_loopw [14] (fun i wr => ∃ (k : Nat) (cur : Array Value) (Bf : Nat → Option Addr) (cf : Nat → Nat), k ≤ n ∧ i = .int .i64 k ∧ Blk wr g 23 cur ∧ cur.size = n * 1 ∧ StAt (Fresh w) (some ⟨g, 0, none⟩) Bf cf k (stepsG l) wr ∧ Keep NoB w wr ∧ Hid (∀ j, j < k → ∀ ad, Bf j = some ad → g < ad.block)) (fun i _ => n - (intOf i).toNat)
  case atStart => exact ⟨0, cur, fun _ => none, fun _ => 0, Nat.zero_le _, rfl, hB, hcs, fun i hi => absurd hi (Nat.not_lt_zero _), hK3, fun j hj => absurd hj (Nat.not_lt_zero _)⟩
  case round =>
   obtain ⟨k, cur, Bf, cf, hk, rfl, hBr, hcs, hS, hK, hbn⟩ := hrel
   clear hB hK3
   by_cases hlt : k < n
   ·have hkl : k < l.length := by rw [hn.out]; exact hlt
    obtain ⟨g0, off, rfl, hc⟩ := C.rdJ_at hr0.out (by omega)
    obtain ⟨d0, d1, d2⟩ := hc k hkl
    have c0 := hK.cell d0 id
    have c1 := hK.cell d1 id
    have c2 := hK.cell d2 id
    have HX := Lib.hid (steps_at (List.getElem?_eq_getElem hkl))
    clear hc d0 d1 d2
    generalize l[k] = x at c0 c1 c2 HX
    obtain ⟨op, a, b⟩ := x
    dsimp only at c0 c1 c2
    have HBe := Lib.hid (fun w => behind_any (op, a, b) k w (by omega))
    dsimp only at HBe
    go_wp2_with fail
    refine (HBe.out _).mono ?_
    rintro e w4 ⟨B, cB, rfl, hrB, hfr, k4⟩
    have k5 : Keep NoB wr w4 := keepN ((Keep.refl NoB wr).alloc _) k4
    have hB4 : Blk w4 g 23 cur := hBr.keep k5 id
    have cc : w4.cell? ⟨g, k, none⟩ = some (cur[k]'(by omega)) := by rw [hB4.cell]; exact Array.getElem?_eq_getElem _
    have hf := hB4.frozen k
    have hgl := hBr.lt
    have hne : ∀ ad, B = some ad → g < ad.block := fun ad e => by have := hfr ad e; rw [World.size_alloc] at this; omega
    have hput := hB4.put k (.slice B (stepsX (op, a, b) k).length cB)
    have hrB2 : Rd (w4.setCell ⟨g, k, none⟩ (.slice B (stepsX (op, a, b) k).length cB)) B (ivs (nz (stepsX (op, a, b) k))) :=
     hrB.keep (keep_set w4 g k _) (fun ad e h => by have := hne ad e; omega)
    have hS2 : Hid (StAt (Fresh w) (some ⟨g, 0, none⟩) (updF Bf k B) (updF cf k cB) (k + 1) (stepsG l) (w4.setCell ⟨g, k, none⟩ (.slice B (stepsX (op, a, b) k).length cB))) := fun i hi => by
     by_cases he : i = k
     ·subst he
      refine ⟨g, rfl, by show w.heap.size ≤ g; omega, ?_, ?_, ?_⟩
      ·rw [HX.out, hput.cell, Array.getElem?_setIfInBounds_self, if_pos (by omega)]; simp [updF]
      ·rw [HX.out]; simpa [updF] using hrB2
      ·intro _ ad e
       have e : B = some ad := by simpa [updF] using e
       have := hne ad e
       show w.heap.size ≤ ad.block
       omega
     ·obtain ⟨g', e1, e2, e3, e4, e5⟩ := hS i (by omega)
      cases e1
      refine ⟨g, rfl, e2, ?_, ?_, ?_⟩
      ·have h0 := k5.cell e3 id
       rw [hput.cell, Array.getElem?_setIfInBounds_ne (fun h => he h.symm), ← hB4.cell, h0]
       simp [updF, he]
      ·have := (e4.keepN k5).keep (keep_set w4 g k (.slice B (stepsX (op, a, b) k).length cB)) (fun ad e h => by have := hbn.out i (by omega) ad e; omega)
       simpa [updF, he] using this
      ·intro hl ad e
       exact e5 hl ad (by simpa [updF, he] using e)
    have hK5 : Hid (Keep NoB w (w4.setCell ⟨g, k, none⟩ (.slice B (stepsX (op, a, b) k).length cB))) := (keepN hK k5).setCell (fun h => absurd h (by simp; omega)) _
    have hbn2 : Hid (∀ j, j < k + 1 → ∀ ad, updF Bf k B j = some ad → g < ad.block) := fun j hj ad e => by
     unfold updF at e
     split at e
     ·exact hne ad e
     ·exact hbn.out j (by omega) ad e
    have hcs2 : Hid ((cur.setIfInBounds k (.slice B (stepsX (op, a, b) k).length cB)).size = n * 1) := by show _ = _; rw [Array.size_setIfInBounds]; exact hcs
    have HPT := Lib.hid hput
    have hkc : k < cur.size := by omega
    generalize stepsX (op, a, b) k = sx at *
    generalize cur[k]'hkc = old at cc
    clear hput hrB hrB2 hfr hS hK k4 k5 hB4 hBr hne hcs hgl hbn HX HBe c0 c1 c2
    go_wp2
    go_roundw
    case rel => exact ⟨k + 1, _, _, _, by omega, by go_num, HPT.out, hcs2.out, hS2.out, hK5.out, hbn2⟩
    case measure => simp [intOf]; omega
   ·obtain rfl : k = n := by omega
    have hfin : Hid (StAt (Fresh w) (some ⟨g, 0, none⟩) Bf cf k (stepsG l) wr ∧ Keep NoB w wr) := ⟨hS, hK⟩
    clear hS hK hbn hBr
    go_wp2
    go_ret
    refine ⟨hfin.out.2, .inr ⟨HO.out, g, Bf, cf, ?_, by rw [hn.out]; exact hfin.out.1⟩⟩
    rw [hn.out]
    rfl
end Go.Proofs.YtghdibbooegocaaGreatDoor.G

namespace Go.Proofs.YtghdibbooegocaaGreatDoor.G
open Go.RowKit Go.Shelf W

theorem anywhere_any (q : Int) (w : World) : Calls Tryz.prog 51 #[.int .i64 q] w fun e w' => e = .returned (.bool true) ∧ w' = w := by
 go_enter Tryz.func51, Tryz.ntmps51
 go_wp2
 go_ret
 exact ⟨rfl, rfl⟩
def NearR (A : Option Addr) (n c fr fo : Nat) (lo : Array Value) (w : World) (e : Ending) (w' : World) : Prop :=
 e = .returned (.func (.func 64) #[] #[.pointer (some ⟨w.heap.size + 1, 0, none⟩), .pointer (some ⟨w.heap.size, 0, none⟩), .pointer (some ⟨w.heap.size + 1 + 1, 0, none⟩)]) ∧
 w'.heap.size = w.heap.size + 1 + 1 + 1 ∧ Keep NoB w w' ∧ Blk w' (w.heap.size + 1) 3 #[.int .i64 (fr : Int)] ∧ Blk w' w.heap.size 49 #[.slice A n c] ∧ Blk w' (w.heap.size + 1 + 1) 59 #[.func (.func fo) #[] lo]
theorem nearest_any (A : Option Addr) (n c fr fo : Nat) (lo : Array Value) (w : World) :
  Calls Tryz.prog 50 #[.slice A n c, .int .i64 (fr : Int), .func (.func fo) #[] lo] w (NearR A n c fr fo lo w) := by
 have b0 := ((Blk.new w 49 #[.slice A n c]).alloc (.cells #[.int .i64 (fr : Int)] 3)).alloc (.cells #[.func (.func fo) #[] lo] 59)
 have b1 := (Blk.new (w.alloc (.cells #[.slice A n c] 49)) 3 #[.int .i64 (fr : Int)]).alloc (.cells #[.func (.func fo) #[] lo] 59)
 have b2 := Blk.new ((w.alloc (.cells #[.slice A n c] 49)).alloc (.cells #[.int .i64 (fr : Int)] 3)) 59 #[.func (.func fo) #[] lo]
 simp only [World.size_alloc] at b1 b2
 have hk : Keep NoB w (((w.alloc (.cells #[.slice A n c] 49)).alloc (.cells #[.int .i64 (fr : Int)] 3)).alloc (.cells #[.func (.func fo) #[] lo] 59)) := (((Keep.refl NoB w).alloc _).alloc _).alloc _
 have HB := Lib.hid (And.intro hk (And.intro b1 (And.intro b0 b2)))
 clear b0 b1 b2 hk
 go_enter Tryz.func50, Tryz.ntmps50
 go_wp2
 go_ret
 exact ⟨rfl, by simp [World.size_alloc], HB.out⟩
end Go.Proofs.YtghdibbooegocaaGreatDoor.G
