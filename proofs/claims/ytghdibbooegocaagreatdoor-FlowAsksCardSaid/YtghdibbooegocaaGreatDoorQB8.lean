/-
  Part 8 of the proofs of GAsksRow: what is laid, and what the functions that the law runs answer. Conditions: each theorem names its own.
-/
import Derived.Deep.DeepFit
import Derived.Laws.OwnMore
import Derived.Lib.AtoiBound
import Derived.Lib.DecodeN
import Derived.Lib.IndexBytes
import Derived.Lib.IndexMore
import Derived.Lib.OthersKept
import Derived.Lib.OwnBridge
import Derived.Lib.RuneBytes
import Derived.Lib.SlicesCompact
import Derived.Lib.Strings
import Derived.Sort.Grow
import Derived.Sort.OwnSortedInts
import Derived.StillTailTactics
import Derived.Test.YtghdibbooegocaaGreatDoorQB7
namespace Go.Proofs.YtghdibbooegocaaGreatDoor.G
open Go.RowKit Go.Shelf W
attribute [local go_sem] Oper.semAt_some

def narA (A : Option Addr) (n c : Nat) (Wa : Option Addr) (m cw : Nat) (w : World) (b8 i : Nat) (v : Value) (Ds : List Nat) (j6 j7 j11 j12 j17 j18 j19 j20 j21 j22 j23 j24 j25 j26 j27 j32 j33 j34 j35 j36 j37 j38 j39 j40 j41 j42 j43 j44 j45 j46 j69 : Value) : Act :=
 { tmps := #[.slice A n c, .slice Wa m cw, .pointer (some ⟨w.heap.size, 0, none⟩), undef, .slice none 0 0, .pointer (some ⟨w.heap.size + 1 + 1, 0, none⟩), j6, j7, .pointer (some ⟨b8, 0, none⟩), v, .pointer (some ⟨b8 + 1, 0, none⟩), j11, j12, undef, undef, undef, .map (some (w.heap.size + 1)), j17, j18, j19, j20, j21, j22, j23, j24, j25, j26, j27, .func (.func 56) #[] #[.pointer (some ⟨w.heap.size + 1 + 1, 0, none⟩)], .slice Wa m cw, .int .i64 (m : Int), .int .i64 (i : Int), j32, j33, j34, j35, j36, j37, j38, j39, j40, j41, j42, j43, j44, j45, j46, undef, undef, undef, undef, undef, undef, undef, undef, undef, undef, undef, undef, undef, undef, undef, undef, undef, undef, undef, undef, undef, undef, j69, undef], defers := Ds.map markOf }
def NwJ (w : World) (A : Option Addr) (n c b8 b16 : Nat) (s : Nat → List Nat) (wl VL : List Nat) (far : Nat) (v : Value) (L Ds : List Nat) (pre : List (Nat × Nat)) (p : BSet) (W : World) : Prop :=
 (p = fun k => k = b16 ∨ k = b8 + 1) ∧ NwI w A n c b8 b16 wl (vl wl VL pre) (farS s wl far (keysN pre)) v L Ds W
theorem nwJ_out {w : World} {A : Option Addr} {n c b8 b16 far B : Nat} {s : Nat → List Nat} {wl VL : List Nat} {v : Value} {L Ds : List Nat} (h0 : b8 + 1 < B) (h1 : b16 < B) (h2 : ∀ g, v.ownBlock = some g → g < B) (h3 : ∀ D ∈ Ds, D < B) : KeepsOutF B (NwJ w A n c b8 b16 s wl VL far v L Ds) := by
 rintro pre p W W' ⟨h, hn⟩ hs
 exact ⟨h, hn.keep hs.keep (fun k hk hh => by omega) (fun hh => by omega) (fun g e hh => by have := h2 g e; omega) (fun D hD hh => by have := h3 D hD; omega)⟩
theorem vl_op {wl VL : List Nat} {pre : List (Nat × Nat)} {q : Nat} (hq : q ∉ keysN pre) : (!(decide (q ∈ wl ∨ q ∈ vl wl VL pre))) = decide (q ∉ wl ∧ q ∉ VL) := by
 rw [Bool.eq_iff_iff]
 simp only [Bool.not_eq_true', decide_eq_false_iff_not, decide_eq_true_eq, vl_mem]
 constructor
 ·intro h
  exact ⟨fun hw => h (.inl hw), fun hv => h (.inr (.inl hv))⟩
 ·rintro ⟨h1, h2⟩ (h | h | ⟨h, _⟩)
  ·exact h1 h
  ·exact h2 h
  ·exact hq h
theorem own_push {B n : Nat} {v : Value} {xs : List Value} {W : World} (h : Own W 3 1 (fun k => B < k) v n xs) (hB : B < W.heap.size) (x : Int) (hn : n + 1 ≤ 1000000) :
  ∃ v' W', (Builtin.append_ #[23, 23] 23 #[v, .slice (some ⟨W.heap.size, 0, none⟩) 1 1]).run Tryz.prog (W.alloc (.cells #[.int .i64 x] 3)) = .ok v' W' ∧ Own W' 3 1 (fun k => B < k) v' (n + 1) (xs ++ [.int .i64 x]) ∧ (W.alloc (.cells #[.int .i64 x] 3)).grownBy W' v.ownBlock := by
 obtain ⟨i0, hi, hz0, hz1, hz2⟩ := info_parts int_info
 have hr : W.ownsRow (B + 1) 3 1 v n xs := by
  refine ⟨h.1.1, ?_⟩
  rcases h.1.2 with h2 | ⟨g, cap, cur, h1, _, h2⟩
  ·exact .inl h2
  ·exact .inr ⟨g, cap, cur, h1, by have := h.2 g (by rw [h1]; rfl); omega, h2⟩
 obtain ⟨v', W', hrun, h2, h3, _⟩ := run_append_own (P := Tryz.prog) (W.alloc (.cells #[.int .i64 x] 3)) (B + 1) 23 23 3 i0 (.int .i64 0) 1 8 Tryz.underlying23 hi hz0 hz1 hz2 rfl (by decide) v n xs (hr.alloc _) ⟨W.heap.size, 0, none⟩ 1 1 [.int .i64 x] rfl
  (fun j u hu => by
   cases j with
   | zero => simp at hu; subst hu; rw [Addr.add_lit]; exact (Blk.new W _ _).cell 0
   | succ j => simp at hu) (by simp [Value.oneCell']) (by unfold maxLen; omega) (by omega) (by rw [World.size_alloc]; omega)
 exact ⟨v', W', hrun, Own.of_row h2 (fun k hk => by omega), h3⟩

set_option maxRecDepth 100000 in
set_option maxHeartbeats 16000000 in
theorem narrows_any (A : Option Addr) (T : BSet) (Bf : Nat → Option Addr) (cf : Nat → Nat) (n c : Nat) (s : Nat → List Nat) (Wa : Option Addr) (m cw at0 : Nat) (wl : List Nat) (f : Nat → Bool) (w : World) (hst : StAt T A Bf cf n s w) (hrw : Rd w Wa (ivs (nz wl))) (hm : Hid (wl.length = m)) (hp : Hid (Path s wl 0 at0)) (hwl : Hid (∀ y ∈ wl, y < n))
  (hn : n ≤ 1000) (hs : Hid (∀ i a, i < n → a ∈ s i → a < n)) (hsl : Hid (∀ i, i < n → (s i).length ≤ 2)) (hf : Hid (∀ y, f y = true ↔ Must s [0] at0 y)) :
  Calls Tryz.prog 40 #[.slice A n c, .slice Wa m cw] w fun e w' => ∃ v, e = .returned v ∧ Own w' 3 1 (Fresh w) v (wl.filter f).length (ivs (nz (wl.filter f))) ∧ Keep NoB w w' := by
 have hmm := @run_makeMap Tryz.prog
 have HS := Lib.hid (fun W (hk : Keep NoB w W) => hst.here.keepN hk)
 have HR := Lib.hid (fun W (hk : Keep NoB w W) => hrw.keepN hk)
 have hmn : m ≤ n := by rw [← hm.out]; exact nodup_len n wl hp.out.nodup hwl.out
 have hm0 : 0 < m := by rw [← hm.out]; exact hp.out.pos
 clear hst hrw
 have k2 := ((Blk.new w 49 #[.slice A n c]).alloc (.map #[] 0)).alloc (.cells #[.map (some (w.heap.size + 1))] 51)
 have hM := ((OMapS.new Tryz.prog 3 3 (w.alloc (.cells #[.slice A n c] 49))).keep ((Keep.refl NoB _).alloc (.cells #[.map (some (w.heap.size + 1))] 51)) id)
 have k5 := Blk.new ((w.alloc (.cells #[.slice A n c] 49)).alloc (.map #[] 0)) 51 #[.map (some (w.heap.size + 1))]
 simp only [World.size_alloc] at hM k5
 have kp : Keep NoB w (((w.alloc (.cells #[.slice A n c] 49)).alloc (.map #[] 0)).alloc (.cells #[.map (some (w.heap.size + 1))] 51)) := (((Keep.refl NoB w).alloc _).alloc _).alloc _
 have HM := Lib.hid (And.intro kp (And.intro k2 (And.intro k5 hM)))
 have hzw : (((w.alloc (.cells #[.slice A n c] 49)).alloc (.map #[] 0)).alloc (.cells #[.map (some (w.heap.size + 1))] 51)).heap.size = w.heap.size + 1 + 1 + 1 := by simp [World.size_alloc]
 have HZ := Lib.hid hzw
 clear kp k2 k5 hM hzw
 refine (callsIn_wide (n := 4)).1 ?_
 refine callsIn_of_wp_marks Tryz.func40 rfl trivial ?_ rfl
 simp only [Tryz.ntmps40, List.size_toArray, List.length_cons, List.length_nil, Nat.reduceAdd, Nat.reduceSub, Array.replicate_succ, Array.replicate_zero, List.push_toArray, List.append_toArray, List.nil_append, List.cons_append]
 gi_wp2
 clear hmm
 generalize ((w.alloc (.cells #[.slice A n c] 49)).alloc (.map #[] 0)).alloc (.cells #[.map (some (w.heap.size + 1))] 51) = W0 at HM HZ ⊢
 gi_loopw [19] (fun i wr => ∃ k : Nat, k ≤ m ∧ i = .int .i64 (k : Int) ∧ Hid (Keep NoB w wr ∧ Blk wr w.heap.size 49 #[.slice A n c] ∧ Blk wr (w.heap.size + 1 + 1) 51 #[.map (some (w.heap.size + 1))] ∧ OMapS Tryz.prog 3 3 (w.heap.size + 1) k (lookN (wl.zipIdx.take k)) wr ∧ w.heap.size + 1 + 1 + 1 ≤ wr.heap.size)) (fun i _ => m - (intOf i).toNat)
 case atStart => exact ⟨0, Nat.zero_le _, rfl, HM.out.1, HM.out.2.1, HM.out.2.2.1, HM.out.2.2.2, by rw [HZ.out]; exact Nat.le_refl _⟩
 case round =>
  obtain ⟨k, hk, rfl, HI⟩ := hrel
  obtain ⟨h1, h2, h3, h4, h5⟩ := HI.out
  by_cases hlt : k < m
  ·have hkl : k < wl.length := by rw [hm.out]; exact hlt
   obtain ⟨gw, ow, rfl, hc⟩ := rd_steps (HR.out wr h1) (by omega)
   have hx := List.getElem?_eq_getElem hkl
   have cx := hc k _ hx
   have hxn := hwl.out _ (List.getElem_mem hkl)
   have c5 := h3.cell 0
   simp only [List.getElem?_toArray, List.getElem?_cons_zero] at c5
   have hnk : wl[k] ∉ keysN (wl.zipIdx.take k) := fun h => by
    obtain ⟨i, e, hi, he⟩ := mem_keys_iff.1 h
    rw [List.getElem?_take] at hi
    by_cases hik : i < k
    ·rw [if_pos hik, zip_at] at hi
     obtain ⟨y, hy, rfl⟩ := Option.map_eq_some_iff.1 hi
     dsimp only at he
     rw [he] at hy
     have := at_inj hp.out.nodup hy hx
     omega
    ·rw [if_neg hik] at hi
     exact absurd hi (by simp)
   have hsn : wl.zipIdx.take (k + 1) = wl.zipIdx.take k ++ [(wl[k], k)] := by
    rw [List.take_succ_eq_append_getElem (by simpa using hkl)]
    congr 1
    simp
   obtain ⟨w5, hup, hM5, hg5⟩ := h4.update (t := 51) Tryz.underlying51 Tryz.underlying3 Tryz.underlying3 (by unfold maxLen; omega) (wl[k] : Int) k (look_nat.2 hnk) (wfN (by omega)) (wfN (by omega))
   have HN : Hid (Keep NoB w w5 ∧ Blk w5 w.heap.size 49 #[.slice A n c] ∧ Blk w5 (w.heap.size + 1 + 1) 51 #[.map (some (w.heap.size + 1))] ∧ OMapS Tryz.prog 3 3 (w.heap.size + 1) (k + 1) (lookN (wl.zipIdx.take (k + 1))) w5 ∧ w.heap.size + 1 + 1 + 1 ≤ w5.heap.size) := by
    refine ⟨h1.grown hg5 (fun g e hl => by cases e; omega), h2.grown hg5 (by simp), h3.grown hg5 (by simp), ?_, Nat.le_trans h5 hg5.size⟩
    rw [hsn]
    exact hM5.congr fun y => putO_look hnk y
   generalize wl[k] = x at cx hup hxn
   clear h1 h2 h3 h4 h5 HI hM5 hg5 hnk hsn hx hc HM HZ
   gi_wp2
   go_roundw
   case rel => exact ⟨k + 1, by omega, by go_num, HN⟩
   case measure => simp [intOf]; omega
  ·obtain rfl : k = m := by omega
   obtain ⟨b8, hb8⟩ : ∃ b8, wr.heap.size = b8 := ⟨_, rfl⟩
   have k8 := (Blk.new wr 59 #[.func (.func 56) #[] #[.pointer (some ⟨w.heap.size + 1 + 1, 0, none⟩)]]).alloc (.cells #[.int .i64 0] 3)
   have k10 := Blk.new (wr.alloc (.cells #[.func (.func 56) #[] #[.pointer (some ⟨w.heap.size + 1 + 1, 0, none⟩)]] 59)) 3 #[.int .i64 0]
   simp only [World.size_alloc] at k10
   have hkk : Keep NoB wr ((wr.alloc (.cells #[.func (.func 56) #[] #[.pointer (some ⟨w.heap.size + 1 + 1, 0, none⟩)]] 59)).alloc (.cells #[.int .i64 0] 3)) := ((Keep.refl NoB wr).alloc _).alloc _
   have hN0 : Hid (NwI w A n c b8 (w.heap.size + 1) wl [] 0 (.slice none 0 0) [] [] ((wr.alloc (.cells #[.func (.func 56) #[] #[.pointer (some ⟨w.heap.size + 1 + 1, 0, none⟩)]] 59)).alloc (.cells #[.int .i64 0] 3))) := by
    rw [hb8] at k8 k10
    refine ⟨keepN h1 hkk, h2.keep hkk id, h3.keep hkk id, k8, k10, ?_, Own.nil _ _ _ _, Marks.nil _ _, by rw [List.append_nil]; exact hp.out.nodup, by rw [List.append_nil]; exact hwl.out, by omega, by omega⟩
    rw [wm_nil, List.length_zipIdx, hm.out]
    have h6 := h4.keep hkk id
    rwa [List.take_of_length_le (by rw [List.length_zipIdx, hm.out]; exact Nat.le_refl _)] at h6
   clear h1 h2 h3 h4 h5 HI HM HZ k8 k10 hkk
   gi_wp2
   generalize (wr.alloc (.cells #[.func (.func 56) #[] #[.pointer (some ⟨w.heap.size + 1 + 1, 0, none⟩)]] 59)).alloc (.cells #[.int .i64 0] 3) = W1 at hN0 ⊢
   clear hb8 wr
   refine wpIn_loop (fun a' W => ∃ (i : Nat) (Ds : List Nat) (VL : List Nat) (far : Nat) (v : Value) (j6 j7 j11 j12 j17 j18 j19 j20 j21 j22 j23 j24 j25 j26 j27 j32 j33 j34 j35 j36 j37 j38 j39 j40 j41 j42 j43 j44 j45 j46 j69 : Value), a' = narA A n c Wa k cw w b8 i v Ds j6 j7 j11 j12 j17 j18 j19 j20 j21 j22 j23 j24 j25 j26 j27 j32 j33 j34 j35 j36 j37 j38 j39 j40 j41 j42 j43 j44 j45 j46 j69 ∧ i ≤ k ∧ Hid (NwI w A n c b8 (w.heap.size + 1) wl VL far v ((wl.take i).filter f) Ds W ∧ Nar s wl (fun y => y ∈ VL) i far ∧ far < k)) (fun a' _ => k - (intOf (a'.tmps.getD 31 undef)).toNat) ?start ?round
   case start => exact ⟨0, [], [], 0, _, _, _, _, _, _, _, _, _, _, _, _, _, _, _, _, _, _, _, _, _, _, _, _, _, _, _, _, _, _, _, _, rfl, Nat.zero_le _, hN0.out, by simpa using Nar.start s wl, hm0⟩
   case round =>
    rintro a' W ⟨i, Ds, VL, far, v, j6, j7, j11, j12, j17, j18, j19, j20, j21, j22, j23, j24, j25, j26, j27, j32, j33, j34, j35, j36, j37, j38, j39, j40, j41, j42, j43, j44, j45, j46, j69, rfl, hi, HN⟩
    dsimp only [narA]
    by_cases hik : i < k
    ·have hil : i < wl.length := by rw [hm.out]; exact hik
     have hN := HN.out.1
     obtain ⟨gw, ow, rfl, hc⟩ := rd_steps (HR.out W hN.kp) (by omega)
     have hx := List.getElem?_eq_getElem hil
     have cx := hc i _ hx
     obtain ⟨p, hpx⟩ : ∃ p, wl[i] = p := ⟨_, rfl⟩
     rw [hpx] at hx cx
     have hpw : p ∈ wl := List.mem_of_getElem? hx
     have hpn : p < n := hwl.out p hpw
     have c10 := hN.k10.cell 0
     simp only [List.getElem?_toArray, List.getElem?_cons_zero] at c10
     have hmust := HN.out.2.1.must hp.out hx
     have hfl := HN.out.2.2
     have htk : (wl.take (i + 1)).filter f = (wl.take i).filter f ++ (if f p = true then [p] else []) := by
      rw [List.take_succ_eq_append_getElem hil, List.filter_append, hpx]
      congr 1
      by_cases h : f p = true
      ·rw [if_pos h]; simp [h]
      ·rw [if_neg h]; simp [h]
     have hLl : ((wl.take i).filter f).length ≤ i := Nat.le_trans (List.length_filter_le _ _) (by rw [List.length_take]; omega)
     have hbW := hN.apart
     have HTK : Hid (∃ v2 W2, ((f p = true ∧ far = i ∧ (Builtin.append_ #[23, 23] 23 #[v, .slice (some ⟨W.heap.size, 0, none⟩) 1 1]).run Tryz.prog (W.alloc (.cells #[.int .i64 (p : Int)] 3)) = .ok v2 W2) ∨ (f p = false ∧ far ≠ i ∧ v2 = v ∧ W2 = W)) ∧
       NwI w A n c b8 (w.heap.size + 1) wl VL far v2 ((wl.take (i + 1)).filter f) Ds W2) := by
      cases hfp : f p with
      | true =>
       obtain ⟨v2, W2, hrun, hO, hg⟩ := own_push hN.own hbW.bl (p : Int) (by omega)
       have hk2 : Keep (fun k => v.ownBlock = some k) W W2 := ((Keep.refl _ W).alloc _).grown hg (fun g e _ => e)
       refine ⟨v2, W2, .inl ⟨rfl, hmust.2 ((hf.out p).1 hfp), hrun⟩, ?_⟩
       have hmv : ∀ k, k ≤ b8 + 1 → ¬ v.ownBlock = some k := fun k hk e => by have := (hbW.mv k e).2.1; omega
       rw [htk, if_pos hfp]
       exact ⟨hN.kp.trans hk2 (fun k hk hl => by have h1 := (hbW.mv k hk).2.1; have h2 := hN.b; omega), hN.k2.keep hk2 (hmv _ (by have := hN.b; omega)), hN.k5.keep hk2 (hmv _ (by have := hN.b; omega)), hN.k8.keep hk2 (hmv _ (by omega)), hN.k10.keep hk2 (hmv _ (by omega)), hN.map.keep hk2 (fun e => (hbW.mv _ e).1 rfl),
        by rw [List.length_append]; simpa [nz] using hO, hN.marks.keep hk2 (fun D hD => (hbW.dk D hD).2.2), hN.nd, hN.lt, hN.b, hN.b6⟩
      | false =>
       refine ⟨v, W, .inr ⟨rfl, fun e => ?_, rfl, rfl⟩, ?_⟩
       ·have := (hf.out p).2 (hmust.1 e)
        rw [hfp] at this; cases this
       ·rw [htk, if_neg (by rw [hfp]; decide), List.append_nil]; exact hN
     clear hN hmust htk hbW hc hLl hpx
     obtain ⟨v2, W2, hcase, hN2⟩ := HTK.out
     have HN2 := Lib.hid hN2
     have hNar := Lib.hid HN.out.2.1
     have c2 := hN2.k2.cell 0
     have c8 := hN2.k8.cell 0
     simp only [List.getElem?_toArray, List.getElem?_cons_zero] at c2 c8
     have HX := Lib.hid hx
     clear HTK HN hx hN2 hN0
     rcases hcase with ⟨_, hfi, hap⟩ | ⟨_, hfi, rfl, rfl⟩
     case' inl => have q1 : ((far : Int) == (i : Int)) = true := by rw [beq_iff_eq]; omega
     case' inr => have q1 : ((far : Int) == (i : Int)) = false := by rw [beq_eq_false_iff_ne]; omega
     case' inl => gi_wp2_with (first | (gi_at_builtin; refine wpListIn_append_run _ rfl _ _ 23 rfl _ _ v2 W2 rfl rfl hap ?_) | fail)
     case' inr => gi_wp2_with fail
     all_goals
      have hN2 := HN2.out
      refine ⟨trivial, (callsIn_wide.2 (nearest_any A n c p 56 #[.pointer (some ⟨w.heap.size + 1 + 1, 0, none⟩)] W2)).mono ?_⟩
      rintro e W4 ⟨rfl, hz4, k4, bf, bs, bo⟩
      have hN4 := hN2.keepN k4
      have hA4 := hN4.apart
      have hA2 := hN2.apart
      have hH0 : NrH w.heap.size p A Bf cf n c s 56 #[.pointer (some ⟨w.heap.size + 1 + 1, 0, none⟩)] (W2.heap.size + 1) W2.heap.size (W2.heap.size + 1 + 1) W4 := ⟨bf, bs, bo, HS.out W4 hN4.kp⟩
      have hstp := Lib.hid (near_stops 2 3 p n c 56 (W2.heap.size + 1) W2.heap.size (W2.heap.size + 1 + 1) A Bf cf s (fun y => decide (y ∉ wl ∧ y ∉ VL)) #[.pointer (some ⟨w.heap.size + 1 + 1, 0, none⟩)] hn (fun _ => hpn) (by omega) hs hsl (NrH w.heap.size p A Bf cf n c s 56 #[.pointer (some ⟨w.heap.size + 1 + 1, 0, none⟩)] (W2.heap.size + 1) W2.heap.size (W2.heap.size + 1 + 1)) (fun pre W => Blk W (w.heap.size + 1 + 1) 51 #[.map (some (w.heap.size + 1))] ∧ OMapS Tryz.prog 3 3 (w.heap.size + 1) (wm wl (vl wl VL pre)).length (lookN (wm wl (vl wl VL pre))) W) (fun W h => h.nr) (enters_of Tryz.func56 rfl rfl)
       (fun pre W q hfa hq hqn => (around_any q _ _ _ _ W (by omega) hfa.1 hfa.2.omap).mono (by rintro e W' ⟨rfl, rfl⟩; exact ⟨by rw [some_wm, vl_op hq], rfl⟩)))
      have hi0 : (NwJ w A n c b8 (w.heap.size + 1) s wl VL far v2 ((wl.take (i + 1)).filter f) Ds) [] (fun k => k = w.heap.size + 1 ∨ k = b8 + 1) W4 := ⟨rfl, by rw [vl_nil]; exact hN4⟩
      have hbb := hN2.b
      have hm2 := hA2.ml
      have hb2 := hA2.bl
      have hHs : ∀ (O : Nat → Prop) (X Y : World), (∀ k, O k → (k = w.heap.size + 1 ∨ k = b8 + 1) ∨ W4.heap.size ≤ k) → NrH w.heap.size p A Bf cf n c s 56 #[.pointer (some ⟨w.heap.size + 1 + 1, 0, none⟩)] (W2.heap.size + 1) W2.heap.size (W2.heap.size + 1 + 1) X → Keep O X Y → NrH w.heap.size p A Bf cf n c s 56 #[.pointer (some ⟨w.heap.size + 1 + 1, 0, none⟩)] (W2.heap.size + 1) W2.heap.size (W2.heap.size + 1 + 1) Y :=
       fun O X Y hO h hk => h.keep hk (fun k hk h => by have := hO k h; omega) (fun h => by have := hO _ h; omega) (fun h => by have := hO _ h; omega) (fun h => by have := hO _ h; omega)
      have hp0 : ∀ k, (k = w.heap.size + 1 ∨ k = b8 + 1) → k < W4.heap.size := fun k hk => by omega
      have hJo := nwJ_out (w := w) (A := A) (n := n) (c := c) (b8 := b8) (b16 := w.heap.size + 1) (far := far) (B := W4.heap.size) (s := s) (wl := wl) (VL := VL) (v := v2) (L := (wl.take (i + 1)).filter f) (Ds := Ds) (by omega) (by omega) (fun g e => (hA4.mv g e).2.2) (fun D hD => (hA4.dk D hD).2.1)
      have HD := Lib.hid (fun D hD => (hA4.dk D hD).2.1)
      have HZ := Lib.hid (And.intro hz4 (And.intro hbb (And.intro hm2 (And.intro hb2 hN4.kp.size))))
      clear hN2 hN4 hA4 hA2 bf bs bo k4 c2 c8 c10 cx hz4 hbb hm2 hb2
      gi_wp2_with fail
      obtain ⟨hz4, hbb, hm2, hb2, hw4⟩ := HZ.out
      refine wpIn_rangeFunc_F (m := 2) (gf := 64) (lb := #[.pointer (some ⟨W2.heap.size + 1, 0, none⟩), .pointer (some ⟨W2.heap.size, 0, none⟩), .pointer (some ⟨W2.heap.size + 1 + 1, 0, none⟩)]) rfl (enters_of Tryz.func64 rfl rfl)
       hstp.out (fun _ => rfl) (NwJ w A n c b8 (w.heap.size + 1) s wl VL far v2 ((wl.take (i + 1)).filter f) Ds) (fun _ _ _ _ => False) hJo (fun pre q W h k hk => by have ha := h.2.apart; rw [h.1] at hk; rcases hk with rfl | rfl; exact ha.ml; exact ha.bl) (fun pre q W h => ⟨h.2.k5, h.2.map⟩) (fun _ _ _ _ _ h _ => h) hi0 hp0 hH0 hHs
       (fun pre x q a' W => (NwJ w A n c b8 (w.heap.size + 1) s wl VL far v2 ((wl.take (i + 1)).filter f) Ds) pre q W ∧ ∃ (j6 j7 j9 j11 j12 j17 j18 j19 j20 j21 j22 j23 j24 j25 j26 j27 j32 j33 j34 j35 j36 j37 j38 j39 j40 j41 j42 j43 j44 j45 j46 j69 : Value), a' = { tmps := #[.slice A n c, .slice (some ⟨gw, ow, none⟩) k cw, .pointer (some ⟨w.heap.size, 0, none⟩), undef, .slice none 0 0, .pointer (some ⟨w.heap.size + 1 + 1, 0, none⟩), j6, j7, .pointer (some ⟨b8, 0, none⟩), j9, .pointer (some ⟨b8 + 1, 0, none⟩), j11, j12, .int .i64 (x.1 : Int), undef, undef, .map (some (w.heap.size + 1)), j17, j18, j19, j20, j21, j22, j23, j24, j25, j26, j27, .func (.func 56) #[] #[.pointer (some ⟨w.heap.size + 1 + 1, 0, none⟩)], .slice (some ⟨gw, ow, none⟩) k cw, .int .i64 (k : Int), .int .i64 (i : Int), j32, j33, j34, j35, j36, j37, j38, j39, j40, j41, j42, j43, j44, j45, j46, .int .i64 (x.1 : Int), .int .i64 (x.2 : Int), undef, undef, undef, undef, undef, undef, undef, undef, undef, undef, undef, undef, undef, undef, undef, undef, undef, undef, undef, undef, j69, undef], defers := [] }) ?hax ?assign ?body ?done ?stop
      case hax =>
       rintro pre x a' u q W W' ⟨g1, g4⟩ hs
       exact ⟨hJo _ _ _ _ g1 hs, g4⟩
      case assign =>
       rintro l pre x q W hI hen
       have HI := Lib.hid hI
       clear hI hi0 hp0 hH0 hHs hstp hz4 hbb hm2 hb2 hJo
       gi_wp2
       exact ⟨q, Rnd.refl _ _, HI.out, _, _, _, _, _, _, _, _, _, _, _, _, _, _, _, _, _, _, _, _, _, _, _, _, _, _, _, _, _, _, _, _, rfl⟩
      case body =>
       rintro l pre x q a' X hen ⟨g1, j6, j7, j9, j11, j12, j17, j18, j19, j20, j21, j22, j23, j24, j25, j26, j27, j32, j33, j34, j35, j36, j37, j38, j39, j40, j41, j42, j43, j44, j45, j46, j69, rfl⟩
       obtain ⟨hxm, hx1, hx2, hpl⟩ := hen.new hs.out
       obtain ⟨_, met, hnr, hpe, hmx⟩ := hen
       have hopn := hnr.opens (mem_keys_iff.2 ⟨_, _, hmx, rfl⟩)
       clear hpe hnr hmx
       obtain ⟨y, hy⟩ : ∃ y, x.1 = y := ⟨_, rfl⟩
       have HY : Hid (x.1 = y) := hy
       rw [hy] at hxm hx1 hopn ⊢
       generalize x.2 = y2 at hx2 ⊢
       obtain ⟨ln, hln⟩ : ∃ ln, (s y).length = ln := ⟨_, rfl⟩
       have hl2 : ln ≤ 2 := by rw [← hln]; exact hsl.out y hx1
       have hg := g1.2
       obtain ⟨gs, rfl, _, cq, _, _⟩ := HS.out X hg.kp y hx1
       have HRd : Hid (∀ Y, Keep NoB w Y → Rd Y (Bf y) (ivs (nz (s y)))) := fun Y hk => by
        obtain ⟨_, _, _, _, h4, _⟩ := HS.out Y hk y hx1
        exact h4
       rw [hln] at cq
       generalize Bf y = B at cq HRd
       generalize cf y = cB at cq
       have e2 := hg.k2.cell 0
       simp only [List.getElem?_toArray, List.getElem?_cons_zero] at e2
       have HG : Hid (NwI w (some ⟨gs, 0, none⟩) n c b8 (w.heap.size + 1) wl (vl wl VL pre) (farR wl (farS s wl far (keysN pre)) ((s y).take 0)) v2 ((wl.take (i + 1)).filter f) Ds X ∧ Keep (fun k => k = b8 + 1) X X) := ⟨hg, Keep.refl _ _⟩
       have HQ := Lib.hid g1.1
       clear g1 hg hi0 hp0 hH0 hHs hstp hJo hz4 hbb hm2 hb2 hy
       gi_wp2
       clear e2 cq
       gi_loopw [54] (fun i' wr => ∃ j : Nat, j ≤ ln ∧ i' = .int .i64 (j : Int) ∧ Hid (NwI w (some ⟨gs, 0, none⟩) n c b8 (w.heap.size + 1) wl (vl wl VL pre) (farR wl (farS s wl far (keysN pre)) ((s y).take j)) v2 ((wl.take (i + 1)).filter f) Ds wr ∧ Keep (fun k => k = b8 + 1) X wr)) (fun i' _ => ln - (intOf i').toNat)
       case atStart => exact ⟨0, Nat.zero_le _, rfl, HG⟩
       case round =>
        obtain ⟨j, hj, rfl, HI⟩ := hrel
        have hI := HI.out.1
        have e5 := hI.k5.cell 0
        have e8 := hI.k8.cell 0
        have e10 := hI.k10.cell 0
        have f10 := hI.k10.frozen 0
        simp only [List.getElem?_toArray, List.getElem?_cons_zero] at e5 e8 e10
        by_cases hlt' : j < ln
        ·have hjl : j < (s y).length := by rw [hln]; exact hlt'
         obtain ⟨gb, ob, rfl, hcb⟩ := rd_steps (HRd.out wr hI.kp) (by omega)
         have hz := List.getElem?_eq_getElem hjl
         have cz := hcb j _ hz
         have hzn : (s y)[j] < n := hs.out y _ hx1 (List.getElem_mem hjl)
         have hsn : farR wl (farS s wl far (keysN pre)) ((s y).take (j + 1)) = max (farR wl (farS s wl far (keysN pre)) ((s y).take j)) (posL wl (s y)[j]) := by
          rw [List.take_succ_eq_append_getElem hjl, farR_snoc]
         generalize (s y)[j] = z at cz hzn hsn
         have hlk := hI.map.omap.look (t := 51) Tryz.underlying51 Tryz.underlying3 Tryz.underlying3 (int_zeroG _) (z : Int) (wfN (by omega))
         rw [look_wm] at hlk
         have HN2 := Lib.hid (hI.setFar (farR wl (farS s wl far (keysN pre)) ((s y).take (j + 1))))
         have HK2 := Lib.hid (HI.out.2.trans (keep_set wr (b8 + 1) 0 (.int .i64 ((farR wl (farS s wl far (keysN pre)) ((s y).take (j + 1)) : Nat) : Int))) (fun _ h _ => h))
         have HSN := Lib.hid hsn
         obtain ⟨f2, hf2⟩ : ∃ f2, farR wl (farS s wl far (keysN pre)) ((s y).take (j + 1)) = f2 := ⟨_, rfl⟩
         have HF2 := Lib.hid hf2
         rw [hf2] at HN2 HK2 HSN
         clear hf2
         generalize farR wl (farS s wl far (keysN pre)) ((s y).take j) = f1 at e10 HSN
         generalize posL wl z = pz at hlk HSN
         have q3 : max (f1 : Int) (pz : Int) = (f2 : Int) := by have := HSN.out; omega
         clear hz hI HI HG hcb hsn HSN
         gi_wp2
         go_roundw
         case rel => exact ⟨j + 1, by omega, by go_num, by rw [HF2.out]; exact ⟨HN2.out, HK2.out⟩⟩
         case measure => simp [intOf]; omega
        ·obtain rfl : j = ln := by omega
         have hall : (s y).take j = s y := List.take_of_length_le (by rw [hln]; exact Nat.le_refl _)
         have hfs : farS s wl far (keysN (pre ++ [x])) = farR wl (farS s wl far (keysN pre)) (s y) := by
          rw [keys_append, ← HY.out]
          exact farS_snoc s far (keysN pre) x.1
         rw [hall] at hI
         have hA := around_any y _ _ _ _ wr (by omega) hI.k5 hI.map.omap
         rw [some_wm, vl_op hxm] at hA
         have hKX := HI.out.2
         by_cases hyw : y ∈ wl
         ·rw [decide_eq_false (fun h => h.1 hyw)] at hA
          have HA := Lib.hid hA
          have HFIN : Hid (∃ p', Rnd q p' X wr ∧ NwJ w (some ⟨gs, 0, none⟩) n c b8 (w.heap.size + 1) s wl VL far v2 ((wl.take (i + 1)).filter f) Ds (pre ++ [x]) p' wr) := by
           have hq := HQ.out
           subst hq
           exact ⟨_, Rnd.of_keep (hKX.mono (fun k h _ => .inr h)), rfl, by rw [vl_in (by rw [HY.out]; exact hyw), hfs]; exact hI⟩
          clear hI HI HG hA hKX hfs hall hxm hopn
          gi_wp2_with fail
          refine ⟨trivial, (callsIn_wide.2 HA.out).mono ?_⟩
          rintro e w9 ⟨rfl, rfl⟩
          gi_wp2
          exact HFIN.out
         ·have hyV : y ∉ VL := by
           rcases hopn with h | h
           ·exact absurd (h ▸ hpw) hyw
           ·exact (of_decide_eq_true h).2
          rw [decide_eq_true ⟨hyw, hyV⟩] at hA
          have HA := Lib.hid hA
          have hnv : y ∉ wl ++ vl wl VL pre := fun h => by
           rcases List.mem_append.1 h with h | h
           ·exact hyw h
           ·rcases vl_mem.1 h with h | h
            ·exact hyV h
            ·exact hxm h.1
          have hml := hI.len
          obtain ⟨w5, hup, hM5, hg5⟩ := hI.map.update (t := 51) Tryz.underlying51 Tryz.underlying3 Tryz.underlying3 (by unfold maxLen; omega) (y : Int) 0 (look_nat.2 (by rw [keys_wm]; exact hnv)) (wfN (by omega)) (by decide)
          have hup : (Instr.mapUpdate 51 (.map (some (w.heap.size + 1))) (.int .i64 (y : Int)) (.int .i64 0)).run Tryz.prog wr = .ok () w5 := hup
          have hmore := hI.more hnv hx1 hM5 hg5
          have HFIN : Hid (∃ p', Rnd q p' X w5 ∧ NwJ w (some ⟨gs, 0, none⟩) n c b8 (w.heap.size + 1) s wl VL far v2 ((wl.take (i + 1)).filter f) Ds (pre ++ [x]) p' w5) := by
           have hq := HQ.out
           subst hq
           exact ⟨_, Rnd.of_keep ((hKX.mono (fun k h _ => .inr h)).grown hg5 (fun g e _ => by cases e; exact .inl rfl)), rfl, by rw [vl_out (by rw [HY.out]; exact hyw), HY.out, hfs]; exact hmore⟩
          clear hI HI HG hA hKX hfs hall hxm hopn hmore hM5 hg5 hnv
          gi_wp2_with fail
          refine ⟨trivial, (callsIn_wide.2 HA.out).mono ?_⟩
          rintro e w9 ⟨rfl, rfl⟩
          gi_wp2
          exact HFIN.out
      case done =>
       rintro D xs q X hD hpD hS g1 hK
       rcases hS with ⟨h0, _⟩ | ⟨_, hall⟩
       ·omega
       ·have hst := (hNar.out.step hp.out HX.out hall (fun y => by rw [decide_eq_true_iff]))
        have hVL : (fun y => y ∈ VL ∨ (y ∈ keysN xs ∧ y ∉ wl)) = fun y => y ∈ vl wl VL xs := by funext y; exact propext vl_mem.symm
        rw [hVL] at hst
        have hDn : D ∉ Ds := fun h => by have := HD.out D h; omega
        have hng := g1.2
        have HF : Hid (NwI w A n c b8 (w.heap.size + 1) wl (vl wl VL xs) (farS s wl far (keysN xs)) v2 ((wl.take (i + 1)).filter f) (D :: Ds) X ∧ Nar s wl (fun y => y ∈ vl wl VL xs) (i + 1) (farS s wl far (keysN xs)) ∧ farS s wl far (keysN xs) < k) :=
         ⟨⟨hng.kp, hng.k2, hng.k5, hng.k8, hng.k10, hng.map, hng.own, hng.marks.cons hDn (by omega) hK, hng.nd, hng.lt, hng.b, hng.b6⟩, hst, by rw [← hm.out]; exact farS_lt (by rw [hm.out]; exact hm0) (by rw [hm.out]; exact hfl) _⟩
        clear g1 hng hi0 hp0 hH0 hHs hstp hJo hz4 hbb hm2 hb2 hst hVL hall
        gi_wp2
        exact ⟨⟨i + 1, D :: Ds, _, _, v2, _, _, _, _, _, _, _, _, _, _, _, _, _, _, _, _, _, _, _, _, _, _, _, _, _, _, _, _, _, _, _, rfl, by omega, HF⟩, by simp [intOf]; omega⟩
      case stop =>
       rintro D c pre q X hD hpD _ h
       exact h.elim
    ·obtain rfl : i = k := by omega
     have hN := HN.out.1
     have htk : wl.take i = wl := List.take_of_length_le (by rw [hm.out]; exact Nat.le_refl _)
     rw [htk] at hN
     have HF := Lib.hid hN
     clear hN HN hN0
     gi_wp2
     refine leaves_marks (fun W => Own W 3 1 (fun k => b8 + 1 < k) v (wl.filter f).length (ivs (nz (wl.filter f))) ∧ Keep NoB w W) ?_ ?_ Ds W HF.out.marks ⟨HF.out.own, HF.out.kp⟩
     ·rintro D W' hD hDo ⟨h1, h2⟩
      refine ⟨⟨ownsRow_keep h1.1 (keep_putD W' D _) (fun g e h => ?_), h1.2⟩, h2.trans (keep_putD W' D _) (fun k hk hl => by omega)⟩
      subst h
      rcases h1.1.2 with ⟨rfl, _⟩ | ⟨g', cap, cur, rfl, _, hh, _⟩
      ·cases e
      ·cases e
       rw [hh] at hDo; cases hDo
     ·rintro W' ⟨h1, h2⟩
      have hb8 := HF.out.b
      exact ⟨_, results_tmp rfl _ _ _, v, rfl, ⟨h1.1, fun g e => by have := h1.2 g e; show w.heap.size ≤ g; omega⟩, h2⟩
end Go.Proofs.YtghdibbooegocaaGreatDoor.G

namespace Go.Proofs.YtghdibbooegocaaGreatDoor.V
open Go.RowKit

def Rd (w : World) (A : Option Addr) (l : List UInt8) : Prop :=
 0 < l.length → ∃ ad, A = some ad ∧ ∀ j u, (bvs l)[j]? = some u → w.cell? (ad.add j) = some u
theorem block_add (a : Addr) (n : Nat) : (a.add n).block = a.block := by unfold Addr.add; split <;> rfl
theorem Rd.none_ (w : World) (A : Option Addr) : Rd w A [] := fun h => by simp at h
theorem Rd.lt {w : World} {A : Option Addr} {l : List UInt8} (h : Rd w A l) {ad : Addr} (e : A = some ad) (h0 : 0 < l.length) : ad.block < w.heap.size := by
 obtain ⟨ad', e', hc⟩ := h h0
 rw [e] at e'; cases e'
 have := World.block_lt_of_cell? w _ (hc 0 (bv l[0]) (by simp [h0]))
 rwa [block_add] at this

def OwnB (w : World) (O : Nat → Prop) (v : Value) (l : List UInt8) : Prop :=
 w.ownsRow 0 5 1 v l.length (bvs l) ∧ ∀ g, v.ownBlock = some g → O g
section
variable {w w' : World} {O O' : Nat → Prop} {v : Value} {l : List UInt8}
theorem OwnB.mono (h : OwnB w O v l) (hO : ∀ k, O k → k < w.heap.size → O' k) : OwnB w O' v l := ⟨h.1, fun g e => hO g (h.2 g e) (h.1.lt g e).2⟩
end

end Go.Proofs.YtghdibbooegocaaGreatDoor.V

namespace Go.Proofs.YtghdibbooegocaaGreatDoor.V
open Go.RowKit


def More (O : Nat → Prop) (w w' : World) : Nat → Prop := fun k => O k ∨ (w.heap.size ≤ k ∧ k < w'.heap.size)

end Go.Proofs.YtghdibbooegocaaGreatDoor.V

namespace Go.Proofs.YtghdibbooegocaaGreatDoor.V
open Go.RowKit

theorem More.trans {O : Nat → Prop} {w w1 w2 : World} (h : w.heap.size ≤ w1.heap.size) : ∀ k, More O w1 w2 k → k < w2.heap.size → More O w w2 k := by
 rintro k (h1 | ⟨h1, h2⟩) _
 ·exact .inl h1
 ·exact .inr ⟨by omega, h2⟩

end Go.Proofs.YtghdibbooegocaaGreatDoor.V

namespace Go.Proofs.YtghdibbooegocaaGreatDoor.V
open Go.RowKit

def hd (n : Nat) : Nat := mk (wd n) + n / 256 ^ (wd n - 1)

end Go.Proofs.YtghdibbooegocaaGreatDoor.V

namespace Go.Proofs.YtghdibbooegocaaGreatDoor.V
open Go.RowKit

def td (b : Nat) : Nat := if b < 128 then 1 else if b < 192 then 2 else if b < 224 then 3 else if b < 240 then 4 else if b < 248 then 5 else if b < 252 then 6 else if b < 254 then 7 else if b < 255 then 8 else 9

end Go.Proofs.YtghdibbooegocaaGreatDoor.V

namespace Go.Proofs.YtghdibbooegocaaGreatDoor.V
open Go.RowKit

def vl (l : List UInt8) : Nat := l.foldl (fun s d => s * 256 + d.toNat) 0
def dc (w : Nat) (l : List UInt8) : Nat := vl l - mk w * 256 ^ (w - 1)

def nx (l : List UInt8) : Nat × Nat × Nat :=
 match l with
 | [] => (0, 0, 10)
 | b :: r => if r.length + 1 < td b.toNat then (0, 0, 10) else
   if wd (dc (td b.toNat) ((b :: r).take (td b.toNat))) < td b.toNat then (0, 0, 11) else (dc (td b.toNat) ((b :: r).take (td b.toNat)), td b.toNat, 0)

end Go.Proofs.YtghdibbooegocaaGreatDoor.V

namespace Go.Proofs.YtghdibbooegocaaGreatDoor.V
open Go.RowKit

theorem keepN {w w1 w2 : World} (h : Keep NoB w w1) (h' : Keep NoB w1 w2) : Keep NoB w w2 := h.trans h' (fun _ hf _ => hf.elim)

end Go.Proofs.YtghdibbooegocaaGreatDoor.V

namespace Go.Proofs.YtghdibbooegocaaGreatDoor.V
open Go.RowKit

end Go.Proofs.YtghdibbooegocaaGreatDoor.V

namespace Go.Proofs.YtghdibbooegocaaGreatDoor.V
open Go.RowKit

end Go.Proofs.YtghdibbooegocaaGreatDoor.V

namespace Go.Proofs.YtghdibbooegocaaGreatDoor.V
open Go.RowKit

end Go.Proofs.YtghdibbooegocaaGreatDoor.V

namespace Go.Proofs.YtghdibbooegocaaGreatDoor.V
open Go.RowKit

end Go.Proofs.YtghdibbooegocaaGreatDoor.V

namespace Go.Proofs.YtghdibbooegocaaGreatDoor.V
open Go.RowKit

end Go.Proofs.YtghdibbooegocaaGreatDoor.V

namespace Go.Proofs.YtghdibbooegocaaGreatDoor.V
open Go.RowKit

end Go.Proofs.YtghdibbooegocaaGreatDoor.V

namespace Go.Proofs.YtghdibbooegocaaGreatDoor.V
open Go.RowKit

end Go.Proofs.YtghdibbooegocaaGreatDoor.V

namespace Go.Proofs.YtghdibbooegocaaGreatDoor.V
open Go.RowKit

end Go.Proofs.YtghdibbooegocaaGreatDoor.V

namespace Go.Proofs.YtghdibbooegocaaGreatDoor.V
open Go.RowKit

end Go.Proofs.YtghdibbooegocaaGreatDoor.V

namespace Go.Proofs.YtghdibbooegocaaGreatDoor.S
open Go.RowKit

end Go.Proofs.YtghdibbooegocaaGreatDoor.S

namespace Go.Proofs.YtghdibbooegocaaGreatDoor.S
open Go.RowKit W

def heldB (t : Int) : Bool := decide (1 ≤ t ∧ t ≤ 3)
def okS (l : List Int) : Bool := decide (1 ≤ l.length ∧ l.length ≤ 16) && l.all heldB
def okG (a r : List Int) : Bool := decide (a.length + r.length ≤ 64) && (a.all knownB && r.all heldB)
def arr (s : List UInt8) : Nat := s.findIdx fun c => c == 62
def rdS (s : List UInt8) : Option (List Int) := match untxt s with
 | none => none
 | some x => if okS x = true then some x else none
def rdG (s : List UInt8) : Option (List Int × List Int) := if arr s < s.length then
  (match untxt (s.take (arr s)), untxt (s.drop (arr s + 1)) with
  | some a, some r => if okG a r = true then some (a, r) else none
  | _, _ => none)
 else none
end Go.Proofs.YtghdibbooegocaaGreatDoor.S

namespace Go.Proofs.YtghdibbooegocaaGreatDoor.F
open Go.RowKit W

def letB (c : UInt8) : Bool := decide ((97 ≤ c.toNat ∧ c.toNat ≤ 122) ∨ (65 ≤ c.toNat ∧ c.toNat ≤ 90))
def digB (c : UInt8) : Bool := decide (48 ≤ c.toNat ∧ c.toNat ≤ 57)
def inB (c : UInt8) : Bool := letB c || digB c
def headB : List UInt8 → Bool
 | [] => false
 | c :: _ => letB c
def okN (s : List UInt8) : Bool := decide (s.length ≤ 32) && (headB s && s.all inB)
structure Fu where
 nm : List UInt8
 ar : List Int
 rs : List Int
 lc : List Int
 bd : List C.I3
def sameF (f g : Fu) : Bool := decide (f.nm = g.nm ∧ (f.ar = g.ar ∧ f.rs = g.rs) ∧ f.lc = g.lc ∧ f.bd = g.bd)
theorem sameF_iff (f g : Fu) : sameF f g = true ↔ f = g := by
 unfold sameF
 rw [decide_eq_true_iff]
 constructor
 ·rintro ⟨h1, ⟨h2, h3⟩, h4, h5⟩
  cases f; cases g
  simp only at h1 h2 h3 h4 h5
  subst h1 h2 h3 h4 h5; rfl
 ·rintro rfl; exact ⟨rfl, ⟨rfl, rfl⟩, rfl, rfl⟩

end Go.Proofs.YtghdibbooegocaaGreatDoor.F

namespace Go.Proofs.YtghdibbooegocaaGreatDoor.O

end Go.Proofs.YtghdibbooegocaaGreatDoor.O

namespace Go.Proofs.YtghdibbooegocaaGreatDoor.O

end Go.Proofs.YtghdibbooegocaaGreatDoor.O

namespace Go.Proofs.YtghdibbooegocaaGreatDoor.C
open Go.RowKit O

end Go.Proofs.YtghdibbooegocaaGreatDoor.C

namespace Go.Proofs.YtghdibbooegocaaGreatDoor.F
open Go.RowKit W

end Go.Proofs.YtghdibbooegocaaGreatDoor.F

namespace Go.Proofs.YtghdibbooegocaaGreatDoor.I
open Go.RowKit W

structure Im where
 sh : List (List Int)
 fn : List F.Fu
def names (p : Im) : List (List UInt8) := p.fn.map fun f => f.nm
def adS (s : Nat × Nat) (x : UInt8) : Nat × Nat := (s.1 + x.toNat, s.2 + (s.1 + x.toNat))
def ad (l : List UInt8) : Nat × Nat := l.foldl adS (1, 0)
section
variable {α : Type}
end

instance fuEq : DecidableEq F.Fu := fun a b => decidable_of_iff (F.sameF a b = true) (F.sameF_iff a b)
end Go.Proofs.YtghdibbooegocaaGreatDoor.I

namespace Go.Proofs.YtghdibbooegocaaGreatDoor.O
open Go.RowKit

end Go.Proofs.YtghdibbooegocaaGreatDoor.O

namespace Go.Proofs.YtghdibbooegocaaGreatDoor.O
open Go.RowKit

end Go.Proofs.YtghdibbooegocaaGreatDoor.O

namespace Go.Proofs.YtghdibbooegocaaGreatDoor.O
open Go.RowKit Go.Shelf
attribute [local go_sem] Oper.semAt_some

end Go.Proofs.YtghdibbooegocaaGreatDoor.O

namespace Go.Proofs.YtghdibbooegocaaGreatDoor.O
open Go.RowKit Go.Shelf
attribute [local go_sem] Oper.semAt_some

end Go.Proofs.YtghdibbooegocaaGreatDoor.O

namespace Go.Proofs.YtghdibbooegocaaGreatDoor.W
open Go.Lib

def pI (l : List UInt8) : Int := match atoiAll l with | .ok v => v | .range => atoiSat l | _ => 0
def w64 (n : Int) : Int := (n + 9223372036854775808) % 18446744073709551616 - 9223372036854775808
def gN (t : Int) (s : List UInt8) : Int := if s = [110, 105, 108] then 0 else w64 (pI (trimPrefix s (sgn t)) + off t)
def rd (t : Int) (s : List UInt8) : Option Int := if showL t (gN t s) = s then some (gN t s) else none

/-! ### The document's own way of reading -/

end Go.Proofs.YtghdibbooegocaaGreatDoor.W

namespace Go.Proofs
end Go.Proofs

namespace Go.Proofs.YtghdibbooegocaaGreatDoor.W
open Go.RowKit

end Go.Proofs.YtghdibbooegocaaGreatDoor.W

namespace Go.Proofs.YtghdibbooegocaaGreatDoor.W
open Go.RowKit

def tN (s : List UInt8) : Nat := if (untxt s).isSome = true then s.length else 0
def tL (s : List UInt8) : List Int := (untxt s).getD []
def tE (s : List UInt8) : Int := if (untxt s).isSome = true then 0 else 20
end Go.Proofs.YtghdibbooegocaaGreatDoor.W

namespace Go.Proofs.YtghdibbooegocaaGreatDoor.O

/-! ### Names -/

/-! ### Operands -/

def ltrI (s : List UInt8) : Int := if W.tE s = 0 ∧ W.tN s = 1 then (W.tL s).getD 0 0 else 0
def gK (k : Int) (s : List UInt8) : Int := if digK k = true then W.pI s else if k = 8 then A.ofI A.binNs s else if k = 9 then A.ofI A.unNs s else if k = 2 ∨ k = 3 then ltrI s else 0
def gA (op : Int) (t : List UInt8) : Int := if (rowAt op).ka = 0 then 0 else gK (rowAt op).ka (Lib.cut t [32]).1
def gB (op : Int) (t : List UInt8) : Int := if (rowAt op).kb = 0 then 0 else gK (rowAt op).kb (Lib.cut t [32]).2.1
end Go.Proofs.YtghdibbooegocaaGreatDoor.O

namespace Go.Proofs.YtghdibbooegocaaGreatDoor.M

abbrev Bs := List UInt8
abbrev Ln := Nat × List Bs

def gapB (c : UInt8) : Bool := decide (c = 32 ∨ c = 9)
def endB (c : UInt8) : Bool := decide (c = 10 ∨ c = 59)
def fl (cur : Bs) : List Bs := if cur = [] then [] else [cur]
def wgo (cur : Bs) : Bs → List Bs
 | [] => fl cur
 | c :: r => if endB c = true then fl cur else if gapB c = true then fl cur ++ wgo [] r else wgo (cur ++ [c]) r
def wordsL (s : Bs) : List Bs := wgo [] s
def one (n : Nat) (cur : Bs) : List Ln := if wordsL cur = [] then [] else [(n, wordsL cur)]
def joinW : List Bs → Bs
 | [] => []
 | [w] => w
 | w :: v :: ws => w ++ 32 :: joinW (v :: ws)
/-! ### Lines -/

/-! ### What stands in a normal text -/

/-! ### Notes put in -/

end Go.Proofs.YtghdibbooegocaaGreatDoor.M

namespace Go.Proofs.YtghdibbooegocaaGreatDoor.M
open Go.RowKit

structure Nm where
 ln : Nat
 fn : Nat
 pl : Nat
 s : Bs
 lb : Bool
structure St where
 im : I.Im
 ns : List Nm
def ofA (s : Bs) : Option Nat := O.rowsL.findIdx? fun r => decide (r.name = s)
def rdA (s : Bs) : Option C.I3 := match ofA (Lib.cut s [32]).1 with
 | none => none
 | some op =>
  if C.ok1 ((op : Int), O.gA (op : Int) (Lib.cut s [32]).2.1, O.gB (op : Int) (Lib.cut s [32]).2.1) = true ∧ O.textI (op : Int) (O.gA (op : Int) (Lib.cut s [32]).2.1) (O.gB (op : Int) (Lib.cut s [32]).2.1) = s
  then some ((op : Int), O.gA (op : Int) (Lib.cut s [32]).2.1, O.gB (op : Int) (Lib.cut s [32]).2.1) else none
def kindA (op : Int) : Nat := if op = 18 ∨ op = 19 then 1 else if (20 ≤ op ∧ op ≤ 23) ∨ op = 11 then 2 else 0

def shapeW : Bs := [115, 104, 97, 112, 101]
def funcW : Bs := [102, 117, 110, 99]
def localW : Bs := [108, 111, 99, 97, 108]

section
variable {α β : Type}
def upd (g : α → α) : List α → List α
 | [] => []
 | [x] => [g x]
 | x :: y :: r => x :: upd g (y :: r)
end

def stShape (st : St) (l : Ln) : Option St := match l.2 with
 | [a, b] => if a = shapeW ∧ st.im.fn = [] then (S.rdS b).map fun x => ⟨⟨st.im.sh ++ [x], st.im.fn⟩, st.ns⟩ else none
 | _ => none
def stFunc (st : St) (l : Ln) : Option St := match l.2 with
 | [a, b, c] => if a = funcW ∧ F.okN b = true then (S.rdG c).map fun g => ⟨⟨st.im.sh, st.im.fn ++ [⟨b, g.1, g.2, [], []⟩]⟩, st.ns⟩ else none
 | _ => none
def hasL (ns : List Nm) (fn : Nat) : Bool := ns.any fun x => x.lb && decide (x.fn = fn)
def stLocal (st : St) (l : Ln) : Option St := match l.2, st.im.fn.getLast? with
 | [a, b], some f => if a = localW ∧ f.lc = [] ∧ f.bd = [] ∧ hasL st.ns (st.im.fn.length - 1) = false then (W.untxt b).map fun t => ⟨⟨st.im.sh, upd (fun f => { f with lc := t }) st.im.fn⟩, st.ns⟩ else none
 | _, _ => none
def stLabel (st : St) (l : Ln) : Option St := match l.2, st.im.fn.getLast? with
 | [a], some f => if a.getLast? = some 58 ∧ F.okN a.dropLast = true then some ⟨st.im, st.ns ++ [⟨l.1, st.im.fn.length - 1, f.bd.length, a.dropLast, true⟩]⟩ else none
 | _, _ => none
def addI (st : St) (x : C.I3) (ns : List Nm) : St := ⟨⟨st.im.sh, upd (fun f => { f with bd := f.bd ++ [x] }) st.im.fn⟩, ns⟩
def stName (st : St) (l : Ln) (f : F.Fu) : Option St := match l.2 with
 | [a, b] => match ofA a with
  | some op => if kindA op ≠ 0 ∧ F.okN b = true then some (addI st ((op : Int), 0, 0) (st.ns ++ [⟨l.1, st.im.fn.length - 1, f.bd.length, b, false⟩])) else none
  | none => none
 | _ => none
def stInstr (st : St) (l : Ln) : Option St := match st.im.fn.getLast? with
 | some f => match rdA (joinW l.2) with
  | some x => some (addI st x st.ns)
  | none => stName st l f
 | none => none
def step (st : St) (l : Ln) : Option St :=
 (stShape st l).or ((stFunc st l).or ((stLocal st l).or ((stLabel st l).or (stInstr st l))))
/-! ### Names -/

def again (pre : List Nm) (x : Nm) : Bool := pre.any fun y => y.lb && (decide (y.fn = x.fn) && decide (y.s = x.s))
/-! ### What lines say does not hang on their numbers -/

end Go.Proofs.YtghdibbooegocaaGreatDoor.M

namespace Go.Proofs.YtghdibbooegocaaGreatDoor.M
open Go.RowKit

/-! ### The words of a text that is written -/

/-! ### A line at a time -/

/-! ### Labels -/

def lbl (i : Int) : Bs := 76 :: Lib.itoa i
end Go.Proofs.YtghdibbooegocaaGreatDoor.M

namespace Go.Proofs.YtghdibbooegocaaGreatDoor.M
open Go.RowKit

/-! ### A written image -/

/-! ### The lines are the text's -/

/-! ### Names are put -/

/-! ### The names of a written image -/

def apart (x y : Nm) : Prop := ¬ (x.lb = true ∧ x.fn = y.fn ∧ x.s = y.s ∧ y.lb = true)
end Go.Proofs.YtghdibbooegocaaGreatDoor.M

namespace Go.Proofs.YtghdibbooegocaaGreatDoor.M.L
open Go.RowKit

/-! ### An instruction that bears a name -/

/-! ### A written image -/

abbrev Labs := Nat → Nat → Option Bs
section
variable {lb : Nat → Option Bs} {nw : C.I3 → Option Bs} (hl : ∀ i s, lb i = some s → F.okN s = true) (hn : ∀ x s, nw x = some s → F.okN s = true ∧ kindA x.1 ≠ 0)
include hl hn
end
/-! ### The names are put -/

end Go.Proofs.YtghdibbooegocaaGreatDoor.M.L

namespace Go.Proofs.YtghdibbooegocaaGreatDoor.M.L
open Go.RowKit

/-! ### Targets, labels, names -/

def hitB (b : List C.I3) (i : Nat) : Bool := b.any fun x => C.gB x && decide (x.2.1 = (i : Int))
def tgs (b : List C.I3) : List Nat := (List.range b.length).filter (hitB b)
def labA (t : List Nat) (i : Nat) : Option Bs := (t.findIdx? fun j => decide (j = i)).map fun n => lbl ((n : Nat) : Int)
def LBp (p : I.Im) : Labs := fun k i => (p.fn[k]?).bind fun f => labA (tgs f.bd) i
/-! ### The listings as lines -/

section
variable {p : I.Im} {k : Nat} {t : List Nat} (ht : ∀ i, LBp p k i = labA t i)
include ht
end
/-! ### What is read of them -/

end Go.Proofs.YtghdibbooegocaaGreatDoor.M.L

namespace Go.Proofs.YtghdibbooegocaaGreatDoor.M.L
open Go.RowKit

section
variable {zs : List Int}
end
theorem asc_ext : ∀ (l r : List Int), l.Pairwise (· < ·) → r.Pairwise (· < ·) → (∀ x, x ∈ l ↔ x ∈ r) → l = r
 | [], [], _, _, _ => rfl
 | [], y :: r, _, _, h => by have := (h y).2 (by simp); cases this
 | x :: l, [], _, _, h => by have := (h x).1 (by simp); cases this
 | x :: l, y :: r, hl, hr, h => by
  rw [List.pairwise_cons] at hl hr
  have e : x = y := by
   have h1 : x ∈ y :: r := (h x).1 (by simp)
   have h2 : y ∈ x :: l := (h y).2 (by simp)
   rcases List.mem_cons.1 h1 with e | h1
   ·exact e
   ·rcases List.mem_cons.1 h2 with e | h2
    ·exact e.symm
    ·have := hl.1 y h2; have := hr.1 x h1; omega
  subst e
  congr 1
  refine asc_ext l r hl.2 hr.2 fun z => ⟨fun hz => ?_, fun hz => ?_⟩
  ·have h1 := (h z).1 (List.mem_cons_of_mem _ hz)
   rcases List.mem_cons.1 h1 with e | h1
   ·have := hl.1 z hz; omega
   ·exact h1
  ·have h1 := (h z).2 (List.mem_cons_of_mem _ hz)
   rcases List.mem_cons.1 h1 with e | h1
   ·have := hr.1 z hz; omega
   ·exact h1
theorem sort_asc (l : List Int) : (l.mergeSort fun x y => decide (x ≤ y)).Pairwise (· ≤ ·) := by
 have h := List.pairwise_mergeSort (le := fun x y : Int => decide (x ≤ y)) (fun a b c h1 h2 => by simp only [decide_eq_true_eq] at *; omega) (fun a b => by simp only [Bool.or_eq_true, decide_eq_true_eq]; omega) l
 exact h.imp fun h => of_decide_eq_true h

end Go.Proofs.YtghdibbooegocaaGreatDoor.M.L

namespace Go.Proofs.YtghdibbooegocaaGreatDoor.G
open Go.RowKit W

abbrev sortL (l : List Int) : List Int := l.mergeSort fun x y => decide (x ≤ y)
theorem sort_is {l t : List Int} (hd : l.Nodup) (ht : t.Pairwise (· < ·)) (h : ∀ x, x ∈ l ↔ x ∈ t) : sortL l = t := by
 refine M.L.asc_ext _ _ ?_ ht fun x => by rw [List.mem_mergeSort]; exact h x
 have h1 := M.L.sort_asc l
 have h2 : (sortL l).Nodup := (List.mergeSort_perm l _).nodup_iff.2 hd
 exact (h1.and h2).imp fun ⟨h1, h2⟩ => by omega
theorem nz_sort {l t : List Nat} (hd : l.Nodup) (ht : t.Pairwise (· < ·)) (h : ∀ x, x ∈ l ↔ x ∈ t) : sortL (nz l) = nz t := by
 refine sort_is (List.Pairwise.map _ (fun a b h => by omega) hd) (List.Pairwise.map _ (fun a b h => by omega) ht) fun x => ?_
 rw [List.mem_map, List.mem_map]
 exact ⟨fun ⟨a, ha, e⟩ => ⟨a, (h a).1 ha, e⟩, fun ⟨a, ha, e⟩ => ⟨a, (h a).2 ha, e⟩⟩

theorem sort_any {w w1 : World} {v : Value} {zs : List Int} (h : Own w1 3 1 (Fresh w) v zs.length (ivs zs)) (hk : Keep NoB w w1) (hn : zs.length ≤ 1000000) :
  Calls Tryz.prog 36 #[v] w1 fun e w' => e = .returned (.tuple #[]) ∧ Own w' 3 1 (Fresh w) v zs.length (ivs (sortL zs)) ∧ Keep NoB w w' := by
 by_cases h0 : zs.length = 0
 ·obtain rfl : zs = [] := List.length_eq_zero_iff.1 h0
  obtain ⟨B, d, rfl⟩ := own_form h.1
  refine (Tryz.slices_Sort_int_none B d w1).mono ?_
  rintro e w2 ⟨rfl, rfl⟩
  exact ⟨rfl, by simpa using h, hk⟩
 ·have hl2 : (sortL zs).length = zs.length := List.length_mergeSort zs
  have hnn : v ≠ .slice none 0 0 := by
   rintro rfl
   rcases h.1.2 with ⟨_, h2⟩ | ⟨g, cap, cur, h2, _⟩
   ·exact h0 h2
   ·cases h2
  obtain ⟨g, cap, rfl, _, hgl, hcap, hcm, _, hH⟩ := Lib.holds_of_ownsRow h.1 hnn
  refine (Tryz.slices_Sort_int g 0 cap zs w1 hH hgl (by omega)).mono ?_
  rintro e w2 ⟨rfl, nn, os, rfl⟩
  rcases h.1.2 with ⟨h0, _⟩ | ⟨g', cap', cur, hv, hbase, hb, h1, h2, h3, h4⟩
  ·cases h0
  cases hv
  have hgf : w.heap.size ≤ g := h.2 g rfl
  exact ⟨rfl, ⟨ownsRow_sortedI (n := nn) (os := os) (ts := sortL zs) hl2 hbase hb h1 h2 h3, fun b e => by cases e; exact hgf⟩, hk.grown (grownBy_sortedI _) (fun j hj hl => by cases hj; omega)⟩
theorem rev_any {w w1 : World} {v : Value} {zs : List Int} (h : Own w1 3 1 (Fresh w) v zs.length (ivs zs)) (hk : Keep NoB w w1) (hn : zs.length ≤ 1000000) :
  Calls Tryz.prog 55 #[v] w1 fun e w' => e = .returned (.tuple #[]) ∧ Own w' 3 1 (Fresh w) v zs.length (ivs zs.reverse) ∧ Keep NoB w w' := by
 by_cases h0 : zs.length = 0
 ·obtain rfl : zs = [] := List.length_eq_zero_iff.1 h0
  obtain ⟨B, d, rfl⟩ := own_form h.1
  refine (Tryz.slices_Reverse_int_empty B d w1).mono ?_
  rintro e w2 ⟨rfl, rfl⟩
  exact ⟨rfl, by simpa using h, hk⟩
 ·have hnn : v ≠ .slice none 0 0 := by
   rintro rfl
   rcases h.1.2 with ⟨_, h2⟩ | ⟨g, cap, cur, h2, _⟩
   ·exact h0 h2
   ·cases h2
  obtain ⟨g, cap, rfl, _, hgl, hcap, hcm, _, hH⟩ := Lib.holds_of_ownsRow h.1 hnn
  refine (Tryz.slices_Reverse_int g 0 cap zs w1 hH (by omega)).mono ?_
  rintro e w2 ⟨rfl, q, rfl⟩
  have hgf : w.heap.size ≤ g := h.2 g rfl
  have hc := Lib.ownsRow_putRow (q := q) (k := zs.length) (ys := zs.reverse) h.1 (by simp) (Nat.le_refl _)
  rw [List.take_of_length_le (by simp)] at hc
  exact ⟨rfl, ⟨hc, fun b e => by cases e; exact hgf⟩, Keep.of_below (Lib.below_putRow hk.toBelow hgf)⟩
theorem push_any {w W : World} {n : Nat} {v : Value} {xs : List Value} (h : Own W 3 1 (Fresh w) v n xs) (hk : Keep NoB w W) (x : Int) (hn : n + 1 ≤ 1000000) :
  ∃ v' W', (Builtin.append_ #[23, 23] 23 #[v, .slice (some ⟨W.heap.size, 0, none⟩) 1 1]).run Tryz.prog (W.alloc (.cells #[.int .i64 x] 3)) = .ok v' W' ∧ Own W' 3 1 (Fresh w) v' (n + 1) (xs ++ [.int .i64 x]) ∧ (W.alloc (.cells #[.int .i64 x] 3)).grownBy W' v.ownBlock ∧ Keep NoB w W' := by
 obtain ⟨i0, hi, hz0, hz1, hz2⟩ := info_parts int_info
 have hr : W.ownsRow w.heap.size 3 1 v n xs := by
  refine ⟨h.1.1, ?_⟩
  rcases h.1.2 with h2 | ⟨g, cap, cur, h1, _, h2⟩
  ·exact .inl h2
  ·exact .inr ⟨g, cap, cur, h1, h.2 g (by rw [h1]; rfl), h2⟩
 obtain ⟨v', W', hrun, h2, h3, _⟩ := run_append_own (P := Tryz.prog) (W.alloc (.cells #[.int .i64 x] 3)) w.heap.size 23 23 3 i0 (.int .i64 0) 1 8 Tryz.underlying23 hi hz0 hz1 hz2 rfl (by decide) v n xs (hr.alloc _) ⟨W.heap.size, 0, none⟩ 1 1 [.int .i64 x] rfl
  (fun j u hu => by
   cases j with
   | zero => simp at hu; subst hu; rw [Addr.add_lit]; exact (Blk.new W _ _).cell 0
   | succ j => simp at hu) (by simp [Value.oneCell']) (by unfold maxLen; omega) (by omega) (by rw [World.size_alloc]; have := hk.size; omega)
 exact ⟨v', W', hrun, Own.of_row h2 (fun k hk => hk), h3, (hk.alloc _).grown h3 (fun g e hl => by have := (hr.lt g e).1; omega)⟩
theorem own_map_ne {w : World} {E sz n : Nat} {O : Nat → Prop} {v : Value} {xs : List Value} (h : Own w E sz O v n xs) {P : Program} {k e : TypeId} {b m : Nat} {f : Int → Option Nat} (hm : OMap P k e b m f w) : v.ownBlock ≠ some b := by
 intro hb
 obtain ⟨es, cc, ho⟩ := hm.obj
 rcases h.1.2 with ⟨rfl, _⟩ | ⟨g', cap, cur, rfl, _, hh, _⟩
 ·cases hb
 ·cases hb
  rw [ho] at hh; cases hh
theorem own_iter_ne {w : World} {E sz n : Nat} {O : Nat → Prop} {v : Value} {xs : List Value} (h : Own w E sz O v n xs) {P : Program} {k e : TypeId} {b r m cnt : Nat} {f : Int → Option Nat} {left : Int → Bool} (hm : ORng P k e b r m f left cnt w) : v.ownBlock ≠ some r := by
 intro hb
 obtain ⟨_, _, _, _, ho⟩ := hm.iter
 rcases h.1.2 with ⟨rfl, _⟩ | ⟨g', cap, cur, rfl, _, hh, _⟩
 ·cases hb
 ·cases hb
  rw [ho] at hh; cases hh
theorem contains_any (B : Option Addr) (c : Nat) (l : List Nat) (x : Int) (w : World) (hr : Rd w B (ivs (nz l))) (hn : l.length ≤ 1000000) :
  Calls Tryz.prog 35 #[.slice B l.length c, .int .i64 x] w fun e w' => e = .returned (.bool ((nz l).contains x)) ∧ w' = w := by
 by_cases h0 : l.length = 0
 ·obtain rfl : l = [] := List.length_eq_zero_iff.1 h0
  refine (Tryz.slices_Contains_int_empty B c x w).mono ?_
  rintro e w2 ⟨rfl, rfl⟩
  exact ⟨rfl, rfl⟩
 ·obtain ⟨g, o, rfl, hc⟩ := hr (by simpa [nz] using Nat.pos_of_ne_zero h0)
  have hl : (nz l).length = l.length := nz_len l
  refine (Tryz.slices_Contains_int g o l.length c (nz l) x w (by omega) (by omega) (fun j hj => ?_)).mono ?_
  ·refine hc j _ ?_
   simp only [ivs, List.getElem?_map, List.getElem?_eq_getElem hj]
   simp [List.getD_eq_getElem?_getD, List.getElem?_eq_getElem hj]
  ·rintro e w2 ⟨rfl, rfl⟩
   refine ⟨?_, rfl⟩
   rw [← hl, List.take_length]
end Go.Proofs.YtghdibbooegocaaGreatDoor.G

namespace Go.Proofs.YtghdibbooegocaaGreatDoor.G
open Go.RowKit W

def OwnR (w : World) (l : List Nat) (e : Ending) (w' : World) : Prop := ∃ B c, e = .returned (.slice B l.length c) ∧ Own w' 3 1 (Fresh w) (.slice B l.length c) l.length (ivs (nz l)) ∧ Keep NoB w w'

set_option maxRecDepth 100000 in
set_option maxHeartbeats 8000000 in
theorem rising_any (b N : Nat) (g : Int → Option Nat) (T : List Nat) (w : World) (hM : OMap Tryz.prog 3 3 b N g w) (hN : N ≤ 2000) (hT : T.Pairwise (· < ·)) (hg : Hid (∀ y : Int, (g y).isSome = true ↔ ∃ x ∈ T, (x : Int) = y)) (hTb : Hid (∀ x ∈ T, x < 1000)) :
  Calls Tryz.prog 41 #[.map (some b)] w (OwnR w T) := by
 obtain ⟨m, hm, hlen⟩ := hM.size_le
 have hlen1 := hlen 51 Tryz.underlying51
 have hMM := Lib.hid hM
 obtain ⟨i0, hi, hz0, hz1, hz2⟩ := info_parts int_info
 clear hlen hM
 go_enter Tryz.func41, Tryz.ntmps41
 go_wp2_with (at_make; refine wpList_make_own _ rfl _ _ 23 rfl w.heap.size 3 i0 (.int .i64 0) 1 Tryz.underlying23 hi hz0 hz1 _ _ _ m rfl rfl rfl (by rw [hz2]; omega) (by unfold maxLen; omega) (by omega) ?_; intro w1 hrow1 hg1)
 have hM1 := hMM.out.grown hg1 (by simp)
 obtain ⟨w2, cnt, hrun, hR, hg2, hs2⟩ := hM1.range (t := 51) Tryz.underlying51 Tryz.underlying3
 have hbw := hMM.out.lt
 have hwb := hg1.size
 have hO1 : Own w1 3 1 (Fresh w) (.slice (some ⟨w.heap.size, 0, none⟩) 0 m) 0 (ivs (nz [])) := Own.of_row hrow1 (fun k hk => hk)
 have hk2 : Keep NoB w w2 := ((Keep.refl NoB w).grown hg1 (fun g e _ => by cases e)).grown hg2 (fun g e _ => by cases e)
 obtain ⟨r, hr⟩ : ∃ r, w1.heap.size = r := ⟨_, rfl⟩
 rw [hr] at hrun hR
 have HRW : Hid (w.heap.size ≤ r) := by show _ ≤ _; omega
 have HI : Hid (Own w2 3 1 (Fresh w) (.slice (some ⟨w.heap.size, 0, none⟩) 0 m) ([] : List Nat).length (ivs (nz [])) ∧ ORng Tryz.prog 3 3 b r N g (fun h => (g h).isSome) cnt w2 ∧ ([] : List Nat).Nodup ∧ (∀ y : Nat, y ∈ ([] : List Nat) ↔ (g (y : Int)).isSome = true ∧ (g (y : Int)).isSome = false) ∧ Keep NoB w w2) := by
  refine ⟨hO1.keepN ((Keep.refl NoB w1).grown hg2 (fun g e _ => by cases e)), hR, List.nodup_nil, fun y => ⟨(fun h => by cases h), fun ⟨h1, h2⟩ => ?_⟩, hk2⟩
  rw [h1] at h2; cases h2
 clear hM1 hR hg2 hs2 hg1 hrow1 hO1 hk2 hbw hwb
 rw [hrun]
 go_wp2
 clear hrun
 go_loopw [3] (fun u wr => ∃ (L : List Nat) (left : Int → Bool) (cnt : Nat), Hid (Own wr 3 1 (Fresh w) u L.length (ivs (nz L)) ∧ ORng Tryz.prog 3 3 b r N g left cnt wr ∧ L.Nodup ∧ (∀ y : Nat, y ∈ L ↔ (g (y : Int)).isSome = true ∧ left (y : Int) = false) ∧ Keep NoB w wr)) (fun _ wr => wr.rangeLeft b r)
 case atStart => exact ⟨[], _, cnt, HI⟩
 case round =>
  obtain ⟨L, left, cnt, HL⟩ := hrel
  obtain ⟨hO, hR, hd, hmem, hk⟩ := HL.out
  have hLl : L.length ≤ 1000 := nodup_len 1000 L hd fun x hx => by
   obtain ⟨z, hz, e⟩ := (hg.out x).1 ((hmem x).1 hx).1
   have := hTb.out z hz
   omega
  have hleq := hR.left_eq
  rcases hR.next Tryz.underlying3 Tryz.underlying3 0 with ⟨_, hl, hrun⟩ | ⟨x, v, w3, cnt3, _, _, hlx, hgx, hrun, hR3, hlt, hg3, hs3, hen⟩
  ·have HS := Lib.hid (sort_any (zs := nz L) (by rw [nz_len]; exact hO) hk (by rw [nz_len]; omega))
   have HE : Hid (sortL (nz L) = nz T ∧ L.length = T.length) := by
    have h1 := nz_sort hd hT fun y => by
     rw [hmem, hl]
     constructor
     ·rintro ⟨h1, _⟩
      obtain ⟨z, hz, e⟩ := (hg.out y).1 h1
      rw [show y = z by omega]; exact hz
     ·intro h1
      exact ⟨(hg.out y).2 ⟨y, h1, rfl⟩, rfl⟩
    refine ⟨h1, ?_⟩
    have := congrArg List.length h1
    rw [List.length_mergeSort, nz_len, nz_len] at this
    exact this
   obtain ⟨B, c, rfl⟩ := own_form hO.1
   clear hO hR hmem hd hl HI HL hleq hk
   go_wp2_with fail
   refine HS.out.mono ?_
   rintro e w4 ⟨rfl, hO4, k4⟩
   have HF := Lib.hid (And.intro hO4 k4)
   clear hO4 k4 hrun
   go_wp2
   go_ret
   obtain ⟨hO4, k4⟩ := HF.out
   rw [HE.out.1, nz_len, HE.out.2] at hO4
   exact ⟨B, c, by rw [← HE.out.2]; rfl, hO4, k4⟩
  ·have hxT := (hg.out x).1 (by rw [hgx]; rfl)
   obtain ⟨y, hyT, rfl⟩ := hxT
   have hyb := hTb.out y hyT
   have hnr := own_iter_ne hO hR
   have hO3 : Own w3 3 1 (Fresh w) u3 L.length (ivs (nz L)) := ⟨hO.1.kept hg3 (.inr hnr), hO.2⟩
   have hk3 : Keep NoB w w3 := hk.grown hg3 (fun g e hl => by cases e; have := HRW.out; omega)
   obtain ⟨v', W', hap, hO', hg', hk'⟩ := push_any hO3 hk3 (y : Int) (by omega)
   have hnb := own_map_ne hO3 hR3.omap
   have hnr3 := own_iter_ne hO3 hR3
   have hR4 := (hR3.keep ((Keep.refl NoB _).alloc (.cells #[.int .i64 (y : Int)] 3)) id id).grown hg' (Ne.symm hnb) (Ne.symm hnr3)
   have hyL : y ∉ L := fun h => by have := ((hmem y).1 h).2; rw [hlx] at this; cases this
   have HN : Hid (Own W' 3 1 (Fresh w) v' (L ++ [y]).length (ivs (nz (L ++ [y]))) ∧ ORng Tryz.prog 3 3 b r N g (fun z => left z && !decide (z = (y : Int))) cnt3 W' ∧ (L ++ [y]).Nodup ∧ (∀ z : Nat, z ∈ L ++ [y] ↔ (g (z : Int)).isSome = true ∧ (left (z : Int) && !decide ((z : Int) = (y : Int))) = false) ∧ Keep NoB w W') := by
    refine ⟨?_, hR4, List.nodup_append.2 ⟨hd, by simp, fun a ha c hc => by rw [List.mem_singleton] at hc; subst hc; exact fun e => hyL (e ▸ ha)⟩, fun z => ?_, hk'⟩
    ·rw [List.length_append, List.length_singleton]
     simpa [nz] using hO'
    ·rw [List.mem_append, List.mem_singleton, hmem]
     by_cases hzy : z = y
     ·subst hzy; simp [hgx]
     ·have hne : (z : Int) ≠ (y : Int) := by omega
      simp [hzy, hne]
   have hleq4 := hR4.left_eq
   clear hs3 hO hR hmem hd HI HL hk hO3 hk3 hO' hg' hk' hnb hnr3 hR4 hR3 hnr hg3 hyL hgx hlx
   go_wp2_with (at_builtin; refine wpList_append_run _ rfl _ _ 23 rfl _ _ v' W' rfl rfl hap ?_)
   go_roundw
   case rel => exact ⟨L ++ [y], _, cnt3, HN⟩
   case measure => rw [hleq4, hleq]; exact hlt
end Go.Proofs.YtghdibbooegocaaGreatDoor.G

namespace Go.Proofs.YtghdibbooegocaaGreatDoor.G
open Go.RowKit W

theorem deep_lt {n : Nat} {s : Nat → List Nat} {met : List (Nat × Nat)} {D : Nat → Nat} (h : AllN s (fun _ => true) 0 met) (hd : Deep s (fun _ => true) 0 met.length met D) (hn : 0 < n) (hs : ∀ i a, i < n → a ∈ s i → a < n) {a : Nat} (ha : a ∈ keysN met) : D a < n := by
 obtain ⟨l, hw⟩ := h.all.1 ha
 have hlt : ∀ y ∈ l, y < n := fun y hy => by
  obtain ⟨_, q, _, hq⟩ := hw.part y hy
  exact h.lt hn hs y (h.all.2 ⟨q, hq⟩)
 obtain ⟨k, hk, _⟩ := dist_of (ok := fun y => y < n) hw hlt
 have h1 := dist_lt (fun y h => h) hk
 obtain ⟨⟨l', hw', e, _⟩, _⟩ := hk
 have h2 := hd.dist h a l' hw'
 omega
def WayR (n : Nat) (s : Nat → List Nat) (a0 : Int) (w : World) (e : Ending) (w' : World) : Prop :=
 Keep NoB w w' ∧ (((¬ ∃ a : Nat, (a : Int) = a0 ∧ n ≠ 0 ∧ ∃ l, Way s [0] a l) ∧ e = .returned (.slice none 0 0)) ∨
  ∃ (a : Nat) (wl : List Nat) (B : Option Addr) (cB : Nat), (a : Int) = a0 ∧ n ≠ 0 ∧ e = .returned (.slice B wl.length cB) ∧ Rd w' B (ivs (nz wl)) ∧ Way s [0] a wl.reverse ∧ ∀ l, Way s [0] a l → wl.length ≤ l.length)

set_option maxRecDepth 100000 in
set_option maxHeartbeats 8000000 in
theorem way_any (A : Option Addr) (T : BSet) (Bf : Nat → Option Addr) (cf : Nat → Nat) (n c : Nat) (s : Nat → List Nat) (a0 : Int) (w : World) (hst : StAt T A Bf cf n s w) (ha0 : (Lit.int .i64 a0).wf = true) (hn : n ≤ 1000) (hs : Hid (∀ i a, i < n → a ∈ s i → a < n)) (hsl : Hid (∀ i, i < n → (s i).length ≤ 2)) :
  Calls Tryz.prog 38 #[.slice A n c, .int .i64 a0] w (WayR n s a0 w) := by
 have HR := Lib.hid (fun W (hk : Keep NoB w W) => reached_any A T Bf cf n c s W (hst.keepN hk) hn hs hsl)
 clear hst
 go_enter Tryz.func38, Tryz.ntmps38
 go_wp2_with fail
 refine (HR.out w (Keep.refl _ _)).mono ?_
 rintro e w1 ⟨met, b, rfl, hM, hb, k1, hall⟩
 have hlk := hM.omap.look2 (t := 51) Tryz.underlying51 Tryz.underlying3 Tryz.underlying3 (int_zeroG _) a0 ha0
 clear HR
 cases hl : lookN met a0 with
 | none =>
  rw [hl] at hlk
  simp only [Option.getD_none, Option.isSome_none] at hlk
  have HN : Hid (¬ ∃ a : Nat, (a : Int) = a0 ∧ n ≠ 0 ∧ ∃ l, Way s [0] a l) := by
   rintro ⟨a, rfl, h0, l, hw⟩
   rcases hall with ⟨h, _⟩ | ⟨_, hall⟩
   ·exact h0 h
   ·exact look_nat.1 hl (hall.all.2 ⟨l, hw⟩)
  clear hl hM hall
  go_wp2
  go_ret
  exact ⟨k1, .inl ⟨HN.out, rfl⟩⟩
 | some v0 =>
  obtain ⟨i, e0, hi, ha, _⟩ := look_some hl
  have hall2 : n ≠ 0 ∧ AllN s (fun _ => true) 0 met := by
   rcases hall with ⟨_, rfl⟩ | h
   ·simp at hi
   ·exact h
  obtain ⟨h0, hnr⟩ := hall2
  obtain ⟨D, hD⟩ := hnr.deep
  rw [hl] at hlk
  simp only [Option.getD_some, Option.isSome_some] at hlk
  have ham : e0.1 ∈ keysN met := mem_keys_iff.2 ⟨i, e0, hi, rfl⟩
  obtain ⟨a, hae⟩ : ∃ a, e0.1 = a := ⟨_, rfl⟩
  rw [hae] at ham ha
  subst ha
  have HNR := Lib.hid (And.intro h0 hnr)
  have HD := Lib.hid hD
  have hfn : 0 < n := by omega
  have hml : met.length ≤ n := hnr.len hfn hs.out
  have hlt : ∀ y ∈ keysN met, y < n := hnr.lt hfn hs.out
  have HLT := Lib.hid hlt
  have hBk := Lib.hid (Back.start (s := s) (D := D) ham)
  have hO1 : Own (w1.alloc (.cells #[.int .i64 (a : Int)] 3)) 3 1 (Fresh w) (.slice (some ⟨w1.heap.size, 0, none⟩) 1 1) 1 (ivs (nz [a])) :=
   ⟨⟨rfl, .inr ⟨w1.heap.size, 1, _, rfl, Nat.zero_le _, Blk.new w1 _ _, Nat.le_refl _, by decide, rfl, rfl⟩⟩, fun g e => by cases e; exact k1.size⟩
  have hst0 : Hid (Own (w1.alloc (.cells #[.int .i64 (a : Int)] 3)) 3 1 (Fresh w) (.slice (some ⟨w1.heap.size, 0, none⟩) 1 1) 1 (ivs (nz [a])) ∧ OMapS Tryz.prog 3 3 b met.length (lookN met) (w1.alloc (.cells #[.int .i64 (a : Int)] 3)) ∧ Keep NoB w (w1.alloc (.cells #[.int .i64 (a : Int)] 3))) :=
   ⟨hO1, hM.keep ((Keep.refl NoB _).alloc _) id, k1.alloc _⟩
  have hDa := Lib.hid (deep_lt hnr hD hfn hs.out ham)
  clear hl hM hall hnr hD hO1 k1 h0 hi hae hlt
  go_wp2
  generalize w1.alloc (.cells #[.int .i64 (a : Int)] 3) = W2 at hst0 ⊢
  clear hlk
  go_loopw [1, 8] (fun i v wr => ∃ (a' : Nat) (WL : List Nat), i = .int .i64 (a' : Int) ∧ Hid (Back s met D a a' WL ∧ Own wr 3 1 (Fresh w) v WL.length (ivs (nz WL)) ∧ OMapS Tryz.prog 3 3 b met.length (lookN met) wr ∧ Keep NoB w wr)) (fun i _ _ => D (intOf i).toNat)
  case atStart => exact ⟨a, [a], rfl, hBk.out, hst0.out⟩
  case round =>
   obtain ⟨a', WL, rfl, HI⟩ := hrel
   obtain ⟨hB, hO, hM, hk⟩ := HI.out
   have hlen : WL.length ≤ n := by have := hB.len; have := hDa.out; omega
   by_cases h0 : a' = 0
   ·subst h0
    have hv := (hB.done HD.out.zero)
    have HV := Lib.hid hv
    have hR := Lib.hid (rev_any (zs := nz WL) (by rw [nz_len]; exact hO) hk (by rw [nz_len]; omega))
    have q0 : ((0 : Nat) : Int) = 0 := rfl
    clear hB hO hM HI hst0 hk hv
    go_wp2_with fail
    refine hR.out.mono ?_
    rintro e w3 ⟨rfl, hO3, k3⟩
    obtain ⟨Ar, cr, rfl, _, _, hrd, _⟩ := hO3.form
    have HF := Lib.hid (And.intro hrd k3)
    clear hO3 hrd k3
    go_wp2
    go_ret
    refine ⟨HF.out.2, .inr ⟨a, WL.reverse, Ar, cr, rfl, HNR.out.1, ?_, ?_, ?_, ?_⟩⟩
    ·simp
    ·have := HF.out.1; simpa [nz] using this
    ·rw [List.reverse_reverse]; exact HV.out.1
    ·intro l hw
     rw [List.length_reverse, HV.out.2]
     exact HD.out.dist HNR.out.2 a l hw
   ·obtain ⟨q, hlq, hqm, haq, hDq⟩ := HD.out.back HNR.out.2 hB.mem h0
    have hqn := HLT.out q hqm
    have han := HLT.out a' hB.mem
    have hlk := hM.omap.look (t := 51) Tryz.underlying51 Tryz.underlying3 Tryz.underlying3 (int_zeroG _) (a' : Int) (wfN (by omega))
    rw [hlq, Option.getD_some] at hlk
    obtain ⟨v', W', hap, hO', hg', hk'⟩ := push_any hO hk (q : Int) (by omega)
    have hne := own_map_ne hO hM.omap
    have HN : Hid (Back s met D a q (WL ++ [q]) ∧ Own W' 3 1 (Fresh w) v' (WL ++ [q]).length (ivs (nz (WL ++ [q]))) ∧ OMapS Tryz.prog 3 3 b met.length (lookN met) W' ∧ Keep NoB w W') := by
     refine ⟨hB.step hqm haq hDq, ?_, (hM.keep ((Keep.refl NoB _).alloc _) id).grown hg' (Ne.symm hne), hk'⟩
     rw [List.length_append, List.length_singleton]
     simpa [nz] using hO'
    have q1 : ¬ (a' : Int) = 0 := by omega
    have q2 : ((a' : Int) == 0) = false := by rw [beq_eq_false_iff_ne]; exact q1
    have q3 : ((a' : Int) != 0) = true := by rw [bne_iff_ne]; exact q1
    have HDq := Lib.hid hDq
    clear hB hO hM HI hst0 hk hO' hg' hk' hne hlq hqm haq hDq
    go_wp2_with (at_builtin; refine wpList_append_run _ rfl _ _ 23 rfl _ _ v' W' rfl rfl hap ?_)
    go_roundw
    case rel => exact ⟨q, WL ++ [q], rfl, HN⟩
    case measure => have := HDq.out; simp [intOf]; omega
end Go.Proofs.YtghdibbooegocaaGreatDoor.G

namespace Go.Proofs.YtghdibbooegocaaGreatDoor.G
open Go.RowKit Go.Shelf W
attribute [local go_sem] Oper.semAt_some

def BackR (s : Nat → List Nat) (at0 : Nat) (w : World) (e : Ending) (w' : World) : Prop := ∃ b, e = .returned (.bool b) ∧ (b = true ↔ ∃ p l, Way s [at0] p l ∧ at0 ∈ s p) ∧ Keep NoB w w'
structure BkI (w : World) (A : Option Addr) (n c at0 : Nat) (s : Nat → List Nat) (v : Bool) (p : BSet) (W : World) : Prop where
 p : p = fun k => k = w.heap.size + 1 + 1
 kp : Keep NoB w W
 bs : Blk W w.heap.size 49 #[.slice A n c]
 ba : Blk W (w.heap.size + 1) 3 #[.int .i64 (at0 : Int)]
 bb : Blk W (w.heap.size + 1 + 1) 4 #[.bool v]
def BkJ (w : World) (A : Option Addr) (n c at0 : Nat) (s : Nat → List Nat) (pre : List (Nat × Nat)) (p : BSet) (W : World) : Prop := BkI w A n c at0 s false p W ∧ ∀ e ∈ pre, at0 ∉ s e.1
def BkX (w : World) (A : Option Addr) (n c at0 : Nat) (s : Nat → List Nat) (id : Nat) (cd : Code) (_ : List (Nat × Nat)) (p : BSet) (W : World) : Prop := cd = .exit id ∧ BkI w A n c at0 s true p W ∧ ∃ q l, Way s [at0] q l ∧ at0 ∈ s q
section
variable {w : World} {A : Option Addr} {n c at0 B : Nat} {s : Nat → List Nat}
theorem bkI_out {v : Bool} {p : BSet} {W W' : World} (h : BkI w A n c at0 s v p W) (hs : IStepF B p W W') (hB : w.heap.size + 1 + 1 < B) : BkI w A n c at0 s v p W' :=
 ⟨h.p, h.kp.trans hs.keep (fun k hk hl => by omega), h.bs.keep hs.keep (fun hk => by omega), h.ba.keep hs.keep (fun hk => by omega), h.bb.keep hs.keep (fun hk => by omega)⟩
theorem bkJ_out (hB : w.heap.size + 1 + 1 < B) : KeepsOutF B (BkJ w A n c at0 s) := fun _ _ _ _ h hs => ⟨bkI_out h.1 hs hB, h.2⟩
theorem bkX_out (id : Nat) (cd : Code) (hB : w.heap.size + 1 + 1 < B) : KeepsOutF B (BkX w A n c at0 s id cd) := fun _ _ _ _ h hs => ⟨h.1, bkI_out h.2.1 hs hB, h.2.2⟩
end

set_option maxRecDepth 100000 in
set_option maxHeartbeats 8000000 in
theorem comesBack_any (A : Option Addr) (T : BSet) (Bf : Nat → Option Addr) (cf : Nat → Nat) (n c at0 : Nat) (s : Nat → List Nat) (w : World) (hst : StAt T A Bf cf n s w) (hat : at0 < n) (hn : n ≤ 1000) (hs : Hid (∀ i a, i < n → a ∈ s i → a < n)) (hsl : Hid (∀ i, i < n → (s i).length ≤ 2)) :
  Calls Tryz.prog 42 #[.slice A n c, .int .i64 (at0 : Int)] w (BackR s at0 w) := by
 have HS := Lib.hid hst.here
 clear hst
 have b0 := ((Blk.new w 49 #[.slice A n c]).alloc (.cells #[.int .i64 (at0 : Int)] 3)).alloc (.cells #[.bool false] 4)
 have b1 := (Blk.new (w.alloc (.cells #[.slice A n c] 49)) 3 #[.int .i64 (at0 : Int)]).alloc (.cells #[.bool false] 4)
 have b2 := Blk.new ((w.alloc (.cells #[.slice A n c] 49)).alloc (.cells #[.int .i64 (at0 : Int)] 3)) 4 #[.bool false]
 simp only [World.size_alloc] at b1 b2
 have hk0 : Keep NoB w (((w.alloc (.cells #[.slice A n c] 49)).alloc (.cells #[.int .i64 (at0 : Int)] 3)).alloc (.cells #[.bool false] 4)) := (((Keep.refl NoB w).alloc _).alloc _).alloc _
 have hz0 : (((w.alloc (.cells #[.slice A n c] 49)).alloc (.cells #[.int .i64 (at0 : Int)] 3)).alloc (.cells #[.bool false] 4)).heap.size = w.heap.size + 1 + 1 + 1 := by simp [World.size_alloc]
 obtain ⟨W0, hW0⟩ : ∃ W0, W0 = ((w.alloc (.cells #[.slice A n c] 49)).alloc (.cells #[.int .i64 (at0 : Int)] 3)).alloc (.cells #[.bool false] 4) := ⟨_, rfl⟩
 rw [← hW0] at b0 b1 b2 hk0 hz0
 have c0 := b0.cell 0
 have c1 := b1.cell 0
 simp only [List.getElem?_toArray, List.getElem?_cons_zero] at c0 c1
 have HZ0 := Lib.hid hz0
 clear hz0
 refine (callsIn_wide (n := 4)).1 ?_
 refine callsIn_of_wp_marks Tryz.func42 rfl trivial ?_ rfl
 simp only [Tryz.ntmps42, List.size_toArray, List.length_cons, List.length_nil, Nat.reduceAdd, Nat.reduceSub, Array.replicate_succ, Array.replicate_zero, List.push_toArray, List.append_toArray, List.nil_append, List.cons_append]
 gi_wp2
 refine V.wpIn_scope_wide ?_
 gi_wp2
 refine wpIn_label ?_
 rw [← hW0]
 clear hW0
 gi_wp2_with fail
 refine ⟨trivial, (callsIn_wide.2 (nearest_any A n c at0 51 #[] W0)).mono ?_⟩
 rintro e W1 ⟨rfl, hz1, k1, bf, bs, bo⟩
 have hH0 : NrH w.heap.size at0 A Bf cf n c s 51 #[] (W0.heap.size + 1) W0.heap.size (W0.heap.size + 1 + 1) W1 := ⟨bf, bs, bo, HS.out.keepN (keepN hk0 k1)⟩
 have hstp := Lib.hid (near_stops 2 3 at0 n c 51 (W0.heap.size + 1) W0.heap.size (W0.heap.size + 1 + 1) A Bf cf s (fun _ => true) #[] hn (fun _ => hat) (by omega) hs hsl
  (NrH w.heap.size at0 A Bf cf n c s 51 #[] (W0.heap.size + 1) W0.heap.size (W0.heap.size + 1 + 1)) (fun _ _ => True) (fun W h => h.nr) (enters_of Tryz.func51 rfl rfl) (fun _ W q _ _ _ => anywhere_any q W))
 have hi0 : BkJ w A n c at0 s [] (fun k => k = w.heap.size + 1 + 1) W1 := ⟨⟨rfl, keepN hk0 k1, b0.keep k1 id, b1.keep k1 id, b2.keep k1 id⟩, fun e h => by cases h⟩
 have hz0 := HZ0.out
 have hHs : ∀ (O : Nat → Prop) (W2 W3 : World), (∀ k, O k → (k = w.heap.size + 1 + 1) ∨ W1.heap.size ≤ k) → NrH w.heap.size at0 A Bf cf n c s 51 #[] (W0.heap.size + 1) W0.heap.size (W0.heap.size + 1 + 1) W2 → Keep O W2 W3 → NrH w.heap.size at0 A Bf cf n c s 51 #[] (W0.heap.size + 1) W0.heap.size (W0.heap.size + 1 + 1) W3 :=
  fun O W2 W3 hO h hk => h.keep hk (fun k hk h => by have := hO k h; omega) (fun h => by have := hO _ h; omega) (fun h => by have := hO _ h; omega) (fun h => by have := hO _ h; omega)
 have hp0 : ∀ k, (k = w.heap.size + 1 + 1) → k < W1.heap.size := fun k hk => by omega
 have HS1 := Lib.hid (fun W (hk : Keep NoB w W) => HS.out.keepN hk)
 have HZ := Lib.hid (And.intro hz0 hz1)
 clear bf bs bo k1 hk0 HS hz0 hz1 b0 b1 b2 c0 c1 HZ0
 gi_wp2_with fail
 obtain ⟨hz0, hz1⟩ := HZ.out
 refine wpIn_rangeFunc_F (m := 2) (gf := 64) (lb := #[.pointer (some ⟨W0.heap.size + 1, 0, none⟩), .pointer (some ⟨W0.heap.size, 0, none⟩), .pointer (some ⟨W0.heap.size + 1 + 1, 0, none⟩)]) rfl (enters_of Tryz.func64 rfl rfl)
  hstp.out (fun _ => rfl) (BkJ w A n c at0 s) (BkX w A n c at0 s 0) (bkJ_out (by omega)) (fun pre q W h k hk => by rw [h.1.p] at hk; subst hk; exact h.1.bb.lt) (fun _ _ _ _ => trivial) (fun cd => bkX_out 0 cd (by omega)) hi0 hp0 hH0 hHs
  (fun pre x q a' W => BkJ w A n c at0 s pre q W ∧ a' = { tmps := #[.slice A n c, .int .i64 (at0 : Int), .pointer (some ⟨w.heap.size, 0, none⟩), .pointer (some ⟨w.heap.size + 1, 0, none⟩), .bool false, .pointer (some ⟨w.heap.size + 1 + 1, 0, none⟩), .int .i64 (x.1 : Int), undef, undef, .slice A n c, .int .i64 (at0 : Int), .func (.func 64) #[] #[.pointer (some ⟨W0.heap.size + 1, 0, none⟩), .pointer (some ⟨W0.heap.size, 0, none⟩), .pointer (some ⟨W0.heap.size + 1 + 1, 0, none⟩)], .int .i64 (x.1 : Int), .int .i64 (x.2 : Int), undef, undef, undef, undef, undef, undef, undef, undef, undef, undef, undef, undef, undef, undef], defers := [] }) ?hax ?assign ?body ?done ?stop
 case hax =>
  rintro pre x a' u q W W' ⟨g1, g4⟩ hs
  exact ⟨bkJ_out (by omega) _ _ _ _ g1 hs, g4⟩
 case assign =>
  rintro l pre x q W hI hen
  have HI := Lib.hid hI
  clear hI hi0 hp0 hH0 hHs hstp hz0 hz1
  gi_wp2
  exact ⟨q, Rnd.refl _ _, HI.out, trivial⟩
 case body =>
  rintro l pre x q a' W hen ⟨g1, rfl⟩
  obtain ⟨hxm, hx1, hx2, hpl⟩ := hen.new hs.out
  obtain ⟨_, met, hnr, hpe, hmx⟩ := hen
  clear hpe
  have hway := hnr.way x.1 (mem_keys_iff.2 ⟨_, _, hmx, rfl⟩)
  have HG := Lib.hid g1
  obtain ⟨gs, rfl, _, cq, hrd, _⟩ := HS1.out W g1.1.kp x.1 hx1
  have e0 := g1.1.bs.cell 0
  have e1 := g1.1.ba.cell 0
  have e2 := g1.1.bb.cell 0
  have f2 := g1.1.bb.frozen 0
  have HB := Lib.hid g1.1.bb
  simp only [List.getElem?_toArray, List.getElem?_cons_zero] at e0 e1 e2
  obtain ⟨y, hy⟩ : ∃ y, x.1 = y := ⟨_, rfl⟩
  obtain ⟨ln, hln⟩ : ∃ ln, (s y).length = ln := ⟨_, rfl⟩
  have HY : Hid (x.1 = y) := hy
  rw [hy] at cq hrd hway hx1 ⊢
  generalize x.2 = y2 at hx2 ⊢
  rw [hln] at cq
  have hl2 : ln ≤ 2 := by rw [← hln]; exact hsl.out y hx1
  generalize Bf y = B at cq hrd
  generalize cf y = cB at cq
  have HRd := Lib.hid hrd
  have HW := Lib.hid hway
  clear g1 hi0 hp0 hH0 hHs hstp hz0 hz1 hnr hmx hy hrd hway hxm
  gi_wp2
  gi_loopw [19] (fun i wr => ∃ j : Nat, j ≤ ln ∧ i = .int .i64 (j : Int) ∧ wr = W ∧ Hid (∀ j', j' < j → (s y)[j']? ≠ some at0)) (fun i _ => ln - (intOf i).toNat)
  case atStart => exact ⟨0, Nat.zero_le _, rfl, rfl, fun j' h => absurd h (Nat.not_lt_zero _)⟩
  case round =>
   obtain ⟨j, hj, rfl, rfl, HNo⟩ := hrel
   by_cases hlt : j < ln
   ·have hjl : j < (s y).length := by rw [hln]; exact hlt
    obtain ⟨gb, ob, rfl, hcb⟩ := rd_steps HRd.out (by omega)
    have hx := List.getElem?_eq_getElem hjl
    have cx := hcb j _ hx
    have hmem : (s y)[j] ∈ s y := List.getElem_mem hjl
    generalize (s y)[j] = z at cx hx hmem
    by_cases hzq : z = at0
    ·have q1 : ((z : Int) == (at0 : Int)) = true := by rw [beq_iff_eq]; omega
     have hfin : Hid (∃ p', Rnd q p' wr (wr.setCell ⟨w.heap.size + 1 + 1, 0, none⟩ (.bool true)) ∧ BkX w (some ⟨gs, 0, none⟩) n c at0 s 0 (.exit 0) (pre ++ [x]) p' (wr.setCell ⟨w.heap.size + 1 + 1, 0, none⟩ (.bool true))) := by
      have hg := HG.out.1
      have hp := hg.p
      subst hp
      have hks := keep_set wr (w.heap.size + 1 + 1) 0 (.bool true)
      have hb := hg.bb.put 0 (.bool true)
      simp only [List.setIfInBounds_toArray, List.set_cons_zero] at hb
      obtain ⟨lw, hw, _⟩ := HW.out
      exact ⟨_, Rnd.of_keep hks, rfl, ⟨rfl, hg.kp.trans hks (fun k hk hl => by omega), hg.bs.keep hks (by omega), hg.ba.keep hks (by omega), hb⟩, y, lw, hw, hzq ▸ hmem⟩
     clear hx hmem HG hcb hzq
     gi_wp2
     exact hfin.out
    ·have q1 : ((z : Int) == (at0 : Int)) = false := by rw [beq_eq_false_iff_ne]; omega
     have HN2 : Hid (∀ j', j' < j + 1 → (s y)[j']? ≠ some at0) := fun j' h' e => by
      rcases Nat.lt_or_eq_of_le (Nat.le_of_lt_succ h') with h | rfl
      ·exact HNo.out j' h e
      ·rw [hx] at e; injection e with e; exact hzq e
     clear hx hmem HG hcb hzq
     gi_wp2
     go_roundw
     case rel => exact ⟨j + 1, by omega, by go_num, trivial, HN2⟩
     case measure => simp [intOf]; omega
   ·obtain rfl : j = ln := by omega
    have hfin : Hid (∃ p', Rnd q p' wr wr ∧ BkJ w (some ⟨gs, 0, none⟩) n c at0 s (pre ++ [x]) p' wr) := by
     refine ⟨q, Rnd.refl _ _, HG.out.1, fun e he => ?_⟩
     rcases List.mem_append.1 he with he | he
     ·exact HG.out.2 e he
     ·rw [List.mem_singleton.1 he, HY.out]
      intro hm
      obtain ⟨j', hj'⟩ := List.getElem?_of_mem hm
      exact HNo.out j' (by have := (List.getElem?_eq_some_iff.1 hj').1; omega) hj'
    clear HG HNo
    gi_wp2
    exact hfin.out
 case done =>
  rintro D xs q W hD hpD hS g1 hK
  have e2 := g1.1.bb.cell 0
  simp only [List.getElem?_toArray, List.getElem?_cons_zero] at e2
  have HF := Lib.hid (And.intro g1 hS)
  rename_i K2 aK
  refine aK _ _ ?_
  clear g1 hi0 hp0 hH0 hHs hstp hS
  gi_wp2
  dsimp only [Exit.noGoto]
  refine ⟨by simp, .inl ⟨_, _, rfl, run_takeDeferred hK, ?_⟩⟩
  refine ⟨.bool false, by simp [results, Tryz.results42, go_sem], ?_⟩
  refine ⟨false, rfl, ⟨(fun h => by cases h), fun ⟨q, l, hw, hq⟩ => ?_⟩, HF.out.1.1.kp.trans (keep_putD W D _) (fun k hk hl => by omega)⟩
  rcases HF.out.2 with ⟨h0, _⟩ | ⟨_, hall⟩
  ·omega
  ·obtain ⟨i, e, hi, rfl⟩ := mem_keys_iff.1 (hall.all.2 ⟨l, hw⟩)
   exact absurd hq (HF.out.1.2 e (List.mem_of_getElem? hi))
 case stop =>
  rintro D cd pre q W hD hpD _ ⟨rfl, g1, g2⟩ hK
  have e2 := g1.bb.cell 0
  simp only [List.getElem?_toArray, List.getElem?_cons_zero] at e2
  have HF := Lib.hid (And.intro g1 g2)
  clear g1 hi0 hp0 hH0 hHs hstp
  gi_wp2
  dsimp only [Exit.noGoto]
  refine ⟨by simp, .inl ⟨_, _, rfl, run_takeDeferred hK, ?_⟩⟩
  refine ⟨.bool true, by simp [results, Tryz.results42, go_sem], ?_⟩
  obtain ⟨p, l, hw, hp⟩ := HF.out.2
  exact ⟨true, rfl, ⟨fun _ => ⟨p, l, hw, hp⟩, fun _ => rfl⟩, HF.out.1.kp.trans (keep_putD W D _) (fun k hk hl => by omega)⟩
end Go.Proofs.YtghdibbooegocaaGreatDoor.G
