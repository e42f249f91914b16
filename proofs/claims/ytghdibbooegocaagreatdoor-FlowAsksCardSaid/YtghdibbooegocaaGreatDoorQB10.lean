/-
  Part 10 of the proofs of GAsksRow: what is laid, and what the functions that the law runs answer. Conditions: each theorem names its own.
-/
import Derived.Test.YtghdibbooegocaaGreatDoorQB9
namespace Go.Proofs.YtghdibbooegocaaGreatDoor.G
open Go.RowKit W

theorem own_set {w : World} {O : Nat → Prop} {A : Option Addr} {n c : Nat} {F : List Int} (h : Own w 3 1 O (.slice A n c) n (ivs F)) {x : Nat} (hx : x < n) (k : Int) :
  ∃ g, A = some ⟨g, 0, none⟩ ∧ O g ∧ w.frozen? ⟨g, x, none⟩ = false ∧ (∃ u, w.cell? ⟨g, x, none⟩ = some u) ∧ Own (w.setCell ⟨g, x, none⟩ (.int .i64 k)) 3 1 O (.slice A n c) n (ivs (F.set x k)) ∧ w.grownBy (w.setCell ⟨g, x, none⟩ (.int .i64 k)) (some g) := by
 rcases h.1.2 with ⟨h0, h1⟩ | ⟨g, cap, cur, hv, hb, hh, h1, h2, h3, h4⟩
 ·omega
 ·injection hv with e1 e2 e3
  subst e1 e3
  have hB : Blk w g 3 cur := hh
  have hp := hB.put x (.int .i64 k)
  refine ⟨g, rfl, h.2 g rfl, hB.frozen x, ⟨cur[x]'(by omega), by rw [hB.cell]; exact Array.getElem?_eq_getElem _⟩, ⟨⟨by simpa using h.1.1, .inr ⟨g, c, _, rfl, hb, hp, h1, h2, by simpa using h3, ?_⟩⟩, h.2⟩, ⟨rfl, rfl, rfl, by simp [World.setCell], fun k' _ hk => Below.heap_setCell _ _ _ k' (fun e => hk (by rw [e]))⟩⟩
  have h5 : (ivs (F.set x k)) = (ivs F).set x (.int .i64 k) := by simp [ivs, List.map_set]
  rw [h5, ← h4, Array.toList_setIfInBounds, List.take_set]
theorem pushN_any {w W : World} {O : Nat → Prop} {n : Nat} {v : Value} {xs : List Value} (h : Own W 3 1 O v n xs) (hk : Keep NoB w W) (hO : ∀ k, O k → w.heap.size ≤ k) (hO2 : ∀ k, W.heap.size ≤ k → O k) (A : Option Addr) (c : Nat) (l : List Nat) (hr : Rd W A (ivs (nz l))) (hn : n + l.length ≤ 1000000) :
  ∃ v' W', (Builtin.append_ #[23, 23] 23 #[v, .slice A l.length c]).run Tryz.prog W = .ok v' W' ∧ Own W' 3 1 O v' (n + l.length) (xs ++ ivs (nz l)) ∧ W.grownBy W' v.ownBlock ∧ Keep NoB w W' := by
 obtain ⟨i0, hi, hz0, hz1, hz2⟩ := info_parts int_info
 obtain ⟨v', w', hrun, h2, h3, h4⟩ := run_append_rd W 23 3 1 8 i0 (.int .i64 0) Tryz.underlying23 hi hz0 hz1 hz2 rfl (by decide) v n xs A l.length c (ivs (nz l)) 23 h.1 hr (by simp) (ivs_one _) (by unfold maxLen; omega) (by omega)
 refine ⟨_, w', hrun, ⟨h2, fun g e => ?_⟩, h3, hk.grown h3 (fun g e hl => by have := hO g (h.2 g e); omega)⟩
 rcases h4 with h4 | h4
 ·rw [e] at h4; exact h.2 g h4.symm
 ·rw [e] at h4; injection h4 with h4; exact hO2 g (by omega)
theorem visit_yes {succ : Nat → List Nat} {wv : Int} {s x : Nat} {r : List Nat} {st : List Int × List Nat} (h : (x : Int) = wv ∨ 0 ≤ st.1.getD x (-1)) : visit succ wv s (x :: r) st = visit succ wv s r st := by rw [visit, if_pos h]
theorem visit_no {succ : Nat → List Nat} {wv : Int} {s x : Nat} {r : List Nat} {st : List Int × List Nat} (h : ¬ ((x : Int) = wv ∨ 0 ≤ st.1.getD x (-1))) : visit succ wv s (x :: r) st = visit succ wv s r (st.1.set x (s : Int), st.2 ++ succ x) := by rw [visit, if_neg h]
def cntF (F : List Int) : Nat := F.countP fun z => decide (0 ≤ z)
theorem cntF_le (F : List Int) : cntF F ≤ F.length := List.countP_le_length
theorem cntF_set {F : List Int} {x : Nat} (hx : x < F.length) (hn : ¬ 0 ≤ F[x]) (k : Nat) : cntF (F.set x (k : Int)) = cntF F + 1 := by
 unfold cntF
 rw [List.countP_set hx]
 simp [hn]

structure FarI (w : World) (l : List C.I3) (wv : Int) (n k : Nat) (src : List Nat) (gf : Nat) (cF : Nat) (F : List Int) (Nw : List Nat) (A : Option Addr) (W : World) : Prop where
 eq : rounds (stepsG l) wv (n + 1 - k) k Nw F = farB l wv src
 len : F.length = n
 own : Own W 3 1 (Fresh w) (.slice (some ⟨gf, 0, none⟩) n cF) n (ivs F)
 kp : Keep NoB w W
 rd : Rd W A (ivs (nz Nw))
 apart : ∀ ad, A = some ad → 0 < Nw.length → ad.block ≠ gf ∧ ad.block < W.heap.size
 lt : ∀ x ∈ Nw, x < n
 nl : Nw.length ≤ 5000
 gl : gf < W.heap.size
structure FarJ (w : World) (l : List C.I3) (wv : Int) (n k : Nat) (gf cF B0 : Nat) (Nw : List Nat) (A : Option Addr) (R : List Int × List Nat) (i : Nat) (F : List Int) (X : List Nat) (v : Value) (W : World) : Prop where
 eq : visit (stepsG l) wv k (Nw.drop i) (F, X) = R
 len : F.length = n
 own : Own W 3 1 (Fresh w) (.slice (some ⟨gf, 0, none⟩) n cF) n (ivs F)
 nx : Own W 3 1 (fun k => B0 ≤ k) v X.length (ivs (nz X))
 kp : Keep NoB w W
 rd : Rd W A (ivs (nz Nw))
 apart : ∀ ad, A = some ad → 0 < Nw.length → ad.block ≠ gf ∧ ad.block < B0
 xl : X.length ≤ 2 * cntF F
 xn : ∀ x ∈ X, x < n
 gl : gf < B0
 bw : B0 ≤ W.heap.size
 b0 : w.heap.size ≤ B0

set_option maxRecDepth 100000 in
set_option maxHeartbeats 8000000 in
theorem rFar_any (A : Option Addr) (l : List C.I3) (n c : Nat) (S : Option Addr) (src : List Nat) (sl cs : Nat) (wv : Int) (w : World) (hr : Rd w A (C.iis l)) (hn : Hid (l.length = n)) (hI : Hid (C.AllI l)) (ho : Hid (C.okB l = true)) (hrs : Rd w S (ivs (nz src))) (hsl : src.length = sl) (hs1 : sl ≤ 5000) (hsn : ∀ x ∈ src, x < n) :
  Calls Tryz.prog 39 #[.slice A n c, .slice S sl cs, .int .i64 wv] w fun e w' => ∃ B cB, e = .returned (.slice B n cB) ∧ Own w' 3 1 (Fresh w) (.slice B n cB) n (ivs (farB l wv src)) ∧ Keep NoB w w' := by
 have hb := C.okB_parts ho.out
 have hn1 : 1 ≤ n := by rw [← hn.out]; exact hb.1
 have hn5 : n ≤ 512 := by rw [← hn.out]; exact hb.2.1
 have HSt := Lib.hid (fun W (hk : Keep NoB w W) i hi => rsteps_any A l n c W (hr.keepN hk) hn hI i hi (by omega))
 have HRs := Lib.hid (fun W (hk : Keep NoB w W) => hrs.keepN hk)
 have HSL : Hid (∀ ad, S = some ad → 0 < src.length → ad.block < w.heap.size) := fun ad e h0 => by
  obtain ⟨g, o, e2, hc⟩ := hrs (by simpa [nz] using h0)
  rw [e] at e2; cases e2
  exact World.block_lt_of_cell? w _ (hc 0 _ (List.getElem?_eq_getElem (by simpa [nz] using h0)))
 have HSN := Lib.hid hsn
 have HSl := Lib.hid hsl
 clear hr hrs hb hsn hsl
 go_enter Tryz.func39, Tryz.ntmps39
 go_wp2_with fail
 go_loopw [7, 8] (fun v i wr => ∃ k : Nat, k ≤ n ∧ i = .int .i64 (k : Int) ∧ Hid (Own wr 3 1 (Fresh w) v k (ivs (List.replicate k (-1))) ∧ Keep NoB w wr)) (fun _ i _ => n - (intOf i).toNat)
 case atStart => exact ⟨0, Nat.zero_le _, rfl, Own.nil _ _ _ _, Keep.refl _ _⟩
 case round =>
  obtain ⟨k, hk, rfl, HI⟩ := hrel
  obtain ⟨hO, hK⟩ := HI.out
  by_cases hlt : k < n
  ·obtain ⟨v', W', hap, hO', _, hk'⟩ := push_any hO hK (-1) (by omega)
   have HN : Hid (Own W' 3 1 (Fresh w) v' (k + 1) (ivs (List.replicate (k + 1) (-1))) ∧ Keep NoB w W') := by
    refine ⟨?_, hk'⟩
    rw [List.replicate_succ', ivs, List.map_append]
    exact hO'
   clear hO hK HI hO' hk'
   go_wp2_with (at_builtin; refine wpList_append_run _ rfl _ _ 23 rfl _ _ v' W' rfl rfl hap ?_)
   go_roundw
   case rel => exact ⟨k + 1, by omega, by go_num, HN⟩
   case measure => simp [intOf]; omega
  ·obtain rfl : k = n := by omega
   obtain ⟨Af, cF, hvf, hy1, hy2, hrf, hAf⟩ := hO.form
   clear hy1 hy2
   obtain ⟨g0, o0, hA0, hy0⟩ := hrf (by simp; omega)
   clear hy0
   obtain ⟨gf, hgf⟩ : ∃ gf, Af = some ⟨gf, 0, none⟩ := by
    have h1 := (hAf _ hA0).2
    exact ⟨g0, by rw [hA0, h1]⟩
   subst hgf
   subst hvf
   have hgw : w.heap.size ≤ gf := (hAf _ rfl).1
   have hgl : gf < wr.heap.size := (hO.1.lt gf rfl).2
   have HF : Hid (FarI w l wv k 0 src gf cF (List.replicate k (-1)) src S wr) := by
    refine ⟨?_, by simp, hO, hK, HRs.out wr hK, fun ad e h0 => ?_, HSN.out, by rw [HSl.out]; omega, hgl⟩
    ·unfold farB farL; rw [hn.out]; rfl
    ·have := HSL.out ad e h0
     exact ⟨by omega, by have := hK.size; omega⟩
   rw [← HSl.out]
   clear hO hK HI hrf hAf hA0
   go_wp2
   go_loopw [9, 10] (fun u s wr => ∃ (s' : Nat) (F : List Int) (Nw : List Nat) (A' : Option Addr) (c' : Nat), s' ≤ k + 1 ∧ s = .int .i64 (s' : Int) ∧ u = .slice A' Nw.length c' ∧ Hid (FarI w l wv k s' src gf cF F Nw A' wr)) (fun _ s _ => k + 1 - (intOf s).toNat)
   case atStart => exact ⟨0, _, src, S, cs, Nat.zero_le _, rfl, rfl, HF⟩
   case round =>
    obtain ⟨s', F, Nw, A', c', hs', rfl, rfl, HI⟩ := hrel
    have hI0 := HI.out
    by_cases hsk : s' ≤ k
    ·have HJ : Hid (FarJ w l wv k s' gf cF wr.heap.size Nw A' (visit (stepsG l) wv s' Nw (F, [])) 0 F [] (.slice none 0 0) wr) :=
      ⟨by rw [List.drop_zero], hI0.len, hI0.own, Own.nil _ _ _ _, hI0.kp, hI0.rd, hI0.apart, by simp, (fun x hx => by cases hx), hI0.gl, Nat.le_refl _, hI0.kp.size⟩
     have HEQ : Hid (rounds (stepsG l) wv (k + 1 - (s' + 1)) (s' + 1) (visit (stepsG l) wv s' Nw (F, [])).2 (visit (stepsG l) wv s' Nw (F, [])).1 = farB l wv src) := by
      have h1 := hI0.eq
      rw [show k + 1 - s' = (k + 1 - (s' + 1)) + 1 by omega] at h1
      exact h1
     have HNL := Lib.hid hI0.lt
     have hnl := hI0.nl
     obtain ⟨B0, hB0⟩ : ∃ B0, wr.heap.size = B0 := ⟨_, rfl⟩
     rw [hB0] at HJ
     obtain ⟨R, hR⟩ : ∃ R, visit (stepsG l) wv s' Nw (F, []) = R := ⟨_, rfl⟩
     rw [hR] at HJ HEQ
     obtain ⟨nw, hnw⟩ : ∃ nw, Nw.length = nw := ⟨_, rfl⟩
     have HNW := Lib.hid hnw
     rw [hnw] at hnl ⊢
     clear HI hI0 HF hR hB0 hnw
     go_wp2
     go_loopw [11, 12] (fun v i wr => ∃ (i' : Nat) (F' : List Int) (X : List Nat), i' ≤ nw ∧ i = .int .i64 (i' : Int) ∧ Hid (FarJ w l wv k s' gf cF B0 Nw A' R i' F' X v wr)) (fun _ i _ => nw - (intOf i).toNat)
     case atStart => exact ⟨0, F, [], Nat.zero_le _, rfl, HJ⟩
     case round =>
      obtain ⟨i', F', X, hi', rfl, HI2⟩ := hrel
      have hJ := HI2.out
      by_cases hlt2 : i' < nw
      ·have hil : i' < Nw.length := by rw [HNW.out]; exact hlt2
       obtain ⟨ga, oa, rfl, hc⟩ := rd_steps hJ.rd (by omega)
       have hz := List.getElem?_eq_getElem hil
       have cx := hc i' _ hz
       have hxn := HNL.out _ (List.getElem_mem hil)
       have hdr : Nw.drop i' = Nw[i'] :: Nw.drop (i' + 1) := List.drop_eq_getElem_cons hil
       generalize Nw[i'] = x at cx hxn hdr
       have hxF : x < F'.length := by rw [hJ.len]; exact hxn
       obtain ⟨Ao, co, hvo, hy1, hy2, hro, hy3⟩ := hJ.own.form
       injection hvo with e1 e5 e6
       subst e1
       clear hy1 hy2 hy3 e5 e6
       obtain ⟨g2, o2, e2, hcF⟩ := rdI_at hro (by omega)
       cases e2
       have cf := hcF x hxF
       rw [Nat.zero_add] at cf
       have hgd : F'.getD x (-1) = F'[x] := by rw [List.getD_eq_getElem?_getD, List.getElem?_eq_getElem hxF]; rfl
       have heq := hJ.eq
       rw [hdr] at heq
       by_cases hw : (x : Int) = wv
       ·rw [visit_yes (.inl hw)] at heq
        have HN : Hid (FarJ w l wv k s' gf cF B0 Nw (some ⟨ga, oa, none⟩) R (i' + 1) F' X u11 wr) := ⟨heq, hJ.len, hJ.own, hJ.nx, hJ.kp, hJ.rd, hJ.apart, hJ.xl, hJ.xn, hJ.gl, hJ.bw, hJ.b0⟩
        have q1 : ((x : Int) == wv) = true := by rw [beq_iff_eq]; exact hw
        clear hJ HI2 hz hc hdr hro hcF cf hgd heq hw HJ
        go_wp2
        go_roundw
        case rel => exact ⟨i' + 1, F', X, by omega, by go_num, HN⟩
        case measure => simp [intOf]; omega
       ·have q1 : ((x : Int) == wv) = false := by rw [beq_eq_false_iff_ne]; exact hw
        by_cases hge : 0 ≤ F'[x]
        ·rw [visit_yes (.inr (by show 0 ≤ F'.getD x (-1); rw [hgd]; exact hge))] at heq
         have HN : Hid (FarJ w l wv k s' gf cF B0 Nw (some ⟨ga, oa, none⟩) R (i' + 1) F' X u11 wr) := ⟨heq, hJ.len, hJ.own, hJ.nx, hJ.kp, hJ.rd, hJ.apart, hJ.xl, hJ.xn, hJ.gl, hJ.bw, hJ.b0⟩
         generalize F'[x] = fx at cf hge
         clear hJ HI2 hz hc hdr hro hcF hgd heq hw HJ
         go_wp2
         go_roundw
         case rel => exact ⟨i' + 1, F', X, by omega, by go_num, HN⟩
         case measure => simp [intOf]; omega
        ·rw [visit_no (fun h => h.elim hw (fun h => hge (by rw [← hgd]; exact h)))] at heq
         have hcs := cntF_set hxF hge s'
         obtain ⟨g3, e3, hg3, hfz, ⟨uo, hco⟩, hO5, hgr5⟩ := own_set hJ.own hxn (s' : Int)
         cases e3
         have k5 : Keep NoB w (wr.setCell ⟨gf, x, none⟩ (.int .i64 (s' : Int))) := hJ.kp.grown hgr5 (fun g e hl => by cases e; exact absurd hg3 (by show ¬ w.heap.size ≤ gf; omega))
         have hap0 := hJ.apart _ rfl (by omega)
         have hnx5 : Own (wr.setCell ⟨gf, x, none⟩ (.int .i64 (s' : Int))) 3 1 (fun k => B0 ≤ k) u11 X.length (ivs (nz X)) := ⟨hJ.nx.1.kept hgr5 (.inr (fun e => by have h1 := hJ.nx.2 gf e; have h2 := hJ.gl; simp only at h1; omega)), hJ.nx.2⟩
         have hrd5 : Rd (wr.setCell ⟨gf, x, none⟩ (.int .i64 (s' : Int))) (some ⟨ga, oa, none⟩) (ivs (nz Nw)) := hJ.rd.keep (keep_set wr gf x _) (fun ad e h => by cases e; exact hap0.1 h)
         have hst2 : (stepsG l x).length ≤ 2 := nB_len x (by rw [nB_ok ho.out, hn.out]; exact hxn)
         have hstn : ∀ y ∈ stepsG l x, y < k := fun y hy => by have := steps_lt ho.out x y (by rw [hn.out]; exact hxn) hy; rwa [hn.out] at this
         have HSx := Lib.hid (HSt.out _ k5 x hxn)
         have HO5 := Lib.hid hO5
         have hcc := cntF_le (F'.set x (s' : Int))
         rw [List.length_set, hJ.len] at hcc
         have HQ := Lib.hid hJ
         have hq2 : ¬ 0 ≤ F'[x] := hge
         have hne1 : ¬ ga = gf := hap0.1
         have hne2 : ¬ gf = ga := fun h => hap0.1 h.symm
         generalize F'[x] = fx at cf hge hq2
         have HH := Lib.hid (And.intro heq (And.intro hcs (And.intro hcc (And.intro hgr5 (And.intro k5 (And.intro hnx5 (And.intro hrd5 (And.intro hst2 (And.intro hstn hap0)))))))))
         clear hJ HI2 hz hc hdr hro hcF hgd hw HJ hO5 hco heq hcs hcc hgr5 k5 hnx5 hrd5 hst2 hstn hap0 hge hg3
         go_wp2_with fail
         refine HSx.out.mono ?_
         rintro e w6 ⟨B6, c6, rfl, hrd6, hfr6, k6⟩
         obtain ⟨heq, hcs, hcc, hgr5, k5, hnx5, hrd5, hst2, hstn, hap0⟩ := HH.out
         have hO6 := HO5.out.keepN k6
         have hnx6 := hnx5.keepN k6
         have k56 := keepN k5 k6
         have hJ := HQ.out
         have hw6 : wr.heap.size ≤ w6.heap.size := Nat.le_trans hgr5.size k6.size
         obtain ⟨v', w7, hap, hO7, hg7, hk7⟩ := pushN_any hnx6 k56 (fun k hk => Nat.le_trans hJ.b0 hk) (fun k hk => Nat.le_trans hJ.bw (Nat.le_trans hw6 hk)) B6 c6 (stepsG l x) hrd6 (by have := hJ.xl; have := cntF_le F'; rw [hJ.len] at this; omega)
         have hvb : ∀ g, u11.ownBlock = some g → B0 ≤ g := hJ.nx.2
         have HN : Hid (FarJ w l wv k s' gf cF B0 Nw (some ⟨ga, oa, none⟩) R (i' + 1) (F'.set x (s' : Int)) (X ++ stepsG l x) v' w7) := by
          refine ⟨heq, by rw [List.length_set]; exact hJ.len, ⟨hO6.1.kept hg7 (.inr (fun e => by have h1 := hvb gf e.symm; have h2 := hJ.gl; omega)), hO6.2⟩, ?_, hk7, ?_, fun ad e h0 => ⟨(hJ.apart ad e h0).1, (hJ.apart ad e h0).2⟩, ?_, fun y hy => ?_, hJ.gl, ?_, hJ.b0⟩
          ·rw [List.length_append]
           have : ivs (nz (X ++ stepsG l x)) = ivs (nz X) ++ ivs (nz (stepsG l x)) := by simp [nz]
           rw [this]; exact hO7
          ·refine (hrd5.keepN k6).keep (O := fun k => u11.ownBlock = some k) ((Keep.refl _ w6).grown hg7 (fun g e _ => e)) (fun ad e h => ?_)
           have h1 := hvb _ h
           have h2 := (hJ.apart ad e (by omega)).2
           omega
          ·rw [List.length_append, hcs]; have := hJ.xl; omega
          ·rcases List.mem_append.1 hy with hy | hy
           ·exact hJ.xn y hy
           ·exact hstn y hy
          ·exact Nat.le_trans hJ.bw (Nat.le_trans hw6 hg7.size)
         clear HQ HO5 HSx hJ hrd6 hfr6 k6 hO6 hnx6 k56 hO7 hg7 hk7 hvb hnx5 hrd5 k5 hgr5 hw6 hstn hcs hcc heq hap0 HH hst2
         go_wp2_with (at_builtin; refine wpList_append_run _ rfl _ _ 23 rfl _ _ v' w7 rfl rfl hap ?_)
         go_roundw
         case rel => exact ⟨i' + 1, _, _, by omega, by go_num, HN⟩
         case measure => simp [intOf]; omega
      ·obtain rfl : i' = nw := by omega
       have heq := hJ.eq
       rw [List.drop_of_length_le (by rw [HNW.out]; exact Nat.le_refl _)] at heq
       obtain ⟨A2, c2, rfl, hy1, hy2, hrd2, hA2⟩ := hJ.nx.form
       have hcc := cntF_le F'
       rw [hJ.len] at hcc
       have hxl := hJ.xl
       have HN : Hid (FarI w l wv k (s' + 1) src gf cF F' X A2 wr) := by
        have h1 := HEQ.out
        rw [← heq] at h1
        exact ⟨h1, hJ.len, hJ.own, hJ.kp, hrd2, fun ad e h0 => ⟨by have h3 := (hA2 ad e).1; have h4 := hJ.gl; have h5 : B0 ≤ ad.block := h3; omega, by have h3 := hJ.nx.1.lt ad.block (by rw [e]; rfl); exact h3.2⟩, hJ.xn, by omega, by have h3 := hJ.gl; have h4 := hJ.bw; omega⟩
       clear hJ HI2 HJ heq hrd2 hA2 hcc hxl
       go_wp2
       go_roundw
       case rel => exact ⟨s' + 1, F', X, A2, c2, by omega, by go_num, rfl, HN⟩
       case measure => simp [intOf]; omega
    ·obtain rfl : s' = k + 1 := by omega
     have heq := hI0.eq
     rw [show k + 1 - (k + 1) = 0 by omega] at heq
     have HN : Hid (Own wr 3 1 (Fresh w) (.slice (some ⟨gf, 0, none⟩) k cF) k (ivs (farB l wv src)) ∧ Keep NoB w wr) := ⟨by rw [← heq]; exact hI0.own, hI0.kp⟩
     clear hI0 HI HF heq
     go_wp2
     go_ret
     exact ⟨_, cF, rfl, HN.out.1, HN.out.2⟩
end Go.Proofs.YtghdibbooegocaaGreatDoor.G

namespace Go.Proofs.YtghdibbooegocaaGreatDoor.O
open Go.RowKit

def CellsAt (W : World) (k : Nat) : Prop := ∃ cs t f, W.heap[k]? = some (.cells cs t f)
theorem CellsAt.lt {W : World} {k : Nat} (h : CellsAt W k) : k < W.heap.size := by obtain ⟨_, _, _, h⟩ := h; exact (Array.getElem?_eq_some_iff.1 h).1
end Go.Proofs.YtghdibbooegocaaGreatDoor.O

namespace Go.Proofs.YtghdibbooegocaaGreatDoor.O
open Go.RowKit Go.Shelf
attribute [local go_sem] Oper.semAt_some

end Go.Proofs.YtghdibbooegocaaGreatDoor.O

namespace Go.Proofs.YtghdibbooegocaaGreatDoor.O
open Go.RowKit

end Go.Proofs.YtghdibbooegocaaGreatDoor.O

namespace Go.Proofs.YtghdibbooegocaaGreatDoor.O
open Go.RowKit

end Go.Proofs.YtghdibbooegocaaGreatDoor.O

namespace Go.Proofs.YtghdibbooegocaaGreatDoor.O
open Go.RowKit

/-! ### Decode -/

end Go.Proofs.YtghdibbooegocaaGreatDoor.O

namespace Go.Proofs.YtghdibbooegocaaGreatDoor.O
open Go.RowKit

end Go.Proofs.YtghdibbooegocaaGreatDoor.O

namespace Go.Proofs.YtghdibbooegocaaGreatDoor.O
open Go.RowKit

end Go.Proofs.YtghdibbooegocaaGreatDoor.O

namespace Go.Proofs.YtghdibbooegocaaGreatDoor.W
open Go.RowKit


end Go.Proofs.YtghdibbooegocaaGreatDoor.W

namespace Go.Proofs.YtghdibbooegocaaGreatDoor.W
open Go.RowKit

/-! ### guess, Read -/

end Go.Proofs.YtghdibbooegocaaGreatDoor.W

namespace Go.Proofs.YtghdibbooegocaaGreatDoor.O
open Go.RowKit

/-! ### guess -/
end Go.Proofs.YtghdibbooegocaaGreatDoor.O

namespace Go.Proofs.YtghdibbooegocaaGreatDoor.O
open Go.RowKit Go.Shelf

end Go.Proofs.YtghdibbooegocaaGreatDoor.O

namespace Go.Proofs.YtghdibbooegocaaGreatDoor.O
open Go.RowKit Go.Shelf
attribute [local go_sem] Oper.semAt_some

end Go.Proofs.YtghdibbooegocaaGreatDoor.O

namespace Go.Proofs.YtghdibbooegocaaGreatDoor.O
open Go.RowKit

end Go.Proofs.YtghdibbooegocaaGreatDoor.O

namespace Go.Proofs.YtghdibbooegocaaGreatDoor.O
open Go.RowKit

end Go.Proofs.YtghdibbooegocaaGreatDoor.O

namespace Go.Proofs.YtghdibbooegocaaGreatDoor.G
open Go.RowKit O

theorem instr_info : (Tryz.prog.info? 45).map (fun i => (i.zero, i.size, i.bytes)) = some (some (.agg #[.int .i64 0, .int .i64 0, .int .i64 0]), 3, 24) := by kernel_rfl
end Go.Proofs.YtghdibbooegocaaGreatDoor.G

namespace Go.Proofs.YtghdibbooegocaaGreatDoor.G
open Go.RowKit O

end Go.Proofs.YtghdibbooegocaaGreatDoor.G

namespace Go.Proofs.YtghdibbooegocaaGreatDoor.G
open Go.RowKit W

end Go.Proofs.YtghdibbooegocaaGreatDoor.G

namespace Go.Proofs.YtghdibbooegocaaGreatDoor.G
open Go.RowKit W

theorem reach_none {l : List C.I3} (ho : C.okB l = false) : reachL l = [] := by
 unfold reachL
 rw [if_neg (by rw [ho]; decide)]
theorem errI_eq (l : List C.I3) (i : Nat) : errI l (i : Int) = if i ∈ reachL l then 0 else 110 := by
 by_cases h : i ∈ reachL l
 ·unfold errI
  rw [atN_of h, if_pos h]
  rfl
 ·have : atN l (i : Int) = none := by
   unfold atN
   rw [if_neg (fun c => h (by simpa using c.2))]
  unfold errI
  rw [this, if_neg h]
  rfl
end Go.Proofs.YtghdibbooegocaaGreatDoor.G

namespace Go.Proofs.YtghdibbooegocaaGreatDoor.G
open Go.RowKit W

def LisR (w : World) (L : List Nat) (e : Ending) (w' : World) : Prop := ∃ B c, e = .returned (.slice B L.length c) ∧ Rd w' B (ivs (nz L)) ∧ Keep NoB w w'
theorem rd_ints {W : World} {B : Option Addr} {F : List Int} (h : Rd W B (ivs F)) (h0 : 0 < F.length) : ∃ g o, B = some ⟨g, o, none⟩ ∧ ∀ (j : Nat) (z : Int), F[j]? = some z → W.cell? ⟨g, o + j, none⟩ = some (.int .i64 z) := by
 obtain ⟨g, o, hB, hc⟩ := h (by simpa [ivs] using h0)
 exact ⟨g, o, hB, fun j z hz => hc j _ (by rw [ivs, List.getElem?_map, hz]; rfl)⟩
theorem take_filter {d : List Nat} {P : Nat → Bool} {k : Nat} (hk : k < d.length) : (d.take (k + 1)).filter P = (d.take k).filter P ++ (if P d[k] = true then [d[k]] else []) := by
 rw [List.take_succ_eq_append_getElem hk, filter_next]
theorem filt_len {d : List Nat} {P : Nat → Bool} {k : Nat} (hd : d.length ≤ 1000) : ((d.take k).filter P).length ≤ 1000 := by
 refine Nat.le_trans (List.length_filter_le _ _) ?_
 rw [List.length_take]
 omega
theorem reach_len (l : List C.I3) : (reachL l).length ≤ 1000 := nodup_len 1000 _ ((rise_filter (b := l)).imp (fun h => Nat.ne_of_lt h)) fun _ hx => reach_b hx

set_option maxRecDepth 100000 in
set_option maxHeartbeats 8000000 in
theorem rReached_any (A : Option Addr) (l : List C.I3) (n c : Nat) (w : World) (hr : Rd w A (C.iis l)) (hn : Hid (l.length = n)) (hI : Hid (C.AllI l)) (hm : n ≤ 9223372036854775807) :
  Calls Tryz.prog 18 #[.slice A n c] w (LisR w (reachL l)) := by
 cases ho : C.okB l with
 | false =>
  have HC := Lib.hid (C.rcchk_any A l n c w hr hn hI hm 50 (C.chkB_no ho))
  have HZ := Lib.hid (reach_none ho)
  clear hr hn ho hI
  go_enter Tryz.func18, Tryz.ntmps18
  go_wp2_with fail
  refine HC.out.mono ?_
  rintro e w1 ⟨rfl, k1⟩
  go_wp2
  go_ret
  rw [HZ.out]
  exact ⟨none, 0, rfl, Rd.none_ _ _, k1⟩
 | true =>
  have HC := Lib.hid (C.rcchk_any A l n c w hr hn hI hm 0 (C.chkB_ok ho))
  have hb := C.okB_parts ho
  have hn1 : 1 ≤ n := by rw [← hn.out]; exact hb.1
  have hn5 : n ≤ 512 := by rw [← hn.out]; exact hb.2.1
  have HF := Lib.hid (fun (W : World) (k : Keep NoB w W) g (hrs : Rd W (some ⟨g, 0, none⟩) (ivs (nz [0]))) => rFar_any A l n c (some ⟨g, 0, none⟩) [0] 1 1 (-1) W (hr.keepN k) hn hI (Lib.hid ho) hrs rfl (by decide) (by intro x hx; rw [List.mem_singleton] at hx; omega))
  have HRe : Hid (reachL l = (List.range n).filter fun a => decide (0 ≤ (farB l (-1) [0]).getD a (-1))) := by
   rw [← hn.out]
   unfold reachL
   exact if_pos ho
  have HFl : Hid ((farB l (-1) [0]).length = n) := by
   have h := far_len (succ := stepsG l) (w := -1) (n := l.length) (src := [0]) (zero_src ho) (steps_lt ho)
   rw [← hn.out]
   exact h
  clear hr hn ho hI hb
  go_enter Tryz.func18, Tryz.ntmps18
  go_wp2_with fail
  refine HC.out.mono ?_
  rintro e w1 ⟨rfl, k1⟩
  have ka := (Keep.refl NoB w1).alloc (.cells #[.int .i64 0] 3)
  have rn : Rd (w1.alloc (.cells #[.int .i64 0] 3)) (some ⟨w1.heap.size, 0, none⟩) (ivs (nz [0])) := W.rd_made rfl rfl
  have k2 := keepN k1 ka
  clear HC k1 ka
  go_wp2_with fail
  refine (HF.out _ k2 _ rn).mono ?_
  rintro e w3 ⟨B, cB, rfl, hO3, k3⟩
  obtain ⟨A3, c3, hv3, hy1, hy2, r3, hy3⟩ := hO3.form
  injection hv3 with e1 e2 e3
  subst e1
  have HK3 := Lib.hid (keepN k2 k3)
  obtain ⟨F, hF⟩ : ∃ F, farB l (-1) [0] = F := ⟨_, rfl⟩
  rw [hF] at HRe HFl r3
  obtain ⟨g, o, rfl, hc⟩ := rd_ints r3 (by rw [HFl.out]; omega)
  have HCs := Lib.hid (fun W (k : Keep NoB w3 W) i z (hz : F[i]? = some z) => k.cell (hc i z hz) id)
  clear hy1 hy2 hy3 e2 e3 hO3 k2 k3 r3 rn hF HF hc
  go_wp2_with fail
  go_loopw [4, 5] (fun v i wr => ∃ k : Nat, k ≤ n ∧ i = .int .i64 (k : Int) ∧ Hid (Own wr 3 1 (Fresh w3) v ((List.range k).filter fun a => decide (0 ≤ F.getD a (-1))).length (ivs (nz ((List.range k).filter fun a => decide (0 ≤ F.getD a (-1))))) ∧ Keep NoB w3 wr)) (fun _ i _ => n - (intOf i).toNat)
  case atStart => exact ⟨0, Nat.zero_le _, rfl, Own.nil _ _ _ _, Keep.refl _ _⟩
  case round =>
   obtain ⟨k, hk, rfl, HI⟩ := hrel
   obtain ⟨hO, hK⟩ := HI.out
   by_cases hlt : k < n
   ·obtain ⟨z, hz⟩ : ∃ z, F[k]? = some z := ⟨_, List.getElem?_eq_getElem (by rw [HFl.out]; exact hlt)⟩
    have cz := HCs.out wr hK k z hz
    have hg : F.getD k (-1) = z := by rw [List.getD_eq_getElem?_getD, hz]; rfl
    have hnx : ((List.range (k + 1)).filter fun a => decide (0 ≤ F.getD a (-1))) = ((List.range k).filter fun a => decide (0 ≤ F.getD a (-1))) ++ (if decide (0 ≤ z) = true then [k] else []) := by
     rw [List.range_succ, filter_next, hg]
    have hll : ((List.range k).filter fun a => decide (0 ≤ F.getD a (-1))).length ≤ n := Nat.le_trans (List.length_filter_le _ _) (by rw [List.length_range]; exact hk)
    generalize hL2e : ((List.range (k + 1)).filter fun a => decide (0 ≤ F.getD a (-1))) = L2 at hnx
    have HE2 := Lib.hid hL2e
    have hLz : (nz L2) = nz ((List.range k).filter fun a => decide (0 ≤ F.getD a (-1))) ++ (if decide (0 ≤ z) = true then [(k : Int)] else []) := by
     rw [hnx, nz, List.map_append]
     split <;> rfl
    have hL2 : L2.length = ((List.range k).filter fun a => decide (0 ≤ F.getD a (-1))).length + (if decide (0 ≤ z) = true then 1 else 0) := by
     rw [hnx, List.length_append]
     split <;> rfl
    clear hz hg
    generalize ((List.range k).filter fun a => decide (0 ≤ F.getD a (-1))) = L at hO hnx hll hLz hL2 HI
    by_cases hz0 : 0 ≤ z
    ·rw [if_pos (decide_eq_true hz0)] at hLz hL2
     obtain ⟨v', W', hap, hO', _, hk'⟩ := push_any hO hK (k : Int) (by omega)
     have HN : Hid (Own W' 3 1 (Fresh w3) v' L2.length (ivs (nz L2)) ∧ Keep NoB w3 W') := ⟨by rw [hLz, hL2, ivs, List.map_append]; exact hO', hk'⟩
     clear hO hK HI hO' hk' hLz hL2 hnx hL2e
     go_wp2_with (at_builtin; refine wpList_append_run _ rfl _ _ 23 rfl _ _ v' W' rfl rfl hap ?_)
     go_roundw
     case rel => exact ⟨k + 1, by omega, by go_num, by rw [HE2.out]; exact HN⟩
     case measure => simp [intOf]; omega
    ·rw [if_neg (by simpa using hz0), List.append_nil] at hnx
     have HN := HI
     clear hO hK HI hLz hL2 hL2e
     go_wp2
     go_roundw
     case rel => exact ⟨k + 1, by omega, by go_num, by rw [HE2.out, hnx]; exact HN⟩
     case measure => simp [intOf]; omega
   ·obtain rfl : k = n := by omega
    rw [← HRe.out] at hO
    have HX := Lib.hid (And.intro hO hK)
    obtain ⟨B, cB, rfl⟩ := own_form hO.1
    clear hO hK HI
    go_wp2_with fail
    go_ret
    obtain ⟨hO, hK⟩ := HX.out
    obtain ⟨A5, c5, he5, _, _, hrd, _⟩ := hO.form
    injection he5 with e1 e2 e3
    subst e1
    exact ⟨B, cB, rfl, hrd, keepN HK3.out hK⟩
end Go.Proofs.YtghdibbooegocaaGreatDoor.G

namespace Go.Proofs.YtghdibbooegocaaGreatDoor.G
open Go.RowKit W

theorem cont_none {l : List C.I3} {a0 : Int} (h : atN l a0 = none) : (nz (reachL l)).contains a0 = false := by
 rw [Bool.eq_false_iff]
 intro hc
 rw [List.contains_iff_mem, List.mem_map] at hc
 obtain ⟨x, hx, e⟩ := hc
 exact atN_none h ⟨x, hx, e⟩
theorem reach_ok {l : List C.I3} {x : Nat} (h : x ∈ reachL l) : C.okB l = true := nB_pos (by have := reach_nB h; omega)

set_option maxRecDepth 100000 in
set_option maxHeartbeats 8000000 in
theorem rAhead_any (A : Option Addr) (l : List C.I3) (n c : Nat) (a0 : Int) (w : World) (hr : Rd w A (C.iis l)) (hn : Hid (l.length = n)) (hI : Hid (C.AllI l)) (hm : n ≤ 9223372036854775807) :
  Calls Tryz.prog 11 #[.slice A n c, .int .i64 a0] w (TupR w (aheadI l a0) (errI l a0)) := by
 have HRe := Lib.hid (rReached_any A l n c w hr hn hI hm)
 have HRd := Lib.hid (fun W (k : Keep NoB w W) => hr.keepN k)
 clear hr
 go_enter Tryz.func11, Tryz.ntmps11
 go_wp2_with fail
 refine HRe.out.mono ?_
 rintro e w1 ⟨B1, c1, rfl, r1, k1⟩
 have HH := Lib.hid (rhas_any B1 c1 (reachL l) a0 w1 r1 (by have := reach_len l; omega))
 have hrb := reach_len l
 obtain ⟨re, hre⟩ : ∃ re, (reachL l).length = re := ⟨_, rfl⟩
 have HRl := Lib.hid hre
 rw [hre] at HH hrb
 rw [hre]
 have HK1 := Lib.hid k1
 have HR1 := Lib.hid (fun W (k : Keep NoB w1 W) => r1.keepN k)
 clear HRe hre r1 k1
 cases hat : atN l a0 with
 | none =>
  rw [cont_none hat] at HH
  have HE : Hid (aheadI l a0 = [] ∧ errI l a0 = 110) := ⟨by unfold aheadI; rw [hat], by unfold errI; rw [hat]; rfl⟩
  clear hat
  go_wp2_with fail
  refine HH.out.mono ?_
  rintro e w2 ⟨rfl, rfl⟩
  go_wp2
  go_ret2
  rw [HE.out.1, HE.out.2]
  exact ⟨none, 0, rfl, Rd.none_ _ _, HK1.out⟩
 | some a =>
  obtain ⟨rfl, har⟩ := atN_some hat
  rw [contains_dec, decide_eq_true har] at HH
  have HE : Hid (aheadI l (a : Int) = aheadL l a ∧ errI l (a : Int) = 0) := ⟨by unfold aheadI; rw [hat], by unfold errI; rw [hat]; rfl⟩
  have ho := reach_ok har
  have hn5 : n ≤ 512 := by rw [← hn.out]; exact (C.okB_parts ho).2.1
  have han : a < n := by rw [← hn.out]; exact reach_lt ho har
  have HO := Lib.hid ho
  have HAr := Lib.hid har
  clear hat har ho
  go_wp2_with fail
  refine HH.out.mono ?_
  rintro e w2 ⟨rfl, rfl⟩
  clear HH
  go_wp2_with fail
  go_loopw [8, 9] (fun v i wr => ∃ k : Nat, k ≤ re ∧ i = .int .i64 (k : Int) ∧ Hid (Own wr 3 1 (Fresh w2) v (((reachL l).take k).filter fun (x : Nat) => decide (a ∈ stepsG l x)).length (ivs (nz (((reachL l).take k).filter fun (x : Nat) => decide (a ∈ stepsG l x)))) ∧ Keep NoB w2 wr)) (fun _ i _ => re - (intOf i).toNat)
  case atStart => exact ⟨0, Nat.zero_le _, rfl, Own.nil _ _ _ _, Keep.refl _ _⟩
  case round =>
   obtain ⟨k, hk, rfl, HI2⟩ := hrel
   obtain ⟨hO, hK⟩ := HI2.out
   by_cases hlt : k < re
   ·have hkl : k < (reachL l).length := by rw [HRl.out]; exact hlt
    obtain ⟨g, o, rfl, hc⟩ := rd_steps (HR1.out w2 (Keep.refl _ _)) (by omega)
    have hz := List.getElem?_eq_getElem hkl
    have HCz := Lib.hid (fun W (k : Keep NoB w2 W) => k.cell (hc _ _ hz) id)
    have hnx := take_filter (P := fun (x : Nat) => decide (a ∈ stepsG l x)) hkl
    have hll : (((reachL l).take k).filter fun (x : Nat) => decide (a ∈ stepsG l x)).length ≤ 1000 := filt_len (reach_len l)
    have hxr : (reachL l)[k] ∈ reachL l := List.getElem_mem hkl
    generalize (reachL l)[k] = x at hxr hnx HCz
    generalize hL2e : (((reachL l).take (k + 1)).filter fun (x : Nat) => decide (a ∈ stepsG l x)) = L2 at hnx
    have HE2 := Lib.hid hL2e
    generalize (((reachL l).take k).filter fun (x : Nat) => decide (a ∈ stepsG l x)) = L at hO hnx hll HI2
    try dsimp only at hnx
    have HXr := Lib.hid hxr
    have hox := reach_ok hxr
    have hn5x : n ≤ 512 := by rw [← hn.out]; exact (C.okB_parts hox).2.1
    have hxn : x < n := by rw [← hn.out]; exact reach_lt hox hxr
    have cz := HCz.out wr hK
    clear hz hc hkl hL2e hxr
    have HSt := Lib.hid (rsteps_any A l n c wr (HRd.out _ (keepN HK1.out hK)) hn hI x hxn (by omega))
    go_wp2_with fail
    refine HSt.out.mono ?_
    rintro e w6 ⟨B6, c6, rfl, r6, _, k6⟩
    have hK6 := keepN hK k6
    have hO6 := hO.keepN k6
    have HHs := Lib.hid (rhas_any B6 c6 (stepsG l x) (a : Int) w6 r6 (by have := nB_len (l := l) x (reach_nB HXr.out); omega))
    rw [contains_dec] at HHs
    clear HSt r6 k6 cz
    have cz6 := HCz.out w6 hK6
    cases pz : decide (a ∈ stepsG l x) with
    | true =>
     rw [if_pos pz] at hnx
     obtain ⟨v', W', hap, hO', _, hk'⟩ := push_any hO6 hK6 (x : Int) (by omega)
     have HN : Hid (Own W' 3 1 (Fresh w2) v' L2.length (ivs (nz L2)) ∧ Keep NoB w2 W') := by
      refine ⟨?_, hk'⟩
      rw [hnx, List.length_append, List.length_singleton, nz, List.map_append, ivs, List.map_append]
      exact hO'
     clear hO hK HI2 hO6 hK6 hO' hk' hnx
     rw [pz] at HHs
     clear pz
     go_wp2_with fail
     refine HHs.out.mono ?_
     rintro e w7 ⟨rfl, rfl⟩
     go_wp2_with (at_builtin; refine wpList_append_run _ rfl _ _ 23 rfl _ _ v' W' rfl rfl hap ?_)
     go_roundw
     case rel => exact ⟨k + 1, by omega, by go_num, by rw [HE2.out]; exact HN⟩
     case measure => simp [intOf]; omega
    | false =>
     rw [if_neg (by rw [pz]; decide), List.append_nil] at hnx
     have HN : Hid (Own w6 3 1 (Fresh w2) u8 L.length (ivs (nz L)) ∧ Keep NoB w2 w6) := ⟨hO6, hK6⟩
     clear hO hK HI2 hO6 hK6
     rw [pz] at HHs
     clear pz
     go_wp2_with fail
     refine HHs.out.mono ?_
     rintro e w7 ⟨rfl, rfl⟩
     go_wp2_with fail
     go_roundw
     case rel => exact ⟨k + 1, by omega, by go_num, by rw [HE2.out, hnx]; exact HN⟩
     case measure => simp [intOf]; omega
   ·obtain rfl : k = re := by omega
    rw [← HRl.out, List.take_length] at hO
    have HX := Lib.hid (And.intro hO hK)
    obtain ⟨B, cB, rfl⟩ := own_form hO.1
    clear hO hK HI2
    go_wp2_with fail
    go_ret2
    obtain ⟨hO, hK⟩ := HX.out
    obtain ⟨A5, c5, he5, _, _, hrd, _⟩ := hO.form
    injection he5 with e1 e2 e3
    subst e1
    rw [HE.out.1, HE.out.2]
    exact ⟨B, cB, rfl, hrd, keepN HK1.out hK⟩

set_option maxRecDepth 100000 in
set_option maxHeartbeats 8000000 in
theorem rDistance_any (A : Option Addr) (l : List C.I3) (n c : Nat) (a0 : Int) (w : World) (hr : Rd w A (C.iis l)) (hn : Hid (l.length = n)) (hI : Hid (C.AllI l)) (hm : n ≤ 9223372036854775807) :
  Calls Tryz.prog 13 #[.slice A n c, .int .i64 a0] w fun e w' => e = .returned (.tuple #[.int .i64 (distI l a0), .int .i64 (errI l a0)]) ∧ Keep NoB w w' := by
 have HRe := Lib.hid (rReached_any A l n c w hr hn hI hm)
 have HRd := Lib.hid (fun W (k : Keep NoB w W) => hr.keepN k)
 clear hr
 go_enter Tryz.func13, Tryz.ntmps13
 go_wp2_with fail
 refine HRe.out.mono ?_
 rintro e w1 ⟨B1, c1, rfl, r1, k1⟩
 have HH := Lib.hid (rhas_any B1 c1 (reachL l) a0 w1 r1 (by have := reach_len l; omega))
 have hrb := reach_len l
 obtain ⟨re, hre⟩ : ∃ re, (reachL l).length = re := ⟨_, rfl⟩
 have HRl := Lib.hid hre
 rw [hre] at HH hrb
 rw [hre]
 have HK1 := Lib.hid k1
 have HR1 := Lib.hid (fun W (k : Keep NoB w1 W) => r1.keepN k)
 clear HRe hre r1 k1
 cases hat : atN l a0 with
 | none =>
  rw [cont_none hat] at HH
  have HE : Hid (distI l a0 = 0 ∧ errI l a0 = 110) := ⟨by unfold distI; rw [hat], by unfold errI; rw [hat]; rfl⟩
  clear hat
  go_wp2_with fail
  refine HH.out.mono ?_
  rintro e w2 ⟨rfl, rfl⟩
  go_wp2
  go_ret2
  rw [HE.out.1, HE.out.2]
  exact ⟨rfl, HK1.out⟩
 | some a =>
  obtain ⟨rfl, har⟩ := atN_some hat
  rw [contains_dec, decide_eq_true har] at HH
  have HE : Hid (distI l (a : Int) = distL l a ∧ errI l (a : Int) = 0) := ⟨by unfold distI; rw [hat], by unfold errI; rw [hat]; rfl⟩
  have ho := reach_ok har
  have hn5 : n ≤ 512 := by rw [← hn.out]; exact (C.okB_parts ho).2.1
  have han : a < n := by rw [← hn.out]; exact reach_lt ho har
  have HO := Lib.hid ho
  have HAr := Lib.hid har
  clear hat har ho
  go_wp2_with fail
  refine HH.out.mono ?_
  rintro e w2 ⟨rfl, rfl⟩
  clear HH
  have ka := (Keep.refl NoB w2).alloc (.cells #[.int .i64 0] 3)
  have rn : Rd (w2.alloc (.cells #[.int .i64 0] 3)) (some ⟨w2.heap.size, 0, none⟩) (ivs (nz [0])) := W.rd_made rfl rfl
  have k2 := keepN HK1.out ka
  have HFa := Lib.hid (rFar_any A l n c _ [0] 1 1 (-1) _ (HRd.out _ k2) hn hI HO rn rfl (by decide) (by intro x hx; rw [List.mem_singleton] at hx; omega))
  clear ka rn
  go_wp2_with fail
  refine HFa.out.mono ?_
  rintro e w3 ⟨B, cB, rfl, hO3, k3⟩
  obtain ⟨A3, c3, hv3, hy1, hy2, r3, hy3⟩ := hO3.form
  injection hv3 with e1 e2 e3
  subst e1
  have HK3 := Lib.hid (keepN k2 k3)
  have hFl : (farB l (-1) [0]).length = n := by
   have h := far_len (succ := stepsG l) (w := -1) (n := l.length) (src := [0]) (zero_src HO.out) (steps_lt HO.out)
   rw [← hn.out]
   exact h
  obtain ⟨g, o, rfl, hc⟩ := rd_ints r3 (by omega)
  have hz := List.getElem?_eq_getElem (l := farB l (-1) [0]) (i := a) (by omega)
  have cz := hc a _ hz
  have hd : distL l a = (farB l (-1) [0])[a]'(by omega) := by
   unfold distL
   rw [List.getD_eq_getElem?_getD, hz]
   rfl
  rw [hd] at HE
  generalize (farB l (-1) [0])[a]'(by omega) = z at cz HE
  clear hy1 hy2 hy3 e2 e3 hO3 k2 k3 r3 hc hz hd hFl HFa
  go_wp2
  go_ret2
  rw [HE.out.1, HE.out.2]
  exact ⟨rfl, HK3.out⟩

set_option maxRecDepth 100000 in
set_option maxHeartbeats 8000000 in
theorem rMust_any (A : Option Addr) (l : List C.I3) (n c : Nat) (a0 : Int) (w : World) (hr : Rd w A (C.iis l)) (hn : Hid (l.length = n)) (hI : Hid (C.AllI l)) (hm : n ≤ 9223372036854775807) :
  Calls Tryz.prog 15 #[.slice A n c, .int .i64 a0] w (TupR w (mustI l a0) (errI l a0)) := by
 have HRe := Lib.hid (rReached_any A l n c w hr hn hI hm)
 have HRd := Lib.hid (fun W (k : Keep NoB w W) => hr.keepN k)
 clear hr
 go_enter Tryz.func15, Tryz.ntmps15
 go_wp2_with fail
 refine HRe.out.mono ?_
 rintro e w1 ⟨B1, c1, rfl, r1, k1⟩
 have HH := Lib.hid (rhas_any B1 c1 (reachL l) a0 w1 r1 (by have := reach_len l; omega))
 have hrb := reach_len l
 obtain ⟨re, hre⟩ : ∃ re, (reachL l).length = re := ⟨_, rfl⟩
 have HRl := Lib.hid hre
 rw [hre] at HH hrb
 rw [hre]
 have HK1 := Lib.hid k1
 have HR1 := Lib.hid (fun W (k : Keep NoB w1 W) => r1.keepN k)
 clear HRe hre r1 k1
 cases hat : atN l a0 with
 | none =>
  rw [cont_none hat] at HH
  have HE : Hid (mustI l a0 = [] ∧ errI l a0 = 110) := ⟨by unfold mustI; rw [hat], by unfold errI; rw [hat]; rfl⟩
  clear hat
  go_wp2_with fail
  refine HH.out.mono ?_
  rintro e w2 ⟨rfl, rfl⟩
  go_wp2
  go_ret2
  rw [HE.out.1, HE.out.2]
  exact ⟨none, 0, rfl, Rd.none_ _ _, HK1.out⟩
 | some a =>
  obtain ⟨rfl, har⟩ := atN_some hat
  rw [contains_dec, decide_eq_true har] at HH
  have HE : Hid (mustI l (a : Int) = mustL l a ∧ errI l (a : Int) = 0) := ⟨by unfold mustI; rw [hat], by unfold errI; rw [hat]; rfl⟩
  have ho := reach_ok har
  have hn5 : n ≤ 512 := by rw [← hn.out]; exact (C.okB_parts ho).2.1
  have han : a < n := by rw [← hn.out]; exact reach_lt ho har
  have HO := Lib.hid ho
  have HAr := Lib.hid har
  clear hat har ho
  go_wp2_with fail
  refine HH.out.mono ?_
  rintro e w2 ⟨rfl, rfl⟩
  clear HH
  go_wp2_with fail
  go_loopw [8, 9] (fun v i wr => ∃ k : Nat, k ≤ re ∧ i = .int .i64 (k : Int) ∧ Hid (Own wr 3 1 (Fresh w2) v (((reachL l).take k).filter fun (x : Nat) => decide ((farB l (x : Int) [0]).getD a (-1) < 0)).length (ivs (nz (((reachL l).take k).filter fun (x : Nat) => decide ((farB l (x : Int) [0]).getD a (-1) < 0)))) ∧ Keep NoB w2 wr)) (fun _ i _ => re - (intOf i).toNat)
  case atStart => exact ⟨0, Nat.zero_le _, rfl, Own.nil _ _ _ _, Keep.refl _ _⟩
  case round =>
   obtain ⟨k, hk, rfl, HI2⟩ := hrel
   obtain ⟨hO, hK⟩ := HI2.out
   by_cases hlt : k < re
   ·have hkl : k < (reachL l).length := by rw [HRl.out]; exact hlt
    obtain ⟨g, o, rfl, hc⟩ := rd_steps (HR1.out w2 (Keep.refl _ _)) (by omega)
    have hz := List.getElem?_eq_getElem hkl
    have HCz := Lib.hid (fun W (k : Keep NoB w2 W) => k.cell (hc _ _ hz) id)
    have hnx := take_filter (P := fun (x : Nat) => decide ((farB l (x : Int) [0]).getD a (-1) < 0)) hkl
    have hll : (((reachL l).take k).filter fun (x : Nat) => decide ((farB l (x : Int) [0]).getD a (-1) < 0)).length ≤ 1000 := filt_len (reach_len l)
    have hxr : (reachL l)[k] ∈ reachL l := List.getElem_mem hkl
    generalize (reachL l)[k] = x at hxr hnx HCz
    generalize hL2e : (((reachL l).take (k + 1)).filter fun (x : Nat) => decide ((farB l (x : Int) [0]).getD a (-1) < 0)) = L2 at hnx
    have HE2 := Lib.hid hL2e
    generalize (((reachL l).take k).filter fun (x : Nat) => decide ((farB l (x : Int) [0]).getD a (-1) < 0)) = L at hO hnx hll HI2
    try dsimp only at hnx
    have HXr := Lib.hid hxr
    have hox := reach_ok hxr
    have hn5x : n ≤ 512 := by rw [← hn.out]; exact (C.okB_parts hox).2.1
    have hxn : x < n := by rw [← hn.out]; exact reach_lt hox hxr
    have cz := HCz.out wr hK
    clear hz hc hkl hL2e hxr
    have ka := (Keep.refl NoB wr).alloc (.cells #[.int .i64 0] 3)
    have rn : Rd (wr.alloc (.cells #[.int .i64 0] 3)) (some ⟨wr.heap.size, 0, none⟩) (ivs (nz [0])) := W.rd_made rfl rfl
    have k2 := keepN hK ka
    have HFa := Lib.hid (rFar_any A l n c _ [0] 1 1 (x : Int) _ (HRd.out _ (keepN HK1.out k2)) hn hI HO rn rfl (by decide) (by intro x hx; rw [List.mem_singleton] at hx; omega))
    have hO2 := hO.keepN ka
    have cza := HCz.out _ k2
    clear ka rn cz
    go_wp2_with fail
    refine HFa.out.mono ?_
    rintro e w6 ⟨B, cB, rfl, hO3, k3⟩
    obtain ⟨A3, c3, hv3, hy1, hy2, r3, hy3⟩ := hO3.form
    injection hv3 with e1 e2 e3
    subst e1
    have hK6 := keepN k2 k3
    have hO6 := hO2.keepN k3
    have hFl : (farB l (x : Int) [0]).length = n := by
     have h := far_len (succ := stepsG l) (w := (x : Int)) (n := l.length) (src := [0]) (zero_src HO.out) (steps_lt HO.out)
     rw [← hn.out]
     exact h
    obtain ⟨gf, of, rfl, hcf⟩ := rd_ints r3 (by omega)
    have hz := List.getElem?_eq_getElem (l := farB l (x : Int) [0]) (i := a) (by omega)
    have czf := hcf a _ hz
    have hd : (farB l (x : Int) [0]).getD a (-1) = (farB l (x : Int) [0])[a]'(by omega) := by
     rw [List.getD_eq_getElem?_getD, hz]
     rfl
    rw [hd] at hnx
    generalize (farB l (x : Int) [0])[a]'(by omega) = z at czf hnx
    clear hy1 hy2 hy3 e2 e3 hO3 k2 k3 r3 hcf hz hd hFl HFa hO2 cza
    have cz6 := HCz.out w6 hK6
    cases pz : decide (z < 0) with
    | true =>
     rw [if_pos pz] at hnx
     obtain ⟨v', W', hap, hO', _, hk'⟩ := push_any hO6 hK6 (x : Int) (by omega)
     have HN : Hid (Own W' 3 1 (Fresh w2) v' L2.length (ivs (nz L2)) ∧ Keep NoB w2 W') := by
      refine ⟨?_, hk'⟩
      rw [hnx, List.length_append, List.length_singleton, nz, List.map_append, ivs, List.map_append]
      exact hO'
     clear hO hK HI2 hO6 hK6 hO' hk' hnx
     have hz0 : z < 0 := of_decide_eq_true pz
     clear pz
     go_wp2_with (at_builtin; refine wpList_append_run _ rfl _ _ 23 rfl _ _ v' W' rfl rfl hap ?_)
     go_roundw
     case rel => exact ⟨k + 1, by omega, by go_num, by rw [HE2.out]; exact HN⟩
     case measure => simp [intOf]; omega
    | false =>
     rw [if_neg (by rw [pz]; decide), List.append_nil] at hnx
     have HN : Hid (Own w6 3 1 (Fresh w2) u8 L.length (ivs (nz L)) ∧ Keep NoB w2 w6) := ⟨hO6, hK6⟩
     clear hO hK HI2 hO6 hK6
     have hz0 : ¬ z < 0 := of_decide_eq_false pz
     clear pz
     go_wp2_with fail
     go_roundw
     case rel => exact ⟨k + 1, by omega, by go_num, by rw [HE2.out, hnx]; exact HN⟩
     case measure => simp [intOf]; omega
   ·obtain rfl : k = re := by omega
    rw [← HRl.out, List.take_length] at hO
    have HX := Lib.hid (And.intro hO hK)
    obtain ⟨B, cB, rfl⟩ := own_form hO.1
    clear hO hK HI2
    go_wp2_with fail
    go_ret2
    obtain ⟨hO, hK⟩ := HX.out
    obtain ⟨A5, c5, he5, _, _, hrd, _⟩ := hO.form
    injection he5 with e1 e2 e3
    subst e1
    rw [HE.out.1, HE.out.2]
    exact ⟨B, cB, rfl, hrd, keepN HK1.out hK⟩

set_option maxRecDepth 100000 in
set_option maxHeartbeats 8000000 in
theorem rMeets_any (A : Option Addr) (l : List C.I3) (n c : Nat) (w : World) (hr : Rd w A (C.iis l)) (hn : Hid (l.length = n)) (hI : Hid (C.AllI l)) (hm : n ≤ 9223372036854775807) :
  Calls Tryz.prog 20 #[.slice A n c] w (LisR w (meetL l)) := by
 have HRe := Lib.hid (rReached_any A l n c w hr hn hI hm)
 have HRd := Lib.hid (fun W (k : Keep NoB w W) => hr.keepN k)
 clear hr
 go_enter Tryz.func20, Tryz.ntmps20
 go_wp2_with fail
 refine HRe.out.mono ?_
 rintro e w1 ⟨B1, c1, rfl, r1, k1⟩
 have hrb := reach_len l
 obtain ⟨re, hre⟩ : ∃ re, (reachL l).length = re := ⟨_, rfl⟩
 have HRl := Lib.hid hre
 rw [hre] at hrb
 rw [hre]
 have HK1 := Lib.hid k1
 have HR1 := Lib.hid (fun W (k : Keep NoB w1 W) => r1.keepN k)
 clear HRe hre r1 k1
 go_wp2_with fail
 go_loopw [4, 5] (fun v i wr => ∃ k : Nat, k ≤ re ∧ i = .int .i64 (k : Int) ∧ Hid (Own wr 3 1 (Fresh w1) v (((reachL l).take k).filter fun (x : Nat) => decide (1 < (aheadL l x).length ∨ ((aheadL l x).length = 1 ∧ x = 0))).length (ivs (nz (((reachL l).take k).filter fun (x : Nat) => decide (1 < (aheadL l x).length ∨ ((aheadL l x).length = 1 ∧ x = 0))))) ∧ Keep NoB w1 wr)) (fun _ i _ => re - (intOf i).toNat)
 case atStart => exact ⟨0, Nat.zero_le _, rfl, Own.nil _ _ _ _, Keep.refl _ _⟩
 case round =>
  obtain ⟨k, hk, rfl, HI2⟩ := hrel
  obtain ⟨hO, hK⟩ := HI2.out
  by_cases hlt : k < re
  ·have hkl : k < (reachL l).length := by rw [HRl.out]; exact hlt
   obtain ⟨g, o, rfl, hc⟩ := rd_steps (HR1.out w1 (Keep.refl _ _)) (by omega)
   have hz := List.getElem?_eq_getElem hkl
   have HCz := Lib.hid (fun W (k : Keep NoB w1 W) => k.cell (hc _ _ hz) id)
   have hnx := take_filter (P := fun (x : Nat) => decide (1 < (aheadL l x).length ∨ ((aheadL l x).length = 1 ∧ x = 0))) hkl
   have hll : (((reachL l).take k).filter fun (x : Nat) => decide (1 < (aheadL l x).length ∨ ((aheadL l x).length = 1 ∧ x = 0))).length ≤ 1000 := filt_len (reach_len l)
   have hxr : (reachL l)[k] ∈ reachL l := List.getElem_mem hkl
   generalize (reachL l)[k] = x at hxr hnx HCz
   generalize hL2e : (((reachL l).take (k + 1)).filter fun (x : Nat) => decide (1 < (aheadL l x).length ∨ ((aheadL l x).length = 1 ∧ x = 0))) = L2 at hnx
   have HE2 := Lib.hid hL2e
   generalize (((reachL l).take k).filter fun (x : Nat) => decide (1 < (aheadL l x).length ∨ ((aheadL l x).length = 1 ∧ x = 0))) = L at hO hnx hll HI2
   try dsimp only at hnx
   have HXr := Lib.hid hxr
   have hox := reach_ok hxr
   have hn5x : n ≤ 512 := by rw [← hn.out]; exact (C.okB_parts hox).2.1
   have hxn : x < n := by rw [← hn.out]; exact reach_lt hox hxr
   have cz := HCz.out wr hK
   clear hz hc hkl hL2e hxr
   have HAh := Lib.hid (rAhead_any A l n c (x : Int) wr (HRd.out _ (keepN HK1.out hK)) hn hI hm)
   rw [show aheadI l (x : Int) = aheadL l x by (unfold aheadI; rw [atN_of HXr.out]), errI_eq, if_pos HXr.out] at HAh
   obtain ⟨la, hla⟩ : ∃ la, (aheadL l x).length = la := ⟨_, rfl⟩
   have HLa := Lib.hid hla
   rw [hla] at hnx
   clear hla
   go_wp2_with fail
   refine HAh.out.mono ?_
   rintro e w6 ⟨B6, c6, rfl, r6, k6⟩
   rw [HLa.out]
   have hK6 := keepN hK k6
   have hO6 := hO.keepN k6
   clear HAh r6 k6 cz
   have cz6 := HCz.out w6 hK6
   cases pz : decide (1 < la ∨ (la = 1 ∧ x = 0)) with
   | true =>
    rw [if_pos pz] at hnx
    obtain ⟨v', W', hap, hO', _, hk'⟩ := push_any hO6 hK6 (x : Int) (by omega)
    have HN : Hid (Own W' 3 1 (Fresh w1) v' L2.length (ivs (nz L2)) ∧ Keep NoB w1 W') := by
     refine ⟨?_, hk'⟩
     rw [hnx, List.length_append, List.length_singleton, nz, List.map_append, ivs, List.map_append]
     exact hO'
    have hpz := of_decide_eq_true pz
    clear pz
    by_cases c1 : 1 < la
    ·have q1 : (1 : Int) < (la : Int) := by omega
     clear hO hK HI2 hO6 hK6 hO' hk' hnx
     go_wp2_with (at_builtin; refine wpList_append_run _ rfl _ _ 23 rfl _ _ v' W' rfl rfl hap ?_)
     go_roundw
     case rel => exact ⟨k + 1, by omega, by go_num, by rw [HE2.out]; exact HN⟩
     case measure => simp [intOf]; omega
    ·have q1 : ¬ (1 : Int) < (la : Int) := by omega
     have q2 : (la : Int) = 1 := by omega
     have q3 : (x : Int) = 0 := by omega
     rw [q3] at hap
     clear hO hK HI2 hO6 hK6 hO' hk' hnx
     go_wp2_with (at_builtin; refine wpList_append_run _ rfl _ _ 23 rfl _ _ v' W' rfl rfl hap ?_)
     go_roundw
     case rel => exact ⟨k + 1, by omega, by go_num, by rw [HE2.out]; exact HN⟩
     case measure => simp [intOf]; omega
   | false =>
    rw [if_neg (by rw [pz]; decide), List.append_nil] at hnx
    have HN : Hid (Own w6 3 1 (Fresh w1) u4 L.length (ivs (nz L)) ∧ Keep NoB w1 w6) := ⟨hO6, hK6⟩
    clear hO hK HI2 hO6 hK6
    have hpz := of_decide_eq_false pz
    clear pz
    have q1 : ¬ (1 : Int) < (la : Int) := by omega
    by_cases c2 : la = 1
    ·have q2 : (la : Int) = 1 := by omega
     have q3 : ¬ (x : Int) = 0 := by omega
     go_wp2_with fail
     go_roundw
     case rel => exact ⟨k + 1, by omega, by go_num, by rw [HE2.out, hnx]; exact HN⟩
     case measure => simp [intOf]; omega
    have q2 : ¬ (la : Int) = 1 := by omega
    go_wp2_with fail
    go_roundw
    case rel => exact ⟨k + 1, by omega, by go_num, by rw [HE2.out, hnx]; exact HN⟩
    case measure => simp [intOf]; omega
  ·obtain rfl : k = re := by omega
   rw [← HRl.out, List.take_length] at hO
   have HX := Lib.hid (And.intro hO hK)
   obtain ⟨B, cB, rfl⟩ := own_form hO.1
   clear hO hK HI2
   go_wp2_with fail
   go_ret
   obtain ⟨hO, hK⟩ := HX.out
   obtain ⟨A5, c5, he5, _, _, hrd, _⟩ := hO.form
   injection he5 with e1 e2 e3
   subst e1
   exact ⟨B, cB, rfl, hrd, keepN HK1.out hK⟩
end Go.Proofs.YtghdibbooegocaaGreatDoor.G

namespace Go.Proofs.YtghdibbooegocaaGreatDoor
open Go.RowKit
section
variable {P : Program} {md : Region.Mode} {ops : Array Oper}

end
end Go.Proofs.YtghdibbooegocaaGreatDoor

namespace Go.Proofs.YtghdibbooegocaaGreatDoor
open Go.RowKit
section
variable {P : Program} {md : Region.Mode} {ops : Array Oper}

theorem yieldsR_mono {R R' : Value → World → Prop} (h : ∀ u w, R u w → R' u w) : ∀ (P : Program) (r : Result Next), yieldsR R P r → yieldsR R' P r := by
 intro P r hr
 cases r with
 | ok n w =>
  cases n with
  | value u => exact h _ _ hr
  | skip => exact h _ _ hr
  | enter f args => exact Calls.mono hr fun e w'' ⟨u, e1, h2⟩ => ⟨u, e1, h _ _ h2⟩
  | _ => exact hr.elim
 | _ => exact hr.elim
def Does (P : Program) (ops : Array Oper) (o : Oper) (a : Act) (w : World) (R : Value → World → Prop) : Prop :=
 (Region.wanted o (yielded ops a.tmps) = true ∧ yieldsK P o a w R) ∨ (Region.wanted o (yielded ops a.tmps) = false ∧ R undef w)
theorem Does.plain {o : Oper} {a : Act} {w : World} {R : Value → World → Prop} (hg : o.guard = none) (h : yieldsK P o a w R) : Does P ops o a w R := .inl ⟨by unfold Region.wanted; rw [hg], h⟩
end
end Go.Proofs.YtghdibbooegocaaGreatDoor

namespace Go.Proofs.YtghdibbooegocaaGreatDoor
open Go.RowKit
section
variable {P : Program} {md : Region.Mode} {ops : Array Oper}

def lateG (md : Region.Mode) (ops : Array Oper) (c : Nat) (late : Nat → Bool) : Bool := (List.range ops.size).all fun i => match ops[i]? with
 | none => false
 | some o => !late i || (i == c || o.after.any fun e => Region.binds md e && (e.on == c || late e.on))
theorem lateG_at {c : Nat} {late : Nat → Bool} (h : lateG md ops c late = true) {i : Nat} {o : Oper} (ho : ops[i]? = some o) (hl : late i = true) (hc : i ≠ c) : ∃ e ∈ o.after, Region.binds md e = true ∧ (e.on = c ∨ late e.on = true) := by
 have hi := (Array.getElem?_eq_some_iff.1 ho).1
 have h1 := List.all_eq_true.1 h i (List.mem_range.2 hi)
 simp only [ho, hl, Bool.not_true, Bool.false_or, Bool.or_eq_true, beq_iff_eq] at h1
 rcases h1 with h1 | h1
 ·exact absurd h1 hc
 ·obtain ⟨j, hj, h2⟩ := Array.any_eq_true.1 h1
  simp only [Bool.and_eq_true, Bool.or_eq_true, beq_iff_eq] at h2
  exact ⟨o.after[j], Array.getElem_mem hj, h2.1, h2.2⟩

end
end Go.Proofs.YtghdibbooegocaaGreatDoor

namespace Go.Proofs.YtghdibbooegocaaGreatDoor
open Go.RowKit
section
variable {P : Program} {md : Region.Mode} {ops : Array Oper}

def FrameD (a0 : Act) (ds : Nat → Nat) (n : Nat) (a : Act) : Prop := a.defers = a0.defers ∧ a.tmps.size = a0.tmps.size ∧ ∀ s, (∀ i, i < n → s ≠ ds i) → a.tmps.getD s undef = a0.tmps.getD s undef
def fitsD (ops : Array Oper) (ds : Nat → Nat) (n : Nat) : Bool := (List.range ops.size).all fun i => ((ops[i]?).bind (·.dst)).isNone || decide (ds i < n)
theorem fitsD_at {ds : Nat → Nat} {n : Nat} (h : fitsD ops ds n = true) {i : Nat} {o : Oper} (ho : ops[i]? = some o) {d : Nat} (hd : o.dst = some d) : ds i < n := by
 have hi := (Array.getElem?_eq_some_iff.1 ho).1
 have h1 := List.all_eq_true.1 h i (List.mem_range.2 hi)
 simpa [ho, hd] using h1
def fillD (t : Array Value) : List (Nat × Value) → Array Value
 | [] => t
 | x :: vs => fillD (t.setIfInBounds x.1 x.2) vs
theorem fillD_size : ∀ (vs : List (Nat × Value)) (t : Array Value), (fillD t vs).size = t.size
 | [], _ => rfl
 | x :: vs, t => by rw [fillD, fillD_size vs]; simp
theorem fillD_get : ∀ (vs : List (Nat × Value)) (t u : Array Value) (s : Nat), t.size = u.size → (∀ x ∈ vs, x.2 = u.getD x.1 undef) → ((∃ x ∈ vs, x.1 = s) ∨ t.getD s undef = u.getD s undef) → (fillD t vs).getD s undef = u.getD s undef
 | [], _, _, _, _, _, h => by
  rcases h with ⟨x, hx, _⟩ | h
  ·cases hx
  ·exact h
 | x :: vs, t, u, s, hz, hv, h => by
  rw [fillD]
  refine fillD_get vs _ u s (by simpa using hz) (fun y hy => hv y (List.mem_cons_of_mem _ hy)) ?_
  by_cases e : x.1 = s
  ·refine .inr ?_
   have h1 := hv x List.mem_cons_self
   by_cases hs : s < t.size
   ·rw [h1, e]
    have hs2 : s < u.size := by omega
    simp [hs]
   ·have hs2 : ¬ s < u.size := by omega
    simp [hs, hs2]
  ·rcases h with ⟨y, hy, hye⟩ | h
   ·rcases List.mem_cons.1 hy with rfl | hy
    ·exact absurd hye e
    ·exact .inl ⟨y, hy, hye⟩
   ·refine .inr ?_
    simp only [Array.getD_eq_getD_getElem?, Array.getElem?_setIfInBounds] at h ⊢
    rw [if_neg e]; exact h
theorem frameD_fill {a0 a : Act} {ds : Nat → Nat} {n : Nat} (h : FrameD a0 ds n a) : a = { tmps := fillD a0.tmps ((List.range n).map fun i => (ds i, a.tmps.getD (ds i) undef)), defers := a0.defers } := by
 obtain ⟨h1, h2, h3⟩ := h
 have e : a.tmps = fillD a0.tmps ((List.range n).map fun i => (ds i, a.tmps.getD (ds i) undef)) := by
  apply Array.ext
  ·rw [fillD_size, h2]
  ·intro s hs1 hs2
   have := fillD_get ((List.range n).map fun i => (ds i, a.tmps.getD (ds i) undef)) a0.tmps a.tmps s h2.symm (fun x hx => by
    obtain ⟨i, _, rfl⟩ := List.mem_map.1 hx; rfl) (by
    by_cases hc : ∃ i, i < n ∧ ds i = s
    ·obtain ⟨i, hi, hie⟩ := hc
     exact .inl ⟨_, List.mem_map.2 ⟨i, List.mem_range.2 hi, rfl⟩, hie⟩
    ·exact .inr (h3 s (fun i hi e => hc ⟨i, hi, e.symm⟩)).symm)
   rw [Array.getD_eq_getD_getElem?, Array.getD_eq_getD_getElem?, Array.getElem?_eq_getElem hs2, Array.getElem?_eq_getElem hs1] at this
   simpa using this.symm
 cases a
 simp only at h1 e
 rw [h1, ← e]

theorem frameD_list {a0 a : Act} {l : List Nat} {n : Nat} (hn : n = l.length) (h : FrameD a0 (fun i => l.getD i 0) n a) : a = { tmps := fillD a0.tmps (l.map fun d => (d, a.tmps.getD d undef)), defers := a0.defers } := by
 subst hn
 have h1 := frameD_fill h
 have e : ((List.range l.length).map fun i => (l.getD i 0, a.tmps.getD (l.getD i 0) undef)) = l.map fun d => (d, a.tmps.getD d undef) := by
  apply List.ext_getElem?
  intro i
  by_cases hi : i < l.length
  ·rw [List.getElem?_map, List.getElem?_range hi, List.getElem?_map, List.getElem?_eq_getElem hi]
   simp [List.getD, List.getElem?_eq_getElem hi]
  ·rw [List.getElem?_eq_none (by simp; omega), List.getElem?_eq_none (by simp; omega)]
 rw [e] at h1
 exact h1

end
end Go.Proofs.YtghdibbooegocaaGreatDoor

namespace Go.Proofs.YtghdibbooegocaaGreatDoor
open Go.RowKit
section
variable {P : Program} {md : Region.Mode} {ops : Array Oper}

def propsD6 (md : Region.Mode) (ops : Array Oper) (ds : Nat → Nat) (c : Nat) : Bool := (List.range ops.size).all fun i => match ops[i]? with
 | none => false
 | some o => (match o.dst with
  | none => i == c
  | some d => d == ds i) && ((o.after.all fun e => !Region.binds md e || decide (e.on < i)) && (List.range ops.size).all fun j => i == j || !(ds i == ds j))
theorem propsD6_at {ds : Nat → Nat} {c : Nat} (h : propsD6 md ops ds c = true) {i : Nat} {o : Oper} (ho : ops[i]? = some o) : (o.dst = some (ds i) ∨ (o.dst = none ∧ i = c)) ∧ (∀ e ∈ o.after, Region.binds md e = true → e.on < i) ∧ ∀ j, j < ops.size → j ≠ i → ds j ≠ ds i := by
 have hi := (Array.getElem?_eq_some_iff.1 ho).1
 have h1 := List.all_eq_true.1 h i (List.mem_range.2 hi)
 simp only [ho, Bool.and_eq_true] at h1
 obtain ⟨h1, h3, h4⟩ := h1
 refine ⟨?_, fun e he hb => ?_, fun j hj hne e => ?_⟩
 ·cases hd : o.dst with
  | none => rw [hd] at h1; exact .inr ⟨rfl, by simpa using h1⟩
  | some d => rw [hd] at h1; exact .inl (by simpa using h1)
 ·have := Array.all_eq_true_iff_forall_mem.1 h3 e he
  simpa [hb] using this
 ·have h5 := List.all_eq_true.1 h4 j (List.mem_range.2 hj)
  rw [e] at h5
  simp at h5
  exact hne h5.symm
theorem no_readyD6 {ds : Nat → Nat} {c : Nat} (hB : propsD6 md ops ds c = true) {listed : Array Bool} (hs : listed.size = ops.size) (hr : Region.ready md ops listed = []) : ∀ i, i < ops.size → listed.getD i true = true := by
 intro i
 induction i using Nat.strongRecOn with
 | ind i ih =>
  intro hi
  cases hl : listed.getD i true
  ·have ho : ops[i]? = some ops[i] := Array.getElem?_eq_getElem hi
   have : i ∈ Region.ready md ops listed := mem_ready.2 ⟨hl, ops[i], ho, fun e he hb => by
    have he2 := (propsD6_at hB ho).2.1 e he hb
    have h1 := ih e.on he2 (by omega)
    have h2 : e.on < listed.size := by omega
    simpa [h2] using h1⟩
   rw [hr] at this; cases this
  ·rfl
theorem wpAny_props6 {Q : Exit → Act → World → Prop} (ds : Nat → Nat) (c : Nat) (O : Nat → Prop) (late : Nat → Bool) (hB : propsD6 md ops ds c = true) (hLt : lateG md ops c late = true) (S : Nat → Value → World → Prop) (w0 : World) (a0 : Act) (hS1 : ∀ i v w w', i ≠ c → late i = false → Keep O w0 w → S i v w → Keep O w w' → S i v w') (hS2 : ∀ i v w w', Keep O w0 w → S i v w → Keep NoB w w' → S i v w') (hsz : fitsD ops ds a0.tmps.size = true)
  (hstep : ∀ i o (a : Act) (w : World), ops[i]? = some o → i ≠ c → FrameD a0 ds ops.size a → Keep O w0 w → (∀ e ∈ o.after, Region.binds md e = true → S e.on (a.tmps.getD (ds e.on) undef) w) → Does P ops o a w fun u w' => S i u w' ∧ Keep NoB w w')
  (hspec : ∀ o (a : Act) (w : World), ops[c]? = some o → FrameD a0 ds ops.size a → Keep NoB w0 w → (∀ e ∈ o.after, Region.binds md e = true → S e.on (a.tmps.getD (ds e.on) undef) w) → Does P ops o a w fun u w' => (∀ v, (o.dst.isSome = true → v = u) → S c v w') ∧ Keep O w w')
  (hend : ∀ (a : Act) (w : World), FrameD a0 ds ops.size a → Keep O w0 w → (∀ i, i < ops.size → S i (a.tmps.getD (ds i) undef) w) → Q .normal a w) :
  ∀ (fuel : Nat) (listed : Array Bool) (a : Act) (w : World), listed.size = ops.size → (∃ L : List Nat, L.length ≤ fuel ∧ ∀ i, i < ops.size → listed.getD i true = false → i ∈ L) → FrameD a0 ds ops.size a → Keep O w0 w → (listed.getD c true = false → Keep NoB w0 w) → (∀ i, i < ops.size → late i = true → listed.getD i true = true → listed.getD c true = true) →
   (∀ i, i < ops.size → listed.getD i true = true → S i (a.tmps.getD (ds i) undef) w) → wpAny P md ops Q fuel listed a w := by
 have hNO : ∀ {X Y : World}, Keep NoB X Y → Keep O X Y := fun h => h.mono (fun _ hf _ => hf.elim)
 intro fuel
 induction fuel with
 | zero =>
  intro listed a w hs ⟨L, hL, hin⟩ hF hK hC hLa hA
  obtain rfl : L = [] := List.length_eq_zero_iff.1 (by omega)
  have hall : ∀ i, i < ops.size → listed.getD i true = true := fun i hi => by
   cases h : listed.getD i true
   ·cases hin i hi h
   ·rfl
  refine ⟨?_, hend a w hF hK fun i hi => hA i hi (hall i hi)⟩
  rw [List.eq_nil_iff_forall_not_mem]
  intro i hi
  obtain ⟨h1, o, ho, _⟩ := mem_ready.1 hi
  rw [hall i (Array.getElem?_eq_some_iff.1 ho).1] at h1; cases h1
 | succ fuel ih =>
  intro listed a w hs ⟨L, hL, hin⟩ hF hK hC hLa hA
  refine ⟨fun h0 => hend a w hF hK fun i hi => hA i hi (no_readyD6 hB hs h0 i hi), fun i hi => ?_⟩
  obtain ⟨h1, o, ho, hall⟩ := mem_ready.1 hi
  have hi' := (Array.getElem?_eq_some_iff.1 ho).1
  obtain ⟨hd, hlt, hdis⟩ := propsD6_at hB ho
  have hdeps : ∀ e ∈ o.after, Region.binds md e = true → S e.on (a.tmps.getD (ds e.on) undef) w := fun e he hb => by
   have h2 := hall e he hb
   have h3 := hlt e he hb
   refine hA e.on (by omega) ?_
   have h4 : e.on < listed.size := by omega
   simpa [h4] using h2
  have hKO : (if i = c then Keep NoB w0 w else True) := by
   split
   ·rename_i e; subst e; exact hC h1
   ·trivial
  have hdoes : Does P ops o a w fun u w' => (∀ v, (o.dst.isSome = true → v = u) → S i v w') ∧ Keep O w w' ∧ (i ≠ c → Keep NoB w w') := by
   by_cases e : i = c
   ·subst e
    rw [if_pos rfl] at hKO
    rcases hspec o a w ho hF hKO hdeps with ⟨hw, hy⟩ | ⟨hw, h2, h3⟩
    ·refine .inl ⟨hw, ?_⟩
     unfold yieldsK at hy ⊢
     exact yieldsR_mono (fun u w' ⟨h2, h3⟩ => ⟨h2, h3, fun h => absurd rfl h⟩) _ _ hy
    ·exact .inr ⟨hw, h2, h3, fun h => absurd rfl h⟩
   ·have hsome : o.dst.isSome = true := by
     rcases hd with h | ⟨_, h⟩
     ·rw [h]; rfl
     ·exact absurd h e
    rcases hstep i o a w ho e hF hK hdeps with ⟨hw, hy⟩ | ⟨hw, h2, h3⟩
    ·refine .inl ⟨hw, ?_⟩
     unfold yieldsK at hy ⊢
     exact yieldsR_mono (fun u w' ⟨h2, h3⟩ => ⟨fun v hv => by rw [hv hsome]; exact h2, hNO h3, fun _ => h3⟩) _ _ hy
    ·exact .inr ⟨hw, fun v hv => by rw [hv hsome]; exact h2, hNO h3, fun _ => h3⟩
  have hnext : ∀ u w', (∀ v, (o.dst.isSome = true → v = u) → S i v w') → Keep O w w' → (i ≠ c → Keep NoB w w') → wpAny P md ops Q fuel (listed.setIfInBounds i true) (a.put o.dst u) w' := by
   intro u w' hSu hk hkn
   have hfr : FrameD a0 ds ops.size (a.put o.dst u) ∧ (∀ k, k < ops.size → k ≠ i → (a.put o.dst u).tmps.getD (ds k) undef = a.tmps.getD (ds k) undef) ∧ (o.dst.isSome = true → (a.put o.dst u).tmps.getD (ds i) undef = u) := by
    rcases hd with hd | ⟨hd, _⟩
    ·rw [hd]
     have hds : ds i < a.tmps.size := by rw [hF.2.1]; exact fitsD_at hsz ho hd
     have hget : ∀ s, (a.put (some (ds i)) u).tmps.getD s undef = if s = ds i then u else a.tmps.getD s undef := fun s => by
      unfold Act.put
      by_cases e : s = ds i
      ·subst e; simp [hds]
      ·rw [if_neg e]
       simp only [Array.getD_eq_getD_getElem?, Array.getElem?_setIfInBounds]
       rw [if_neg (fun h => e h.symm)]
     refine ⟨⟨hF.1, by unfold Act.put; simpa using hF.2.1, fun s hs' => ?_⟩, fun k hk' hki => ?_, fun _ => ?_⟩
     ·rw [hget, if_neg (hs' i hi')]; exact hF.2.2 s hs'
     ·rw [hget, if_neg (hdis k hk' hki)]
     ·rw [hget, if_pos rfl]
    ·rw [hd]
     exact ⟨hF, fun _ _ _ => rfl, fun h => by cases h⟩
   obtain ⟨hF', hother, hself⟩ := hfr
   refine ih (listed.setIfInBounds i true) _ w' (by simpa using hs) ⟨L.erase i, ?_, fun k hk' hl => ?_⟩ hF' (hK.trans hk (fun _ h _ => h)) (fun hl => ?_) (fun k hk' hlk hl => ?_) fun k hk' hl => ?_
   ·rw [List.length_erase_of_mem (hin i hi' h1)]; omega
   ·have hki : k ≠ i := by
     rintro rfl
     have : k < listed.size := by omega
     simp [this] at hl
    have hl2 : listed.getD k true = false := by rw [getD_set_ne true (Ne.symm hki)] at hl; exact hl
    exact (List.mem_erase_of_ne hki).2 (hin k hk' hl2)
   ·have hci : c ≠ i := by
     rintro rfl
     have : c < listed.size := by omega
     simp [this] at hl
    rw [getD_set_ne true (Ne.symm hci)] at hl
    exact keepN (hC hl) (hkn (Ne.symm hci))
   ·have hcl : ∀ n, listed.getD n true = true → (listed.setIfInBounds i true).getD n true = true := fun n hn => by
     by_cases e : i = n
     ·subst e
      have h5 : i < listed.size := by omega
      simp [h5]
     ·rw [getD_set_ne true e]; exact hn
    by_cases e : k = i
    ·subst e
     by_cases ec : k = c
     ·rw [← ec]; exact hl
     ·obtain ⟨x, hx, hb, h6⟩ := lateG_at hLt ho hlk ec
      have h7 := hall x hx hb
      have h8 := hlt x hx hb
      have h9 : x.on < listed.size := by omega
      have h10 : listed.getD x.on true = true := by simpa [h9] using h7
      refine hcl c ?_
      rcases h6 with h6 | h6
      ·rw [← h6]; exact h10
      ·exact hLa x.on (by omega) h6 h10
    ·rw [getD_set_ne true (Ne.symm e)] at hl
     exact hcl c (hLa k hk' hlk hl)
   ·by_cases e : k = i
    ·subst e
     exact hSu _ hself
    ·rw [hother k hk' e]
     rw [getD_set_ne true (Ne.symm e)] at hl
     by_cases ec : i = c
     ·subst ec
      by_cases hlk : late k = true
      ·have := hLa k hk' hlk hl
       rw [h1] at this; cases this
      ·exact hS1 k _ _ _ e (by simpa using hlk) hK (hA k hk' hl) hk
     ·exact hS2 k _ _ _ hK (hA k hk' hl) (hkn ec)
  unfold wpOp
  simp only [ho]
  rcases hdoes with ⟨hw, hy⟩ | ⟨hw, h2, h3, h4⟩
  ·rw [if_pos hw]
   exact .inl (Oper.wp_of_yields hy fun u w' ⟨h2, h3, h4⟩ => hnext u w' h2 h3 h4)
  ·rw [if_neg (by rw [hw]; decide)]
   exact hnext undef w h2 h3 h4
theorem wp_region_props6 {id : Nat} {Q : Exit → Act → World → Prop} {a0 : Act} {w : World} (ds : Nat → Nat) (c : Nat) (O : Nat → Prop) (late : Nat → Bool) (hm : P.follows .mixedOrders = true) (hB : propsD6 .any ops ds c = true) (hLt : lateG .any ops c late = true) (S : Nat → Value → World → Prop) (hS1 : ∀ i v w1 w', i ≠ c → late i = false → Keep O w w1 → S i v w1 → Keep O w1 w' → S i v w') (hS2 : ∀ i v w1 w', Keep O w w1 → S i v w1 → Keep NoB w1 w' → S i v w') (hsz : fitsD ops ds a0.tmps.size = true)
  (hstep : ∀ i o (a : Act) (w' : World), ops[i]? = some o → i ≠ c → FrameD a0 ds ops.size a → Keep O w w' → (∀ e ∈ o.after, Region.binds .any e = true → S e.on (a.tmps.getD (ds e.on) undef) w') → Does P ops o a w' fun u w'' => S i u w'' ∧ Keep NoB w' w'')
  (hspec : ∀ o (a : Act) (w' : World), ops[c]? = some o → FrameD a0 ds ops.size a → Keep NoB w w' → (∀ e ∈ o.after, Region.binds .any e = true → S e.on (a.tmps.getD (ds e.on) undef) w') → Does P ops o a w' fun u w'' => (∀ v, (o.dst.isSome = true → v = u) → S c v w'') ∧ Keep O w' w'')
  (hend : ∀ (a : Act) (w' : World), FrameD a0 ds ops.size a → Keep O w w' → (∀ i, i < ops.size → S i (a.tmps.getD (ds i) undef) w') → Q .normal a w') : (Code.region id ops true).wp P Q a0 w :=
 wp_region_any hm (wpAny_props6 ds c O late hB hLt S w a0 hS1 hS2 hsz hstep hspec hend _ _ a0 w.drew (by simp) ⟨List.range ops.size, by simp, fun i hi _ => List.mem_range.2 hi⟩ ⟨rfl, rfl, fun _ _ => rfl⟩ (Keep.refl O w).drew (fun _ => (Keep.refl NoB w).drew) (fun i hi _ hl => by simp [hi] at hl) fun i hi hl => by
  simp [hi] at hl)
end
end Go.Proofs.YtghdibbooegocaaGreatDoor
