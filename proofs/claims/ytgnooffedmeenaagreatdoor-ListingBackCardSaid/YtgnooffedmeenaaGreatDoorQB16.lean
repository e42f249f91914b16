/-
  Part 16 of the proofs of LBackRow, LLabelsRow: what is laid, and what the functions that the law runs answer. Conditions: each theorem names its own.
-/
import Derived.Test.YtgnooffedmeenaaGreatDoorQB15
namespace Go.Proofs.YtgnooffedmeenaaGreatDoor.M
open Go.RowKit W

theorem rdr_split {B : Nat} {W : World} {T : Nat → Tg} {rb : Nat} {v : RV} {es : List I.SE} {fs : List I.FE} {ls : List LE} {R : Tg → Row} {F : Tg → Option Mp} {p : PS} {N : Nat}
  (h : Rdr B W T rb v es fs ls R F p N) (hne : p.im.fn ≠ []) : ∃ fs' e g, fs = fs' ++ [e] ∧ v.Y = some ⟨g, 0, none⟩ ∧ v.ny = fs'.length + 1 ∧ (∀ j u, j < 5 → e.1.cells.toList[j]? = some u → W.cell? ⟨g, fs'.length * 5 + j, none⟩ = some u) ∧ ∀ j, W.frozen? ⟨g, j, none⟩ = false := by
 have hfs : fs ≠ [] := by
  rintro rfl
  apply hne
  rw [← h.im]; rfl
 obtain ⟨fs', e, hfe⟩ := (List.eq_nil_or_concat fs).resolve_left hfs
 rw [List.concat_eq_append] at hfe
 subst hfe
 have o2 : okT .fn := ⟨Tg.noConfusion, Tg.noConfusion⟩
 have h0 := h.pa.row .fn o2
 rw [h.rfn] at h0
 have h1 : Own W 37 5 (fun k => T k = mk .fn) (.slice v.Y v.ny v.cy) v.ny (I.fvs (fs' ++ [e])) := h0
 obtain ⟨A, c, e1, _, _, hr, ha⟩ := h1.form
 injection e1 with e1 _ e3
 subst e1 e3
 obtain ⟨g, off, hY, hc⟩ := hr (by rw [I.fvs_length]; simp)
 have h2 := (ha _ hY).2
 injection h2 with _ h2 _
 subst h2
 have hny : v.ny = fs'.length + 1 := by
  have h5 := h1.1.1
  rw [I.fvs_length] at h5
  simp at h5
  omega
 refine ⟨fs', e, g, rfl, hY, hny, fun j u hj hu => ?_, fun j => ?_⟩
 ·have := hc (fs'.length * 5 + j) u (by rw [I.fvs_at (fs' ++ [e]) fs'.length j (by simp) hj]; simpa using hu)
  rwa [Nat.zero_add] at this
 ·have h6 : World.ownsRow W 0 37 5 (.slice v.Y v.ny v.cy) v.ny (I.fvs (fs' ++ [e])) := h1.1
  rw [hY] at h6
  exact h6.frozenAt j
theorem pLocal_no1 {p : PS} {ws : List Bs} (h : p.last ≠ 1) : pLocal p ws = none := by
 unfold pLocal; split
 ·exact if_neg (fun h2 => h h2.1)
 ·rfl
theorem pLocal_no2 {p : PS} {ws : List Bs} (h : ws.length ≠ 2) : pLocal p ws = none := by
 unfold pLocal; split
 ·exact absurd rfl h
 ·rfl
theorem pLocal_no3 {p : PS} {a b : Bs} (h : a ≠ localW) : pLocal p [a, b] = none := if_neg (fun h2 => h h2.2)
theorem pLocal_yes {p : PS} {b : Bs} (h : p.last = 1) : pLocal p [localW, b] = (W.untxt b).map fun t => PS.mk ⟨p.im.sh, upd (fun f => { f with lc := t }) p.im.fn⟩ 2 p.nums p.labs p.ms := if_pos ⟨h, rfl⟩
theorem untxt_len {s : Bs} {l : List Int} (h : W.untxt s = some l) : l.length = s.length := by
 unfold W.untxt at h
 split at h
 ·injection h with h; subst h; simp
 ·cases h

set_option maxRecDepth 100000 in
set_option maxHeartbeats 4000000 in
theorem readLocals_any (w0 W : World) (T : Nat → Tg) (rb : Nat) (p : PS) (N ln : Nat) (hE : Hid (EnvM w0)) (h : RdAt w0 W T rb p N ln) (hN : N ≤ 300000) (hfn : 1 ≤ p.last → p.im.fn ≠ []) (A : Option Addr) (ws : List Bs) (n c : Nat) (hw : Rd W A (sv ws)) (hn : ws.length = n) (hnc : n ≤ c) (hwl : ∀ x ∈ ws, x.length ≤ 140000) :
  Calls Tryz.prog 198 #[.pointer (some ⟨rb, 0, none⟩), .slice A n c] W (TryR w0 W T rb p N ln (pLocal p ws)) := by
 have HR := Lib.hid h
 obtain ⟨hk0, v, es, fs, ls, R, F, hln, hr⟩ := h
 obtain ⟨c0, c1, c2, c3, c4, c5, c6⟩ := rd_cells hr.bk
 have hla := hr.la
 rw [hla] at c3
 have HW := Lib.hid hr
 have HK := Lib.hid hk0
 have HLn := Lib.hid hln
 clear hr hk0 c0 c1 c2 c4 c5 c6 hln
 by_cases h1 : p.last = 1
 ·rw [h1] at c3
  by_cases h2 : n = 2
  ·subst h2
   obtain ⟨a, b, rfl⟩ : ∃ a b, ws = [a, b] := by
    match ws, hn with
    | [a, b], _ => exact ⟨a, b, rfl⟩
   obtain ⟨g, off, rfl, hcs⟩ := sv_at hw (by simp)
   have s0 := hcs 0 (by simp)
   have s1 := hcs 1 (by simp)
   simp only [List.getElem_cons_zero, List.getElem_cons_succ, Nat.add_zero] at s0 s1
   by_cases h3 : a = localW
   ·subst h3
    have hbl : b.length ≤ 140000 := hwl b (by simp)
    have HP := Lib.hid (pLocal_yes (p := p) (b := b) h1)
    have hbz : (str b).size ≤ 9223372036854775807 := by rw [size_of (S := str b) (s := b) (by simp)]; omega
    cases hu : _root_.Go.Proofs.YtgnooffedmeenaaGreatDoor.W.untxt b with
    | none =>
     have HT := Lib.hid (S.types_no (str b) b W (hE.out.1.lets.keep HK.out) (Lib.hid (by simp)) hbz hu)
     rw [hu] at HP
     clear hwl hcs hw hn hu
     generalize str b = SB at *
     go_enter Tryz.func198, Tryz.ntmps198
     go_wp2_with fail
     refine HT.out.mono ?_
     rintro e w1 ⟨B1, d1, rfl, k1⟩
     go_wp2
     go_ret
     exact try_no HR.out k1 HP.out
    | some t =>
     have HT := Lib.hid (S.types_yes (str b) b t W (hE.out.1.lets.keep HK.out) (Lib.hid (by simp)) hbz hu)
     rw [hu] at HP
     have htl : t.length ≤ 140000 := by rw [untxt_len hu]; exact hbl
     clear hwl hcs hw hn hu
     generalize str b = SB at *
     obtain ⟨fs', e0, g1, hfs, hY, hny, hcl, hfz⟩ := rdr_split HW.out (hfn (by omega))
     have hnyb := HW.out.by_
     have hcy := Lib.hid hcl
     obtain ⟨_, q1, _⟩ := rd_cells HW.out.bk
     rw [hY, hny] at q1
     have HC := Lib.hid (fun w1 (k1 : Keep NoB W w1) => current_any w1 rb g1 fs'.length v.cy (k1.cell q1 id) (by rw [hfs] at hnyb; simp at hnyb; omega))
     have q3 := hcl 3 _ (by omega) (show e0.1.cells.toList[3]? = some (.slice e0.1.L e0.1.nl e0.1.cl) from rfl)
     have hlt1 : g1 < W.heap.size := World.block_lt_of_cell? W _ q3
     have HF := Lib.hid hfz
     clear hcl hfz q1
     go_enter Tryz.func198, Tryz.ntmps198
     go_wp2_with fail
     refine HT.out.mono ?_
     rintro e w1 ⟨B1, d1, rfl, ho, k1⟩
     go_wp2_with fail
     refine (HC.out w1 k1).mono ?_
     rintro e w2 ⟨rfl, q, rfl⟩
     have k2 : Keep NoB W (w1.drewN q) := k1.drewN q
     have x3 := k2.cell q3 id
     have xf : (w1.drewN q).frozen? ⟨g1, fs'.length * 5 + 3, none⟩ = false := by
      have := HF.out (fs'.length * 5 + 3)
      unfold World.frozen? at this ⊢
      rw [k2.block g1 hlt1 id]
      exact this
     have ho2 := ho.keepN ((Keep.refl NoB w1).drewN q)
     clear q3 HT HC
     generalize w1.drewN q = w3 at *
     go_wp2
     go_ret
     subst hfs
     obtain ⟨T', r1, fs2, R', hr'⟩ := rdr_local HW.out HK.out.size k2 ho2 (by omega) hY
     exact ⟨T', r1, .inr ⟨_, HP.out, rfl, keep_rnd HW.out.pa HK.out r1, v, es, fs2, ls, R', F, HLn.out, hr'.more⟩⟩
   ·have HP := Lib.hid (pLocal_no3 (p := p) (b := b) h3)
    have hne : (a == [108, 111, 99, 97, 108]) = false := by rw [beq_eq_false_iff_ne]; exact h3
    go_enter Tryz.func198, Tryz.ntmps198
    go_wp2
    go_ret
    exact try_no HR.out (Keep.refl _ _) HP.out
  ·have HP := Lib.hid (pLocal_no2 (p := p) (ws := ws) (by omega))
   have hn2 : ((n : Int) == 2) = false := by rw [beq_eq_false_iff_ne]; omega
   go_enter Tryz.func198, Tryz.ntmps198
   go_wp2
   go_ret
   exact try_no HR.out (Keep.refl _ _) HP.out
 ·have HP := Lib.hid (pLocal_no1 (ws := ws) h1)
  have hl2 : (((p.last : Nat) : Int) == 1) = false := by rw [beq_eq_false_iff_ne]; omega
  go_enter Tryz.func198, Tryz.ntmps198
  go_wp2
  go_ret
  exact try_no HR.out (Keep.refl _ _) HP.out

end Go.Proofs.YtgnooffedmeenaaGreatDoor.M

namespace Go.Proofs.YtgnooffedmeenaaGreatDoor.M
open Go.RowKit W

theorem rdr_mention {B : Nat} {W Wd Wc We : World} {T : Nat → Tg} {rb : Nat} {v : RV} {es : List I.SE} {fs : List I.FE} {ls : List LE} {R : Tg → Row} {F : Tg → Option Mp} {p : PS} {N : Nat}
  (h : Rdr B W T rb v es fs ls R F p N) (hB : B ≤ W.heap.size) (hk : Keep NoB W Wd) {m : Mn} (hm : m.k = 1 → m.fn < ls.length)
  {M' : Option Addr} {cm' : Nat} (hg : Wd.grownBy Wc (Value.slice v.M v.nm v.cm).ownBlock) (hr : Wc.ownsRow 0 239 6 (.slice M' (v.nm + 1) cm') (v.nm + 1) (mvs v.mb ls p.ms ++ mnC v.mb ls m)) (hv : (Value.slice M' (v.nm + 1) cm').ownBlock = (Value.slice v.M v.nm v.cm).ownBlock ∨ (Value.slice M' (v.nm + 1) cm').ownBlock = some Wd.heap.size) (hk9 : Keep NoB Wc We) :
  ∃ T', Rnd (BS T) (BS T') W (We.setCell ⟨rb, 6, none⟩ (.slice M' (v.nm + 1) cm')) ∧ ∃ v' R', v'.ln = v.ln ∧ Rdr B (We.setCell ⟨rb, 6, none⟩ (.slice M' (v.nm + 1) cm')) T' rb v' es fs ls R' F ⟨p.im, p.last, p.nums, p.labs, p.ms ++ [m]⟩ (N + 1) := by
 have hsz := hk.size
 have s1 : sole .mn := ⟨rfl, by intro t e; cases t <;> first | exact e | cases e⟩
 have o1 : okT .mn := ⟨Tg.noConfusion, Tg.noConfusion⟩
 obtain ⟨q1, r1, k1⟩ := (h.pa.keepN hk).app (t0 := .mn) (v' := .slice M' (v.nm + 1) cm') (n' := v.nm + 1) (xs' := mvs v.mb ls p.ms ++ mnC v.mb ls m) (by omega) o1 s1 (h.fno _ (fun i => Tg.noConfusion) Tg.noConfusion) (by rw [h.rmn]; exact hg) (by rw [h.rmn]; exact hr) (by rw [h.rmn]; exact hv)
 rw [h.rmn] at q1
 have b1 := h.bk.keep hk id
 have t1 := (tagN_old (t := .mn) (b := Wc.heap.size) b1.lt).trans h.tb
 have b2 := (b1.keep k1 (by show ¬ _ = _; rw [h.tb]; exact Tg.noConfusion)).keep hk9 id
 obtain ⟨q2, r2⟩ := (q1.keepN hk9).cell (i := 6) (u := .slice M' (v.nm + 1) cm') t1
 have b3 := b2.put 6 (.slice M' (v.nm + 1) cm')
 refine ⟨_, (((rnd_keep hk).trans r1).trans (rnd_keep hk9)).trans r2, { v with M := M', nm := v.nm + 1, cm := cm' }, _, rfl, { h.more with pa := q2, bk := b3, tb := t1, rsh := (upR_ne _ _ Tg.noConfusion).trans h.rsh, rse := fun i hi => (upR_ne _ _ Tg.noConfusion).trans (h.rse i hi), rfn := (upR_ne _ _ Tg.noConfusion).trans h.rfn, rfa := fun i hi => (upR_ne _ _ Tg.noConfusion).trans (h.rfa i hi), rfb := fun i hi => (upR_ne _ _ Tg.noConfusion).trans (h.rfb i hi), rfl_ := fun i hi => (upR_ne _ _ Tg.noConfusion).trans (h.rfl_ i hi), rbd := fun i hi => (upR_ne _ _ Tg.noConfusion).trans (h.rbd i hi), rlb := (upR_ne _ _ Tg.noConfusion).trans h.rlb, rnm := fun i hi => (upR_ne _ _ Tg.noConfusion).trans (h.rnm i hi), rmn := ?_, rno := ⟨by rw [upR_ne _ _ Tg.noConfusion]; exact h.rno.1, fun i => by rw [upR_ne _ _ Tg.noConfusion]; exact h.rno.2 i⟩, bm := ?_, wm := ?_ }⟩
 ·rw [upR_eq, mvs_append]; simp [mvs]
 ·have := h.bm; simp; omega
 ·intro x hx
  rcases List.mem_append.1 hx with hx | hx
  ·exact h.wm x hx
  ·rw [List.mem_singleton.1 hx]; exact hm
theorem mvs_congr {mb : Nat} {ls ls' : List LE} (h : ls.map LE.b = ls'.map LE.b) (ms : List Mn) : mvs mb ls ms = mvs mb ls' ms := by
 have e : ∀ m, among mb ls m = among mb ls' m := by
  intro m
  unfold among
  have : (ls[m.fn]?).map LE.b = (ls'[m.fn]?).map LE.b := by rw [← List.getElem?_map, ← List.getElem?_map, h]
  rw [this]
 unfold mvs
 congr 1
 funext m
 unfold mnC
 rw [e]
theorem lvs_set : ∀ (ls : List LE) (l l' : LE) (u : Value), l'.cells = l.cells.set 0 u → lvs (ls ++ [l']) = (lvs (ls ++ [l])).set (ls.length * 2) u
 | [], l, l', u, h => by
  rw [List.nil_append, List.nil_append]
  unfold lvs
  rw [List.flatMap_cons, List.flatMap_cons, List.flatMap_nil, List.append_nil, List.append_nil, List.length_nil, Nat.zero_mul]
  exact h
 | x :: ls, l, l', u, h => by
  have ih := lvs_set ls l l' u h
  unfold lvs at ih ⊢
  rw [List.cons_append, List.flatMap_cons, ih, List.cons_append, List.flatMap_cons, List.set_append_right _ _ (by unfold LE.cells; simp; omega), List.length_cons]
  congr 2
  unfold LE.cells; simp; omega
theorem rdr_llast {B : Nat} {W W' : World} {T T' : Nat → Tg} {rb : Nat} {v : RV} {es : List I.SE} {fs : List I.FE} {ls : List LE} {l l' : LE} {R R' : Tg → Row} {F F' : Tg → Option Mp} {p : PS} {N : Nat}
  (h : Rdr B W T rb v es fs (ls ++ [l]) R F p N) (q : Parts B W' T' R' F') (hb : Blk W' rb 115 v.cells) (tb : T' rb = .rd)
  (hR : ∀ t, t ≠ .lb → t ≠ .nm ls.length → R' t = R t) (hF : ∀ t, t ≠ .pl ls.length → F' t = F t) (h1 : R' .lb = ⟨141, 2, .slice v.L v.nl v.cl, v.nl, lvs (ls ++ [l'])⟩)
  (h2 : R' (.nm ls.length) = ⟨9, 1, .slice l'.A l'.n l'.c, l'.n, sv l'.ws⟩) (h3 : ∃ n, n ≤ N + 1 ∧ F' (.pl ls.length) = some ⟨l'.b, n, l'.f⟩) (h4 : l'.b = l.b) (h5 : l'.ws.length ≤ N + 1)
  (g : List Bs × Pl → List Bs × Pl) (hg : (l'.ws, l'.f) = g (l.ws, l.f)) : Rdr B W' T' rb v es fs (ls ++ [l']) R' F' ⟨p.im, p.last, p.nums, upd g p.labs, p.ms⟩ (N + 1) := by
 have hlb : p.labs = ls.map (fun l => (l.ws, l.f)) ++ [(l.ws, l.f)] := by rw [← h.lb]; simp
 have hlf := h.lf
 have hi : ∀ {i : Nat} (hi : i < (ls ++ [l']).length), (∃ (h1 : i < (ls ++ [l]).length) (h2 : i < ls.length), (ls ++ [l'])[i] = ls[i] ∧ (ls ++ [l])[i] = ls[i]) ∨ (i = ls.length ∧ (ls ++ [l'])[i] = l') := by
  intro i hi
  rcases getElem_snoc hi with ⟨h', e1⟩ | ⟨e1, e2⟩
  ·exact .inl ⟨by simp; omega, h', e1, List.getElem_append_left h'⟩
  ·exact .inr ⟨e1, e2⟩
 refine { h.more with pa := q, bk := hb, tb := tb, rsh := (hR _ Tg.noConfusion Tg.noConfusion).trans h.rsh, rse := fun i hi => (hR _ Tg.noConfusion Tg.noConfusion).trans (h.rse i hi), rfn := (hR _ Tg.noConfusion Tg.noConfusion).trans h.rfn, rfa := fun i hi => (hR _ Tg.noConfusion Tg.noConfusion).trans (h.rfa i hi), rfb := fun i hi => (hR _ Tg.noConfusion Tg.noConfusion).trans (h.rfb i hi), rfl_ := fun i hi => (hR _ Tg.noConfusion Tg.noConfusion).trans (h.rfl_ i hi), rbd := fun i hi => (hR _ Tg.noConfusion Tg.noConfusion).trans (h.rbd i hi), rlb := h1, rnm := ?_, rmn := ?_, fnu := ?_, fpl := ?_, fno := ?_, rno := ⟨by rw [hR _ Tg.noConfusion Tg.noConfusion]; exact h.rno.1, fun i => by rw [hR _ Tg.noConfusion Tg.noConfusion]; exact h.rno.2 i⟩, lb := ?_, lf := ?_, bl := ?_, wm := ?_ }
 ·intro i hi2
  rcases hi hi2 with ⟨g1, g2, e1, e2⟩ | ⟨rfl, e1⟩
  ·rw [hR _ Tg.noConfusion (by intro x; injection x with x; omega), e1, ← e2]; exact h.rnm i g1
  ·rw [e1]; exact h2
 ·rw [hR _ Tg.noConfusion Tg.noConfusion, mvs_congr (ls := ls ++ [l']) (ls' := ls ++ [l]) (by simp [h4])]; exact h.rmn
 ·obtain ⟨n, g1, g2⟩ := h.fnu; exact ⟨n, by omega, (hF _ Tg.noConfusion).trans g2⟩
 ·intro i hi2
  rcases hi hi2 with ⟨g1, g2, e1, e2⟩ | ⟨rfl, e1⟩
  ·obtain ⟨n, g3, g4⟩ := h.fpl i g1
   rw [e2] at g4
   rw [e1]
   exact ⟨n, by omega, (hF _ (by intro x; injection x with x; omega)).trans g4⟩
  ·rw [e1]; exact h3
 ·intro t g1 g2; exact (hF t (g1 _)).trans (h.fno t g1 g2)
 ·dsimp only
  rw [hlb, upd_append, ← hg]
  simp
 ·simp at hlf ⊢; exact hlf
 ·intro i hi2
  rcases hi hi2 with ⟨g1, g2, e1, e2⟩ | ⟨rfl, e1⟩
  ·have := h.bl i g1
   rw [e1, ← e2]; omega
  ·rw [e1]; exact h5
 ·intro m hm e; have := h.wm m hm e; simp at this ⊢; exact this
theorem rdr_place {B : Nat} {W W1 : World} {T : Nat → Tg} {rb : Nat} {v : RV} {es : List I.SE} {fs : List I.FE} {ls : List LE} {l : LE} {R : Tg → Row} {F : Tg → Option Mp} {p : PS} {N n : Nat} {f : Pl}
  (h : Rdr B W T rb v es fs (ls ++ [l]) R F p N) (hn : n ≤ N + 1) (hg : W.grownBy W1 (some l.b)) (hM : OMap Tryz.prog 9 3 l.b n f W1) :
  ∃ F', Rdr B W1 T rb v es fs (ls ++ [{ l with f := f }]) R F' ⟨p.im, p.last, p.nums, upd (fun x => (x.1, f)) p.labs, p.ms⟩ (N + 1) ∧ Rnd (BS T) (BS T) W W1 := by
 obtain ⟨m, hm1, hm2⟩ := h.fpl ls.length (by simp)
 have hl : (ls ++ [l])[ls.length]'(by simp) = l := by simp
 rw [hl] at hm2
 obtain ⟨q1, q2⟩ := h.pa.set hm2 (h.rno.2 _) hg hM
 have hne : rb ≠ l.b := by
  have h1 := (h.pa.map _ _ hm2).2.1
  have h2 := h.tb
  rintro rfl
  rw [h1] at h2; cases h2
 have hnm := h.rnm ls.length (by simp)
 have hbl := h.bl ls.length (by simp)
 rw [hl] at hnm hbl
 exact ⟨_, rdr_llast (l' := { l with f := f }) h q1 (h.bk.grown hg (by simpa using hne)) h.tb (fun t _ _ => rfl) (fun t ht => upR_ne _ _ ht) (by rw [h.rlb]; simp [lvs, LE.cells]) hnm ⟨n, hn, upR_eq _ _ _⟩ rfl (by show l.ws.length ≤ _; omega) _ rfl, q2⟩
theorem rdr_name {B : Nat} {W Wd Wc We : World} {T : Nat → Tg} {rb : Nat} {v : RV} {es : List I.SE} {fs : List I.FE} {ls : List LE} {l : LE} {R : Tg → Row} {F : Tg → Option Mp} {p : PS} {N g : Nat}
  (h : Rdr B W T rb v es fs (ls ++ [l]) R F p N) (hB : B ≤ W.heap.size) (hk : Keep NoB W Wd) {s : Bs} (hL : v.L = some ⟨g, 0, none⟩)
  {A' : Option Addr} {c' : Nat} (hg : Wd.grownBy Wc (Value.slice l.A l.n l.c).ownBlock) (hr : Wc.ownsRow 0 9 1 (.slice A' (l.n + 1) c') (l.n + 1) (sv l.ws ++ [.string (str s)])) (hv : (Value.slice A' (l.n + 1) c').ownBlock = (Value.slice l.A l.n l.c).ownBlock ∨ (Value.slice A' (l.n + 1) c').ownBlock = some Wd.heap.size) (hk9 : Keep NoB Wc We) :
  ∃ T', Rnd (BS T) (BS T') W (We.setCell ⟨g, ls.length * 2, none⟩ (.slice A' (l.n + 1) c')) ∧ ∃ ls' R', Rdr B (We.setCell ⟨g, ls.length * 2, none⟩ (.slice A' (l.n + 1) c')) T' rb v es fs ls' R' F ⟨p.im, p.last, p.nums, upd (fun x => (x.1 ++ [s], x.2)) p.labs, p.ms⟩ (N + 1) := by
 have hsz := hk.size
 have hsz2 := hk9.size
 have s1 : sole (.nm ls.length) := ⟨rfl, by intro t e; cases t <;> first | exact e | cases e⟩
 have s2 : sole .lb := ⟨rfl, by intro t e; cases t <;> first | exact e | cases e⟩
 have o1 : okT (.nm ls.length) := ⟨Tg.noConfusion, Tg.noConfusion⟩
 have o2 : okT .lb := ⟨Tg.noConfusion, Tg.noConfusion⟩
 have hl : (ls ++ [l])[ls.length]'(by simp) = l := by simp
 have hnm := h.rnm ls.length (by simp)
 have hbl := h.bl ls.length (by simp)
 have hpl := h.fpl ls.length (by simp)
 rw [hl] at hnm hbl hpl
 obtain ⟨q1, r1, k1⟩ := (h.pa.keepN hk).app (t0 := .nm ls.length) (v' := .slice A' (l.n + 1) c') (n' := l.n + 1) (xs' := sv l.ws ++ [.string (str s)]) (by omega) o1 s1 (h.fno _ (fun i => Tg.noConfusion) Tg.noConfusion) (by rw [hnm]; exact hg) (by rw [hnm]; exact hr) (by rw [hnm]; exact hv)
 rw [hnm] at q1
 have q2 := q1.keepN hk9
 have hsz1 := k1.size
 have e1 : upR R (.nm ls.length) ⟨9, 1, .slice A' (l.n + 1) c', l.n + 1, sv l.ws ++ [.string (str s)]⟩ .lb = ⟨141, 2, .slice (some ⟨g, 0, none⟩) v.nl v.cl, v.nl, lvs (ls ++ [l])⟩ := by rw [upR_ne _ _ Tg.noConfusion, h.rlb, hL]
 obtain ⟨q3, r3, hgt⟩ := q2.put (by omega) o2 s2 (h.fno _ (fun i => Tg.noConfusion) Tg.noConfusion) e1 (ls.length * 2) (.slice A' (l.n + 1) c')
 have b1 := h.bk.keep hk id
 have t1 := (tagN_old (t := .nm ls.length) (b := Wc.heap.size) b1.lt).trans h.tb
 have hne : rb ≠ g := by rintro rfl; rw [hgt] at t1; cases t1
 have b2 := ((b1.keep k1 (by show ¬ _ = _; rw [h.tb]; exact Tg.noConfusion)).keep hk9 id).far (p := ⟨g, ls.length * 2, none⟩) hne (.slice A' (l.n + 1) c')
 refine ⟨_, (((rnd_keep hk).trans r1).trans (rnd_keep hk9)).trans r3, ls ++ [⟨A', l.n + 1, c', l.b, l.ws ++ [s], l.f⟩], _, rdr_llast (l' := ⟨A', l.n + 1, c', l.b, l.ws ++ [s], l.f⟩) h q3 b2 t1 (fun t h1 h2 => (upR_ne _ _ h1).trans (upR_ne _ _ h2)) (fun t _ => rfl) ?_ ?_ ?_ rfl (by simp; omega) _ rfl⟩
 ·rw [upR_eq, lvs_set ls l ⟨A', l.n + 1, c', l.b, l.ws ++ [s], l.f⟩ (.slice A' (l.n + 1) c') rfl, hL]
 ·rw [upR_ne _ _ Tg.noConfusion, upR_eq]; simp
 ·obtain ⟨n, g1, g2⟩ := hpl; exact ⟨n, by omega, g2⟩

end Go.Proofs.YtgnooffedmeenaaGreatDoor.M

namespace Go.Proofs.YtgnooffedmeenaaGreatDoor.S
open Go.RowKit W

theorem decN_cont (n b0 b1 b2 b3 : Nat) (hn : 1 ≤ n) (h : 128 ≤ b0) : 1 ≤ (Lib.decodeN n b0 b1 b2 b3).2 ∧ (Lib.decodeN n b0 b1 b2 b3).2 ≤ n ∧ (Lib.decodeN n b0 b1 b2 b3).2 ≤ 4 ∧
  (1 < (Lib.decodeN n b0 b1 b2 b3).2 → 128 ≤ b1) ∧ (2 < (Lib.decodeN n b0 b1 b2 b3).2 → 128 ≤ b2) ∧ (3 < (Lib.decodeN n b0 b1 b2 b3).2 → 128 ≤ b3) := by
 unfold Lib.decodeN
 repeat' split
 all_goals refine ⟨?_, ?_, ?_, ?_, ?_, ?_⟩ <;> simp only <;> omega
theorem decode_cont (S : ByteArray) (k : Nat) (hk : k < S.size) (h : 128 ≤ (S.get! k).toNat) : 1 ≤ (Utf8.decode S k).2 ∧ k + (Utf8.decode S k).2 ≤ S.size ∧ ∀ j, k ≤ j → j < k + (Utf8.decode S k).2 → 128 ≤ (S.get! j).toNat := by
 rw [Lib.decode_at]
 obtain ⟨h1, h2, h3, h4, h5, h6⟩ := decN_cont (S.size - k) (S.get! k).toNat (S.get! (k + 1)).toNat (S.get! (k + 2)).toNat (S.get! (k + 3)).toNat (by omega) h
 generalize (Lib.decodeN (S.size - k) (S.get! k).toNat (S.get! (k + 1)).toNat (S.get! (k + 2)).toNat (S.get! (k + 3)).toNat).2 = wd at h1 h2 h3 h4 h5 h6
 refine ⟨h1, by omega, fun j hj1 hj2 => ?_⟩
 obtain rfl | rfl | rfl | rfl : j = k ∨ j = k + 1 ∨ j = k + 2 ∨ j = k + 3 := by omega
 ·exact h
 ·exact h4 (by omega)
 ·exact h5 (by omega)
 ·exact h6 (by omega)
theorem extract_of {S : ByteArray} {s : List UInt8} (hs : S.data.toList = s) (f k : Nat) : S.extract f k = W.str ((s.drop f).take (k - f)) := by
 apply ByteArray.ext
 rw [ByteArray.data_extract]
 apply Array.ext'
 rw [Array.toList_extract, hs, List.extract_eq_take_drop]
theorem ext_left {S : ByteArray} {s : List UInt8} (hs : S.data.toList = s) (k : Nat) : S.extract 0 k = W.str (s.take k) := by rw [extract_of hs]; rfl
theorem ext_right {S : ByteArray} {s : List UInt8} (hs : S.data.toList = s) (k : Nat) : S.extract k S.size = W.str (s.drop k) := by
 rw [extract_of hs, size_of hs, ← List.length_drop, List.take_length]

def HalfR (w : World) (s : List UInt8) (e : Ending) (w' : World) : Prop :=
 ((arr s < s.length ∧ e = .returned (.tuple #[.string (W.str (s.take (arr s))), .string (W.str (s.drop (arr s + 1))), .bool true])) ∨ (¬ arr s < s.length ∧ e = .returned (.tuple #[.string ⟨#[]⟩, .string ⟨#[]⟩, .bool false]))) ∧ Keep NoB w w'
theorem arr_hit {s : List UInt8} {k : Nat} (hk : k < s.length) (h : ∀ c ∈ s.take k, c ≠ 62) (hc : s[k] = 62) : arr s = k := by
 have e : s = s.take k ++ 62 :: s.drop (k + 1) := by conv => lhs; rw [← List.take_append_drop k s, List.drop_eq_getElem_cons hk, hc]
 have := arr_mid (b := s.drop (k + 1)) h
 rw [← e] at this
 rw [this]; simp; omega
theorem arr_miss {s : List UInt8} (h : ∀ c ∈ s, c ≠ 62) : ¬ arr s < s.length := by
 have e : arr s = s.length := List.findIdx_eq_length.2 fun c hc => by simpa using h c hc
 omega
theorem half_yes {w w' : World} {S : ByteArray} {s : List UInt8} {k : Nat} (hs : S.data.toList = s) (hk : k < s.length) (h : ∀ c ∈ s.take k, c ≠ 62) (hc : s[k] = 62) (hK : Keep NoB w w') :
  HalfR w s (.returned (.tuple #[.string (S.extract 0 k), .string (S.extract (k + 1) S.size), .bool true])) w' := by
 have e := arr_hit hk h hc
 refine ⟨.inl ⟨by omega, ?_⟩, hK⟩
 rw [e, ext_left hs, ext_right hs]

set_option maxRecDepth 100000 in
set_option maxHeartbeats 4000000 in
theorem halves_any (S : ByteArray) (s : List UInt8) (w : World) (hs : Hid (S.data.toList = s)) (h1 : S.size ≤ 9223372036854775807) :
  Calls Tryz.prog 292 #[.string S] w (HalfR w s) := by
 have HSZ := Lib.hid (size_of hs.out)
 go_enter Tryz.func292, Tryz.ntmps292
 go_wp2
 have hk0 : (w.iter S 0).heap[w.heap.size]? = some (.stringIter S 0) := World.iter_heap w S 0
 have hK0 : Keep NoB w (w.iter S 0) := (Keep.refl NoB w).alloc _
 go_loopw [5] (fun _ wr => ∃ k : Nat, k ≤ S.size ∧ wr.heap[w.heap.size]? = some (.stringIter S k) ∧ Hid (∀ c ∈ s.take k, c ≠ 62) ∧ Keep NoB w wr) (fun _ wr => S.size - wr.iterPos w.heap.size)
 case atStart => exact ⟨0, Nat.zero_le _, hk0, fun c h => by simp at h, hK0⟩
 case round =>
  obtain ⟨k, hk, hit, hall, hK⟩ := hrel
  clear hk0 hK0
  have hmu : Hid (wr.iterPos w.heap.size = k) := by show _ = _; simp [World.iterPos, hit]
  by_cases hlt : k < S.size
  ·have hks : k < s.length := by rw [← HSZ.out]; exact hlt
   have hbt := _root_.Go.Proofs.YtgnooffedmeenaaGreatDoor.W.byte_at hs.out k hlt hks
   by_cases hb : (S[k]'hlt).toNat < 128
   ·have hnext : ∀ ty, (Instr.next (.pointer (some ⟨w.heap.size, 0, none⟩)) true ty).run Tryz.prog wr = _ := fun ty => Lib.run_next_ascii_at wr w.heap.size S k ty hit hlt hb
    rw [hbt] at hnext hb
    have hit2 := Lib.iterAt_heap wr w.heap.size S k (k + 1) hit
    have hK2 := hK.iterAt (Nat.le_refl _) S (k + 1)
    generalize wr.iterAt w.heap.size S (k + 1) = w2 at hnext hit2 hK2
    clear hbt hK hit
    by_cases hc : s[k] = 62
    ·have HX := Lib.hid (fun (w' : World) (h : Keep NoB w w') => half_yes hs.out hks hall.out hc h)
     have hq : (((s[k]).toNat : Int) == 62) = true := by rw [hc]; rfl
     generalize s[k] = c at hnext hb hq
     clear hc
     go_wp2
     go_quiet (fail)
     go_wp2
     go_ret3
     exact HX.out _ (hK2.drewN _)
    ·have hq : (((s[k]).toNat : Int) == 62) = false := by
      rw [beq_eq_false_iff_ne]
      intro e
      exact hc (UInt8.toNat_inj.1 (by rw [show (62 : UInt8).toNat = 62 from rfl]; omega))
     have hall2 : Hid (∀ c ∈ s.take (k + 1), c ≠ 62) := by
      intro c h
      rw [List.take_succ_eq_append_getElem hks] at h
      rcases List.mem_append.1 h with h | h
      ·exact hall.out c h
      ·rw [List.mem_singleton.1 h]; exact hc
     generalize s[k] = c at hnext hb hq
     clear hc hall
     go_wp2
     go_roundw
     case rel => exact ⟨k + 1, by omega, hit2, hall2, hK2⟩
     case measure =>
      have hmu2 : w2.iterPos w.heap.size = k + 1 := by simp [World.iterPos, hit2]
      rw [hmu.out, hmu2]
      omega
   ·have hnext : ∀ ty, (Instr.next (.pointer (some ⟨w.heap.size, 0, none⟩)) true ty).run Tryz.prog wr = _ := fun ty => Lib.run_next_any_at wr w.heap.size S k ty hit hlt
    have hg : 128 ≤ (S.get! k).toNat := by rw [W.get_at k hlt]; omega
    have hbig := decode_big S k hg
    obtain ⟨d1, d2, d3⟩ := decode_cont S k hlt hg
    have hit2 := Lib.iterAt_heap wr w.heap.size S k (k + (Utf8.decode S k).2) hit
    have hK2 := hK.iterAt (Nat.le_refl _) S (k + (Utf8.decode S k).2)
    have hall2 : Hid (∀ c ∈ s.take (k + (Utf8.decode S k).2), c ≠ 62) := by
     intro c h
     obtain ⟨j, hj, rfl⟩ := List.getElem_of_mem h
     rw [List.getElem_take]
     have hj2 : j < k + (Utf8.decode S k).2 ∧ j < s.length := by rw [List.length_take] at hj; omega
     rcases Nat.lt_or_ge j k with h3 | h3
     ·exact hall.out _ (by rw [← List.getElem_take (j := k) (h := by rw [List.length_take]; omega)]; exact List.getElem_mem _)
     ·have := d3 j h3 hj2.1
      have hjs : j < S.size := by omega
      rw [W.get_at j hjs, _root_.Go.Proofs.YtgnooffedmeenaaGreatDoor.W.byte_at hs.out j hjs hj2.2] at this
      intro e
      rw [e] at this
      exact absurd this (by decide)
    generalize (Utf8.decode S k).2 = wd at hnext hit2 hK2 hall2 d1 d2
    generalize wr.iterAt w.heap.size S (k + wd) = w2 at hnext hit2 hK2
    generalize (Utf8.decode S k).1 = r at hnext hbig
    have hq : ((r : Int) == 62) = false := by rw [beq_eq_false_iff_ne]; omega
    clear hbt hK hit hall hb hg d3
    go_wp2
    go_roundw
    case rel => exact ⟨k + wd, by omega, hit2, hall2, hK2⟩
    case measure =>
     have hmu2 : w2.iterPos w.heap.size = k + wd := by simp [World.iterPos, hit2]
     rw [hmu.out, hmu2]
     omega
  ·obtain hkn : k = s.length := by rw [← HSZ.out]; omega
   have hnext : ∀ ty, (Instr.next (.pointer (some ⟨w.heap.size, 0, none⟩)) true ty).run Tryz.prog wr = _ := fun ty => Lib.run_next_end_at wr w.heap.size S k ty hit hlt
   subst hkn
   have HX : Hid (¬ arr s < s.length) := arr_miss (by have := hall.out; rwa [List.take_length] at this)
   clear hall
   go_wp2
   go_ret3
   exact ⟨.inr ⟨HX.out, rfl⟩, hK⟩

end Go.Proofs.YtgnooffedmeenaaGreatDoor.S

namespace Go.Proofs.YtgnooffedmeenaaGreatDoor.S
open Go.RowKit W

abbrev Sp := Option (List Int × List Int)
def spA (R : Sp) : List Int := match R with
 | none => []
 | some x => x.1
def spB (R : Sp) : List Int := match R with
 | none => []
 | some x => x.2
def spE (R : Sp) : Int := match R with
 | none => 61
 | some _ => 0
def SgT (w : World) (R : Sp) (e : Ending) (w' : World) : Prop :=
 ∃ v1 v2, e = .returned (.tuple #[.agg #[v1, v2], .int .i64 (spE R)]) ∧ Own w' 3 1 (Fresh w) v1 (spA R).length (ivs (spA R)) ∧ Own w' 3 1 (Fresh w) v2 (spB R).length (ivs (spB R)) ∧ Keep NoB w w'
theorem sgt_none {w w' : World} {R : Sp} (hR : R = none) (hk : Keep NoB w w') : SgT w R (.returned (.tuple #[.agg #[.slice none 0 0, .slice none 0 0], .int .i64 61])) w' := by
 subst hR
 exact ⟨_, _, rfl, Own.nil _ _ _ _, Own.nil _ _ _ _, hk⟩
theorem rdG_0 {s : List UInt8} (h : ¬ arr s < s.length) : rdG s = none := if_neg h
theorem rdG_1 {s : List UInt8} (h : arr s < s.length) (h1 : untxt (s.take (arr s)) = none) : rdG s = none := by unfold rdG; rw [if_pos h, h1]
theorem rdG_2 {s : List UInt8} {a : List Int} (h : arr s < s.length) (h1 : untxt (s.take (arr s)) = some a) (h2 : untxt (s.drop (arr s + 1)) = none) : rdG s = none := by unfold rdG; rw [if_pos h, h1, h2]
theorem rdG_3 {s : List UInt8} {a r : List Int} (h : arr s < s.length) (h1 : untxt (s.take (arr s)) = some a) (h2 : untxt (s.drop (arr s + 1)) = some r) (ho : okG a r = false) : rdG s = none := by
 unfold rdG; rw [if_pos h, h1, h2]; exact if_neg (by rw [ho]; decide)
theorem rdG_4 {s : List UInt8} {a r : List Int} (h : arr s < s.length) (h1 : untxt (s.take (arr s)) = some a) (h2 : untxt (s.drop (arr s + 1)) = some r) (ho : okG a r = true) : rdG s = some (a, r) := by
 unfold rdG; rw [if_pos h, h1, h2]; exact if_pos ho
theorem str_fit {s l : List UInt8} (h : s.length ≤ 9223372036854775807) (hl : l.length ≤ s.length) : (W.str l).size ≤ 9223372036854775807 := by rw [size_of (s := l) (by simp)]; omega
theorem size_alloc_lt (w : World) (o : Obj) : w.heap.size < (w.alloc o).heap.size := by simp

set_option maxRecDepth 100000 in
set_option maxHeartbeats 4000000 in
theorem readG_any (S : ByteArray) (s : List UInt8) (w : World) (hL0 : LetAt w) (hs : Hid (S.data.toList = s)) (h1 : S.size ≤ 9223372036854775807) :
  Calls Tryz.prog 253 #[.string S] w (SgT w (rdG s)) := by
 have hsl : s.length ≤ 9223372036854775807 := by rw [← size_of hs.out]; exact h1
 have HH := Lib.hid (fun w => halves_any S s w hs h1)
 have bz := Blk.new w 34 #[.slice none 0 0, .slice none 0 0]
 have k0 := (Keep.refl NoB w).alloc (.cells #[.slice none 0 0, .slice none 0 0] 34)
 have hlt0 := Lib.hid (size_alloc_lt w (.cells #[.slice none 0 0, .slice none 0 0] 34))
 have HL := Lib.hid hL0
 clear hL0
 by_cases hlt : arr s < s.length
 ·have HZ := Lib.hid (fun w => (HH.out w).mono (R' := fun e w' => e = .returned (.tuple #[.string (W.str (s.take (arr s))), .string (W.str (s.drop (arr s + 1))), .bool true]) ∧ Keep NoB w w') (fun e w' ⟨h, hk⟩ => ⟨h.elim (fun h => h.2) (fun h => absurd hlt h.1), hk⟩))
  have hl1 : (W.str (s.take (arr s))).size ≤ 9223372036854775807 := str_fit hsl (by simp; omega)
  have hl2 : (W.str (s.drop (arr s + 1))).size ≤ 9223372036854775807 := str_fit hsl (by simp)
  cases hu : untxt (s.take (arr s)) with
  | none =>
   have HT := Lib.hid (fun w hL => types_no (W.str (s.take (arr s))) (s.take (arr s)) w hL rfl hl1 hu)
   have HD := Lib.hid (rdG_1 hlt hu)
   generalize W.str (s.take (arr s)) = SA at HZ HT
   generalize W.str (s.drop (arr s + 1)) = SB at HZ
   clear HH hl1 hl2 hu hlt hsl
   go_enter Tryz.func253, Tryz.ntmps253
   go_wp2_with fail
   refine (HZ.out _).mono ?_
   rintro e w1 ⟨rfl, k1⟩
   have bz1 := bz.keep k1 id
   have gK := keepN k0 k1
   clear bz k0 k1
   go_wp2_with fail
   refine (HT.out _ (HL.out.keep gK)).mono ?_
   rintro e w2 ⟨B1, d1, rfl, k2⟩
   have bz2 := bz1.keep k2 id
   obtain ⟨z0, z1⟩ := blk2 bz2
   have fz := fun i => bz2.frozen i
   have HBZ := Lib.hid (fun u v => blk_put2 bz2 u v)
   replace gK := keepN gK k2
   clear bz1 bz2 k2
   go_wp2
   refine bodyPost_ret (ret_sig rfl rfl (HBZ.out _ _) rfl) rfl ?_
   exact sgt_none HD.out (keep_put2 gK (Nat.le_refl _) _ _)
  | some a =>
   have HT := Lib.hid (fun w hL => types_yes (W.str (s.take (arr s))) (s.take (arr s)) a w hL rfl hl1 hu)
   have hla := untxt_len hu
   cases hv : untxt (s.drop (arr s + 1)) with
   | none =>
    have HT2 := Lib.hid (fun w hL => types_no (W.str (s.drop (arr s + 1))) (s.drop (arr s + 1)) w hL rfl hl2 hv)
    have HD := Lib.hid (rdG_2 hlt hu hv)
    generalize W.str (s.take (arr s)) = SA at HZ HT
    generalize W.str (s.drop (arr s + 1)) = SB at HZ HT2
    clear HH hl1 hl2 hu hv hlt hsl hla
    go_enter Tryz.func253, Tryz.ntmps253
    go_wp2_with fail
    refine (HZ.out _).mono ?_
    rintro e w1 ⟨rfl, k1⟩
    have bz1 := bz.keep k1 id
    have gK := keepN k0 k1
    clear bz k0 k1
    go_wp2_with fail
    refine (HT.out _ (HL.out.keep gK)).mono ?_
    rintro e w2 ⟨B1, d1, rfl, hO1, k2⟩
    replace bz1 := bz1.keep k2 id
    replace gK := keepN gK k2
    clear hO1 k2
    go_wp2_with fail
    refine (HT2.out _ (HL.out.keep gK)).mono ?_
    rintro e w3 ⟨B2, d2, rfl, k3⟩
    have bz2 := bz1.keep k3 id
    obtain ⟨z0, z1⟩ := blk2 bz2
    have fz := fun i => bz2.frozen i
    have HBZ := Lib.hid (fun u v => blk_put2 bz2 u v)
    replace gK := keepN gK k3
    clear bz1 bz2 k3
    go_wp2
    refine bodyPost_ret (ret_sig rfl rfl (HBZ.out _ _) rfl) rfl ?_
    exact sgt_none HD.out (keep_put2 gK (Nat.le_refl _) _ _)
   | some r =>
    have HT2 := Lib.hid (fun w hL => types_yes (W.str (s.drop (arr s + 1))) (s.drop (arr s + 1)) r w hL rfl hl2 hv)
    have hlb := untxt_len hv
    have HI : Hid ((okG a r = false → rdG s = none ∧ ∀ (A : Option Addr) (ca : Nat) (B : Option Addr) (cb : Nat) (w : World), Rd w A (ivs a) → Rd w B (ivs r) → Calls Tryz.prog 247 #[.agg #[.slice A a.length ca, .slice B r.length cb]] w fun e w' => e = .returned (.tuple #[.agg #[.slice none 0 0, .slice none 0 0], .int .i64 61]) ∧ Keep NoB w w') ∧
     (okG a r = true → rdG s = some (a, r) ∧ ∀ (A : Option Addr) (ca : Nat) (B : Option Addr) (cb : Nat) (w : World), Rd w A (ivs a) → Rd w B (ivs r) → Calls Tryz.prog 247 #[.agg #[.slice A a.length ca, .slice B r.length cb]] w fun e w' => e = .returned (.tuple #[.agg #[.slice A a.length ca, .slice B r.length cb], .int .i64 0]) ∧ Keep NoB w w')) :=
     ⟨fun ho => ⟨rdG_3 hlt hu hv ho, fun A ca B cb w ha hr => ifG_no A a _ ca B r _ cb w ha hr rfl rfl (by omega) (by omega) ho⟩, fun ho => ⟨rdG_4 hlt hu hv ho, fun A ca B cb w ha hr => ifG_yes A a _ ca B r _ cb w ha hr rfl rfl (by omega) (by omega) ho⟩⟩
    generalize W.str (s.take (arr s)) = SA at HZ HT
    generalize W.str (s.drop (arr s + 1)) = SB at HZ HT2
    clear HH hl1 hl2 hu hv hlt hsl hla hlb
    go_enter Tryz.func253, Tryz.ntmps253
    go_wp2_with fail
    refine (HZ.out _).mono ?_
    rintro e w1 ⟨rfl, k1⟩
    have bz1 := bz.keep k1 id
    have gK := keepN k0 k1
    have hs1 := bz1.lt
    clear bz k0 k1
    go_wp2_with fail
    refine (HT.out _ (HL.out.keep gK)).mono ?_
    rintro e w2 ⟨B1, d1, rfl, hO1, k2⟩
    replace bz1 := bz1.keep k2 id
    replace hO1 := hO1.mono (O' := fun k => w.heap.size < k) (fun k hf _ => by unfold Fresh at hf; omega)
    replace gK := keepN gK k2
    have hs2 := bz1.lt
    clear k2
    go_wp2_with fail
    refine (HT2.out _ (HL.out.keep gK)).mono ?_
    rintro e w3 ⟨B2, d2, rfl, hO2, k3⟩
    replace bz1 := bz1.keep k3 id
    replace hO2 := hO2.mono (O' := fun k => w.heap.size < k) (fun k hf _ => by unfold Fresh at hf; omega)
    replace hO1 := hO1.keepN k3
    replace gK := keepN gK k3
    have r1 : Rd w3 B1 (ivs a) := by
     obtain ⟨A', c', e, hr⟩ := own_rdI hO1
     cases e; exact hr
    have r2 : Rd w3 B2 (ivs r) := by
     obtain ⟨A', c', e, hr⟩ := own_rdI hO2
     cases e; exact hr
    clear k3 HT HT2 HZ
    cases ho : okG a r
    ·obtain ⟨hD, hI⟩ := HI.out.1 ho
     have HD := Lib.hid hD
     have HI2 := Lib.hid hI
     clear hD hI HI ho hO1 hO2
     go_wp2_with fail
     refine (HI2.out _ _ _ _ _ r1 r2).mono ?_
     rintro e w4 ⟨rfl, k4⟩
     have bz2 := bz1.keep k4 id
     obtain ⟨z0, z1⟩ := blk2 bz2
     have fz := fun i => bz2.frozen i
     have HBZ := Lib.hid (fun u v => blk_put2 bz2 u v)
     replace gK := keepN gK k4
     clear bz1 bz2 k4 r1 r2 HI2
     go_wp2
     refine bodyPost_ret (ret_sig rfl rfl (HBZ.out _ _) rfl) rfl ?_
     exact sgt_none HD.out (keep_put2 gK (Nat.le_refl _) _ _)
    ·obtain ⟨hD, hI⟩ := HI.out.2 ho
     have HD := Lib.hid hD
     have HI2 := Lib.hid hI
     clear hD hI HI ho
     go_wp2_with fail
     refine (HI2.out _ _ _ _ _ r1 r2).mono ?_
     rintro e w4 ⟨rfl, k4⟩
     have bz2 := bz1.keep k4 id
     obtain ⟨z0, z1⟩ := blk2 bz2
     have fz := fun i => bz2.frozen i
     have HBZ := Lib.hid (fun u v => blk_put2 bz2 u v)
     have HP1 := Lib.hid (own_put2 (hO1.keepN k4) (Nat.le_refl _) (.slice B1 a.length d1) (.slice B2 r.length d2))
     have HP2 := Lib.hid (own_put2 (hO2.keepN k4) (Nat.le_refl _) (.slice B1 a.length d1) (.slice B2 r.length d2))
     replace gK := keepN gK k4
     clear bz1 bz2 k4 r1 r2 HI2 hO1 hO2
     go_wp2
     refine bodyPost_ret (ret_sig rfl rfl (HBZ.out _ _) rfl) rfl ?_
     rw [HD.out]
     exact ⟨_, _, rfl, HP1.out, HP2.out, keep_put2 gK (Nat.le_refl _) _ _⟩
 ·have HZ := Lib.hid (fun w => (HH.out w).mono (R' := fun e w' => e = .returned (.tuple #[.string ⟨#[]⟩, .string ⟨#[]⟩, .bool false]) ∧ Keep NoB w w') (fun e w' ⟨h, hk⟩ => ⟨h.elim (fun h => absurd h.1 hlt) (fun h => h.2), hk⟩))
  have HD := Lib.hid (rdG_0 hlt)
  clear HH hlt hsl
  go_enter Tryz.func253, Tryz.ntmps253
  go_wp2_with fail
  refine (HZ.out _).mono ?_
  rintro e w1 ⟨rfl, k1⟩
  have bz1 := bz.keep k1 id
  obtain ⟨z0, z1⟩ := blk2 bz1
  have fz := fun i => bz1.frozen i
  have HBZ := Lib.hid (fun u v => blk_put2 bz1 u v)
  have gK := keepN k0 k1
  clear bz k0 k1 bz1
  go_wp2
  refine bodyPost_ret (ret_sig rfl rfl (HBZ.out _ _) rfl) rfl ?_
  exact sgt_none HD.out (keep_put2 gK (Nat.le_refl _) _ _)

end Go.Proofs.YtgnooffedmeenaaGreatDoor.S

namespace Go.Proofs.YtgnooffedmeenaaGreatDoor
open Go.RowKit
section
variable {P : Program} {md : Region.Mode} {ops : Array Oper}
theorem wpAny_tail7 {Q : Exit → Act → World → Prop} (ds : Nat → Nat) (m : Nat) (hm : m ≤ ops.size) (hO : onlyB ops = true) (hB : headG ops ds m = true) (hT : tailG md ops m = true) (c : Nat) (O : Nat → Prop) (S : Nat → Value → World → Prop) (hS1 : ∀ i v w w', i ≠ c → S i v w → Keep O w w' → S i v w') (hS2 : ∀ v w w', S c v w → Keep NoB w w' → S c v w') (w0 : World) (a0 : Act) (hsz : fitsD ops ds a0.tmps.size = true)
  (hstep : ∀ i o (a : Act) (w : World), ops[i]? = some o → i < m → i ≠ c → FrameD a0 ds m a → Keep O w0 w → (∀ e ∈ o.after, Region.binds md e = true → S e.on (a.tmps.getD (ds e.on) undef) w) → Does P ops o a w fun u w' => S i u w' ∧ Keep NoB w w')
  (hspec : ∀ o (a : Act) (w : World), ops[c]? = some o → FrameD a0 ds m a → Keep NoB w0 w → (∀ e ∈ o.after, Region.binds md e = true → S e.on (a.tmps.getD (ds e.on) undef) w) → Does P ops o a w fun u w' => S c u w' ∧ Keep O w w')
  (hend : ∀ (a : Act) (w : World), FrameD a0 ds m a → Keep O w0 w → (∀ i, i < m → S i (a.tmps.getD (ds i) undef) w) → wpList P ops Q (ops.toList.drop m) a w) :
  ∀ (fuel : Nat) (listed : Array Bool) (a : Act) (w : World), listed.size = ops.size → (∃ L : List Nat, L.length + (ops.size - m) ≤ fuel ∧ ∀ i, i < m → listed.getD i true = false → i ∈ L) → Closed md ops listed → (∀ i, m ≤ i → i < ops.size → listed.getD i true = false) → FrameD a0 ds m a → Keep O w0 w → (listed.getD c true = false → Keep NoB w0 w) →
   (∀ i, i < m → listed.getD i true = true → S i (a.tmps.getD (ds i) undef) w) → wpAny P md ops Q fuel listed a w := by
 intro fuel
 induction fuel with
 | zero =>
  intro listed a w hs ⟨L, hL, hin⟩ hC hN hF hK hcN hA
  have hall : ∀ i, i < m → listed.getD i true = true := fun i hi => by
   cases h : listed.getD i true
   ·have := hin i hi h
    rw [List.length_eq_zero_iff.1 (by omega : L.length = 0)] at this; cases this
   ·rfl
  exact wpAny_chain hO hT 0 m listed a w (Nat.le_refl _) hs (by omega) hC hall hN (hend a w hF hK fun i hi => hA i hi (hall i hi))
 | succ fuel ih =>
  intro listed a w hs ⟨L, hL, hin⟩ hC hN hF hK hcN hA
  by_cases hdone : ∀ i, i < m → listed.getD i true = true
  ·exact wpAny_chain hO hT (fuel + 1) m listed a w (Nat.le_refl _) hs (by omega) hC hdone hN (hend a w hF hK fun i hi => hA i hi (hdone i hi))
  refine ⟨fun h0 => ?_, fun i hi => ?_⟩
  ·refine absurd (fun i => ?_) hdone
   induction i using Nat.strongRecOn with
   | ind i ih2 =>
    intro hi
    cases hl : listed.getD i true
    ·have hio : i < ops.size := by omega
     have ho : ops[i]? = some ops[i] := Array.getElem?_eq_getElem hio
     have : i ∈ Region.ready md ops listed := mem_ready.2 ⟨hl, ops[i], ho, fun e he _ => by
      have h3 := onlyB_at hO ho e he
      have h4 := ih2 e.on h3 (by omega)
      have h5 : e.on < listed.size := by omega
      simpa [h5] using h4⟩
     rw [h0] at this; cases this
    ·rfl
  ·obtain ⟨h1, o, ho, hall⟩ := mem_ready.1 hi
   have hi' := (Array.getElem?_eq_some_iff.1 ho).1
   have hr := ready_getD (listed := listed) hO hs ho (fun e he hb => hall e he hb)
   have him : i < m := by
    rcases Nat.lt_or_ge i m with h5 | h5
    ·exact h5
    ·have hb := List.all_eq_true.1 hT i (List.mem_range.2 hi')
     simp only [Bool.or_eq_true, decide_eq_true_eq] at hb
     have hb : allBehind md ops i = true := hb.resolve_left (by omega)
     exact absurd (fun k hk => behind_all hb hC ho hr k (by omega)) hdone
   obtain ⟨hd, hdis⟩ := headG_at hB him ho
   have hdeps : ∀ e ∈ o.after, Region.binds md e = true → S e.on (a.tmps.getD (ds e.on) undef) w := fun e he hb => hA e.on (by have := onlyB_at hO ho e he; omega) (hr e he hb)
   have hdoes : Does P ops o a w fun u w' => S i u w' ∧ (i ≠ c → Keep NoB w w') ∧ Keep O w w' := by
    by_cases e : i = c
    ·subst e
     rcases hspec o a w ho hF (hcN h1) hdeps with ⟨hw, hy⟩ | ⟨hw, h2, h3⟩
     ·refine .inl ⟨hw, ?_⟩
      unfold yieldsK at hy ⊢
      exact yieldsR_mono (fun u w' ⟨h2, h3⟩ => ⟨h2, fun h => absurd rfl h, h3⟩) _ _ hy
     ·exact .inr ⟨hw, h2, fun h => absurd rfl h, h3⟩
    ·rcases hstep i o a w ho him e hF hK hdeps with ⟨hw, hy⟩ | ⟨hw, h2, h3⟩
     ·refine .inl ⟨hw, ?_⟩
      unfold yieldsK at hy ⊢
      exact yieldsR_mono (fun u w' ⟨h2, h3⟩ => ⟨h2, fun _ => h3, h3.mono (fun _ hf _ => hf.elim)⟩) _ _ hy
     ·exact .inr ⟨hw, h2, fun _ => h3, h3.mono (fun _ hf _ => hf.elim)⟩
   have hnext : ∀ u w', S i u w' → (i ≠ c → Keep NoB w w') → Keep O w w' → wpAny P md ops Q fuel (listed.setIfInBounds i true) (a.put o.dst u) w' := by
    intro u w' hSu hkn hk
    rw [hd]
    have hds : ds i < a.tmps.size := by rw [hF.2.1]; exact fitsD_at hsz ho hd
    have hget : ∀ s, (a.put (some (ds i)) u).tmps.getD s undef = if s = ds i then u else a.tmps.getD s undef := fun s => by
     unfold Act.put
     by_cases e : s = ds i
     ·subst e; simp [hds]
     ·rw [if_neg e]
      simp only [Array.getD_eq_getD_getElem?, Array.getElem?_setIfInBounds]
      rw [if_neg (fun h => e h.symm)]
    refine ih (listed.setIfInBounds i true) _ w' (by simpa using hs) ⟨L.erase i, ?_, fun k hk' hl => ?_⟩ (closed_set hC ho hr) (fun k hk1 hk2 => by rw [getD_set_ne true (by omega)]; exact hN k hk1 hk2) ⟨hF.1, by unfold Act.put; simpa using hF.2.1, fun s hs' => by rw [hget, if_neg (hs' i him)]; exact hF.2.2 s hs'⟩ (hK.trans hk (fun _ h _ => h)) (fun hl => ?_) fun k hk' hl => ?_
    ·have hmem := hin i him h1
     have hpos := List.length_pos_of_mem hmem
     rw [List.length_erase_of_mem hmem]; omega
    ·have hki : k ≠ i := by
      rintro rfl
      rw [getD_set_self (by omega)] at hl; cases hl
     rw [getD_set_ne true (Ne.symm hki)] at hl
     exact (List.mem_erase_of_ne hki).2 (hin k hk' hl)
    ·by_cases e : i = c
     ·subst e
      rw [getD_set_self (by omega)] at hl; cases hl
     ·rw [getD_set_ne true e] at hl
      exact keepN (hcN hl) (hkn e)
    ·by_cases e : k = i
     ·subst e
      rw [hget, if_pos rfl]; exact hSu
     ·rw [hget, if_neg (hdis k hk' e)]
      have hA2 := hA k hk' (by rw [getD_set_ne true (Ne.symm e)] at hl; exact hl)
      by_cases ek : k = c
      ·subst ek
       exact hS2 _ _ _ hA2 (hkn (Ne.symm e))
      ·exact hS1 k _ _ _ ek hA2 hk
   unfold wpOp
   simp only [ho]
   rcases hdoes with ⟨hw, hy⟩ | ⟨hw, h2, h3, h4⟩
   ·rw [if_pos hw]
    exact .inl (Oper.wp_of_yields hy fun u w' ⟨h2, h3, h4⟩ => hnext u w' h2 h3 h4)
   ·rw [if_neg (by rw [hw]; decide)]
    exact hnext undef w h2 h3 h4
theorem wp_region_tail7 {id : Nat} {Q : Exit → Act → World → Prop} {a0 : Act} {w : World} (ds : Nat → Nat) (m : Nat) (hf : P.follows .mixedOrders = true) (hm : decide (m ≤ ops.size) = true) (hO : onlyB ops = true) (hB : headG ops ds m = true) (hT : tailG .any ops m = true) (c : Nat) (O : Nat → Prop) (S : Nat → Value → World → Prop) (hS1 : ∀ i v w1 w', i ≠ c → S i v w1 → Keep O w1 w' → S i v w') (hS2 : ∀ v w1 w', S c v w1 → Keep NoB w1 w' → S c v w') (hsz : fitsD ops ds a0.tmps.size = true)
  (hstep : ∀ i o (a : Act) (w' : World), ops[i]? = some o → i < m → i ≠ c → FrameD a0 ds m a → Keep O w w' → (∀ e ∈ o.after, Region.binds .any e = true → S e.on (a.tmps.getD (ds e.on) undef) w') → Does P ops o a w' fun u w'' => S i u w'' ∧ Keep NoB w' w'')
  (hspec : ∀ o (a : Act) (w' : World), ops[c]? = some o → FrameD a0 ds m a → Keep NoB w w' → (∀ e ∈ o.after, Region.binds .any e = true → S e.on (a.tmps.getD (ds e.on) undef) w') → Does P ops o a w' fun u w'' => S c u w'' ∧ Keep O w' w'')
  (hend : ∀ (a : Act) (w' : World), FrameD a0 ds m a → Keep O w w' → (∀ i, i < m → S i (a.tmps.getD (ds i) undef) w') → wpList P ops Q (ops.toList.drop m) a w') : (Code.region id ops true).wp P Q a0 w :=
 have hm := of_decide_eq_true hm
 wp_region_any hf (wpAny_tail7 ds m hm hO hB hT c O S hS1 hS2 w a0 hsz hstep hspec hend _ _ a0 w.drew (by simp) ⟨List.range m, by simp; omega, fun i hi _ => List.mem_range.2 hi⟩ (fun k o hk hl => by
  have := (Array.getElem?_eq_some_iff.1 hk).1
  simp [this] at hl) (fun i _ hi => by simp [hi]) ⟨rfl, rfl, fun _ _ => rfl⟩ (Keep.refl O w).drew (fun _ => (Keep.refl NoB w).drew) fun i hi hl => by
  have : i < ops.size := by omega
  simp [this] at hl)
end
end Go.Proofs.YtgnooffedmeenaaGreatDoor

namespace Go.Proofs.YtgnooffedmeenaaGreatDoor
open Go.RowKit
theorem yields_append {o : Oper} {a : Act} {w : World} {R : Value → World → Prop} (s x : Operand) (S : TypeId) (ho : o.op = .call { callee := .builtin .append, args := #[s, x], argTypes := #[S, S] })
  (E size bytes : Nat) (i0 : TypeInfo) (z : Value) (hS : Tryz.prog.underlying S = some (.slice E)) (hi : Tryz.prog.info? E = some i0) (hz0 : i0.zero = some z) (hz1 : i0.size = size) (hz2 : i0.bytes = bytes) (hzs : z.cells.size = size) (hsz : 0 < size)
  (v : Value) (n : Nat) (xs : List Value) (A : Option Addr) (m c : Nat) (ys : List Value) (hs : a.eval s = v) (hown : w.ownsRow 0 E size v n xs) (hx : a.eval x = .slice A m c) (hr : Rd w A ys)
  (hl : ys.length = m * size) (h1 : ∀ u ∈ ys, u.oneCell' = true) (h63 : n + m ≤ maxLen) (hb : (n + m) * bytes ≤ 140737488355328)
  (h : ∀ A' c' w', w'.ownsRow 0 E size (.slice A' (n + m) c') (n + m) (xs ++ ys) → w.grownBy w' v.ownBlock → ((Value.slice A' (n + m) c').ownBlock = v.ownBlock ∨ (Value.slice A' (n + m) c').ownBlock = some w.heap.size) → R (.slice A' (n + m) c') w') : yieldsK Tryz.prog o a w R := by
 obtain ⟨v', w', hrun, h2, h3, h4⟩ := run_append_rd w S E size bytes i0 z hS hi hz0 hz1 hz2 hzs hsz v n xs A m c ys o.type hown hr hl h1 h63 hb
 obtain ⟨A', c', rfl⟩ := own_form h2
 unfold yieldsK execOp
 simp only [ho, resolve, invoke, builtin, Sem.run_bind, Sem.run_pure, Result.andThen_ok, List.map_toArray, List.map_cons, List.map_nil, hs, hx, hrun]
 exact h A' c' w' h2 h3 h4
end Go.Proofs.YtgnooffedmeenaaGreatDoor
