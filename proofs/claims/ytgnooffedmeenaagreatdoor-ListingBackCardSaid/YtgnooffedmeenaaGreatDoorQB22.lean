/-
  Part 22 of the proofs of LBackRow, LLabelsRow: what is laid, and what the functions that the law runs answer. Conditions: each theorem names its own.
-/
import Derived.Test.YtgnooffedmeenaaGreatDoorQB21
namespace Go.Proofs.YtgnooffedmeenaaGreatDoor.M
open Go.RowKit Go.Shelf W

theorem men_look {B : Nat} {W : World} {T : Nat → Tg} {rb : Nat} {v : RV} {es : List I.SE} {fs : List I.FE} {ls : List LE} {R : Tg → Row} {F : Tg → Option Mp} {p : PS} {N : Nat} (h : Rdr B W T rb v es fs ls R F p N) {m : Mn} (hm : m ∈ p.ms) (hz : m.s.length ≤ 32) :
  ∀ W', Keep NoB W W' → (Instr.lookup 111 (.map (among v.mb ls m)) (.string (str m.s)) true).run Tryz.prog W' = .ok (.tuple #[.int .i64 (((amongP p m).getD 0 : Nat) : Int), .bool (amongP p m).isSome]) W' := by
 intro W' hk
 have hsz : (str m.s).size ≤ maxLen := by rw [size_of (S := str m.s) (s := m.s) (by simp)]; unfold maxLen; omega
 have hss : (str m.s).data.toList = m.s := by simp
 unfold among amongP
 by_cases h0 : m.k = 0
 ·rw [if_pos h0, if_pos h0]
  exact Maps.look_nil true (Maps.string_keyed Tryz.underlying9) Tryz.underlying111 (int_zero W') (keyOf_str Tryz.underlying9 hsz)
 ·rw [if_neg h0, if_neg h0]
  by_cases h1 : m.k = 1
  ·rw [if_pos h1, if_pos h1]
   have hl := h.wm m hm h1
   obtain ⟨n, _, hF⟩ := h.fpl m.fn hl
   have hM := ((h.pa.map _ _ hF).1.keep hk id).look (t := 111) Tryz.underlying111 Tryz.underlying9 Tryz.underlying3 (int_zero W') (str m.s) hsz
   rw [hss] at hM
   have e1 : ls[m.fn]? = some ls[m.fn] := List.getElem?_eq_getElem hl
   have e2 : p.labs[m.fn]? = some (ls[m.fn].ws, ls[m.fn].f) := by rw [← h.lb, List.getElem?_map, e1]; rfl
   rw [e1, e2]
   exact hM
  ·rw [if_neg h1, if_neg h1]
   obtain ⟨n, _, hF⟩ := h.fnu
   have hM := ((h.pa.map _ _ hF).1.keep hk id).look (t := 111) Tryz.underlying111 Tryz.underlying9 Tryz.underlying3 (int_zero W') (str m.s) hsz
   rw [hss] at hM
   exact hM
structure SetI (w0 : World) (T : Nat → Tg) (rb : Nat) (v : RV) (es : List I.SE) (ls : List LE) (F : Tg → Option Mp) (p : PS) (N : Nat) (fn : List _root_.Go.Proofs.YtgnooffedmeenaaGreatDoor.F.Fu) (W : World) : Prop where
 k : Keep NoB w0 W
 r : ∃ fs R, Rdr w0.heap.size W T rb v es fs ls R F ⟨⟨p.im.sh, fn⟩, p.last, p.nums, p.labs, p.ms⟩ N
 f : ∀ m ∈ p.ms, m.k ≠ 0 → ∃ f, fn[m.fn]? = some f ∧ m.pl < f.bd.length
theorem SetI.keepN {w0 W W' : World} {T : Nat → Tg} {rb : Nat} {v : RV} {es : List I.SE} {ls : List LE} {F : Tg → Option Mp} {p : PS} {N : Nat} {fn : List _root_.Go.Proofs.YtgnooffedmeenaaGreatDoor.F.Fu} (h : SetI w0 T rb v es ls F p N fn W) (hk : Keep NoB W W') : SetI w0 T rb v es ls F p N fn W' := by
 obtain ⟨h1, ⟨fs, R, h2⟩, h3⟩ := h
 exact ⟨_root_.Go.Proofs.YtgnooffedmeenaaGreatDoor.keepN h1 hk, ⟨fs, R, h2.keepN hk⟩, h3⟩
def SetR (w0 : World) (T : Nat → Tg) (rb : Nat) (p : PS) (N ln : Nat) (e : Ending) (W' : World) : Prop :=
 Keep NoB w0 W' ∧ ((∃ l c, pSettle p p.im.fn p.ms = .inr (l, c) ∧ e = .returned (.tuple #[.int .i64 (l : Int), .int .i64 c])) ∨ (∃ fn, pSettle p p.im.fn p.ms = .inl fn ∧ e = .returned (.tuple #[.int .i64 0, .int .i64 0]) ∧ RdAt w0 W' T rb ⟨⟨p.im.sh, fn⟩, p.last, p.nums, p.labs, p.ms⟩ N ln))
theorem men_cells {B : Nat} {W : World} {T : Nat → Tg} {rb : Nat} {v : RV} {es : List I.SE} {fs : List I.FE} {ls : List LE} {R : Tg → Row} {F : Tg → Option Mp} {p : PS} {N : Nat} (h : Rdr B W T rb v es fs ls R F p N) : v.nm = p.ms.length ∧ ∀ k (hk : k < p.ms.length), ∃ g, v.M = some ⟨g, 0, none⟩ ∧ ∀ j u, j < 6 → (mnC v.mb ls p.ms[k])[j]? = some u → W.cell? ⟨g, k * 6 + j, none⟩ = some u := by
 have hrow := h.pa.row .mn ⟨Tg.noConfusion, Tg.noConfusion⟩
 rw [h.rmn] at hrow
 have hlen : (mvs v.mb ls p.ms).length = v.nm * 6 := hrow.1.1
 rw [mvs_length] at hlen
 refine ⟨by omega, fun k hk => ?_⟩
 obtain ⟨A, c, e, _, _, hr, ho⟩ := Own.form hrow
 injection e with e1 e2 e3
 obtain ⟨g, off, rfl, hcs⟩ := hr (by show 0 < (mvs v.mb ls p.ms).length; rw [mvs_length]; omega)
 have h2 := (ho _ rfl).2
 injection h2 with _ h3
 subst h3
 refine ⟨g, e1, fun j u hj hu => ?_⟩
 have := hcs (k * 6 + j) u (by rw [mvs_at _ _ _ _ _ hk hj]; exact hu)
 rw [Nat.zero_add] at this
 exact this

theorem fun_cells {B : Nat} {W : World} {T : Nat → Tg} {rb : Nat} {v : RV} {es : List I.SE} {fs : List I.FE} {ls : List LE} {R : Tg → Row} {F : Tg → Option Mp} {p : PS} {N : Nat} (h : Rdr B W T rb v es fs ls R F p N) : v.ny = fs.length ∧ ∀ k (hk : k < fs.length), ∃ g, v.Y = some ⟨g, 0, none⟩ ∧ ∀ j u, j < 5 → fs[k].1.cells.toList[j]? = some u → W.cell? ⟨g, k * 5 + j, none⟩ = some u := by
 have hrow := h.pa.row .fn ⟨Tg.noConfusion, Tg.noConfusion⟩
 rw [h.rfn] at hrow
 have hlen : (I.fvs fs).length = v.ny * 5 := hrow.1.1
 rw [I.fvs_length] at hlen
 refine ⟨by omega, fun k hk => ?_⟩
 obtain ⟨A, c, e, _, _, hr, ho⟩ := Own.form hrow
 injection e with e1 e2 e3
 obtain ⟨g, off, rfl, hcs⟩ := hr (by show 0 < (I.fvs fs).length; rw [I.fvs_length]; omega)
 have h2 := (ho _ rfl).2
 injection h2 with _ h3
 subst h3
 refine ⟨g, e1, fun j u hj hu => ?_⟩
 have := hcs (k * 5 + j) u (by rw [I.fvs_at _ _ _ hk hj]; exact hu)
 rw [Nat.zero_add] at this
 exact this
theorem fn_at {es : List I.SE} {fs : List I.FE} {im : I.Im} (h : I.imOf es fs = im) {i : Nat} {f : _root_.Go.Proofs.YtgnooffedmeenaaGreatDoor.F.Fu} (hf : im.fn[i]? = some f) : ∃ hi : i < fs.length, fs[i].2 = f := by
 have h1 : (fs.map fun e => e.2) = im.fn := congrArg I.Im.fn h
 rw [← h1, List.getElem?_map] at hf
 obtain ⟨e, h2, h3⟩ := Option.map_eq_some_iff.1 hf
 obtain ⟨hi, h4⟩ := List.getElem?_eq_some_iff.1 h2
 exact ⟨hi, by rw [h4, h3]⟩
theorem among_some {p : PS} {m : Mn} {x L : Nat} (hG : GP p L) (h : amongP p m = some x) : m.k ≠ 0 ∧ x ≤ L := by
 unfold amongP at h
 split at h
 ·cases h
 ·rename_i h0
  refine ⟨h0, ?_⟩
  split at h
  ·obtain ⟨l, h1, h2⟩ := Option.bind_eq_some_iff.1 h
   exact hG.la l (List.mem_of_getElem? h1) _ _ h2
  ·exact hG.nu _ _ h
theorem put_ok {p : PS} {fn : List _root_.Go.Proofs.YtgnooffedmeenaaGreatDoor.F.Fu} (h : ∀ m ∈ p.ms, m.k ≠ 0 → ∃ f, fn[m.fn]? = some f ∧ m.pl < f.bd.length) (m0 : Mn) (x : Nat) : ∀ m ∈ p.ms, m.k ≠ 0 → ∃ f, (putM m0 x fn)[m.fn]? = some f ∧ m.pl < f.bd.length := by
 intro m hm hk
 obtain ⟨f, h1, h2⟩ := h m hm hk
 by_cases e : m0.fn = m.fn
 ·exact ⟨{ f with bd := f.bd.modify m0.pl (putB (x : Int)) }, by unfold putM; simp [h1, e], by simpa using h2⟩
 ·exact ⟨f, by unfold putM; simp [h1, e], h2⟩

set_option maxRecDepth 100000 in
set_option maxHeartbeats 8000000 in
theorem settle_any (w0 W : World) (T : Nat → Tg) (rb : Nat) (p : PS) (N ln L : Nat) (h : RdAt w0 W T rb p N ln) (hN : N ≤ 300000) (hG : GP p L) (hL : L ≤ 300000) :
  Calls Tryz.prog 128 #[.pointer (some ⟨rb, 0, none⟩)] W (SetR w0 T rb p N ln) := by
 obtain ⟨hk0, v, es, fs, ls, R, F, hln, hr⟩ := h
 have hI : Hid (SetI w0 T rb v es ls F p N p.im.fn W) := ⟨hk0, ⟨fs, R, hr⟩, hG.ms⟩
 obtain ⟨_, _, _, _, _, _, c6⟩ := rd_cells hr.bk
 obtain ⟨hnm, _⟩ := men_cells hr
 have hmb := hr.bm
 have HG := Lib.hid hG
 have HLn := Lib.hid hln
 clear hr hk0 hln hG
 rw [hnm] at c6
 obtain ⟨M, hM⟩ : ∃ M, p.ms.length = M := ⟨_, rfl⟩
 have HM := Lib.hid hM
 rw [hM] at c6 hmb
 clear hM hnm
 go_enter Tryz.func128, Tryz.ntmps128
 go_wp2
 go_loopw [13] (fun i wr => ∃ (k : Nat) (fn : List _root_.Go.Proofs.YtgnooffedmeenaaGreatDoor.F.Fu), k ≤ M ∧ i = .int .i64 (k : Int) ∧ Hid (pSettle p p.im.fn p.ms = pSettle p fn (p.ms.drop k)) ∧ Hid (SetI w0 T rb v es ls F p N fn wr)) (fun i _ => M - (intOf i).toNat)
 case atStart => exact ⟨0, p.im.fn, Nat.zero_le _, rfl, rfl, hI⟩
 case round =>
  obtain ⟨k, fn, hk, rfl, HS, HI⟩ := hrel
  by_cases hkM : k = M
  ·subst hkM
   have hkk : ¬ ((k : Int) < (k : Int)) := by omega
   go_wp2
   refine bodyPost_ret (results_tmp2 rfl _ _ _) rfl ?_
   have h1 := HS.out
   rw [← HM.out, List.drop_length] at h1
   obtain ⟨g1, ⟨fs', R', g2⟩, g3⟩ := HI.out
   exact ⟨g1, .inr ⟨fn, h1, rfl, g1, v, es, fs', ls, R', F, HLn.out, g2⟩⟩
  ·have hkk : k < M := by omega
   have hki : (k : Int) < (M : Int) := by omega
   obtain ⟨m, hm⟩ : ∃ m, p.ms[k]? = some m := ⟨_, List.getElem?_eq_getElem (by rw [HM.out]; exact hkk)⟩
   obtain ⟨g1, ⟨fs', R', g2⟩, g3⟩ := HI.out
   have hmem : m ∈ p.ms := List.mem_of_getElem? hm
   have hlk := men_look g2 hmem (HG.out.sz m hmem)
   obtain ⟨gM, hvM, hcM⟩ := (men_cells g2).2 k (by rw [HM.out]; exact hkk)
   have hge : p.ms[k]'(by rw [HM.out]; exact hkk) = m := by
    have := List.getElem?_eq_some_iff.1 hm
    exact this.2
   dsimp only at hcM
   rw [hge] at hcM
   have m0 := hcM 0 _ (by omega) rfl
   rw [Nat.add_zero] at m0
   have m1 := hcM 1 _ (by omega) rfl
   have m2 := hcM 2 _ (by omega) rfl
   have m3 := hcM 3 _ (by omega) rfl
   have m4 := hcM 4 _ (by omega) rfl
   have m5 := hcM 5 _ (by omega) rfl
   have HD : Hid (p.ms.drop k = m :: p.ms.drop (k + 1)) := by
    have := List.drop_eq_getElem_cons (l := p.ms) (i := k) (by rw [HM.out]; exact hkk)
    rw [hge] at this
    exact this
   have hla : amongP (⟨⟨p.im.sh, fn⟩, p.last, p.nums, p.labs, p.ms⟩ : PS) m = amongP p m := rfl
   rw [hla] at hlk
   have HMm := Lib.hid hmem
   clear hcM hge hm hla hmem g1 g2 g3
   obtain ⟨r, hr⟩ : ∃ r, amongP p m = r := ⟨_, rfl⟩
   have HR := Lib.hid hr
   rw [hr] at hlk
   clear hr
   have hlk := hlk _ ((Keep.refl NoB wr).alloc (.cells #[.int .i64 (m.ln : Int), .int .i64 (m.fn : Int), .int .i64 (m.pl : Int), .string (str m.s), .map (among v.mb ls m), .int .i64 (wrongM m)] 239))
   obtain ⟨S, hS⟩ : ∃ S, str m.s = S := ⟨_, rfl⟩
   rw [hS] at m3 hlk
   obtain ⟨am, ham⟩ : ∃ am, among v.mb ls m = am := ⟨_, rfl⟩
   rw [ham] at m4 hlk
   obtain ⟨wc, hwc⟩ : ∃ wc, wrongM m = wc := ⟨_, rfl⟩
   rw [hwc] at m5 hlk
   rw [hvM]
   cases r with
   | none =>
    simp only [Option.isSome_none, Option.getD_none] at hlk
    have hset : pSettle p p.im.fn p.ms = .inr (m.ln, wrongM m) := by rw [HS.out, HD.out, pSettle, HR.out]
    rw [hwc] at hset
    have HSet := Lib.hid hset
    clear hset
    go_wp2_with fail
    have HI2 := Lib.hid (HI.out.keepN ((Keep.refl NoB wr).alloc (.cells #[.int .i64 (m.ln : Int), .int .i64 (m.fn : Int), .int .i64 (m.pl : Int), .string S, .map am, .int .i64 wc] 239)))
    have bm := Blk.new wr 239 #[.int .i64 (m.ln : Int), .int .i64 (m.fn : Int), .int .i64 (m.pl : Int), .string S, .map am, .int .i64 wc]
    have z0 := bm.cell 0
    have z5 := bm.cell 5
    simp only [List.getElem?_toArray, List.getElem?_cons_zero, List.getElem?_cons_succ] at z0 z5
    generalize wr.alloc (.cells #[.int .i64 (m.ln : Int), .int .i64 (m.fn : Int), .int .i64 (m.pl : Int), .string S, .map am, .int .i64 wc] 239) = W1 at *
    generalize wr.heap.size = gb at *
    clear hlk m0 m1 m2 m3 m4 m5 bm
    go_quiet (fail)
    go_wp2
    refine bodyPost_ret (results_tmp2 rfl _ _ _) rfl ?_
    exact ⟨HI2.out.k.drewN _, .inl ⟨m.ln, wc, HSet.out, rfl⟩⟩
   | some x =>
    simp only [Option.isSome_some, Option.getD_some] at hlk
    go_wp2_with fail
    have HI2 := Lib.hid (HI.out.keepN ((Keep.refl NoB wr).alloc (.cells #[.int .i64 (m.ln : Int), .int .i64 (m.fn : Int), .int .i64 (m.pl : Int), .string S, .map am, .int .i64 wc] 239)))
    have bm := Blk.new wr 239 #[.int .i64 (m.ln : Int), .int .i64 (m.fn : Int), .int .i64 (m.pl : Int), .string S, .map am, .int .i64 wc]
    have z1 := bm.cell 1
    have z2 := bm.cell 2
    simp only [List.getElem?_toArray, List.getElem?_cons_zero, List.getElem?_cons_succ] at z1 z2
    generalize wr.alloc (.cells #[.int .i64 (m.ln : Int), .int .i64 (m.fn : Int), .int .i64 (m.pl : Int), .string S, .map am, .int .i64 wc] 239) = W1 at *
    generalize wr.heap.size = gb at *
    clear hlk m0 m1 m2 m3 m4 m5 bm
    obtain ⟨hk0, hxL⟩ := among_some HG.out HR.out
    obtain ⟨g1, ⟨fs1, R1, g2⟩, g3⟩ := HI2.out
    obtain ⟨f, hf1, hf2⟩ := g3 m HMm.out hk0
    obtain ⟨hi, hfe⟩ := fn_at g2.im hf1
    obtain ⟨hny, hfc⟩ := fun_cells g2
    obtain ⟨gY, hvY, hcY⟩ := hfc m.fn hi
    obtain ⟨_, d1, _⟩ := rd_cells g2.bk
    rw [hvY, hny] at d1
    have y3 := hcY 4 _ (by omega) (show fs1[m.fn].1.cells.toList[4]? = some (.slice fs1[m.fn].1.D fs1[m.fn].1.nd fs1[m.fn].1.cd) from rfl)
    obtain ⟨d, hD, hTd, hfz, ⟨u, hu⟩, hnd, hrn, fs2, R2, g4⟩ := rdr_put (g2.keepN (Keep.refl NoB W1).drew) g1.size m.fn hi m.pl (by rw [hfe]; exact hf2) x (by omega)
    rw [hD] at y3
    rw [hnd, hfe] at y3
    have hif : (0 : Int) ≤ (m.fn : Int) ∧ (m.fn : Int) < (fs1.length : Int) := by omega
    have hip : (0 : Int) ≤ (m.pl : Int) ∧ (m.pl : Int) < (f.bd.length : Int) := by omega
    have HF : Hid (SetI w0 T rb v es ls F p N (putM m x fn) (W1.drew.setCell ⟨d, m.pl * 3 + 1, none⟩ (.int .i64 (x : Int)))) := ⟨keep_rnd (g2.keepN (Keep.refl NoB W1).drew).pa g1.drew hrn, ⟨fs2, R2, g4⟩, put_ok g3 m x⟩
    go_still_tail 15, (by kernel_rfl)
    change wpList _ _ _ _ _ W1.drew
    go_wp2_with fail
    go_roundw
    case rel => exact ⟨k + 1, putM m x fn, by omega, by simp, by show _ = _; rw [HS.out, HD.out, pSettle, HR.out], HF⟩
    case measure => simp [intOf]; omega

end Go.Proofs.YtgnooffedmeenaaGreatDoor.M

namespace Go.Proofs.YtgnooffedmeenaaGreatDoor.M
open Go.RowKit Go.Shelf W

def readP (s : Bs) : PS ⊕ (Nat × Int) := if 131072 < s.length then .inr (0, 93) else match pRun ps0 (linesL s) with
 | .inr n => .inr (n, 90)
 | .inl q => match pSettle q q.im.fn q.ms with
  | .inr x => .inr x
  | .inl fn => if I.okI ⟨q.im.sh, fn⟩ = true then .inl ⟨⟨q.im.sh, fn⟩, q.last, q.nums, q.labs, q.ms⟩ else .inr (0, 93)
def ReadMR (s : Bs) (w : World) (e : Ending) (W' : World) : Prop :=
 Keep NoB w W' ∧ ((∃ l c, readP s = .inr (l, c) ∧ e = .returned (.tuple #[.pointer none, .int .i64 ((l : Nat) : Int), .int .i64 c])) ∨ (∃ q rb T N ln, readP s = .inl q ∧ e = .returned (.tuple #[.pointer (some ⟨rb, 0, none⟩), .int .i64 0, .int .i64 0]) ∧ RdAt w W' T rb q N ln ∧ N ≤ 300000))
theorem rdr_own {B : Nat} {W w0 : World} {T : Nat → Tg} {rb : Nat} {v : RV} {es : List I.SE} {fs : List I.FE} {ls : List LE} {R : Tg → Row} {F : Tg → Option Mp} {p : PS} {N : Nat} (h : Rdr B W T rb v es fs ls R F p N) (hB : w0.heap.size = B) (hN : N ≤ 300000) :
  I.OwnIm W (Fresh w0) ⟨v.X, v.nx, v.cx, v.Y, v.ny, v.cy⟩ es fs ∧ I.LgI ⟨v.X, v.nx, v.cx, v.Y, v.ny, v.cy⟩ es fs := by
 subst hB
 have hO : ∀ {t : Tg} {E sz n : Nat} {u : Value} {xs : List Value}, okT t → R t = ⟨E, sz, u, n, xs⟩ → Own W E sz (Fresh w0) u n xs := fun {t E sz n u xs} ht e => by
  have h1 := h.pa.row t ht
  rw [e] at h1
  exact h1.mono (fun k hk _ => (h.pa.fit k (by rw [show T k = mk t from hk]; exact (okT_mk ht).1)).1)
 have hX := hO ⟨Tg.noConfusion, Tg.noConfusion⟩ h.rsh
 have hY := hO ⟨Tg.noConfusion, Tg.noConfusion⟩ h.rfn
 have hxl := hX.1.1
 have hyl := hY.1.1
 rw [I.svs_length] at hxl
 rw [I.fvs_length] at hyl
 have hbx := h.bx
 have hby := h.by_
 refine ⟨⟨hX, hY, fun e he => ?_, fun e he => ?_⟩, by show v.nx ≤ _; omega, by show v.ny ≤ _; omega, fun e he => ?_, fun e he => ?_⟩
 ·obtain ⟨i, hi, rfl⟩ := List.getElem_of_mem he
  exact hO ⟨Tg.noConfusion, Tg.noConfusion⟩ (h.rse i hi)
 ·obtain ⟨i, hi, rfl⟩ := List.getElem_of_mem he
  exact ⟨(h.fnm i hi).1, hO ⟨Tg.noConfusion, Tg.noConfusion⟩ (h.rfa i hi), hO ⟨Tg.noConfusion, Tg.noConfusion⟩ (h.rfb i hi), hO ⟨Tg.noConfusion, Tg.noConfusion⟩ (h.rfl_ i hi), hO ⟨Tg.noConfusion, Tg.noConfusion⟩ (h.rbd i hi), (h.fnm i hi).2⟩
 ·obtain ⟨i, hi, rfl⟩ := List.getElem_of_mem he
  exact h.esm i hi
 ·obtain ⟨i, hi, rfl⟩ := List.getElem_of_mem he
  exact h.fsm i hi
def R0 : Tg → Row
 | .sh => ⟨68, 1, .slice none 0 0, 0, []⟩
 | .fn => ⟨37, 5, .slice none 0 0, 0, []⟩
 | .lb => ⟨141, 2, .slice none 0 0, 0, []⟩
 | .mn => ⟨239, 6, .slice none 0 0, 0, []⟩
 | _ => row0
theorem r0_own (t : Tg) (W : World) (P : Nat → Prop) : (R0 t).own W P := by cases t <;> exact Own.nil _ _ _ _
theorem rdr_start {w W : World} {mb rb : Nat} (hk : Keep NoB w W) (hM : OMap Tryz.prog 9 3 mb 0 (fun _ => none) W) (hb : Blk W rb 115 #[.slice none 0 0, .slice none 0 0, .int .i64 0, .int .i64 0, .map (some mb), .slice none 0 0, .slice none 0 0]) (hne : mb ≠ rb) (h1 : w.heap.size ≤ mb) (h2 : w.heap.size ≤ rb) :
  ∃ T, RdAt w W T rb ps0 0 0 := by
 refine ⟨fun k => if k = rb then .rd else if k = mb then .nu else .no, hk, ⟨none, 0, 0, none, 0, 0, 0, 0, mb, none, 0, 0, none, 0, 0⟩, [], [], [], R0, fun t => if t = .nu then some ⟨mb, 0, fun _ => none⟩ else none, rfl, ?_⟩
 refine { pa := ⟨fun t _ => r0_own t W _, fun t m hm => ?_, fun k hk2 => ?_⟩, bk := hb, tb := if_pos rfl, rsh := rfl, rse := fun i hi => absurd hi (Nat.not_lt_zero _), rfn := rfl, rfa := fun i hi => absurd hi (Nat.not_lt_zero _), rfb := fun i hi => absurd hi (Nat.not_lt_zero _), rfl_ := fun i hi => absurd hi (Nat.not_lt_zero _), rbd := fun i hi => absurd hi (Nat.not_lt_zero _), fnm := fun i hi => absurd hi (Nat.not_lt_zero _), rlb := rfl, rnm := fun i hi => absurd hi (Nat.not_lt_zero _), rmn := rfl, fnu := ⟨0, Nat.le_refl _, rfl⟩, fpl := fun i hi => absurd hi (Nat.not_lt_zero _), fno := fun t _ h => if_neg h, rno := ⟨rfl, fun _ => rfl⟩, im := rfl, lb := rfl, lf := rfl, la := rfl, bx := Nat.le_refl _, by_ := Nat.le_refl _, bm := Nat.le_refl _, bd := fun i hi => absurd hi (Nat.not_lt_zero _), bl := fun i hi => absurd hi (Nat.not_lt_zero _), esm := fun i hi => absurd hi (Nat.not_lt_zero _), fsm := fun i hi => absurd hi (Nat.not_lt_zero _), wm := fun m hm => (List.not_mem_nil hm).elim }
 ·split at hm
  ·rename_i e
   subst e
   cases hm
   refine ⟨hM, ?_, ⟨Tg.noConfusion, Tg.noConfusion⟩, rfl, by intro t e; cases t <;> first | exact e | cases e⟩
   show (if mb = rb then Tg.rd else if mb = mb then .nu else .no) = .nu
   rw [if_neg hne, if_pos rfl]
  ·cases hm
 ·by_cases e : k = rb
  ·subst e; exact ⟨h2, hb.lt⟩
  ·by_cases e2 : k = mb
   ·subst e2; exact ⟨h1, hM.lt⟩
   ·exact absurd (show (if k = rb then Tg.rd else if k = mb then .nu else .no) = .no by rw [if_neg e, if_neg e2]) hk2
theorem settle_wrong {p : PS} {l : Nat} {c : Int} : ∀ (ms : List Mn) (fn : List _root_.Go.Proofs.YtgnooffedmeenaaGreatDoor.F.Fu), pSettle p fn ms = .inr (l, c) → c ≠ 0
 | [], fn, h => by cases h
 | m :: r, fn, h => by
  rw [pSettle] at h
  split at h
  ·injection h with h
   injection h with _ h
   rw [← h]
   unfold wrongM
   split <;> decide
  ·exact settle_wrong r _ h
theorem ones_len : ∀ (n : Nat) (l : List Bs), (ones n l).length ≤ l.length
 | _, [] => Nat.le_refl _
 | n, s :: r => by
  have ih := ones_len (n + 1) r
  rw [ones, List.length_append, List.length_cons]
  unfold one
  split
  ·simp; omega
  ·simp; omega
theorem lines_count (s : Bs) : (linesL s).length ≤ s.length := by
 rw [lines_segs]
 exact Nat.le_trans (ones_len 1 _) (segs_count s)

set_option maxRecDepth 100000 in
set_option maxHeartbeats 4000000 in
theorem read_any (S : ByteArray) (s : Bs) (w : World) (hE : Hid (EnvM w)) (hs : Hid (S.data.toList = s)) (hl : S.size ≤ 140000) :
  Calls Tryz.prog 59 #[.string S] w (ReadMR s w) := by
 have hsz := size_of hs.out
 by_cases h1 : 131072 < s.length
 ·have hR : readP s = .inr (0, 93) := if_pos h1
  have hgt : (131072 : Int) < (S.size : Int) := by omega
  go_enter Tryz.func59, Tryz.ntmps59
  go_wp2
  refine bodyPost_ret (results_tmp3 rfl _ _ _) rfl ?_
  exact ⟨Keep.refl _ _, .inl ⟨0, 93, hR, rfl⟩⟩
 ·have hngt : ¬ (131072 : Int) < (S.size : Int) := by omega
  have hmm := @run_makeMap Tryz.prog
  have hk1 := ((Keep.refl NoB w).alloc (.map #[] 0)).alloc (.cells #[.slice none 0 0, .slice none 0 0, .int .i64 0, .int .i64 0, .map (some w.heap.size), .slice none 0 0, .slice none 0 0] 115)
  have hM := (OMap.new Tryz.prog 9 3 w).keep ((Keep.refl NoB _).alloc (.cells #[.slice none 0 0, .slice none 0 0, .int .i64 0, .int .i64 0, .map (some w.heap.size), .slice none 0 0, .slice none 0 0] 115)) id
  have hb := Blk.new (w.alloc (.map #[] 0)) 115 #[.slice none 0 0, .slice none 0 0, .int .i64 0, .int .i64 0, .map (some w.heap.size), .slice none 0 0, .slice none 0 0]
  rw [World.size_alloc] at hb
  obtain ⟨T, hT⟩ := rdr_start hk1 hM hb (by omega) (Nat.le_refl _) (by omega)
  have HL := Lib.hid (readLines_any w _ T _ hE hT S s hs hl)
  have hP : readP s = _ := if_neg h1
  have HP := Lib.hid hP
  clear hk1 hM hb hT hP
  go_enter Tryz.func59, Tryz.ntmps59
  go_wp2_with fail
  refine HL.out.mono ?_
  rintro e w2 ⟨k2, ⟨n, hp, rfl⟩ | ⟨q, T2, N, ln, hp, rfl, hr2, hN⟩⟩
  ·have hR : readP s = .inr (n, 90) := by rw [HP.out, hp]
   go_wp2
   refine bodyPost_ret (results_tmp3 rfl _ _ _) rfl ?_
   exact ⟨k2, .inl ⟨n, 90, hR, rfl⟩⟩
  ·have hG := GP.start.run (linesL s) hp
   have hLc := lines_count s
   have HSe := Lib.hid (settle_any w w2 T2 _ q N ln _ hr2 (by omega) hG (by omega))
   rw [hp] at HP
   have HP2 := Lib.hid (show readP s = (match pSettle q q.im.fn q.ms with
    | .inr x => .inr x
    | .inl fn => if I.okI ⟨q.im.sh, fn⟩ = true then .inl ⟨⟨q.im.sh, fn⟩, q.last, q.nums, q.labs, q.ms⟩ else .inr (0, 93)) from HP.out)
   clear hp hr2 hG k2 HP HL hmm hLc
   generalize w.heap.size + 1 = rb at *
   go_wp2_with fail
   refine HSe.out.mono ?_
   rintro e w3 ⟨k3, ⟨l, c, hp, rfl⟩ | ⟨fn, hp, rfl, hr3⟩⟩
   ·have hR : readP s = .inr (l, c) := by rw [HP2.out, hp]
    have HR := Lib.hid hR
    have hc := settle_wrong _ _ hp
    clear hp hR
    have hc2 : (c == 0) = false := by rw [beq_eq_false_iff_ne]; exact hc
    go_wp2
    refine bodyPost_ret (results_tmp3 rfl _ _ _) rfl ?_
    exact ⟨k3, .inl ⟨l, c, HR.out, rfl⟩⟩
   ·have hR : readP s = (if I.okI ⟨q.im.sh, fn⟩ = true then .inl ⟨⟨q.im.sh, fn⟩, q.last, q.nums, q.labs, q.ms⟩ else .inr (0, 93)) := by rw [HP2.out, hp]
    have HR := Lib.hid hR
    have HR3 := Lib.hid hr3
    obtain ⟨hk3, v, es, fs, ls, R, F, hln, hr4⟩ := hr3
    obtain ⟨ho, hlg⟩ := rdr_own hr4 rfl (by omega)
    obtain ⟨c0, c1, _⟩ := rd_cells hr4.bk
    have him := hr4.im
    have HC := Lib.hid (I.check_any ⟨v.X, v.nx, v.cx, v.Y, v.ny, v.cy⟩ es fs w3 ho.im hlg (I.chkI ⟨q.im.sh, fn⟩) (by show _ = _; rw [him]))
    unfold I.IV.val I.IV.cells at HC
    clear hp hR hr4 hk3 hln ho hlg him
    cases hok : I.okI ⟨q.im.sh, fn⟩ with
    | true =>
     rw [if_pos hok] at HR
     rw [I.chkI_ok hok] at HC
     go_wp2_with fail
     refine HC.out.mono ?_
     rintro e w4 ⟨rfl, k4⟩
     go_wp2
     refine bodyPost_ret (results_tmp3 rfl _ _ _) rfl ?_
     exact ⟨keepN k3 k4, .inr ⟨_, rb, T2, N, ln, HR.out, rfl, HR3.out.keepN k4, by omega⟩⟩
    | false =>
     rw [if_neg (by rw [hok]; decide)] at HR
     rw [I.chkI_no hok] at HC
     go_wp2_with fail
     refine HC.out.mono ?_
     rintro e w4 ⟨rfl, k4⟩
     go_wp2
     refine bodyPost_ret (results_tmp3 rfl _ _ _) rfl ?_
     exact ⟨keepN k3 k4, .inl ⟨0, 93, HR.out, rfl⟩⟩

end Go.Proofs.YtgnooffedmeenaaGreatDoor.M

namespace Go.Proofs.YtgnooffedmeenaaGreatDoor.I
open Go.RowKit W

theorem sm_ok {w : World} {v : IV} {es : List SE} {fs : List FE} (h : ImAt w v es fs) (ho : okI (imOf es fs) = true) : SmI es fs ∧ LgI v es fs := by
 obtain ⟨⟨h1, ⟨_, h2⟩, _⟩, h3, h4⟩ := (okI_iff _).1 ho
 refine sm_of h ⟨by simpa [imOf] using h1, by simpa [imOf] using h2, fun e he => List.all_eq_true.1 h3 _ ?_, fun e he => List.all_eq_true.1 h4 _ ?_⟩
 ·exact List.mem_map.2 ⟨e, he, rfl⟩
 ·exact List.mem_map.2 ⟨e, he, rfl⟩
end Go.Proofs.YtgnooffedmeenaaGreatDoor.I

namespace Go.Proofs.YtgnooffedmeenaaGreatDoor.M
open Go.RowKit Go.Shelf W

def outP : PS ⊕ (Nat × Int) → I.Im × Nat × Int
 | .inr x => (I.nilI, x.1, x.2)
 | .inl q => (q.im, 0, 0)
theorem readP_ok {s : Bs} {q : PS} (h : readP s = .inl q) : I.okI q.im = true := by
 unfold readP at h
 split at h
 ·cases h
 ·split at h
  ·cases h
  ·split at h
   ·cases h
   ·split at h
    ·rename_i ho
     cases h; exact ho
    ·cases h
theorem readP_no {s : Bs} {l : Nat} {c : Int} (h : readP s = .inr (l, c)) : c ≠ 0 := by
 unfold readP at h
 split at h
 ·cases h; decide
 ·split at h
  ·cases h; decide
  ·split at h
   ·rename_i hp
    cases h
    exact settle_wrong _ _ hp
   ·split at h
    ·cases h
    ·cases h; decide
theorem nil_sm : I.SmI [] [] := ⟨by decide, by decide, (fun _ h => nomatch h), (fun _ h => nomatch h)⟩

set_option maxRecDepth 100000 in
set_option maxHeartbeats 4000000 in
theorem parse_any (S : ByteArray) (s : Bs) (w : World) (hE : Hid (EnvM w)) (hs : Hid (S.data.toList = s)) (hl : S.size ≤ 140000) :
  Calls Tryz.prog 31 #[.string S] w (ParseR (outP (readP s)) w) := by
 have hk1 := (Keep.refl NoB w).alloc (.cells #[.slice none 0 0, .slice none 0 0] 25)
 have bp := Blk.new w 25 #[.slice none 0 0, .slice none 0 0]
 have HRd := Lib.hid (read_any S s _ (Lib.hid (hE.out.keep hk1)) hs hl)
 have HK := Lib.hid hk1
 clear hk1
 go_enter Tryz.func31, Tryz.ntmps31
 go_wp2_with fail
 refine HRd.out.mono ?_
 rintro e w2 ⟨k2, ⟨l, c, hp, rfl⟩ | ⟨q, rb, T, N, ln, hp, rfl, hr, hN⟩⟩
 ·have hc := readP_no hp
  have hc2 : (c == 0) = false := by rw [beq_eq_false_iff_ne]; exact hc
  have b2 := bp.keep k2 id
  have z0 := b2.cell 0
  have z1 := b2.cell 1
  have zf := fun i => b2.frozen i
  have zl := b2.lt
  simp only [List.getElem?_toArray, List.getElem?_cons_zero, List.getElem?_cons_succ] at z0 z1
  have HP := Lib.hid hp
  have HB := Lib.hid b2
  clear hp HRd bp b2
  go_wp2
  have b9 := (HB.out.put 0 (.slice none 0 0)).put 1 (.slice none 0 0)
  have o0 := b9.cell 0
  have o1 := b9.cell 1
  simp only [List.setIfInBounds_toArray, List.set_cons_zero, List.set_cons_succ, List.getElem?_toArray, List.getElem?_cons_zero, List.getElem?_cons_succ] at o0 o1
  refine bodyPost_ret (v := .tuple #[.agg #[.slice none 0 0, .slice none 0 0], .int .i64 ((l : Nat) : Int), .int .i64 c]) (by simp [results, Tryz.results31, go_sem, o0, o1]) rfl ?_
  rw [HP.out]
  exact ⟨I.nilW, [], [], rfl, I.nil_own _ _, nil_sm, rfl, ((keepN HK.out k2).setCell (p := ⟨w.heap.size, 0, none⟩) (fun h => absurd h (Nat.lt_irrefl _)) _).setCell (p := ⟨w.heap.size, 1, none⟩) (fun h => absurd h (Nat.lt_irrefl _)) _⟩
 ·have b2 := bp.keep k2 id
  have z0 := b2.cell 0
  have z1 := b2.cell 1
  have zf := fun i => b2.frozen i
  have zl := b2.lt
  simp only [List.getElem?_toArray, List.getElem?_cons_zero, List.getElem?_cons_succ] at z0 z1
  have HP := Lib.hid hp
  have HR := Lib.hid hr
  obtain ⟨hk3, v, es, fs, ls, R, F, hln, hr4⟩ := hr
  obtain ⟨c0, c1, _⟩ := rd_cells hr4.bk
  have hne : w.heap.size ≠ rb := fun e => by
   have h1 := (hr4.pa.fit rb (by rw [hr4.tb]; exact Tg.noConfusion)).1
   simp at h1
   omega
  have hne2 := hne.symm
  have HR4 := Lib.hid hr4
  have HN := Lib.hid hN
  have HB := Lib.hid b2
  clear hp HRd bp b2 hr4 hk3 hln
  go_wp2
  have b9 := (HB.out.put 0 (.slice v.X v.nx v.cx)).put 1 (.slice v.Y v.ny v.cy)
  have o0 := b9.cell 0
  have o1 := b9.cell 1
  simp only [List.setIfInBounds_toArray, List.set_cons_zero, List.set_cons_succ, List.getElem?_toArray, List.getElem?_cons_zero, List.getElem?_cons_succ] at o0 o1
  refine bodyPost_ret (v := .tuple #[.agg #[.slice v.X v.nx v.cx, .slice v.Y v.ny v.cy], .int .i64 0, .int .i64 0]) (by simp [results, Tryz.results31, go_sem, o0, o1]) rfl ?_
  rw [HP.out]
  obtain ⟨ho, _⟩ := rdr_own (w0 := w.alloc (.cells #[.slice none 0 0, .slice none 0 0] 25)) HR4.out rfl HN.out
  have hsm := (I.sm_ok ho.im (by rw [HR4.out.im]; exact readP_ok HP.out)).1
  have hkb : Keep (fun k => k = w.heap.size) w2 ((w2.setCell ⟨w.heap.size, 0, none⟩ (.slice v.X v.nx v.cx)).setCell ⟨w.heap.size, 1, none⟩ (.slice v.Y v.ny v.cy)) := ((Keep.refl (fun k => k = w.heap.size) w2).setCell (p := ⟨w.heap.size, 0, none⟩) (fun _ => rfl) _).setCell (p := ⟨w.heap.size, 1, none⟩) (fun _ => rfl) _
  have ho2 := ho.keep hkb (fun k hk e => by unfold Fresh at hk; rw [World.size_alloc] at hk; omega)
  exact ⟨⟨v.X, v.nx, v.cx, v.Y, v.ny, v.cy⟩, es, fs, rfl, ho2.mono (fun k hk _ => by unfold Fresh at hk ⊢; rw [World.size_alloc] at hk; omega), hsm, HR4.out.im, ((keepN HK.out k2).setCell (p := ⟨w.heap.size, 0, none⟩) (fun h => absurd h (Nat.lt_irrefl _)) _).setCell (p := ⟨w.heap.size, 1, none⟩) (fun h => absurd h (Nat.lt_irrefl _)) _⟩

end Go.Proofs.YtgnooffedmeenaaGreatDoor.M

namespace Go.Proofs.YtgnooffedmeenaaGreatDoor.M
open Go.RowKit

theorem words_ne (s : Bs) : ∀ w ∈ wordsL s, w ≠ [] := by
 have hfl : ∀ cur : Bs, ∀ w ∈ fl cur, w ≠ [] := by
  intro cur w hw
  by_cases h : cur = []
  ·subst h; rw [fl_nil] at hw; cases hw
  ·rw [fl_some h, List.mem_singleton] at hw; subst hw; exact h
 have key : ∀ (s cur : Bs), ∀ w ∈ wgo cur s, w ≠ [] := by
  intro s
  induction s with
  | nil => intro cur w hw; exact hfl cur w hw
  | cons c r ih =>
   intro cur w hw
   rw [wgo] at hw
   split at hw
   ·exact hfl cur w hw
   ·split at hw
    ·rcases List.mem_append.1 hw with hw | hw
     ·exact hfl cur w hw
     ·exact ih [] w hw
    ·exact ih _ w hw
 exact key s []
theorem lines_ne (s : Bs) : ∀ l ∈ linesL s, ∀ w ∈ l.2, w ≠ [] := by
 rw [lines_segs]
 have key : ∀ (ls : List Bs) (n : Nat), ∀ l ∈ ones n ls, ∀ w ∈ l.2, w ≠ [] := by
  intro ls
  induction ls with
  | nil => intro n l hl; cases hl
  | cons s r ih =>
   intro n l hl
   rw [ones, List.mem_append] at hl
   rcases hl with hl | hl
   ·unfold one at hl
    split at hl
    ·cases hl
    ·rw [List.mem_singleton.1 hl]; exact words_ne s
   ·exact ih _ l hl
 exact key _ _

theorem opAt_put (x : Nm) (v : Int) (fn : List F.Fu) (y : Nm) : opAt (putA x v fn) y = opAt fn y := by
 unfold opAt putA
 rw [List.getElem?_modify]
 cases fn[y.fn]? with
 | none => rfl
 | some f =>
  by_cases e : x.fn = y.fn
  ·simp only [e, if_true, Option.map_eq_map, Option.map_some, Option.bind_some]
   rw [List.getElem?_modify]
   cases f.bd[y.pl]? with
   | none => rfl
   | some z =>
    by_cases e2 : x.pl = y.pl <;> simp [e2, putB]
  ·simp [e]
theorem findI_put (x : Nm) (v : Int) (fn : List F.Fu) (s : Bs) : I.findI (putA x v fn) s = I.findI fn s := by
 have key : ∀ l : List F.Fu, I.findI l s = (l.map F.Fu.nm).findIdx? (fun a => decide (a = s)) := fun l => by unfold I.findI; rw [List.findIdx?_map]; rfl
 rw [key, key]
 congr 1
 apply List.ext_getElem?
 intro k
 unfold putA
 rw [List.getElem?_map, List.getElem?_modify, List.getElem?_map]
 cases fn[k]? with
 | none => rfl
 | some f => by_cases e : x.fn = k <;> simp [e]
theorem kindA_two (op : Int) : kindA op = 0 ∨ kindA op = 1 ∨ kindA op = 2 := by
 unfold kindA
 split
 ·exact .inr (.inl rfl)
 ·split
  ·exact .inr (.inr rfl)
  ·exact .inl rfl
theorem sim_settle {st : St} {p : PS} (h : Sim st p) : ∀ (r pre : List Nm) (fn : List F.Fu), pre ++ r = st.ns → (∀ x, opAt fn x = opAt st.im.fn x) → (∀ s, I.findI fn s = I.findI st.im.fn s) → pSettle p fn (notes st.im.fn pre r) = resL st.ns pre fn r
 | [], pre, fn, _, _, _ => rfl
 | x :: r, pre, fn, he, ho, hf => by
  have hx : x ∈ st.ns := by rw [← he]; simp
  have he2 : (pre ++ [x]) ++ r = st.ns := by rw [← he]; simp
  rw [notes, resL]
  by_cases hl : x.lb = true
  ·rw [if_pos hl, if_pos hl]
   by_cases ha : again pre x = true
   ·rw [if_pos ha, if_pos ha, List.singleton_append, pSettle]
    rfl
   ·rw [if_neg ha, if_neg ha, List.nil_append]
    exact sim_settle h r _ fn he2 ho hf
  ·have hl2 : x.lb = false := by simpa using hl
   have hk0 := h.kd x hx hl2
   rw [if_neg hl, if_neg hl, List.singleton_append, pSettle]
   have hv : valA st.ns fn x = (match amongP p ⟨x.ln, x.fn, x.pl, x.s, kindA (opAt st.im.fn x)⟩ with | some n => .inl n | none => .inr (wrongM ⟨x.ln, x.fn, x.pl, x.s, kindA (opAt st.im.fn x)⟩)) := by
    unfold valA amongP wrongM
    dsimp only
    rw [ho, hf, if_neg hk0]
    rcases kindA_two (opAt st.im.fn x) with e | e | e
    ·exact absurd e hk0
    ·rw [e, if_pos rfl, if_pos rfl, h.labs _ (h.ns x hx).1]
     rfl
    ·rw [e, if_neg (by decide), if_neg (by decide), h.nums]
     rfl
   rw [hv]
   cases amongP p ⟨x.ln, x.fn, x.pl, x.s, kindA (opAt st.im.fn x)⟩ with
   | none => rfl
   | some v =>
    dsimp only
    exact sim_settle h r _ (putA x (v : Int) fn) he2 (fun y => (opAt_put x _ fn y).trans (ho y)) (fun s => (findI_put x _ fn s).trans (hf s))
theorem parse_read (s : Bs) : outP (readP s) = parseL s := by
 unfold readP parseL
 by_cases h1 : 131072 < s.length
 ·rw [if_pos h1, if_pos h1]; rfl
 ·rw [if_neg h1, if_neg h1]
  unfold sayL
  rcases sim_run (linesL s) Sim.start (lines_ne s) with ⟨n, e1, e2⟩ | ⟨st, p, e1, e2, h⟩
  ·rw [e1, e2]; rfl
  ·rw [e1, e2]
   dsimp only
   unfold endL
   rw [h.ms, h.im, sim_settle h st.ns [] st.im.fn rfl (fun _ => rfl) (fun _ => rfl)]
   cases resL st.ns [] st.im.fn st.ns with
   | inr x => rfl
   | inl fn =>
    dsimp only
    by_cases ho : I.okI ⟨st.im.sh, fn⟩ = true
    ·rw [if_pos ho, if_pos ho]; rfl
    ·rw [if_neg ho, if_neg ho]; rfl

end Go.Proofs.YtgnooffedmeenaaGreatDoor.M

namespace Go.Proofs.YtgnooffedmeenaaGreatDoor.M
open Go.RowKit W

/-! ### The chapter's examples -/

end Go.Proofs.YtgnooffedmeenaaGreatDoor.M

namespace Go.Proofs.YtgnooffedmeenaaGreatDoor.M
open Go.RowKit W

end Go.Proofs.YtgnooffedmeenaaGreatDoor.M

namespace Go.Proofs.YtgnooffedmeenaaGreatDoor.M
open Go.RowKit W

theorem parse_t : ParseT EnvM := fun S s W hE hs hl => by
 rw [← parse_read]
 exact parse_any S s W (Lib.hid hE) hs hl
theorem norm_t : NormT EnvM := fun S s W _ hs hl => normal_any S s W hs hl
end Go.Proofs.YtgnooffedmeenaaGreatDoor.M
