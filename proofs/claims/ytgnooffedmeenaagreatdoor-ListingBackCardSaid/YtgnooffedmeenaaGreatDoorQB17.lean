/-
  Part 17 of the proofs of LBackRow, LLabelsRow: what is laid, and what the functions that the law runs answer. Conditions: each theorem names its own.
-/
import Derived.Test.YtgnooffedmeenaaGreatDoorQB16
namespace Go.Proofs.YtgnooffedmeenaaGreatDoor.M
open Go.RowKit W

theorem pFunc_no1 {p : PS} {ws : List Bs} (h : ws.length ≠ 3) : pFunc p ws = none := by
 unfold pFunc; split
 ·exact absurd rfl h
 ·rfl
theorem pFunc_no2 {p : PS} {a b c : Bs} (h : a ≠ funcW) : pFunc p [a, b, c] = none := if_neg (fun h2 => h h2.1)
theorem pFunc_no3 {p : PS} {a b c : Bs} (h : F.okN b = false) : pFunc p [a, b, c] = none := if_neg (fun h2 => by rw [h] at h2; cases h2.2)
theorem pFunc_yes {p : PS} {b c : Bs} (h : F.okN b = true) : pFunc p [funcW, b, c] = (S.rdG c).map fun (g : List Int × List Int) => PS.mk ⟨p.im.sh, p.im.fn ++ [⟨b, g.1, g.2, [], []⟩]⟩ 1 (numsP p b) (p.labs ++ [lb0]) p.ms := if_pos ⟨rfl, h⟩
theorem lit_i64 {n : Nat} (h : n ≤ 1000000) : (Lit.int .i64 (n : Int)).wf = true := by
 have hmin : IntKind.i64.min = -9223372036854775808 := rfl
 have hmax : IntKind.i64.max = 9223372036854775807 := rfl
 simp only [Lit.wf, Bool.and_eq_true, decide_eq_true_eq]
 omega
theorem rd_blkM {w : World} {g : Nat} {t : TypeId} {xs : List Value} (h : Blk w g t xs.toArray) : Rd w (some ⟨g, 0, none⟩) xs := fun _ => ⟨g, 0, rfl, fun j u hu => by rw [Nat.zero_add, h.cell j]; simpa using hu⟩
theorem rd_new2 {w : World} {k : Nat} {t : TypeId} {xs : List Value} (h : w.heap.size = k) : Rd (w.alloc (.cells xs.toArray t)) (some ⟨k, 0, none⟩) xs := by
 subst h; exact rd_blkM (Blk.new w t xs.toArray)
theorem int_zero (w : World) : (zeroValue 3).run Tryz.prog w = .ok (.int .i64 0) w := Tryz.zeroValue3 w
theorem fnM_info : (Tryz.prog.info? 37).map (fun i => (i.zero, i.size, i.bytes)) = some (some (.agg #[.string ⟨#[]⟩, .slice none 0 0, .slice none 0 0, .slice none 0 0, .slice none 0 0]), 5, 112) := by kernel_rfl
theorem lbM_info : (Tryz.prog.info? 141).map (fun i => (i.zero, i.size, i.bytes)) = some (some (.agg #[.slice none 0 0, .map none]), 2, 32) := by kernel_rfl
theorem rdG_fit {s : Bs} {x : List Int × List Int} (h : S.rdG s = some x) : x.1.length ≤ 64 ∧ x.2.length ≤ 64 := by
 unfold S.rdG at h
 split at h
 ·split at h
  ·split at h
   ·rename_i ho
    injection h with h
    subst h
    have := ((S.okG_iff _ _).1 ho).1
    dsimp only
    omega
   ·cases h
  ·cases h
 ·cases h
def AppR (E sz : Nat) (W : World) (v : Value) (n : Nat) (xs ys : List Value) (u : Value) (w : World) : Prop :=
 ∃ Wd Wc A c, u = .slice A (n + 1) c ∧ Keep NoB W Wd ∧ Wd.grownBy Wc v.ownBlock ∧ Wc.ownsRow 0 E sz (.slice A (n + 1) c) (n + 1) (xs ++ ys) ∧ ((Value.slice A (n + 1) c).ownBlock = v.ownBlock ∨ (Value.slice A (n + 1) c).ownBlock = some Wd.heap.size) ∧ Keep NoB Wc w
theorem AppR.keepN {E sz : Nat} {W : World} {v : Value} {n : Nat} {xs ys : List Value} {u : Value} {w w' : World} (h : AppR E sz W v n xs ys u w) (hk : Keep NoB w w') : AppR E sz W v n xs ys u w' := by
 obtain ⟨Wd, Wc, A, c, h1, h2, h3, h4, h5, h6⟩ := h
 exact ⟨Wd, Wc, A, c, h1, h2, h3, h4, h5, _root_.Go.Proofs.YtgnooffedmeenaaGreatDoor.keepN h6 hk⟩
def SFa (W0 : World) (rb : Nat) (Y : Option Addr) (ny cy : Nat) (SN : ByteArray) (A : Option Addr) (na ca : Nat) (B : Option Addr) (nb cb : Nat) (xs : List Value) : Nat → Value → World → Prop
 | 0 => fun u _ => u = .pointer (some ⟨rb, 0, none⟩)
 | 1 => fun u _ => u = .pointer (some ⟨rb, 0, none⟩)
 | 2 => fun u _ => u = .pointer (some ⟨rb, 0, none⟩)
 | 3 => fun u _ => u = .pointer (some ⟨rb, 0, none⟩)
 | 4 => fun u _ => u = .pointer (some ⟨rb, 1, none⟩)
 | 5 => fun u _ => u = .slice Y ny cy
 | 6 => fun u _ => u = .string SN
 | 7 => fun u _ => u = .agg #[.slice A na ca, .slice B nb cb]
 | 8 => fun u _ => u = .agg #[.string SN, .slice A na ca, .slice B nb cb, .slice none 0 0, .slice none 0 0]
 | 9 => fun u w => ∃ g, W0.heap.size ≤ g ∧ u = .slice (some ⟨g, 0, none⟩) 1 1 ∧ Blk w g 37 #[.string SN, .slice A na ca, .slice B nb cb, .slice none 0 0, .slice none 0 0]
 | 10 => AppR 37 5 W0 (.slice Y ny cy) ny xs [.string SN, .slice A na ca, .slice B nb cb, .slice none 0 0, .slice none 0 0]
 | _ => fun _ _ => True
theorem SFa_stable {O : Nat → Prop} (W0 : World) (hO : ∀ k, O k → k < W0.heap.size) (rb : Nat) (Y : Option Addr) (ny cy : Nat) (SN : ByteArray) (A : Option Addr) (na ca : Nat) (B : Option Addr) (nb cb : Nat) (xs : List Value) : ∀ i u w w', i ≠ 10 → SFa W0 rb Y ny cy SN A na ca B nb cb xs i u w → Keep O w w' → SFa W0 rb Y ny cy SN A na ca B nb cb xs i u w'
 | 0, _, _, _, _, h, _ | 1, _, _, _, _, h, _ | 2, _, _, _, _, h, _ | 3, _, _, _, _, h, _ | 4, _, _, _, _, h, _ | 5, _, _, _, _, h, _ | 6, _, _, _, _, h, _ | 7, _, _, _, _, h, _ | 8, _, _, _, _, h, _ => h
 | 9, _, _, _, _, ⟨g, hg, e, hb⟩, hk => ⟨g, hg, e, hb.keep hk (fun h => by have := hO g h; omega)⟩
 | 10, _, _, _, h, _, _ => absurd rfl h
 | _ + 11, _, _, _, _, h, _ => h
theorem own_ne_blk {W : World} {E sz n g : Nat} {v : Value} {xs : List Value} {t : TypeId} {cs : Array Value} (h : W.ownsRow 0 E sz v n xs) (hb : Blk W g t cs) (hne : t ≠ E) : ¬ some g = v.ownBlock := by
 rcases h.2 with ⟨rfl, _⟩ | ⟨g2, cap, cur, rfl, _, hh, _⟩
 ·simp [Value.ownBlock]
 ·intro e
  obtain rfl : g = g2 := by simpa [Value.ownBlock] using e
  unfold Blk at hb
  rw [hb] at hh
  cases hh
  exact hne rfl

set_option maxRecDepth 100000 in
set_option maxHeartbeats 8000000 in
theorem readFunction_any (w0 W : World) (T : Nat → Tg) (rb : Nat) (p : PS) (N ln : Nat) (hE : Hid (EnvM w0)) (h : RdAt w0 W T rb p N ln) (hN : N ≤ 300000) (A : Option Addr) (ws : List Bs) (n c : Nat) (hw : Rd W A (sv ws)) (hn : ws.length = n) (hnc : n ≤ c) (hwl : ∀ x ∈ ws, x.length ≤ 140000) :
  Calls Tryz.prog 197 #[.pointer (some ⟨rb, 0, none⟩), .slice A n c] W (TryR w0 W T rb p N ln (pFunc p ws)) := by
 have HR := Lib.hid h
 obtain ⟨hk0, v, es, fs, ls, R, F, hln, hr⟩ := h
 have HW := Lib.hid hr
 have HK := Lib.hid hk0
 have HLn := Lib.hid hln
 clear hr hk0 hln
 by_cases h1 : n = 3
 ·subst h1
  obtain ⟨a, b, d, rfl⟩ : ∃ a b d, ws = [a, b, d] := by
   match ws, hn with
   | [a, b, d], _ => exact ⟨a, b, d, rfl⟩
  obtain ⟨g, off, rfl, hcs⟩ := sv_at hw (by simp)
  have s0 := hcs 0 (by simp)
  have s1 := hcs 1 (by simp)
  have s2 := hcs 2 (by simp)
  simp only [List.getElem_cons_zero, List.getElem_cons_succ, Nat.add_zero] at s0 s1 s2
  by_cases h3 : a = funcW
  ·subst h3
   have hbl : b.length ≤ 140000 := hwl b (by simp)
   have hdl : d.length ≤ 140000 := hwl d (by simp)
   have hbs : (str b).data.toList = b := by simp
   have hbz : (str b).size ≤ 140000 := by rw [size_of hbs]; exact hbl
   have HN := Lib.hid (_root_.Go.Proofs.YtgnooffedmeenaaGreatDoor.F.named_any (str b) b W (Lib.hid hbs) (by omega) _ (Lib.hid rfl))
   have HRd := Lib.hid (S.readG_any (str d) d W (hE.out.1.lets.keep HK.out) (Lib.hid (by simp)) (by rw [size_of (S := str d) (s := d) (by simp)]; omega))
   have HBS := Lib.hid hbs
   clear hwl hcs hw hn hbs
   generalize str b = SB at *
   generalize str d = SD at *
   cases hok : _root_.Go.Proofs.YtgnooffedmeenaaGreatDoor.F.okN b with
   | false =>
    have HP := Lib.hid (pFunc_no3 (p := p) (a := funcW) (c := d) hok)
    rw [_root_.Go.Proofs.YtgnooffedmeenaaGreatDoor.F.chkN_no hok] at HN
    go_enter Tryz.func197, Tryz.ntmps197
    go_wp2_with fail
    refine HN.out.mono ?_
    rintro e w1 ⟨rfl, rfl⟩
    go_wp2
    go_ret
    exact try_no HR.out (Keep.refl _ _) HP.out
   | true =>
    have HP := Lib.hid (pFunc_yes (p := p) (c := d) hok)
    rw [_root_.Go.Proofs.YtgnooffedmeenaaGreatDoor.F.chkN_ok hok] at HN
    obtain ⟨x, hx⟩ : ∃ x, S.rdG d = x := ⟨_, rfl⟩
    rw [hx] at HRd HP
    unfold S.SgT at HRd
    cases x with
    | none =>
     dsimp only [S.spA, S.spB, S.spE] at HRd
     go_enter Tryz.func197, Tryz.ntmps197
     go_wp2_with fail
     refine HN.out.mono ?_
     rintro e w1 ⟨rfl, rfl⟩
     go_wp2_with fail
     refine HRd.out.mono ?_
     rintro e w1 ⟨v1, v2, rfl, hv1, hv2, k1⟩
     obtain ⟨A1, d1, rfl, _⟩ := hv1.form
     obtain ⟨A2, d2, rfl, _⟩ := hv2.form
     go_wp2
     go_ret
     exact try_no HR.out (keepN k1 ((Keep.refl NoB w1).alloc (.cells #[.slice A1 0 d1, .slice A2 0 d2] 34))) HP.out
    | some x =>
     obtain ⟨ar, rs⟩ := x
     have hfit := rdG_fit hx
     dsimp only [S.spA, S.spB, S.spE] at HRd hfit
     clear hx
     go_enter Tryz.func197, Tryz.ntmps197
     go_wp2_with fail
     refine HN.out.mono ?_
     rintro e w1 ⟨rfl, rfl⟩
     go_wp2_with fail
     refine HRd.out.mono ?_
     rintro e w1 ⟨u1, u2, rfl, hv1, hv2, k1⟩
     obtain ⟨A1, d1, rfl, _⟩ := hv1.form
     obtain ⟨A2, d2, rfl, _⟩ := hv2.form
     -- the signature's box
     have kb : Keep NoB w1 (w1.alloc (.cells #[.slice A1 ar.length d1, .slice A2 rs.length d2] 34)) := (Keep.refl NoB w1).alloc _
     have bs : Blk (w1.alloc (.cells #[.slice A1 ar.length d1, .slice A2 rs.length d2] 34)) w1.heap.size 34 #[.slice A1 ar.length d1, .slice A2 rs.length d2] := Blk.new w1 _ _
     obtain ⟨q1, r1⟩ := rdr_pair HW.out HK.out.size k1 (r1 := ⟨3, 1, .slice A1 ar.length d1, ar.length, ivs ar⟩) (r2 := ⟨3, 1, .slice A2 rs.length d2, rs.length, ivs rs⟩) hv1 hv2
     have q2 := q1.keepN kb
     have r2 := r1.trans (rnd_keep kb)
     have t0 := bs.cell 0
     have t1 := bs.cell 1
     have ks1 := (keepN k1 kb).cell s1 id
     simp only [List.getElem?_toArray, List.getElem?_cons_zero, List.getElem?_cons_succ] at t0 t1
     obtain ⟨c0, c1, c2, c3, c4, c5, c6⟩ := rd_cells q2.bk
     obtain ⟨m0, hm0, hF0⟩ := q2.fnu
     have hnu := (q2.pa.map _ _ hF0).1
     dsimp only at hnu
     have hlk := hnu.look (t := 111) Tryz.underlying111 Tryz.underlying9 Tryz.underlying3 (int_zero _) SB (by unfold maxLen; omega)
     rw [HBS.out] at hlk
     have hny : v.ny = fs.length := by
      have h5 := (q2.pa.row .fn ⟨Tg.noConfusion, Tg.noConfusion⟩).1.1
      rw [q2.rfn] at h5
      have h6 : (I.fvs fs).length = v.ny * 5 := h5
      rw [I.fvs_length] at h6
      omega
     have hnyb : v.ny ≤ 300000 := by have := q2.by_; omega
     have HNY := Lib.hid hny
     clear hny
     have HQ : Hid (∃ T1 R1, Rdr w0.heap.size (w1.alloc (.cells #[.slice A1 ar.length d1, .slice A2 rs.length d2] 34)) T1 rb v es fs ls R1 F p N ∧ R1 (.fa fs.length) = ⟨3, 1, .slice A1 ar.length d1, ar.length, ivs ar⟩ ∧ R1 (.fb fs.length) = ⟨3, 1, .slice A2 rs.length d2, rs.length, ivs rs⟩ ∧ Rnd (BS T) (BS T1) W (w1.alloc (.cells #[.slice A1 ar.length d1, .slice A2 rs.length d2] 34)) ∧ Blk (w1.alloc (.cells #[.slice A1 ar.length d1, .slice A2 rs.length d2] 34)) w1.heap.size 34 #[.slice A1 ar.length d1, .slice A2 rs.length d2] ∧ Keep NoB W (w1.alloc (.cells #[.slice A1 ar.length d1, .slice A2 rs.length d2] 34))) :=
      ⟨_, _, q2, (upR_ne _ _ Tg.noConfusion).trans (upR_eq _ _ _), upR_eq _ _ _, r2, bs, keepN k1 kb⟩
     clear q1 r1 hv1 hv2 k1 kb bs q2 r2 hnu hF0 c0 c2 c3 c6 hm0
     obtain ⟨W2, hW2⟩ : ∃ W2, (w1.alloc (.cells #[.slice A1 ar.length d1, .slice A2 rs.length d2] 34)) = W2 := ⟨_, rfl⟩
     rw [hW2] at t0 t1 ks1 hlk HQ c1 c4 c5
     cases hnb : p.nums b with
     | some k0 =>
      rw [hnb] at hlk
      simp only [Option.isSome_some, Option.getD_some] at hlk
      go_wp2_with fail
      clear hW2 hlk c4 ks1
      have HQ2 : Hid (∃ T1 R1 F1 pc, Rdr w0.heap.size W2 T1 rb v es fs ls R1 F1 pc (N + 1) ∧ (pc.im = p.im ∧ pc.last = p.last ∧ pc.nums = numsP p b ∧ pc.labs = p.labs ∧ pc.ms = p.ms) ∧ R1 (.fa fs.length) = ⟨3, 1, .slice A1 ar.length d1, ar.length, ivs ar⟩ ∧ R1 (.fb fs.length) = ⟨3, 1, .slice A2 rs.length d2, rs.length, ivs rs⟩ ∧ Rnd (BS T) (BS T1) W W2) := by
       obtain ⟨T1, R1, q1, q2, q3, q4, q5, q6⟩ := HQ.out
       exact ⟨T1, R1, F, p, q1.more, ⟨rfl, rfl, by unfold numsP; rw [hnb]; rfl, rfl, rfl⟩, q2, q3, q4⟩
      have HBS2 : Hid (Blk W2 w1.heap.size 34 #[.slice A1 ar.length d1, .slice A2 rs.length d2]) := by obtain ⟨_, _, _, _, _, _, h5, _⟩ := HQ.out; exact h5
      clear HQ hnb
      obtain ⟨i0, hi0, hz0, hz1, hz2⟩ := info_parts fnM_info
      have hroO : Own W2 37 5 (fun k => k < W2.heap.size) (.slice v.Y v.ny v.cy) v.ny (I.fvs fs) := by
       obtain ⟨T1, R1, F1, pc, q1, hpc, q2, q3, q4⟩ := HQ2.out
       have h5 := q1.pa.row .fn ⟨Tg.noConfusion, Tg.noConfusion⟩
       rw [q1.rfn] at h5
       exact h5.mono (fun k _ hk => hk)
      have hro := hroO.1
      have hOl : ∀ k, some k = (Value.slice v.Y v.ny v.cy).ownBlock → k < W2.heap.size := fun k e => hroO.2 k e.symm
      have hnR : ¬ some rb = (Value.slice v.Y v.ny v.cy).ownBlock := by
       obtain ⟨T1, R1, F1, pc, q1, hpc, q2, q3, q4⟩ := HQ2.out
       exact own_ne_blk hro q1.bk (by decide)
      have hnS : ¬ some w1.heap.size = (Value.slice v.Y v.ny v.cy).ownBlock := own_ne_blk hro HBS2.out (by decide)
      clear hroO
      refine wp_region_tail7 (fun i => [60, 61, 62, 63, 64, 65, 66, 67, 68, 69, 70].getD i 0) 11 (by kernel_rfl) (by kernel_rfl) (by kernel_rfl) (by kernel_rfl) (by kernel_rfl) 10 (fun k => some k = (Value.slice v.Y v.ny v.cy).ownBlock) (SFa W2 rb v.Y v.ny v.cy SB A1 ar.length d1 A2 rs.length d2 (I.fvs fs)) (fun i u x y hne h hk => SFa_stable W2 hOl _ _ _ _ _ _ _ _ _ _ _ _ i u x y hne h hk) (fun u x y h hk => AppR.keepN h hk) rfl ?step ?spec ?fin
      case step =>
       intro i o a w' hoo hi hic hF hK hA
       by_cases h0 : i = 0
       ·subst h0
        simp only [List.getElem?_toArray, List.getElem?_cons_zero, Option.some.injEq] at hoo
        subst hoo
        have e0 : a.tmps.getD 0 undef = .pointer (some ⟨rb, 0, none⟩) := hF.2.2 0 (by decide)
        refine Does.plain rfl ?_
        unfold yieldsK
        go_simp
        exact ⟨rfl, Keep.refl _ _⟩
       by_cases h1 : i = 1
       ·subst h1
        simp only [List.getElem?_toArray, List.getElem?_cons_zero, List.getElem?_cons_succ, Option.some.injEq] at hoo
        subst hoo
        have e0 : a.tmps.getD 0 undef = .pointer (some ⟨rb, 0, none⟩) := hF.2.2 0 (by decide)
        refine Does.plain rfl ?_
        unfold yieldsK
        go_simp
        exact ⟨rfl, Keep.refl _ _⟩
       by_cases h2 : i = 2
       ·subst h2
        simp only [List.getElem?_toArray, List.getElem?_cons_zero, List.getElem?_cons_succ, Option.some.injEq] at hoo
        subst hoo
        have e61 : a.tmps.getD 61 undef = .pointer (some ⟨rb, 0, none⟩) := hA ⟨1, .data⟩ (by simp) rfl
        refine Does.plain rfl ?_
        unfold yieldsK
        go_simp
        exact ⟨rfl, Keep.refl _ _⟩
       by_cases h3 : i = 3
       ·subst h3
        simp only [List.getElem?_toArray, List.getElem?_cons_zero, List.getElem?_cons_succ, Option.some.injEq] at hoo
        subst hoo
        have e62 : a.tmps.getD 62 undef = .pointer (some ⟨rb, 0, none⟩) := hA ⟨2, .data⟩ (by simp) rfl
        refine Does.plain rfl ?_
        unfold yieldsK
        go_simp
        exact ⟨rfl, Keep.refl _ _⟩
       by_cases h4 : i = 4
       ·subst h4
        simp only [List.getElem?_toArray, List.getElem?_cons_zero, List.getElem?_cons_succ, Option.some.injEq] at hoo
        subst hoo
        have e63 : a.tmps.getD 63 undef = .pointer (some ⟨rb, 0, none⟩) := hA ⟨3, .data⟩ (by simp) rfl
        refine Does.plain rfl ?_
        unfold yieldsK
        go_simp
        exact ⟨rfl, Keep.refl _ _⟩
       by_cases h5 : i = 5
       ·subst h5
        simp only [List.getElem?_toArray, List.getElem?_cons_zero, List.getElem?_cons_succ, Option.some.injEq] at hoo
        subst hoo
        have e64 : a.tmps.getD 64 undef = .pointer (some ⟨rb, 1, none⟩) := hA ⟨4, .data⟩ (by simp) rfl
        have q0 := Keep.cell hK c1 hnR
        refine Does.plain rfl ?_
        unfold yieldsK
        go_simp
        exact ⟨rfl, Keep.refl _ _⟩
       by_cases h6 : i = 6
       ·subst h6
        simp only [List.getElem?_toArray, List.getElem?_cons_zero, List.getElem?_cons_succ, Option.some.injEq] at hoo
        subst hoo
        have e7 : a.tmps.getD 7 undef = .string SB := hF.2.2 7 (by decide)
        refine Does.plain rfl ?_
        unfold yieldsK
        go_simp
        exact ⟨rfl, Keep.refl _ _⟩
       by_cases h7 : i = 7
       ·subst h7
        simp only [List.getElem?_toArray, List.getElem?_cons_zero, List.getElem?_cons_succ, Option.some.injEq] at hoo
        subst hoo
        have e5 : a.tmps.getD 5 undef = .pointer (some ⟨w1.heap.size, 0, none⟩) := hF.2.2 5 (by decide)
        have q0 := Keep.cell hK t0 hnS
        have q1 := Keep.cell hK t1 hnS
        refine Does.plain rfl ?_
        unfold yieldsK
        go_simp
        exact ⟨rfl, Keep.refl _ _⟩
       by_cases h8 : i = 8
       ·subst h8
        simp only [List.getElem?_toArray, List.getElem?_cons_zero, List.getElem?_cons_succ, Option.some.injEq] at hoo
        subst hoo
        have e66 : a.tmps.getD 66 undef = .string SB := hA ⟨6, .data⟩ (by simp) rfl
        have e67 : a.tmps.getD 67 undef = .agg #[.slice A1 ar.length d1, .slice A2 rs.length d2] := hA ⟨7, .data⟩ (by simp) rfl
        refine Does.plain rfl ?_
        unfold yieldsK
        simp only [Array.getD_eq_getD_getElem?] at e66 e67
        go_simp
        exact ⟨rfl, Keep.refl _ _⟩
       by_cases h9 : i = 9
       ·subst h9
        simp only [List.getElem?_toArray, List.getElem?_cons_zero, List.getElem?_cons_succ, Option.some.injEq] at hoo
        subst hoo
        have e68 : a.tmps.getD 68 undef = .agg #[.string SB, .slice A1 ar.length d1, .slice A2 rs.length d2, .slice none 0 0, .slice none 0 0] := hA ⟨8, .data⟩ (by simp) rfl
        refine Does.plain rfl ?_
        unfold yieldsK
        simp only [Array.getD_eq_getD_getElem?] at e68
        go_simp
        exact ⟨⟨w'.heap.size, hK.size, rfl, Blk.new _ _ _⟩, (Keep.refl _ _).alloc _⟩
       omega
      case spec =>
       intro o a w' hoo hF hK hA
       simp only [List.getElem?_toArray, List.getElem?_cons_zero, List.getElem?_cons_succ, Option.some.injEq] at hoo
       subst hoo
       have e65 : a.tmps.getD 65 undef = .slice v.Y v.ny v.cy := hA ⟨5, .data⟩ (by simp) rfl
       obtain ⟨g9, hg9, e69, b9⟩ := hA ⟨9, .data⟩ (by simp) rfl
       have e69 : a.tmps.getD 69 undef = .slice (some ⟨g9, 0, none⟩) 1 1 := e69
       refine Does.plain rfl ?_
       refine yields_append (.tmp 65) (.tmp 69) _ rfl 37 5 112 i0 _ Tryz.underlying23 hi0 hz0 hz1 hz2 rfl (by decide) (.slice v.Y v.ny v.cy) v.ny (I.fvs fs) (some ⟨g9, 0, none⟩) 1 1 [.string SB, .slice A1 ar.length d1, .slice A2 rs.length d2, .slice none 0 0, .slice none 0 0] e65 (ownsRow_keep hro hK (fun _ _ => id)) e69 (rd_blkM (xs := [.string SB, .slice A1 ar.length d1, .slice A2 rs.length d2, .slice none 0 0, .slice none 0 0]) b9) rfl (by simp [Value.oneCell']) (by unfold maxLen; omega) (by omega) ?_
       intro A3 c3 W3a h2 h3 h4
       exact ⟨⟨w', W3a, A3, c3, rfl, hK, h3, h2, h4, Keep.refl _ _⟩, (Keep.refl _ _).grown h3 (fun g e _ => e.symm)⟩
      case fin =>
       intro a w' hF gK hA
       have e60 : a.tmps.getD 60 undef = .pointer (some ⟨rb, 0, none⟩) := hA 0 (by decide)
       obtain ⟨Wd, Wc, Y9, cy9, e70, kd, hg5, hrow5, hv5, ke⟩ := hA 10 (by decide)
       have e70 : a.tmps.getD 70 undef = .slice Y9 (v.ny + 1) cy9 := e70
       have ha := frameD_list (l := [60, 61, 62, 63, 64, 65, 66, 67, 68, 69, 70]) rfl hF
       rw [ha]
       simp only [List.map_cons, List.map_nil, e60, e70]
       generalize a.tmps.getD 61 undef = u1
       generalize a.tmps.getD 62 undef = u2
       generalize a.tmps.getD 63 undef = u3
       generalize a.tmps.getD 64 undef = u4
       generalize a.tmps.getD 65 undef = u5
       generalize a.tmps.getD 66 undef = u6
       generalize a.tmps.getD 67 undef = u7
       generalize a.tmps.getD 68 undef = u8
       generalize a.tmps.getD 69 undef = u9
       simp only [fillD, List.setIfInBounds_toArray, List.set_cons_zero, List.set_cons_succ]
       obtain ⟨T1, R1, F1, pc, q1, hpc, q2, q3, q4⟩ := HQ2.out
       obtain ⟨m1, m2, m3, m4⟩ := func_mid q1 kd hg5 ke (.slice Y9 (v.ny + 1) cy9) (.cells #[.slice none 0 0, .map (some w'.heap.size)] 141) (.map #[] 0)
       have hnl : v.nl ≤ 300001 := by
        have h5 := (q1.pa.row .lb ⟨Tg.noConfusion, Tg.noConfusion⟩).1.1
        rw [q1.rlb] at h5
        have h6 : (lvs ls).length = v.nl * 2 := h5
        rw [lvs_length] at h6
        have h7 := q1.lf
        have h8 := q1.by_
        omega
       have z1 := m1.cell 1
       have f1 := m1.frozen 1
       have z5 := m2.cell 5
       have l1 := m1.lt
       simp only [RV.cells, List.getElem?_toArray, List.getElem?_cons_zero, List.getElem?_cons_succ, List.setIfInBounds_toArray, List.set_cons_zero, List.set_cons_succ] at z1 z5
       have HG := Lib.hid (And.intro kd (And.intro hg5 (And.intro hrow5 (And.intro hv5 ke))))
       have hmm := @run_makeMap Tryz.prog
       clear hA hF ha e60 e70 q1 q2 q3 q4 hpc t0 t1 c1 gK kd hg5 hrow5 hv5 ke m1 m2 hro hnR hnS
       simp only [List.drop_succ_cons, List.drop_zero]
       obtain ⟨i1, hi1, hz3, hz4, hz5⟩ := info_parts lbM_info
       go_wp2_with (at_builtin; refine wpList_append_rd _ rfl (.tmp 78) (.tmp 81) _ rfl 141 2 32 i1 _ Tryz.underlying112 hi1 hz3 hz4 hz5 rfl (by decide) (.slice v.L v.nl v.cl) v.nl (lvs ls) _ 1 1 [.slice none 0 0, .map (some w'.heap.size)] rfl m3 rfl (rd_new2 (by simp [World.setCell])) rfl (by simp [Value.oneCell']) (by unfold maxLen; omega) (by omega) ?_; intro L9 cl9 Wi hrow6 hg6 hv6; have m5 := m4 Wi hg6; have y5 := m5.cell 5; have f5 := m5.frozen 5; have l5 := m5.lt; simp only [RV.cells, List.getElem?_toArray, List.getElem?_cons_zero, List.getElem?_cons_succ, List.setIfInBounds_toArray, List.set_cons_zero, List.set_cons_succ] at y5)
       go_ret
       obtain ⟨T1, R1, F1, pc, q1, hpc, q2, q3, q4⟩ := HQ2.out
       obtain ⟨T', r1, v', fs', ls', R', F', hv', hr'⟩ := rdr_func q1 (Nat.le_trans HK.out.size q4.keep.size) HG.out.1 HBS.out (by omega) (by omega) (by omega) q2 q3 HG.out.2.2.2.2 HG.out.2.2.1 HG.out.2.1 HG.out.2.2.2.1 rfl (by rw [show (w'.setCell ⟨rb, 1, none⟩ (.slice Y9 (v.ny + 1) cy9)).heap.size = w'.heap.size from by simp [World.setCell]]; exact hrow6) hg6 hv6
       obtain ⟨e1, e2, e3, e4, e5⟩ := hpc
       rw [e1, e2, e3, e4, e5] at hr'
       exact ⟨T', q4.trans r1, .inr ⟨_, HP.out, rfl, keep_rnd HW.out.pa HK.out (q4.trans r1), v', es, fs', ls', R', F', hv'.trans HLn.out, hr'⟩⟩
     | none =>
      rw [hnb] at hlk
      simp only [Option.isSome_none, Option.getD_none] at hlk
      go_wp2_with fail
      obtain ⟨T1, R1, q1, q2, q3, q4, q5, q6⟩ := HQ.out
      have q7 := q1.keepN (Keep.refl NoB W2).drew
      obtain ⟨m0, hm0, hF0⟩ := q7.fnu
      obtain ⟨W3, hup, hM3, hg3⟩ := (q7.pa.map _ _ hF0).1.update (t := 111) Tryz.underlying111 Tryz.underlying9 Tryz.underlying3 (by dsimp only; unfold maxLen; omega) SB v.ny (by unfold maxLen; omega) (lit_i64 (by omega))
      dsimp only at hup hM3 hg3
      obtain ⟨F1, q8, q9⟩ := rdr_nums q7 (by omega) hg3 hM3
      have b3 := q5.keep (Keep.refl NoB W2).drew id
      have hne3 : some w1.heap.size ≠ some v.mb := fun e => by
       obtain ⟨es3, c3, ho3⟩ := (q7.pa.map _ _ hF0).1.obj
       injection e with e
       rw [e] at b3
       unfold Blk at b3
       dsimp only at ho3
       rw [ho3] at b3; cases b3
      have b4 := b3.grown hg3 hne3
      have t0 := b4.cell 0
      have t1 := b4.cell 1
      obtain ⟨_, c1', _, _, _, c5', _⟩ := rd_cells q8.bk
      simp only [List.getElem?_toArray, List.getElem?_cons_zero, List.getElem?_cons_succ] at t0 t1
      have HQ2 : Hid (∃ T1 R1 F1 pc, Rdr w0.heap.size W3 T1 rb v es fs ls R1 F1 pc (N + 1) ∧ (pc.im = p.im ∧ pc.last = p.last ∧ pc.nums = numsP p b ∧ pc.labs = p.labs ∧ pc.ms = p.ms) ∧ R1 (.fa fs.length) = ⟨3, 1, .slice A1 ar.length d1, ar.length, ivs ar⟩ ∧ R1 (.fb fs.length) = ⟨3, 1, .slice A2 rs.length d2, rs.length, ivs rs⟩ ∧ Rnd (BS T) (BS T1) W W3) := by
       refine ⟨T1, R1, F1, _, q8, ⟨rfl, rfl, ?_, rfl, rfl⟩, q2, q3, (q4.trans (rnd_keep (Keep.refl NoB W2).drew)).trans q9⟩
       dsimp only
       unfold numsP
       rw [hnb, HBS.out]
       have hl : p.im.fn.length = fs.length := by rw [← q1.im]; simp [I.imOf]
       rw [hl, ← HNY.out]
       rfl
      have HBS2 : Hid (Blk W3 w1.heap.size 34 #[.slice A1 ar.length d1, .slice A2 rs.length d2]) := b4
      go_still_tail 11, (by kernel_rfl)
      change wpList _ _ _ _ _ W2.drew
      go_wp2_with fail
      clear hW2 hlk c4 ks1 hup hM3 hg3 q1 q2 q3 q4 q5 q6 q7 q8 q9 b3 b4 hF0 hm0 HQ hnb c1 c5
      have c1 := c1'
      have c5 := c5'
      clear c1' c5'
      obtain ⟨i0, hi0, hz0, hz1, hz2⟩ := info_parts fnM_info
      have hroO : Own W3 37 5 (fun k => k < W3.heap.size) (.slice v.Y v.ny v.cy) v.ny (I.fvs fs) := by
       obtain ⟨T1, R1, F1, pc, q1, hpc, q2, q3, q4⟩ := HQ2.out
       have h5 := q1.pa.row .fn ⟨Tg.noConfusion, Tg.noConfusion⟩
       rw [q1.rfn] at h5
       exact h5.mono (fun k _ hk => hk)
      have hro := hroO.1
      have hOl : ∀ k, some k = (Value.slice v.Y v.ny v.cy).ownBlock → k < W3.heap.size := fun k e => hroO.2 k e.symm
      have hnR : ¬ some rb = (Value.slice v.Y v.ny v.cy).ownBlock := by
       obtain ⟨T1, R1, F1, pc, q1, hpc, q2, q3, q4⟩ := HQ2.out
       exact own_ne_blk hro q1.bk (by decide)
      have hnS : ¬ some w1.heap.size = (Value.slice v.Y v.ny v.cy).ownBlock := own_ne_blk hro HBS2.out (by decide)
      clear hroO
      refine wp_region_tail7 (fun i => [60, 61, 62, 63, 64, 65, 66, 67, 68, 69, 70].getD i 0) 11 (by kernel_rfl) (by kernel_rfl) (by kernel_rfl) (by kernel_rfl) (by kernel_rfl) 10 (fun k => some k = (Value.slice v.Y v.ny v.cy).ownBlock) (SFa W3 rb v.Y v.ny v.cy SB A1 ar.length d1 A2 rs.length d2 (I.fvs fs)) (fun i u x y hne h hk => SFa_stable W3 hOl _ _ _ _ _ _ _ _ _ _ _ _ i u x y hne h hk) (fun u x y h hk => AppR.keepN h hk) rfl ?step ?spec ?fin
      case step =>
       intro i o a w' hoo hi hic hF hK hA
       by_cases h0 : i = 0
       ·subst h0
        simp only [List.getElem?_toArray, List.getElem?_cons_zero, Option.some.injEq] at hoo
        subst hoo
        have e0 : a.tmps.getD 0 undef = .pointer (some ⟨rb, 0, none⟩) := hF.2.2 0 (by decide)
        refine Does.plain rfl ?_
        unfold yieldsK
        go_simp
        exact ⟨rfl, Keep.refl _ _⟩
       by_cases h1 : i = 1
       ·subst h1
        simp only [List.getElem?_toArray, List.getElem?_cons_zero, List.getElem?_cons_succ, Option.some.injEq] at hoo
        subst hoo
        have e0 : a.tmps.getD 0 undef = .pointer (some ⟨rb, 0, none⟩) := hF.2.2 0 (by decide)
        refine Does.plain rfl ?_
        unfold yieldsK
        go_simp
        exact ⟨rfl, Keep.refl _ _⟩
       by_cases h2 : i = 2
       ·subst h2
        simp only [List.getElem?_toArray, List.getElem?_cons_zero, List.getElem?_cons_succ, Option.some.injEq] at hoo
        subst hoo
        have e61 : a.tmps.getD 61 undef = .pointer (some ⟨rb, 0, none⟩) := hA ⟨1, .data⟩ (by simp) rfl
        refine Does.plain rfl ?_
        unfold yieldsK
        go_simp
        exact ⟨rfl, Keep.refl _ _⟩
       by_cases h3 : i = 3
       ·subst h3
        simp only [List.getElem?_toArray, List.getElem?_cons_zero, List.getElem?_cons_succ, Option.some.injEq] at hoo
        subst hoo
        have e62 : a.tmps.getD 62 undef = .pointer (some ⟨rb, 0, none⟩) := hA ⟨2, .data⟩ (by simp) rfl
        refine Does.plain rfl ?_
        unfold yieldsK
        go_simp
        exact ⟨rfl, Keep.refl _ _⟩
       by_cases h4 : i = 4
       ·subst h4
        simp only [List.getElem?_toArray, List.getElem?_cons_zero, List.getElem?_cons_succ, Option.some.injEq] at hoo
        subst hoo
        have e63 : a.tmps.getD 63 undef = .pointer (some ⟨rb, 0, none⟩) := hA ⟨3, .data⟩ (by simp) rfl
        refine Does.plain rfl ?_
        unfold yieldsK
        go_simp
        exact ⟨rfl, Keep.refl _ _⟩
       by_cases h5 : i = 5
       ·subst h5
        simp only [List.getElem?_toArray, List.getElem?_cons_zero, List.getElem?_cons_succ, Option.some.injEq] at hoo
        subst hoo
        have e64 : a.tmps.getD 64 undef = .pointer (some ⟨rb, 1, none⟩) := hA ⟨4, .data⟩ (by simp) rfl
        have q0 := Keep.cell hK c1 hnR
        refine Does.plain rfl ?_
        unfold yieldsK
        go_simp
        exact ⟨rfl, Keep.refl _ _⟩
       by_cases h6 : i = 6
       ·subst h6
        simp only [List.getElem?_toArray, List.getElem?_cons_zero, List.getElem?_cons_succ, Option.some.injEq] at hoo
        subst hoo
        have e7 : a.tmps.getD 7 undef = .string SB := hF.2.2 7 (by decide)
        refine Does.plain rfl ?_
        unfold yieldsK
        go_simp
        exact ⟨rfl, Keep.refl _ _⟩
       by_cases h7 : i = 7
       ·subst h7
        simp only [List.getElem?_toArray, List.getElem?_cons_zero, List.getElem?_cons_succ, Option.some.injEq] at hoo
        subst hoo
        have e5 : a.tmps.getD 5 undef = .pointer (some ⟨w1.heap.size, 0, none⟩) := hF.2.2 5 (by decide)
        have q0 := Keep.cell hK t0 hnS
        have q1 := Keep.cell hK t1 hnS
        refine Does.plain rfl ?_
        unfold yieldsK
        go_simp
        exact ⟨rfl, Keep.refl _ _⟩
       by_cases h8 : i = 8
       ·subst h8
        simp only [List.getElem?_toArray, List.getElem?_cons_zero, List.getElem?_cons_succ, Option.some.injEq] at hoo
        subst hoo
        have e66 : a.tmps.getD 66 undef = .string SB := hA ⟨6, .data⟩ (by simp) rfl
        have e67 : a.tmps.getD 67 undef = .agg #[.slice A1 ar.length d1, .slice A2 rs.length d2] := hA ⟨7, .data⟩ (by simp) rfl
        refine Does.plain rfl ?_
        unfold yieldsK
        simp only [Array.getD_eq_getD_getElem?] at e66 e67
        go_simp
        exact ⟨rfl, Keep.refl _ _⟩
       by_cases h9 : i = 9
       ·subst h9
        simp only [List.getElem?_toArray, List.getElem?_cons_zero, List.getElem?_cons_succ, Option.some.injEq] at hoo
        subst hoo
        have e68 : a.tmps.getD 68 undef = .agg #[.string SB, .slice A1 ar.length d1, .slice A2 rs.length d2, .slice none 0 0, .slice none 0 0] := hA ⟨8, .data⟩ (by simp) rfl
        refine Does.plain rfl ?_
        unfold yieldsK
        simp only [Array.getD_eq_getD_getElem?] at e68
        go_simp
        exact ⟨⟨w'.heap.size, hK.size, rfl, Blk.new _ _ _⟩, (Keep.refl _ _).alloc _⟩
       omega
      case spec =>
       intro o a w' hoo hF hK hA
       simp only [List.getElem?_toArray, List.getElem?_cons_zero, List.getElem?_cons_succ, Option.some.injEq] at hoo
       subst hoo
       have e65 : a.tmps.getD 65 undef = .slice v.Y v.ny v.cy := hA ⟨5, .data⟩ (by simp) rfl
       obtain ⟨g9, hg9, e69, b9⟩ := hA ⟨9, .data⟩ (by simp) rfl
       have e69 : a.tmps.getD 69 undef = .slice (some ⟨g9, 0, none⟩) 1 1 := e69
       refine Does.plain rfl ?_
       refine yields_append (.tmp 65) (.tmp 69) _ rfl 37 5 112 i0 _ Tryz.underlying23 hi0 hz0 hz1 hz2 rfl (by decide) (.slice v.Y v.ny v.cy) v.ny (I.fvs fs) (some ⟨g9, 0, none⟩) 1 1 [.string SB, .slice A1 ar.length d1, .slice A2 rs.length d2, .slice none 0 0, .slice none 0 0] e65 (ownsRow_keep hro hK (fun _ _ => id)) e69 (rd_blkM (xs := [.string SB, .slice A1 ar.length d1, .slice A2 rs.length d2, .slice none 0 0, .slice none 0 0]) b9) rfl (by simp [Value.oneCell']) (by unfold maxLen; omega) (by omega) ?_
       intro A3 c3 W3a h2 h3 h4
       exact ⟨⟨w', W3a, A3, c3, rfl, hK, h3, h2, h4, Keep.refl _ _⟩, (Keep.refl _ _).grown h3 (fun g e _ => e.symm)⟩
      case fin =>
       intro a w' hF gK hA
       have e60 : a.tmps.getD 60 undef = .pointer (some ⟨rb, 0, none⟩) := hA 0 (by decide)
       obtain ⟨Wd, Wc, Y9, cy9, e70, kd, hg5, hrow5, hv5, ke⟩ := hA 10 (by decide)
       have e70 : a.tmps.getD 70 undef = .slice Y9 (v.ny + 1) cy9 := e70
       have ha := frameD_list (l := [60, 61, 62, 63, 64, 65, 66, 67, 68, 69, 70]) rfl hF
       rw [ha]
       simp only [List.map_cons, List.map_nil, e60, e70]
       generalize a.tmps.getD 61 undef = u1
       generalize a.tmps.getD 62 undef = u2
       generalize a.tmps.getD 63 undef = u3
       generalize a.tmps.getD 64 undef = u4
       generalize a.tmps.getD 65 undef = u5
       generalize a.tmps.getD 66 undef = u6
       generalize a.tmps.getD 67 undef = u7
       generalize a.tmps.getD 68 undef = u8
       generalize a.tmps.getD 69 undef = u9
       simp only [fillD, List.setIfInBounds_toArray, List.set_cons_zero, List.set_cons_succ]
       obtain ⟨T1, R1, F1, pc, q1, hpc, q2, q3, q4⟩ := HQ2.out
       obtain ⟨m1, m2, m3, m4⟩ := func_mid q1 kd hg5 ke (.slice Y9 (v.ny + 1) cy9) (.cells #[.slice none 0 0, .map (some w'.heap.size)] 141) (.map #[] 0)
       have hnl : v.nl ≤ 300001 := by
        have h5 := (q1.pa.row .lb ⟨Tg.noConfusion, Tg.noConfusion⟩).1.1
        rw [q1.rlb] at h5
        have h6 : (lvs ls).length = v.nl * 2 := h5
        rw [lvs_length] at h6
        have h7 := q1.lf
        have h8 := q1.by_
        omega
       have z1 := m1.cell 1
       have f1 := m1.frozen 1
       have z5 := m2.cell 5
       have l1 := m1.lt
       simp only [RV.cells, List.getElem?_toArray, List.getElem?_cons_zero, List.getElem?_cons_succ, List.setIfInBounds_toArray, List.set_cons_zero, List.set_cons_succ] at z1 z5
       have HG := Lib.hid (And.intro kd (And.intro hg5 (And.intro hrow5 (And.intro hv5 ke))))
       have hmm := @run_makeMap Tryz.prog
       clear hA hF ha e60 e70 q1 q2 q3 q4 hpc t0 t1 c1 gK kd hg5 hrow5 hv5 ke m1 m2 hro hnR hnS
       simp only [List.drop_succ_cons, List.drop_zero]
       obtain ⟨i1, hi1, hz3, hz4, hz5⟩ := info_parts lbM_info
       go_wp2_with (at_builtin; refine wpList_append_rd _ rfl (.tmp 78) (.tmp 81) _ rfl 141 2 32 i1 _ Tryz.underlying112 hi1 hz3 hz4 hz5 rfl (by decide) (.slice v.L v.nl v.cl) v.nl (lvs ls) _ 1 1 [.slice none 0 0, .map (some w'.heap.size)] rfl m3 rfl (rd_new2 (by simp [World.setCell])) rfl (by simp [Value.oneCell']) (by unfold maxLen; omega) (by omega) ?_; intro L9 cl9 Wi hrow6 hg6 hv6; have m5 := m4 Wi hg6; have y5 := m5.cell 5; have f5 := m5.frozen 5; have l5 := m5.lt; simp only [RV.cells, List.getElem?_toArray, List.getElem?_cons_zero, List.getElem?_cons_succ, List.setIfInBounds_toArray, List.set_cons_zero, List.set_cons_succ] at y5)
       go_ret
       obtain ⟨T1, R1, F1, pc, q1, hpc, q2, q3, q4⟩ := HQ2.out
       obtain ⟨T', r1, v', fs', ls', R', F', hv', hr'⟩ := rdr_func q1 (Nat.le_trans HK.out.size q4.keep.size) HG.out.1 HBS.out (by omega) (by omega) (by omega) q2 q3 HG.out.2.2.2.2 HG.out.2.2.1 HG.out.2.1 HG.out.2.2.2.1 rfl (by rw [show (w'.setCell ⟨rb, 1, none⟩ (.slice Y9 (v.ny + 1) cy9)).heap.size = w'.heap.size from by simp [World.setCell]]; exact hrow6) hg6 hv6
       obtain ⟨e1, e2, e3, e4, e5⟩ := hpc
       rw [e1, e2, e3, e4, e5] at hr'
       exact ⟨T', q4.trans r1, .inr ⟨_, HP.out, rfl, keep_rnd HW.out.pa HK.out (q4.trans r1), v', es, fs', ls', R', F', hv'.trans HLn.out, hr'⟩⟩
  ·have HP := Lib.hid (pFunc_no2 (p := p) (b := b) (c := d) h3)
   have hne : (a == [102, 117, 110, 99]) = false := by rw [beq_eq_false_iff_ne]; exact h3
   go_enter Tryz.func197, Tryz.ntmps197
   go_wp2
   go_ret
   exact try_no HR.out (Keep.refl _ _) HP.out
 ·have HP := Lib.hid (pFunc_no1 (p := p) (ws := ws) (by omega))
  have hn2 : ((n : Int) == 3) = false := by rw [beq_eq_false_iff_ne]; omega
  go_enter Tryz.func197, Tryz.ntmps197
  go_wp2
  go_ret
  exact try_no HR.out (Keep.refl _ _) HP.out

end Go.Proofs.YtgnooffedmeenaaGreatDoor.M

namespace Go.Proofs.YtgnooffedmeenaaGreatDoor.M
open Go.RowKit W

def SAp (W0 : World) (E sz : Nat) (v : Value) (n : Nat) (xs cs : List Value) : List Value → Nat → Value → World → Prop
 | x :: _, 0 => fun u _ => u = x
 | _ :: r, i + 1 => SAp W0 E sz v n xs cs r i
 | [], 0 => fun u w => ∃ g, W0.heap.size ≤ g ∧ u = .slice (some ⟨g, 0, none⟩) 1 1 ∧ Blk w g E cs.toArray
 | [], 1 => AppR E sz W0 v n xs cs
 | [], _ + 2 => fun _ _ => True
theorem SAp_stable {O : Nat → Prop} (W0 : World) (hO : ∀ k, O k → k < W0.heap.size) (E sz : Nat) (v : Value) (n : Nat) (xs cs : List Value) : ∀ (vs : List Value) i u w w', i ≠ vs.length + 1 → SAp W0 E sz v n xs cs vs i u w → Keep O w w' → SAp W0 E sz v n xs cs vs i u w'
 | _ :: _, 0, _, _, _, _, h, _ => h
 | _ :: r, i + 1, u, w, w', hn, h, hk => SAp_stable W0 hO E sz v n xs cs r i u w w' (by simp at hn; omega) h hk
 | [], 0, _, _, _, _, ⟨g, hg, e, hb⟩, hk => ⟨g, hg, e, hb.keep hk (fun h => by have := hO g h; omega)⟩
 | [], 1, _, _, _, hn, _, _ => absurd rfl hn
 | [], _ + 2, _, _, _, _, h, _ => h
def SPl : List Value → Nat → Value → World → Prop
 | x :: _, 0 => fun u _ => u = x
 | _ :: r, i + 1 => SPl r i
 | [], _ => fun _ _ => True
theorem SPl_stable : ∀ (vs : List Value) i u (w w' : World), SPl vs i u w → SPl vs i u w'
 | _ :: _, 0, _, _, _, h => h
 | _ :: r, i + 1, u, w, w', h => SPl_stable r i u w w' h
 | [], _, _, _, _, h => h
theorem cell_grown_map {W W' : World} {g j mb : Nat} {u : Value} {es : Array MapEntry} {c : Nat} (hg : W.grownBy W' (some mb)) (hm : W.heap[mb]? = some (.map es c)) (hc : W.cell? ⟨g, j, none⟩ = some u) : g ≠ mb ∧ W'.cell? ⟨g, j, none⟩ = some u := by
 have hne : g ≠ mb := by
  rintro rfl
  unfold World.cell? at hc
  simp [hm] at hc
 exact ⟨hne, (World.cell?_of_block (hg.block g (World.block_lt_of_cell? W _ hc) (by simp [hne]))).trans hc⟩
theorem cell_grown {W W' : World} {g j : Nat} {u : Value} {o : Obj} {row : Option Nat} (xf : W.frozen? ⟨g, j, none⟩ = false) (x0 : W.cell? ⟨g, j, none⟩ = some u) (hl : g < W.heap.size) (hg : (W.alloc o).grownBy W' row) (hne : ¬ some g = row) : W'.cell? ⟨g, j, none⟩ = some u ∧ W'.frozen? ⟨g, j, none⟩ = false ∧ g < W'.heap.size := by
 have h1 : W'.heap[g]? = W.heap[g]? := (hg.block g (by simp; omega) hne).trans (Below.heap_alloc _ _ _ hl)
 refine ⟨(World.cell?_of_block h1).trans x0, ?_, ?_⟩
 ·unfold World.frozen? at xf ⊢
  rw [h1]; exact xf
 ·have := hg.size; simp at this; omega
theorem mnM_info : (Tryz.prog.info? 239).map (fun i => (i.zero, i.size, i.bytes)) = some (some (.agg #[.int .i64 0, .int .i64 0, .int .i64 0, .string ⟨#[]⟩, .map none, .int .i64 0]), 6, 56) := by kernel_rfl
theorem stM_info : (Tryz.prog.info? 9).map (fun i => (i.zero, i.size, i.bytes)) = some (some (.string ⟨#[]⟩), 1, 16) := by kernel_rfl
theorem rdr_lsplit {B : Nat} {W : World} {T : Nat → Tg} {rb : Nat} {v : RV} {es : List I.SE} {fs : List I.FE} {ls : List LE} {R : Tg → Row} {F : Tg → Option Mp} {p : PS} {N : Nat}
  (h : Rdr B W T rb v es fs ls R F p N) (hne : p.im.fn ≠ []) : ∃ ls' l g, ls = ls' ++ [l] ∧ v.L = some ⟨g, 0, none⟩ ∧ v.nl = ls'.length + 1 ∧ W.cell? ⟨g, ls'.length * 2, none⟩ = some (.slice l.A l.n l.c) ∧ W.cell? ⟨g, ls'.length * 2 + 1, none⟩ = some (.map (some l.b)) ∧ (∀ j, W.frozen? ⟨g, j, none⟩ = false) ∧ lastLb p = (l.ws, l.f) := by
 have hfs : fs ≠ [] := by
  rintro rfl
  apply hne
  rw [← h.im]; rfl
 have hls : ls ≠ [] := by
  rintro rfl
  have := h.lf
  cases fs with
  | nil => exact hfs rfl
  | cons _ _ => simp at this
 obtain ⟨ls', l, hfe⟩ := (List.eq_nil_or_concat ls).resolve_left hls
 rw [List.concat_eq_append] at hfe
 subst hfe
 have o2 : okT .lb := ⟨Tg.noConfusion, Tg.noConfusion⟩
 have h0 := h.pa.row .lb o2
 rw [h.rlb] at h0
 have h1 : Own W 141 2 (fun k => T k = mk .lb) (.slice v.L v.nl v.cl) v.nl (lvs (ls' ++ [l])) := h0
 obtain ⟨A, c, e1, _, _, hr, ha⟩ := h1.form
 injection e1 with e1 _ e3
 subst e1 e3
 obtain ⟨g, off, hY, hc⟩ := hr (by rw [lvs_length]; simp)
 have h2 := (ha _ hY).2
 injection h2 with _ h2 _
 subst h2
 have hny : v.nl = ls'.length + 1 := by
  have h5 := h1.1.1
  rw [lvs_length] at h5
  simp at h5
  omega
 have hcell : ∀ j, j < 2 → ∀ u, l.cells[j]? = some u → W.cell? ⟨g, ls'.length * 2 + j, none⟩ = some u := fun j hj u hu => by
  have := hc (ls'.length * 2 + j) u (by rw [lvs_at (ls' ++ [l]) ls'.length j (by simp) hj]; simpa using hu)
  rwa [Nat.zero_add] at this
 refine ⟨ls', l, g, rfl, hY, hny, hcell 0 (by omega) _ rfl, hcell 1 (by omega) _ rfl, fun j => ?_, ?_⟩
 ·have h6 : World.ownsRow W 0 141 2 (.slice v.L v.nl v.cl) v.nl (lvs (ls' ++ [l])) := h1.1
  rw [hY] at h6
  exact h6.frozenAt j
 ·unfold lastLb
  rw [← h.lb]
  simp
theorem frozen_keep {W W' : World} {g j : Nat} (h : W.frozen? ⟨g, j, none⟩ = false) (hk : Keep NoB W W') (hl : g < W.heap.size) : W'.frozen? ⟨g, j, none⟩ = false := by
 unfold World.frozen? at h ⊢
 rw [hk.block g hl id]
 exact h
theorem pDef_dup {p : PS} {ln : Nat} {s : Bs} (h : ((lastLb p).2 s).isSome = true) : pDef p ln s = ⟨p.im, p.last, p.nums, p.labs, p.ms ++ [⟨ln, 0, 0, s, 0⟩]⟩ := if_pos h
theorem pDef_new {p : PS} {ln : Nat} {s : Bs} (h : ((lastLb p).2 s).isSome = false) : pDef p ln s = ⟨p.im, p.last, p.nums, upd (fun l => (l.1 ++ [s], setP l.2 s (lastFn p).bd.length)) p.labs, p.ms⟩ := if_neg (by rw [h]; decide)

set_option maxRecDepth 100000 in
set_option maxHeartbeats 8000000 in
theorem define_any (w0 W : World) (T : Nat → Tg) (rb : Nat) (p : PS) (N ln : Nat) (h : RdAt w0 W T rb p N ln) (hN : N ≤ 300000) (hfn : p.im.fn ≠ []) (hln : ln ≤ 300000) (SN : ByteArray) (s : Bs) (hs : Hid (SN.data.toList = s)) (hsz : SN.size ≤ 140000) :
  Calls Tryz.prog 257 #[.pointer (some ⟨rb, 0, none⟩), .string SN] W fun e W' => (∃ u, e = .returned u) ∧ ∃ T', Rnd (BS T) (BS T') W W' ∧ RdAt w0 W' T' rb (pDef p ln s) (N + 2) ln := by
 obtain ⟨hk0, v, es, fs, ls, R, F, hln2, hr⟩ := h
 subst hln2
 have HW := Lib.hid hr
 have HK := Lib.hid hk0
 obtain ⟨ls', l, gl, hls, hL, hnl, q0, q1, hfz, hlast⟩ := rdr_lsplit hr hfn
 subst hls
 have hgl : gl < W.heap.size := World.block_lt_of_cell? W _ q0
 have hbnd : ls'.length ≤ 300000 := by
  have h5 := hr.lf
  have h6 := hr.by_
  simp at h5; omega
 obtain ⟨m0, hm0, hF0⟩ := hr.fpl ls'.length (by simp)
 have hl : (ls' ++ [l])[ls'.length]'(by simp) = l := by simp
 rw [hl] at hF0
 have HLK := Lib.hid (fun W1 (k1 : Keep NoB W W1) => (((hr.pa.keepN k1).map _ _ hF0).1).look (t := 111) Tryz.underlying111 Tryz.underlying9 Tryz.underlying3 (int_zero _) SN (by unfold maxLen; omega))
 obtain ⟨_, _, _, _, _, c5, _⟩ := rd_cells hr.bk
 rw [hL, hnl] at c5
 have HC := Lib.hid (And.intro q0 (And.intro q1 (And.intro c5 hfz)))
 have hb : (0 : Int) ≤ (ls'.length : Int) ∧ (ls'.length : Int) < (ls'.length : Int) + 1 := by omega
 clear hk0 hr hfz hl
 go_enter Tryz.func257, Tryz.ntmps257
 go_wp2
 go_quiet (fail)
 have k1 := (Keep.refl NoB W).drewN nq
 have x1 := k1.cell q1 id
 have hlk := HLK.out _ k1
 rw [hs.out] at hlk
 clear q0 q1 c5 HLK
 generalize W.drewN nq = W1 at *
 cases hf : l.f s with
 | some k0 =>
  rw [hf] at hlk
  simp only [Option.isSome_some, Option.getD_some] at hlk
  have HP := Lib.hid (pDef_dup (p := p) (ln := v.ln) (s := s) (by rw [hlast]; show (l.f s).isSome = _; rw [hf]; rfl))
  go_wp2_with fail
  clear hlk hf
  obtain ⟨i0, hi0, hz0, hz1, hz2⟩ := info_parts mnM_info
  have hroO : Own W1 239 6 (fun k => k < W1.heap.size) (.slice v.M v.nm v.cm) v.nm (mvs v.mb (ls' ++ [l]) p.ms) := by
   have h5 := HW.out.pa.row .mn ⟨Tg.noConfusion, Tg.noConfusion⟩
   rw [HW.out.rmn] at h5
   exact (Own.keepN h5 k1).mono (fun k _ hk => hk)
  have hro := hroO.1
  have hOl : ∀ k, some k = (Value.slice v.M v.nm v.cm).ownBlock → k < W1.heap.size := fun k e => hroO.2 k e.symm
  have hb1 := HW.out.bk.keep k1 id
  have hnR : ¬ some rb = (Value.slice v.M v.nm v.cm).ownBlock := own_ne_blk hro hb1 (by decide)
  have hnm : v.nm ≤ 300001 := by
   have h5 := hro.1
   rw [mvs_length] at h5
   have h7 := HW.out.bm
   omega
  obtain ⟨_, _, y2, _, _, _, y6⟩ := rd_cells hb1
  clear hroO hb1
  refine wp_region_tail7 (fun i => [28, 29, 30, 31, 32, 33, 34, 35, 36, 37, 38, 39, 40].getD i 0) 13 (by kernel_rfl) (by kernel_rfl) (by kernel_rfl) (by kernel_rfl) (by kernel_rfl) 12 (fun k => some k = (Value.slice v.M v.nm v.cm).ownBlock) (SAp W1 239 6 (.slice v.M v.nm v.cm) v.nm (mvs v.mb (ls' ++ [l]) p.ms) [.int .i64 (v.ln : Int), .int .i64 0, .int .i64 0, .string SN, .map none, .int .i64 91] [.pointer (some ⟨rb, 0, none⟩), .pointer (some ⟨rb, 0, none⟩), .pointer (some ⟨rb, 0, none⟩), .pointer (some ⟨rb, 6, none⟩), .slice v.M v.nm v.cm, .pointer (some ⟨rb, 0, none⟩), .pointer (some ⟨rb, 0, none⟩), .pointer (some ⟨rb, 2, none⟩), .int .i64 (v.ln : Int), .string SN, .agg #[.int .i64 (v.ln : Int), .int .i64 0, .int .i64 0, .string SN, .map none, .int .i64 91]]) (fun i u x y hne h hk => SAp_stable W1 hOl _ _ _ _ _ _ _ i u x y hne h hk) (fun u x y h hk => AppR.keepN h hk) rfl ?step ?spec ?fin
  case step =>
   intro i o a w' hoo hi hic hF hK hA
   by_cases h0 : i = 0
   ·subst h0
    simp only [List.getElem?_toArray, List.getElem?_cons_zero, Option.some.injEq] at hoo
    subst hoo
    have e0 : a.tmps.getD 0 undef = .pointer (some ⟨rb, 0, none⟩) := hF.2.2 0 (by decide)
    refine Does.plain rfl ?_
    unfold yieldsK
    go_simp
    exact ⟨rfl, Keep.refl _ _⟩
   by_cases h1 : i = 1
   ·subst h1
    simp only [List.getElem?_toArray, List.getElem?_cons_zero, List.getElem?_cons_succ, Option.some.injEq] at hoo
    subst hoo
    have e0 : a.tmps.getD 0 undef = .pointer (some ⟨rb, 0, none⟩) := hF.2.2 0 (by decide)
    refine Does.plain rfl ?_
    unfold yieldsK
    go_simp
    exact ⟨rfl, Keep.refl _ _⟩
   by_cases h2 : i = 2
   ·subst h2
    simp only [List.getElem?_toArray, List.getElem?_cons_zero, List.getElem?_cons_succ, Option.some.injEq] at hoo
    subst hoo
    have e29 : a.tmps.getD 29 undef = .pointer (some ⟨rb, 0, none⟩) := hA ⟨1, .data⟩ (by simp) rfl
    refine Does.plain rfl ?_
    unfold yieldsK
    go_simp
    exact ⟨rfl, Keep.refl _ _⟩
   by_cases h3 : i = 3
   ·subst h3
    simp only [List.getElem?_toArray, List.getElem?_cons_zero, List.getElem?_cons_succ, Option.some.injEq] at hoo
    subst hoo
    have e30 : a.tmps.getD 30 undef = .pointer (some ⟨rb, 0, none⟩) := hA ⟨2, .data⟩ (by simp) rfl
    refine Does.plain rfl ?_
    unfold yieldsK
    go_simp
    exact ⟨rfl, Keep.refl _ _⟩
   by_cases h4 : i = 4
   ·subst h4
    simp only [List.getElem?_toArray, List.getElem?_cons_zero, List.getElem?_cons_succ, Option.some.injEq] at hoo
    subst hoo
    have e31 : a.tmps.getD 31 undef = .pointer (some ⟨rb, 6, none⟩) := hA ⟨3, .data⟩ (by simp) rfl
    have q0 := Keep.cell hK y6 hnR
    refine Does.plain rfl ?_
    unfold yieldsK
    go_simp
    exact ⟨rfl, Keep.refl _ _⟩
   by_cases h5 : i = 5
   ·subst h5
    simp only [List.getElem?_toArray, List.getElem?_cons_zero, List.getElem?_cons_succ, Option.some.injEq] at hoo
    subst hoo
    have e0 : a.tmps.getD 0 undef = .pointer (some ⟨rb, 0, none⟩) := hF.2.2 0 (by decide)
    refine Does.plain rfl ?_
    unfold yieldsK
    go_simp
    exact ⟨rfl, Keep.refl _ _⟩
   by_cases h6 : i = 6
   ·subst h6
    simp only [List.getElem?_toArray, List.getElem?_cons_zero, List.getElem?_cons_succ, Option.some.injEq] at hoo
    subst hoo
    have e33 : a.tmps.getD 33 undef = .pointer (some ⟨rb, 0, none⟩) := hA ⟨5, .data⟩ (by simp) rfl
    refine Does.plain rfl ?_
    unfold yieldsK
    go_simp
    exact ⟨rfl, Keep.refl _ _⟩
   by_cases h7 : i = 7
   ·subst h7
    simp only [List.getElem?_toArray, List.getElem?_cons_zero, List.getElem?_cons_succ, Option.some.injEq] at hoo
    subst hoo
    have e34 : a.tmps.getD 34 undef = .pointer (some ⟨rb, 0, none⟩) := hA ⟨6, .data⟩ (by simp) rfl
    refine Does.plain rfl ?_
    unfold yieldsK
    go_simp
    exact ⟨rfl, Keep.refl _ _⟩
   by_cases h8 : i = 8
   ·subst h8
    simp only [List.getElem?_toArray, List.getElem?_cons_zero, List.getElem?_cons_succ, Option.some.injEq] at hoo
    subst hoo
    have e35 : a.tmps.getD 35 undef = .pointer (some ⟨rb, 2, none⟩) := hA ⟨7, .data⟩ (by simp) rfl
    have q0 := Keep.cell hK y2 hnR
    refine Does.plain rfl ?_
    unfold yieldsK
    go_simp
    exact ⟨rfl, Keep.refl _ _⟩
   by_cases h9 : i = 9
   ·subst h9
    simp only [List.getElem?_toArray, List.getElem?_cons_zero, List.getElem?_cons_succ, Option.some.injEq] at hoo
    subst hoo
    have e1 : a.tmps.getD 1 undef = .string SN := hF.2.2 1 (by decide)
    refine Does.plain rfl ?_
    unfold yieldsK
    go_simp
    exact ⟨rfl, Keep.refl _ _⟩
   by_cases h10 : i = 10
   ·subst h10
    simp only [List.getElem?_toArray, List.getElem?_cons_zero, List.getElem?_cons_succ, Option.some.injEq] at hoo
    subst hoo
    have e36 : a.tmps.getD 36 undef = .int .i64 (v.ln : Int) := hA ⟨8, .data⟩ (by simp) rfl
    have e37 : a.tmps.getD 37 undef = .string SN := hA ⟨9, .data⟩ (by simp) rfl
    refine Does.plain rfl ?_
    unfold yieldsK
    simp only [Array.getD_eq_getD_getElem?] at e36 e37
    go_simp
    exact ⟨rfl, Keep.refl _ _⟩
   by_cases h11 : i = 11
   ·subst h11
    simp only [List.getElem?_toArray, List.getElem?_cons_zero, List.getElem?_cons_succ, Option.some.injEq] at hoo
    subst hoo
    have e38 : a.tmps.getD 38 undef = .agg #[.int .i64 (v.ln : Int), .int .i64 0, .int .i64 0, .string SN, .map none, .int .i64 91] := hA ⟨10, .data⟩ (by simp) rfl
    refine Does.plain rfl ?_
    unfold yieldsK
    simp only [Array.getD_eq_getD_getElem?] at e38
    go_simp
    exact ⟨⟨w'.heap.size, hK.size, rfl, Blk.new _ _ _⟩, (Keep.refl _ _).alloc _⟩
   omega
  case spec =>
   intro o a w' hoo hF hK hA
   simp only [List.getElem?_toArray, List.getElem?_cons_zero, List.getElem?_cons_succ, Option.some.injEq] at hoo
   subst hoo
   have e32 : a.tmps.getD 32 undef = .slice v.M v.nm v.cm := hA ⟨4, .data⟩ (by simp) rfl
   obtain ⟨g9, hg9, e39, b9⟩ := hA ⟨11, .data⟩ (by simp) rfl
   have e39 : a.tmps.getD 39 undef = .slice (some ⟨g9, 0, none⟩) 1 1 := e39
   refine Does.plain rfl ?_
   refine yields_append (.tmp 32) (.tmp 39) _ rfl 239 6 56 i0 _ Tryz.underlying113 hi0 hz0 hz1 hz2 rfl (by decide) (.slice v.M v.nm v.cm) v.nm (mvs v.mb (ls' ++ [l]) p.ms) (some ⟨g9, 0, none⟩) 1 1 [.int .i64 (v.ln : Int), .int .i64 0, .int .i64 0, .string SN, .map none, .int .i64 91] e32 (ownsRow_keep hro hK (fun _ _ => id)) e39 (rd_blkM (xs := [.int .i64 (v.ln : Int), .int .i64 0, .int .i64 0, .string SN, .map none, .int .i64 91]) b9) rfl (by simp [Value.oneCell']) (by unfold maxLen; omega) (by omega) ?_
   intro A3 c3 W3a h2 h3 h4
   exact ⟨⟨w', W3a, A3, c3, rfl, hK, h3, h2, h4, Keep.refl _ _⟩, (Keep.refl _ _).grown h3 (fun g e _ => e.symm)⟩
  case fin =>
   intro a w' hF gK hA
   have e28 : a.tmps.getD 28 undef = .pointer (some ⟨rb, 0, none⟩) := hA 0 (by decide)
   obtain ⟨Wd, Wc, Y9, cy9, e40, kd, hg5, hrow5, hv5, ke⟩ := hA 12 (by decide)
   have e40 : a.tmps.getD 40 undef = .slice Y9 (v.nm + 1) cy9 := e40
   have ha := frameD_list (l := [28, 29, 30, 31, 32, 33, 34, 35, 36, 37, 38, 39, 40]) rfl hF
   rw [ha]
   simp only [List.map_cons, List.map_nil, e28, e40]
   generalize a.tmps.getD 29 undef = u1
   generalize a.tmps.getD 30 undef = u2
   generalize a.tmps.getD 31 undef = u3
   generalize a.tmps.getD 32 undef = u4
   generalize a.tmps.getD 33 undef = u5
   generalize a.tmps.getD 34 undef = u6
   generalize a.tmps.getD 35 undef = u7
   generalize a.tmps.getD 36 undef = u8
   generalize a.tmps.getD 37 undef = u9
   generalize a.tmps.getD 38 undef = u10
   generalize a.tmps.getD 39 undef = u11
   simp only [fillD, List.setIfInBounds_toArray, List.set_cons_zero, List.set_cons_succ]
   have hbw := (((HW.out.bk.keep k1 id).keep kd id).grown hg5 hnR).keep ke id
   have z1 := hbw.cell 6
   have f1 := hbw.frozen 6
   have l1 := hbw.lt
   simp only [RV.cells, List.getElem?_toArray, List.getElem?_cons_zero, List.getElem?_cons_succ] at z1
   have HG := Lib.hid (And.intro (keepN k1 kd) (And.intro hg5 (And.intro hrow5 (And.intro hv5 ke))))
   clear hA hF ha e28 e40 y2 y6 gK kd hg5 hrow5 hv5 ke hro hnR hbw
   simp only [List.drop_succ_cons, List.drop_zero]
   go_wp2
   refine bodyPost_ret (results_none rfl _ _ _) rfl ?_
   obtain ⟨g1, g2, g3, g4, g5⟩ := HG.out
   obtain ⟨T', r1, v', R', hv', hr'⟩ := rdr_mention (m := ⟨v.ln, 0, 0, s, 0⟩) HW.out HK.out.size g1 (fun h => (by cases h)) g2 (by rw [show mnC v.mb (ls' ++ [l]) ⟨v.ln, 0, 0, s, 0⟩ = [.int .i64 (v.ln : Int), .int .i64 0, .int .i64 0, .string SN, .map none, .int .i64 91] from by unfold mnC; rw [← str_of hs.out]; rfl]; exact g3) g4 g5
   exact ⟨⟨_, rfl⟩, T', r1, keep_rnd HW.out.pa HK.out r1, v', es, fs, _, R', F, hv', by rw [HP.out]; exact hr'.more⟩
 | none =>
  rw [hf] at hlk
  simp only [Option.isSome_none, Option.getD_none] at hlk
  have HP := Lib.hid (pDef_new (p := p) (ln := v.ln) (s := s) (by rw [hlast]; show (l.f s).isSome = _; rw [hf]; rfl))
  obtain ⟨fs', e0, g1, hfs, hY, hny, hcl, _⟩ := rdr_split HW.out hfn
  have hnyb := HW.out.by_
  obtain ⟨_, d1, _⟩ := rd_cells HW.out.bk
  rw [hY, hny] at d1
  have HCur := Lib.hid (fun w1 (k2 : Keep NoB W w1) => current_any w1 rb g1 fs'.length v.cy (k2.cell d1 id) (by rw [hfs] at hnyb; simp at hnyb; omega))
  have d4 := hcl 4 _ (by omega) (show e0.1.cells.toList[4]? = some (.slice e0.1.D e0.1.nd e0.1.cd) from rfl)
  have hnd : e0.1.nd = (lastFn p).bd.length ∧ e0.1.nd ≤ 300001 := by
   have h5 := HW.out.rbd fs'.length (by rw [hfs]; simp)
   have h6 := (HW.out.pa.row (.bd fs'.length) ⟨Tg.noConfusion, Tg.noConfusion⟩).1.1
   rw [h5] at h6
   have hl0 : fs[fs'.length]'(by rw [hfs]; simp) = e0 := by simp [hfs]
   rw [hl0] at h6
   have h7 : (C.iis e0.2.bd).length = e0.1.nd * 3 := h6
   rw [C.iis_length] at h7
   have h8 := HW.out.bd fs'.length (by rw [hfs]; simp)
   rw [hl0] at h8
   have h9 : lastFn p = e0.2 := by
    unfold lastFn
    rw [← HW.out.im, hfs]
    simp [I.imOf]
   rw [h9]
   omega
  have HND := Lib.hid hnd.1
  have hndb := hnd.2
  have HD4 := Lib.hid d4
  go_wp2_with fail
  clear hlk hf d1 d4 hcl hnd hnyb
  refine wp_region_tail (fun i => [43, 44, 45, 46, 47, 48, 49, 50, 51, 52, 53].getD i 0) 11 (by kernel_rfl) (by kernel_rfl) (by kernel_rfl) (by kernel_rfl) (by kernel_rfl) (SPl [.pointer (some ⟨gl, ls'.length * 2, none⟩), .pointer (some ⟨gl, ls'.length * 2, none⟩), .pointer (some ⟨gl, ls'.length * 2 + 1, none⟩), .map (some l.b), .string SN, .pointer (some ⟨rb, 0, none⟩), .pointer (some ⟨g1, fs'.length * 5, none⟩), .pointer (some ⟨g1, fs'.length * 5, none⟩), .pointer (some ⟨g1, fs'.length * 5 + 4, none⟩), .slice e0.1.D e0.1.nd e0.1.cd, .int .i64 (e0.1.nd : Int)]) (fun i u x y h _ => SPl_stable _ i u x y h) rfl ?step ?fin
  case step =>
   intro i o a w' hoo hi hF hK hA
   by_cases h0 : i = 0
   ·subst h0
    simp only [List.getElem?_toArray, List.getElem?_cons_zero, Option.some.injEq] at hoo
    subst hoo
    have e4 : a.tmps.getD 4 undef = .pointer (some ⟨gl, ls'.length * 2, none⟩) := hF.2.2 4 (by decide)
    refine Does.plain rfl ?_
    unfold yieldsK
    go_simp
    exact ⟨rfl, Keep.refl _ _⟩
   by_cases h1 : i = 1
   ·subst h1
    simp only [List.getElem?_toArray, List.getElem?_cons_zero, List.getElem?_cons_succ, Option.some.injEq] at hoo
    subst hoo
    have e43 : a.tmps.getD 43 undef = .pointer (some ⟨gl, ls'.length * 2, none⟩) := hA ⟨0, .data⟩ (by simp) rfl
    refine Does.plain rfl ?_
    unfold yieldsK
    go_simp
    exact ⟨rfl, Keep.refl _ _⟩
   by_cases h2 : i = 2
   ·subst h2
    simp only [List.getElem?_toArray, List.getElem?_cons_zero, List.getElem?_cons_succ, Option.some.injEq] at hoo
    subst hoo
    have e44 : a.tmps.getD 44 undef = .pointer (some ⟨gl, ls'.length * 2, none⟩) := hA ⟨1, .data⟩ (by simp) rfl
    refine Does.plain rfl ?_
    unfold yieldsK
    go_simp
    exact ⟨rfl, Keep.refl _ _⟩
   by_cases h3 : i = 3
   ·subst h3
    simp only [List.getElem?_toArray, List.getElem?_cons_zero, List.getElem?_cons_succ, Option.some.injEq] at hoo
    subst hoo
    have e45 : a.tmps.getD 45 undef = .pointer (some ⟨gl, ls'.length * 2 + 1, none⟩) := hA ⟨2, .data⟩ (by simp) rfl
    have q0 := Keep.cell hK x1 id
    refine Does.plain rfl ?_
    unfold yieldsK
    go_simp
    exact ⟨rfl, Keep.refl _ _⟩
   by_cases h4 : i = 4
   ·subst h4
    simp only [List.getElem?_toArray, List.getElem?_cons_zero, List.getElem?_cons_succ, Option.some.injEq] at hoo
    subst hoo
    have e1 : a.tmps.getD 1 undef = .string SN := hF.2.2 1 (by decide)
    refine Does.plain rfl ?_
    unfold yieldsK
    go_simp
    exact ⟨rfl, Keep.refl _ _⟩
   by_cases h5 : i = 5
   ·subst h5
    simp only [List.getElem?_toArray, List.getElem?_cons_zero, List.getElem?_cons_succ, Option.some.injEq] at hoo
    subst hoo
    have e0 : a.tmps.getD 0 undef = .pointer (some ⟨rb, 0, none⟩) := hF.2.2 0 (by decide)
    refine Does.plain rfl ?_
    unfold yieldsK
    go_simp
    exact ⟨rfl, Keep.refl _ _⟩
   by_cases h6 : i = 6
   ·subst h6
    simp only [List.getElem?_toArray, List.getElem?_cons_zero, List.getElem?_cons_succ, Option.some.injEq] at hoo
    subst hoo
    have e48 : a.tmps.getD 48 undef = .pointer (some ⟨rb, 0, none⟩) := hA ⟨5, .data⟩ (by simp) rfl
    refine Does.plain rfl ?_
    unfold yieldsK
    go_simp
    refine (HCur.out w' (keepN k1 hK)).mono ?_
    rintro e w9 ⟨rfl, q, rfl⟩
    exact ⟨_, rfl, rfl, (Keep.refl NoB _).drewN q⟩
   by_cases h7 : i = 7
   ·subst h7
    simp only [List.getElem?_toArray, List.getElem?_cons_zero, List.getElem?_cons_succ, Option.some.injEq] at hoo
    subst hoo
    have e49 : a.tmps.getD 49 undef = .pointer (some ⟨g1, fs'.length * 5, none⟩) := hA ⟨6, .data⟩ (by simp) rfl
    refine Does.plain rfl ?_
    unfold yieldsK
    go_simp
    exact ⟨rfl, Keep.refl _ _⟩
   by_cases h8 : i = 8
   ·subst h8
    simp only [List.getElem?_toArray, List.getElem?_cons_zero, List.getElem?_cons_succ, Option.some.injEq] at hoo
    subst hoo
    have e50 : a.tmps.getD 50 undef = .pointer (some ⟨g1, fs'.length * 5, none⟩) := hA ⟨7, .data⟩ (by simp) rfl
    refine Does.plain rfl ?_
    unfold yieldsK
    go_simp
    exact ⟨rfl, Keep.refl _ _⟩
   by_cases h9 : i = 9
   ·subst h9
    simp only [List.getElem?_toArray, List.getElem?_cons_zero, List.getElem?_cons_succ, Option.some.injEq] at hoo
    subst hoo
    have e51 : a.tmps.getD 51 undef = .pointer (some ⟨g1, fs'.length * 5 + 4, none⟩) := hA ⟨8, .data⟩ (by simp) rfl
    have q0 := Keep.cell (keepN k1 hK) HD4.out id
    refine Does.plain rfl ?_
    unfold yieldsK
    go_simp
    exact ⟨rfl, Keep.refl _ _⟩
   by_cases h10 : i = 10
   ·subst h10
    simp only [List.getElem?_toArray, List.getElem?_cons_zero, List.getElem?_cons_succ, Option.some.injEq] at hoo
    subst hoo
    have e52 : a.tmps.getD 52 undef = .slice e0.1.D e0.1.nd e0.1.cd := hA ⟨9, .data⟩ (by simp) rfl
    refine Does.plain rfl ?_
    unfold yieldsK
    go_simp
    exact ⟨rfl, Keep.refl _ _⟩
   omega
  case fin =>
   intro a w' hF gK hA
   have e46 : a.tmps.getD 46 undef = .map (some l.b) := hA 3 (by decide)
   have e47 : a.tmps.getD 47 undef = .string SN := hA 4 (by decide)
   have e53 : a.tmps.getD 53 undef = .int .i64 (e0.1.nd : Int) := hA 10 (by decide)
   have ha := frameD_list (l := [43, 44, 45, 46, 47, 48, 49, 50, 51, 52, 53]) rfl hF
   rw [ha]
   simp only [List.map_cons, List.map_nil, e46, e47, e53]
   generalize a.tmps.getD 43 undef = u0
   generalize a.tmps.getD 44 undef = u1
   generalize a.tmps.getD 45 undef = u2
   generalize a.tmps.getD 48 undef = u5
   generalize a.tmps.getD 49 undef = u6
   generalize a.tmps.getD 50 undef = u7
   generalize a.tmps.getD 51 undef = u8
   generalize a.tmps.getD 52 undef = u9
   simp only [fillD, List.setIfInBounds_toArray, List.set_cons_zero, List.set_cons_succ]
   have k2 := keepN k1 gK
   have hr2 := HW.out.keepN k2
   have hM2 := (hr2.pa.map _ _ hF0).1
   obtain ⟨W3, hup, hM3, hg3⟩ := hM2.update (t := 111) Tryz.underlying111 Tryz.underlying9 Tryz.underlying3 (by dsimp only; unfold maxLen; omega) SN e0.1.nd (by unfold maxLen; omega) (lit_i64 (by omega))
   dsimp only at hup hM3 hg3
   obtain ⟨es3, c3, ho3⟩ := hM2.obj
   dsimp only at ho3
   obtain ⟨hne3, x0⟩ := cell_grown_map hg3 ho3 (k2.cell HC.out.1 id)
   have xf : ∀ j, W3.frozen? ⟨gl, j, none⟩ = false := fun j => by
    have h5 := frozen_keep (HC.out.2.2.2 j) k2 hgl
    unfold World.frozen? at h5 ⊢
    rw [hg3.block gl (Nat.lt_of_lt_of_le hgl k2.size) (by simp [hne3])]
    exact h5
   obtain ⟨F1, hr3, r3⟩ := rdr_place hr2 (by omega) hg3 hM3
   have hrow := (hr3.pa.row (.nm ls'.length) ⟨Tg.noConfusion, Tg.noConfusion⟩).1
   rw [hr3.rnm ls'.length (by simp)] at hrow
   have hl3 : (ls' ++ [{ l with f := setO l.f SN.data.toList e0.1.nd }])[ls'.length]'(by simp) = { l with f := setO l.f SN.data.toList e0.1.nd } := by simp
   rw [hl3] at hrow
   have hrow1 : World.ownsRow (W3.alloc (.cells #[.string SN] 9)) 0 9 1 (.slice l.A l.n l.c) l.n (sv l.ws) := hrow.alloc _
   have hln3 : l.n ≤ 300002 := by
    have h5 := hrow1.1
    rw [sv_len] at h5
    have h6 := hr3.bl ls'.length (by simp)
    rw [hl3] at h6
    dsimp only at h6
    omega
   have HR3 := Lib.hid (And.intro hr3 ((rnd_keep k2).trans r3))
   have hgl3 : gl < W3.heap.size := World.block_lt_of_cell? W3 _ x0
   have hneb : ¬ some gl = (Value.slice l.A l.n l.c).ownBlock := by
    have h5 : World.ownsRow W3 0 9 1 (.slice l.A l.n l.c) l.n (sv l.ws) := hrow
    rcases h5.2 with ⟨e1, _⟩ | ⟨g2, cap, cur, e1, _, hh, _⟩
    ·rw [e1]; simp [Value.ownBlock]
    ·rw [e1]
     intro e2
     obtain rfl : gl = g2 := by simpa [Value.ownBlock] using e2
     have h6 := hr3.pa.row .lb ⟨Tg.noConfusion, Tg.noConfusion⟩
     rw [hr3.rlb, hL] at h6
     have h7 : T gl = .lb := h6.2 gl rfl
     have h8 := hr3.pa.row (.nm ls'.length) ⟨Tg.noConfusion, Tg.noConfusion⟩
     rw [hr3.rnm ls'.length (by simp), hl3] at h8
     have h9 : T gl = .nm ls'.length := h8.2 gl (by dsimp only; rw [e1]; rfl)
     rw [h7] at h9; cases h9
   obtain ⟨i0, hi0, hz0, hz1, hz2⟩ := info_parts stM_info
   clear hA hF ha e46 e47 e53 hM2 hM3 hr2 hr3 hrow hl3 ho3 r3 gK x1 hne3
   simp only [List.drop_succ_cons, List.drop_zero]
   go_wp2_with (at_builtin; refine wpList_append_rd _ rfl (.tmp 58) (.tmp 60) _ rfl 9 1 16 i0 _ Tryz.underlying59 hi0 hz0 hz1 hz2 rfl (by decide) (.slice l.A l.n l.c) l.n (sv l.ws) _ 1 1 [.string SN] rfl hrow1 rfl rd_one rfl (by simp [Value.oneCell']) (by unfold maxLen; omega) (by omega) ?_; intro A9 c9 W5 hrow5 hg5 hv5; obtain ⟨y0, yf, yl⟩ := cell_grown (xf (ls'.length * 2)) x0 hgl3 hg5 hneb)
   go_end0
   obtain ⟨hr4, r4⟩ := HR3.out
   have hv5' : (Value.slice A9 (l.n + 1) c9).ownBlock = (Value.slice l.A l.n l.c).ownBlock ∨ (Value.slice A9 (l.n + 1) c9).ownBlock = some (W3.alloc (.cells #[.string SN] 9)).heap.size := hv5
   obtain ⟨T', r5, ls2, R', hr5⟩ := rdr_name (We := W5) (s := s) hr4 (Nat.le_trans HK.out.size r4.keep.size) ((Keep.refl NoB W3).alloc (.cells #[.string SN] 9)) hL hg5 (by rw [← str_of hs.out]; exact hrow5) hv5' (Keep.refl NoB W5)
   refine ⟨⟨_, rfl⟩, T', r4.trans r5, keep_rnd HW.out.pa HK.out (r4.trans r5), v, es, fs, ls2, R', F1, rfl, ?_⟩
   have hlab : p.labs = (ls'.map fun l => (l.ws, l.f)) ++ [(l.ws, l.f)] := by rw [← HW.out.lb]; simp
   rw [HP.out, ← HND.out, hlab, upd_append]
   rw [hlab, upd_append, upd_append, hs.out] at hr5
   exact hr5

end Go.Proofs.YtgnooffedmeenaaGreatDoor.M

namespace Go.Proofs.YtgnooffedmeenaaGreatDoor.M
open Go.RowKit W

theorem suf_yes {a : Bs} (h : a.getLast? = some 58) : Lib.hasSuffix a [58] = true ∧ Lib.trimSuffix a [58] = a.dropLast := by
 obtain ⟨b, rfl⟩ : ∃ b, a = b ++ [58] := by
  rcases List.eq_nil_or_concat a with rfl | ⟨b, x, rfl⟩
  ·cases h
  ·rw [List.concat_eq_append] at h ⊢
   simp at h
   subst h
   exact ⟨b, rfl⟩
 have h1 : Lib.hasSuffix (b ++ [58]) [58] = true := by
  unfold Lib.hasSuffix
  rw [List.isSuffixOf_iff_suffix]
  exact List.suffix_append _ _
 refine ⟨h1, ?_⟩
 unfold Lib.trimSuffix
 rw [if_pos h1]
 simp
theorem suf_no {a : Bs} (h : a.getLast? ≠ some 58) : Lib.hasSuffix a [58] = false := by
 cases hs : Lib.hasSuffix a [58] with
 | false => rfl
 | true =>
  unfold Lib.hasSuffix at hs
  rw [List.isSuffixOf_iff_suffix] at hs
  obtain ⟨b, rfl⟩ := hs
  exact absurd (by simp) h
theorem pLabel_no1 {p : PS} {ln : Nat} {ws : List Bs} (h : ¬ 1 ≤ p.last) : pLabel p ln ws = none := by
 unfold pLabel; split
 ·exact if_neg (fun h2 => h h2.1)
 ·rfl
theorem pLabel_no2 {p : PS} {ln : Nat} {ws : List Bs} (h : ws.length ≠ 1) : pLabel p ln ws = none := by
 unfold pLabel; split
 ·exact absurd rfl h
 ·rfl
theorem pLabel_no3 {p : PS} {ln : Nat} {a : Bs} (h : a.getLast? ≠ some 58) : pLabel p ln [a] = none := if_neg (fun h2 => h h2.2.1)
theorem pLabel_no4 {p : PS} {ln : Nat} {a : Bs} (h : _root_.Go.Proofs.YtgnooffedmeenaaGreatDoor.F.okN a.dropLast = false) : pLabel p ln [a] = none := if_neg (fun h2 => by rw [h] at h2; cases h2.2.2)
theorem pLabel_yes {p : PS} {ln : Nat} {a : Bs} (h : 1 ≤ p.last) (h1 : a.getLast? = some 58) (h2 : _root_.Go.Proofs.YtgnooffedmeenaaGreatDoor.F.okN a.dropLast = true) : pLabel p ln [a] = some ((pDef p ln a.dropLast).to 3) := if_pos ⟨h, h1, h2⟩
theorem pDef_to (p : PS) (ln : Nat) (s : Bs) (k : Nat) : ((pDef p ln s).to k).to p.last = pDef p ln s := by
 unfold pDef
 split <;> rfl

set_option maxRecDepth 100000 in
set_option maxHeartbeats 4000000 in
theorem readLabel_any (w0 W : World) (T : Nat → Tg) (rb : Nat) (p : PS) (N ln : Nat) (h : RdAt w0 W T rb p N ln) (hN : N ≤ 300000) (hln : ln ≤ 300000) (hfn : 1 ≤ p.last → p.im.fn ≠ []) (A : Option Addr) (ws : List Bs) (n c : Nat) (hw : Rd W A (sv ws)) (hn : ws.length = n) (h0 : 0 < n) (hnc : n ≤ c) (hwl : ∀ x ∈ ws, x.length ≤ 140000) :
  Calls Tryz.prog 199 #[.pointer (some ⟨rb, 0, none⟩), .slice A n c] W (TryR w0 W T rb p N ln (pLabel p ln ws)) := by
 have HR := Lib.hid h
 obtain ⟨hk0, v, es, fs, ls, R, F, hln2, hr⟩ := h
 obtain ⟨_, _, _, c3, _, _, _⟩ := rd_cells hr.bk
 have hla := hr.la
 rw [hla] at c3
 have HK := Lib.hid hk0
 have HPa := Lib.hid hr.pa
 clear hr hk0 hln2 hla
 obtain ⟨a, ws2, rfl⟩ : ∃ a ws2, ws = a :: ws2 := by
  cases ws with
  | nil => simp at hn; omega
  | cons a r => exact ⟨a, r, rfl⟩
 obtain ⟨g, off, rfl, hcs⟩ := sv_at hw (by simp)
 have s0 := hcs 0 (by simp)
 simp only [List.getElem_cons_zero, Nat.add_zero] at s0
 have hal : a.length ≤ 140000 := hwl a (by simp)
 have haz : (str a).size ≤ 140000 := by rw [size_of (S := str a) (s := a) (by simp)]; exact hal
 have HCS := Lib.hid (Tryz.strings_CutSuffix (str a) ⟨#[58]⟩ W (by omega))
 rw [show (str a).data.toList = a from by simp, show (⟨#[58]⟩ : ByteArray).data.toList = [58] from rfl] at HCS
 have hi0 : (0 : Int) < (n : Int) := by omega
 clear hcs hw hwl haz
 generalize str a = SA at *
 obtain ⟨TS, hTS⟩ : ∃ TS : ByteArray, (⟨(Lib.trimSuffix a [58]).toArray⟩ : ByteArray) = TS := ⟨_, rfl⟩
 rw [hTS] at HCS
 by_cases h1 : 1 ≤ p.last
 ·have hl1 : ¬ ((p.last : Int) < 1) := by omega
  have hl2 : decide ((p.last : Int) < 1) = false := decide_eq_false hl1
  by_cases h2 : n = 1
  ·subst h2
   obtain rfl : ws2 = [] := by cases ws2 with | nil => rfl | cons _ _ => simp at hn
   by_cases h3 : a.getLast? = some 58
   ·obtain ⟨e1, e2⟩ := suf_yes h3
    rw [e1] at HCS
    have hts : TS.data.toList = a.dropLast := by rw [← hTS, e2]
    have htz : TS.size ≤ 140000 := by rw [size_of hts]; simp; omega
    have HN := Lib.hid (_root_.Go.Proofs.YtgnooffedmeenaaGreatDoor.F.named_any TS a.dropLast W (Lib.hid hts) (by omega) _ (Lib.hid rfl))
    cases hok : _root_.Go.Proofs.YtgnooffedmeenaaGreatDoor.F.okN a.dropLast with
    | false =>
     have HP := Lib.hid (pLabel_no4 (p := p) (ln := ln) hok)
     rw [_root_.Go.Proofs.YtgnooffedmeenaaGreatDoor.F.chkN_no hok] at HN
     clear hTS e1 e2 hts hok h3
     go_enter Tryz.func199, Tryz.ntmps199
     go_wp2_with fail
     refine HCS.out.mono ?_
     rintro e w1 ⟨rfl, rfl⟩
     go_wp2_with fail
     refine HN.out.mono ?_
     rintro e w1 ⟨rfl, rfl⟩
     go_wp2
     go_ret
     exact try_no HR.out (Keep.refl _ _) HP.out
    | true =>
     have HP := Lib.hid (pLabel_yes (p := p) (ln := ln) h1 h3 hok)
     rw [_root_.Go.Proofs.YtgnooffedmeenaaGreatDoor.F.chkN_ok hok] at HN
     have HD := Lib.hid (define_any w0 W T rb p N ln HR.out hN (hfn h1) hln TS a.dropLast (Lib.hid hts) htz)
     clear hTS e1 e2 hts hok h3
     go_enter Tryz.func199, Tryz.ntmps199
     go_wp2_with fail
     refine HCS.out.mono ?_
     rintro e w1 ⟨rfl, rfl⟩
     go_wp2_with fail
     refine HN.out.mono ?_
     rintro e w1 ⟨rfl, rfl⟩
     go_wp2_with fail
     refine HD.out.mono ?_
     rintro e w3 ⟨⟨u, rfl⟩, T', r1, hr1⟩
     go_wp2
     go_ret
     exact ⟨T', r1, .inr ⟨_, HP.out, rfl, by rw [pDef_to]; exact hr1⟩⟩
   ·have HP := Lib.hid (pLabel_no3 (p := p) (ln := ln) h3)
    rw [suf_no h3] at HCS
    clear hTS h3
    go_enter Tryz.func199, Tryz.ntmps199
    go_wp2_with fail
    refine HCS.out.mono ?_
    rintro e w1 ⟨rfl, rfl⟩
    go_wp2
    go_ret
    exact try_no HR.out (Keep.refl _ _) HP.out
  ·have HP := Lib.hid (pLabel_no2 (p := p) (ln := ln) (ws := a :: ws2) (by omega))
   have hn2 : ((n : Int) == 1) = false := by rw [beq_eq_false_iff_ne]; omega
   obtain ⟨bb, hbb⟩ : ∃ bb, Lib.hasSuffix a [58] = bb := ⟨_, rfl⟩
   rw [hbb] at HCS
   clear hTS hbb
   go_enter Tryz.func199, Tryz.ntmps199
   go_wp2_with fail
   refine HCS.out.mono ?_
   rintro e w1 ⟨rfl, rfl⟩
   go_wp2
   go_ret
   exact try_no HR.out (Keep.refl _ _) HP.out
 ·have HP := Lib.hid (pLabel_no1 (ln := ln) (ws := a :: ws2) h1)
  have hl0 : p.last = 0 := by omega
  rw [hl0] at c3
  obtain ⟨bb, hbb⟩ : ∃ bb, Lib.hasSuffix a [58] = bb := ⟨_, rfl⟩
  rw [hbb] at HCS
  clear hTS hbb
  go_enter Tryz.func199, Tryz.ntmps199
  go_wp2_with fail
  refine HCS.out.mono ?_
  rintro e w1 ⟨rfl, rfl⟩
  go_wp2
  go_ret
  exact try_no HR.out (Keep.refl _ _) HP.out

end Go.Proofs.YtgnooffedmeenaaGreatDoor.M

namespace Go.Proofs.YtgnooffedmeenaaGreatDoor.O
open Go.RowKit Go.Shelf

abbrev Rn := { k : Nat // k < 30 }
abbrev rowE (x : Rn) : Array Value := #[.int .i64 (x.1 : Int), rowV (rowAt (x.1 : Int))]
theorem rn_op (x : Rn) : isOp (x.1 : Int) = true := decide_eq_true (by have := x.2; omega)

set_option maxRecDepth 100000 in
set_option maxHeartbeats 1000000 in
theorem rows1_in (m l : Nat) (hm : 1 ≤ m) (J Jx : List Rn → World → Prop) (hJk : ∀ pre W W', J pre W → Keep NoB W W' → J pre W')
  (hY : ∀ pre x W, J pre W → pre.length < 30 → YieldAt Fence.wide (m - 1) Tryz.prog l (rowE x) W fun e W' =>
   (e = .returned (.bool true) ∧ J (pre ++ [x]) W' ∧ True) ∨ (e = .returned (.bool false) ∧ Jx (pre ++ [x]) W'))
  (W : World) (h0 : J [] W) :
  CallsIn Fence.wide m Tryz.prog 332 #[.func (.yield l) #[] #[]] W fun e W' => (∃ v, e = .returned v) ∧
   ((∃ ys : List Rn, ys.map (·.1) = List.range 30 ∧ J ys W') ∨ (∃ pre, True ∧ Jx pre W')) := by
 refine callsIn_of_wp Tryz.func332 rfl trivial ?_ rfl
 simp only [Tryz.ntmps332, List.size_toArray, List.length_cons, List.length_nil, Nat.reduceAdd, Nat.reduceSub, Array.replicate_succ, Array.replicate_zero, List.push_toArray, List.append_toArray, List.nil_append, List.cons_append]
 gi_wp2_with (refine ⟨trivial, ?_⟩; (try refine ⟨fun _ => hm, ?_⟩); gi_at_call 142; refine (callsIn_wide.2 (table_any _)).mono ?_; rintro e w1 ⟨rfl, k1⟩; have hJ1 := hJk _ _ _ h0 k1)
 gi_loopw [5] (fun p wr => ∃ (j : Nat) (pre : List Rn), j ≤ 30 ∧ p = .int .i64 (j : Int) ∧ Hid (pre.map (·.1) = List.range j) ∧ J pre wr)
  (fun p _ => 30 - (intOf p).toNat)
 case atStart => exact ⟨0, [], by omega, rfl, rfl, hJ1⟩
 case round =>
  obtain ⟨j, pre, hj, rfl, HP, hJ⟩ := hrel
  by_cases hlt : j < 30
  ·have hlen : pre.length < 30 := by
    have := congrArg List.length HP.out
    simp at this
    omega
   have ho : isOp (j : Int) = true := decide_eq_true (by omega)
   have hix : ∀ w, (Instr.index 187 (.agg tableC) (.int .i64 (j : Int))).run Tryz.prog w = .ok (rowV (rowAt (j : Int))) w := fun w => run_index_row (j : Int) ho w
   have HJ2 := Lib.hid (fun W' hk => hJk pre wr W' hJ hk)
   have HY := Lib.hid (hY pre ⟨j, hlt⟩ _ (HJ2.out _ ((Keep.refl NoB wr).alloc (.cells (cells9 (rowAt (j : Int))) 137))) hlen)
   have hdn : Hid ((pre ++ [(⟨j, hlt⟩ : Rn)]).map (·.1) = List.range (j + 1)) := by
    show _ = _
    rw [List.map_append, HP.out, List.range_succ]
    rfl
   obtain ⟨r, hr⟩ : ∃ r, rowAt (j : Int) = r := ⟨_, rfl⟩
   rw [hr] at hix
   dsimp only [rowE] at HY
   rw [hr] at HY
   clear hr
   obtain ⟨fn, tmps, assign, body, hy, hR⟩ := HY.out
   clear hY ho HY HJ2
   gi_wp2
   refine hR.mono ?_
   rintro e W3 (⟨rfl, hJ3, _⟩ | ⟨rfl, hJx3⟩)
   ·gi_wp2
    go_roundw
    case rel => exact ⟨j + 1, _, by omega, by go_num, hdn, hJ3⟩
    case measure => simp [intOf]; omega
   ·gi_wp2
    refine bodyPost_ret (results_none rfl _ _ _) rfl ?_
    exact ⟨⟨_, rfl⟩, .inr ⟨_, trivial, hJx3⟩⟩
  ·obtain rfl : j = 30 := by omega
   gi_wp2
   go_end0
   exact ⟨⟨_, rfl⟩, .inl ⟨pre, HP.out, hJ⟩⟩

end Go.Proofs.YtgnooffedmeenaaGreatDoor.O
