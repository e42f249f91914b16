/-
  Layer listing: what the document's Lines answers of listing 1. Conditions: the image lies in memory; no greater than statements go through.
  Layer listing: what the document's Lines answers of listing 2. Conditions: the image lies in memory; no greater than statements go through.
-/
import Derived.Test.YtgnooffedmeenaaGreatDoorQA12
namespace Go.Proofs.YtgnooffedmeenaaGreatDoor.M.L
open Go.RowKit W

set_option maxRecDepth 100000 in
set_option maxHeartbeats 8000000 in
theorem rlines1_any (v : I.IV) (es : List I.SE) (fs : List I.FE) (w : World) (h : I.ImAt w v es fs) (hs : I.SmI es fs) :
    Calls Tryz.prog 41 #[v.val, .int .i64 1] w fun e w' => ∃ B d, e = .returned (.slice B (linesR 1 (I.imOf es fs)).length d) ∧ Own w' 78 3 (Fresh w) (.slice B (linesR 1 (I.imOf es fs)).length d) (linesR 1 (I.imOf es fs)).length (lvs (linesR 1 (I.imOf es fs))) ∧ Keep NoB w w' := by
  have bx := Blk.new w 25 v.cells
  have k0 := (Keep.refl NoB w).alloc (.cells v.cells 25)
  have HC := Lib.hid (fun W (hk : Keep NoB w W) => I.rcheckI_any v es fs W (h.keepN hk) hs (I.chkI (I.imOf es fs)) rfl)
  cases hok : I.okI (I.imOf es fs)
  · have e1 : linesR 1 (I.imOf es fs) = [] := by unfold linesR; rw [hok]; rfl
    have hR : (I.chkI (I.imOf es fs) != 0) = true := by rw [I.chkI_no hok]; rfl
    rw [e1]
    generalize I.chkI (I.imOf es fs) = R at *
    clear h hs hok e1
    obtain ⟨X, nx, cx, Y, ny, cy⟩ := v
    dsimp only [I.IV.val, I.IV.cells] at *
    obtain ⟨c0, c1⟩ := And.intro (bx.cell 0) (bx.cell 1)
    simp only [List.getElem?_toArray, List.getElem?_cons_zero, List.getElem?_cons_succ] at c0 c1
    go_enter Tryz.func41, Tryz.ntmps41
    go_wp2_with (go_at_call 81; refine (HC.out _ k0).mono ?_; rintro e w1 ⟨rfl, k1⟩)
    go_ret
    exact ⟨none, 0, rfl, Own.nil _ _ _ _, keepN k0 k1⟩
  rw [I.chkI_ok hok] at HC
  have HA : Hid (fnR 1 (I.imOf es fs) fs.length = linesR 1 (I.imOf es fs)) := by
    show _ = _
    unfold linesR
    rw [if_pos hok, ← fnR_all]
    show _ = fnR 1 _ (fs.map fun e => e.2).length
    rw [List.length_map]
  have hp : Hid (ImOk (I.imOf es fs)) := ⟨hok, fun f hf => by obtain ⟨e, he, rfl⟩ := List.mem_map.1 hf; exact (h.hf e he).hI⟩
  have HI : Hid (∀ W, Keep NoB w W → I.ImAt W v es fs) := fun W hk => h.keepN hk
  have HSm := Lib.hid hs
  have hlx : Hid (es.length = v.nx) := h.lx
  have hly : Hid (fs.length = v.ny) := h.ly
  have hx64 : v.nx ≤ 64 := by have h1 := hp.out.ns; rw [← hlx.out]; simpa [I.imOf] using h1
  have hy64 : v.ny ≤ 64 := by have h1 := hp.out.nf; rw [← hly.out]; simpa [I.imOf] using h1
  have hHb : Hid (∀ f ∈ (I.imOf es fs).fn, f.bd.length ≤ 512) := fun f hf => by
    obtain ⟨i, hi, rfl⟩ := List.getElem_of_mem hf
    exact (ok_body (hp.out.fn (List.getElem?_eq_getElem hi)).1).2.2.1
  obtain ⟨i0, hi, hz0, hz1, hz2⟩ := info_parts rline_info
  have HX := Lib.hid bx
  obtain ⟨T, hT⟩ : ∃ T, linesR 1 (I.imOf es fs) = T := ⟨_, rfl⟩
  rw [hT] at HA ⊢
  clear h hs hok bx hT
  obtain ⟨p, hpd⟩ : ∃ p, I.imOf es fs = p := ⟨_, rfl⟩
  have HPs : Hid (∀ i (h : i < es.length), p.sh[i]? = some es[i].2) := fun i hi => by rw [← hpd]; show (es.map fun e => e.2)[i]? = _; rw [List.getElem?_map, List.getElem?_eq_getElem hi]; rfl
  have HPf : Hid (∀ i (h : i < fs.length), p.fn[i]? = some fs[i].2) := fun i hi => by rw [← hpd]; show (fs.map fun e => e.2)[i]? = _; rw [List.getElem?_map, List.getElem?_eq_getElem hi]; rfl
  have HPl : Hid (p.sh.length = es.length ∧ p.fn.length = fs.length) := by rw [← hpd]; exact ⟨List.length_map _, List.length_map _⟩
  have HNm : Hid (∀ W, Keep NoB w W → ∀ k f, p.fn[k]? = some f → ∀ x ∈ f.bd, ∀ A n c, Rd W A (nvs (tgs f.bd)) → (tgs f.bd).length = n →
      Calls Tryz.prog 87 #[v.val, .slice A n c, O.instV x.1 x.2.1 x.2.2] W fun e w' => e = .returned (.string (str (joinW (insL (NWp p k x) x)))) ∧ Keep NoB W w') := by
    rw [← hpd]
    exact fun W hk k f hf x hx A n c hr hn => rnamed10_any v es fs W (HI.out W hk) hp.out k f hf x hx A n c hr hn
  rw [hpd] at HA hp hHb
  have hHpd := Lib.hid hpd
  clear hpd
  obtain ⟨X, nx, cx, Y, ny, cy⟩ := v
  dsimp only [I.IV.val, I.IV.cells] at *
  obtain ⟨c0, c1⟩ := And.intro (HX.out.cell 0) (HX.out.cell 1)
  simp only [List.getElem?_toArray, List.getElem?_cons_zero, List.getElem?_cons_succ] at c0 c1
  go_enter Tryz.func41, Tryz.ntmps41
  go_wp2_with (go_at_call 81; refine (HC.out _ k0).mono ?_; rintro e w1 ⟨rfl, k1⟩)
  have gK := keepN k0 k1
  have HX1 : Hid (∀ W, Keep NoB w1 W → W.cell? ⟨w.heap.size, 0, none⟩ = some (.slice X nx cx) ∧ W.cell? ⟨w.heap.size, 1, none⟩ = some (.slice Y ny cy)) := fun W hk => ⟨(keepN k1 hk).cell c0 id, (keepN k1 hk).cell c1 id⟩
  clear c0 c1 HX HC k0 k1
  go_loopw [5, 6] (fun o i wr => ∃ j : Nat, j ≤ nx ∧ i = .int .i64 j ∧ OutAt w1 wr o (shR p j)) (fun _ i _ => nx - (intOf i).toNat)
  case atStart => exact ⟨0, Nat.zero_le _, rfl, none, 0, rfl, Own.nil _ _ _ _, Keep.refl _ _⟩
  case round =>
    obtain ⟨j, hj, rfl, B, d, rfl, hO, hK⟩ := hrel
    obtain ⟨c0, c1⟩ := HX1.out _ hK
    by_cases hlt : j < nx
    · have hje : j < es.length := by rw [hlx.out]; exact hlt
      obtain ⟨g, off, rfl, hc⟩ := I.shape_at (HI.out _ (keepN gK hK)).rx hje
      have hse := (HI.out _ (keepN gK hK)).hs _ (List.getElem_mem hje)
      have hsn := HSm.out.sh _ (List.getElem_mem hje)
      have hsu := Lib.hid (shR_succ p j _ (HPs.out j hje))
      have hle := shR_len p j
      rw [HPl.out.1, hlx.out] at hle
      generalize es[j] = se at *
      obtain ⟨⟨A, n, c⟩, l⟩ := se
      dsimp only at *
      have HT := Lib.hid (fun W (hk : Keep NoB wr W) => S.rshowS_any A l n c W (hse.1.keepN hk) hse.2 (by omega))
      have htx := S.txt_le l
      have hsz : (S.shS l).length ≤ 1024 := by
        unfold S.shS
        split
        · exact htx
        · exact Nat.zero_le _
      have HXs : Hid ((⟨#[115, 104, 97, 112, 101, 32]⟩ : ByteArray) ++ str (S.shS l) = str (joinW (shapeT l))) := lit_app _ _
      have hz := str_size (S.shS l)
      have q1 : (str (S.shS l)).size ≤ 1024 := by omega
      obtain ⟨m, hm'⟩ : ∃ m, (shR p j).length = m := ⟨_, rfl⟩
      rw [hm'] at hle hO ⊢
      have HSv : Hid (lvs (shR p (j + 1)) = lvs (shR p j) ++ [.string ((⟨#[115, 104, 97, 112, 101, 32]⟩ : ByteArray) ++ str (S.shS l)), .int .i64 (-1), .int .i64 (-1)]) := by show _ = _; rw [hsu.out, lvs_snoc, HXs.out]; rfl
      have HL : Hid ((shR p (j + 1)).length = m + 1) := by show _ = _; rw [hsu.out, List.length_append, hm']; rfl
      clear hse hsn hsu htx hsz HXs hz hm'
      generalize str (S.shS l) = S1 at *
      go_wp2_with fail
      refine (HT.out _ (Keep.refl _ _)).mono ?_
      rintro e w2 ⟨rfl, k2⟩
      have hO2 := hO.keepN k2
      have hK2 := keepN hK k2
      clear hO hK k2 c0 c1 hc
      go_wp2_with (at_builtin; refine wpList_append_rd _ rfl (.tmp 23) (.tmp 32) _ rfl 78 3 32 i0 _ Tryz.underlying75 hi hz0 hz1 hz2 rfl (by decide) _ m _ _ 1 _ [.string ((⟨#[115, 104, 97, 112, 101, 32]⟩ : ByteArray) ++ S1), .int .i64 (-1), .int .i64 (-1)] rfl (hO2.1.alloc _) rfl (W.rd_made (by simp) rfl) rfl (by simp [Value.oneCell']) (by unfold maxLen; omega) (by omega) ?_; intro B3 d3 w3 hrow hg hv; rw [← HSv.out] at hrow; obtain ⟨hO3, hK3, hT3⟩ := out_after hO2 hK2 hg hv hrow; clear hrow hg hv )
      go_roundw
      case rel => exact ⟨j + 1, by omega, by go_num, B3, d3, by rw [HL.out], by rw [HL.out]; exact hO3, hK3⟩
      case measure => simp [intOf]; omega
    · obtain rfl : j = nx := by omega
      have hO0 := hO
      rw [show shR p j = fnR 1 p 0 by rw [fnR_zero, HPl.out.1, hlx.out]] at hO0
      rw [show (shR p j).length = (fnR 1 p 0).length by rw [fnR_zero, HPl.out.1, hlx.out]]
      have hO0' : Own wr 78 3 (Fresh w1) (.slice B (fnR 1 p 0).length d) (fnR 1 p 0).length (lvs (fnR 1 p 0)) := hO0
      clear hO hO0
      have hKw := hK
      clear hK
      go_wp2_with fail
      clear c0 c1
      go_loopw [5, 7] (fun o i wr => ∃ k : Nat, k ≤ ny ∧ i = .int .i64 k ∧ OutAt w1 wr o (fnR 1 p k)) (fun _ i _ => ny - (intOf i).toNat)
      case atStart => exact ⟨0, Nat.zero_le _, rfl, B, d, rfl, hO0', hKw⟩
      case round =>
        clear hO0' hKw
        obtain ⟨k, hk, rfl, B, d, rfl, hO, hK⟩ := hrel
        obtain ⟨c0, c1⟩ := HX1.out _ hK
        by_cases hltk : k < ny
        · have hkf : k < fs.length := by rw [hly.out]; exact hltk
          have hIw := HI.out _ gK
          obtain ⟨g, off, rfl, s0, s1, s2, s3, s4⟩ := I.fun_at hIw.ry hkf
          replace s0 := hK.cell s0 id
          replace s1 := hK.cell s1 id
          replace s2 := hK.cell s2 id
          replace s3 := hK.cell s3 id
          replace s4 := hK.cell s4 id
          have hfe := hIw.hf _ (List.getElem_mem hkf)
          have hsm := HSm.out.fn _ (List.getElem_mem hkf)
          have hpk := HPf.out k hkf
          have HPK := Lib.hid hpk
          have hof := (hp.out.fn hpk).1
          obtain ⟨hbok, _, hb512, _⟩ := ok_body hof
          have hfl := fnR_len 1 p hHb.out k (by rw [HPl.out.2, hly.out]; omega)
          rw [HPl.out.1, hlx.out] at hfl
          have HTg := Lib.hid (fun W (hk : Keep NoB w1 W) => rtargets_any fs[k].1 fs[k].2 W (hfe.keepN hk) hsm)
          have htgF : tgF fs[k].2 = (tgs fs[k].2.bd).map fun i => ((i : Nat) : Int) := by unfold tgF; rw [if_pos hof]
          rw [htgF] at HTg
          generalize fs[k] = fe at *
          obtain ⟨⟨Sg, A, na, ca, B', nb, cb, Lc, nl, cl, D, nd, cd⟩, f⟩ := fe
          dsimp only [F.FV.val, F.FV.cells] at *
          rw [List.length_map] at HTg
          have hna := hsm.na
          have hnb := hsm.nb
          have hnl := hsm.nl
          dsimp only at hna hnb hnl
          have HSi := Lib.hid (fun W (hk : Keep NoB w1 W) => S.rshowG_any A f.ar na ca B' f.rs nb cb W (hfe.keepN hk).ra (hfe.keepN hk).rb hfe.la hfe.lb (by omega) (by omega))
          have HTx := Lib.hid (fun W (hk : Keep NoB w1 W) => rtext_any Lc f.lc nl cl W (hfe.keepN hk).rl hfe.ll (by omega))
          have HBd : Hid (∀ W, Keep NoB w1 W → Rd W D (C.iis f.bd)) := fun W hk => (hfe.keepN hk).rd
          have HLd : Hid (f.bd.length = nd) := hfe.ld
          have HAl : Hid (C.AllI f.bd) := hfe.hI
          have HBo := Lib.hid hbok
          have hnd : nd ≤ 512 := by rw [← HLd.out]; exact hb512
          have HFs := Lib.hid (fnR_succ 1 p k f hpk)
          have HN := Lib.hid (fun W (hk : Keep NoB w1 W) x hx A n c hr hn => HNm.out W (keepN gK hk) k f hpk x hx A n c hr hn)
          have hle1 : (S.shG f.ar f.rs).length ≤ 2100 := by
            have ha := S.txt_le f.ar
            have hb := S.txt_le f.rs
            unfold S.shG
            split <;> simp <;> omega
          have hle2 := S.txt_le f.lc
          have hSg : Sg = str f.nm := str_of hfe.nm
          have hnm32 : f.nm.length ≤ 32 := okN_le ((F.okF_iff _).1 hof).1
          have q2 : Sg.size ≤ 32 := by rw [size_of hfe.nm]; exact hnm32
          have HX1' : Hid ((⟨#[102, 117, 110, 99, 32]⟩ : ByteArray) ++ Sg ++ (⟨#[32]⟩ : ByteArray) ++ str (S.shG f.ar f.rs) = str (joinW [funcW, f.nm, S.shG f.ar f.rs])) := by
            show _ = _
            rw [hSg, lit_app, app_lit, str_app]
            show str _ = str (funcW ++ 32 :: (f.nm ++ 32 :: S.shG f.ar f.rs))
            simp [funcW]
          have HX2 : Hid ((⟨#[108, 111, 99, 97, 108, 32]⟩ : ByteArray) ++ str (W.txt f.lc) = str (joinW [localW, W.txt f.lc])) := lit_app _ _
          have HLc : Hid ((nl = 0 ↔ f.lc = [])) := by
            constructor
            · intro e
              exact List.length_eq_zero_iff.1 (by rw [hfe.ll]; exact e)
            · intro e
              have h1 : f.lc.length = nl := hfe.ll
              rw [e] at h1
              exact h1.symm
          have hz1 := str_size (S.shG f.ar f.rs)
          have hz2 := str_size (W.txt f.lc)
          have q1 : (str (S.shG f.ar f.rs)).size ≤ 2100 := by omega
          have q3 : (str (W.txt f.lc)).size ≤ 1024 := by omega
          clear hfe hsm hof hbok hb512 htgF hpk hna hnb hle1 hle2 hSg hnm32 hz1 hz2 hIw
          obtain ⟨G1, hG1⟩ : ∃ G1, str (S.shG f.ar f.rs) = G1 := ⟨_, rfl⟩
          obtain ⟨G2, hG2⟩ : ∃ G2, str (W.txt f.lc) = G2 := ⟨_, rfl⟩
          rw [hG1] at HSi HX1' q1
          rw [hG2] at HTx HX2 q3
          clear hG1 hG2
          obtain ⟨m, hm'⟩ : ∃ m, (fnR 1 p k).length = m := ⟨_, rfl⟩
          rw [hm'] at hfl hO ⊢
          have HM := Lib.hid hm'
          clear hm'
          have u1 : ¬ 9223372036854775807 < 5 + Sg.size := by omega
          have u2 : ¬ 9223372036854775807 < 5 + Sg.size + 1 := by omega
          have u3 : ¬ 9223372036854775807 < 5 + Sg.size + 1 + G1.size := by omega
          have hB5 := Blk.new wr 37 #[.string Sg, .slice A na ca, .slice B' nb cb, .slice Lc nl cl, .slice D nd cd]
          have k5 := (Keep.refl NoB wr).alloc (.cells #[.string Sg, .slice A na ca, .slice B' nb cb, .slice Lc nl cl, .slice D nd cd] 37)
          have hO5 := hO.keepN k5
          have hK5 := keepN hK k5
          go_wp2_with fail
          generalize hW5 : wr.alloc (.cells #[.string Sg, .slice A na ca, .slice B' nb cb, .slice Lc nl cl, .slice D nd cd] 37) = W5 at *
          clear hW5 s0 s1 s2 s3 s4 hO hK k5 c0 c1
          have b0 := hB5.cell 0
          have b1 := hB5.cell 1
          have b2 := hB5.cell 2
          simp only [List.getElem?_toArray, List.getElem?_cons_zero, List.getElem?_cons_succ] at b0 b1 b2
          refine wp_region_tail (fun i => [46, 47, 48, 49, 50, 51, 52, 53, 54, 55, 56].getD i 0) 11 (by kernel_rfl) (by kernel_rfl) (by kernel_rfl) (by kernel_rfl) (by kernel_rfl) (RLy1 wr.heap.size B m d Sg A na ca B' nb cb G1) (fun i u x y h hk => RLy1_stable _ _ _ _ _ _ _ _ _ _ _ _ i u x y h hk) rfl ?step ?fin
          case step =>
            intro i o a w' hoo hi hF hK hA
            by_cases h0 : i = 0
            · subst h0
              simp only [List.getElem?_toArray, List.getElem?_cons_zero, Option.some.injEq] at hoo
              subst hoo
              have e5 : a.tmps.getD 5 undef = .slice B m d := hF.2.2 5 (by decide)
              refine Does.plain rfl ?_
              unfold yieldsK
              go_simp
              exact ⟨rfl, Keep.refl _ _⟩
            by_cases h1 : i = 1
            · subst h1
              simp only [List.getElem?_toArray, List.getElem?_cons_zero, List.getElem?_cons_succ, Option.some.injEq] at hoo
              subst hoo
              have e8 : a.tmps.getD 8 undef = .pointer (some ⟨wr.heap.size, 0, none⟩) := hF.2.2 8 (by decide)
              refine Does.plain rfl ?_
              unfold yieldsK
              go_simp
              exact ⟨rfl, Keep.refl _ _⟩
            by_cases h2 : i = 2
            · subst h2
              simp only [List.getElem?_toArray, List.getElem?_cons_zero, List.getElem?_cons_succ, Option.some.injEq] at hoo
              subst hoo
              have e47 : a.tmps.getD 47 undef = .pointer (some ⟨wr.heap.size, 0, none⟩) := hA ⟨1, .data⟩ (by simp) rfl
              have z0 := Keep.cell hK b0 id
              refine Does.plain rfl ?_
              unfold yieldsK
              go_simp
              exact ⟨rfl, Keep.refl _ _⟩
            by_cases h3 : i = 3
            · subst h3
              simp only [List.getElem?_toArray, List.getElem?_cons_zero, List.getElem?_cons_succ, Option.some.injEq] at hoo
              subst hoo
              have e48 : a.tmps.getD 48 undef = .string Sg := hA ⟨2, .data⟩ (by simp) rfl
              refine Does.plain rfl ?_
              unfold yieldsK
              go_simp
              exact ⟨rfl, Keep.refl _ _⟩
            by_cases h4 : i = 4
            · subst h4
              simp only [List.getElem?_toArray, List.getElem?_cons_zero, List.getElem?_cons_succ, Option.some.injEq] at hoo
              subst hoo
              have e49 : a.tmps.getD 49 undef = .string ((⟨#[102, 117, 110, 99, 32]⟩ : ByteArray) ++ Sg) := hA ⟨3, .data⟩ (by simp) rfl
              refine Does.plain rfl ?_
              unfold yieldsK
              go_simp
              exact ⟨rfl, Keep.refl _ _⟩
            by_cases h5 : i = 5
            · subst h5
              simp only [List.getElem?_toArray, List.getElem?_cons_zero, List.getElem?_cons_succ, Option.some.injEq] at hoo
              subst hoo
              have e8 : a.tmps.getD 8 undef = .pointer (some ⟨wr.heap.size, 0, none⟩) := hF.2.2 8 (by decide)
              refine Does.plain rfl ?_
              unfold yieldsK
              go_simp
              exact ⟨rfl, Keep.refl _ _⟩
            by_cases h6 : i = 6
            · subst h6
              simp only [List.getElem?_toArray, List.getElem?_cons_zero, List.getElem?_cons_succ, Option.some.injEq] at hoo
              subst hoo
              have e51 : a.tmps.getD 51 undef = .pointer (some ⟨wr.heap.size, 1, none⟩) := hA ⟨5, .data⟩ (by simp) rfl
              have z1 := Keep.cell hK b1 id
              have z2 := Keep.cell hK b2 id
              refine Does.plain rfl ?_
              unfold yieldsK
              go_simp
              exact ⟨rfl, Keep.refl _ _⟩
            by_cases h7 : i = 7
            · subst h7
              simp only [List.getElem?_toArray, List.getElem?_cons_zero, List.getElem?_cons_succ, Option.some.injEq] at hoo
              subst hoo
              have e52 : a.tmps.getD 52 undef = (.agg #[.slice A na ca, .slice B' nb cb] : Value) := hA ⟨6, .data⟩ (by simp) rfl
              refine Does.plain rfl ?_
              unfold yieldsK
              go_simp
              refine (HSi.out w' (keepN hK5 hK)).mono ?_
              rintro e w9 ⟨rfl, hk9⟩
              exact ⟨_, rfl, rfl, hk9⟩
            by_cases h8 : i = 8
            · subst h8
              simp only [List.getElem?_toArray, List.getElem?_cons_zero, List.getElem?_cons_succ, Option.some.injEq] at hoo
              subst hoo
              have e50 : a.tmps.getD 50 undef = .string ((⟨#[102, 117, 110, 99, 32]⟩ : ByteArray) ++ Sg ++ (⟨#[32]⟩ : ByteArray)) := hA ⟨4, .data⟩ (by simp) rfl
              have e53 : a.tmps.getD 53 undef = .string G1 := hA ⟨7, .data⟩ (by simp) rfl
              refine Does.plain rfl ?_
              unfold yieldsK
              go_simp
              exact ⟨rfl, Keep.refl _ _⟩
            by_cases h9 : i = 9
            · subst h9
              simp only [List.getElem?_toArray, List.getElem?_cons_zero, List.getElem?_cons_succ, Option.some.injEq] at hoo
              subst hoo
              have e54 : a.tmps.getD 54 undef = .string ((⟨#[102, 117, 110, 99, 32]⟩ : ByteArray) ++ Sg ++ (⟨#[32]⟩ : ByteArray) ++ G1) := hA ⟨8, .data⟩ (by simp) rfl
              refine Does.plain rfl ?_
              unfold yieldsK
              simp only [Array.getD_eq_getD_getElem?] at e54
              go_simp
              exact ⟨rfl, Keep.refl _ _⟩
            by_cases h10 : i = 10
            · subst h10
              simp only [List.getElem?_toArray, List.getElem?_cons_zero, List.getElem?_cons_succ, Option.some.injEq] at hoo
              subst hoo
              have e55 : a.tmps.getD 55 undef = .agg #[.string ((⟨#[102, 117, 110, 99, 32]⟩ : ByteArray) ++ Sg ++ (⟨#[32]⟩ : ByteArray) ++ G1), .int .i64 (-1), .int .i64 (-1)] := hA ⟨9, .data⟩ (by simp) rfl
              refine Does.plain rfl ?_
              unfold yieldsK
              simp only [Array.getD_eq_getD_getElem?] at e55
              go_simp
              exact ⟨⟨w'.heap.size, rfl, Blk.new _ _ _⟩, (Keep.refl _ _).alloc _⟩
            omega
          case fin =>
            intro a w' hF gK hA
            have e46 : a.tmps.getD 46 undef = .slice B m d := hA 0 (by decide)
            obtain ⟨h56, e56, hb56⟩ := hA 10 (by decide)
            have e56 : a.tmps.getD 56 undef = .slice (some ⟨h56, 0, none⟩) 1 1 := e56
            have hrb := rd_blkL hb56
            have ha := frameD_list (l := [46, 47, 48, 49, 50, 51, 52, 53, 54, 55, 56]) rfl hF
            rw [ha]
            simp only [List.map_cons, List.map_nil, e46, e56]
            generalize a.tmps.getD 47 undef = u1
            generalize a.tmps.getD 48 undef = u2
            generalize a.tmps.getD 49 undef = u3
            generalize a.tmps.getD 50 undef = u4
            generalize a.tmps.getD 51 undef = u5
            generalize a.tmps.getD 52 undef = u6
            generalize a.tmps.getD 53 undef = u7
            generalize a.tmps.getD 54 undef = u8
            generalize a.tmps.getD 55 undef = u9
            simp only [fillD, List.setIfInBounds_toArray, List.set_cons_zero, List.set_cons_succ]
            simp only [List.drop_succ_cons, List.drop_zero]
            have hO6 := hO5.keepN gK
            have hK6 := keepN hK5 gK
            have hB6 := hB5.keep gK id
            clear hO5 hK5 hB5 gK b0 b1 b2 hF hA ha e46 e56
            by_cases hl0 : nl = 0
            · subst hl0
              have hlc := HLc.out.1 rfl
              have hin : inR 1 p k f 0 = fnR 1 p k ++ [plainR [funcW, f.nm, S.shG f.ar f.rs]] := by
                rw [inR_zero]; unfold headT; rw [if_pos hlc]; rfl
              have HS : Hid (lvs (inR 1 p k f 0) = lvs (fnR 1 p k) ++ [.string ((⟨#[102, 117, 110, 99, 32]⟩ : ByteArray) ++ Sg ++ (⟨#[32]⟩ : ByteArray) ++ G1), .int .i64 (-1), .int .i64 (-1)]) := by show _ = _; rw [hin, lvs_snoc, HX1'.out]; rfl
              have HL : Hid ((inR 1 p k f 0).length = m + 1) := by show _ = _; rw [hin, List.length_append, HM.out]; rfl
              clear hlc hin
              go_wp2_with (at_builtin; refine wpList_append_rd _ rfl (.tmp 46) (.tmp 56) _ rfl 78 3 32 i0 _ Tryz.underlying75 hi hz0 hz1 hz2 rfl (by decide) _ m _ _ 1 _ [.string ((⟨#[102, 117, 110, 99, 32]⟩ : ByteArray) ++ Sg ++ (⟨#[32]⟩ : ByteArray) ++ G1), .int .i64 (-1), .int .i64 (-1)] rfl hO6.1 rfl hrb rfl (by simp [Value.oneCell']) (by unfold maxLen; omega) (by omega) ?_; intro B7 d7 w7 hrow hg hv; rw [← HS.out] at hrow; obtain ⟨hO7, hK7, hT7⟩ := out_after0 hO6 hK6 hg hv hrow; clear hrow hg hv ; have hB7 := hT7.blk' hB6 (by decide); obtain ⟨z0, z1, z2, z3, z4⟩ := And.intro (hB7.cell 0) (And.intro (hB7.cell 1) (And.intro (hB7.cell 2) (And.intro (hB7.cell 3) (hB7.cell 4)))); simp only [List.getElem?_toArray, List.getElem?_cons_zero, List.getElem?_cons_succ] at z0 z1 z2 z3 z4)
              refine (HTg.out _ hK7).mono ?_
              rintro e w8 ⟨TA, ct, rfl, hOT, k8⟩
              have FC8 : Hid (FcAt w8 wr.heap.size #[.string Sg, .slice A na ca, .slice B' nb cb, .slice Lc 0 cl, .slice D nd cd] TA (tgs f.bd).length ct (tgs f.bd)) := ⟨hB7.keep k8 id, _, hOT⟩
              have hO8 := hO7.keepN k8
              have hK8 := keepN hK7 k8
              rw [← HL.out] at hO8
              have hl8 : (inR 1 p k f 0).length ≤ m + 2 := by rw [HL.out]; omega
              clear hO7 hK7 hB7 hT7 k8 z0 z1 z2 z3 z4 hOT HS hO6 hK6 hB6
              obtain ⟨nt, hnt⟩ : ∃ nt, (tgs f.bd).length = nt := ⟨_, rfl⟩
              have htn := tgs_len f.bd
              rw [hnt] at FC8 htn ⊢
              rw [HLd.out] at htn
              have HNt := Lib.hid hnt
              clear hnt
              obtain ⟨z0, z1, z2, z3, z4⟩ := And.intro (FC8.out.bx.cell 0) (And.intro (FC8.out.bx.cell 1) (And.intro (FC8.out.bx.cell 2) (And.intro (FC8.out.bx.cell 3) (FC8.out.bx.cell 4))))
              simp only [List.getElem?_toArray, List.getElem?_cons_zero, List.getElem?_cons_succ] at z0 z1 z2 z3 z4
              go_wp2_with fail
              clear z0 z1 z2 z3 z4
              generalize wr.heap.size = b8 at *
              have HZ : Hid (∀ W, TK 78 w8 W → W.cell? ⟨b8, 0, none⟩ = some (.string Sg) ∧ W.cell? ⟨b8, 1, none⟩ = some (.slice A na ca) ∧ W.cell? ⟨b8, 2, none⟩ = some (.slice B' nb cb) ∧ W.cell? ⟨b8, 3, none⟩ = some (.slice Lc 0 cl) ∧ W.cell? ⟨b8, 4, none⟩ = some (.slice D nd cd)) := fun W hk =>
                And.intro ((FC8.out.tk hk).bx.cell 0) (And.intro ((FC8.out.tk hk).bx.cell 1) (And.intro ((FC8.out.tk hk).bx.cell 2) (And.intro ((FC8.out.tk hk).bx.cell 3) ((FC8.out.tk hk).bx.cell 4))))
              go_loopw [5, 10] (fun o i wr2 => ∃ q : Nat, q ≤ nd ∧ i = .int .i64 q ∧ (∃ B d, o = .slice B (inR 1 p k f q).length d ∧ Own wr2 78 3 (Fresh w1) (.slice B (inR 1 p k f q).length d) (inR 1 p k f q).length (lvs (inR 1 p k f q))) ∧ Keep NoB w1 wr2 ∧ TK 78 w8 wr2) (fun _ i _ => nd - (intOf i).toNat)
              case atStart => exact ⟨0, Nat.zero_le _, rfl, ⟨_, _, by rw [HL.out], hO8⟩, hK8, TK.refl _ _⟩
              case round =>
                clear hO8 hK8 HL
                obtain ⟨q, hq, rfl, ⟨B2, d2, rfl, hO⟩, hK, hT⟩ := hrel
                obtain ⟨z0, z1, z2, z3, z4⟩ := HZ.out _ hT
                by_cases hltq : q < nd
                · have hql : q < f.bd.length := by rw [HLd.out]; exact hltq
                  obtain ⟨gd, od, rfl, hc⟩ := C.rdJ_at (HBd.out _ (Keep.refl _ _)) (by omega)
                  obtain ⟨x0, x1, x2⟩ := hc q hql
                  have hrow := Lib.hid (inR_succ 1 p k f q hql)
                  have hxm := List.getElem_mem hql
                  have hab := HAl.out _ hxm
                  have hok1 := List.all_eq_true.1 HBo.out _ hxm
                  have hle := inR_len 1 p k f q
                  rw [HM.out] at hle
                  have hFc := FC8.out.tk hT
                  have HLb := Lib.hid (fun W (hk : Keep NoB wr W) => rlabel_any TA (tgs f.bd) nt ct q W (hFc.rd.keepN hk) HNt (by omega))
                  have HNx := Lib.hid (fun W (hk : Keep NoB w1 W) hr => HN.out W hk _ hxm TA nt ct hr HNt.out)
                  have HTk : Hid (∀ W, TK 78 w8 W → Rd W TA (nvs (tgs f.bd))) := fun W hk => (FC8.out.tk hk).rd
                  clear hc
                  generalize f.bd[q] = x at x0 x1 x2 hrow hxm hab hok1 HNx
                  have hs1 := insn_len hp.out.ok k hab
                  have hs2 := insn_none hab
                  have hz1 := str_size (joinW (insL (NWp p k x) x))
                  have hz2 := str_size (joinW (insL none x))
                  obtain ⟨op, xa, xb⟩ := x
                  dsimp only at x0 x1 x2 hab HNx
                  have HSh : Hid (∀ W, Calls Tryz.prog 86 #[O.instV op xa xb] W fun e w' => e = .returned (.string (str (joinW (insL none (op, xa, xb))))) ∧ Keep NoB W w') := fun W => by
                    have e : O.showI op xa xb = joinW (insL none (op, xa, xb)) := showI_ok hok1
                    rw [← e]
                    exact O.rshow_any op xa xb W hab.1 hab.2
                  have HXc : Hid (∀ W, Keep NoB w1 W → W.cell? ⟨gd, od + q * 3, none⟩ = some (.int .i64 op) ∧ W.cell? ⟨gd, od + q * 3 + 1, none⟩ = some (.int .i64 xa) ∧ W.cell? ⟨gd, od + q * 3 + 2, none⟩ = some (.int .i64 xb)) := fun W hk => ⟨hk.cell x0 id, hk.cell x1 id, hk.cell x2 id⟩
                  clear x0 x1 x2 hxm hab hok1 hFc
                  obtain ⟨mq, hmq⟩ : ∃ mq, (inR 1 p k f q).length = mq := ⟨_, rfl⟩
                  have HMq := Lib.hid hmq
                  rw [hmq] at hO hle ⊢
                  clear hmq
                  have q1 : (str (joinW (insL none (op, xa, xb)))).size ≤ 60 := by omega
                  have hI0 : insS 1 p k q (op, xa, xb) = joinW (insL none (op, xa, xb)) := by unfold insS; rw [if_neg (by decide), if_neg (by decide), List.append_nil]
                  have eI : itemR 1 p (tgs f.bd) k q (op, xa, xb) = [(joinW (insL none (op, xa, xb)), (k : Int), (q : Int))] := by unfold itemR; rw [if_neg (by decide), hI0]; rfl
                  have HS : Hid (lvs (inR 1 p k f (q + 1)) = lvs (inR 1 p k f q) ++ [.string (str (joinW (insL none (op, xa, xb)))), .int .i64 (k : Int), .int .i64 (q : Int)]) := by show _ = _; rw [hrow.out, eI, lvs_snoc]
                  have HLn : Hid ((inR 1 p k f (q + 1)).length = mq + 1) := by show _ = _; rw [hrow.out, eI, List.length_append, HMq.out]; rfl
                  clear eI hrow hI0 hs1 hs2 hz1 hz2
                  generalize str (joinW (insL none (op, xa, xb))) = S2 at *
                  go_wp2_with fail
                  refine (HLb.out _ (Keep.refl _ _)).mono ?_
                  rintro e w9 ⟨rfl, k9⟩
                  clear z0 z1 z2 z3 z4
                  have hO9 := hO.keepN k9
                  have hK9 := keepN hK k9
                  have hT9 := hT.trans (TK.ofN k9)
                  clear hO hK hT k9
                  obtain ⟨z0, z1, z2, z3, z4⟩ := HZ.out _ hT9
                  obtain ⟨x0, x1, x2⟩ := HXc.out _ hK9
                  obtain ⟨c0, c1⟩ := HX1.out _ hK9
                  go_wp2_with fail
                  refine (HSh.out _).mono ?_
                  rintro e w10 ⟨rfl, k10⟩
                  clear z0 z1 z2 z3 z4 x0 x1 x2 c0 c1
                  have hO10 := hO9.keepN k10
                  have hK10 := keepN hK9 k10
                  have hT10 := hT9.trans (TK.ofN k10)
                  clear hO9 hK9 hT9 k10
                  obtain ⟨z0, z1, z2, z3, z4⟩ := HZ.out _ hT10
                  obtain ⟨x0, x1, x2⟩ := HXc.out _ hK10
                  obtain ⟨c0, c1⟩ := HX1.out _ hK10
                  go_wp2_with (at_builtin; refine wpList_append_rd _ rfl (.tmp 117) (.tmp 122) _ rfl 78 3 32 i0 _ Tryz.underlying75 hi hz0 hz1 hz2 rfl (by decide) _ mq _ _ 1 _ [.string S2, .int .i64 (k : Int), .int .i64 (q : Int)] rfl (hO10.1.alloc _) rfl (W.rd_made (by simp) rfl) rfl (by simp [Value.oneCell']) (by unfold maxLen; omega) (by omega) ?_; intro B12 d12 w12 hrow hg hv; rw [← HS.out] at hrow; obtain ⟨hO12, hK12, hT12⟩ := out_after hO10 hK10 hg hv hrow; clear hrow hg hv )
                  go_roundw
                  case rel => exact ⟨q + 1, by omega, by go_num, ⟨B12, d12, by rw [HLn.out], by rw [HLn.out]; exact hO12⟩, hK12, hT10.trans hT12⟩
                  case measure => simp [intOf]; omega
                · obtain rfl : q = nd := by omega
                  have e : inR 1 p k f q = fnR 1 p (k + 1) := by rw [HFs.out, HLd.out]
                  rw [e] at hO ⊢
                  clear e
                  go_wp2
                  go_roundw
                  case rel => exact ⟨k + 1, by omega, by go_num, B2, d2, rfl, hO, hK⟩
                  case measure => simp [intOf]; omega
            · have hd : decide ((0 : Int) < (nl : Int)) = true := by rw [decide_eq_true_iff]; omega
              have hlc : f.lc ≠ [] := fun e => hl0 (HLc.out.2 e)
              have hin : inR 1 p k f 0 = fnR 1 p k ++ [plainR [funcW, f.nm, S.shG f.ar f.rs]] ++ [plainR [localW, W.txt f.lc]] := by
                rw [inR_zero]; unfold headT; rw [if_neg hlc]; simp
              have HS1 : Hid (lvs (fnR 1 p k ++ [plainR [funcW, f.nm, S.shG f.ar f.rs]]) = lvs (fnR 1 p k) ++ [.string ((⟨#[102, 117, 110, 99, 32]⟩ : ByteArray) ++ Sg ++ (⟨#[32]⟩ : ByteArray) ++ G1), .int .i64 (-1), .int .i64 (-1)]) := by show _ = _; rw [lvs_snoc, HX1'.out]; rfl
              have HS : Hid (lvs (inR 1 p k f 0) = lvs (fnR 1 p k ++ [plainR [funcW, f.nm, S.shG f.ar f.rs]]) ++ [.string ((⟨#[108, 111, 99, 97, 108, 32]⟩ : ByteArray) ++ G2), .int .i64 (-1), .int .i64 (-1)]) := by show _ = _; rw [hin, lvs_snoc, HX2.out]; rfl
              have HL : Hid ((inR 1 p k f 0).length = m + 1 + 1) := by show _ = _; rw [hin, List.length_append, List.length_append, HM.out]; rfl
              clear hlc hin
              go_wp2_with (at_builtin; refine wpList_append_rd _ rfl (.tmp 46) (.tmp 56) _ rfl 78 3 32 i0 _ Tryz.underlying75 hi hz0 hz1 hz2 rfl (by decide) _ m _ _ 1 _ [.string ((⟨#[102, 117, 110, 99, 32]⟩ : ByteArray) ++ Sg ++ (⟨#[32]⟩ : ByteArray) ++ G1), .int .i64 (-1), .int .i64 (-1)] rfl hO6.1 rfl hrb rfl (by simp [Value.oneCell']) (by unfold maxLen; omega) (by omega) ?_; intro B6b d6b w6b hrow hg hv; rw [← HS1.out] at hrow; obtain ⟨hO6b, hK6b, hT6b⟩ := out_after0 hO6 hK6 hg hv hrow; clear hrow hg hv ; have hB6b := hT6b.blk' hB6 (by decide); obtain ⟨z0, z1, z2, z3, z4⟩ := And.intro (hB6b.cell 0) (And.intro (hB6b.cell 1) (And.intro (hB6b.cell 2) (And.intro (hB6b.cell 3) (hB6b.cell 4)))); simp only [List.getElem?_toArray, List.getElem?_cons_zero, List.getElem?_cons_succ] at z0 z1 z2 z3 z4)
              refine (HTx.out _ hK6b).mono ?_
              rintro e w6c ⟨rfl, k6c⟩
              have hO6c := hO6b.keepN k6c
              have hK6c := keepN hK6b k6c
              have hB6c := hB6b.keep k6c id
              clear hO6b hK6b hB6b k6c z0 z1 z2 z3 z4 hT6b
              go_wp2_with (at_builtin; refine wpList_append_rd _ rfl (.tmp 62) (.tmp 68) _ rfl 78 3 32 i0 _ Tryz.underlying75 hi hz0 hz1 hz2 rfl (by decide) _ (m + 1) _ _ 1 _ [.string ((⟨#[108, 111, 99, 97, 108, 32]⟩ : ByteArray) ++ G2), .int .i64 (-1), .int .i64 (-1)] rfl (hO6c.1.alloc _) rfl (W.rd_made (by simp) rfl) rfl (by simp [Value.oneCell']) (by unfold maxLen; omega) (by omega) ?_; intro B7 d7 w7 hrow hg hv; rw [← HS.out] at hrow; obtain ⟨hO7, hK7, hT7⟩ := out_after hO6c hK6c hg hv hrow; clear hrow hg hv ; have hB7 := hT7.blk' hB6c (by decide); obtain ⟨z0, z1, z2, z3, z4⟩ := And.intro (hB7.cell 0) (And.intro (hB7.cell 1) (And.intro (hB7.cell 2) (And.intro (hB7.cell 3) (hB7.cell 4)))); simp only [List.getElem?_toArray, List.getElem?_cons_zero, List.getElem?_cons_succ] at z0 z1 z2 z3 z4)
              refine (HTg.out _ hK7).mono ?_
              rintro e w8 ⟨TA, ct, rfl, hOT, k8⟩
              have FC8 : Hid (FcAt w8 wr.heap.size #[.string Sg, .slice A na ca, .slice B' nb cb, .slice Lc nl cl, .slice D nd cd] TA (tgs f.bd).length ct (tgs f.bd)) := ⟨hB7.keep k8 id, _, hOT⟩
              have hO8 := hO7.keepN k8
              have hK8 := keepN hK7 k8
              rw [← HL.out] at hO8
              have hl8 : (inR 1 p k f 0).length ≤ m + 2 := by rw [HL.out]; omega
              clear hO7 hK7 hB7 hT7 k8 z0 z1 z2 z3 z4 hOT HS hO6 hK6 hB6
              obtain ⟨nt, hnt⟩ : ∃ nt, (tgs f.bd).length = nt := ⟨_, rfl⟩
              have htn := tgs_len f.bd
              rw [hnt] at FC8 htn ⊢
              rw [HLd.out] at htn
              have HNt := Lib.hid hnt
              clear hnt
              obtain ⟨z0, z1, z2, z3, z4⟩ := And.intro (FC8.out.bx.cell 0) (And.intro (FC8.out.bx.cell 1) (And.intro (FC8.out.bx.cell 2) (And.intro (FC8.out.bx.cell 3) (FC8.out.bx.cell 4))))
              simp only [List.getElem?_toArray, List.getElem?_cons_zero, List.getElem?_cons_succ] at z0 z1 z2 z3 z4
              go_wp2_with fail
              clear z0 z1 z2 z3 z4
              generalize wr.heap.size = b8 at *
              have HZ : Hid (∀ W, TK 78 w8 W → W.cell? ⟨b8, 0, none⟩ = some (.string Sg) ∧ W.cell? ⟨b8, 1, none⟩ = some (.slice A na ca) ∧ W.cell? ⟨b8, 2, none⟩ = some (.slice B' nb cb) ∧ W.cell? ⟨b8, 3, none⟩ = some (.slice Lc nl cl) ∧ W.cell? ⟨b8, 4, none⟩ = some (.slice D nd cd)) := fun W hk =>
                And.intro ((FC8.out.tk hk).bx.cell 0) (And.intro ((FC8.out.tk hk).bx.cell 1) (And.intro ((FC8.out.tk hk).bx.cell 2) (And.intro ((FC8.out.tk hk).bx.cell 3) ((FC8.out.tk hk).bx.cell 4))))
              go_loopw [5, 10] (fun o i wr2 => ∃ q : Nat, q ≤ nd ∧ i = .int .i64 q ∧ (∃ B d, o = .slice B (inR 1 p k f q).length d ∧ Own wr2 78 3 (Fresh w1) (.slice B (inR 1 p k f q).length d) (inR 1 p k f q).length (lvs (inR 1 p k f q))) ∧ Keep NoB w1 wr2 ∧ TK 78 w8 wr2) (fun _ i _ => nd - (intOf i).toNat)
              case atStart => exact ⟨0, Nat.zero_le _, rfl, ⟨_, _, by rw [HL.out], hO8⟩, hK8, TK.refl _ _⟩
              case round =>
                clear hO8 hK8 HL
                obtain ⟨q, hq, rfl, ⟨B2, d2, rfl, hO⟩, hK, hT⟩ := hrel
                obtain ⟨z0, z1, z2, z3, z4⟩ := HZ.out _ hT
                by_cases hltq : q < nd
                · have hql : q < f.bd.length := by rw [HLd.out]; exact hltq
                  obtain ⟨gd, od, rfl, hc⟩ := C.rdJ_at (HBd.out _ (Keep.refl _ _)) (by omega)
                  obtain ⟨x0, x1, x2⟩ := hc q hql
                  have hrow := Lib.hid (inR_succ 1 p k f q hql)
                  have hxm := List.getElem_mem hql
                  have hab := HAl.out _ hxm
                  have hok1 := List.all_eq_true.1 HBo.out _ hxm
                  have hle := inR_len 1 p k f q
                  rw [HM.out] at hle
                  have hFc := FC8.out.tk hT
                  have HLb := Lib.hid (fun W (hk : Keep NoB wr W) => rlabel_any TA (tgs f.bd) nt ct q W (hFc.rd.keepN hk) HNt (by omega))
                  have HNx := Lib.hid (fun W (hk : Keep NoB w1 W) hr => HN.out W hk _ hxm TA nt ct hr HNt.out)
                  have HTk : Hid (∀ W, TK 78 w8 W → Rd W TA (nvs (tgs f.bd))) := fun W hk => (FC8.out.tk hk).rd
                  clear hc
                  generalize f.bd[q] = x at x0 x1 x2 hrow hxm hab hok1 HNx
                  have hs1 := insn_len hp.out.ok k hab
                  have hs2 := insn_none hab
                  have hz1 := str_size (joinW (insL (NWp p k x) x))
                  have hz2 := str_size (joinW (insL none x))
                  obtain ⟨op, xa, xb⟩ := x
                  dsimp only at x0 x1 x2 hab HNx
                  have HSh : Hid (∀ W, Calls Tryz.prog 86 #[O.instV op xa xb] W fun e w' => e = .returned (.string (str (joinW (insL none (op, xa, xb))))) ∧ Keep NoB W w') := fun W => by
                    have e : O.showI op xa xb = joinW (insL none (op, xa, xb)) := showI_ok hok1
                    rw [← e]
                    exact O.rshow_any op xa xb W hab.1 hab.2
                  have HXc : Hid (∀ W, Keep NoB w1 W → W.cell? ⟨gd, od + q * 3, none⟩ = some (.int .i64 op) ∧ W.cell? ⟨gd, od + q * 3 + 1, none⟩ = some (.int .i64 xa) ∧ W.cell? ⟨gd, od + q * 3 + 2, none⟩ = some (.int .i64 xb)) := fun W hk => ⟨hk.cell x0 id, hk.cell x1 id, hk.cell x2 id⟩
                  clear x0 x1 x2 hxm hab hok1 hFc
                  obtain ⟨mq, hmq⟩ : ∃ mq, (inR 1 p k f q).length = mq := ⟨_, rfl⟩
                  have HMq := Lib.hid hmq
                  rw [hmq] at hO hle ⊢
                  clear hmq
                  have q1 : (str (joinW (insL none (op, xa, xb)))).size ≤ 60 := by omega
                  have hI0 : insS 1 p k q (op, xa, xb) = joinW (insL none (op, xa, xb)) := by unfold insS; rw [if_neg (by decide), if_neg (by decide), List.append_nil]
                  have eI : itemR 1 p (tgs f.bd) k q (op, xa, xb) = [(joinW (insL none (op, xa, xb)), (k : Int), (q : Int))] := by unfold itemR; rw [if_neg (by decide), hI0]; rfl
                  have HS : Hid (lvs (inR 1 p k f (q + 1)) = lvs (inR 1 p k f q) ++ [.string (str (joinW (insL none (op, xa, xb)))), .int .i64 (k : Int), .int .i64 (q : Int)]) := by show _ = _; rw [hrow.out, eI, lvs_snoc]
                  have HLn : Hid ((inR 1 p k f (q + 1)).length = mq + 1) := by show _ = _; rw [hrow.out, eI, List.length_append, HMq.out]; rfl
                  clear eI hrow hI0 hs1 hs2 hz1 hz2
                  generalize str (joinW (insL none (op, xa, xb))) = S2 at *
                  go_wp2_with fail
                  refine (HLb.out _ (Keep.refl _ _)).mono ?_
                  rintro e w9 ⟨rfl, k9⟩
                  clear z0 z1 z2 z3 z4
                  have hO9 := hO.keepN k9
                  have hK9 := keepN hK k9
                  have hT9 := hT.trans (TK.ofN k9)
                  clear hO hK hT k9
                  obtain ⟨z0, z1, z2, z3, z4⟩ := HZ.out _ hT9
                  obtain ⟨x0, x1, x2⟩ := HXc.out _ hK9
                  obtain ⟨c0, c1⟩ := HX1.out _ hK9
                  go_wp2_with fail
                  refine (HSh.out _).mono ?_
                  rintro e w10 ⟨rfl, k10⟩
                  clear z0 z1 z2 z3 z4 x0 x1 x2 c0 c1
                  have hO10 := hO9.keepN k10
                  have hK10 := keepN hK9 k10
                  have hT10 := hT9.trans (TK.ofN k10)
                  clear hO9 hK9 hT9 k10
                  obtain ⟨z0, z1, z2, z3, z4⟩ := HZ.out _ hT10
                  obtain ⟨x0, x1, x2⟩ := HXc.out _ hK10
                  obtain ⟨c0, c1⟩ := HX1.out _ hK10
                  go_wp2_with (at_builtin; refine wpList_append_rd _ rfl (.tmp 117) (.tmp 122) _ rfl 78 3 32 i0 _ Tryz.underlying75 hi hz0 hz1 hz2 rfl (by decide) _ mq _ _ 1 _ [.string S2, .int .i64 (k : Int), .int .i64 (q : Int)] rfl (hO10.1.alloc _) rfl (W.rd_made (by simp) rfl) rfl (by simp [Value.oneCell']) (by unfold maxLen; omega) (by omega) ?_; intro B12 d12 w12 hrow hg hv; rw [← HS.out] at hrow; obtain ⟨hO12, hK12, hT12⟩ := out_after hO10 hK10 hg hv hrow; clear hrow hg hv )
                  go_roundw
                  case rel => exact ⟨q + 1, by omega, by go_num, ⟨B12, d12, by rw [HLn.out], by rw [HLn.out]; exact hO12⟩, hK12, hT10.trans hT12⟩
                  case measure => simp [intOf]; omega
                · obtain rfl : q = nd := by omega
                  have e : inR 1 p k f q = fnR 1 p (k + 1) := by rw [HFs.out, HLd.out]
                  rw [e] at hO ⊢
                  clear e
                  go_wp2
                  go_roundw
                  case rel => exact ⟨k + 1, by omega, by go_num, B2, d2, rfl, hO, hK⟩
                  case measure => simp [intOf]; omega
        · obtain rfl : k = ny := by omega
          have hZ : fnR 1 p k = T := by rw [← hly.out]; exact HA.out
          rw [hZ] at hO ⊢
          clear hZ
          go_wp2
          go_ret
          exact ⟨B, d, rfl, hO.mono (fun k h _ => Nat.le_trans gK.size h), keepN gK hK⟩

end Go.Proofs.YtgnooffedmeenaaGreatDoor.M.L

namespace Go.Proofs.YtgnooffedmeenaaGreatDoor.M.L
open Go.RowKit W

set_option maxRecDepth 100000 in
set_option maxHeartbeats 8000000 in
theorem rlines2_any (v : I.IV) (es : List I.SE) (fs : List I.FE) (w : World) (h : I.ImAt w v es fs) (hs : I.SmI es fs) :
    Calls Tryz.prog 41 #[v.val, .int .i64 2] w fun e w' => ∃ B d, e = .returned (.slice B (linesR 2 (I.imOf es fs)).length d) ∧ Own w' 78 3 (Fresh w) (.slice B (linesR 2 (I.imOf es fs)).length d) (linesR 2 (I.imOf es fs)).length (lvs (linesR 2 (I.imOf es fs))) ∧ Keep NoB w w' := by
  have bx := Blk.new w 25 v.cells
  have k0 := (Keep.refl NoB w).alloc (.cells v.cells 25)
  have HC := Lib.hid (fun W (hk : Keep NoB w W) => I.rcheckI_any v es fs W (h.keepN hk) hs (I.chkI (I.imOf es fs)) rfl)
  cases hok : I.okI (I.imOf es fs)
  · have e1 : linesR 2 (I.imOf es fs) = [] := by unfold linesR; rw [hok]; rfl
    have hR : (I.chkI (I.imOf es fs) != 0) = true := by rw [I.chkI_no hok]; rfl
    rw [e1]
    generalize I.chkI (I.imOf es fs) = R at *
    clear h hs hok e1
    obtain ⟨X, nx, cx, Y, ny, cy⟩ := v
    dsimp only [I.IV.val, I.IV.cells] at *
    obtain ⟨c0, c1⟩ := And.intro (bx.cell 0) (bx.cell 1)
    simp only [List.getElem?_toArray, List.getElem?_cons_zero, List.getElem?_cons_succ] at c0 c1
    go_enter Tryz.func41, Tryz.ntmps41
    go_wp2_with (go_at_call 81; refine (HC.out _ k0).mono ?_; rintro e w1 ⟨rfl, k1⟩)
    go_ret
    exact ⟨none, 0, rfl, Own.nil _ _ _ _, keepN k0 k1⟩
  rw [I.chkI_ok hok] at HC
  have HA : Hid (fnR 2 (I.imOf es fs) fs.length = linesR 2 (I.imOf es fs)) := by
    show _ = _
    unfold linesR
    rw [if_pos hok, ← fnR_all]
    show _ = fnR 2 _ (fs.map fun e => e.2).length
    rw [List.length_map]
  have hp : Hid (ImOk (I.imOf es fs)) := ⟨hok, fun f hf => by obtain ⟨e, he, rfl⟩ := List.mem_map.1 hf; exact (h.hf e he).hI⟩
  have HI : Hid (∀ W, Keep NoB w W → I.ImAt W v es fs) := fun W hk => h.keepN hk
  have HSm := Lib.hid hs
  have hlx : Hid (es.length = v.nx) := h.lx
  have hly : Hid (fs.length = v.ny) := h.ly
  have hx64 : v.nx ≤ 64 := by have h1 := hp.out.ns; rw [← hlx.out]; simpa [I.imOf] using h1
  have hy64 : v.ny ≤ 64 := by have h1 := hp.out.nf; rw [← hly.out]; simpa [I.imOf] using h1
  have hHb : Hid (∀ f ∈ (I.imOf es fs).fn, f.bd.length ≤ 512) := fun f hf => by
    obtain ⟨i, hi, rfl⟩ := List.getElem_of_mem hf
    exact (ok_body (hp.out.fn (List.getElem?_eq_getElem hi)).1).2.2.1
  obtain ⟨i0, hi, hz0, hz1, hz2⟩ := info_parts rline_info
  have HX := Lib.hid bx
  obtain ⟨T, hT⟩ : ∃ T, linesR 2 (I.imOf es fs) = T := ⟨_, rfl⟩
  rw [hT] at HA ⊢
  clear h hs hok bx hT
  obtain ⟨p, hpd⟩ : ∃ p, I.imOf es fs = p := ⟨_, rfl⟩
  have HPs : Hid (∀ i (h : i < es.length), p.sh[i]? = some es[i].2) := fun i hi => by rw [← hpd]; show (es.map fun e => e.2)[i]? = _; rw [List.getElem?_map, List.getElem?_eq_getElem hi]; rfl
  have HPf : Hid (∀ i (h : i < fs.length), p.fn[i]? = some fs[i].2) := fun i hi => by rw [← hpd]; show (fs.map fun e => e.2)[i]? = _; rw [List.getElem?_map, List.getElem?_eq_getElem hi]; rfl
  have HPl : Hid (p.sh.length = es.length ∧ p.fn.length = fs.length) := by rw [← hpd]; exact ⟨List.length_map _, List.length_map _⟩
  have HNm : Hid (∀ W, Keep NoB w W → ∀ k f, p.fn[k]? = some f → ∀ x ∈ f.bd, ∀ A n c, Rd W A (nvs (tgs f.bd)) → (tgs f.bd).length = n →
      Calls Tryz.prog 87 #[v.val, .slice A n c, O.instV x.1 x.2.1 x.2.2] W fun e w' => e = .returned (.string (str (joinW (insL (NWp p k x) x)))) ∧ Keep NoB W w') := by
    rw [← hpd]
    exact fun W hk k f hf x hx A n c hr hn => rnamed10_any v es fs W (HI.out W hk) hp.out k f hf x hx A n c hr hn
  rw [hpd] at HA hp hHb
  have hHpd := Lib.hid hpd
  clear hpd
  obtain ⟨X, nx, cx, Y, ny, cy⟩ := v
  dsimp only [I.IV.val, I.IV.cells] at *
  obtain ⟨c0, c1⟩ := And.intro (HX.out.cell 0) (HX.out.cell 1)
  simp only [List.getElem?_toArray, List.getElem?_cons_zero, List.getElem?_cons_succ] at c0 c1
  go_enter Tryz.func41, Tryz.ntmps41
  go_wp2_with (go_at_call 81; refine (HC.out _ k0).mono ?_; rintro e w1 ⟨rfl, k1⟩)
  have gK := keepN k0 k1
  have HX1 : Hid (∀ W, Keep NoB w1 W → W.cell? ⟨w.heap.size, 0, none⟩ = some (.slice X nx cx) ∧ W.cell? ⟨w.heap.size, 1, none⟩ = some (.slice Y ny cy)) := fun W hk => ⟨(keepN k1 hk).cell c0 id, (keepN k1 hk).cell c1 id⟩
  clear c0 c1 HX HC k0 k1
  go_loopw [5, 6] (fun o i wr => ∃ j : Nat, j ≤ nx ∧ i = .int .i64 j ∧ OutAt w1 wr o (shR p j)) (fun _ i _ => nx - (intOf i).toNat)
  case atStart => exact ⟨0, Nat.zero_le _, rfl, none, 0, rfl, Own.nil _ _ _ _, Keep.refl _ _⟩
  case round =>
    obtain ⟨j, hj, rfl, B, d, rfl, hO, hK⟩ := hrel
    obtain ⟨c0, c1⟩ := HX1.out _ hK
    by_cases hlt : j < nx
    · have hje : j < es.length := by rw [hlx.out]; exact hlt
      obtain ⟨g, off, rfl, hc⟩ := I.shape_at (HI.out _ (keepN gK hK)).rx hje
      have hse := (HI.out _ (keepN gK hK)).hs _ (List.getElem_mem hje)
      have hsn := HSm.out.sh _ (List.getElem_mem hje)
      have hsu := Lib.hid (shR_succ p j _ (HPs.out j hje))
      have hle := shR_len p j
      rw [HPl.out.1, hlx.out] at hle
      generalize es[j] = se at *
      obtain ⟨⟨A, n, c⟩, l⟩ := se
      dsimp only at *
      have HT := Lib.hid (fun W (hk : Keep NoB wr W) => S.rshowS_any A l n c W (hse.1.keepN hk) hse.2 (by omega))
      have htx := S.txt_le l
      have hsz : (S.shS l).length ≤ 1024 := by
        unfold S.shS
        split
        · exact htx
        · exact Nat.zero_le _
      have HXs : Hid ((⟨#[115, 104, 97, 112, 101, 32]⟩ : ByteArray) ++ str (S.shS l) = str (joinW (shapeT l))) := lit_app _ _
      have hz := str_size (S.shS l)
      have q1 : (str (S.shS l)).size ≤ 1024 := by omega
      obtain ⟨m, hm'⟩ : ∃ m, (shR p j).length = m := ⟨_, rfl⟩
      rw [hm'] at hle hO ⊢
      have HSv : Hid (lvs (shR p (j + 1)) = lvs (shR p j) ++ [.string ((⟨#[115, 104, 97, 112, 101, 32]⟩ : ByteArray) ++ str (S.shS l)), .int .i64 (-1), .int .i64 (-1)]) := by show _ = _; rw [hsu.out, lvs_snoc, HXs.out]; rfl
      have HL : Hid ((shR p (j + 1)).length = m + 1) := by show _ = _; rw [hsu.out, List.length_append, hm']; rfl
      clear hse hsn hsu htx hsz HXs hz hm'
      generalize str (S.shS l) = S1 at *
      go_wp2_with fail
      refine (HT.out _ (Keep.refl _ _)).mono ?_
      rintro e w2 ⟨rfl, k2⟩
      have hO2 := hO.keepN k2
      have hK2 := keepN hK k2
      clear hO hK k2 c0 c1 hc
      go_wp2_with (at_builtin; refine wpList_append_rd _ rfl (.tmp 23) (.tmp 32) _ rfl 78 3 32 i0 _ Tryz.underlying75 hi hz0 hz1 hz2 rfl (by decide) _ m _ _ 1 _ [.string ((⟨#[115, 104, 97, 112, 101, 32]⟩ : ByteArray) ++ S1), .int .i64 (-1), .int .i64 (-1)] rfl (hO2.1.alloc _) rfl (W.rd_made (by simp) rfl) rfl (by simp [Value.oneCell']) (by unfold maxLen; omega) (by omega) ?_; intro B3 d3 w3 hrow hg hv; rw [← HSv.out] at hrow; obtain ⟨hO3, hK3, hT3⟩ := out_after hO2 hK2 hg hv hrow; clear hrow hg hv )
      go_roundw
      case rel => exact ⟨j + 1, by omega, by go_num, B3, d3, by rw [HL.out], by rw [HL.out]; exact hO3, hK3⟩
      case measure => simp [intOf]; omega
    · obtain rfl : j = nx := by omega
      have hO0 := hO
      rw [show shR p j = fnR 2 p 0 by rw [fnR_zero, HPl.out.1, hlx.out]] at hO0
      rw [show (shR p j).length = (fnR 2 p 0).length by rw [fnR_zero, HPl.out.1, hlx.out]]
      have hO0' : Own wr 78 3 (Fresh w1) (.slice B (fnR 2 p 0).length d) (fnR 2 p 0).length (lvs (fnR 2 p 0)) := hO0
      clear hO hO0
      have hKw := hK
      clear hK
      go_wp2_with fail
      clear c0 c1
      go_loopw [5, 7] (fun o i wr => ∃ k : Nat, k ≤ ny ∧ i = .int .i64 k ∧ OutAt w1 wr o (fnR 2 p k)) (fun _ i _ => ny - (intOf i).toNat)
      case atStart => exact ⟨0, Nat.zero_le _, rfl, B, d, rfl, hO0', hKw⟩
      case round =>
        clear hO0' hKw
        obtain ⟨k, hk, rfl, B, d, rfl, hO, hK⟩ := hrel
        obtain ⟨c0, c1⟩ := HX1.out _ hK
        by_cases hltk : k < ny
        · have hkf : k < fs.length := by rw [hly.out]; exact hltk
          have hIw := HI.out _ gK
          obtain ⟨g, off, rfl, s0, s1, s2, s3, s4⟩ := I.fun_at hIw.ry hkf
          replace s0 := hK.cell s0 id
          replace s1 := hK.cell s1 id
          replace s2 := hK.cell s2 id
          replace s3 := hK.cell s3 id
          replace s4 := hK.cell s4 id
          have hfe := hIw.hf _ (List.getElem_mem hkf)
          have hsm := HSm.out.fn _ (List.getElem_mem hkf)
          have hpk := HPf.out k hkf
          have HPK := Lib.hid hpk
          have hof := (hp.out.fn hpk).1
          obtain ⟨hbok, _, hb512, _⟩ := ok_body hof
          have hfl := fnR_len 2 p hHb.out k (by rw [HPl.out.2, hly.out]; omega)
          rw [HPl.out.1, hlx.out] at hfl
          have HTg := Lib.hid (fun W (hk : Keep NoB w1 W) => rtargets_any fs[k].1 fs[k].2 W (hfe.keepN hk) hsm)
          have htgF : tgF fs[k].2 = (tgs fs[k].2.bd).map fun i => ((i : Nat) : Int) := by unfold tgF; rw [if_pos hof]
          rw [htgF] at HTg
          generalize fs[k] = fe at *
          obtain ⟨⟨Sg, A, na, ca, B', nb, cb, Lc, nl, cl, D, nd, cd⟩, f⟩ := fe
          dsimp only [F.FV.val, F.FV.cells] at *
          rw [List.length_map] at HTg
          have hna := hsm.na
          have hnb := hsm.nb
          have hnl := hsm.nl
          dsimp only at hna hnb hnl
          have HSi := Lib.hid (fun W (hk : Keep NoB w1 W) => S.rshowG_any A f.ar na ca B' f.rs nb cb W (hfe.keepN hk).ra (hfe.keepN hk).rb hfe.la hfe.lb (by omega) (by omega))
          have HTx := Lib.hid (fun W (hk : Keep NoB w1 W) => rtext_any Lc f.lc nl cl W (hfe.keepN hk).rl hfe.ll (by omega))
          have HBd : Hid (∀ W, Keep NoB w1 W → Rd W D (C.iis f.bd)) := fun W hk => (hfe.keepN hk).rd
          have HLd : Hid (f.bd.length = nd) := hfe.ld
          have HAl : Hid (C.AllI f.bd) := hfe.hI
          have HBo := Lib.hid hbok
          have hnd : nd ≤ 512 := by rw [← HLd.out]; exact hb512
          have HFs := Lib.hid (fnR_succ 2 p k f hpk)
          have HN := Lib.hid (fun W (hk : Keep NoB w1 W) x hx A n c hr hn => HNm.out W (keepN gK hk) k f hpk x hx A n c hr hn)
          have hle1 : (S.shG f.ar f.rs).length ≤ 2100 := by
            have ha := S.txt_le f.ar
            have hb := S.txt_le f.rs
            unfold S.shG
            split <;> simp <;> omega
          have hle2 := S.txt_le f.lc
          have hSg : Sg = str f.nm := str_of hfe.nm
          have hnm32 : f.nm.length ≤ 32 := okN_le ((F.okF_iff _).1 hof).1
          have q2 : Sg.size ≤ 32 := by rw [size_of hfe.nm]; exact hnm32
          have HX1' : Hid ((⟨#[102, 117, 110, 99, 32]⟩ : ByteArray) ++ Sg ++ (⟨#[32]⟩ : ByteArray) ++ str (S.shG f.ar f.rs) = str (joinW [funcW, f.nm, S.shG f.ar f.rs])) := by
            show _ = _
            rw [hSg, lit_app, app_lit, str_app]
            show str _ = str (funcW ++ 32 :: (f.nm ++ 32 :: S.shG f.ar f.rs))
            simp [funcW]
          have HX2 : Hid ((⟨#[108, 111, 99, 97, 108, 32]⟩ : ByteArray) ++ str (W.txt f.lc) = str (joinW [localW, W.txt f.lc])) := lit_app _ _
          have HLc : Hid ((nl = 0 ↔ f.lc = [])) := by
            constructor
            · intro e
              exact List.length_eq_zero_iff.1 (by rw [hfe.ll]; exact e)
            · intro e
              have h1 : f.lc.length = nl := hfe.ll
              rw [e] at h1
              exact h1.symm
          have hz1 := str_size (S.shG f.ar f.rs)
          have hz2 := str_size (W.txt f.lc)
          have q1 : (str (S.shG f.ar f.rs)).size ≤ 2100 := by omega
          have q3 : (str (W.txt f.lc)).size ≤ 1024 := by omega
          clear hfe hsm hof hbok hb512 htgF hpk hna hnb hle1 hle2 hSg hnm32 hz1 hz2 hIw
          obtain ⟨G1, hG1⟩ : ∃ G1, str (S.shG f.ar f.rs) = G1 := ⟨_, rfl⟩
          obtain ⟨G2, hG2⟩ : ∃ G2, str (W.txt f.lc) = G2 := ⟨_, rfl⟩
          rw [hG1] at HSi HX1' q1
          rw [hG2] at HTx HX2 q3
          clear hG1 hG2
          obtain ⟨m, hm'⟩ : ∃ m, (fnR 2 p k).length = m := ⟨_, rfl⟩
          rw [hm'] at hfl hO ⊢
          have HM := Lib.hid hm'
          clear hm'
          have u1 : ¬ 9223372036854775807 < 5 + Sg.size := by omega
          have u2 : ¬ 9223372036854775807 < 5 + Sg.size + 1 := by omega
          have u3 : ¬ 9223372036854775807 < 5 + Sg.size + 1 + G1.size := by omega
          have hB5 := Blk.new wr 37 #[.string Sg, .slice A na ca, .slice B' nb cb, .slice Lc nl cl, .slice D nd cd]
          have k5 := (Keep.refl NoB wr).alloc (.cells #[.string Sg, .slice A na ca, .slice B' nb cb, .slice Lc nl cl, .slice D nd cd] 37)
          have hO5 := hO.keepN k5
          have hK5 := keepN hK k5
          go_wp2_with fail
          generalize hW5 : wr.alloc (.cells #[.string Sg, .slice A na ca, .slice B' nb cb, .slice Lc nl cl, .slice D nd cd] 37) = W5 at *
          clear hW5 s0 s1 s2 s3 s4 hO hK k5 c0 c1
          have b0 := hB5.cell 0
          have b1 := hB5.cell 1
          have b2 := hB5.cell 2
          simp only [List.getElem?_toArray, List.getElem?_cons_zero, List.getElem?_cons_succ] at b0 b1 b2
          refine wp_region_tail (fun i => [46, 47, 48, 49, 50, 51, 52, 53, 54, 55, 56].getD i 0) 11 (by kernel_rfl) (by kernel_rfl) (by kernel_rfl) (by kernel_rfl) (by kernel_rfl) (RLy1 wr.heap.size B m d Sg A na ca B' nb cb G1) (fun i u x y h hk => RLy1_stable _ _ _ _ _ _ _ _ _ _ _ _ i u x y h hk) rfl ?step ?fin
          case step =>
            intro i o a w' hoo hi hF hK hA
            by_cases h0 : i = 0
            · subst h0
              simp only [List.getElem?_toArray, List.getElem?_cons_zero, Option.some.injEq] at hoo
              subst hoo
              have e5 : a.tmps.getD 5 undef = .slice B m d := hF.2.2 5 (by decide)
              refine Does.plain rfl ?_
              unfold yieldsK
              go_simp
              exact ⟨rfl, Keep.refl _ _⟩
            by_cases h1 : i = 1
            · subst h1
              simp only [List.getElem?_toArray, List.getElem?_cons_zero, List.getElem?_cons_succ, Option.some.injEq] at hoo
              subst hoo
              have e8 : a.tmps.getD 8 undef = .pointer (some ⟨wr.heap.size, 0, none⟩) := hF.2.2 8 (by decide)
              refine Does.plain rfl ?_
              unfold yieldsK
              go_simp
              exact ⟨rfl, Keep.refl _ _⟩
            by_cases h2 : i = 2
            · subst h2
              simp only [List.getElem?_toArray, List.getElem?_cons_zero, List.getElem?_cons_succ, Option.some.injEq] at hoo
              subst hoo
              have e47 : a.tmps.getD 47 undef = .pointer (some ⟨wr.heap.size, 0, none⟩) := hA ⟨1, .data⟩ (by simp) rfl
              have z0 := Keep.cell hK b0 id
              refine Does.plain rfl ?_
              unfold yieldsK
              go_simp
              exact ⟨rfl, Keep.refl _ _⟩
            by_cases h3 : i = 3
            · subst h3
              simp only [List.getElem?_toArray, List.getElem?_cons_zero, List.getElem?_cons_succ, Option.some.injEq] at hoo
              subst hoo
              have e48 : a.tmps.getD 48 undef = .string Sg := hA ⟨2, .data⟩ (by simp) rfl
              refine Does.plain rfl ?_
              unfold yieldsK
              go_simp
              exact ⟨rfl, Keep.refl _ _⟩
            by_cases h4 : i = 4
            · subst h4
              simp only [List.getElem?_toArray, List.getElem?_cons_zero, List.getElem?_cons_succ, Option.some.injEq] at hoo
              subst hoo
              have e49 : a.tmps.getD 49 undef = .string ((⟨#[102, 117, 110, 99, 32]⟩ : ByteArray) ++ Sg) := hA ⟨3, .data⟩ (by simp) rfl
              refine Does.plain rfl ?_
              unfold yieldsK
              go_simp
              exact ⟨rfl, Keep.refl _ _⟩
            by_cases h5 : i = 5
            · subst h5
              simp only [List.getElem?_toArray, List.getElem?_cons_zero, List.getElem?_cons_succ, Option.some.injEq] at hoo
              subst hoo
              have e8 : a.tmps.getD 8 undef = .pointer (some ⟨wr.heap.size, 0, none⟩) := hF.2.2 8 (by decide)
              refine Does.plain rfl ?_
              unfold yieldsK
              go_simp
              exact ⟨rfl, Keep.refl _ _⟩
            by_cases h6 : i = 6
            · subst h6
              simp only [List.getElem?_toArray, List.getElem?_cons_zero, List.getElem?_cons_succ, Option.some.injEq] at hoo
              subst hoo
              have e51 : a.tmps.getD 51 undef = .pointer (some ⟨wr.heap.size, 1, none⟩) := hA ⟨5, .data⟩ (by simp) rfl
              have z1 := Keep.cell hK b1 id
              have z2 := Keep.cell hK b2 id
              refine Does.plain rfl ?_
              unfold yieldsK
              go_simp
              exact ⟨rfl, Keep.refl _ _⟩
            by_cases h7 : i = 7
            · subst h7
              simp only [List.getElem?_toArray, List.getElem?_cons_zero, List.getElem?_cons_succ, Option.some.injEq] at hoo
              subst hoo
              have e52 : a.tmps.getD 52 undef = (.agg #[.slice A na ca, .slice B' nb cb] : Value) := hA ⟨6, .data⟩ (by simp) rfl
              refine Does.plain rfl ?_
              unfold yieldsK
              go_simp
              refine (HSi.out w' (keepN hK5 hK)).mono ?_
              rintro e w9 ⟨rfl, hk9⟩
              exact ⟨_, rfl, rfl, hk9⟩
            by_cases h8 : i = 8
            · subst h8
              simp only [List.getElem?_toArray, List.getElem?_cons_zero, List.getElem?_cons_succ, Option.some.injEq] at hoo
              subst hoo
              have e50 : a.tmps.getD 50 undef = .string ((⟨#[102, 117, 110, 99, 32]⟩ : ByteArray) ++ Sg ++ (⟨#[32]⟩ : ByteArray)) := hA ⟨4, .data⟩ (by simp) rfl
              have e53 : a.tmps.getD 53 undef = .string G1 := hA ⟨7, .data⟩ (by simp) rfl
              refine Does.plain rfl ?_
              unfold yieldsK
              go_simp
              exact ⟨rfl, Keep.refl _ _⟩
            by_cases h9 : i = 9
            · subst h9
              simp only [List.getElem?_toArray, List.getElem?_cons_zero, List.getElem?_cons_succ, Option.some.injEq] at hoo
              subst hoo
              have e54 : a.tmps.getD 54 undef = .string ((⟨#[102, 117, 110, 99, 32]⟩ : ByteArray) ++ Sg ++ (⟨#[32]⟩ : ByteArray) ++ G1) := hA ⟨8, .data⟩ (by simp) rfl
              refine Does.plain rfl ?_
              unfold yieldsK
              simp only [Array.getD_eq_getD_getElem?] at e54
              go_simp
              exact ⟨rfl, Keep.refl _ _⟩
            by_cases h10 : i = 10
            · subst h10
              simp only [List.getElem?_toArray, List.getElem?_cons_zero, List.getElem?_cons_succ, Option.some.injEq] at hoo
              subst hoo
              have e55 : a.tmps.getD 55 undef = .agg #[.string ((⟨#[102, 117, 110, 99, 32]⟩ : ByteArray) ++ Sg ++ (⟨#[32]⟩ : ByteArray) ++ G1), .int .i64 (-1), .int .i64 (-1)] := hA ⟨9, .data⟩ (by simp) rfl
              refine Does.plain rfl ?_
              unfold yieldsK
              simp only [Array.getD_eq_getD_getElem?] at e55
              go_simp
              exact ⟨⟨w'.heap.size, rfl, Blk.new _ _ _⟩, (Keep.refl _ _).alloc _⟩
            omega
          case fin =>
            intro a w' hF gK hA
            have e46 : a.tmps.getD 46 undef = .slice B m d := hA 0 (by decide)
            obtain ⟨h56, e56, hb56⟩ := hA 10 (by decide)
            have e56 : a.tmps.getD 56 undef = .slice (some ⟨h56, 0, none⟩) 1 1 := e56
            have hrb := rd_blkL hb56
            have ha := frameD_list (l := [46, 47, 48, 49, 50, 51, 52, 53, 54, 55, 56]) rfl hF
            rw [ha]
            simp only [List.map_cons, List.map_nil, e46, e56]
            generalize a.tmps.getD 47 undef = u1
            generalize a.tmps.getD 48 undef = u2
            generalize a.tmps.getD 49 undef = u3
            generalize a.tmps.getD 50 undef = u4
            generalize a.tmps.getD 51 undef = u5
            generalize a.tmps.getD 52 undef = u6
            generalize a.tmps.getD 53 undef = u7
            generalize a.tmps.getD 54 undef = u8
            generalize a.tmps.getD 55 undef = u9
            simp only [fillD, List.setIfInBounds_toArray, List.set_cons_zero, List.set_cons_succ]
            simp only [List.drop_succ_cons, List.drop_zero]
            have hO6 := hO5.keepN gK
            have hK6 := keepN hK5 gK
            have hB6 := hB5.keep gK id
            clear hO5 hK5 hB5 gK b0 b1 b2 hF hA ha e46 e56
            by_cases hl0 : nl = 0
            · subst hl0
              have hlc := HLc.out.1 rfl
              have hin : inR 2 p k f 0 = fnR 2 p k ++ [plainR [funcW, f.nm, S.shG f.ar f.rs]] := by
                rw [inR_zero]; unfold headT; rw [if_pos hlc]; rfl
              have HS : Hid (lvs (inR 2 p k f 0) = lvs (fnR 2 p k) ++ [.string ((⟨#[102, 117, 110, 99, 32]⟩ : ByteArray) ++ Sg ++ (⟨#[32]⟩ : ByteArray) ++ G1), .int .i64 (-1), .int .i64 (-1)]) := by show _ = _; rw [hin, lvs_snoc, HX1'.out]; rfl
              have HL : Hid ((inR 2 p k f 0).length = m + 1) := by show _ = _; rw [hin, List.length_append, HM.out]; rfl
              clear hlc hin
              go_wp2_with (at_builtin; refine wpList_append_rd _ rfl (.tmp 46) (.tmp 56) _ rfl 78 3 32 i0 _ Tryz.underlying75 hi hz0 hz1 hz2 rfl (by decide) _ m _ _ 1 _ [.string ((⟨#[102, 117, 110, 99, 32]⟩ : ByteArray) ++ Sg ++ (⟨#[32]⟩ : ByteArray) ++ G1), .int .i64 (-1), .int .i64 (-1)] rfl hO6.1 rfl hrb rfl (by simp [Value.oneCell']) (by unfold maxLen; omega) (by omega) ?_; intro B7 d7 w7 hrow hg hv; rw [← HS.out] at hrow; obtain ⟨hO7, hK7, hT7⟩ := out_after0 hO6 hK6 hg hv hrow; clear hrow hg hv ; have hB7 := hT7.blk' hB6 (by decide); obtain ⟨z0, z1, z2, z3, z4⟩ := And.intro (hB7.cell 0) (And.intro (hB7.cell 1) (And.intro (hB7.cell 2) (And.intro (hB7.cell 3) (hB7.cell 4)))); simp only [List.getElem?_toArray, List.getElem?_cons_zero, List.getElem?_cons_succ] at z0 z1 z2 z3 z4)
              refine (HTg.out _ hK7).mono ?_
              rintro e w8 ⟨TA, ct, rfl, hOT, k8⟩
              have FC8 : Hid (FcAt w8 wr.heap.size #[.string Sg, .slice A na ca, .slice B' nb cb, .slice Lc 0 cl, .slice D nd cd] TA (tgs f.bd).length ct (tgs f.bd)) := ⟨hB7.keep k8 id, _, hOT⟩
              have hO8 := hO7.keepN k8
              have hK8 := keepN hK7 k8
              rw [← HL.out] at hO8
              have hl8 : (inR 2 p k f 0).length ≤ m + 2 := by rw [HL.out]; omega
              clear hO7 hK7 hB7 hT7 k8 z0 z1 z2 z3 z4 hOT HS hO6 hK6 hB6
              obtain ⟨nt, hnt⟩ : ∃ nt, (tgs f.bd).length = nt := ⟨_, rfl⟩
              have htn := tgs_len f.bd
              rw [hnt] at FC8 htn ⊢
              rw [HLd.out] at htn
              have HNt := Lib.hid hnt
              clear hnt
              obtain ⟨z0, z1, z2, z3, z4⟩ := And.intro (FC8.out.bx.cell 0) (And.intro (FC8.out.bx.cell 1) (And.intro (FC8.out.bx.cell 2) (And.intro (FC8.out.bx.cell 3) (FC8.out.bx.cell 4))))
              simp only [List.getElem?_toArray, List.getElem?_cons_zero, List.getElem?_cons_succ] at z0 z1 z2 z3 z4
              go_wp2_with fail
              clear z0 z1 z2 z3 z4
              generalize wr.heap.size = b8 at *
              have HZ : Hid (∀ W, TK 78 w8 W → W.cell? ⟨b8, 0, none⟩ = some (.string Sg) ∧ W.cell? ⟨b8, 1, none⟩ = some (.slice A na ca) ∧ W.cell? ⟨b8, 2, none⟩ = some (.slice B' nb cb) ∧ W.cell? ⟨b8, 3, none⟩ = some (.slice Lc 0 cl) ∧ W.cell? ⟨b8, 4, none⟩ = some (.slice D nd cd)) := fun W hk =>
                And.intro ((FC8.out.tk hk).bx.cell 0) (And.intro ((FC8.out.tk hk).bx.cell 1) (And.intro ((FC8.out.tk hk).bx.cell 2) (And.intro ((FC8.out.tk hk).bx.cell 3) ((FC8.out.tk hk).bx.cell 4))))
              go_loopw [5, 10] (fun o i wr2 => ∃ q : Nat, q ≤ nd ∧ i = .int .i64 q ∧ (∃ B d, o = .slice B (inR 2 p k f q).length d ∧ Own wr2 78 3 (Fresh w1) (.slice B (inR 2 p k f q).length d) (inR 2 p k f q).length (lvs (inR 2 p k f q))) ∧ Keep NoB w1 wr2 ∧ TK 78 w8 wr2) (fun _ i _ => nd - (intOf i).toNat)
              case atStart => exact ⟨0, Nat.zero_le _, rfl, ⟨_, _, by rw [HL.out], hO8⟩, hK8, TK.refl _ _⟩
              case round =>
                clear hO8 hK8 HL
                obtain ⟨q, hq, rfl, ⟨B2, d2, rfl, hO⟩, hK, hT⟩ := hrel
                obtain ⟨z0, z1, z2, z3, z4⟩ := HZ.out _ hT
                by_cases hltq : q < nd
                · have hql : q < f.bd.length := by rw [HLd.out]; exact hltq
                  obtain ⟨gd, od, rfl, hc⟩ := C.rdJ_at (HBd.out _ (Keep.refl _ _)) (by omega)
                  obtain ⟨x0, x1, x2⟩ := hc q hql
                  have hrow := Lib.hid (inR_succ 2 p k f q hql)
                  have hxm := List.getElem_mem hql
                  have hab := HAl.out _ hxm
                  have hok1 := List.all_eq_true.1 HBo.out _ hxm
                  have hle := inR_len 2 p k f q
                  rw [HM.out] at hle
                  have hFc := FC8.out.tk hT
                  have HLb := Lib.hid (fun W (hk : Keep NoB wr W) => rlabel_any TA (tgs f.bd) nt ct q W (hFc.rd.keepN hk) HNt (by omega))
                  have HNx := Lib.hid (fun W (hk : Keep NoB w1 W) hr => HN.out W hk _ hxm TA nt ct hr HNt.out)
                  have HTk : Hid (∀ W, TK 78 w8 W → Rd W TA (nvs (tgs f.bd))) := fun W hk => (FC8.out.tk hk).rd
                  clear hc
                  generalize f.bd[q] = x at x0 x1 x2 hrow hxm hab hok1 HNx
                  have hs1 := insn_len hp.out.ok k hab
                  have hs2 := insn_none hab
                  have hz1 := str_size (joinW (insL (NWp p k x) x))
                  have hz2 := str_size (joinW (insL none x))
                  obtain ⟨op, xa, xb⟩ := x
                  dsimp only at x0 x1 x2 hab HNx
                  have HSh : Hid (∀ W, Calls Tryz.prog 86 #[O.instV op xa xb] W fun e w' => e = .returned (.string (str (joinW (insL none (op, xa, xb))))) ∧ Keep NoB W w') := fun W => by
                    have e : O.showI op xa xb = joinW (insL none (op, xa, xb)) := showI_ok hok1
                    rw [← e]
                    exact O.rshow_any op xa xb W hab.1 hab.2
                  have HXc : Hid (∀ W, Keep NoB w1 W → W.cell? ⟨gd, od + q * 3, none⟩ = some (.int .i64 op) ∧ W.cell? ⟨gd, od + q * 3 + 1, none⟩ = some (.int .i64 xa) ∧ W.cell? ⟨gd, od + q * 3 + 2, none⟩ = some (.int .i64 xb)) := fun W hk => ⟨hk.cell x0 id, hk.cell x1 id, hk.cell x2 id⟩
                  clear x0 x1 x2 hxm hab hok1 hFc
                  obtain ⟨mq, hmq⟩ : ∃ mq, (inR 2 p k f q).length = mq := ⟨_, rfl⟩
                  have HMq := Lib.hid hmq
                  rw [hmq] at hO hle ⊢
                  clear hmq
                  have q1 : (str (joinW (insL none (op, xa, xb)))).size ≤ 60 := by omega
                  have hI0 : insS 2 p k q (op, xa, xb) = joinW (insL none (op, xa, xb)) ++ noteB q := by unfold insS; rw [if_neg (by decide), if_pos rfl]
                  have eI : itemR 2 p (tgs f.bd) k q (op, xa, xb) = [(joinW (insL none (op, xa, xb)) ++ noteB q, (k : Int), (q : Int))] := by unfold itemR; rw [if_neg (by decide), hI0]; rfl
                  have HX3 : Hid (str (joinW (insL none (op, xa, xb))) ++ (⟨#[32, 59, 32]⟩ : ByteArray) ++ str (Lib.itoa (q : Int)) = str (joinW (insL none (op, xa, xb)) ++ noteB q)) := by show _ = _; rw [app_lit, str_app]; unfold noteB; simp
                  have HS0 : Hid (lvs (inR 2 p k f (q + 1)) = lvs (inR 2 p k f q) ++ [.string (str (joinW (insL none (op, xa, xb))) ++ (⟨#[32, 59, 32]⟩ : ByteArray) ++ str (Lib.itoa (q : Int))), .int .i64 (k : Int), .int .i64 (q : Int)]) := by show _ = _; rw [hrow.out, eI, lvs_snoc, HX3.out]
                  have HLn : Hid ((inR 2 p k f (q + 1)).length = mq + 1) := by show _ = _; rw [hrow.out, eI, List.length_append, HMq.out]; rfl
                  have HD := Lib.hid (fun W => digits_any (q : Int) W ⟨by omega, by omega⟩)
                  clear eI hrow hI0 hs1 hs2 hz1 hz2 HX3
                  generalize str (joinW (insL none (op, xa, xb))) = S2 at *
                  go_wp2_with fail
                  refine (HLb.out _ (Keep.refl _ _)).mono ?_
                  rintro e w9 ⟨rfl, k9⟩
                  clear z0 z1 z2 z3 z4
                  have hO9 := hO.keepN k9
                  have hK9 := keepN hK k9
                  have hT9 := hT.trans (TK.ofN k9)
                  clear hO hK hT k9
                  obtain ⟨z0, z1, z2, z3, z4⟩ := HZ.out _ hT9
                  obtain ⟨x0, x1, x2⟩ := HXc.out _ hK9
                  obtain ⟨c0, c1⟩ := HX1.out _ hK9
                  go_wp2_with fail
                  refine (HSh.out _).mono ?_
                  rintro e w10 ⟨rfl, k10⟩
                  clear z0 z1 z2 z3 z4 x0 x1 x2 c0 c1
                  have hO10 := hO9.keepN k10
                  have hK10 := keepN hK9 k10
                  have hT10 := hT9.trans (TK.ofN k10)
                  clear hO9 hK9 hT9 k10
                  obtain ⟨z0, z1, z2, z3, z4⟩ := HZ.out _ hT10
                  obtain ⟨x0, x1, x2⟩ := HXc.out _ hK10
                  obtain ⟨c0, c1⟩ := HX1.out _ hK10
                  go_wp2_with fail
                  refine (HD.out _).mono ?_
                  rintro e w11 ⟨dg, rfl, hdg, hdq, k11⟩
                  have HS : Hid (lvs (inR 2 p k f (q + 1)) = lvs (inR 2 p k f q) ++ [.string (S2 ++ (⟨#[32, 59, 32]⟩ : ByteArray) ++ dg), .int .i64 (k : Int), .int .i64 (q : Int)]) := by show _ = _; rw [HS0.out, hdq.out]
                  clear hdq HS0
                  clear z0 z1 z2 z3 z4 x0 x1 x2 c0 c1
                  have hO11 := hO10.keepN k11
                  have hK11 := keepN hK10 k11
                  have hT11 := hT10.trans (TK.ofN k11)
                  clear hO10 hK10 hT10 k11
                  go_wp2_with (at_builtin; refine wpList_append_rd _ rfl (.tmp 117) (.tmp 122) _ rfl 78 3 32 i0 _ Tryz.underlying75 hi hz0 hz1 hz2 rfl (by decide) _ mq _ _ 1 _ [.string (S2 ++ (⟨#[32, 59, 32]⟩ : ByteArray) ++ dg), .int .i64 (k : Int), .int .i64 (q : Int)] rfl (hO11.1.alloc _) rfl (W.rd_made (by simp) rfl) rfl (by simp [Value.oneCell']) (by unfold maxLen; omega) (by omega) ?_; intro B12 d12 w12 hrow hg hv; rw [← HS.out] at hrow; obtain ⟨hO12, hK12, hT12⟩ := out_after hO11 hK11 hg hv hrow; clear hrow hg hv )
                  go_roundw
                  case rel => exact ⟨q + 1, by omega, by go_num, ⟨B12, d12, by rw [HLn.out], by rw [HLn.out]; exact hO12⟩, hK12, hT11.trans hT12⟩
                  case measure => simp [intOf]; omega
                · obtain rfl : q = nd := by omega
                  have e : inR 2 p k f q = fnR 2 p (k + 1) := by rw [HFs.out, HLd.out]
                  rw [e] at hO ⊢
                  clear e
                  go_wp2
                  go_roundw
                  case rel => exact ⟨k + 1, by omega, by go_num, B2, d2, rfl, hO, hK⟩
                  case measure => simp [intOf]; omega
            · have hd : decide ((0 : Int) < (nl : Int)) = true := by rw [decide_eq_true_iff]; omega
              have hlc : f.lc ≠ [] := fun e => hl0 (HLc.out.2 e)
              have hin : inR 2 p k f 0 = fnR 2 p k ++ [plainR [funcW, f.nm, S.shG f.ar f.rs]] ++ [plainR [localW, W.txt f.lc]] := by
                rw [inR_zero]; unfold headT; rw [if_neg hlc]; simp
              have HS1 : Hid (lvs (fnR 2 p k ++ [plainR [funcW, f.nm, S.shG f.ar f.rs]]) = lvs (fnR 2 p k) ++ [.string ((⟨#[102, 117, 110, 99, 32]⟩ : ByteArray) ++ Sg ++ (⟨#[32]⟩ : ByteArray) ++ G1), .int .i64 (-1), .int .i64 (-1)]) := by show _ = _; rw [lvs_snoc, HX1'.out]; rfl
              have HS : Hid (lvs (inR 2 p k f 0) = lvs (fnR 2 p k ++ [plainR [funcW, f.nm, S.shG f.ar f.rs]]) ++ [.string ((⟨#[108, 111, 99, 97, 108, 32]⟩ : ByteArray) ++ G2), .int .i64 (-1), .int .i64 (-1)]) := by show _ = _; rw [hin, lvs_snoc, HX2.out]; rfl
              have HL : Hid ((inR 2 p k f 0).length = m + 1 + 1) := by show _ = _; rw [hin, List.length_append, List.length_append, HM.out]; rfl
              clear hlc hin
              go_wp2_with (at_builtin; refine wpList_append_rd _ rfl (.tmp 46) (.tmp 56) _ rfl 78 3 32 i0 _ Tryz.underlying75 hi hz0 hz1 hz2 rfl (by decide) _ m _ _ 1 _ [.string ((⟨#[102, 117, 110, 99, 32]⟩ : ByteArray) ++ Sg ++ (⟨#[32]⟩ : ByteArray) ++ G1), .int .i64 (-1), .int .i64 (-1)] rfl hO6.1 rfl hrb rfl (by simp [Value.oneCell']) (by unfold maxLen; omega) (by omega) ?_; intro B6b d6b w6b hrow hg hv; rw [← HS1.out] at hrow; obtain ⟨hO6b, hK6b, hT6b⟩ := out_after0 hO6 hK6 hg hv hrow; clear hrow hg hv ; have hB6b := hT6b.blk' hB6 (by decide); obtain ⟨z0, z1, z2, z3, z4⟩ := And.intro (hB6b.cell 0) (And.intro (hB6b.cell 1) (And.intro (hB6b.cell 2) (And.intro (hB6b.cell 3) (hB6b.cell 4)))); simp only [List.getElem?_toArray, List.getElem?_cons_zero, List.getElem?_cons_succ] at z0 z1 z2 z3 z4)
              refine (HTx.out _ hK6b).mono ?_
              rintro e w6c ⟨rfl, k6c⟩
              have hO6c := hO6b.keepN k6c
              have hK6c := keepN hK6b k6c
              have hB6c := hB6b.keep k6c id
              clear hO6b hK6b hB6b k6c z0 z1 z2 z3 z4 hT6b
              go_wp2_with (at_builtin; refine wpList_append_rd _ rfl (.tmp 62) (.tmp 68) _ rfl 78 3 32 i0 _ Tryz.underlying75 hi hz0 hz1 hz2 rfl (by decide) _ (m + 1) _ _ 1 _ [.string ((⟨#[108, 111, 99, 97, 108, 32]⟩ : ByteArray) ++ G2), .int .i64 (-1), .int .i64 (-1)] rfl (hO6c.1.alloc _) rfl (W.rd_made (by simp) rfl) rfl (by simp [Value.oneCell']) (by unfold maxLen; omega) (by omega) ?_; intro B7 d7 w7 hrow hg hv; rw [← HS.out] at hrow; obtain ⟨hO7, hK7, hT7⟩ := out_after hO6c hK6c hg hv hrow; clear hrow hg hv ; have hB7 := hT7.blk' hB6c (by decide); obtain ⟨z0, z1, z2, z3, z4⟩ := And.intro (hB7.cell 0) (And.intro (hB7.cell 1) (And.intro (hB7.cell 2) (And.intro (hB7.cell 3) (hB7.cell 4)))); simp only [List.getElem?_toArray, List.getElem?_cons_zero, List.getElem?_cons_succ] at z0 z1 z2 z3 z4)
              refine (HTg.out _ hK7).mono ?_
              rintro e w8 ⟨TA, ct, rfl, hOT, k8⟩
              have FC8 : Hid (FcAt w8 wr.heap.size #[.string Sg, .slice A na ca, .slice B' nb cb, .slice Lc nl cl, .slice D nd cd] TA (tgs f.bd).length ct (tgs f.bd)) := ⟨hB7.keep k8 id, _, hOT⟩
              have hO8 := hO7.keepN k8
              have hK8 := keepN hK7 k8
              rw [← HL.out] at hO8
              have hl8 : (inR 2 p k f 0).length ≤ m + 2 := by rw [HL.out]; omega
              clear hO7 hK7 hB7 hT7 k8 z0 z1 z2 z3 z4 hOT HS hO6 hK6 hB6
              obtain ⟨nt, hnt⟩ : ∃ nt, (tgs f.bd).length = nt := ⟨_, rfl⟩
              have htn := tgs_len f.bd
              rw [hnt] at FC8 htn ⊢
              rw [HLd.out] at htn
              have HNt := Lib.hid hnt
              clear hnt
              obtain ⟨z0, z1, z2, z3, z4⟩ := And.intro (FC8.out.bx.cell 0) (And.intro (FC8.out.bx.cell 1) (And.intro (FC8.out.bx.cell 2) (And.intro (FC8.out.bx.cell 3) (FC8.out.bx.cell 4))))
              simp only [List.getElem?_toArray, List.getElem?_cons_zero, List.getElem?_cons_succ] at z0 z1 z2 z3 z4
              go_wp2_with fail
              clear z0 z1 z2 z3 z4
              generalize wr.heap.size = b8 at *
              have HZ : Hid (∀ W, TK 78 w8 W → W.cell? ⟨b8, 0, none⟩ = some (.string Sg) ∧ W.cell? ⟨b8, 1, none⟩ = some (.slice A na ca) ∧ W.cell? ⟨b8, 2, none⟩ = some (.slice B' nb cb) ∧ W.cell? ⟨b8, 3, none⟩ = some (.slice Lc nl cl) ∧ W.cell? ⟨b8, 4, none⟩ = some (.slice D nd cd)) := fun W hk =>
                And.intro ((FC8.out.tk hk).bx.cell 0) (And.intro ((FC8.out.tk hk).bx.cell 1) (And.intro ((FC8.out.tk hk).bx.cell 2) (And.intro ((FC8.out.tk hk).bx.cell 3) ((FC8.out.tk hk).bx.cell 4))))
              go_loopw [5, 10] (fun o i wr2 => ∃ q : Nat, q ≤ nd ∧ i = .int .i64 q ∧ (∃ B d, o = .slice B (inR 2 p k f q).length d ∧ Own wr2 78 3 (Fresh w1) (.slice B (inR 2 p k f q).length d) (inR 2 p k f q).length (lvs (inR 2 p k f q))) ∧ Keep NoB w1 wr2 ∧ TK 78 w8 wr2) (fun _ i _ => nd - (intOf i).toNat)
              case atStart => exact ⟨0, Nat.zero_le _, rfl, ⟨_, _, by rw [HL.out], hO8⟩, hK8, TK.refl _ _⟩
              case round =>
                clear hO8 hK8 HL
                obtain ⟨q, hq, rfl, ⟨B2, d2, rfl, hO⟩, hK, hT⟩ := hrel
                obtain ⟨z0, z1, z2, z3, z4⟩ := HZ.out _ hT
                by_cases hltq : q < nd
                · have hql : q < f.bd.length := by rw [HLd.out]; exact hltq
                  obtain ⟨gd, od, rfl, hc⟩ := C.rdJ_at (HBd.out _ (Keep.refl _ _)) (by omega)
                  obtain ⟨x0, x1, x2⟩ := hc q hql
                  have hrow := Lib.hid (inR_succ 2 p k f q hql)
                  have hxm := List.getElem_mem hql
                  have hab := HAl.out _ hxm
                  have hok1 := List.all_eq_true.1 HBo.out _ hxm
                  have hle := inR_len 2 p k f q
                  rw [HM.out] at hle
                  have hFc := FC8.out.tk hT
                  have HLb := Lib.hid (fun W (hk : Keep NoB wr W) => rlabel_any TA (tgs f.bd) nt ct q W (hFc.rd.keepN hk) HNt (by omega))
                  have HNx := Lib.hid (fun W (hk : Keep NoB w1 W) hr => HN.out W hk _ hxm TA nt ct hr HNt.out)
                  have HTk : Hid (∀ W, TK 78 w8 W → Rd W TA (nvs (tgs f.bd))) := fun W hk => (FC8.out.tk hk).rd
                  clear hc
                  generalize f.bd[q] = x at x0 x1 x2 hrow hxm hab hok1 HNx
                  have hs1 := insn_len hp.out.ok k hab
                  have hs2 := insn_none hab
                  have hz1 := str_size (joinW (insL (NWp p k x) x))
                  have hz2 := str_size (joinW (insL none x))
                  obtain ⟨op, xa, xb⟩ := x
                  dsimp only at x0 x1 x2 hab HNx
                  have HSh : Hid (∀ W, Calls Tryz.prog 86 #[O.instV op xa xb] W fun e w' => e = .returned (.string (str (joinW (insL none (op, xa, xb))))) ∧ Keep NoB W w') := fun W => by
                    have e : O.showI op xa xb = joinW (insL none (op, xa, xb)) := showI_ok hok1
                    rw [← e]
                    exact O.rshow_any op xa xb W hab.1 hab.2
                  have HXc : Hid (∀ W, Keep NoB w1 W → W.cell? ⟨gd, od + q * 3, none⟩ = some (.int .i64 op) ∧ W.cell? ⟨gd, od + q * 3 + 1, none⟩ = some (.int .i64 xa) ∧ W.cell? ⟨gd, od + q * 3 + 2, none⟩ = some (.int .i64 xb)) := fun W hk => ⟨hk.cell x0 id, hk.cell x1 id, hk.cell x2 id⟩
                  clear x0 x1 x2 hxm hab hok1 hFc
                  obtain ⟨mq, hmq⟩ : ∃ mq, (inR 2 p k f q).length = mq := ⟨_, rfl⟩
                  have HMq := Lib.hid hmq
                  rw [hmq] at hO hle ⊢
                  clear hmq
                  have q1 : (str (joinW (insL none (op, xa, xb)))).size ≤ 60 := by omega
                  have hI0 : insS 2 p k q (op, xa, xb) = joinW (insL none (op, xa, xb)) ++ noteB q := by unfold insS; rw [if_neg (by decide), if_pos rfl]
                  have eI : itemR 2 p (tgs f.bd) k q (op, xa, xb) = [(joinW (insL none (op, xa, xb)) ++ noteB q, (k : Int), (q : Int))] := by unfold itemR; rw [if_neg (by decide), hI0]; rfl
                  have HX3 : Hid (str (joinW (insL none (op, xa, xb))) ++ (⟨#[32, 59, 32]⟩ : ByteArray) ++ str (Lib.itoa (q : Int)) = str (joinW (insL none (op, xa, xb)) ++ noteB q)) := by show _ = _; rw [app_lit, str_app]; unfold noteB; simp
                  have HS0 : Hid (lvs (inR 2 p k f (q + 1)) = lvs (inR 2 p k f q) ++ [.string (str (joinW (insL none (op, xa, xb))) ++ (⟨#[32, 59, 32]⟩ : ByteArray) ++ str (Lib.itoa (q : Int))), .int .i64 (k : Int), .int .i64 (q : Int)]) := by show _ = _; rw [hrow.out, eI, lvs_snoc, HX3.out]
                  have HLn : Hid ((inR 2 p k f (q + 1)).length = mq + 1) := by show _ = _; rw [hrow.out, eI, List.length_append, HMq.out]; rfl
                  have HD := Lib.hid (fun W => digits_any (q : Int) W ⟨by omega, by omega⟩)
                  clear eI hrow hI0 hs1 hs2 hz1 hz2 HX3
                  generalize str (joinW (insL none (op, xa, xb))) = S2 at *
                  go_wp2_with fail
                  refine (HLb.out _ (Keep.refl _ _)).mono ?_
                  rintro e w9 ⟨rfl, k9⟩
                  clear z0 z1 z2 z3 z4
                  have hO9 := hO.keepN k9
                  have hK9 := keepN hK k9
                  have hT9 := hT.trans (TK.ofN k9)
                  clear hO hK hT k9
                  obtain ⟨z0, z1, z2, z3, z4⟩ := HZ.out _ hT9
                  obtain ⟨x0, x1, x2⟩ := HXc.out _ hK9
                  obtain ⟨c0, c1⟩ := HX1.out _ hK9
                  go_wp2_with fail
                  refine (HSh.out _).mono ?_
                  rintro e w10 ⟨rfl, k10⟩
                  clear z0 z1 z2 z3 z4 x0 x1 x2 c0 c1
                  have hO10 := hO9.keepN k10
                  have hK10 := keepN hK9 k10
                  have hT10 := hT9.trans (TK.ofN k10)
                  clear hO9 hK9 hT9 k10
                  obtain ⟨z0, z1, z2, z3, z4⟩ := HZ.out _ hT10
                  obtain ⟨x0, x1, x2⟩ := HXc.out _ hK10
                  obtain ⟨c0, c1⟩ := HX1.out _ hK10
                  go_wp2_with fail
                  refine (HD.out _).mono ?_
                  rintro e w11 ⟨dg, rfl, hdg, hdq, k11⟩
                  have HS : Hid (lvs (inR 2 p k f (q + 1)) = lvs (inR 2 p k f q) ++ [.string (S2 ++ (⟨#[32, 59, 32]⟩ : ByteArray) ++ dg), .int .i64 (k : Int), .int .i64 (q : Int)]) := by show _ = _; rw [HS0.out, hdq.out]
                  clear hdq HS0
                  clear z0 z1 z2 z3 z4 x0 x1 x2 c0 c1
                  have hO11 := hO10.keepN k11
                  have hK11 := keepN hK10 k11
                  have hT11 := hT10.trans (TK.ofN k11)
                  clear hO10 hK10 hT10 k11
                  go_wp2_with (at_builtin; refine wpList_append_rd _ rfl (.tmp 117) (.tmp 122) _ rfl 78 3 32 i0 _ Tryz.underlying75 hi hz0 hz1 hz2 rfl (by decide) _ mq _ _ 1 _ [.string (S2 ++ (⟨#[32, 59, 32]⟩ : ByteArray) ++ dg), .int .i64 (k : Int), .int .i64 (q : Int)] rfl (hO11.1.alloc _) rfl (W.rd_made (by simp) rfl) rfl (by simp [Value.oneCell']) (by unfold maxLen; omega) (by omega) ?_; intro B12 d12 w12 hrow hg hv; rw [← HS.out] at hrow; obtain ⟨hO12, hK12, hT12⟩ := out_after hO11 hK11 hg hv hrow; clear hrow hg hv )
                  go_roundw
                  case rel => exact ⟨q + 1, by omega, by go_num, ⟨B12, d12, by rw [HLn.out], by rw [HLn.out]; exact hO12⟩, hK12, hT11.trans hT12⟩
                  case measure => simp [intOf]; omega
                · obtain rfl : q = nd := by omega
                  have e : inR 2 p k f q = fnR 2 p (k + 1) := by rw [HFs.out, HLd.out]
                  rw [e] at hO ⊢
                  clear e
                  go_wp2
                  go_roundw
                  case rel => exact ⟨k + 1, by omega, by go_num, B2, d2, rfl, hO, hK⟩
                  case measure => simp [intOf]; omega
        · obtain rfl : k = ny := by omega
          have hZ : fnR 2 p k = T := by rw [← hly.out]; exact HA.out
          rw [hZ] at hO ⊢
          clear hZ
          go_wp2
          go_ret
          exact ⟨B, d, rfl, hO.mono (fun k h _ => Nat.le_trans gK.size h), keepN gK hK⟩

end Go.Proofs.YtgnooffedmeenaaGreatDoor.M.L
