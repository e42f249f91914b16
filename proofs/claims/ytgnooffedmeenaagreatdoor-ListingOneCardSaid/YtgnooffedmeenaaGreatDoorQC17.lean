/-
  Part 17 of the proofs of LNamesRow, LOneRow: what is laid, and what the functions that the law runs answer. Conditions: each theorem names its own.
-/
import Derived.Test.YtgnooffedmeenaaGreatDoorQC16
namespace Go.Proofs.YtgnooffedmeenaaGreatDoor.M.L
open Go.RowKit W

def SOn (k j n l bl N bi : Nat) (S Wd : ByteArray) (op : Int) : Nat → Value → World → Prop
 | 0 => fun u _ => u = .int .i64 0
 | 3 => fun u _ => u = .int .i64 0
 | 7 => fun u _ => u = .int .i64 ((k : Nat) : Int)
 | 8 => fun u _ => u = .int .i64 ((k : Nat) : Int)
 | 12 => fun u _ => u = .int .i64 ((j : Nat) : Int)
 | 13 => fun u _ => u = .int .i64 ((j : Nat) : Int)
 | 17 => fun u _ => u = .int .i64 ((n : Nat) : Int)
 | 18 => fun u _ => u = .int .i64 ((l : Nat) : Int)
 | 22 => fun u _ => u = .int .i64 ((n : Nat) : Int)
 | 23 => fun u _ => u = .slice (some ⟨bl, 0, none⟩) N N
 | 24 => fun u _ => u = .int .i64 ((N : Nat) : Int)
 | 28 => fun u _ => u = .slice (some ⟨bl, 0, none⟩) N N
 | 29 => fun u _ => u = .int .i64 ((n : Nat) : Int)
 | 30 => fun u _ => u = .int .i64 ((n : Nat) - 1 : Int)
 | 31 => fun u _ => u = .pointer (some ⟨bl, n - 1, none⟩)
 | 32 => fun u _ => u = .string S
 | 33 => fun u _ => u = .pointer (some ⟨bi, 0, none⟩)
 | 34 => fun u _ => u = .int .i64 op
 | 35 => fun u _ => u = .string Wd
 | 36 => fun u _ => u = .bool true
 | _ => fun u _ => u = .bool false
theorem SOn_stable (k j n l bl N bi : Nat) (S Wd : ByteArray) (op : Int) (i : Nat) (u : Value) (W W' : World) (h : SOn k j n l bl N bi S Wd op i u W) (_hk : Keep NoB W W') : SOn k j n l bl N bi S Wd op i u W' := by
 unfold SOn at h ⊢
 split at h <;> exact h

set_option maxRecDepth 100000 in
set_option maxHeartbeats 16000000 in
theorem one_walk (v : I.IV) (es : List I.SE) (fs : List I.FE) (w : World) (h : I.ImAt w v es fs) (hl : I.LgI v es fs) (hE : EnvM w) :
  Calls Tryz.prog 7 #[v.val] w fun e w' => e = .returned (.bool true) ∧ Keep NoB w w' := by
 have bx := Blk.new w 25 v.cells
 have gK := (Keep.refl NoB w).alloc (.cells v.cells 25)
 have HIV := Lib.hid (fun W (hk : Keep NoB w W) => (h.keepN hk : I.ImAt W v es fs))
 have HLG := Lib.hid hl
 have HEn := Lib.hid (fun W (hk : Keep NoB w W) => (hE.keep hk : EnvM W))
 have HAl := Lib.hid (fun W (hk : Keep NoB w W) => alive_any W (hE.keep hk).1)
 have HG := Lib.hid (fun W (hk : Keep NoB w W) => I.great_any v es fs W (h.keepN hk) hl)
 have HCn := Lib.hid (fun W (hk : Keep NoB w W) (hs : I.SmI es fs) => count_any v es fs W (h.keepN hk) hs)
 have HCk := Lib.hid (fun W (hk : Keep NoB w W) => I.check_any v es fs W (h.keepN hk) hl (I.chkI (I.imOf es fs)) rfl)
 clear h hl hE
 obtain ⟨X, nx, cx, Y, ny, cy⟩ := v
 dsimp only [I.IV.val, I.IV.cells] at *
 have HB : Hid (∀ W, Keep NoB (w.alloc (.cells #[.slice X nx cx, .slice Y ny cy] 25)) W → W.cell? ⟨w.heap.size, 0, none⟩ = some (.slice X nx cx) ∧ W.cell? ⟨w.heap.size, 1, none⟩ = some (.slice Y ny cy)) :=
  fun W hk => ⟨(bx.keep hk id).cell 0, (bx.keep hk id).cell 1⟩
 clear bx
 go_enter Tryz.func7, Tryz.ntmps7
 go_wp2_with fail
 have b0 := Keep.refl NoB (w.alloc (.cells #[.slice X nx cx, .slice Y ny cy] 25))
 generalize w.alloc (.cells #[.slice X nx cx, .slice Y ny cy] 25) = wE at *
 generalize w.heap.size = gp at *
 refine (HAl.out _ gK).mono ?_
 rintro e w1 ⟨rfl, k1⟩
 have K := keepN b0 k1
 clear k1 b0 HAl
 obtain ⟨p0, p1⟩ := HB.out _ K
 go_wp2_with fail
 refine (HG.out _ (keepN gK K)).mono ?_
 rintro e w2 ⟨hg, k2⟩
 replace K := keepN K k2
 clear k2 HG p0 p1
 obtain ⟨p0, p1⟩ := HB.out _ K
 rcases hg with ⟨rfl, hg1, _⟩ | rfl
 rotate_left
 ·have HK := Lib.hid (keepN gK K)
  clear HIV HLG HEn HCn HCk HB gK K
  go_wp2
  go_ret
  exact ⟨rfl, HK.out⟩
 have HSM := Lib.hid hg1
 clear hg1
 go_wp2_with fail
 refine (HCn.out _ (keepN gK K) HSM.out).mono ?_
 rintro e w3 ⟨rfl, k3⟩
 replace K := keepN K k3
 clear k3 p0 p1 HCn
 obtain ⟨p0, p1⟩ := HB.out _ K
 have HC5 : Hid (cntF fs = cntF fs) := rfl
 generalize hcn0 : cntF fs = cn at HC5 ⊢
 by_cases hcn : cn ≤ 200
 rotate_left
 ·have hq : decide ((200 : Int) < (cn : Int)) = true := by rw [decide_eq_true_iff]; omega
  have HK := Lib.hid (keepN gK K)
  clear HIV HLG HEn HCk HB gK K
  go_wp2
  go_ret
  exact ⟨rfl, HK.out⟩
 have hq : decide ((200 : Int) < (cn : Int)) = false := by rw [decide_eq_false_iff_not]; omega
 replace HC5 : Hid (cntF fs ≤ 200) := by show _ ≤ _; rw [hcn0]; exact hcn
 clear hcn hcn0
 go_wp2_with fail
 refine (HCk.out _ (keepN gK K)).mono ?_
 rintro e w4 ⟨rfl, k4⟩
 replace K := keepN K k4
 clear k4 HCk p0 p1 hq
 obtain ⟨p0, p1⟩ := HB.out _ K
 by_cases hok : I.okI (I.imOf es fs) = true
 rotate_left
 ·rw [I.chkI_no (by simpa using hok)]
  have HK := Lib.hid (keepN gK K)
  clear HIV HLG HEn HB gK K
  go_wp2
  go_ret
  exact ⟨rfl, HK.out⟩
 rw [I.chkI_ok hok]
 have Hok := Lib.hid hok
 clear hok
 have hmm := @run_makeMap Tryz.prog
 obtain ⟨p, hp⟩ : ∃ p, I.imOf es fs = p := ⟨_, rfl⟩
 have hpo : I.okI p = true := by rw [← hp]; exact Hok.out
 have hpf : ∀ k (hk : k < fs.length), p.fn[k]? = some fs[k].2 := fun k hk => by rw [← hp]; unfold I.imOf; simp [hk]
 have hpi : ImOk p := by rw [← hp]; exact imOk_of (HIV.out _ gK) Hok.out
 have hpn : p.fn.length = fs.length := by rw [← hp]; unfold I.imOf; simp
 have hps : (p.fn.map fun f => f.bd.length).sum = cntF fs := by rw [← hp]; unfold cntF I.imOf; simp only [List.map_map]; rfl
 have hpt : cum p.fn p.fn.length = cntF fs := by unfold cum; rw [List.take_length]; exact hps
 have HLs := Lib.hid (fun W (hk : Keep NoB w W) => listApi_any ⟨X, nx, cx, Y, ny, cy⟩ es fs W (HIV.out _ hk) HLG.out (HEn.out _ hk).1)
 have HLn := Lib.hid (fun W (hk : Keep NoB w W) (k j : Nat) (hk2 : k < fs.length) (hj : j < fs[k].2.bd.length) => by
  have h := line_any ⟨X, nx, cx, Y, ny, cy⟩ es fs ((k : Nat) : Int) ((j : Nat) : Int) W (HIV.out _ hk) HLG.out
  rw [hp, cutP_ok hpo] at h
  unfold lineN lineE at h
  rw [line_of (hpf k hk2) hj] at h
  exact h)
 have HPc := Lib.hid (fun W (hk : Keep NoB w W) (k j : Nat) (hk2 : k < fs.length) (hj : j < fs[k].2.bd.length) => by
  have h := place_any ⟨X, nx, cx, Y, ny, cy⟩ es fs (((posI p (cum p.fn k + j) + 1 : Nat) : Int)) W (HIV.out _ hk) HLG.out
  rw [hp, cutP_ok hpo] at h
  unfold placeR at h
  have e : ((posI p (cum p.fn k + j) + 1 : Nat) : Int) = (posI p (cum p.fn k + j) : Int) + 1 := by omega
  rw [e, place_pos (hpf k hk2) hj, ← e] at h
  exact h)
 have HPa := Lib.hid (fun W (hk : Keep NoB w W) (n : Nat) => by
  have h := place_any ⟨X, nx, cx, Y, ny, cy⟩ es fs ((n : Nat) : Int) W (HIV.out _ hk) HLG.out
  rw [hp, cutP_ok hpo, met_place, hpt] at h
  exact h)
 have HSp := Lib.hid (fun W (hk : Keep NoB w W) => split_any hpi (by rw [hps]; exact Nat.le_trans HC5.out (by omega)) W (HEn.out _ hk).2)
 have HCn := Lib.hid (fun W (hk : Keep NoB w W) => count_any ⟨X, nx, cx, Y, ny, cy⟩ es fs W (HIV.out _ hk) HSM.out)
 have HRY := Lib.hid (fun W (hk : Keep NoB w W) => (HIV.out _ hk).ry)
 have HRD := Lib.hid (fun W (hk : Keep NoB w W) (k : Nat) (hk2 : k < fs.length) => ((HIV.out _ hk).hf _ (List.getElem_mem hk2)).rd)
 have HLD := Lib.hid (fun (k : Nat) (hk2 : k < fs.length) => ((HIV.out _ gK).hf _ (List.getElem_mem hk2)).ld)
 have HND := Lib.hid (fun (k : Nat) (hk2 : k < fs.length) => (HSM.out.fn _ (List.getElem_mem hk2)).nd)
 have hly : Hid (fs.length = ny) := (HIV.out _ gK).ly
 have H70 : Hid (fs.length ≤ 70) := HSM.out.nf
 have HT : Hid (textL 0 (I.imOf es fs) = textR 0 p) := by show _ = _; unfold textL; rw [if_pos Hok.out, hp]
 have HPO := Lib.hid (And.intro hpf (And.intro hpn (And.intro hpt hpi)))
 dsimp only [I.IV.val, I.IV.cells] at HLs HLn HPc HPa HCn HRY hly
 have HC200 : Hid (cntF fs ≤ 200) := HC5.out
 clear hp hpo hpf hpi hpn hps hpt HIV HLG HEn HSM HC5 Hok
 go_wp2_with fail
 refine (HLs.out _ (keepN gK K)).mono ?_
 rw [HT.out]
 rintro e w5 ⟨rfl, k5⟩
 replace K := keepN K k5
 clear k5 p0 p1
 go_wp2_with fail
 refine (HSp.out _ (keepN gK K)).mono ?_
 rintro e w6 ⟨rfl, hL6, hz6, k6⟩
 replace K := keepN K k6
 have hlb : w5.heap.size < w6.heap.size := hz6
 have hgp : gp < w6.heap.size := by
  have h1 := K.size
  have h2 := World.block_lt_of_cell? _ _ (HB.out _ K).1
  exact h2
 have hwm : w.heap.size ≤ w6.heap.size := (keepN gK K).size
 have hNb : (allR 0 p).length ≤ 65728 := (allR_le HPO.out.2.2.2 0).2
 generalize hN : (allR 0 p).length + 1 = N at *
 replace hNb : Hid (N ≤ 65729) := by show _ ≤ _; omega
 generalize w5.heap.size = bl at *
 have HB2 : Hid (∀ W, Keep (fun g => g = w6.heap.size) (w6.alloc (.map #[] 0)) W → (W.cell? ⟨gp, 0, none⟩ = some (.slice X nx cx) ∧ W.cell? ⟨gp, 1, none⟩ = some (.slice Y ny cy)) ∧ LinesAt W bl ((allR 0 p).map Prod.fst ++ [[]]) ∧ Keep NoB w W) := fun W hk => by
  have kk := K.alloc (.map #[] 0)
  obtain ⟨q0, q1⟩ := HB.out _ kk
  exact ⟨⟨hk.cell q0 (by show gp ≠ _; omega), hk.cell q1 (by show gp ≠ _; omega)⟩, (hL6.keep ((Keep.refl NoB w6).alloc (.map #[] 0)) id).keep hk (by show bl ≠ _; omega), keepN_of (keepN gK kk) hk hwm⟩
 have hNM := Lib.hid (NMap.new Tryz.prog 3 3 w6)
 have hK0 : Hid (Keep (fun g => g = w6.heap.size) (w6.alloc (.map #[] 0)) (w6.alloc (.map #[] 0))) := Keep.refl _ _
 obtain ⟨⟨p0, p1⟩, _, _⟩ := HB2.out _ hK0.out
 have hlt6 : w6.heap.size < (w6.alloc (.map #[] 0)).heap.size := by simp
 clear hL6 hz6 k6 hlb hgp HLs HSp HB K
 go_wp2_with fail
 generalize w6.alloc (.map #[] 0) = wB at *
 generalize w6.heap.size = bm at *
 go_loopw [6, 46] (fun s i wr => ∃ k : Nat, k ≤ ny ∧ i = .int .i64 (k : Int) ∧ s = .int .i64 ((lastV p (cum p.fn k) : Nat) : Int) ∧ Hid (NMap Tryz.prog 3 3 bm (cum p.fn k) (metF p (cum p.fn k)) wr) ∧ Hid (Keep (fun g => g = bm) wB wr)) (fun _ i _ => ny - (intOf i).toNat)
 case atStart => exact ⟨0, Nat.zero_le _, rfl, rfl, NMap.congr hNM.out (metF_zero p), hK0⟩
 case round =>
  clear p0 p1 hNM hK0
  obtain ⟨k, hk, rfl, rfl, hM, hKr⟩ := hrel
  obtain ⟨⟨p0, p1⟩, hL, hKw⟩ := HB2.out _ hKr.out
  by_cases hlt : k < ny
  ·have hjl : k < fs.length := by rw [hly.out]; exact hlt
   obtain ⟨g, off, rfl, s0, s1, s2, s3, s4⟩ := I.fun_at (HRY.out _ hKw) hjl
   have hnd := HND.out k hjl
   have hld := HLD.out k hjl
   have hpk := HPO.out.1 k hjl
   have HLn2 := Lib.hid (fun W hk j hj => HLn.out W hk k j hjl hj)
   have HPc2 := Lib.hid (fun W hk j hj => HPc.out W hk k j hjl hj)
   have HRD2 := Lib.hid (fun W hk => HRD.out W hk k hjl)
   have HBD : Hid (∀ j (hj : j < fs[k].2.bd.length), ∃ s : Bs, posI p (cum p.fn k + j) + 1 < N ∧ ((allR 0 p).map Prod.fst ++ [[]])[posI p (cum p.fn k + j)]? = some s ∧ Lib.hasPrefix s (O.rowAt fs[k].2.bd[j].1).name = true) := fun j hj => by
    have h1 := posI_lt hpk hj
    obtain ⟨s, h2, h3⟩ := line_name hpk (List.getElem?_eq_getElem hj)
    exact ⟨s, by rw [← hN]; omega, by rw [List.getElem?_append_left (by simpa using h1)]; exact h2, h3⟩
   have HCU : Hid (cum p.fn k + fs[k].2.bd.length ≤ cum p.fn p.fn.length ∧ cum p.fn p.fn.length ≤ 200 ∧ cum p.fn (k + 1) = cum p.fn k + fs[k].2.bd.length) := ⟨cum_le hpk, by rw [HPO.out.2.2.1]; exact HC200.out, cum_succ hpk⟩
   have h70 := H70.out
   generalize hek : fs[k] = ek at *
   obtain ⟨⟨eS, eA, ena, eca, eB, enb, ecb, eL, enl, ecl, eD, nd, ecd⟩, ⟨e1, e2, e3, e4, bd⟩⟩ := ek
   dsimp only at *
   have b7 := Blk.new wr 37 #[.string eS, .slice eA ena eca, .slice eB enb ecb, .slice eL enl ecl, .slice eD nd ecd]
   have kA := (Keep.refl NoB wr).alloc (.cells #[.string eS, .slice eA ena eca, .slice eB enb ecb, .slice eL enl ecl, .slice eD nd ecd] 37)
   have hM2 : Hid (NMap Tryz.prog 3 3 bm (cum p.fn k + 0) (metF p (cum p.fn k + 0)) (wr.alloc (.cells #[.string eS, .slice eA ena eca, .slice eB enb ecb, .slice eL enl ecl, .slice eD nd ecd] 37))) := hM.out.keep kA id
   have hKr2 : Hid (Keep (fun g => g = bm) wB (wr.alloc (.cells #[.string eS, .slice eA ena eca, .slice eB enb ecb, .slice eL enl ecl, .slice eD nd ecd] 37))) := hKr.out.alloc _
   have f4 := b7.cell 4
   simp only [List.getElem?_toArray, List.getElem?_cons_zero, List.getElem?_cons_succ] at f4
   clear b7 kA hM hKr hL hKw hek hpk
   go_wp2_with fail
   generalize wr.alloc (.cells #[.string eS, .slice eA ena eca, .slice eB enb ecb, .slice eL enl ecl, .slice eD nd ecd] 37) = w7 at *
   generalize wr.heap.size = b8 at *
   go_loopw [6, 54] (fun s i wr2 => ∃ j : Nat, j ≤ nd ∧ i = .int .i64 (j : Int) ∧ s = .int .i64 ((lastV p (cum p.fn k + j) : Nat) : Int) ∧ Hid (NMap Tryz.prog 3 3 bm (cum p.fn k + j) (metF p (cum p.fn k + j)) wr2) ∧ Hid (Keep (fun g => g = bm) wB wr2)) (fun _ i _ => nd - (intOf i).toNat)
   case atStart => exact ⟨0, Nat.zero_le _, rfl, rfl, hM2, hKr2⟩
   case round =>
    clear f4 hM2 hKr2 p0 p1 s0 s1 s2 s3 s4
    obtain ⟨j, hj, rfl, rfl, hM, hKr⟩ := hrel
    obtain ⟨⟨p0, p1⟩, hL, hKw⟩ := HB2.out _ hKr.out
    by_cases hlj : j < nd
    ·have hjb : j < bd.length := by omega
     obtain ⟨gd, od, rfl, hcd⟩ := HRD2.out _ hKw (by rw [C.iis_length]; omega)
     obtain ⟨x0c, x1c, x2c⟩ := C.iis_at bd j hjb
     have d0 := hcd _ _ x0c
     have d1 := hcd _ _ x1c
     have d2 := hcd _ _ x2c
     rw [← Nat.add_assoc] at d1 d2
     obtain ⟨ls, hs1, hs2, hs3⟩ := HBD.out j hjb
     obtain ⟨hc1, hc2, hc3⟩ := HCU.out
     have hcl : cum p.fn k + j < cum p.fn p.fn.length := by omega
     have hlast := lastV_lt hcl
     have hnew := metF_new hcl
     have hsucc := Lib.hid (metF_succ p (cum p.fn k + j))
     have hlsucc := lastV_succ p (cum p.fn k + j)
     have HLn3 := Lib.hid (fun W hk => HLn2.out W hk j hjb)
     have HPc3 := Lib.hid (fun W hk => HPc2.out W hk j hjb)
     obtain ⟨hs1b, hs2b⟩ := List.getElem?_eq_some_iff.1 hs2
     obtain ⟨S, hcS, hSd⟩ := hL _ hs1b
     rw [hs2b] at hSd
     have hnm : Hid (cum p.fn k + (j + 1) = cum p.fn k + j + 1) := by show _ = _; omega
     generalize hcc : cum p.fn k + j = cc at *
     have hposz : ((posI p cc + 1 : Nat) : Int) = (posI p cc : Int) + 1 := by omega
     rw [← hposz] at hnew
     generalize hx : bd[j] = x at *
     obtain ⟨op, x1, x2⟩ := x
     dsimp only at d0 d1 d2 hs3
     have HNm : Hid (∀ W, Calls Tryz.prog 36 #[.int .i64 op] W fun e w' => e = .returned (.string (str (O.rowAt op).name)) ∧ Keep NoB W w') := fun W => O.name_any op W
     have HPf : Hid (∀ W, Calls Tryz.prog 35 #[.string S, .string (str (O.rowAt op).name)] W fun e w' => e = .returned (.bool true) ∧ Keep NoB W w') := fun W => by
      refine (Tryz.strings_HasPrefix S (str (O.rowAt op).name) W).mono ?_
      rw [str_bytes3, hSd, hs3]
      rintro e w' ⟨rfl, rfl⟩
      exact ⟨rfl, Keep.refl _ _⟩
     generalize str (O.rowAt op).name = Wd at HNm HPf
     have b9 := Blk.new wr 55 #[.int .i64 op, .int .i64 x1, .int .i64 x2]
     have kA := (Keep.refl NoB wr).alloc (.cells #[.int .i64 op, .int .i64 x1, .int .i64 x2] 55)
     obtain ⟨n, hn⟩ : ∃ n, posI p cc + 1 = n := ⟨_, rfl⟩
     have hn1 : posI p cc = n - 1 := by omega
     have hn0 : 1 ≤ n := by omega
     rw [hn] at HLn3 HPc3 hnew hlast hlsucc
     rw [hn1] at hcS
     have hsu2 : Hid (∀ y, metF p (cc + 1) y = setF (metF p cc) ((n : Nat) : Int) 1 y) := fun y => by rw [hsucc.out y, ← hn, hposz]
     have hnN : n < N := by omega
     generalize lastV p cc = l at *
     clear hL hs1 hs2 hs3 hs1b hs2b hSd hcd x0c x1c x2c hsucc hposz
     have hcO := b9.cell 0
     simp only [List.getElem?_toArray, List.getElem?_cons_zero] at hcO
     have hcS2 := kA.cell hcS id
     have hM2 := hM.out.keep kA id
     have hKr2 := hKr.out.alloc (.cells #[.int .i64 op, .int .i64 x1, .int .i64 x2] 55)
     have hcc2 : cc < 200 := by omega
     have hNb2 := hNb.out
     clear p0 p1 hcS b9 kA
     obtain ⟨⟨p0, p1⟩, _, hKw2⟩ := HB2.out _ hKr2
     go_wp2_with fail
     generalize wr.alloc (.cells #[.int .i64 op, .int .i64 x1, .int .i64 x2] 55) = w8 at *
     generalize wr.heap.size = bi at *
     clear p0 p1 d0 d1 d2 hKw hM hKr hcl
     refine (HLn3.out _ hKw2).mono ?_
     rintro e w9 ⟨rfl, k9⟩
     have q9 : Keep (fun g => g = bm) wB w9 := hKr2.trans k9 (fun _ h _ => h.elim)
     obtain ⟨⟨p0, p1⟩, _, hKw9⟩ := HB2.out _ q9
     go_wp2_with fail
     refine (HPc3.out _ hKw9).mono ?_
     rintro e w10 ⟨rfl, k10⟩
     have q10 : Keep (fun g => g = bm) wB w10 := q9.trans k10 (fun _ h _ => h.elim)
     have kk := keepN k9 k10
     have hM10 := Lib.hid (hM2.keep kk id)
     replace hcS := kk.cell hcS2 id
     replace hcO := kk.cell hcO id
     have Q10 := Lib.hid q10
     clear p0 p1 k9 k10 q9 q10 kk hKw2 hKw9 hM2 hKr2 hcS2 HLn3 HPc3
     have hd1 : decide ((n : Int) ≤ (l : Int)) = false := by rw [decide_eq_false_iff_not]; omega
     have hd2 : decide ((N : Int) < (n : Int)) = false := by rw [decide_eq_false_iff_not]; omega
     have hidx : ((n : Int) - 1).toNat = n - 1 := by omega
     have hd1n : decide (n ≤ l) = false := by rw [decide_eq_false_iff_not]; omega
     have hd2n : decide (N < n) = false := by rw [decide_eq_false_iff_not]; omega
     have hbn : (1 : Int) ≤ (n : Int) ∧ (n : Int) - 1 < (N : Int) := by omega
     have hnew := Lib.hid hnew
     have hlsucc := Lib.hid hlsucc
     go_wp2_with fail
     refine wp_region_props6 (fun i => [73, 74, 75, 76, 77, 78, 79, 80, 81, 82, 83, 84, 85, 86, 87, 88, 89, 90, 91, 92, 93, 94, 95, 96, 97, 98, 99, 100, 101, 102, 103, 104, 105, 106, 107, 108, 109, 110, 111].getD i 0) 9999 (NoB) (fun _ => false) (by kernel_rfl) (by kernel_rfl) (by kernel_rfl) (SOn k j n l bl N bi S Wd op) (fun i u x y _ _ _ h hk => SOn_stable _ _ _ _ _ _ _ _ _ _ i u x y h (hk.mono (fun _ hf _ => hf))) (fun i u x y _ h hk => SOn_stable _ _ _ _ _ _ _ _ _ _ i u x y h hk) rfl ?step ?spec ?fin
     case step =>
      intro i o a w' hoo hic hF hK hA
      have hi : i < 39 := by simpa using (Array.getElem?_eq_some_iff.1 hoo).1
      by_cases h0 : i = 0
      ·subst h0
       simp only [List.getElem?_toArray, List.getElem?_cons_zero, Option.some.injEq] at hoo
       subst hoo
       have e12 : a.tmps.getD 12 undef = .int .i64 0 := hF.2.2 12 (by decide)
       refine Does.plain rfl ?_
       unfold yieldsK
       go_simp
       exact ⟨rfl, Keep.refl _ _⟩
      by_cases h1 : i = 1
      ·subst h1
       simp only [List.getElem?_toArray, List.getElem?_cons_zero, List.getElem?_cons_succ, Option.some.injEq] at hoo
       subst hoo
       have e73 : a.tmps.getD 73 undef = .int .i64 0 := hA ⟨0, .data⟩ (by simp) rfl
       refine Does.plain rfl ?_
       unfold yieldsK
       go_simp
       exact ⟨rfl, Keep.refl _ _⟩
      by_cases h2 : i = 2
      ·subst h2
       simp only [List.getElem?_toArray, List.getElem?_cons_zero, List.getElem?_cons_succ, Option.some.injEq] at hoo
       subst hoo
       have e74 : a.tmps.getD 74 undef = .bool false := hA ⟨1, .data⟩ (by simp) rfl
       refine Does.plain rfl ?_
       unfold yieldsK
       go_simp
       exact ⟨rfl, Keep.refl _ _⟩
      by_cases h3 : i = 3
      ·subst h3
       simp only [List.getElem?_toArray, List.getElem?_cons_zero, List.getElem?_cons_succ, Option.some.injEq] at hoo
       subst hoo
       have e15 : a.tmps.getD 15 undef = .int .i64 0 := hF.2.2 15 (by decide)
       refine Does.yes (j := 2) (d := 75) (want := false) rfl rfl (hA ⟨2, .guard⟩ (by simp) rfl) ?_
       unfold yieldsK
       go_simp
       exact ⟨rfl, Keep.refl _ _⟩
      by_cases h4 : i = 4
      ·subst h4
       simp only [List.getElem?_toArray, List.getElem?_cons_zero, List.getElem?_cons_succ, Option.some.injEq] at hoo
       subst hoo
       have e76 : a.tmps.getD 76 undef = .int .i64 0 := hA ⟨3, .data⟩ (by simp) rfl
       refine Does.yes (j := 2) (d := 75) (want := false) rfl rfl (hA ⟨2, .guard⟩ (by simp) rfl) ?_
       unfold yieldsK
       go_simp
       exact ⟨rfl, Keep.refl _ _⟩
      by_cases h5 : i = 5
      ·subst h5
       simp only [List.getElem?_toArray, List.getElem?_cons_zero, List.getElem?_cons_succ, Option.some.injEq] at hoo
       subst hoo
       have e75 : a.tmps.getD 75 undef = .bool false := hA ⟨2, .data⟩ (by simp) rfl
       have e77 : a.tmps.getD 77 undef = .bool false := hA ⟨4, .data⟩ (by simp) rfl
       refine Does.plain rfl ?_
       unfold yieldsK
       go_simp
       exact ⟨rfl, Keep.refl _ _⟩
      by_cases h6 : i = 6
      ·subst h6
       simp only [List.getElem?_toArray, List.getElem?_cons_zero, List.getElem?_cons_succ, Option.some.injEq] at hoo
       subst hoo
       have e78 : a.tmps.getD 78 undef = .bool false := hA ⟨5, .data⟩ (by simp) rfl
       refine Does.plain rfl ?_
       unfold yieldsK
       go_simp
       exact ⟨rfl, Keep.refl _ _⟩
      by_cases h7 : i = 7
      ·subst h7
       simp only [List.getElem?_toArray, List.getElem?_cons_zero, List.getElem?_cons_succ, Option.some.injEq] at hoo
       subst hoo
       have e13 : a.tmps.getD 13 undef = .int .i64 ((k : Nat) : Int) := hF.2.2 13 (by decide)
       refine Does.yes (j := 6) (d := 79) (want := false) rfl rfl (hA ⟨6, .guard⟩ (by simp) rfl) ?_
       unfold yieldsK
       go_simp
       exact ⟨rfl, Keep.refl _ _⟩
      by_cases h8 : i = 8
      ·subst h8
       simp only [List.getElem?_toArray, List.getElem?_cons_zero, List.getElem?_cons_succ, Option.some.injEq] at hoo
       subst hoo
       have e7 : a.tmps.getD 7 undef = .int .i64 ((k : Nat) : Int) := hF.2.2 7 (by decide)
       refine Does.yes (j := 6) (d := 79) (want := false) rfl rfl (hA ⟨6, .guard⟩ (by simp) rfl) ?_
       unfold yieldsK
       go_simp
       exact ⟨rfl, Keep.refl _ _⟩
      by_cases h9 : i = 9
      ·subst h9
       simp only [List.getElem?_toArray, List.getElem?_cons_zero, List.getElem?_cons_succ, Option.some.injEq] at hoo
       subst hoo
       have e80 : a.tmps.getD 80 undef = .int .i64 ((k : Nat) : Int) := hA ⟨7, .data⟩ (by simp) rfl
       have e81 : a.tmps.getD 81 undef = .int .i64 ((k : Nat) : Int) := hA ⟨8, .data⟩ (by simp) rfl
       refine Does.yes (j := 6) (d := 79) (want := false) rfl rfl (hA ⟨6, .guard⟩ (by simp) rfl) ?_
       unfold yieldsK
       go_simp
       exact ⟨rfl, Keep.refl _ _⟩
      by_cases h10 : i = 10
      ·subst h10
       simp only [List.getElem?_toArray, List.getElem?_cons_zero, List.getElem?_cons_succ, Option.some.injEq] at hoo
       subst hoo
       have e79 : a.tmps.getD 79 undef = .bool false := hA ⟨6, .data⟩ (by simp) rfl
       have e82 : a.tmps.getD 82 undef = .bool false := hA ⟨9, .data⟩ (by simp) rfl
       refine Does.plain rfl ?_
       unfold yieldsK
       go_simp
       exact ⟨rfl, Keep.refl _ _⟩
      by_cases h11 : i = 11
      ·subst h11
       simp only [List.getElem?_toArray, List.getElem?_cons_zero, List.getElem?_cons_succ, Option.some.injEq] at hoo
       subst hoo
       have e83 : a.tmps.getD 83 undef = .bool false := hA ⟨10, .data⟩ (by simp) rfl
       refine Does.plain rfl ?_
       unfold yieldsK
       go_simp
       exact ⟨rfl, Keep.refl _ _⟩
      by_cases h12 : i = 12
      ·subst h12
       simp only [List.getElem?_toArray, List.getElem?_cons_zero, List.getElem?_cons_succ, Option.some.injEq] at hoo
       subst hoo
       have e14 : a.tmps.getD 14 undef = .int .i64 ((j : Nat) : Int) := hF.2.2 14 (by decide)
       refine Does.yes (j := 11) (d := 84) (want := false) rfl rfl (hA ⟨11, .guard⟩ (by simp) rfl) ?_
       unfold yieldsK
       go_simp
       exact ⟨rfl, Keep.refl _ _⟩
      by_cases h13 : i = 13
      ·subst h13
       simp only [List.getElem?_toArray, List.getElem?_cons_zero, List.getElem?_cons_succ, Option.some.injEq] at hoo
       subst hoo
       have e9 : a.tmps.getD 9 undef = .int .i64 ((j : Nat) : Int) := hF.2.2 9 (by decide)
       refine Does.yes (j := 11) (d := 84) (want := false) rfl rfl (hA ⟨11, .guard⟩ (by simp) rfl) ?_
       unfold yieldsK
       go_simp
       exact ⟨rfl, Keep.refl _ _⟩
      by_cases h14 : i = 14
      ·subst h14
       simp only [List.getElem?_toArray, List.getElem?_cons_zero, List.getElem?_cons_succ, Option.some.injEq] at hoo
       subst hoo
       have e85 : a.tmps.getD 85 undef = .int .i64 ((j : Nat) : Int) := hA ⟨12, .data⟩ (by simp) rfl
       have e86 : a.tmps.getD 86 undef = .int .i64 ((j : Nat) : Int) := hA ⟨13, .data⟩ (by simp) rfl
       refine Does.yes (j := 11) (d := 84) (want := false) rfl rfl (hA ⟨11, .guard⟩ (by simp) rfl) ?_
       unfold yieldsK
       go_simp
       exact ⟨rfl, Keep.refl _ _⟩
      by_cases h15 : i = 15
      ·subst h15
       simp only [List.getElem?_toArray, List.getElem?_cons_zero, List.getElem?_cons_succ, Option.some.injEq] at hoo
       subst hoo
       have e84 : a.tmps.getD 84 undef = .bool false := hA ⟨11, .data⟩ (by simp) rfl
       have e87 : a.tmps.getD 87 undef = .bool false := hA ⟨14, .data⟩ (by simp) rfl
       refine Does.plain rfl ?_
       unfold yieldsK
       go_simp
       exact ⟨rfl, Keep.refl _ _⟩
      by_cases h16 : i = 16
      ·subst h16
       simp only [List.getElem?_toArray, List.getElem?_cons_zero, List.getElem?_cons_succ, Option.some.injEq] at hoo
       subst hoo
       have e88 : a.tmps.getD 88 undef = .bool false := hA ⟨15, .data⟩ (by simp) rfl
       refine Does.plain rfl ?_
       unfold yieldsK
       go_simp
       exact ⟨rfl, Keep.refl _ _⟩
      by_cases h17 : i = 17
      ·subst h17
       simp only [List.getElem?_toArray, List.getElem?_cons_zero, List.getElem?_cons_succ, Option.some.injEq] at hoo
       subst hoo
       have e11 : a.tmps.getD 11 undef = .int .i64 ((n : Nat) : Int) := hF.2.2 11 (by decide)
       refine Does.yes (j := 16) (d := 89) (want := false) rfl rfl (hA ⟨16, .guard⟩ (by simp) rfl) ?_
       unfold yieldsK
       go_simp
       exact ⟨rfl, Keep.refl _ _⟩
      by_cases h18 : i = 18
      ·subst h18
       simp only [List.getElem?_toArray, List.getElem?_cons_zero, List.getElem?_cons_succ, Option.some.injEq] at hoo
       subst hoo
       have e6 : a.tmps.getD 6 undef = .int .i64 ((l : Nat) : Int) := hF.2.2 6 (by decide)
       refine Does.yes (j := 16) (d := 89) (want := false) rfl rfl (hA ⟨16, .guard⟩ (by simp) rfl) ?_
       unfold yieldsK
       go_simp
       exact ⟨rfl, Keep.refl _ _⟩
      by_cases h19 : i = 19
      ·subst h19
       simp only [List.getElem?_toArray, List.getElem?_cons_zero, List.getElem?_cons_succ, Option.some.injEq] at hoo
       subst hoo
       have e90 : a.tmps.getD 90 undef = .int .i64 ((n : Nat) : Int) := hA ⟨17, .data⟩ (by simp) rfl
       have e91 : a.tmps.getD 91 undef = .int .i64 ((l : Nat) : Int) := hA ⟨18, .data⟩ (by simp) rfl
       have hd1n := hd1n
       refine Does.yes (j := 16) (d := 89) (want := false) rfl rfl (hA ⟨16, .guard⟩ (by simp) rfl) ?_
       unfold yieldsK
       go_simp
       exact ⟨rfl, Keep.refl _ _⟩
      by_cases h20 : i = 20
      ·subst h20
       simp only [List.getElem?_toArray, List.getElem?_cons_zero, List.getElem?_cons_succ, Option.some.injEq] at hoo
       subst hoo
       have e89 : a.tmps.getD 89 undef = .bool false := hA ⟨16, .data⟩ (by simp) rfl
       have e92 : a.tmps.getD 92 undef = .bool false := hA ⟨19, .data⟩ (by simp) rfl
       refine Does.plain rfl ?_
       unfold yieldsK
       go_simp
       exact ⟨rfl, Keep.refl _ _⟩
      by_cases h21 : i = 21
      ·subst h21
       simp only [List.getElem?_toArray, List.getElem?_cons_zero, List.getElem?_cons_succ, Option.some.injEq] at hoo
       subst hoo
       have e93 : a.tmps.getD 93 undef = .bool false := hA ⟨20, .data⟩ (by simp) rfl
       refine Does.plain rfl ?_
       unfold yieldsK
       go_simp
       exact ⟨rfl, Keep.refl _ _⟩
      by_cases h22 : i = 22
      ·subst h22
       simp only [List.getElem?_toArray, List.getElem?_cons_zero, List.getElem?_cons_succ, Option.some.injEq] at hoo
       subst hoo
       have e11 : a.tmps.getD 11 undef = .int .i64 ((n : Nat) : Int) := hF.2.2 11 (by decide)
       refine Does.yes (j := 21) (d := 94) (want := false) rfl rfl (hA ⟨21, .guard⟩ (by simp) rfl) ?_
       unfold yieldsK
       go_simp
       exact ⟨rfl, Keep.refl _ _⟩
      by_cases h23 : i = 23
      ·subst h23
       simp only [List.getElem?_toArray, List.getElem?_cons_zero, List.getElem?_cons_succ, Option.some.injEq] at hoo
       subst hoo
       have e4 : a.tmps.getD 4 undef = .slice (some ⟨bl, 0, none⟩) N N := hF.2.2 4 (by decide)
       refine Does.yes (j := 21) (d := 94) (want := false) rfl rfl (hA ⟨21, .guard⟩ (by simp) rfl) ?_
       unfold yieldsK
       go_simp
       exact ⟨rfl, Keep.refl _ _⟩
      by_cases h24 : i = 24
      ·subst h24
       simp only [List.getElem?_toArray, List.getElem?_cons_zero, List.getElem?_cons_succ, Option.some.injEq] at hoo
       subst hoo
       have e96 : a.tmps.getD 96 undef = .slice (some ⟨bl, 0, none⟩) N N := hA ⟨23, .data⟩ (by simp) rfl
       refine Does.yes (j := 21) (d := 94) (want := false) rfl rfl (hA ⟨21, .guard⟩ (by simp) rfl) ?_
       unfold yieldsK
       go_simp
       exact ⟨rfl, Keep.refl _ _⟩
      by_cases h25 : i = 25
      ·subst h25
       simp only [List.getElem?_toArray, List.getElem?_cons_zero, List.getElem?_cons_succ, Option.some.injEq] at hoo
       subst hoo
       have e95 : a.tmps.getD 95 undef = .int .i64 ((n : Nat) : Int) := hA ⟨22, .data⟩ (by simp) rfl
       have e97 : a.tmps.getD 97 undef = .int .i64 ((N : Nat) : Int) := hA ⟨24, .data⟩ (by simp) rfl
       have hd2n := hd2n
       refine Does.yes (j := 21) (d := 94) (want := false) rfl rfl (hA ⟨21, .guard⟩ (by simp) rfl) ?_
       unfold yieldsK
       go_simp
       exact ⟨rfl, Keep.refl _ _⟩
      by_cases h26 : i = 26
      ·subst h26
       simp only [List.getElem?_toArray, List.getElem?_cons_zero, List.getElem?_cons_succ, Option.some.injEq] at hoo
       subst hoo
       have e94 : a.tmps.getD 94 undef = .bool false := hA ⟨21, .data⟩ (by simp) rfl
       have e98 : a.tmps.getD 98 undef = .bool false := hA ⟨25, .data⟩ (by simp) rfl
       refine Does.plain rfl ?_
       unfold yieldsK
       go_simp
       exact ⟨rfl, Keep.refl _ _⟩
      by_cases h27 : i = 27
      ·subst h27
       simp only [List.getElem?_toArray, List.getElem?_cons_zero, List.getElem?_cons_succ, Option.some.injEq] at hoo
       subst hoo
       have e99 : a.tmps.getD 99 undef = .bool false := hA ⟨26, .data⟩ (by simp) rfl
       refine Does.plain rfl ?_
       unfold yieldsK
       go_simp
       exact ⟨rfl, Keep.refl _ _⟩
      by_cases h28 : i = 28
      ·subst h28
       simp only [List.getElem?_toArray, List.getElem?_cons_zero, List.getElem?_cons_succ, Option.some.injEq] at hoo
       subst hoo
       have e4 : a.tmps.getD 4 undef = .slice (some ⟨bl, 0, none⟩) N N := hF.2.2 4 (by decide)
       refine Does.yes (j := 27) (d := 100) (want := false) rfl rfl (hA ⟨27, .guard⟩ (by simp) rfl) ?_
       unfold yieldsK
       go_simp
       exact ⟨rfl, Keep.refl _ _⟩
      by_cases h29 : i = 29
      ·subst h29
       simp only [List.getElem?_toArray, List.getElem?_cons_zero, List.getElem?_cons_succ, Option.some.injEq] at hoo
       subst hoo
       have e11 : a.tmps.getD 11 undef = .int .i64 ((n : Nat) : Int) := hF.2.2 11 (by decide)
       refine Does.yes (j := 27) (d := 100) (want := false) rfl rfl (hA ⟨27, .guard⟩ (by simp) rfl) ?_
       unfold yieldsK
       go_simp
       exact ⟨rfl, Keep.refl _ _⟩
      by_cases h30 : i = 30
      ·subst h30
       simp only [List.getElem?_toArray, List.getElem?_cons_zero, List.getElem?_cons_succ, Option.some.injEq] at hoo
       subst hoo
       have e102 : a.tmps.getD 102 undef = .int .i64 ((n : Nat) : Int) := hA ⟨29, .data⟩ (by simp) rfl
       have hwr : IntKind.i64.wrap ((n : Int) - 1) = (n : Int) - 1 := IntWalk.i64_in _ (by omega)
       refine Does.yes (j := 27) (d := 100) (want := false) rfl rfl (hA ⟨27, .guard⟩ (by simp) rfl) ?_
       unfold yieldsK
       go_simp
       exact ⟨rfl, Keep.refl _ _⟩
      by_cases h31 : i = 31
      ·subst h31
       simp only [List.getElem?_toArray, List.getElem?_cons_zero, List.getElem?_cons_succ, Option.some.injEq] at hoo
       subst hoo
       have e101 : a.tmps.getD 101 undef = .slice (some ⟨bl, 0, none⟩) N N := hA ⟨28, .data⟩ (by simp) rfl
       have e103 : a.tmps.getD 103 undef = .int .i64 ((n : Nat) - 1 : Int) := hA ⟨30, .data⟩ (by simp) rfl
       have hb1 : (1 : Int) ≤ (n : Int) ∧ (n : Int) - 1 < (N : Int) := hbn
       refine Does.yes (j := 27) (d := 100) (want := false) rfl rfl (hA ⟨27, .guard⟩ (by simp) rfl) ?_
       unfold yieldsK
       go_simp
       exact ⟨rfl, Keep.refl _ _⟩
      by_cases h32 : i = 32
      ·subst h32
       simp only [List.getElem?_toArray, List.getElem?_cons_zero, List.getElem?_cons_succ, Option.some.injEq] at hoo
       subst hoo
       have e104 : a.tmps.getD 104 undef = .pointer (some ⟨bl, n - 1, none⟩) := hA ⟨31, .data⟩ (by simp) rfl
       have cS := Keep.cell hK hcS id
       refine Does.yes (j := 27) (d := 100) (want := false) rfl rfl (hA ⟨27, .guard⟩ (by simp) rfl) ?_
       unfold yieldsK
       go_simp
       exact ⟨rfl, Keep.refl _ _⟩
      by_cases h33 : i = 33
      ·subst h33
       simp only [List.getElem?_toArray, List.getElem?_cons_zero, List.getElem?_cons_succ, Option.some.injEq] at hoo
       subst hoo
       have e10 : a.tmps.getD 10 undef = .pointer (some ⟨bi, 0, none⟩) := hF.2.2 10 (by decide)
       refine Does.yes (j := 27) (d := 100) (want := false) rfl rfl (hA ⟨27, .guard⟩ (by simp) rfl) ?_
       unfold yieldsK
       go_simp
       exact ⟨rfl, Keep.refl _ _⟩
      by_cases h34 : i = 34
      ·subst h34
       simp only [List.getElem?_toArray, List.getElem?_cons_zero, List.getElem?_cons_succ, Option.some.injEq] at hoo
       subst hoo
       have e106 : a.tmps.getD 106 undef = .pointer (some ⟨bi, 0, none⟩) := hA ⟨33, .data⟩ (by simp) rfl
       have cO := Keep.cell hK hcO id
       refine Does.yes (j := 27) (d := 100) (want := false) rfl rfl (hA ⟨27, .guard⟩ (by simp) rfl) ?_
       unfold yieldsK
       go_simp
       exact ⟨rfl, Keep.refl _ _⟩
      by_cases h35 : i = 35
      ·subst h35
       simp only [List.getElem?_toArray, List.getElem?_cons_zero, List.getElem?_cons_succ, Option.some.injEq] at hoo
       subst hoo
       have e107 : a.tmps.getD 107 undef = .int .i64 op := hA ⟨34, .data⟩ (by simp) rfl
       refine Does.yes (j := 27) (d := 100) (want := false) rfl rfl (hA ⟨27, .guard⟩ (by simp) rfl) ?_
       unfold yieldsK
       go_simp
       refine (HNm.out w').mono ?_
       rintro e w9 ⟨rfl, h9⟩
       exact ⟨_, rfl, rfl, h9⟩
      by_cases h36 : i = 36
      ·subst h36
       simp only [List.getElem?_toArray, List.getElem?_cons_zero, List.getElem?_cons_succ, Option.some.injEq] at hoo
       subst hoo
       have e105 : a.tmps.getD 105 undef = .string S := hA ⟨32, .data⟩ (by simp) rfl
       have e108 : a.tmps.getD 108 undef = .string Wd := hA ⟨35, .data⟩ (by simp) rfl
       refine Does.yes (j := 27) (d := 100) (want := false) rfl rfl (hA ⟨27, .guard⟩ (by simp) rfl) ?_
       unfold yieldsK
       go_simp
       refine (HPf.out w').mono ?_
       rintro e w9 ⟨rfl, h9⟩
       exact ⟨_, rfl, rfl, h9⟩
      by_cases h37 : i = 37
      ·subst h37
       simp only [List.getElem?_toArray, List.getElem?_cons_zero, List.getElem?_cons_succ, Option.some.injEq] at hoo
       subst hoo
       have e109 : a.tmps.getD 109 undef = .bool true := hA ⟨36, .data⟩ (by simp) rfl
       refine Does.yes (j := 27) (d := 100) (want := false) rfl rfl (hA ⟨27, .guard⟩ (by simp) rfl) ?_
       unfold yieldsK
       go_simp
       exact ⟨rfl, Keep.refl _ _⟩
      by_cases h38 : i = 38
      ·subst h38
       simp only [List.getElem?_toArray, List.getElem?_cons_zero, List.getElem?_cons_succ, Option.some.injEq] at hoo
       subst hoo
       have e100 : a.tmps.getD 100 undef = .bool false := hA ⟨27, .data⟩ (by simp) rfl
       have e110 : a.tmps.getD 110 undef = .bool false := hA ⟨37, .data⟩ (by simp) rfl
       refine Does.plain rfl ?_
       unfold yieldsK
       go_simp
       exact ⟨rfl, Keep.refl _ _⟩
      omega
     case spec =>
      intro o a w' hoo
      simp at hoo
     case fin =>
      intro a w' hF gK11 hA
      have e111 : a.tmps.getD 111 undef = .bool false := hA 38 (by decide)
      have ha := frameD_list (l := [73, 74, 75, 76, 77, 78, 79, 80, 81, 82, 83, 84, 85, 86, 87, 88, 89, 90, 91, 92, 93, 94, 95, 96, 97, 98, 99, 100, 101, 102, 103, 104, 105, 106, 107, 108, 109, 110, 111]) rfl hF
      rw [ha]
      simp only [List.map_cons, List.map_nil, e111]
      generalize a.tmps.getD 73 undef = u0
      generalize a.tmps.getD 74 undef = u1
      generalize a.tmps.getD 75 undef = u2
      generalize a.tmps.getD 76 undef = u3
      generalize a.tmps.getD 77 undef = u4
      generalize a.tmps.getD 78 undef = u5
      generalize a.tmps.getD 79 undef = u6
      generalize a.tmps.getD 80 undef = u7
      generalize a.tmps.getD 81 undef = u8
      generalize a.tmps.getD 82 undef = u9
      generalize a.tmps.getD 83 undef = u10
      generalize a.tmps.getD 84 undef = u11
      generalize a.tmps.getD 85 undef = u12
      generalize a.tmps.getD 86 undef = u13
      generalize a.tmps.getD 87 undef = u14
      generalize a.tmps.getD 88 undef = u15
      generalize a.tmps.getD 89 undef = u16
      generalize a.tmps.getD 90 undef = u17
      generalize a.tmps.getD 91 undef = u18
      generalize a.tmps.getD 92 undef = u19
      generalize a.tmps.getD 93 undef = u20
      generalize a.tmps.getD 94 undef = u21
      generalize a.tmps.getD 95 undef = u22
      generalize a.tmps.getD 96 undef = u23
      generalize a.tmps.getD 97 undef = u24
      generalize a.tmps.getD 98 undef = u25
      generalize a.tmps.getD 99 undef = u26
      generalize a.tmps.getD 100 undef = u27
      generalize a.tmps.getD 101 undef = u28
      generalize a.tmps.getD 102 undef = u29
      generalize a.tmps.getD 103 undef = u30
      generalize a.tmps.getD 104 undef = u31
      generalize a.tmps.getD 105 undef = u32
      generalize a.tmps.getD 106 undef = u33
      generalize a.tmps.getD 107 undef = u34
      generalize a.tmps.getD 108 undef = u35
      generalize a.tmps.getD 109 undef = u36
      generalize a.tmps.getD 110 undef = u37
      simp only [fillD, List.setIfInBounds_toArray, List.set_cons_zero, List.set_cons_succ]
      have hM11 := hM10.out.keep gK11 id
      have q11 : Keep (fun g => g = bm) wB w' := Q10.out.trans gK11 (fun _ h _ => h.elim)
      have hlook := hM11.look (t := 64) Tryz.underlying64 Tryz.underlying3 Tryz.underlying3 (int_zero _) ((n : Nat) : Int) (wf_small (by omega) (by omega))
      rw [hnew.out] at hlook
      obtain ⟨w12, hup, hM12, hg12⟩ := hM11.update (t := 64) Tryz.underlying64 Tryz.underlying3 Tryz.underlying3 (by unfold maxLen; omega) ((n : Nat) : Int) 1 hnew.out (by decide) (wf_small (by omega) (by omega)) (by decide)
      have hlook : (Instr.lookup 64 (.map (some bm)) (.int .i64 ((n : Nat) : Int)) false).run Tryz.prog w' = .ok (.int .i64 0) w' := hlook
      have hup : (Instr.mapUpdate 64 (.map (some bm)) (.int .i64 ((n : Nat) : Int)) (.int .i64 1)).run Tryz.prog w' = .ok () w12 := hup
      have HM12 : Hid (NMap Tryz.prog 3 3 bm (cc + 1) (metF p (cc + 1)) w12) := hM12.congr hsu2.out
      have HK12 : Hid (Keep (fun g => g = bm) wB w12) := q11.grown hg12 (fun g e _ => by cases e; rfl)
      clear hA hF ha e111 hM11 q11 hM12 hg12 hM10 Q10 gK11 HNm HPf hcS hcO hsu2
      go_wp2
      go_roundw
      case rel => exact ⟨j + 1, by omega, by go_num, by rw [hnm.out, hlsucc.out], by rw [hnm.out]; exact HM12, HK12⟩
      case measure => simp [intOf]; omega
    ·obtain rfl : j = nd := by omega
     have HCe : Hid (cum p.fn k + j = cum p.fn (k + 1)) := by show _ = _; rw [HCU.out.2.2]; omega
     rw [HCe.out] at hM ⊢
     clear hKw hL p0 p1
     go_wp2
     go_roundw
     case rel => exact ⟨k + 1, by omega, by go_num, rfl, hM, hKr⟩
     case measure => simp [intOf]; omega
  ·obtain rfl : ny = k := by omega
   have hM9 := hM
   have hK9 := hKr
   obtain ⟨hpf, hpn, hpt, hpi⟩ := HPO.out
   have hcu : cum p.fn ny = cntF fs := by rw [← hpt, hpn, hly.out]
   rw [hcu] at hM9
   have hK9w := hKw
   obtain ⟨w20, rfl⟩ : ∃ wo, wo = wr := ⟨_, rfl⟩
   have hmle := Lib.hid (met_le p (cntF fs))
   have HNb := hNb
   have hc200 := HC200.out
   generalize hcf : cntF fs = tot at *
   clear hM hKr hKw hL hpf hpn hpt hpi hcu HPO HLn HPc HRY HRD HLD HND hlt hk
   go_wp2
   go_loopw [16] (fun i wr3 => ∃ q : Nat, q ≤ N + 1 ∧ i = .int .i64 (q : Int) ∧ Hid (Keep NoB w20 wr3)) (fun i _ => N + 2 - (intOf i).toNat)
   case atStart => exact ⟨0, Nat.zero_le _, rfl, Keep.refl _ _⟩
   case round =>
    clear p0 p1
    obtain ⟨q, hq, rfl, hk3⟩ := hrel
    have hb2 := HNb.out
    have hkb : Keep (fun g => g = bm) wB wr := hK9.out.trans hk3.out (fun _ h _ => h.elim)
    obtain ⟨⟨p0, p1⟩, _, hKw3⟩ := HB2.out _ hkb
    by_cases hlq : q ≤ N
    ·have hc := HPa.out _ hKw3 q
     have hml := hmle.out ((q : Nat) : Int)
     generalize (placeR p ((q : Nat) : Int)).1 = y1 at hc
     generalize (placeR p ((q : Nat) : Int)).2.1 = y2 at hc
     clear hkb hKw3
     go_wp2_with fail
     refine hc.mono ?_
     rintro e w21 ⟨rfl, k21⟩
     have hk21 := Lib.hid (keepN hk3.out k21)
     have hM21 := hM9.out.keep hk21.out id
     have hlook := hM21.look (t := 64) Tryz.underlying64 Tryz.underlying3 Tryz.underlying3 (int_zero _) ((q : Nat) : Int) (wf_small (by omega) (by omega))
     generalize metF p tot ((q : Nat) : Int) = v at *
     clear hc k21 hM21 hk3 p0 p1
     by_cases hv : v = 1
     ·subst hv
      have hlook : (Instr.lookup 64 (.map (some bm)) (.int .i64 ((q : Nat) : Int)) false).run Tryz.prog w21 = .ok (.int .i64 1) w21 := hlook
      go_wp2
      go_roundw
      case rel => exact ⟨q + 1, by omega, by go_num, hk21⟩
      case measure => simp [intOf]; omega
     ·obtain rfl : v = 0 := by omega
      have hlook : (Instr.lookup 64 (.map (some bm)) (.int .i64 ((q : Nat) : Int)) false).run Tryz.prog w21 = .ok (.int .i64 0) w21 := hlook
      go_wp2
      go_roundw
      case rel => exact ⟨q + 1, by omega, by go_num, hk21⟩
      case measure => simp [intOf]; omega
    ·obtain rfl : q = N + 1 := by omega
     have hM21 := hM9.out.keep hk3.out id
     have hlen := fun ty => hM21.len (t := 64) Tryz.underlying64 ty
     clear hM21 hkb
     go_wp2_with fail
     refine (HCn.out _ hKw3).mono ?_
     rintro e w22 ⟨rfl, k22⟩
     have HKF := Lib.hid (keepN hKw3 k22)
     clear k22 hKw3 hk3 p0 p1 hlen
     go_wp2
     go_ret
     exact ⟨rfl, HKF.out⟩

end Go.Proofs.YtgnooffedmeenaaGreatDoor.M.L
