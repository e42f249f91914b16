/-
  What Encode of layer image answers: an image's bytes. Conditions: the image's lists lie in memory, each below 2^47.
  What the rows of opcode share: the condition on the listed package-level variables, opened; an instruction as an argument. No conditions.
  An argument that is a list of instructions, opened: an address from which its cells stand; its numbers fit. No conditions.
  What Decode of layer image answers: bytes' image, or what is wrong. Conditions: the bytes lie in memory, no more than 2^30.
  What the document's read of layer shape answers: the types at its Reel's place. Conditions: the Reel reads bytes in memory, no more than 2^47.
-/
import Derived.ChangeSame
import Derived.Deep.Fields
import Derived.Deep.Slices
import Derived.Deep.Strs
import Derived.LaidLaws
import Derived.LaidMore
import Derived.Lib.LaidTab
import Derived.Lib.SlBytesConst
import Derived.Lib.SmallJoins
import Derived.OpenShut
import Derived.ProofKit
import Derived.SizedLaws
import Derived.Stop.LaidErr
import Derived.Test.YtgifflfjhockaaaGreatDoorQ12
import Derived.Test.YtgifflfjhockaaaGreatDoorQ14
import Derived.Test.YtgifflfjhockaaaGreatDoorQ13
import Derived.Test.YtgifflfjhockaaaGreatDoorQ5
import Derived.Test.YtgifflfjhockaaaGreatDoorRows
import Derived.Test.YtgifflfjhockaaaGreatDoorQ11
import Derived.Test.YtgifflfjhockaaaGreatDoorQ7
namespace Go.Proofs.YtgifflfjhockaaaGreatDoor.I
open Go.RowKit W

theorem wrBS_eq {es : List SE} {n : Nat} (h : es.length = n) : wrBS n es = shB (es.map fun e => e.2) := by
  unfold wrBS shB; rw [List.length_map, h, List.flatMap_map]
theorem wrBF_eq {fs : List FE} {n : Nat} (h : fs.length = n) : wrBF n fs = fnB (fs.map fun e => e.2) := by
  unfold wrBF fnB; rw [List.length_map, h, List.flatMap_map]
theorem bytesF_le {f : F.Fu} (h : F.okF f = true) : (F.bytesF f).length ≤ 14000 := by
  obtain ⟨h1, h2, h3, h4, h5⟩ := (F.okF_iff f).1 h
  have n0 := V.encL_len f.nm.length
  have n1 := ((F.okN_iff _).1 h1).1
  have g1 := ((S.okG_iff _ _).1 h2).1
  have a1 := S.bytesT_len f.ar (by omega)
  have a2 := S.bytesT_len f.rs (by omega)
  have a3 := S.bytesT_len f.lc (by omega)
  have a4 := S.bytesT_len [] (by simp)
  have a5 := F.bytesB_len h4
  unfold F.bytesF S.bytesG
  simp only [List.length_append]; omega
theorem bytesT_le {l : List Int} (h : S.okS l = true) : (S.bytesT l).length ≤ 14000 := by
  have := ((S.okS_iff l).1 h).1
  have := S.bytesT_len l (by omega)
  omega
theorem okI_get {es : List SE} {fs : List FE} (h : okI (imOf es fs) = true) : es.length ≤ 64 ∧ fs.length ≤ 64 ∧ (∀ e ∈ es, S.okS e.2 = true) ∧ ∀ e ∈ fs, F.okF e.2 = true := by
  obtain ⟨⟨h1, ⟨_, h2⟩, _⟩, h3, h4⟩ := (okI_iff _).1 h
  refine ⟨by simpa [imOf] using h1, by simpa [imOf] using h2, fun e he => List.all_eq_true.1 h3 _ ?_, fun e he => List.all_eq_true.1 h4 _ ?_⟩
  · exact List.mem_map.2 ⟨e, he, rfl⟩
  · exact List.mem_map.2 ⟨e, he, rfl⟩
theorem inI_len {es : List SE} {fs : List FE} (h : okI (imOf es fs) = true) : (bodyI (imOf es fs)).length ≤ 3000000 := by
  obtain ⟨h1, h2, h3, h4⟩ := okI_get h
  have a1 := wrBS_len (n := es.length) (l := es) (fun e he => by have := bytesT_le (h3 e he); omega)
  have a2 : (wrBF fs.length fs).length ≤ 9 + 20000 * fs.length := wrBF_len (fun e he => by have := bytesF_le (h4 e he); omega)
  have e : bodyI (imOf es fs) = magicL ++ (wrBS es.length es ++ wrBF fs.length fs) := by
    rw [wrBS_eq rfl, wrBF_eq rfl]; rfl
  have b2 : (wrBF fs.length fs).length ≤ 9 + 20000 * 64 := by omega
  rw [e, List.length_append, List.length_append]
  have : magicL.length = 5 := rfl
  omega
/-- A slice of bytes that reads as a list. -/
def PtV (l : List UInt8) (u : Value) (w : World) : Prop := ∃ A c, u = .slice A l.length c ∧ V.Rd w A l
theorem PtV.keepN {l : List UInt8} {u : Value} {w w' : World} (h : PtV l u w) (hk : Keep NoB w w') : PtV l u w' := by
  obtain ⟨A, c, e, h⟩ := h
  exact ⟨A, c, e, h.keep hk (fun _ _ _ => id)⟩
theorem PtV.rd {l : List UInt8} {A : Option Addr} {n c : Nat} {w : World} (h : PtV l (.slice A n c) w) : V.Rd w A l := by
  obtain ⟨A', c', e, h⟩ := h
  injection e with e1 e2 e3
  subst e1; exact h
theorem OwnB.ptV {w : World} {O : Nat → Prop} {v : Value} {l : List UInt8} (h : V.OwnB w O v l) : PtV l v w := by
  obtain ⟨A, c, e, _, hr, _, _⟩ := h.form
  exact ⟨A, c, e, hr⟩
theorem rd_three {w : World} {g : Nat} {u0 u1 u2 : Value} (h : Blk w g 26 #[u0, u1, u2]) : Rd w (some ⟨g, 0, none⟩) [u0, u1, u2] := fun _ => ⟨g, 0, rfl, fun j u hu => by
  rw [Nat.zero_add, h.cell j]; simpa using hu⟩
theorem rd_two {w : World} {g : Nat} {u0 u1 : Value} (h : Blk w g 26 #[u0, u1]) : Rd w (some ⟨g, 0, none⟩) [u0, u1] := fun _ => ⟨g, 0, rfl, fun j u hu => by
  rw [Nat.zero_add, h.cell j]; simpa using hu⟩
theorem rd_single {w : World} {g : Nat} {u0 : Value} (h : Blk w g 26 #[u0]) : Rd w (some ⟨g, 0, none⟩) [u0] := fun _ => ⟨g, 0, rfl, fun j u hu => by
  rw [Nat.zero_add, h.cell j]; simpa using hu⟩
/-- One block of bytes gets the run-time's mark. -/
structure MarkK (w w' : World) : Prop where
  os : w'.os = w.os
  tape : w'.tape = w.tape
  output : w'.output = w.output
  size : w'.heap.size = w.heap.size
  block : ∀ k : Nat, w'.heap[k]? = w.heap[k]? ∨ ∃ (cs : Array Value) (t : TypeId) (f f' : Nat × Nat), w.heap[k]? = some (Obj.cells cs t f) ∧ w'.heap[k]? = some (Obj.cells cs t f')
theorem MarkK.cell {w w' : World} (h : MarkK w w') {p : Addr} {v : Value} (hc : w.cell? p = some v) : w'.cell? p = some v := by
  rcases h.block p.block with hb | ⟨cs, t, f, f', h1, h2⟩
  · exact (World.cell?_of_block hb).trans hc
  · unfold World.cell? at hc ⊢
    rw [h1] at hc
    rw [h2]
    exact hc
theorem PtV.mark {l : List UInt8} {u : Value} {w w' : World} (h : PtV l u w) (hk : MarkK w w') : PtV l u w' := by
  obtain ⟨A, c, e, h⟩ := h
  refine ⟨A, c, e, fun h0 => ?_⟩
  obtain ⟨ad, ea, hc⟩ := h h0
  exact ⟨ad, ea, fun j u hu => hk.cell (hc j u hu)⟩
theorem freeze_mark {w : World} {g k : Nat} {cs : Array Value} {t : TypeId} {f : Nat × Nat} (h : w.heap[g]? = some (.cells cs t f)) : MarkK w (w.freeze ⟨g, k, none⟩ 1) ∧ ∀ j, j ≠ g → (w.freeze ⟨g, k, none⟩ 1).heap[j]? = w.heap[j]? := by
  unfold World.freeze
  rw [if_neg (by decide)]
  obtain ⟨lo, hi⟩ := f
  have hj : ∀ (F : Obj → Obj) (j : Nat), j ≠ g → (w.heap.modify g F)[j]? = w.heap[j]? := fun F j hne => by rw [Array.getElem?_modify, if_neg (Ne.symm hne)]
  refine ⟨⟨rfl, rfl, rfl, by simp, fun j => ?_⟩, fun j hne => hj _ j hne⟩
  by_cases e : j = g
  · subst e
    refine .inr ⟨cs, t, (lo, hi), (if lo == hi then (k, k + 1) else (min lo k, max hi (k + 1))), h, ?_⟩
    simp only [Array.getElem?_modify, if_true, h, Option.map_some]
  · exact .inl (hj _ j e)
theorem run_mark {w : World} {g n c : Nat} {cs : Array Value} {f : Nat × Nat} (h : w.heap[g]? = some (.cells cs 5 f)) : (convert 26 26 (.slice (some ⟨g, 0, none⟩) n c)).run Tryz.prog w = .ok (.slice (some ⟨g, 0, none⟩) n c) (w.freeze ⟨g, cs.size, none⟩ 1) := by
  have hsh : w.shape? g = some (5, cs.size) := by unfold World.shape?; rw [h]
  simp [convert, run_underlying Tryz.underlying26, run_underlying Tryz.underlying5, markStringish, hsh]
theorem keep_mark {w0 w : World} {g k : Nat} {cs : Array Value} {t : TypeId} {f : Nat × Nat} (hK : Keep NoB w0 w) (h : w.heap[g]? = some (.cells cs t f)) (hg : w0.heap.size ≤ g) : Keep NoB w0 (w.freeze ⟨g, k, none⟩ 1) := by
  obtain ⟨hm, hj⟩ := freeze_mark (k := k) h
  exact ⟨hm.os.trans hK.os, hm.tape.trans hK.tape, hm.output.trans hK.output, by rw [hm.size]; exact hK.size, fun j hl _ => (hj j (by omega)).trans (hK.block j hl id)⟩
theorem rdB_blk {w : World} {g : Nat} {l : List UInt8} {f : Nat × Nat} (h : w.heap[g]? = some (.cells (V.bvs l).toArray 5 f)) : V.Rd w (some ⟨g, 0, none⟩) l := fun _ => ⟨_, rfl, fun j u hu => by
  have ea : (⟨g, 0, none⟩ : Addr).add j = ⟨g, j, none⟩ := by unfold Addr.add; by_cases hj : j = 0 <;> simp [hj]
  rw [ea, cell_of_row w g j _ _ f h]
  simpa using hu⟩
/-- What the values are that Encode's region yields. -/
def SN (v : IV) (a b d : List UInt8) (x m m2 : Nat) : Nat → Value → World → Prop
  | 0 => fun u w => ∃ g f, u = .slice (some ⟨g, 0, none⟩) 5 5 ∧ m2 ≤ g ∧ w.heap[g]? = some (.cells (V.bvs magicL).toArray 5 f)
  | 1 => PtV a
  | 2 => fun u _ => u = .pointer (some ⟨x, 0, none⟩)
  | 3 => fun u _ => u = .slice v.X v.nx v.cx
  | 4 => fun u _ => u = partS
  | 5 => PtV b
  | 6 => fun u _ => u = .pointer (some ⟨x, 1, none⟩)
  | 7 => fun u _ => u = .slice v.Y v.ny v.cy
  | 8 => fun u _ => u = partF
  | 9 => PtV d
  | 10 => fun u w => ∃ g A1 c1 A2 c2 A3 c3, u = .slice (some ⟨g, 0, none⟩) 3 3 ∧ Blk w g 26 #[.slice A1 a.length c1, .slice A2 b.length c2, .slice A3 d.length c3] ∧ V.Rd w A1 a ∧ V.Rd w A2 b ∧ V.Rd w A3 d
  | 11 => fun u w => ∃ A c, u = .slice A (a ++ (b ++ d)).length c ∧ V.OwnB w (fun k => m ≤ k) (.slice A (a ++ (b ++ d)).length c) (a ++ (b ++ d))
  | 12 => fun u w => ∃ A c, u = .slice A (a ++ (b ++ d)).length c ∧ V.OwnB w (fun k => m ≤ k) (.slice A (a ++ (b ++ d)).length c) (a ++ (b ++ d))
  | _ => fun _ _ => True
theorem SN_stable (v : IV) (a b d : List UInt8) (x m m2 : Nat) : ∀ i u w w', SN v a b d x m m2 i u w → Keep NoB w w' → SN v a b d x m m2 i u w'
  | 0, _, _, _, ⟨g, f, e, h0, h⟩, hk => ⟨g, f, e, h0, (hk.block g (Array.getElem?_eq_some_iff.1 h).1 id).trans h⟩
  | 1, _, _, _, h, hk => PtV.keepN h hk
  | 2, _, _, _, h, _ => h
  | 3, _, _, _, h, _ => h
  | 4, _, _, _, h, _ => h
  | 5, _, _, _, h, hk => PtV.keepN h hk
  | 6, _, _, _, h, _ => h
  | 7, _, _, _, h, _ => h
  | 8, _, _, _, h, _ => h
  | 9, _, _, _, h, hk => PtV.keepN h hk
  | 10, _, _, _, ⟨g, A1, c1, A2, c2, A3, c3, e, hb, r1, r2, r3⟩, hk => ⟨g, A1, c1, A2, c2, A3, c3, e, hb.keep hk id, r1.keep hk (fun _ _ _ => id), r2.keep hk (fun _ _ _ => id), r3.keep hk (fun _ _ _ => id)⟩
  | 11, _, _, _, ⟨A, c, e, h⟩, hk => ⟨A, c, e, h.keep hk (fun _ _ => id)⟩
  | 12, _, _, _, ⟨A, c, e, h⟩, hk => ⟨A, c, e, h.keep hk (fun _ _ => id)⟩
  | _ + 13, _, _, _, h, _ => h

theorem SN_mark (v : IV) (a b d : List UInt8) (x m m2 : Nat) (i : Nat) (u : Value) (w w' : World) (hi : i < 10) (h : SN v a b d x m m2 i u w) (hk : MarkK w w') : SN v a b d x m m2 i u w' := by
  obtain rfl | rfl | rfl | rfl | rfl | rfl | rfl | rfl | rfl | rfl : i = 0 ∨ i = 1 ∨ i = 2 ∨ i = 3 ∨ i = 4 ∨ i = 5 ∨ i = 6 ∨ i = 7 ∨ i = 8 ∨ i = 9 := by omega
  · obtain ⟨g, f, e, h0, h⟩ := h
    rcases hk.block g with hb | ⟨cs, t, f1, f2, h1, h2⟩
    · exact ⟨g, f, e, h0, hb.trans h⟩
    · rw [h1] at h
      cases h
      exact ⟨g, f2, e, h0, h2⟩
  · exact PtV.mark h hk
  · exact h
  · exact h
  · exact h
  · exact PtV.mark h hk
  · exact h
  · exact h
  · exact h
  · exact PtV.mark h hk

theorem smF_ok {W : World} {v : F.FV} {f : F.Fu} (hn : F.FnAt W v f) (hf : F.okF f = true) : F.SmF v := by
  obtain ⟨h1, h2, _, h4, h5⟩ := (F.okF_iff f).1 hf
  have h6 := ((F.okN_iff _).1 h1).1
  have h7 := (C.okB_parts h4).2.1
  have e0 := F.sz_len hn.nm
  have := hn.la
  have := hn.lb
  have := hn.ll
  have := hn.ld
  exact ⟨by omega, by omega, by omega, by omega, by omega⟩
set_option maxRecDepth 100000 in
set_option maxHeartbeats 8000000 in
theorem encode_any (v : IV) (es : List SE) (fs : List FE) (w : World) (h : ImAt w v es fs) (hl : LgI v es fs) :
    Calls Tryz.prog 13 #[v.val] w (S.EncR w (encI (imOf es fs)) (chkI (imOf es fs))) := by
  have bx := Blk.new w 25 v.cells
  have k0 := (Keep.refl NoB w).alloc (.cells v.cells 25)
  have HC := Lib.hid (fun W (hk : Keep NoB w W) => check_any v es fs W (h.keepN hk) hl _ rfl)
  obtain ⟨q0, q1⟩ := blk2 bx
  cases ho : okI (imOf es fs)
  · rw [encI_no ho, chkI_no ho]
    rw [chkI_no ho] at HC
    clear h hl bx ho
    obtain ⟨X, nx, cx, Y, ny, cy⟩ := v
    dsimp only [IV.val, IV.cells] at *
    go_enter Tryz.func13, Tryz.ntmps13
    go_wp2_with fail
    refine (HC.out _ k0).mono ?_
    rintro e w1 ⟨rfl, k1⟩
    go_wp2
    go_ret2
    exact ⟨_, rfl, V.OwnB.nil _ _, keepN k0 k1⟩
  · rw [encI_ok ho, chkI_ok ho]
    rw [chkI_ok ho] at HC
    obtain ⟨g1, g2, g3, g4⟩ := okI_get ho
    have hlx := h.lx
    have hly := h.ly
    have HS := Lib.hid (fun W (hk : Keep NoB w W) => writeS_any v.X es v.nx v.cx W (fun W' hk' => (h.keepN (keepN hk hk')).rx) hlx (by omega) (fun e he => by have := bytesT_le (g3 e he); omega) (fun e he W' hk' => by
      have := S.encodeS_any e.1.A e.2 e.1.n e.1.c W' ((h.keepN (keepN hk hk')).hs e he).1 (h.hs e he).2 (by have := hl.sh e he; omega)
      rw [S.encS_ok (g3 e he), S.chkS_ok (g3 e he)] at this
      exact this))
    have HF := Lib.hid (fun W (hk : Keep NoB w W) => writeF_any v.Y fs v.ny v.cy W (fun W' hk' => (h.keepN (keepN hk hk')).ry) hly (by omega) (fun e he => by have := bytesF_le (g4 e he); omega) (fun e he W' hk' => by
      have hs : F.SmF e.1 := smF_ok (h.hf e he) (g4 e he)
      have := F.encodeF_any e.1 e.2 W' ((h.keepN (keepN hk hk')).hf e he) hs
      rw [F.encF_ok (g4 e he), F.chkF_ok (g4 e he)] at this
      exact this))
    have hbody : Hid (magicL ++ (wrBS v.nx es ++ wrBF v.ny fs) = bodyI (imOf es fs)) := by show _ = _; rw [wrBS_eq hlx, wrBF_eq hly]; rfl
    have hlen : (magicL ++ (wrBS v.nx es ++ wrBF v.ny fs)).length ≤ 3000000 := by rw [hbody.out]; exact inI_len ho
    have hb1 : bytesI (imOf es fs) = (magicL ++ (wrBS v.nx es ++ wrBF v.ny fs)) ++ four (sumN (magicL ++ (wrBS v.nx es ++ wrBF v.ny fs))) := by rw [hbody.out]; rfl
    rw [hb1]
    clear h hl ho g1 g2 g3 g4 hlx hly hb1 hbody
    generalize wrBS v.nx es = bS at *
    generalize wrBF v.ny fs = bF at *
    have HX := Lib.hid bx
    obtain ⟨X, nx, cx, Y, ny, cy⟩ := v
    dsimp only [IV.val, IV.cells] at *
    generalize hw1 : w.alloc (.cells #[.slice X nx cx, .slice Y ny cy] 25) = w1 at k0 q0 q1 HX
    go_enter Tryz.func13, Tryz.ntmps13
    go_wp2_with fail
    refine (HC.out _ k0).mono ?_
    rintro e w2 ⟨rfl, k2⟩
    replace q0 := k2.cell q0 id
    replace q1 := k2.cell q1 id
    have gK0 := keepN k0 k2
    clear HX k0 k2 hw1 bx HC
    go_wp2_with fail
    refine wp_region_props7 (fun i => [8, 9, 10, 11, 12, 13, 14, 15, 16, 17, 18, 19, 4].getD i 0) 1 (MarkK) (fun i => decide (10 ≤ i)) (by kernel_rfl) (by kernel_rfl) (by kernel_rfl) (SN ⟨X, nx, cx, Y, ny, cy⟩ magicL bS bF w.heap.size w.heap.size w2.heap.size) (fun i u x y _ hl _ h hk => SN_mark _ _ _ _ _ _ _ i u x y (by simpa using hl) h hk) (fun i u x y _ h hk => SN_stable _ _ _ _ _ _ _ i u x y h hk) rfl ?step ?spec ?fin
    case step =>
      intro i o a w' hoo hic hF hK hA
      have hi : i < 13 := by simpa using (Array.getElem?_eq_some_iff.1 hoo).1
      by_cases h0 : i = 0
      · subst h0
        simp only [List.getElem?_toArray, List.getElem?_cons_zero, Option.some.injEq] at hoo
        subst hoo
        refine Does.plain rfl ?_
        unfold yieldsK
        go_simp
        exact ⟨⟨w'.heap.size, (0, 0), rfl, hK.size, heap_alloc_new w' _⟩, (Keep.refl _ _).alloc _⟩
      by_cases h2 : i = 2
      · subst h2
        simp only [List.getElem?_toArray, List.getElem?_cons_zero, List.getElem?_cons_succ, Option.some.injEq] at hoo
        subst hoo
        have e1 : a.tmps.getD 1 undef = .pointer (some ⟨w.heap.size, 0, none⟩) := hF.2.2 1 (by decide)
        refine Does.plain rfl ?_
        unfold yieldsK
        go_simp
        exact ⟨rfl, Keep.refl _ _⟩
      by_cases h3 : i = 3
      · subst h3
        simp only [List.getElem?_toArray, List.getElem?_cons_zero, List.getElem?_cons_succ, Option.some.injEq] at hoo
        subst hoo
        have e10 : a.tmps.getD 10 undef = .pointer (some ⟨w.heap.size, 0, none⟩) := hA ⟨2, .data⟩ (by simp) rfl
        have c0 := Keep.cell hK q0 id
        refine Does.plain rfl ?_
        unfold yieldsK
        go_simp
        exact ⟨rfl, Keep.refl _ _⟩
      by_cases h4 : i = 4
      · subst h4
        simp only [List.getElem?_toArray, List.getElem?_cons_zero, List.getElem?_cons_succ, Option.some.injEq] at hoo
        subst hoo
        refine Does.plain rfl ?_
        unfold yieldsK
        go_simp
        refine (partsS_any w').mono ?_
        rintro e w3 ⟨rfl, h3⟩
        exact ⟨_, rfl, rfl, h3⟩
      by_cases h5 : i = 5
      · subst h5
        simp only [List.getElem?_toArray, List.getElem?_cons_zero, List.getElem?_cons_succ, Option.some.injEq] at hoo
        subst hoo
        have e11 : a.tmps.getD 11 undef = .slice X nx cx := hA ⟨3, .data⟩ (by simp) rfl
        have e12 : a.tmps.getD 12 undef = partS := hA ⟨4, .data⟩ (by simp) rfl
        refine Does.plain rfl ?_
        unfold yieldsK
        go_simp
        refine (HS.out w' (keepN gK0 hK)).mono ?_
        rintro e w3 ⟨u, rfl, h2, h3⟩
        exact ⟨_, rfl, OwnB.ptV h2, h3⟩
      by_cases h6 : i = 6
      · subst h6
        simp only [List.getElem?_toArray, List.getElem?_cons_zero, List.getElem?_cons_succ, Option.some.injEq] at hoo
        subst hoo
        have e1 : a.tmps.getD 1 undef = .pointer (some ⟨w.heap.size, 0, none⟩) := hF.2.2 1 (by decide)
        refine Does.plain rfl ?_
        unfold yieldsK
        go_simp
        exact ⟨rfl, Keep.refl _ _⟩
      by_cases h7 : i = 7
      · subst h7
        simp only [List.getElem?_toArray, List.getElem?_cons_zero, List.getElem?_cons_succ, Option.some.injEq] at hoo
        subst hoo
        have e14 : a.tmps.getD 14 undef = .pointer (some ⟨w.heap.size, 1, none⟩) := hA ⟨6, .data⟩ (by simp) rfl
        have c0 := Keep.cell hK q1 id
        refine Does.plain rfl ?_
        unfold yieldsK
        go_simp
        exact ⟨rfl, Keep.refl _ _⟩
      by_cases h8 : i = 8
      · subst h8
        simp only [List.getElem?_toArray, List.getElem?_cons_zero, List.getElem?_cons_succ, Option.some.injEq] at hoo
        subst hoo
        refine Does.plain rfl ?_
        unfold yieldsK
        go_simp
        refine (partsF_any w').mono ?_
        rintro e w3 ⟨rfl, h3⟩
        exact ⟨_, rfl, rfl, h3⟩
      by_cases h9 : i = 9
      · subst h9
        simp only [List.getElem?_toArray, List.getElem?_cons_zero, List.getElem?_cons_succ, Option.some.injEq] at hoo
        subst hoo
        have e15 : a.tmps.getD 15 undef = .slice Y ny cy := hA ⟨7, .data⟩ (by simp) rfl
        have e16 : a.tmps.getD 16 undef = partF := hA ⟨8, .data⟩ (by simp) rfl
        refine Does.plain rfl ?_
        unfold yieldsK
        go_simp
        refine (HF.out w' (keepN gK0 hK)).mono ?_
        rintro e w3 ⟨u, rfl, h2, h3⟩
        exact ⟨_, rfl, OwnB.ptV h2, h3⟩
      by_cases h10 : i = 10
      · subst h10
        simp only [List.getElem?_toArray, List.getElem?_cons_zero, List.getElem?_cons_succ, Option.some.injEq] at hoo
        subst hoo
        obtain ⟨A9, c9, e9, h9⟩ := hA ⟨1, .data⟩ (by simp) rfl
        have e9 : a.tmps.getD 9 undef = .slice A9 magicL.length c9 := e9
        obtain ⟨A13, c13, e13, h13⟩ := hA ⟨5, .data⟩ (by simp) rfl
        have e13 : a.tmps.getD 13 undef = .slice A13 bS.length c13 := e13
        obtain ⟨A17, c17, e17, h17⟩ := hA ⟨9, .data⟩ (by simp) rfl
        have e17 : a.tmps.getD 17 undef = .slice A17 bF.length c17 := e17
        refine Does.plain rfl ?_
        unfold yieldsK
        simp only [Array.getD_eq_getD_getElem?] at e9 e13 e17
        go_simp
        exact ⟨⟨w'.heap.size, A9, c9, A13, c13, A17, c17, rfl, Blk.new _ _ _, h9.keep ((Keep.refl NoB _).alloc _) (fun _ _ _ => id), h13.keep ((Keep.refl NoB _).alloc _) (fun _ _ _ => id), h17.keep ((Keep.refl NoB _).alloc _) (fun _ _ _ => id)⟩, (Keep.refl _ _).alloc _⟩
      by_cases h11 : i = 11
      · subst h11
        simp only [List.getElem?_toArray, List.getElem?_cons_zero, List.getElem?_cons_succ, Option.some.injEq] at hoo
        subst hoo
        obtain ⟨g, A1, c1, A2, c2, A3, c3, e18, hb, r1, r2, r3⟩ := hA ⟨10, .data⟩ (by simp) rfl
        have e18 : a.tmps.getD 18 undef = .slice (some ⟨g, 0, none⟩) 3 3 := e18
        refine Does.plain rfl ?_
        unfold yieldsK
        go_simp
        refine (concat_any (some ⟨g, 0, none⟩) [(⟨A1, magicL.length, c1⟩, magicL), (⟨A2, bS.length, c2⟩, bS), (⟨A3, bF.length, c3⟩, bF)] 3 3 w' (fun W hk => rd_three (hb.keep hk id)) rfl (fun e he W hk => by
          simp only [List.mem_cons, List.not_mem_nil, or_false] at he
          rcases he with rfl | rfl | rfl
          · exact ⟨r1.keep hk (fun _ _ _ => id), rfl⟩
          · exact ⟨r2.keep hk (fun _ _ _ => id), rfl⟩
          · exact ⟨r3.keep hk (fun _ _ _ => id), rfl⟩) (by omega) (by simp only [allB, List.flatMap_cons, List.flatMap_nil, List.append_nil]; omega) (by simp only [allB, List.flatMap_cons, List.length_append]; have : magicL.length = 5 := rfl; omega)).mono ?_
        rintro e w3 ⟨u, rfl, h2, h3⟩
        have e4 : allB [(⟨A1, magicL.length, c1⟩, magicL), (⟨A2, bS.length, c2⟩, bS), (⟨A3, bF.length, c3⟩, bF)] = magicL ++ (bS ++ bF) := by simp [allB]
        rw [e4] at h2
        obtain ⟨A9, c9, rfl, _, _, _, _⟩ := h2.form
        exact ⟨_, rfl, ⟨A9, c9, rfl, h2.mono (fun k (hk : Fresh w' k) _ => (Nat.le_trans (keepN gK0 hK).size hk : w.heap.size ≤ k))⟩, h3⟩
      by_cases h12 : i = 12
      · subst h12
        simp only [List.getElem?_toArray, List.getElem?_cons_zero, List.getElem?_cons_succ, Option.some.injEq] at hoo
        subst hoo
        obtain ⟨A19, c19, e19, h19⟩ := hA ⟨11, .data⟩ (by simp) rfl
        have e19 : a.tmps.getD 19 undef = .slice A19 (magicL ++ (bS ++ bF)).length c19 := e19
        refine Does.plain rfl ?_
        unfold yieldsK
        simp only [Array.getD_eq_getD_getElem?] at e19
        go_simp
        exact ⟨⟨A19, c19, by simp [List.length_append], h19⟩, Keep.refl _ _⟩
      omega
    case spec =>
      intro o a w' hoo hF hK hA
      simp only [List.getElem?_toArray, List.getElem?_cons_zero, List.getElem?_cons_succ, Option.some.injEq] at hoo
      subst hoo
      obtain ⟨g8, f8, e8, hg8, h8⟩ := hA ⟨0, .data⟩ (by simp) rfl
      have e8 : a.tmps.getD 8 undef = .slice (some ⟨g8, 0, none⟩) 5 5 := e8
      have hcv := run_mark (n := 5) (c := 5) h8
      have HM := Lib.hid (freeze_mark (k := magicL.length) h8).1
      have HKM := Lib.hid (keep_mark (k := magicL.length) hK h8 hg8)
      refine Does.plain rfl ?_
      unfold yieldsK
      simp only [Array.getD_eq_getD_getElem?] at e8
      go_simp
      exact ⟨(PtV.mark ⟨some ⟨g8, 0, none⟩, 5, rfl, rdB_blk h8⟩ HM.out : PtV magicL (.slice (some ⟨g8, 0, none⟩) 5 5) _), HM.out, HKM.out⟩
    case fin =>
      intro a w' hF gK hA
      obtain ⟨A4, c4, e4, h4⟩ := hA 12 (by decide)
      have e4 : a.tmps.getD 4 undef = .slice A4 (magicL ++ (bS ++ bF)).length c4 := e4
      have ha := frameD_list (l := [8, 9, 10, 11, 12, 13, 14, 15, 16, 17, 18, 19, 4]) rfl hF
      rw [ha]
      simp only [List.map_cons, List.map_nil, e4]
      generalize a.tmps.getD 8 undef = u0
      generalize a.tmps.getD 9 undef = u1
      generalize a.tmps.getD 10 undef = u2
      generalize a.tmps.getD 11 undef = u3
      generalize a.tmps.getD 12 undef = u4
      generalize a.tmps.getD 13 undef = u5
      generalize a.tmps.getD 14 undef = u6
      generalize a.tmps.getD 15 undef = u7
      generalize a.tmps.getD 16 undef = u8
      generalize a.tmps.getD 17 undef = u9
      generalize a.tmps.getD 18 undef = u10
      generalize a.tmps.getD 19 undef = u11
      simp only [fillD, List.setIfInBounds_toArray, List.set_cons_zero, List.set_cons_succ]
      have gK1 := keepN gK0 gK
      have h4' : V.OwnB w' (Fresh w) (.slice A4 (magicL ++ (bS ++ bF)).length c4) (magicL ++ (bS ++ bF)) := h4
      have hf4 : V.Rd w' A4 (magicL ++ (bS ++ bF)) := by
        obtain ⟨A', c', e, _, hr, _, _⟩ := h4'.form
        injection e with e1 e2 e3; subst e1; exact hr
      clear hA hF ha gK HS HF q0 q1 gK0 h4
      generalize magicL ++ (bS ++ bF) = body at *
      have kA := (Keep.refl NoB w').alloc (.cells #[.slice A4 body.length c4] 26)
      have HL := Lib.hid (seal_any (some ⟨w'.heap.size, 0, none⟩) [(⟨A4, body.length, c4⟩, body)] 1 1 (w'.alloc (.cells #[.slice A4 body.length c4] 26)) (rd_single (Blk.new _ _ _)) rfl (fun e he => by
        simp only [List.mem_cons, List.not_mem_nil, or_false] at he
        subst he
        exact ⟨hf4.keep kA (fun _ _ _ => id), rfl⟩) (by omega) (fun e he => by
        simp only [List.mem_cons, List.not_mem_nil, or_false] at he
        subst he
        show body.length ≤ _; omega))
      have e5 : allB [(⟨A4, body.length, c4⟩, body)] = body := by simp [allB]
      rw [e5] at HL
      have hO1 := O.own_keep h4' kA
      have hK1 := keepN gK1 kA
      clear e5 hf4 h4'
      go_wp2_with fail
      refine HL.out.mono ?_
      rintro e w3 ⟨u3, rfl, h3, k3⟩
      obtain ⟨A9, cp9, rfl, _, hr9, _, _⟩ := h3.form
      have hO2 := O.own_keep hO1 k3
      have hK2 := keepN hK1 k3
      have hle : body.length + (four (sumN body)).length ≤ 140737488355328 := by rw [four_length]; omega
      clear h3 k3 hO1 hK1 kA HL
      generalize four (sumN body) = fr at *
      go_wp2_with (at_builtin; refine V.wpList_append_rd _ rfl _ _ rfl _ body fr A9 cp9 rfl hO2.1 rfl hr9 hle ?_; intro v5 w5 hown hg hat; obtain ⟨hO3, hK3⟩ := O.own_app hO2 hK2 hown hg hat; clear hown hg hat)
      go_ret2
      exact ⟨_, rfl, hO3, hK3⟩

end Go.Proofs.YtgifflfjhockaaaGreatDoor.I

namespace Go.Proofs.YtgifflfjhockaaaGreatDoor.O
open Go.ChangeShapes Go.WideShapes Go.ChangeAt Go.RowKit

theorem seatOwn : ownKnob Tryz.prog.godebug = none := by kernel_rfl
theorem seatLaidOut : laidOutB Tryz.prog = true := by kernel_rfl
theorem i64_of_wf {n : Int} (h : (Lit.int .i64 n).wf = true) : I64 n := by
  have hmin : IntKind.i64.min = -9223372036854775808 := rfl
  have hmax : IntKind.i64.max = 9223372036854775807 := rfl
  simp only [Lit.wf, Bool.and_eq_true, decide_eq_true_eq] at h
  unfold I64; omega
section
variable {H : Type} {enc : TypeId × Value → H} {w : World} {base b0 : Nat} {spare : Nat → Bool} {held : Bool} {r : Reach} {v : Value} {d : DataW H} {p : List MemPlace}
end

end Go.Proofs.YtgifflfjhockaaaGreatDoor.O

namespace Go.Proofs.YtgifflfjhockaaaGreatDoor.C
open Go.ChangeShapes Go.WideShapes Go.ChangeAt Go.RowKit Go.Deep O

theorem addr_of_cell {w : World} {a : Addr} {v : Value} (h : w.cell? a = some v) : a = ⟨a.block, a.off, none⟩ := by
  obtain ⟨b, o, s⟩ := a
  cases s with
  | none => rfl
  | some s => unfold World.cell? at h; split at h <;> simp at h
theorem add_of (b o k : Nat) : (⟨b, o, none⟩ : Addr).add k = ⟨b, o + k, none⟩ := by unfold Addr.add; by_cases hk : k = 0 <;> simp [hk]

section
variable {H : Type} {enc : TypeId × Value → H} {W : World} {base : Nat} {spare : Nat → Bool} {held : Bool} {fuel : Nat} {cs : List Value} {x : DataW H × List MemPlace}
set_option maxRecDepth 100000 in
theorem read_insts (h : DataW.trod enc Tryz.prog W base spare held fuel 59 cs = some x) : ∃ A l c, cs = [.slice A l.length c] ∧ Rd W A (iis l) ∧ l.length ≤ c ∧ c ≤ maxLen ∧ AllI l := by
  rcases open_slice Tryz.underlying59 h with ⟨hcs, _⟩ | ⟨a, len, cap, m, n, D, Pl, hcs, _, hl, hm, hmm, _, hi⟩
  · exact ⟨none, [], 0, hcs, Rd.none_ _ _, Nat.le_refl _, Nat.zero_le _, fun _ h => by simp at h⟩
  · have hlm : len ≤ m := by rw [hmm]; split <;> omega
    have cI : Tryz.prog.cellsOf 63 = 3 := by kernel_rfl
    have c3 : Tryz.prog.cellsOf 3 = 1 := by kernel_rfl
    have c2 : Tryz.prog.cellsOf 2 = 1 := by kernel_rfl
    have each : ∀ i : Nat, ∃ v : I3, i < len → W.cell? (a.add (i * 3)) = some (.int .i64 v.1) ∧ W.cell? ((a.add (i * 3)).add 1) = some (.int .i64 v.2.1) ∧ W.cell? ((a.add (i * 3)).add 2) = some (.int .i64 v.2.2) ∧ O.I64 v.2.1 ∧ O.I64 v.2.2 := by
      intro i
      by_cases hlt : i < len
      · obtain ⟨cs', hc, ht'⟩ := hi i (by omega)
        rw [cI] at hc
        obtain ⟨y0, y1, y2, k, _, hlen, h0, h1, h2⟩ := trod_struct3 Tryz.underlying63 ht'
        obtain ⟨_, hcl, hat⟩ := World.cells?_some hc
        match cs', hcl with
        | [u0, u1, u2], _ =>
          have g0 := hat 0 (by omega)
          have g1 := hat 1 (by omega)
          have g2 := hat 2 (by omega)
          obtain ⟨z0, e0, _, w0⟩ := DataW.trod_int Tryz.underlying3 h0
          obtain ⟨z1, e1, _, w1⟩ := DataW.trod_int Tryz.underlying2 h1
          obtain ⟨z2, e2, _, w2⟩ := DataW.trod_int Tryz.underlying2 h2
          simp [c3] at e0
          simp [c2] at e1
          simp [c2] at e2
          subst e0 e1 e2
          exact ⟨(z0, z1, z2), fun _ => ⟨by simpa [Addr.add] using g0, by simpa using g1, by simpa using g2, i64_of_wf w1, i64_of_wf w2⟩⟩
      · exact ⟨(0, 0, 0), fun h => absurd h hlt⟩
    obtain ⟨f, hf⟩ := Classical.axiomOfChoice each
    have hlen : ((List.range len).map f).length = len := by simp
    refine ⟨some a, (List.range len).map f, cap, by rw [hlen]; exact hcs, fun h0 => ?_, by rw [hlen]; exact hl, hm, fun v hv => ?_⟩
    · have h0' : 0 < len := by rw [iis_length, hlen] at h0; omega
      have ea := addr_of_cell (hf 0 h0').1
      have ea' : a = ⟨a.block, a.off, none⟩ := by simpa [Addr.add] using ea
      refine ⟨a.block, a.off, by rw [← ea'], fun j u hu => ?_⟩
      have hj : j < len * 3 := by have := (List.getElem?_eq_some_iff.1 hu).1; rw [iis_length, hlen] at this; exact this
      have hd : j / 3 < len := by omega
      obtain ⟨k0, k1, k2, _⟩ := hf (j / 3) hd
      obtain ⟨q0, q1, q2⟩ := iis_at ((List.range len).map f) (j / 3) (by rw [hlen]; exact hd)
      rw [ea', add_of] at k0 k1 k2
      rw [add_of] at k1 k2
      simp only [List.getElem_map, List.getElem_range] at q0 q1 q2
      have hm3 : j % 3 = 0 ∨ j % 3 = 1 ∨ j % 3 = 2 := by omega
      rcases hm3 with hr | hr | hr
      · have ej : j = j / 3 * 3 := by omega
        rw [ej, q0] at hu
        rw [ej, k0]; exact hu
      · have ej : j = j / 3 * 3 + 1 := by omega
        rw [ej, q1] at hu
        rw [ej, ← Nat.add_assoc, k1]; exact hu
      · have ej : j = j / 3 * 3 + 2 := by omega
        rw [ej, q2] at hu
        rw [ej, ← Nat.add_assoc, k2]; exact hu
    · obtain ⟨i, hi', rfl⟩ := List.mem_map.1 hv
      exact ⟨(hf i (List.mem_range.1 hi')).2.2.2.1, (hf i (List.mem_range.1 hi')).2.2.2.2⟩
end
section
variable {H : Type} {enc : TypeId × Value → H} {w : World} {base b0 : Nat} {spare : Nat → Bool} {held : Bool} {r : Reach} {v : Value} {d : DataW H} {p : List MemPlace}
end

end Go.Proofs.YtgifflfjhockaaaGreatDoor.C

namespace Go.Proofs.YtgifflfjhockaaaGreatDoor.I
open Go.RowKit W

theorem rdI_small {l : List UInt8} {p q : Nat} {es : List SE} {fs : List FE} (h : rdI l p = some (imOf es fs, q)) : es.length ≤ 64 ∧ fs.length ≤ 64 ∧ (∀ e ∈ es, S.okS e.2 = true) ∧ ∀ e ∈ fs, F.okF e.2 = true := by
  obtain ⟨⟨h1, h2, h3, h4⟩, _⟩ := rdI_ok h
  refine ⟨by simpa [imOf] using h1, by simpa [imOf] using h2, fun e he => List.all_eq_true.1 h3 _ ?_, fun e he => List.all_eq_true.1 h4 _ ?_⟩
  · exact List.mem_map.2 ⟨e, he, rfl⟩
  · exact List.mem_map.2 ⟨e, he, rfl⟩
theorem sm_of {w : World} {v : IV} {es : List SE} {fs : List FE} (h : ImAt w v es fs) (hs : es.length ≤ 64 ∧ fs.length ≤ 64 ∧ (∀ e ∈ es, S.okS e.2 = true) ∧ ∀ e ∈ fs, F.okF e.2 = true) : SmI es fs ∧ LgI v es fs := by
  obtain ⟨h1, h2, h3, h4⟩ := hs
  have hsh : ∀ e ∈ es, e.1.n ≤ 100 := fun e he => by
    have a := (h.hs e he).2
    have b := ((S.okS_iff _).1 (h3 e he)).1
    omega
  have hfn : ∀ e ∈ fs, F.SmF e.1 := fun e he => smF_ok (h.hf e he) (h4 e he)
  have hx := h.lx
  have hy := h.ly
  exact ⟨⟨by omega, by omega, hsh, hfn⟩, ⟨by omega, by omega, fun e he => by have := hsh e he; omega, fun e he => (hfn e he).lg⟩⟩
theorem take_cut {l : List UInt8} (h : l.take 5 = magicL) (h9 : 9 ≤ l.length) : l.take (l.length - 4) = magicL ++ (l.drop 5).take (l.length - 9) ∧ l.drop (l.length - 4) = (l.drop 5).drop (l.length - 9) ∧ (l.take (l.length - 4)).drop 5 = (l.drop 5).take (l.length - 9) := by
  have e1 : l = magicL ++ l.drop 5 := by rw [← h, List.take_append_drop]
  have e2 : l.length - 4 = magicL.length + (l.length - 9) := by show l.length - 4 = 5 + (l.length - 9); omega
  refine ⟨?_, ?_, ?_⟩
  · have e3 : (magicL ++ l.drop 5).take (magicL.length + (l.length - 9)) = magicL ++ (l.drop 5).take (l.length - 9) := List.take_length_add_append _
    rw [← e1, ← e2] at e3
    exact e3
  · rw [List.drop_drop, show 5 + (l.length - 9) = l.length - 4 by omega]
  · rw [List.drop_take, show l.length - 4 - 5 = l.length - 9 by omega]

/-- How Decode ends. -/
def DecR (w : World) (p : Im) (E : Int) (e : Ending) (w' : World) : Prop := ∃ v es fs, e = .returned (.tuple #[v.val, .int .i64 E]) ∧ OwnIm w' (Fresh w) v es fs ∧ imOf es fs = p ∧ Keep NoB w w'

/-- What the values are that Decode's region yields, where there may be a sum. -/
def SO (m : Nat) (ad : Addr) (E c : Nat) (fr : List UInt8) (bb : Bool) : Nat → Value → World → Prop
  | 0 => fun u _ => u = .int .i64 (E : Int)
  | 1 => fun u _ => u = .bool false
  | 2 => fun u _ => u = .bool false
  | 3 => fun u _ => u = .slice (some ad) (E + 4) c
  | 4 => fun u _ => u = .int .i64 (E : Int)
  | 5 => fun u _ => u = .slice (some (ad.add E)) 4 (c - E)
  | 6 => fun u _ => u = .slice (some ⟨m, 0, none⟩) 5 5
  | 7 => fun u _ => u = .slice (some ad) (E + 4) c
  | 8 => fun u _ => u = .int .i64 (E : Int)
  | 9 => fun u _ => u = .slice (some ad) E c
  | 10 => fun u w => ∃ g, u = .slice (some ⟨g, 0, none⟩) 2 2 ∧ Blk w g 26 #[.slice (some ⟨m, 0, none⟩) 5 5, .slice (some ad) E c]
  | 11 => PtV fr
  | 12 => fun u _ => u = .bool bb
  | 13 => fun u _ => u = .bool (!bb)
  | 14 => fun u _ => u = .bool (!bb)
  | _ => fun _ _ => True
theorem SO_stable (m : Nat) (ad : Addr) (E c : Nat) (fr : List UInt8) (bb : Bool) : ∀ i u w w', SO m ad E c fr bb i u w → Keep NoB w w' → SO m ad E c fr bb i u w'
  | 0, _, _, _, h, _ => h
  | 1, _, _, _, h, _ => h
  | 2, _, _, _, h, _ => h
  | 3, _, _, _, h, _ => h
  | 4, _, _, _, h, _ => h
  | 5, _, _, _, h, _ => h
  | 6, _, _, _, h, _ => h
  | 7, _, _, _, h, _ => h
  | 8, _, _, _, h, _ => h
  | 9, _, _, _, h, _ => h
  | 10, _, _, _, ⟨g, e, hb⟩, hk => ⟨g, e, hb.keep hk id⟩
  | 11, _, _, _, h, hk => PtV.keepN h hk
  | 12, _, _, _, h, _ => h
  | 13, _, _, _, h, _ => h
  | 14, _, _, _, h, _ => h
  | _ + 15, _, _, _, h, _ => h
/-- .. where there is none. -/
def SQ (N : Nat) : Nat → Value → World → Prop
  | 0 => fun u _ => u = .int .i64 ((N : Int) - 4)
  | 1 => fun u _ => u = .bool true
  | 2 => fun u _ => u = .bool true
  | 14 => fun u _ => u = .bool true
  | _ => fun _ _ => True
theorem SQ_stable (N : Nat) (i : Nat) (u : Value) (w w' : World) (h : SQ N i u w) : SQ N i u w' := by
  unfold SQ at h ⊢
  split at h <;> exact h

set_option maxRecDepth 100000 in
set_option maxHeartbeats 8000000 in
theorem decode_any (A : Option Addr) (l : List UInt8) (c : Nat) (w : World) (hr : V.Rd w A l) (hc : l.length ≤ c) (hcm : c ≤ maxLen) (hlen : l.length ≤ 1073741824) :
    Calls Tryz.prog 15 #[.slice A l.length c] w (DecR w (decI l).1 (decI l).2) := by
  have bz := ((Blk.new w 25 nilW.cells).alloc (.cells #[.int .u8 98, .int .u8 107, .int .u8 115, .int .u8 116, .int .u8 1] 5))
  have hm := heap_alloc_new (w.alloc (.cells nilW.cells 25)) (.cells #[.int .u8 98, .int .u8 107, .int .u8 115, .int .u8 116, .int .u8 1] 5)
  have kW := ((Keep.refl NoB w).alloc (.cells nilW.cells 25)).alloc (.cells #[.int .u8 98, .int .u8 107, .int .u8 115, .int .u8 116, .int .u8 1] 5)
  simp only [World.size_alloc] at hm
  unfold nilW IV.cells at *
  dsimp only at *
  have hcv := run_mark (n := 5) (c := 5) hm
  have kW3 := keep_mark (k := 5) kW hm (Nat.le_succ _)
  obtain ⟨hmk, hoth⟩ := freeze_mark (k := 5) hm
  have bz3 : Blk (World.freeze _ ⟨w.heap.size + 1, 5, none⟩ 1) w.heap.size 25 #[.slice none 0 0, .slice none 0 0] := (hoth w.heap.size (by omega)).trans bz
  have hmg := (PtV.mark ⟨some ⟨w.heap.size + 1, 0, none⟩, 5, rfl, rdB_blk (l := magicL) (f := (0, 0)) hm⟩ hmk : PtV magicL (.slice (some ⟨w.heap.size + 1, 0, none⟩) 5 5) _).rd
  have hr3 := S.rd_n hr kW3
  simp only [List.size_toArray, List.length_cons, List.length_nil, Nat.reduceAdd] at hcv
  clear bz hm kW hmk hoth hr
  generalize World.freeze _ ⟨w.heap.size + 1, 5, none⟩ 1 = w3 at *
  go_enter Tryz.func15, Tryz.ntmps15
  go_wp2_with fail
  refine (cut_any A (some ⟨w.heap.size + 1, 0, none⟩) l magicL c 5 w3 hr3 hmg hc hcm rfl).mono ?_
  rintro e w4 ⟨rfl, (⟨h5, v4, rfl⟩ | ⟨h5, A', c', rfl, hR, hC⟩)⟩
  · have HD := Lib.hid (decI_1 h5)
    have f3 := fun i => bz3.frozen i
    have q0 := bz3.cell 0
    have q1 := bz3.cell 1
    simp only [List.getElem?_toArray, List.getElem?_cons_zero, List.getElem?_cons_succ] at q0 q1
    have hlt := bz3.lt
    have HP := Lib.hid (put2_img bz3 (.slice none 0 0) (.slice none 0 0))
    have HK := Lib.hid (kW3.trans (keep2_img w3 w.heap.size (.slice none 0 0) (.slice none 0 0)) (fun k e hl => by omega))
    clear bz3 kW3 hmg hr3 hcv
    go_wp2
    refine bodyPost_ret (ret_imgE (v := nilW) rfl rfl HP.out rfl) rfl ?_
    rw [HD.out]
    exact ⟨nilW, [], [], rfl, nil_own _ _, rfl, HK.out⟩
  · by_cases h9 : 9 ≤ l.length
    · obtain ⟨E, hE⟩ : ∃ E, l.length = E + 9 := ⟨l.length - 9, by omega⟩
      have hn : l.length - 5 = E + 4 := by omega
      have h0 : 0 < (l.drop 5).length := by rw [List.length_drop]; omega
      obtain ⟨ad, rfl, _⟩ := hR h0
      have htc := take_cut h5 h9
      rw [show l.length - 9 = E by omega] at htc
      have hx := rd_dp hR E
      have HX : Hid (V.Rd w3 (some (ad.add E)) ((l.drop 5).drop E) ∧ ((l.drop 5).drop E).length = 4) := ⟨hx, by rw [List.length_drop, List.length_drop]; omega⟩
      have HT : Hid (V.Rd w3 (some ad) ((l.drop 5).take E) ∧ ((l.drop 5).take E).length = E) := ⟨rd_tk hR E, by rw [List.length_take, List.length_drop]; omega⟩
      have HTC := Lib.hid htc
      have HM := Lib.hid hmg
      rw [hn] at hC ⊢
      have hce := hC.out.1
      have hcE : ¬ (c' = E) := by omega
      have hcm' := hC.out.2
      have hE30 : E ≤ 1073741824 := by omega
      clear hx htc hmg hr3 hR hC h0
      generalize (l.drop 5).drop E = X at *
      generalize (l.drop 5).take E = T at *
      obtain ⟨fr, hfr⟩ : ∃ fr, four (sumN (magicL ++ T)) = fr := ⟨_, rfl⟩
      have HFR := Lib.hid hfr
      obtain ⟨bb, hbb⟩ : ∃ bb, decide (X = fr) = bb := ⟨_, rfl⟩
      have HBB := Lib.hid hbb
      clear hfr hbb
      go_wp2_with fail
      refine wp_region_props6 (fun i => [23, 24, 25, 26, 27, 28, 29, 30, 31, 32, 33, 34, 35, 36, 37].getD i 0) 9999 (NoB) (fun _ => false) (by kernel_rfl) (by kernel_rfl) (by kernel_rfl) (SO (w.heap.size + 1) ad E c' fr bb) (fun i u x y _ _ _ h hk => SO_stable _ _ _ _ _ _ i u x y (by exact h) (by exact hk.mono (fun _ hf _ => hf))) (fun i u x y _ h hk => SO_stable _ _ _ _ _ _ i u x y h hk) rfl ?step ?spec ?fin
      case step =>
        intro i o a w' hoo hic hF hK hA
        have hi : i < 15 := by simpa using (Array.getElem?_eq_some_iff.1 hoo).1
        by_cases h0 : i = 0
        · subst h0
          simp only [List.getElem?_toArray, List.getElem?_cons_zero, Option.some.injEq] at hoo
          subst hoo
          have e7 : a.tmps.getD 7 undef = .int .i64 (E : Int) := hF.2.2 7 (by decide)
          refine Does.plain rfl ?_
          unfold yieldsK
          go_simp
          exact ⟨rfl, Keep.refl _ _⟩
        by_cases h1 : i = 1
        · subst h1
          simp only [List.getElem?_toArray, List.getElem?_cons_zero, List.getElem?_cons_succ, Option.some.injEq] at hoo
          subst hoo
          have e23 : a.tmps.getD 23 undef = .int .i64 (E : Int) := hA ⟨0, .data⟩ (by simp) rfl
          refine Does.plain rfl ?_
          unfold yieldsK
          go_simp
          exact ⟨rfl, Keep.refl _ _⟩
        by_cases h2 : i = 2
        · subst h2
          simp only [List.getElem?_toArray, List.getElem?_cons_zero, List.getElem?_cons_succ, Option.some.injEq] at hoo
          subst hoo
          have e24 : a.tmps.getD 24 undef = .bool false := hA ⟨1, .data⟩ (by simp) rfl
          refine Does.plain rfl ?_
          unfold yieldsK
          go_simp
          exact ⟨rfl, Keep.refl _ _⟩
        by_cases h3 : i = 3
        · subst h3
          simp only [List.getElem?_toArray, List.getElem?_cons_zero, List.getElem?_cons_succ, Option.some.injEq] at hoo
          subst hoo
          have e5 : a.tmps.getD 5 undef = .slice (some ad) (E + 4) c' := hF.2.2 5 (by decide)
          refine Does.yes (j := 2) (d := 25) (want := false) rfl rfl (hA ⟨2, .guard⟩ (by simp) rfl) ?_
          unfold yieldsK
          go_simp
          exact ⟨rfl, Keep.refl _ _⟩
        by_cases h4 : i = 4
        · subst h4
          simp only [List.getElem?_toArray, List.getElem?_cons_zero, List.getElem?_cons_succ, Option.some.injEq] at hoo
          subst hoo
          have e7 : a.tmps.getD 7 undef = .int .i64 (E : Int) := hF.2.2 7 (by decide)
          refine Does.yes (j := 2) (d := 25) (want := false) rfl rfl (hA ⟨2, .guard⟩ (by simp) rfl) ?_
          unfold yieldsK
          go_simp
          exact ⟨rfl, Keep.refl _ _⟩
        by_cases h5 : i = 5
        · subst h5
          simp only [List.getElem?_toArray, List.getElem?_cons_zero, List.getElem?_cons_succ, Option.some.injEq] at hoo
          subst hoo
          have e26 : a.tmps.getD 26 undef = .slice (some ad) (E + 4) c' := hA ⟨3, .data⟩ (by simp) rfl
          have e27 : a.tmps.getD 27 undef = .int .i64 (E : Int) := hA ⟨4, .data⟩ (by simp) rfl
          have hle : (E : Int) ≤ (E : Int) + 4 := by omega
          refine Does.yes (j := 2) (d := 25) (want := false) rfl rfl (hA ⟨2, .guard⟩ (by simp) rfl) ?_
          unfold yieldsK
          go_simp
          exact ⟨rfl, Keep.refl _ _⟩
        by_cases h6 : i = 6
        · subst h6
          simp only [List.getElem?_toArray, List.getElem?_cons_zero, List.getElem?_cons_succ, Option.some.injEq] at hoo
          subst hoo
          have e4 : a.tmps.getD 4 undef = .slice (some ⟨w.heap.size + 1, 0, none⟩) 5 5 := hF.2.2 4 (by decide)
          refine Does.yes (j := 2) (d := 25) (want := false) rfl rfl (hA ⟨2, .guard⟩ (by simp) rfl) ?_
          unfold yieldsK
          go_simp
          exact ⟨rfl, Keep.refl _ _⟩
        by_cases h7 : i = 7
        · subst h7
          simp only [List.getElem?_toArray, List.getElem?_cons_zero, List.getElem?_cons_succ, Option.some.injEq] at hoo
          subst hoo
          have e5 : a.tmps.getD 5 undef = .slice (some ad) (E + 4) c' := hF.2.2 5 (by decide)
          refine Does.yes (j := 2) (d := 25) (want := false) rfl rfl (hA ⟨2, .guard⟩ (by simp) rfl) ?_
          unfold yieldsK
          go_simp
          exact ⟨rfl, Keep.refl _ _⟩
        by_cases h8 : i = 8
        · subst h8
          simp only [List.getElem?_toArray, List.getElem?_cons_zero, List.getElem?_cons_succ, Option.some.injEq] at hoo
          subst hoo
          have e7 : a.tmps.getD 7 undef = .int .i64 (E : Int) := hF.2.2 7 (by decide)
          refine Does.yes (j := 2) (d := 25) (want := false) rfl rfl (hA ⟨2, .guard⟩ (by simp) rfl) ?_
          unfold yieldsK
          go_simp
          exact ⟨rfl, Keep.refl _ _⟩
        by_cases h9 : i = 9
        · subst h9
          simp only [List.getElem?_toArray, List.getElem?_cons_zero, List.getElem?_cons_succ, Option.some.injEq] at hoo
          subst hoo
          have e30 : a.tmps.getD 30 undef = .slice (some ad) (E + 4) c' := hA ⟨7, .data⟩ (by simp) rfl
          have e31 : a.tmps.getD 31 undef = .int .i64 (E : Int) := hA ⟨8, .data⟩ (by simp) rfl
          have hle : E ≤ c' := by omega
          refine Does.yes (j := 2) (d := 25) (want := false) rfl rfl (hA ⟨2, .guard⟩ (by simp) rfl) ?_
          unfold yieldsK
          go_simp
          exact ⟨rfl, Keep.refl _ _⟩
        by_cases h10 : i = 10
        · subst h10
          simp only [List.getElem?_toArray, List.getElem?_cons_zero, List.getElem?_cons_succ, Option.some.injEq] at hoo
          subst hoo
          have e29 : a.tmps.getD 29 undef = .slice (some ⟨w.heap.size + 1, 0, none⟩) 5 5 := hA ⟨6, .data⟩ (by simp) rfl
          have e32 : a.tmps.getD 32 undef = .slice (some ad) E c' := hA ⟨9, .data⟩ (by simp) rfl
          refine Does.yes (j := 2) (d := 25) (want := false) rfl rfl (hA ⟨2, .guard⟩ (by simp) rfl) ?_
          unfold yieldsK
          simp only [Array.getD_eq_getD_getElem?] at e29 e32
          go_simp
          exact ⟨⟨w'.heap.size, rfl, Blk.new _ _ _⟩, (Keep.refl _ _).alloc _⟩
        by_cases h11 : i = 11
        · subst h11
          simp only [List.getElem?_toArray, List.getElem?_cons_zero, List.getElem?_cons_succ, Option.some.injEq] at hoo
          subst hoo
          obtain ⟨g, e33, hb⟩ := hA ⟨10, .data⟩ (by simp) rfl
          have e33 : a.tmps.getD 33 undef = .slice (some ⟨g, 0, none⟩) 2 2 := e33
          refine Does.yes (j := 2) (d := 25) (want := false) rfl rfl (hA ⟨2, .guard⟩ (by simp) rfl) ?_
          unfold yieldsK
          go_simp
          refine (seal_any (some ⟨g, 0, none⟩) [(⟨some ⟨w.heap.size + 1, 0, none⟩, 5, 5⟩, magicL), (⟨some ad, E, c'⟩, T)] 2 2 w' (rd_two hb) rfl (fun e he => by
            simp only [List.mem_cons, List.not_mem_nil, or_false] at he
            rcases he with rfl | rfl
            · exact ⟨(HM.out.keep hK (fun _ _ _ => id)), rfl⟩
            · exact ⟨(HT.out.1.keep hK (fun _ _ _ => id)), HT.out.2⟩) (by omega) (fun e he => by
            simp only [List.mem_cons, List.not_mem_nil, or_false] at he
            rcases he with rfl | rfl
            · show (5 : Nat) ≤ _; omega
            · show E ≤ _; omega)).mono ?_
          rintro e w5 ⟨u, rfl, h2, h3⟩
          have e4 : allB [(⟨some ⟨w.heap.size + 1, 0, none⟩, 5, 5⟩, magicL), (⟨some ad, E, c'⟩, T)] = magicL ++ T := by simp [allB]
          rw [e4, HFR.out] at h2
          exact ⟨_, rfl, OwnB.ptV h2, h3⟩
        by_cases h12 : i = 12
        · subst h12
          simp only [List.getElem?_toArray, List.getElem?_cons_zero, List.getElem?_cons_succ, Option.some.injEq] at hoo
          subst hoo
          have e28 : a.tmps.getD 28 undef = .slice (some (ad.add E)) 4 (c' - E) := hA ⟨5, .data⟩ (by simp) rfl
          obtain ⟨A34, c34, e34, h34⟩ := hA ⟨11, .data⟩ (by simp) rfl
          have e34 : a.tmps.getD 34 undef = .slice A34 fr.length c34 := e34
          refine Does.yes (j := 2) (d := 25) (want := false) rfl rfl (hA ⟨2, .guard⟩ (by simp) rfl) ?_
          unfold yieldsK
          simp only [Array.getD_eq_getD_getElem?] at e34
          go_simp
          refine (equalB_any (some (ad.add E)) A34 X fr 4 fr.length (c' - E) c34 w' (HX.out.1.keep hK (fun _ _ _ => id)) h34 HX.out.2 rfl bb HBB.out).mono ?_
          rintro e w5 ⟨rfl, rfl⟩
          exact ⟨_, rfl, rfl, Keep.refl _ _⟩
        by_cases h13 : i = 13
        · subst h13
          simp only [List.getElem?_toArray, List.getElem?_cons_zero, List.getElem?_cons_succ, Option.some.injEq] at hoo
          subst hoo
          have e35 : a.tmps.getD 35 undef = .bool bb := hA ⟨12, .data⟩ (by simp) rfl
          refine Does.yes (j := 2) (d := 25) (want := false) rfl rfl (hA ⟨2, .guard⟩ (by simp) rfl) ?_
          unfold yieldsK
          go_simp
          exact ⟨rfl, Keep.refl _ _⟩
        by_cases h14 : i = 14
        · subst h14
          simp only [List.getElem?_toArray, List.getElem?_cons_zero, List.getElem?_cons_succ, Option.some.injEq] at hoo
          subst hoo
          have e25 : a.tmps.getD 25 undef = .bool false := hA ⟨2, .data⟩ (by simp) rfl
          have e36 : a.tmps.getD 36 undef = .bool (!bb) := hA ⟨13, .data⟩ (by simp) rfl
          refine Does.plain rfl ?_
          unfold yieldsK
          go_simp
          exact ⟨rfl, Keep.refl _ _⟩
        omega
      case spec =>
        intro o a w' hoo
        simp at hoo
      case fin =>
        intro a w' hF gK hA
        have e37 : a.tmps.getD 37 undef = .bool (!bb) := hA 14 (by decide)
        have ha := frameD_list (l := [23, 24, 25, 26, 27, 28, 29, 30, 31, 32, 33, 34, 35, 36, 37]) rfl hF
        rw [ha]
        simp only [List.map_cons, List.map_nil, e37]
        generalize a.tmps.getD 23 undef = u0
        generalize a.tmps.getD 24 undef = u1
        generalize a.tmps.getD 25 undef = u2
        generalize a.tmps.getD 26 undef = u3
        generalize a.tmps.getD 27 undef = u4
        generalize a.tmps.getD 28 undef = u5
        generalize a.tmps.getD 29 undef = u6
        generalize a.tmps.getD 30 undef = u7
        generalize a.tmps.getD 31 undef = u8
        generalize a.tmps.getD 32 undef = u9
        generalize a.tmps.getD 33 undef = u10
        generalize a.tmps.getD 34 undef = u11
        generalize a.tmps.getD 35 undef = u12
        generalize a.tmps.getD 36 undef = u13
        simp only [fillD, List.setIfInBounds_toArray, List.set_cons_zero, List.set_cons_succ]
        have bz9 := bz3.keep gK id
        have kW9 := keepN kW3 gK
        have hT9 := HT.out.1.keep gK (fun _ _ _ => id)
        have hTl := HT.out.2
        clear hA hF ha e37 HM HX gK bz3 kW3 hcv HT
        cases bb
        · have HD := Lib.hid (decI_2 h5 (.inr (by rw [HTC.out.1, HTC.out.2.1, HFR.out]; exact of_decide_eq_false HBB.out)))
          clear HBB HFR HTC hT9
          have f3 := fun i => bz9.frozen i
          have q0 := bz9.cell 0
          have q1 := bz9.cell 1
          simp only [List.getElem?_toArray, List.getElem?_cons_zero, List.getElem?_cons_succ] at q0 q1
          have hlt := bz9.lt
          have HP := Lib.hid (put2_img bz9 (.slice none 0 0) (.slice none 0 0))
          have HK := Lib.hid (kW9.trans (keep2_img _ w.heap.size (.slice none 0 0) (.slice none 0 0)) (fun k e hl => by omega))
          clear bz9 kW9
          go_wp2
          refine bodyPost_ret (ret_imgE (v := nilW) rfl rfl HP.out rfl) rfl ?_
          rw [HD.out]
          exact ⟨nilW, [], [], rfl, nil_own _ _, rfl, HK.out⟩
        · have hsum : l.drop (l.length - 4) = four (sumN (l.take (l.length - 4))) := by rw [HTC.out.1, HTC.out.2.1, HFR.out]; exact of_decide_eq_true HBB.out
          have HD4 := Lib.hid (fun p hp => decI_4 (p := p) h5 h9 hsum (by rw [HTC.out.2.2]; exact hp))
          have HD3 := Lib.hid (fun hp => decI_3 h5 h9 hsum (by rw [HTC.out.2.2]; exact hp))
          have hin := inner_any (some ad) T c' _ hT9 (by omega)
          rw [hTl] at hin
          have HIN := Lib.hid hin
          clear HBB HFR HTC hT9 hsum hin h5
          go_wp2_with fail
          refine HIN.out.mono ?_
          rintro e w6 ⟨v6, es, fs, b6, rfl, hO6, k6, hb1, hb0⟩
          have bz6 := bz9.keep k6 id
          have kW6 := keepN kW9 k6
          have hz6 := bz9.lt
          have kA := (Keep.refl NoB w6).alloc (.cells v6.cells 25)
          have bz7 := bz6.keep kA id
          have kW7 := keepN kW6 kA
          have bv7 := Blk.new w6 25 v6.cells
          cases b6
          · have HD := Lib.hid (HD3.out (by
              cases hq : rdI T 0 with
              | none => exact opI_1 hq
              | some x => exact opI_2 hq (fun h => hb0 rfl x hq (by rw [h.1]))))
            have bz9 := bz7
            have kW9 := kW7
            clear hb1 hb0 HD3 HD4 hO6 k6 bz6 kW6 bz7 kW7 bv7 kA
            obtain ⟨X6, nx6, cx6, Y6, ny6, cy6⟩ := v6
            dsimp only [IV.val, IV.cells] at *
            have f3 := fun i => bz9.frozen i
            have q0 := bz9.cell 0
            have q1 := bz9.cell 1
            simp only [List.getElem?_toArray, List.getElem?_cons_zero, List.getElem?_cons_succ] at q0 q1
            have hlt := bz9.lt
            have HP := Lib.hid (put2_img bz9 (.slice none 0 0) (.slice none 0 0))
            have HK := Lib.hid (kW9.trans (keep2_img _ w.heap.size (.slice none 0 0) (.slice none 0 0)) (fun k e hl => by omega))
            clear bz9 kW9
            go_wp2
            refine bodyPost_ret (ret_imgE (v := nilW) rfl rfl HP.out rfl) rfl ?_
            rw [HD.out]
            exact ⟨nilW, [], [], rfl, nil_own _ _, rfl, HK.out⟩
          · have hrd := hb1 rfl
            obtain ⟨hsm, hlg⟩ := sm_of hO6.im (rdI_small hrd)
            have HC6 := Lib.hid (check_any v6 es fs _ (hO6.keepN kA).im hlg _ rfl)
            cases ho : okI (imOf es fs)
            · rw [chkI_no ho] at HC6
              have HD := Lib.hid (HD3.out (opI_2 hrd (fun h => by rw [ho] at h; exact absurd h.2 (by decide))))
              obtain ⟨p0, p1⟩ := blk2 bv7
              have HB7 := Lib.hid (And.intro bz7 kW7)
              clear hb1 hb0 HD3 HD4 hO6 k6 bz6 kW6 bz7 kW7 bv7 kA hrd hsm hlg ho bz9 kW9
              obtain ⟨X6, nx6, cx6, Y6, ny6, cy6⟩ := v6
              dsimp only [IV.val, IV.cells] at *
              go_wp2_with fail
              refine HC6.out.mono ?_
              rintro e w8 ⟨rfl, k8⟩
              have bz9 := HB7.out.1.keep k8 id
              have kW9 := keepN HB7.out.2 k8
              clear HB7 HC6 k8
              have f3 := fun i => bz9.frozen i
              have q0 := bz9.cell 0
              have q1 := bz9.cell 1
              simp only [List.getElem?_toArray, List.getElem?_cons_zero, List.getElem?_cons_succ] at q0 q1
              have hlt := bz9.lt
              have HP := Lib.hid (put2_img bz9 (.slice none 0 0) (.slice none 0 0))
              have HK := Lib.hid (kW9.trans (keep2_img _ w.heap.size (.slice none 0 0) (.slice none 0 0)) (fun k e hl => by omega))
              clear bz9 kW9
              go_wp2
              refine bodyPost_ret (ret_imgE (v := nilW) rfl rfl HP.out rfl) rfl ?_
              rw [HD.out]
              exact ⟨nilW, [], [], rfl, nil_own _ _, rfl, HK.out⟩
            · rw [chkI_ok ho] at HC6
              have HD := Lib.hid (HD4.out (imOf es fs) (opI_3 hrd rfl ho))
              have hO7 := hO6.keepN kA
              clear hb1 hb0 HD3 HD4 hO6 k6 bz6 kW6 kA hrd hsm hlg ho bz9 kW9
              have HB7 := Lib.hid (And.intro bz7 (And.intro kW7 (And.intro hO7 bv7)))
              obtain ⟨p0, p1⟩ := blk2 bv7
              clear bz7 kW7 hO7 bv7
              obtain ⟨X6, nx6, cx6, Y6, ny6, cy6⟩ := v6
              dsimp only [IV.val, IV.cells] at *
              go_wp2_with fail
              refine HC6.out.mono ?_
              rintro e w8 ⟨rfl, k8⟩
              obtain ⟨bz7, kW7, hO7, bv7⟩ := HB7.out
              have bz8 := bz7.keep k8 id
              have kW8 := keepN kW7 k8
              have hO8 := hO7.keepN k8
              obtain ⟨r0, r1⟩ := blk2 (v := ⟨X6, nx6, cx6, Y6, ny6, cy6⟩) (bv7.keep k8 id)
              dsimp only at r0 r1
              have f3 := fun i => bz8.frozen i
              have q0 := bz8.cell 0
              have q1 := bz8.cell 1
              simp only [List.getElem?_toArray, List.getElem?_cons_zero, List.getElem?_cons_succ] at q0 q1
              have hlt := bz8.lt
              have HP := Lib.hid (put2_img bz8 (.slice X6 nx6 cx6) (.slice Y6 ny6 cy6))
              have kq := keep2_img w8 w.heap.size (.slice X6 nx6 cx6) (.slice Y6 ny6 cy6)
              have HK := Lib.hid (kW8.trans kq (fun k e hl => by omega))
              have HO := Lib.hid ((hO8.keep kq (fun k hk e => by unfold Fresh at hk; omega)).mono (P' := Fresh w) (fun k hk _ => by unfold Fresh at *; omega))
              clear bz8 kW8 hO8 bz7 kW7 hO7 bv7 HB7 k8 kq HC6
              go_wp2
              refine bodyPost_ret (ret_imgE (v := ⟨X6, nx6, cx6, Y6, ny6, cy6⟩) rfl rfl HP.out rfl) rfl ?_
              rw [HD.out]
              exact ⟨⟨X6, nx6, cx6, Y6, ny6, cy6⟩, es, fs, rfl, HO.out, rfl, HK.out⟩
    · obtain ⟨N, hN⟩ : ∃ N, l.length - 5 = N := ⟨_, rfl⟩
      have hdN : ((N : Int) - 4 < 0) := by omega
      rw [hN]
      go_wp2_with fail
      refine wp_region_props6 (fun i => [23, 24, 25, 26, 27, 28, 29, 30, 31, 32, 33, 34, 35, 36, 37].getD i 0) 9999 (NoB) (fun _ => false) (by kernel_rfl) (by kernel_rfl) (by kernel_rfl) (SQ N) (fun i u x y _ _ _ h _ => SQ_stable _ i u x y h) (fun i u x y _ h _ => SQ_stable _ i u x y h) rfl ?step ?spec ?fin
      case step =>
        intro i o a w' hoo hic hF hK hA
        have hi : i < 15 := by simpa using (Array.getElem?_eq_some_iff.1 hoo).1
        by_cases h0 : i = 0
        · subst h0
          simp only [List.getElem?_toArray, List.getElem?_cons_zero, Option.some.injEq] at hoo
          subst hoo
          have e7 : a.tmps.getD 7 undef = .int .i64 ((N : Int) - 4) := hF.2.2 7 (by decide)
          refine Does.plain rfl ?_
          unfold yieldsK
          go_simp
          exact ⟨rfl, Keep.refl _ _⟩
        by_cases h1 : i = 1
        · subst h1
          simp only [List.getElem?_toArray, List.getElem?_cons_zero, List.getElem?_cons_succ, Option.some.injEq] at hoo
          subst hoo
          have e23 : a.tmps.getD 23 undef = .int .i64 ((N : Int) - 4) := hA ⟨0, .data⟩ (by simp) rfl
          have hd := hdN
          refine Does.plain rfl ?_
          unfold yieldsK
          go_simp
          exact ⟨rfl, Keep.refl _ _⟩
        by_cases h2 : i = 2
        · subst h2
          simp only [List.getElem?_toArray, List.getElem?_cons_zero, List.getElem?_cons_succ, Option.some.injEq] at hoo
          subst hoo
          have e24 : a.tmps.getD 24 undef = .bool true := hA ⟨1, .data⟩ (by simp) rfl
          refine Does.plain rfl ?_
          unfold yieldsK
          go_simp
          exact ⟨rfl, Keep.refl _ _⟩
        by_cases h3 : i = 3
        · subst h3
          simp only [List.getElem?_toArray, List.getElem?_cons_zero, List.getElem?_cons_succ, Option.some.injEq] at hoo
          subst hoo
          refine Does.no (j := 2) (d := 25) (want := false) rfl rfl (hA ⟨2, .guard⟩ (by simp) rfl) ?_
          exact ⟨trivial, Keep.refl _ _⟩
        by_cases h4 : i = 4
        · subst h4
          simp only [List.getElem?_toArray, List.getElem?_cons_zero, List.getElem?_cons_succ, Option.some.injEq] at hoo
          subst hoo
          refine Does.no (j := 2) (d := 25) (want := false) rfl rfl (hA ⟨2, .guard⟩ (by simp) rfl) ?_
          exact ⟨trivial, Keep.refl _ _⟩
        by_cases h5 : i = 5
        · subst h5
          simp only [List.getElem?_toArray, List.getElem?_cons_zero, List.getElem?_cons_succ, Option.some.injEq] at hoo
          subst hoo
          refine Does.no (j := 2) (d := 25) (want := false) rfl rfl (hA ⟨2, .guard⟩ (by simp) rfl) ?_
          exact ⟨trivial, Keep.refl _ _⟩
        by_cases h6 : i = 6
        · subst h6
          simp only [List.getElem?_toArray, List.getElem?_cons_zero, List.getElem?_cons_succ, Option.some.injEq] at hoo
          subst hoo
          refine Does.no (j := 2) (d := 25) (want := false) rfl rfl (hA ⟨2, .guard⟩ (by simp) rfl) ?_
          exact ⟨trivial, Keep.refl _ _⟩
        by_cases h7 : i = 7
        · subst h7
          simp only [List.getElem?_toArray, List.getElem?_cons_zero, List.getElem?_cons_succ, Option.some.injEq] at hoo
          subst hoo
          refine Does.no (j := 2) (d := 25) (want := false) rfl rfl (hA ⟨2, .guard⟩ (by simp) rfl) ?_
          exact ⟨trivial, Keep.refl _ _⟩
        by_cases h8 : i = 8
        · subst h8
          simp only [List.getElem?_toArray, List.getElem?_cons_zero, List.getElem?_cons_succ, Option.some.injEq] at hoo
          subst hoo
          refine Does.no (j := 2) (d := 25) (want := false) rfl rfl (hA ⟨2, .guard⟩ (by simp) rfl) ?_
          exact ⟨trivial, Keep.refl _ _⟩
        by_cases h9 : i = 9
        · subst h9
          simp only [List.getElem?_toArray, List.getElem?_cons_zero, List.getElem?_cons_succ, Option.some.injEq] at hoo
          subst hoo
          refine Does.no (j := 2) (d := 25) (want := false) rfl rfl (hA ⟨2, .guard⟩ (by simp) rfl) ?_
          exact ⟨trivial, Keep.refl _ _⟩
        by_cases h10 : i = 10
        · subst h10
          simp only [List.getElem?_toArray, List.getElem?_cons_zero, List.getElem?_cons_succ, Option.some.injEq] at hoo
          subst hoo
          refine Does.no (j := 2) (d := 25) (want := false) rfl rfl (hA ⟨2, .guard⟩ (by simp) rfl) ?_
          exact ⟨trivial, Keep.refl _ _⟩
        by_cases h11 : i = 11
        · subst h11
          simp only [List.getElem?_toArray, List.getElem?_cons_zero, List.getElem?_cons_succ, Option.some.injEq] at hoo
          subst hoo
          refine Does.no (j := 2) (d := 25) (want := false) rfl rfl (hA ⟨2, .guard⟩ (by simp) rfl) ?_
          exact ⟨trivial, Keep.refl _ _⟩
        by_cases h12 : i = 12
        · subst h12
          simp only [List.getElem?_toArray, List.getElem?_cons_zero, List.getElem?_cons_succ, Option.some.injEq] at hoo
          subst hoo
          refine Does.no (j := 2) (d := 25) (want := false) rfl rfl (hA ⟨2, .guard⟩ (by simp) rfl) ?_
          exact ⟨trivial, Keep.refl _ _⟩
        by_cases h13 : i = 13
        · subst h13
          simp only [List.getElem?_toArray, List.getElem?_cons_zero, List.getElem?_cons_succ, Option.some.injEq] at hoo
          subst hoo
          refine Does.no (j := 2) (d := 25) (want := false) rfl rfl (hA ⟨2, .guard⟩ (by simp) rfl) ?_
          exact ⟨trivial, Keep.refl _ _⟩
        by_cases h14 : i = 14
        · subst h14
          simp only [List.getElem?_toArray, List.getElem?_cons_zero, List.getElem?_cons_succ, Option.some.injEq] at hoo
          subst hoo
          have e25 : a.tmps.getD 25 undef = .bool true := hA ⟨2, .data⟩ (by simp) rfl
          refine Does.plain rfl ?_
          unfold yieldsK
          go_simp
          exact ⟨rfl, Keep.refl _ _⟩
        omega
      case spec =>
        intro o a w' hoo
        simp at hoo
      case fin =>
        intro a w' hF gK hA
        have e37 : a.tmps.getD 37 undef = .bool true := hA 14 (by decide)
        have ha := frameD_list (l := [23, 24, 25, 26, 27, 28, 29, 30, 31, 32, 33, 34, 35, 36, 37]) rfl hF
        rw [ha]
        simp only [List.map_cons, List.map_nil, e37]
        generalize a.tmps.getD 23 undef = u0
        generalize a.tmps.getD 24 undef = u1
        generalize a.tmps.getD 25 undef = u2
        generalize a.tmps.getD 26 undef = u3
        generalize a.tmps.getD 27 undef = u4
        generalize a.tmps.getD 28 undef = u5
        generalize a.tmps.getD 29 undef = u6
        generalize a.tmps.getD 30 undef = u7
        generalize a.tmps.getD 31 undef = u8
        generalize a.tmps.getD 32 undef = u9
        generalize a.tmps.getD 33 undef = u10
        generalize a.tmps.getD 34 undef = u11
        generalize a.tmps.getD 35 undef = u12
        generalize a.tmps.getD 36 undef = u13
        simp only [fillD, List.setIfInBounds_toArray, List.set_cons_zero, List.set_cons_succ]
        have bz9 := bz3.keep gK id
        have kW9 := keepN kW3 gK
        have HD := Lib.hid (decI_2 h5 (.inl (by omega)))
        clear hA hF ha e37 gK bz3 kW3 hcv hR hC hmg hr3
        have f3 := fun i => bz9.frozen i
        have q0 := bz9.cell 0
        have q1 := bz9.cell 1
        simp only [List.getElem?_toArray, List.getElem?_cons_zero, List.getElem?_cons_succ] at q0 q1
        have hlt := bz9.lt
        have HP := Lib.hid (put2_img bz9 (.slice none 0 0) (.slice none 0 0))
        have HK := Lib.hid (kW9.trans (keep2_img _ w.heap.size (.slice none 0 0) (.slice none 0 0)) (fun k e hl => by omega))
        clear bz9 kW9
        go_wp2
        refine bodyPost_ret (ret_imgE (v := nilW) rfl rfl HP.out rfl) rfl ?_
        rw [HD.out]
        exact ⟨nilW, [], [], rfl, nil_own _ _, rfl, HK.out⟩
end Go.Proofs.YtgifflfjhockaaaGreatDoor.I

namespace Go.Proofs.YtgifflfjhockaaaGreatDoor.S
open Go.RowKit W

/-- How the document's read ends. -/
def RdR (w : World) (br : Nat) (At : World → Nat → Prop) (R : Option (List Int × Nat)) (e : Ending) (w' : World) : Prop :=
  ∃ A n c q, e = .returned (.tuple #[.slice A n c, .bool R.isSome]) ∧ (∀ y, R = some y → n = y.1.length ∧ q = y.2 ∧ Own w' 3 1 (Fresh w) (.slice A n c) n (ivs y.1)) ∧ At w' q ∧ Keep (fun k => k = br) w w'
theorem rdr_none {w w' : World} {br q : Nat} {At : World → Nat → Prop} {R : Option (List Int × Nat)} {A : Option Addr} {n c : Nat} (hR : R = none) (h : At w' q) (hk : Keep (fun k => k = br) w w') : RdR w br At R (.returned (.tuple #[.slice A n c, .bool false])) w' := by
  subst hR
  exact ⟨A, n, c, q, rfl, fun _ h => (by cases h), h, hk⟩
theorem pack_clean {b : List UInt8} {n : Nat} (hb : b.length = sz n) : packL (unp b n) = b ↔ clean b n = true := by
  constructor
  · intro h
    have := (unp_pack (unp_known b n)).2
    rw [h, unp_length] at this
    exact this
  · exact pack_unp hb

theorem str_beq (a b : List UInt8) : ((V.str a).toList == (V.str b).toList) = decide (a = b) := by
  rw [ByteArray.toList_eq, ByteArray.toList_eq, Bool.eq_iff_iff, beq_iff_eq, decide_eq_true_iff]

set_option maxRecDepth 100000 in
set_option maxHeartbeats 4000000 in
theorem rread_any (w : World) (br : Nat) (Ob : Nat → Prop) (l : List UInt8) (p most : Nat) (hm : most ≤ 64) (h : V.RefAt w br Ob l p) (hlen : l.length ≤ 140737488355328) :
    Calls Tryz.prog 89 #[.pointer (some ⟨br, 0, none⟩), .int .u64 most] w (RdR w br (fun w' q => V.RefAt w' br Ob l q) (rdT l p most)) := by
  have hbr := ref_lt h
  have HS := Lib.hid (V.refnumber_any w br Ob l p most h hlen)
  obtain ⟨ni, r, q, hN, hN0, hN1⟩ := num_case l p most
  rw [hN] at HS
  clear h
  by_cases hr : r = 0
  · subst hr
    obtain ⟨hn1, hn2⟩ := hN0 rfl
    have hz : sz ni ≤ 16 := by unfold sz; omega
    have hz4 : ni ≤ 4 * sz ni := by unfold sz; omega
    have hzq : ((ni : Int) + 3).tdiv 4 = ((sz ni : Nat) : Int) := by unfold sz; rw [Int.tdiv_eq_ediv_of_nonneg (by omega)]; omega
    by_cases hl : l.length < q + sz ni
    · have HD := Lib.hid (rdT_2 hN hl)
      obtain ⟨z, hzz⟩ : ∃ z, sz ni = z := ⟨_, rfl⟩
      rw [hzz] at hz hz4 hl hzq
      clear hN hN0 hN1 hzz
      go_enter Tryz.func89, Tryz.ntmps89
      go_wp2_with fail
      refine HS.out.mono ?_
      rintro e w1 ⟨rfl, h1, k1⟩
      have HR := Lib.hid (V.refraw_any w1 br Ob l q (z : Int) h1 hlen (by omega))
      go_wp2_with fail
      refine HR.out.mono ?_
      rintro e w3 (⟨h0, _⟩ | ⟨_, ⟨_, rfl, h3, k3⟩ | ⟨h0, _⟩⟩)
      · omega
      · go_wp2
        go_ret2
        exact rdr_none HD.out h3 (keep_bb k1 k3)
      · omega
    · obtain ⟨bs, hbs⟩ : ∃ bs, (l.drop q).take (sz ni) = bs := ⟨_, rfl⟩
      have hbl : bs.length = sz ni := by rw [← hbs]; simp; omega
      have HD : Hid ((clean bs ni = true → rdT l p most = some (unp bs ni, q + sz ni)) ∧ (clean bs ni = false → rdT l p most = none)) := by
        refine ⟨fun hc => ?_, fun hc => ?_⟩
        · rw [rdT_4 hN hl (by rw [hbs]; exact hc), hbs]
        · exact rdT_3 hN (by rw [hbs]; exact hc)
      have HPC : Hid (packL (unp bs ni) = bs ↔ clean bs ni = true) := pack_clean hbl
      have HPL : Hid ((packL (unp bs ni)).length = sz ni) := by show _ = _; rw [packL_length, unp_length]
      obtain ⟨z, hzz⟩ : ∃ z, sz ni = z := ⟨_, rfl⟩
      rw [hzz] at hz hz4 hl hzq HD hbs hbl HPL
      have HB := Lib.hid hbs
      have HBL := Lib.hid hbl
      clear hN hN0 hN1 hzz hbl hbs
      obtain ⟨i0, hi, hz0, hz1, hz2⟩ := info_parts int_info
      go_enter Tryz.func89, Tryz.ntmps89
      go_wp2_with fail
      refine HS.out.mono ?_
      rintro e w1 ⟨rfl, h1, k1⟩
      have HR := Lib.hid (V.refraw_any w1 br Ob l q (z : Int) h1 hlen (by omega))
      go_wp2_with fail
      refine HR.out.mono ?_
      rintro e w3 (⟨h0, _⟩ | ⟨_, ⟨h0, _⟩ | ⟨_, A2, c2, rfl, hO3, h3, k3⟩⟩)
      · omega
      · omega
      rw [Int.toNat_natCast] at hO3 h3 ⊢
      rw [HB.out] at hO3
      have hK3 := keep_bb k1 k3
      obtain ⟨A', c', e', hzc, hrd, hA', _⟩ := hO3.form
      simp only [Value.slice.injEq] at e'
      obtain ⟨rfl, _, rfl⟩ := e'
      rw [HBL.out] at hzc
      have HRD := Lib.hid hrd
      have HAD := Lib.hid hA'
      clear hO3 k1 k3 h1 HR HS hrd hA' hzq
      go_wp2
      go_loopw [10, 11] (fun v i wr => ∃ k : Nat, k ≤ ni ∧ i = .int .i64 k ∧ (∃ B d, v = .slice B k d ∧ Own wr 3 1 (Fresh w3) (.slice B k d) k (ivs (unp bs k))) ∧ Keep NoB w3 wr) (fun _ i _ => ni - (intOf i).toNat)
      case atStart => exact ⟨0, Nat.zero_le _, rfl, ⟨none, 0, rfl, Own.nil _ _ _ _⟩, Keep.refl _ _⟩
      case round =>
        obtain ⟨k, hk, rfl, ⟨D, d, rfl, hO⟩, hK⟩ := hrel
        by_cases hlt : k < ni
        · have hq4 : k / 4 < bs.length := by rw [HBL.out]; omega
          obtain ⟨ad, rfl, hc⟩ := HRD.out (by omega)
          obtain ⟨_, hadf⟩ := HAD.out ad rfl
          obtain ⟨g, hg⟩ : ∃ g, ad.block = g := ⟨_, rfl⟩
          rw [hg] at hadf
          subst hadf
          have cb : wr.cell? ⟨g, k / 4, none⟩ = some (.int .u8 (bs[k / 4].toNat : Int)) := by
            have h1 := hK.cell (hc (k / 4) (V.bv bs[k / 4]) (by simp [hq4])) id
            have e : (⟨g, 0, none⟩ : Addr).add (k / 4) = ⟨g, k / 4, none⟩ := by unfold Addr.add; by_cases hj : k / 4 = 0 <;> simp [hj]
            rw [e] at h1
            exact h1
          have hv : bs[k / 4].toNat < 256 := UInt8.toNat_lt _
          have HV : Hid (bs[k / 4].toNat / 4 ^ (k % 4) % 4 = pc bs k) := by
            show _ = _
            have := pc_four hq4 (j := k % 4) (by omega)
            rw [show 4 * (k / 4) + k % 4 = k by omega] at this
            exact this.symm
          have HZ : Hid (ivs (unp bs (k + 1)) = ivs (unp bs k) ++ [.int .i64 ((pc bs k : Int) + 1)]) := by show _ = _; rw [unp_succ]; simp
          generalize bs[k / 4].toNat = v at cb hv HV
          have hq1 : ((k : Int).tdiv 4) = ((k / 4 : Nat) : Int) := by rw [Int.tdiv_eq_ediv_of_nonneg (by omega)]; omega
          have hr1 : ((k : Int).tmod 4) = ((k % 4 : Nat) : Int) := by rw [Int.tmod_eq_emod_of_nonneg (by omega)]; omega
          obtain ⟨kq, hkq⟩ : ∃ kq, k / 4 = kq := ⟨_, rfl⟩
          obtain ⟨kr, hkr⟩ : ∃ kr, k % 4 = kr := ⟨_, rfl⟩
          have hkz : kq < z := by omega
          have hkr4 : kr < 4 := by omega
          rw [hkq] at cb hq1
          rw [hkr] at HV hr1
          clear hq4 hc hg hkq hkr HAD HRD
          go_wp2
          go_loop [12, 13] (fun x j => ∃ jn : Nat, jn ≤ kr ∧ j = .int .i64 (jn : Int) ∧ x = .int .i64 ((v / 4 ^ jn : Nat) : Int)) (fun _ j => kr - (intOf j).toNat)
          case atStart => exact ⟨0, by omega, rfl, by simp⟩
          case round =>
            obtain ⟨jn, hjn, rfl, rfl⟩ := hrel
            have hd : v / 4 ^ jn < 256 := Nat.lt_of_le_of_lt (Nat.div_le_self _ _) hv
            by_cases hjl : jn < kr
            · have hs : v / 4 ^ jn / 4 = v / 4 ^ (jn + 1) := by rw [Nat.pow_succ, Nat.div_div_eq_div_mul]
              have HSS := Lib.hid hs
              generalize v / 4 ^ jn = y at hd HSS ⊢
              clear hs
              have hdv : ((y : Int).tdiv 4) = ((y / 4 : Nat) : Int) := by rw [Int.tdiv_eq_ediv_of_nonneg (by omega)]; omega
              go_wp2
              go_round
              case rel => exact ⟨jn + 1, by omega, by go_num, by rw [← HSS.out]; go_num⟩
              case measure => simp [intOf]; omega
            · obtain rfl : jn = kr := by omega
              have HV2 := HV.out
              have hmd : ∀ y : Nat, ((y : Int).tmod 4) = ((y % 4 : Nat) : Int) := fun y => by rw [Int.tmod_eq_emod_of_nonneg (by omega)]; omega
              have hmd2 := hmd (v / 4 ^ jn)
              rw [HV2] at hmd2
              have hpc := pc_lt bs k
              clear hmd HV HV2
              generalize v / 4 ^ jn = y at hd hmd2
              generalize pc bs k = pcv at hmd2 hpc HZ
              go_wp2_with (at_builtin; refine wpList_append_rd _ rfl (.tmp 54) (.tmp 58) _ rfl 3 1 8 i0 _ Tryz.underlying55 hi hz0 hz1 hz2 rfl (by decide) _ k _ _ 1 _ [.int .i64 ((pcv : Int) + 1)] rfl (hO.1.alloc _) rfl (rd_made (by simp) rfl) rfl (by simp [Value.oneCell']) (by unfold maxLen; omega) (by omega) ?_; intro B5 d5 w5 hrow5 hg5 hv5; obtain ⟨hO5, hK5⟩ := own_after hO.2 (hK.alloc _) hg5 hv5 hrow5; clear hrow5 hg5 hv5)
              go_roundw
              case rel => exact ⟨k + 1, by omega, by go_num, ⟨B5, d5, rfl, by rw [HZ.out]; exact hO5⟩, hK5⟩
              case measure => simp [intOf]; omega
        · obtain rfl : k = ni := by omega
          have hzb := HBL.out
          subst hzb
          clear HBL
          have HT := Lib.hid (fun w hr => rtypesB_any D (unp bs k) k d w hr (unp_length bs k) (unp_known bs k) (by omega))
          have r1 : Rd wr D (ivs (unp bs k)) := by
            obtain ⟨A', c', e, hr⟩ := own_rdI hO
            cases e; exact hr
          have HO := Lib.hid hO
          clear hO
          go_wp2_with fail
          refine (HT.out _ r1).mono ?_
          rintro e w5 ⟨v5, rfl, hO5, k5⟩
          obtain ⟨A5, c5, rfl, hLc, hr5, hA5, hm5⟩ := hO5.form
          have hE := V.encL_len k
          have hEp : 0 < (V.encL k).length := by rw [V.encL_length k (by omega)]; exact V.wd_pos k
          have hL : (bytesT (unp bs k)).length = (V.encL k).length + bs.length := by unfold bytesT; rw [List.length_append, HPL.out, unp_length]
          obtain ⟨ad, rfl, hc5⟩ := hr5 (by omega)
          obtain ⟨_, hadf⟩ := hA5 ad rfl
          obtain ⟨g, hg⟩ : ∃ g, ad.block = g := ⟨_, rfl⟩
          rw [hg] at hadf
          subst hadf
          rw [hL] at hLc ⊢
          obtain ⟨E, hEE⟩ : ∃ E, (V.encL k).length = E := ⟨_, rfl⟩
          rw [hEE] at hLc hE hEp ⊢
          have hAD : 0 < bs.length → (if c5 = E then some (⟨g, 0, none⟩ : Addr) else some ⟨g, E, none⟩) = some ⟨g, E, none⟩ := fun h => if_neg (by omega)
          have hrt : V.Rd w5 (if c5 = E then some (⟨g, 0, none⟩ : Addr) else some ⟨g, E, none⟩) (packL (unp bs k)) := fun h0 => by
            rw [HPL.out] at h0
            refine ⟨_, hAD h0, fun j u hu => ?_⟩
            have h1 := hc5 (E + j) u (by unfold bytesT; rw [unp_length]; show (List.map _ _)[_]? = _; rw [List.map_append, List.getElem?_append_right (by simp; omega), List.length_map, hEE, show E + j - E = j by omega]; exact hu)
            have e1 : (⟨g, 0, none⟩ : Addr).add (E + j) = ⟨g, E + j, none⟩ := by unfold Addr.add; rw [if_neg (by omega)]; simp
            have e2 : (⟨g, E, none⟩ : Addr).add j = ⟨g, E + j, none⟩ := by unfold Addr.add; by_cases hj : j = 0 <;> simp [hj]
            rw [e1] at h1
            rw [e2]; exact h1
          have hrb : V.Rd w5 A2 bs := (HRD.out.keep hK (fun _ _ _ => id)).keep k5 (fun _ _ _ => id)
          obtain ⟨S1, hS1⟩ : ∃ S1, V.str (packL (unp bs k)) = S1 := ⟨_, rfl⟩
          obtain ⟨S2, hS2⟩ : ∃ S2, V.str bs = S2 := ⟨_, rfl⟩
          have HS1 := Lib.hid hS1
          have HS2 := Lib.hid hS2
          have HHL := Lib.hid hLc
          have hwE : wrap64 (E : Int) = (E : Int) := by unfold wrap64; omega
          clear hS1 hS2 hAD hc5 hO5 hr5 hA5 hg hEE hE hL hLc r1 HT
          go_wp2
          refine wp_region_sh ((0, false) :: (1, false) :: (2, false) :: (3, false) :: (4, false) :: (5, false) :: (6, false) :: (7, false) :: (8, false) :: (9, false) :: (10, false) :: (11, false) :: (12, false) :: (13, false) :: []) (fun w' => Keep NoB w5 w') (by kernel_rfl) (by kernel_rfl) (by rfl) (by kernel_rfl) (stable_keep w5) (Keep.refl NoB w5).drew ?_
          refine shM_step rfl rfl rfl (by rfl) (by rfl) ?_
          apply Exists.intro
          refine ⟨fun z0 K hK => ?_, ?_, ?_⟩
          · go_big_quiet_op
            exact hK _ rfl
          · kernel_rfl
          refine shM_step rfl rfl rfl (by rfl) (by rfl) ?_
          apply Exists.intro
          refine ⟨fun z0 K hK => ?_, ?_, ?_⟩
          · go_big_quiet_op
            exact hK _ rfl
          · kernel_rfl
          refine shM_step rfl rfl rfl (by rfl) (by rfl) ?_
          apply Exists.intro
          refine ⟨fun z0 K hK => ?_, ?_, ?_⟩
          · go_big_quiet_op
            exact hK _ rfl
          · kernel_rfl
          refine shM_step rfl rfl rfl (by rfl) (by rfl) ?_
          apply Exists.intro
          refine ⟨fun z0 K hK => ?_, ?_, ?_⟩
          · go_big_quiet_op
            exact hK _ rfl
          · kernel_rfl
          refine shM_step rfl rfl rfl (by rfl) (by rfl) ?_
          apply Exists.intro
          refine ⟨fun z0 K hK => ?_, ?_, ?_⟩
          · go_big_quiet_op
            exact hK _ rfl
          · kernel_rfl
          refine shM_step rfl rfl rfl (by rfl) (by rfl) ?_
          apply Exists.intro
          refine ⟨fun z0 K hK => ?_, ?_, ?_⟩
          · go_big_quiet_op
            exact hK _ rfl
          · kernel_rfl
          refine shM_step rfl rfl rfl (by rfl) (by rfl) ?_
          apply Exists.intro
          refine ⟨fun z0 K hK => ?_, ?_, ?_⟩
          · go_big_quiet_op
            exact hK _ rfl
          · kernel_rfl
          refine shM_step rfl rfl rfl (by rfl) (by rfl) ?_
          apply Exists.intro
          refine ⟨fun z0 K hK => ?_, ?_, ?_⟩
          · go_big_quiet_op
            exact hK _ rfl
          · kernel_rfl
          refine shM_step rfl rfl rfl (by rfl) (by rfl) ?_
          apply Exists.intro
          refine ⟨fun z0 K hK => ?_, ?_, ?_⟩
          · have q1 : ∀ y : KW z0.w, (convert 26 9 (.slice (if c5 = E then some (⟨g, 0, none⟩ : Addr) else some ⟨g, E, none⟩) bs.length (c5 - E))).run Tryz.prog y.w = .ok (.string S1) y.w := fun y => by have := V.conv_rd (c := (c5 - E)) (rd_n hrt (keepN z0.has y.keep)); rw [HPL.out, HS1.out] at this; exact this
            go_big_quiet_op
            exact hK _ rfl
          · kernel_rfl
          refine shM_step rfl rfl rfl (by rfl) (by rfl) ?_
          apply Exists.intro
          refine ⟨fun z0 K hK => ?_, ?_, ?_⟩
          · go_big_quiet_op
            exact hK _ rfl
          · kernel_rfl
          refine shM_step rfl rfl rfl (by rfl) (by rfl) ?_
          apply Exists.intro
          refine ⟨fun z0 K hK => ?_, ?_, ?_⟩
          · have q2 : ∀ y : KW z0.w, (convert 26 9 (.slice A2 bs.length c2)).run Tryz.prog y.w = .ok (.string S2) y.w := fun y => by have := V.conv_rd (c := c2) (rd_n hrb (keepN z0.has y.keep)); rw [HS2.out] at this; exact this
            go_big_quiet_op
            exact hK _ rfl
          · kernel_rfl
          refine shM_step rfl rfl rfl (by rfl) (by rfl) ?_
          apply Exists.intro
          refine ⟨fun z0 K hK => ?_, ?_, ?_⟩
          · go_big_quiet_op
            exact hK _ rfl
          · kernel_rfl
          refine shM_step rfl rfl rfl (by rfl) (by rfl) ?_
          apply Exists.intro
          refine ⟨fun z0 K hK => ?_, ?_, ?_⟩
          · go_big_quiet_op
            exact hK _ rfl
          · kernel_rfl
          refine shM_step rfl rfl rfl (by rfl) (by rfl) ?_
          apply Exists.intro
          refine ⟨fun z0 K hK => ?_, ?_, ?_⟩
          · go_big_quiet_op
            exact hK _ rfl
          · kernel_rfl
          refine shM_nil (fun y0 => ?_)
          have hy := y0.has
          generalize y0.w = w6 at hy ⊢
          clear hrt
          generalize (if c5 = E then some (⟨g, 0, none⟩ : Addr) else some ⟨g, E, none⟩) = AE
          have hEQ : (S1.toList == S2.toList) = clean bs k := by
            rw [← HS1.out, ← HS2.out, str_beq, Bool.eq_iff_iff, decide_eq_true_iff]
            exact HPC.out
          have hK6 := keep_nb (keep_nb (keep_nb hK3 hK) k5) hy
          have h6 := ((h3.keep hK (fun _ _ => id)).keep k5 (fun _ _ => id)).keep hy (fun _ _ => id)
          have hO6 := (HO.out.keepN k5).keepN hy
          have hs3 := hK3.size
          generalize (S1.toList == S2.toList) = eqb at hEQ ⊢
          clear hrb HS1 HS2 HHL hwE
          go_wp2
          go_ret2
          subst hEQ
          refine ⟨D, k, d, _, ?_, fun y hy => ?_, h6, hK6⟩
          · cases hc : clean bs k
            · rw [HD.out.2 hc]; rfl
            · rw [HD.out.1 hc]; rfl
          · cases hc : clean bs k
            · rw [HD.out.2 hc] at hy; cases hy
            · rw [HD.out.1 hc] at hy
              injection hy with hy
              subst hy
              exact ⟨(unp_length bs k).symm, rfl, hO6.mono (fun j hj _ => by unfold Fresh at hj ⊢; omega)⟩
  · have HD := Lib.hid (rdT_1 hN hr)
    have hr3 : ((r : Int) != 0) = true := by rw [bne_iff_ne]; omega
    clear hN0 hN1 hN hr
    go_enter Tryz.func89, Tryz.ntmps89
    go_wp2_with fail
    refine HS.out.mono ?_
    rintro e w1 ⟨rfl, h1, k1⟩
    go_wp2
    go_ret2
    exact rdr_none HD.out h1 k1

end Go.Proofs.YtgifflfjhockaaaGreatDoor.S
