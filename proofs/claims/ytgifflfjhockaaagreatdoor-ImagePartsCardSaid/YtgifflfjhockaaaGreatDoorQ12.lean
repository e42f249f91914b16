/-
  What Encode of layer image answers: an image's bytes. Conditions: the image's lists lie in memory, each below 2^47.
  What the rows of opcode share: the condition on the listed package-level variables, opened; an instruction as an argument. No conditions.
  An argument that is a list of instructions, opened: an address from which its cells stand; its numbers fit. No conditions.
  What Decode of layer image answers: bytes' image, or what is wrong. Conditions: the bytes lie in memory, no more than 2^30.
  What the laws' own one and alive answer. No conditions.
  ImageSums' walk: the sum of bytes hangs on no parting; one byte changed, it is another one; all noughts, it tells how many there are. Conditions: the bytes lie in memory.
  ImageTurned's walk: an image's bytes of which one was changed, or that were cut, or with one more behind, are no image's. Conditions: the image's lists lie in memory, each below 2^47.
  Are two functions the same: the program's Same and the document's. Conditions: the functions' lists lie in memory, and are no longer than statements go through.
  Are two images the same: the program's Same, by EqualFunc over shapes and over functions, and the document's. Conditions: the images' lists lie in memory, and are no greater than statements go through.
  ImageBack's walk: an image is read from its bytes as it was; what is read of any bytes has just these. Conditions: the image's lists, and the bytes, lie in memory, each list below 2^47.
  A region that draws its order, whose last operations, from number m on, stand behind all that are ahead of them: the first ones are taken by what each of their values is, whatever the order (as in KProps5), the last ones in their order. No program, no conditions.
  A region that draws its order, in a round of a range over a function, by what each of its values is, as in KProps6. No program, no conditions.
-/
import Derived.ChangeSame
import Derived.Deep.Fields
import Derived.Deep.OwnRows
import Derived.Deep.Slices
import Derived.Deep.Strs
import Derived.LaidLaws
import Derived.LaidMore
import Derived.Lib.LaidTab
import Derived.Lib.SlBytesConst
import Derived.Lib.SmallJoins
import Derived.OpenShut
import Derived.OrdersIn
import Derived.ProofKit
import Derived.RangeFuncCalls
import Derived.RangeFuncNested
import Derived.SizedLaws
import Derived.Stop.LaidErr
import Derived.Test.YtgifflfjhockaaaGreatDoorQ10
import Derived.Test.YtgifflfjhockaaaGreatDoorQ11
import Derived.Test.YtgifflfjhockaaaGreatDoorQ5
import Derived.Test.YtgifflfjhockaaaGreatDoorRows
import Derived.Test.YtgifflfjhockaaaGreatDoorQ9
import Derived.Test.YtgifflfjhockaaaGreatDoorQ8
import Derived.Test.YtgifflfjhockaaaGreatDoorQ3
namespace Go.Proofs.YtgifflfjhockaaaGreatDoor.I
open Go.RowKit W

theorem wrBS_eq {es : List SE} {n : Nat} (h : es.length = n) : wrBS n es = shB (es.map fun e => e.2) := by
  unfold wrBS shB; rw [List.length_map, h, List.flatMap_map]
theorem wrBF_eq {fs : List FE} {n : Nat} (h : fs.length = n) : wrBF n fs = fnB (fs.map fun e => e.2) := by
  unfold wrBF fnB; rw [List.length_map, h, List.flatMap_map]
theorem bytesF_le {f : F.Fu} (h : F.okF f = true) : (F.bytesF f).length ≤ 14000 := by
  obtain ⟨h1, h2, h3, h4, h5⟩ := (F.okF_iff f).1 h
  have n0 := V.encL_len f.nm.length
  have n1 := ((F.okN_iff _).1 h1).1
  have g1 := ((S.okG_iff _ _).1 h2).1
  have a1 := S.bytesT_len f.ar (by omega)
  have a2 := S.bytesT_len f.rs (by omega)
  have a3 := S.bytesT_len f.lc (by omega)
  have a4 := S.bytesT_len [] (by simp)
  have a5 := F.bytesB_len h4
  unfold F.bytesF S.bytesG
  simp only [List.length_append]; omega
theorem bytesT_le {l : List Int} (h : S.okS l = true) : (S.bytesT l).length ≤ 14000 := by
  have := ((S.okS_iff l).1 h).1
  have := S.bytesT_len l (by omega)
  omega
theorem okI_get {es : List SE} {fs : List FE} (h : okI (imOf es fs) = true) : es.length ≤ 64 ∧ fs.length ≤ 64 ∧ (∀ e ∈ es, S.okS e.2 = true) ∧ ∀ e ∈ fs, F.okF e.2 = true := by
  obtain ⟨⟨h1, ⟨_, h2⟩, _⟩, h3, h4⟩ := (okI_iff _).1 h
  refine ⟨by simpa [imOf] using h1, by simpa [imOf] using h2, fun e he => List.all_eq_true.1 h3 _ ?_, fun e he => List.all_eq_true.1 h4 _ ?_⟩
  · exact List.mem_map.2 ⟨e, he, rfl⟩
  · exact List.mem_map.2 ⟨e, he, rfl⟩
theorem inI_len {es : List SE} {fs : List FE} (h : okI (imOf es fs) = true) : (bodyI (imOf es fs)).length ≤ 3000000 := by
  obtain ⟨h1, h2, h3, h4⟩ := okI_get h
  have a1 := wrBS_len (n := es.length) (l := es) (fun e he => by have := bytesT_le (h3 e he); omega)
  have a2 : (wrBF fs.length fs).length ≤ 9 + 20000 * fs.length := wrBF_len (fun e he => by have := bytesF_le (h4 e he); omega)
  have e : bodyI (imOf es fs) = magicL ++ (wrBS es.length es ++ wrBF fs.length fs) := by
    rw [wrBS_eq rfl, wrBF_eq rfl]; rfl
  have b2 : (wrBF fs.length fs).length ≤ 9 + 20000 * 64 := by omega
  rw [e, List.length_append, List.length_append]
  have : magicL.length = 5 := rfl
  omega
/-- A slice of bytes that reads as a list. -/
def PtV (l : List UInt8) (u : Value) (w : World) : Prop := ∃ A c, u = .slice A l.length c ∧ V.Rd w A l
theorem PtV.keepN {l : List UInt8} {u : Value} {w w' : World} (h : PtV l u w) (hk : Keep NoB w w') : PtV l u w' := by
  obtain ⟨A, c, e, h⟩ := h
  exact ⟨A, c, e, h.keep hk (fun _ _ _ => id)⟩
theorem PtV.rd {l : List UInt8} {A : Option Addr} {n c : Nat} {w : World} (h : PtV l (.slice A n c) w) : V.Rd w A l := by
  obtain ⟨A', c', e, h⟩ := h
  injection e with e1 e2 e3
  subst e1; exact h
theorem OwnB.ptV {w : World} {O : Nat → Prop} {v : Value} {l : List UInt8} (h : V.OwnB w O v l) : PtV l v w := by
  obtain ⟨A, c, e, _, hr, _, _⟩ := h.form
  exact ⟨A, c, e, hr⟩
theorem rd_three {w : World} {g : Nat} {u0 u1 u2 : Value} (h : Blk w g 26 #[u0, u1, u2]) : Rd w (some ⟨g, 0, none⟩) [u0, u1, u2] := fun _ => ⟨g, 0, rfl, fun j u hu => by
  rw [Nat.zero_add, h.cell j]; simpa using hu⟩
theorem rd_two {w : World} {g : Nat} {u0 u1 : Value} (h : Blk w g 26 #[u0, u1]) : Rd w (some ⟨g, 0, none⟩) [u0, u1] := fun _ => ⟨g, 0, rfl, fun j u hu => by
  rw [Nat.zero_add, h.cell j]; simpa using hu⟩
theorem rd_single {w : World} {g : Nat} {u0 : Value} (h : Blk w g 26 #[u0]) : Rd w (some ⟨g, 0, none⟩) [u0] := fun _ => ⟨g, 0, rfl, fun j u hu => by
  rw [Nat.zero_add, h.cell j]; simpa using hu⟩
/-- One block of bytes gets the run-time's mark. -/
structure MarkK (w w' : World) : Prop where
  os : w'.os = w.os
  tape : w'.tape = w.tape
  output : w'.output = w.output
  size : w'.heap.size = w.heap.size
  block : ∀ k : Nat, w'.heap[k]? = w.heap[k]? ∨ ∃ (cs : Array Value) (t : TypeId) (f f' : Nat × Nat), w.heap[k]? = some (Obj.cells cs t f) ∧ w'.heap[k]? = some (Obj.cells cs t f')
theorem MarkK.cell {w w' : World} (h : MarkK w w') {p : Addr} {v : Value} (hc : w.cell? p = some v) : w'.cell? p = some v := by
  rcases h.block p.block with hb | ⟨cs, t, f, f', h1, h2⟩
  · exact (World.cell?_of_block hb).trans hc
  · unfold World.cell? at hc ⊢
    rw [h1] at hc
    rw [h2]
    exact hc
theorem PtV.mark {l : List UInt8} {u : Value} {w w' : World} (h : PtV l u w) (hk : MarkK w w') : PtV l u w' := by
  obtain ⟨A, c, e, h⟩ := h
  refine ⟨A, c, e, fun h0 => ?_⟩
  obtain ⟨ad, ea, hc⟩ := h h0
  exact ⟨ad, ea, fun j u hu => hk.cell (hc j u hu)⟩
theorem freeze_mark {w : World} {g k : Nat} {cs : Array Value} {t : TypeId} {f : Nat × Nat} (h : w.heap[g]? = some (.cells cs t f)) : MarkK w (w.freeze ⟨g, k, none⟩ 1) ∧ ∀ j, j ≠ g → (w.freeze ⟨g, k, none⟩ 1).heap[j]? = w.heap[j]? := by
  unfold World.freeze
  rw [if_neg (by decide)]
  obtain ⟨lo, hi⟩ := f
  have hj : ∀ (F : Obj → Obj) (j : Nat), j ≠ g → (w.heap.modify g F)[j]? = w.heap[j]? := fun F j hne => by rw [Array.getElem?_modify, if_neg (Ne.symm hne)]
  refine ⟨⟨rfl, rfl, rfl, by simp, fun j => ?_⟩, fun j hne => hj _ j hne⟩
  by_cases e : j = g
  · subst e
    refine .inr ⟨cs, t, (lo, hi), (if lo == hi then (k, k + 1) else (min lo k, max hi (k + 1))), h, ?_⟩
    simp only [Array.getElem?_modify, if_true, h, Option.map_some]
  · exact .inl (hj _ j e)
theorem run_mark {w : World} {g n c : Nat} {cs : Array Value} {f : Nat × Nat} (h : w.heap[g]? = some (.cells cs 5 f)) : (convert 26 26 (.slice (some ⟨g, 0, none⟩) n c)).run Tryz.prog w = .ok (.slice (some ⟨g, 0, none⟩) n c) (w.freeze ⟨g, cs.size, none⟩ 1) := by
  have hsh : w.shape? g = some (5, cs.size) := by unfold World.shape?; rw [h]
  simp [convert, run_underlying Tryz.underlying26, run_underlying Tryz.underlying5, markStringish, hsh]
theorem keep_mark {w0 w : World} {g k : Nat} {cs : Array Value} {t : TypeId} {f : Nat × Nat} (hK : Keep NoB w0 w) (h : w.heap[g]? = some (.cells cs t f)) (hg : w0.heap.size ≤ g) : Keep NoB w0 (w.freeze ⟨g, k, none⟩ 1) := by
  obtain ⟨hm, hj⟩ := freeze_mark (k := k) h
  exact ⟨hm.os.trans hK.os, hm.tape.trans hK.tape, hm.output.trans hK.output, by rw [hm.size]; exact hK.size, fun j hl _ => (hj j (by omega)).trans (hK.block j hl id)⟩
theorem rdB_blk {w : World} {g : Nat} {l : List UInt8} {f : Nat × Nat} (h : w.heap[g]? = some (.cells (V.bvs l).toArray 5 f)) : V.Rd w (some ⟨g, 0, none⟩) l := fun _ => ⟨_, rfl, fun j u hu => by
  have ea : (⟨g, 0, none⟩ : Addr).add j = ⟨g, j, none⟩ := by unfold Addr.add; by_cases hj : j = 0 <;> simp [hj]
  rw [ea, cell_of_row w g j _ _ f h]
  simpa using hu⟩
/-- What the values are that Encode's region yields. -/
def SN (v : IV) (a b d : List UInt8) (x m m2 : Nat) : Nat → Value → World → Prop
  | 0 => fun u w => ∃ g f, u = .slice (some ⟨g, 0, none⟩) 5 5 ∧ m2 ≤ g ∧ w.heap[g]? = some (.cells (V.bvs magicL).toArray 5 f)
  | 1 => PtV a
  | 2 => fun u _ => u = .pointer (some ⟨x, 0, none⟩)
  | 3 => fun u _ => u = .slice v.X v.nx v.cx
  | 4 => fun u _ => u = partS
  | 5 => PtV b
  | 6 => fun u _ => u = .pointer (some ⟨x, 1, none⟩)
  | 7 => fun u _ => u = .slice v.Y v.ny v.cy
  | 8 => fun u _ => u = partF
  | 9 => PtV d
  | 10 => fun u w => ∃ g A1 c1 A2 c2 A3 c3, u = .slice (some ⟨g, 0, none⟩) 3 3 ∧ Blk w g 26 #[.slice A1 a.length c1, .slice A2 b.length c2, .slice A3 d.length c3] ∧ V.Rd w A1 a ∧ V.Rd w A2 b ∧ V.Rd w A3 d
  | 11 => fun u w => ∃ A c, u = .slice A (a ++ (b ++ d)).length c ∧ V.OwnB w (fun k => m ≤ k) (.slice A (a ++ (b ++ d)).length c) (a ++ (b ++ d))
  | 12 => fun u w => ∃ A c, u = .slice A (a ++ (b ++ d)).length c ∧ V.OwnB w (fun k => m ≤ k) (.slice A (a ++ (b ++ d)).length c) (a ++ (b ++ d))
  | _ => fun _ _ => True
theorem SN_stable (v : IV) (a b d : List UInt8) (x m m2 : Nat) : ∀ i u w w', SN v a b d x m m2 i u w → Keep NoB w w' → SN v a b d x m m2 i u w'
  | 0, _, _, _, ⟨g, f, e, h0, h⟩, hk => ⟨g, f, e, h0, (hk.block g (Array.getElem?_eq_some_iff.1 h).1 id).trans h⟩
  | 1, _, _, _, h, hk => PtV.keepN h hk
  | 2, _, _, _, h, _ => h
  | 3, _, _, _, h, _ => h
  | 4, _, _, _, h, _ => h
  | 5, _, _, _, h, hk => PtV.keepN h hk
  | 6, _, _, _, h, _ => h
  | 7, _, _, _, h, _ => h
  | 8, _, _, _, h, _ => h
  | 9, _, _, _, h, hk => PtV.keepN h hk
  | 10, _, _, _, ⟨g, A1, c1, A2, c2, A3, c3, e, hb, r1, r2, r3⟩, hk => ⟨g, A1, c1, A2, c2, A3, c3, e, hb.keep hk id, r1.keep hk (fun _ _ _ => id), r2.keep hk (fun _ _ _ => id), r3.keep hk (fun _ _ _ => id)⟩
  | 11, _, _, _, ⟨A, c, e, h⟩, hk => ⟨A, c, e, h.keep hk (fun _ _ => id)⟩
  | 12, _, _, _, ⟨A, c, e, h⟩, hk => ⟨A, c, e, h.keep hk (fun _ _ => id)⟩
  | _ + 13, _, _, _, h, _ => h

theorem SN_mark (v : IV) (a b d : List UInt8) (x m m2 : Nat) (i : Nat) (u : Value) (w w' : World) (hi : i < 10) (h : SN v a b d x m m2 i u w) (hk : MarkK w w') : SN v a b d x m m2 i u w' := by
  obtain rfl | rfl | rfl | rfl | rfl | rfl | rfl | rfl | rfl | rfl : i = 0 ∨ i = 1 ∨ i = 2 ∨ i = 3 ∨ i = 4 ∨ i = 5 ∨ i = 6 ∨ i = 7 ∨ i = 8 ∨ i = 9 := by omega
  · obtain ⟨g, f, e, h0, h⟩ := h
    rcases hk.block g with hb | ⟨cs, t, f1, f2, h1, h2⟩
    · exact ⟨g, f, e, h0, hb.trans h⟩
    · rw [h1] at h
      cases h
      exact ⟨g, f2, e, h0, h2⟩
  · exact PtV.mark h hk
  · exact h
  · exact h
  · exact h
  · exact PtV.mark h hk
  · exact h
  · exact h
  · exact h
  · exact PtV.mark h hk

theorem smF_ok {W : World} {v : F.FV} {f : F.Fu} (hn : F.FnAt W v f) (hf : F.okF f = true) : F.SmF v := by
  obtain ⟨h1, h2, _, h4, h5⟩ := (F.okF_iff f).1 hf
  have h6 := ((F.okN_iff _).1 h1).1
  have h7 := (C.okB_parts h4).2.1
  have e0 := F.sz_len hn.nm
  have := hn.la
  have := hn.lb
  have := hn.ll
  have := hn.ld
  exact ⟨by omega, by omega, by omega, by omega, by omega⟩
set_option maxRecDepth 100000 in
set_option maxHeartbeats 8000000 in
theorem encode_any (v : IV) (es : List SE) (fs : List FE) (w : World) (h : ImAt w v es fs) (hl : LgI v es fs) :
    Calls Tryz.prog 13 #[v.val] w (S.EncR w (encI (imOf es fs)) (chkI (imOf es fs))) := by
  have bx := Blk.new w 25 v.cells
  have k0 := (Keep.refl NoB w).alloc (.cells v.cells 25)
  have HC := Lib.hid (fun W (hk : Keep NoB w W) => check_any v es fs W (h.keepN hk) hl _ rfl)
  obtain ⟨q0, q1⟩ := blk2 bx
  cases ho : okI (imOf es fs)
  · rw [encI_no ho, chkI_no ho]
    rw [chkI_no ho] at HC
    clear h hl bx ho
    obtain ⟨X, nx, cx, Y, ny, cy⟩ := v
    dsimp only [IV.val, IV.cells] at *
    go_enter Tryz.func13, Tryz.ntmps13
    go_wp2_with fail
    refine (HC.out _ k0).mono ?_
    rintro e w1 ⟨rfl, k1⟩
    go_wp2
    go_ret2
    exact ⟨_, rfl, V.OwnB.nil _ _, keepN k0 k1⟩
  · rw [encI_ok ho, chkI_ok ho]
    rw [chkI_ok ho] at HC
    obtain ⟨g1, g2, g3, g4⟩ := okI_get ho
    have hlx := h.lx
    have hly := h.ly
    have HS := Lib.hid (fun W (hk : Keep NoB w W) => writeS_any v.X es v.nx v.cx W (fun W' hk' => (h.keepN (keepN hk hk')).rx) hlx (by omega) (fun e he => by have := bytesT_le (g3 e he); omega) (fun e he W' hk' => by
      have := S.encodeS_any e.1.A e.2 e.1.n e.1.c W' ((h.keepN (keepN hk hk')).hs e he).1 (h.hs e he).2 (by have := hl.sh e he; omega)
      rw [S.encS_ok (g3 e he), S.chkS_ok (g3 e he)] at this
      exact this))
    have HF := Lib.hid (fun W (hk : Keep NoB w W) => writeF_any v.Y fs v.ny v.cy W (fun W' hk' => (h.keepN (keepN hk hk')).ry) hly (by omega) (fun e he => by have := bytesF_le (g4 e he); omega) (fun e he W' hk' => by
      have hs : F.SmF e.1 := smF_ok (h.hf e he) (g4 e he)
      have := F.encodeF_any e.1 e.2 W' ((h.keepN (keepN hk hk')).hf e he) hs
      rw [F.encF_ok (g4 e he), F.chkF_ok (g4 e he)] at this
      exact this))
    have hbody : Hid (magicL ++ (wrBS v.nx es ++ wrBF v.ny fs) = bodyI (imOf es fs)) := by show _ = _; rw [wrBS_eq hlx, wrBF_eq hly]; rfl
    have hlen : (magicL ++ (wrBS v.nx es ++ wrBF v.ny fs)).length ≤ 3000000 := by rw [hbody.out]; exact inI_len ho
    have hb1 : bytesI (imOf es fs) = (magicL ++ (wrBS v.nx es ++ wrBF v.ny fs)) ++ four (sumN (magicL ++ (wrBS v.nx es ++ wrBF v.ny fs))) := by rw [hbody.out]; rfl
    rw [hb1]
    clear h hl ho g1 g2 g3 g4 hlx hly hb1 hbody
    generalize wrBS v.nx es = bS at *
    generalize wrBF v.ny fs = bF at *
    have HX := Lib.hid bx
    obtain ⟨X, nx, cx, Y, ny, cy⟩ := v
    dsimp only [IV.val, IV.cells] at *
    generalize hw1 : w.alloc (.cells #[.slice X nx cx, .slice Y ny cy] 25) = w1 at k0 q0 q1 HX
    go_enter Tryz.func13, Tryz.ntmps13
    go_wp2_with fail
    refine (HC.out _ k0).mono ?_
    rintro e w2 ⟨rfl, k2⟩
    replace q0 := k2.cell q0 id
    replace q1 := k2.cell q1 id
    have gK0 := keepN k0 k2
    clear HX k0 k2 hw1 bx HC
    go_wp2_with fail
    refine wp_region_props7 (fun i => [8, 9, 10, 11, 12, 13, 14, 15, 16, 17, 18, 19, 4].getD i 0) 1 (MarkK) (fun i => decide (10 ≤ i)) (by kernel_rfl) (by kernel_rfl) (by kernel_rfl) (SN ⟨X, nx, cx, Y, ny, cy⟩ magicL bS bF w.heap.size w.heap.size w2.heap.size) (fun i u x y _ hl _ h hk => SN_mark _ _ _ _ _ _ _ i u x y (by simpa using hl) h hk) (fun i u x y _ h hk => SN_stable _ _ _ _ _ _ _ i u x y h hk) rfl ?step ?spec ?fin
    case step =>
      intro i o a w' hoo hic hF hK hA
      have hi : i < 13 := by simpa using (Array.getElem?_eq_some_iff.1 hoo).1
      by_cases h0 : i = 0
      · subst h0
        simp only [List.getElem?_toArray, List.getElem?_cons_zero, Option.some.injEq] at hoo
        subst hoo
        refine Does.plain rfl ?_
        unfold yieldsK
        go_simp
        exact ⟨⟨w'.heap.size, (0, 0), rfl, hK.size, heap_alloc_new w' _⟩, (Keep.refl _ _).alloc _⟩
      by_cases h2 : i = 2
      · subst h2
        simp only [List.getElem?_toArray, List.getElem?_cons_zero, List.getElem?_cons_succ, Option.some.injEq] at hoo
        subst hoo
        have e1 : a.tmps.getD 1 undef = .pointer (some ⟨w.heap.size, 0, none⟩) := hF.2.2 1 (by decide)
        refine Does.plain rfl ?_
        unfold yieldsK
        go_simp
        exact ⟨rfl, Keep.refl _ _⟩
      by_cases h3 : i = 3
      · subst h3
        simp only [List.getElem?_toArray, List.getElem?_cons_zero, List.getElem?_cons_succ, Option.some.injEq] at hoo
        subst hoo
        have e10 : a.tmps.getD 10 undef = .pointer (some ⟨w.heap.size, 0, none⟩) := hA ⟨2, .data⟩ (by simp) rfl
        have c0 := Keep.cell hK q0 id
        refine Does.plain rfl ?_
        unfold yieldsK
        go_simp
        exact ⟨rfl, Keep.refl _ _⟩
      by_cases h4 : i = 4
      · subst h4
        simp only [List.getElem?_toArray, List.getElem?_cons_zero, List.getElem?_cons_succ, Option.some.injEq] at hoo
        subst hoo
        refine Does.plain rfl ?_
        unfold yieldsK
        go_simp
        refine (partsS_any w').mono ?_
        rintro e w3 ⟨rfl, h3⟩
        exact ⟨_, rfl, rfl, h3⟩
      by_cases h5 : i = 5
      · subst h5
        simp only [List.getElem?_toArray, List.getElem?_cons_zero, List.getElem?_cons_succ, Option.some.injEq] at hoo
        subst hoo
        have e11 : a.tmps.getD 11 undef = .slice X nx cx := hA ⟨3, .data⟩ (by simp) rfl
        have e12 : a.tmps.getD 12 undef = partS := hA ⟨4, .data⟩ (by simp) rfl
        refine Does.plain rfl ?_
        unfold yieldsK
        go_simp
        refine (HS.out w' (keepN gK0 hK)).mono ?_
        rintro e w3 ⟨u, rfl, h2, h3⟩
        exact ⟨_, rfl, OwnB.ptV h2, h3⟩
      by_cases h6 : i = 6
      · subst h6
        simp only [List.getElem?_toArray, List.getElem?_cons_zero, List.getElem?_cons_succ, Option.some.injEq] at hoo
        subst hoo
        have e1 : a.tmps.getD 1 undef = .pointer (some ⟨w.heap.size, 0, none⟩) := hF.2.2 1 (by decide)
        refine Does.plain rfl ?_
        unfold yieldsK
        go_simp
        exact ⟨rfl, Keep.refl _ _⟩
      by_cases h7 : i = 7
      · subst h7
        simp only [List.getElem?_toArray, List.getElem?_cons_zero, List.getElem?_cons_succ, Option.some.injEq] at hoo
        subst hoo
        have e14 : a.tmps.getD 14 undef = .pointer (some ⟨w.heap.size, 1, none⟩) := hA ⟨6, .data⟩ (by simp) rfl
        have c0 := Keep.cell hK q1 id
        refine Does.plain rfl ?_
        unfold yieldsK
        go_simp
        exact ⟨rfl, Keep.refl _ _⟩
      by_cases h8 : i = 8
      · subst h8
        simp only [List.getElem?_toArray, List.getElem?_cons_zero, List.getElem?_cons_succ, Option.some.injEq] at hoo
        subst hoo
        refine Does.plain rfl ?_
        unfold yieldsK
        go_simp
        refine (partsF_any w').mono ?_
        rintro e w3 ⟨rfl, h3⟩
        exact ⟨_, rfl, rfl, h3⟩
      by_cases h9 : i = 9
      · subst h9
        simp only [List.getElem?_toArray, List.getElem?_cons_zero, List.getElem?_cons_succ, Option.some.injEq] at hoo
        subst hoo
        have e15 : a.tmps.getD 15 undef = .slice Y ny cy := hA ⟨7, .data⟩ (by simp) rfl
        have e16 : a.tmps.getD 16 undef = partF := hA ⟨8, .data⟩ (by simp) rfl
        refine Does.plain rfl ?_
        unfold yieldsK
        go_simp
        refine (HF.out w' (keepN gK0 hK)).mono ?_
        rintro e w3 ⟨u, rfl, h2, h3⟩
        exact ⟨_, rfl, OwnB.ptV h2, h3⟩
      by_cases h10 : i = 10
      · subst h10
        simp only [List.getElem?_toArray, List.getElem?_cons_zero, List.getElem?_cons_succ, Option.some.injEq] at hoo
        subst hoo
        obtain ⟨A9, c9, e9, h9⟩ := hA ⟨1, .data⟩ (by simp) rfl
        have e9 : a.tmps.getD 9 undef = .slice A9 magicL.length c9 := e9
        obtain ⟨A13, c13, e13, h13⟩ := hA ⟨5, .data⟩ (by simp) rfl
        have e13 : a.tmps.getD 13 undef = .slice A13 bS.length c13 := e13
        obtain ⟨A17, c17, e17, h17⟩ := hA ⟨9, .data⟩ (by simp) rfl
        have e17 : a.tmps.getD 17 undef = .slice A17 bF.length c17 := e17
        refine Does.plain rfl ?_
        unfold yieldsK
        simp only [Array.getD_eq_getD_getElem?] at e9 e13 e17
        go_simp
        exact ⟨⟨w'.heap.size, A9, c9, A13, c13, A17, c17, rfl, Blk.new _ _ _, h9.keep ((Keep.refl NoB _).alloc _) (fun _ _ _ => id), h13.keep ((Keep.refl NoB _).alloc _) (fun _ _ _ => id), h17.keep ((Keep.refl NoB _).alloc _) (fun _ _ _ => id)⟩, (Keep.refl _ _).alloc _⟩
      by_cases h11 : i = 11
      · subst h11
        simp only [List.getElem?_toArray, List.getElem?_cons_zero, List.getElem?_cons_succ, Option.some.injEq] at hoo
        subst hoo
        obtain ⟨g, A1, c1, A2, c2, A3, c3, e18, hb, r1, r2, r3⟩ := hA ⟨10, .data⟩ (by simp) rfl
        have e18 : a.tmps.getD 18 undef = .slice (some ⟨g, 0, none⟩) 3 3 := e18
        refine Does.plain rfl ?_
        unfold yieldsK
        go_simp
        refine (concat_any (some ⟨g, 0, none⟩) [(⟨A1, magicL.length, c1⟩, magicL), (⟨A2, bS.length, c2⟩, bS), (⟨A3, bF.length, c3⟩, bF)] 3 3 w' (fun W hk => rd_three (hb.keep hk id)) rfl (fun e he W hk => by
          simp only [List.mem_cons, List.not_mem_nil, or_false] at he
          rcases he with rfl | rfl | rfl
          · exact ⟨r1.keep hk (fun _ _ _ => id), rfl⟩
          · exact ⟨r2.keep hk (fun _ _ _ => id), rfl⟩
          · exact ⟨r3.keep hk (fun _ _ _ => id), rfl⟩) (by omega) (by simp only [allB, List.flatMap_cons, List.flatMap_nil, List.append_nil]; omega) (by simp only [allB, List.flatMap_cons, List.length_append]; have : magicL.length = 5 := rfl; omega)).mono ?_
        rintro e w3 ⟨u, rfl, h2, h3⟩
        have e4 : allB [(⟨A1, magicL.length, c1⟩, magicL), (⟨A2, bS.length, c2⟩, bS), (⟨A3, bF.length, c3⟩, bF)] = magicL ++ (bS ++ bF) := by simp [allB]
        rw [e4] at h2
        obtain ⟨A9, c9, rfl, _, _, _, _⟩ := h2.form
        exact ⟨_, rfl, ⟨A9, c9, rfl, h2.mono (fun k (hk : Fresh w' k) _ => (Nat.le_trans (keepN gK0 hK).size hk : w.heap.size ≤ k))⟩, h3⟩
      by_cases h12 : i = 12
      · subst h12
        simp only [List.getElem?_toArray, List.getElem?_cons_zero, List.getElem?_cons_succ, Option.some.injEq] at hoo
        subst hoo
        obtain ⟨A19, c19, e19, h19⟩ := hA ⟨11, .data⟩ (by simp) rfl
        have e19 : a.tmps.getD 19 undef = .slice A19 (magicL ++ (bS ++ bF)).length c19 := e19
        refine Does.plain rfl ?_
        unfold yieldsK
        simp only [Array.getD_eq_getD_getElem?] at e19
        go_simp
        exact ⟨⟨A19, c19, by simp [List.length_append], h19⟩, Keep.refl _ _⟩
      omega
    case spec =>
      intro o a w' hoo hF hK hA
      simp only [List.getElem?_toArray, List.getElem?_cons_zero, List.getElem?_cons_succ, Option.some.injEq] at hoo
      subst hoo
      obtain ⟨g8, f8, e8, hg8, h8⟩ := hA ⟨0, .data⟩ (by simp) rfl
      have e8 : a.tmps.getD 8 undef = .slice (some ⟨g8, 0, none⟩) 5 5 := e8
      have hcv := run_mark (n := 5) (c := 5) h8
      have HM := Lib.hid (freeze_mark (k := magicL.length) h8).1
      have HKM := Lib.hid (keep_mark (k := magicL.length) hK h8 hg8)
      refine Does.plain rfl ?_
      unfold yieldsK
      simp only [Array.getD_eq_getD_getElem?] at e8
      go_simp
      exact ⟨(PtV.mark ⟨some ⟨g8, 0, none⟩, 5, rfl, rdB_blk h8⟩ HM.out : PtV magicL (.slice (some ⟨g8, 0, none⟩) 5 5) _), HM.out, HKM.out⟩
    case fin =>
      intro a w' hF gK hA
      obtain ⟨A4, c4, e4, h4⟩ := hA 12 (by decide)
      have e4 : a.tmps.getD 4 undef = .slice A4 (magicL ++ (bS ++ bF)).length c4 := e4
      have ha := frameD_list (l := [8, 9, 10, 11, 12, 13, 14, 15, 16, 17, 18, 19, 4]) rfl hF
      rw [ha]
      simp only [List.map_cons, List.map_nil, e4]
      generalize a.tmps.getD 8 undef = u0
      generalize a.tmps.getD 9 undef = u1
      generalize a.tmps.getD 10 undef = u2
      generalize a.tmps.getD 11 undef = u3
      generalize a.tmps.getD 12 undef = u4
      generalize a.tmps.getD 13 undef = u5
      generalize a.tmps.getD 14 undef = u6
      generalize a.tmps.getD 15 undef = u7
      generalize a.tmps.getD 16 undef = u8
      generalize a.tmps.getD 17 undef = u9
      generalize a.tmps.getD 18 undef = u10
      generalize a.tmps.getD 19 undef = u11
      simp only [fillD, List.setIfInBounds_toArray, List.set_cons_zero, List.set_cons_succ]
      have gK1 := keepN gK0 gK
      have h4' : V.OwnB w' (Fresh w) (.slice A4 (magicL ++ (bS ++ bF)).length c4) (magicL ++ (bS ++ bF)) := h4
      have hf4 : V.Rd w' A4 (magicL ++ (bS ++ bF)) := by
        obtain ⟨A', c', e, _, hr, _, _⟩ := h4'.form
        injection e with e1 e2 e3; subst e1; exact hr
      clear hA hF ha gK HS HF q0 q1 gK0 h4
      generalize magicL ++ (bS ++ bF) = body at *
      have kA := (Keep.refl NoB w').alloc (.cells #[.slice A4 body.length c4] 26)
      have HL := Lib.hid (seal_any (some ⟨w'.heap.size, 0, none⟩) [(⟨A4, body.length, c4⟩, body)] 1 1 (w'.alloc (.cells #[.slice A4 body.length c4] 26)) (rd_single (Blk.new _ _ _)) rfl (fun e he => by
        simp only [List.mem_cons, List.not_mem_nil, or_false] at he
        subst he
        exact ⟨hf4.keep kA (fun _ _ _ => id), rfl⟩) (by omega) (fun e he => by
        simp only [List.mem_cons, List.not_mem_nil, or_false] at he
        subst he
        show body.length ≤ _; omega))
      have e5 : allB [(⟨A4, body.length, c4⟩, body)] = body := by simp [allB]
      rw [e5] at HL
      have hO1 := O.own_keep h4' kA
      have hK1 := keepN gK1 kA
      clear e5 hf4 h4'
      go_wp2_with fail
      refine HL.out.mono ?_
      rintro e w3 ⟨u3, rfl, h3, k3⟩
      obtain ⟨A9, cp9, rfl, _, hr9, _, _⟩ := h3.form
      have hO2 := O.own_keep hO1 k3
      have hK2 := keepN hK1 k3
      have hle : body.length + (four (sumN body)).length ≤ 140737488355328 := by rw [four_length]; omega
      clear h3 k3 hO1 hK1 kA HL
      generalize four (sumN body) = fr at *
      go_wp2_with (at_builtin; refine V.wpList_append_rd _ rfl _ _ rfl _ body fr A9 cp9 rfl hO2.1 rfl hr9 hle ?_; intro v5 w5 hown hg hat; obtain ⟨hO3, hK3⟩ := O.own_app hO2 hK2 hown hg hat; clear hown hg hat)
      go_ret2
      exact ⟨_, rfl, hO3, hK3⟩

end Go.Proofs.YtgifflfjhockaaaGreatDoor.I

namespace Go.Proofs.YtgifflfjhockaaaGreatDoor.O
open Go.ChangeShapes Go.WideShapes Go.ChangeAt Go.RowKit

theorem seatOwn : ownKnob Tryz.prog.godebug = none := by kernel_rfl
theorem seatLaidOut : laidOutB Tryz.prog = true := by kernel_rfl
theorem i64_of_wf {n : Int} (h : (Lit.int .i64 n).wf = true) : I64 n := by
  have hmin : IntKind.i64.min = -9223372036854775808 := rfl
  have hmax : IntKind.i64.max = 9223372036854775807 := rfl
  simp only [Lit.wf, Bool.and_eq_true, decide_eq_true_eq] at h
  unfold I64; omega
section
variable {H : Type} {enc : TypeId × Value → H} {w : World} {base b0 : Nat} {spare : Nat → Bool} {held : Bool} {r : Reach} {v : Value} {d : DataW H} {p : List MemPlace}
end

end Go.Proofs.YtgifflfjhockaaaGreatDoor.O

namespace Go.Proofs.YtgifflfjhockaaaGreatDoor.C
open Go.ChangeShapes Go.WideShapes Go.ChangeAt Go.RowKit Go.Deep O

theorem addr_of_cell {w : World} {a : Addr} {v : Value} (h : w.cell? a = some v) : a = ⟨a.block, a.off, none⟩ := by
  obtain ⟨b, o, s⟩ := a
  cases s with
  | none => rfl
  | some s => unfold World.cell? at h; split at h <;> simp at h
theorem add_of (b o k : Nat) : (⟨b, o, none⟩ : Addr).add k = ⟨b, o + k, none⟩ := by unfold Addr.add; by_cases hk : k = 0 <;> simp [hk]

section
variable {H : Type} {enc : TypeId × Value → H} {W : World} {base : Nat} {spare : Nat → Bool} {held : Bool} {fuel : Nat} {cs : List Value} {x : DataW H × List MemPlace}
set_option maxRecDepth 100000 in
theorem read_insts (h : DataW.trod enc Tryz.prog W base spare held fuel 59 cs = some x) : ∃ A l c, cs = [.slice A l.length c] ∧ Rd W A (iis l) ∧ l.length ≤ c ∧ c ≤ maxLen ∧ AllI l := by
  rcases open_slice Tryz.underlying59 h with ⟨hcs, _⟩ | ⟨a, len, cap, m, n, D, Pl, hcs, _, hl, hm, hmm, _, hi⟩
  · exact ⟨none, [], 0, hcs, Rd.none_ _ _, Nat.le_refl _, Nat.zero_le _, fun _ h => by simp at h⟩
  · have hlm : len ≤ m := by rw [hmm]; split <;> omega
    have cI : Tryz.prog.cellsOf 63 = 3 := by kernel_rfl
    have c3 : Tryz.prog.cellsOf 3 = 1 := by kernel_rfl
    have c2 : Tryz.prog.cellsOf 2 = 1 := by kernel_rfl
    have each : ∀ i : Nat, ∃ v : I3, i < len → W.cell? (a.add (i * 3)) = some (.int .i64 v.1) ∧ W.cell? ((a.add (i * 3)).add 1) = some (.int .i64 v.2.1) ∧ W.cell? ((a.add (i * 3)).add 2) = some (.int .i64 v.2.2) ∧ O.I64 v.2.1 ∧ O.I64 v.2.2 := by
      intro i
      by_cases hlt : i < len
      · obtain ⟨cs', hc, ht'⟩ := hi i (by omega)
        rw [cI] at hc
        obtain ⟨y0, y1, y2, k, _, hlen, h0, h1, h2⟩ := trod_struct3 Tryz.underlying63 ht'
        obtain ⟨_, hcl, hat⟩ := World.cells?_some hc
        match cs', hcl with
        | [u0, u1, u2], _ =>
          have g0 := hat 0 (by omega)
          have g1 := hat 1 (by omega)
          have g2 := hat 2 (by omega)
          obtain ⟨z0, e0, _, w0⟩ := DataW.trod_int Tryz.underlying3 h0
          obtain ⟨z1, e1, _, w1⟩ := DataW.trod_int Tryz.underlying2 h1
          obtain ⟨z2, e2, _, w2⟩ := DataW.trod_int Tryz.underlying2 h2
          simp [c3] at e0
          simp [c2] at e1
          simp [c2] at e2
          subst e0 e1 e2
          exact ⟨(z0, z1, z2), fun _ => ⟨by simpa [Addr.add] using g0, by simpa using g1, by simpa using g2, i64_of_wf w1, i64_of_wf w2⟩⟩
      · exact ⟨(0, 0, 0), fun h => absurd h hlt⟩
    obtain ⟨f, hf⟩ := Classical.axiomOfChoice each
    have hlen : ((List.range len).map f).length = len := by simp
    refine ⟨some a, (List.range len).map f, cap, by rw [hlen]; exact hcs, fun h0 => ?_, by rw [hlen]; exact hl, hm, fun v hv => ?_⟩
    · have h0' : 0 < len := by rw [iis_length, hlen] at h0; omega
      have ea := addr_of_cell (hf 0 h0').1
      have ea' : a = ⟨a.block, a.off, none⟩ := by simpa [Addr.add] using ea
      refine ⟨a.block, a.off, by rw [← ea'], fun j u hu => ?_⟩
      have hj : j < len * 3 := by have := (List.getElem?_eq_some_iff.1 hu).1; rw [iis_length, hlen] at this; exact this
      have hd : j / 3 < len := by omega
      obtain ⟨k0, k1, k2, _⟩ := hf (j / 3) hd
      obtain ⟨q0, q1, q2⟩ := iis_at ((List.range len).map f) (j / 3) (by rw [hlen]; exact hd)
      rw [ea', add_of] at k0 k1 k2
      rw [add_of] at k1 k2
      simp only [List.getElem_map, List.getElem_range] at q0 q1 q2
      have hm3 : j % 3 = 0 ∨ j % 3 = 1 ∨ j % 3 = 2 := by omega
      rcases hm3 with hr | hr | hr
      · have ej : j = j / 3 * 3 := by omega
        rw [ej, q0] at hu
        rw [ej, k0]; exact hu
      · have ej : j = j / 3 * 3 + 1 := by omega
        rw [ej, q1] at hu
        rw [ej, ← Nat.add_assoc, k1]; exact hu
      · have ej : j = j / 3 * 3 + 2 := by omega
        rw [ej, q2] at hu
        rw [ej, ← Nat.add_assoc, k2]; exact hu
    · obtain ⟨i, hi', rfl⟩ := List.mem_map.1 hv
      exact ⟨(hf i (List.mem_range.1 hi')).2.2.2.1, (hf i (List.mem_range.1 hi')).2.2.2.2⟩
end
section
variable {H : Type} {enc : TypeId × Value → H} {w : World} {base b0 : Nat} {spare : Nat → Bool} {held : Bool} {r : Reach} {v : Value} {d : DataW H} {p : List MemPlace}
end

end Go.Proofs.YtgifflfjhockaaaGreatDoor.C

namespace Go.Proofs.YtgifflfjhockaaaGreatDoor.I
open Go.RowKit W

theorem rdI_small {l : List UInt8} {p q : Nat} {es : List SE} {fs : List FE} (h : rdI l p = some (imOf es fs, q)) : es.length ≤ 64 ∧ fs.length ≤ 64 ∧ (∀ e ∈ es, S.okS e.2 = true) ∧ ∀ e ∈ fs, F.okF e.2 = true := by
  obtain ⟨⟨h1, h2, h3, h4⟩, _⟩ := rdI_ok h
  refine ⟨by simpa [imOf] using h1, by simpa [imOf] using h2, fun e he => List.all_eq_true.1 h3 _ ?_, fun e he => List.all_eq_true.1 h4 _ ?_⟩
  · exact List.mem_map.2 ⟨e, he, rfl⟩
  · exact List.mem_map.2 ⟨e, he, rfl⟩
theorem sm_of {w : World} {v : IV} {es : List SE} {fs : List FE} (h : ImAt w v es fs) (hs : es.length ≤ 64 ∧ fs.length ≤ 64 ∧ (∀ e ∈ es, S.okS e.2 = true) ∧ ∀ e ∈ fs, F.okF e.2 = true) : SmI es fs ∧ LgI v es fs := by
  obtain ⟨h1, h2, h3, h4⟩ := hs
  have hsh : ∀ e ∈ es, e.1.n ≤ 100 := fun e he => by
    have a := (h.hs e he).2
    have b := ((S.okS_iff _).1 (h3 e he)).1
    omega
  have hfn : ∀ e ∈ fs, F.SmF e.1 := fun e he => smF_ok (h.hf e he) (h4 e he)
  have hx := h.lx
  have hy := h.ly
  exact ⟨⟨by omega, by omega, hsh, hfn⟩, ⟨by omega, by omega, fun e he => by have := hsh e he; omega, fun e he => (hfn e he).lg⟩⟩
theorem take_cut {l : List UInt8} (h : l.take 5 = magicL) (h9 : 9 ≤ l.length) : l.take (l.length - 4) = magicL ++ (l.drop 5).take (l.length - 9) ∧ l.drop (l.length - 4) = (l.drop 5).drop (l.length - 9) ∧ (l.take (l.length - 4)).drop 5 = (l.drop 5).take (l.length - 9) := by
  have e1 : l = magicL ++ l.drop 5 := by rw [← h, List.take_append_drop]
  have e2 : l.length - 4 = magicL.length + (l.length - 9) := by show l.length - 4 = 5 + (l.length - 9); omega
  refine ⟨?_, ?_, ?_⟩
  · have e3 : (magicL ++ l.drop 5).take (magicL.length + (l.length - 9)) = magicL ++ (l.drop 5).take (l.length - 9) := List.take_length_add_append _
    rw [← e1, ← e2] at e3
    exact e3
  · rw [List.drop_drop, show 5 + (l.length - 9) = l.length - 4 by omega]
  · rw [List.drop_take, show l.length - 4 - 5 = l.length - 9 by omega]

/-- How Decode ends. -/
def DecR (w : World) (p : Im) (E : Int) (e : Ending) (w' : World) : Prop := ∃ v es fs, e = .returned (.tuple #[v.val, .int .i64 E]) ∧ OwnIm w' (Fresh w) v es fs ∧ imOf es fs = p ∧ Keep NoB w w'

/-- What the values are that Decode's region yields, where there may be a sum. -/
def SO (m : Nat) (ad : Addr) (E c : Nat) (fr : List UInt8) (bb : Bool) : Nat → Value → World → Prop
  | 0 => fun u _ => u = .int .i64 (E : Int)
  | 1 => fun u _ => u = .bool false
  | 2 => fun u _ => u = .bool false
  | 3 => fun u _ => u = .slice (some ad) (E + 4) c
  | 4 => fun u _ => u = .int .i64 (E : Int)
  | 5 => fun u _ => u = .slice (some (ad.add E)) 4 (c - E)
  | 6 => fun u _ => u = .slice (some ⟨m, 0, none⟩) 5 5
  | 7 => fun u _ => u = .slice (some ad) (E + 4) c
  | 8 => fun u _ => u = .int .i64 (E : Int)
  | 9 => fun u _ => u = .slice (some ad) E c
  | 10 => fun u w => ∃ g, u = .slice (some ⟨g, 0, none⟩) 2 2 ∧ Blk w g 26 #[.slice (some ⟨m, 0, none⟩) 5 5, .slice (some ad) E c]
  | 11 => PtV fr
  | 12 => fun u _ => u = .bool bb
  | 13 => fun u _ => u = .bool (!bb)
  | 14 => fun u _ => u = .bool (!bb)
  | _ => fun _ _ => True
theorem SO_stable (m : Nat) (ad : Addr) (E c : Nat) (fr : List UInt8) (bb : Bool) : ∀ i u w w', SO m ad E c fr bb i u w → Keep NoB w w' → SO m ad E c fr bb i u w'
  | 0, _, _, _, h, _ => h
  | 1, _, _, _, h, _ => h
  | 2, _, _, _, h, _ => h
  | 3, _, _, _, h, _ => h
  | 4, _, _, _, h, _ => h
  | 5, _, _, _, h, _ => h
  | 6, _, _, _, h, _ => h
  | 7, _, _, _, h, _ => h
  | 8, _, _, _, h, _ => h
  | 9, _, _, _, h, _ => h
  | 10, _, _, _, ⟨g, e, hb⟩, hk => ⟨g, e, hb.keep hk id⟩
  | 11, _, _, _, h, hk => PtV.keepN h hk
  | 12, _, _, _, h, _ => h
  | 13, _, _, _, h, _ => h
  | 14, _, _, _, h, _ => h
  | _ + 15, _, _, _, h, _ => h
/-- .. where there is none. -/
def SQ (N : Nat) : Nat → Value → World → Prop
  | 0 => fun u _ => u = .int .i64 ((N : Int) - 4)
  | 1 => fun u _ => u = .bool true
  | 2 => fun u _ => u = .bool true
  | 14 => fun u _ => u = .bool true
  | _ => fun _ _ => True
theorem SQ_stable (N : Nat) (i : Nat) (u : Value) (w w' : World) (h : SQ N i u w) : SQ N i u w' := by
  unfold SQ at h ⊢
  split at h <;> exact h

set_option maxRecDepth 100000 in
set_option maxHeartbeats 8000000 in
theorem decode_any (A : Option Addr) (l : List UInt8) (c : Nat) (w : World) (hr : V.Rd w A l) (hc : l.length ≤ c) (hcm : c ≤ maxLen) (hlen : l.length ≤ 1073741824) :
    Calls Tryz.prog 15 #[.slice A l.length c] w (DecR w (decI l).1 (decI l).2) := by
  have bz := ((Blk.new w 25 nilW.cells).alloc (.cells #[.int .u8 98, .int .u8 107, .int .u8 115, .int .u8 116, .int .u8 1] 5))
  have hm := heap_alloc_new (w.alloc (.cells nilW.cells 25)) (.cells #[.int .u8 98, .int .u8 107, .int .u8 115, .int .u8 116, .int .u8 1] 5)
  have kW := ((Keep.refl NoB w).alloc (.cells nilW.cells 25)).alloc (.cells #[.int .u8 98, .int .u8 107, .int .u8 115, .int .u8 116, .int .u8 1] 5)
  simp only [World.size_alloc] at hm
  unfold nilW IV.cells at *
  dsimp only at *
  have hcv := run_mark (n := 5) (c := 5) hm
  have kW3 := keep_mark (k := 5) kW hm (Nat.le_succ _)
  obtain ⟨hmk, hoth⟩ := freeze_mark (k := 5) hm
  have bz3 : Blk (World.freeze _ ⟨w.heap.size + 1, 5, none⟩ 1) w.heap.size 25 #[.slice none 0 0, .slice none 0 0] := (hoth w.heap.size (by omega)).trans bz
  have hmg := (PtV.mark ⟨some ⟨w.heap.size + 1, 0, none⟩, 5, rfl, rdB_blk (l := magicL) (f := (0, 0)) hm⟩ hmk : PtV magicL (.slice (some ⟨w.heap.size + 1, 0, none⟩) 5 5) _).rd
  have hr3 := S.rd_n hr kW3
  simp only [List.size_toArray, List.length_cons, List.length_nil, Nat.reduceAdd] at hcv
  clear bz hm kW hmk hoth hr
  generalize World.freeze _ ⟨w.heap.size + 1, 5, none⟩ 1 = w3 at *
  go_enter Tryz.func15, Tryz.ntmps15
  go_wp2_with fail
  refine (cut_any A (some ⟨w.heap.size + 1, 0, none⟩) l magicL c 5 w3 hr3 hmg hc hcm rfl).mono ?_
  rintro e w4 ⟨rfl, (⟨h5, v4, rfl⟩ | ⟨h5, A', c', rfl, hR, hC⟩)⟩
  · have HD := Lib.hid (decI_1 h5)
    have f3 := fun i => bz3.frozen i
    have q0 := bz3.cell 0
    have q1 := bz3.cell 1
    simp only [List.getElem?_toArray, List.getElem?_cons_zero, List.getElem?_cons_succ] at q0 q1
    have hlt := bz3.lt
    have HP := Lib.hid (put2_img bz3 (.slice none 0 0) (.slice none 0 0))
    have HK := Lib.hid (kW3.trans (keep2_img w3 w.heap.size (.slice none 0 0) (.slice none 0 0)) (fun k e hl => by omega))
    clear bz3 kW3 hmg hr3 hcv
    go_wp2
    refine bodyPost_ret (ret_imgE (v := nilW) rfl rfl HP.out rfl) rfl ?_
    rw [HD.out]
    exact ⟨nilW, [], [], rfl, nil_own _ _, rfl, HK.out⟩
  · by_cases h9 : 9 ≤ l.length
    · obtain ⟨E, hE⟩ : ∃ E, l.length = E + 9 := ⟨l.length - 9, by omega⟩
      have hn : l.length - 5 = E + 4 := by omega
      have h0 : 0 < (l.drop 5).length := by rw [List.length_drop]; omega
      obtain ⟨ad, rfl, _⟩ := hR h0
      have htc := take_cut h5 h9
      rw [show l.length - 9 = E by omega] at htc
      have hx := rd_dp hR E
      have HX : Hid (V.Rd w3 (some (ad.add E)) ((l.drop 5).drop E) ∧ ((l.drop 5).drop E).length = 4) := ⟨hx, by rw [List.length_drop, List.length_drop]; omega⟩
      have HT : Hid (V.Rd w3 (some ad) ((l.drop 5).take E) ∧ ((l.drop 5).take E).length = E) := ⟨rd_tk hR E, by rw [List.length_take, List.length_drop]; omega⟩
      have HTC := Lib.hid htc
      have HM := Lib.hid hmg
      rw [hn] at hC ⊢
      have hce := hC.out.1
      have hcE : ¬ (c' = E) := by omega
      have hcm' := hC.out.2
      have hE30 : E ≤ 1073741824 := by omega
      clear hx htc hmg hr3 hR hC h0
      generalize (l.drop 5).drop E = X at *
      generalize (l.drop 5).take E = T at *
      obtain ⟨fr, hfr⟩ : ∃ fr, four (sumN (magicL ++ T)) = fr := ⟨_, rfl⟩
      have HFR := Lib.hid hfr
      obtain ⟨bb, hbb⟩ : ∃ bb, decide (X = fr) = bb := ⟨_, rfl⟩
      have HBB := Lib.hid hbb
      clear hfr hbb
      go_wp2_with fail
      refine wp_region_props6 (fun i => [23, 24, 25, 26, 27, 28, 29, 30, 31, 32, 33, 34, 35, 36, 37].getD i 0) 9999 (NoB) (fun _ => false) (by kernel_rfl) (by kernel_rfl) (by kernel_rfl) (SO (w.heap.size + 1) ad E c' fr bb) (fun i u x y _ _ _ h hk => SO_stable _ _ _ _ _ _ i u x y (by exact h) (by exact hk.mono (fun _ hf _ => hf))) (fun i u x y _ h hk => SO_stable _ _ _ _ _ _ i u x y h hk) rfl ?step ?spec ?fin
      case step =>
        intro i o a w' hoo hic hF hK hA
        have hi : i < 15 := by simpa using (Array.getElem?_eq_some_iff.1 hoo).1
        by_cases h0 : i = 0
        · subst h0
          simp only [List.getElem?_toArray, List.getElem?_cons_zero, Option.some.injEq] at hoo
          subst hoo
          have e7 : a.tmps.getD 7 undef = .int .i64 (E : Int) := hF.2.2 7 (by decide)
          refine Does.plain rfl ?_
          unfold yieldsK
          go_simp
          exact ⟨rfl, Keep.refl _ _⟩
        by_cases h1 : i = 1
        · subst h1
          simp only [List.getElem?_toArray, List.getElem?_cons_zero, List.getElem?_cons_succ, Option.some.injEq] at hoo
          subst hoo
          have e23 : a.tmps.getD 23 undef = .int .i64 (E : Int) := hA ⟨0, .data⟩ (by simp) rfl
          refine Does.plain rfl ?_
          unfold yieldsK
          go_simp
          exact ⟨rfl, Keep.refl _ _⟩
        by_cases h2 : i = 2
        · subst h2
          simp only [List.getElem?_toArray, List.getElem?_cons_zero, List.getElem?_cons_succ, Option.some.injEq] at hoo
          subst hoo
          have e24 : a.tmps.getD 24 undef = .bool false := hA ⟨1, .data⟩ (by simp) rfl
          refine Does.plain rfl ?_
          unfold yieldsK
          go_simp
          exact ⟨rfl, Keep.refl _ _⟩
        by_cases h3 : i = 3
        · subst h3
          simp only [List.getElem?_toArray, List.getElem?_cons_zero, List.getElem?_cons_succ, Option.some.injEq] at hoo
          subst hoo
          have e5 : a.tmps.getD 5 undef = .slice (some ad) (E + 4) c' := hF.2.2 5 (by decide)
          refine Does.yes (j := 2) (d := 25) (want := false) rfl rfl (hA ⟨2, .guard⟩ (by simp) rfl) ?_
          unfold yieldsK
          go_simp
          exact ⟨rfl, Keep.refl _ _⟩
        by_cases h4 : i = 4
        · subst h4
          simp only [List.getElem?_toArray, List.getElem?_cons_zero, List.getElem?_cons_succ, Option.some.injEq] at hoo
          subst hoo
          have e7 : a.tmps.getD 7 undef = .int .i64 (E : Int) := hF.2.2 7 (by decide)
          refine Does.yes (j := 2) (d := 25) (want := false) rfl rfl (hA ⟨2, .guard⟩ (by simp) rfl) ?_
          unfold yieldsK
          go_simp
          exact ⟨rfl, Keep.refl _ _⟩
        by_cases h5 : i = 5
        · subst h5
          simp only [List.getElem?_toArray, List.getElem?_cons_zero, List.getElem?_cons_succ, Option.some.injEq] at hoo
          subst hoo
          have e26 : a.tmps.getD 26 undef = .slice (some ad) (E + 4) c' := hA ⟨3, .data⟩ (by simp) rfl
          have e27 : a.tmps.getD 27 undef = .int .i64 (E : Int) := hA ⟨4, .data⟩ (by simp) rfl
          have hle : (E : Int) ≤ (E : Int) + 4 := by omega
          refine Does.yes (j := 2) (d := 25) (want := false) rfl rfl (hA ⟨2, .guard⟩ (by simp) rfl) ?_
          unfold yieldsK
          go_simp
          exact ⟨rfl, Keep.refl _ _⟩
        by_cases h6 : i = 6
        · subst h6
          simp only [List.getElem?_toArray, List.getElem?_cons_zero, List.getElem?_cons_succ, Option.some.injEq] at hoo
          subst hoo
          have e4 : a.tmps.getD 4 undef = .slice (some ⟨w.heap.size + 1, 0, none⟩) 5 5 := hF.2.2 4 (by decide)
          refine Does.yes (j := 2) (d := 25) (want := false) rfl rfl (hA ⟨2, .guard⟩ (by simp) rfl) ?_
          unfold yieldsK
          go_simp
          exact ⟨rfl, Keep.refl _ _⟩
        by_cases h7 : i = 7
        · subst h7
          simp only [List.getElem?_toArray, List.getElem?_cons_zero, List.getElem?_cons_succ, Option.some.injEq] at hoo
          subst hoo
          have e5 : a.tmps.getD 5 undef = .slice (some ad) (E + 4) c' := hF.2.2 5 (by decide)
          refine Does.yes (j := 2) (d := 25) (want := false) rfl rfl (hA ⟨2, .guard⟩ (by simp) rfl) ?_
          unfold yieldsK
          go_simp
          exact ⟨rfl, Keep.refl _ _⟩
        by_cases h8 : i = 8
        · subst h8
          simp only [List.getElem?_toArray, List.getElem?_cons_zero, List.getElem?_cons_succ, Option.some.injEq] at hoo
          subst hoo
          have e7 : a.tmps.getD 7 undef = .int .i64 (E : Int) := hF.2.2 7 (by decide)
          refine Does.yes (j := 2) (d := 25) (want := false) rfl rfl (hA ⟨2, .guard⟩ (by simp) rfl) ?_
          unfold yieldsK
          go_simp
          exact ⟨rfl, Keep.refl _ _⟩
        by_cases h9 : i = 9
        · subst h9
          simp only [List.getElem?_toArray, List.getElem?_cons_zero, List.getElem?_cons_succ, Option.some.injEq] at hoo
          subst hoo
          have e30 : a.tmps.getD 30 undef = .slice (some ad) (E + 4) c' := hA ⟨7, .data⟩ (by simp) rfl
          have e31 : a.tmps.getD 31 undef = .int .i64 (E : Int) := hA ⟨8, .data⟩ (by simp) rfl
          have hle : E ≤ c' := by omega
          refine Does.yes (j := 2) (d := 25) (want := false) rfl rfl (hA ⟨2, .guard⟩ (by simp) rfl) ?_
          unfold yieldsK
          go_simp
          exact ⟨rfl, Keep.refl _ _⟩
        by_cases h10 : i = 10
        · subst h10
          simp only [List.getElem?_toArray, List.getElem?_cons_zero, List.getElem?_cons_succ, Option.some.injEq] at hoo
          subst hoo
          have e29 : a.tmps.getD 29 undef = .slice (some ⟨w.heap.size + 1, 0, none⟩) 5 5 := hA ⟨6, .data⟩ (by simp) rfl
          have e32 : a.tmps.getD 32 undef = .slice (some ad) E c' := hA ⟨9, .data⟩ (by simp) rfl
          refine Does.yes (j := 2) (d := 25) (want := false) rfl rfl (hA ⟨2, .guard⟩ (by simp) rfl) ?_
          unfold yieldsK
          simp only [Array.getD_eq_getD_getElem?] at e29 e32
          go_simp
          exact ⟨⟨w'.heap.size, rfl, Blk.new _ _ _⟩, (Keep.refl _ _).alloc _⟩
        by_cases h11 : i = 11
        · subst h11
          simp only [List.getElem?_toArray, List.getElem?_cons_zero, List.getElem?_cons_succ, Option.some.injEq] at hoo
          subst hoo
          obtain ⟨g, e33, hb⟩ := hA ⟨10, .data⟩ (by simp) rfl
          have e33 : a.tmps.getD 33 undef = .slice (some ⟨g, 0, none⟩) 2 2 := e33
          refine Does.yes (j := 2) (d := 25) (want := false) rfl rfl (hA ⟨2, .guard⟩ (by simp) rfl) ?_
          unfold yieldsK
          go_simp
          refine (seal_any (some ⟨g, 0, none⟩) [(⟨some ⟨w.heap.size + 1, 0, none⟩, 5, 5⟩, magicL), (⟨some ad, E, c'⟩, T)] 2 2 w' (rd_two hb) rfl (fun e he => by
            simp only [List.mem_cons, List.not_mem_nil, or_false] at he
            rcases he with rfl | rfl
            · exact ⟨(HM.out.keep hK (fun _ _ _ => id)), rfl⟩
            · exact ⟨(HT.out.1.keep hK (fun _ _ _ => id)), HT.out.2⟩) (by omega) (fun e he => by
            simp only [List.mem_cons, List.not_mem_nil, or_false] at he
            rcases he with rfl | rfl
            · show (5 : Nat) ≤ _; omega
            · show E ≤ _; omega)).mono ?_
          rintro e w5 ⟨u, rfl, h2, h3⟩
          have e4 : allB [(⟨some ⟨w.heap.size + 1, 0, none⟩, 5, 5⟩, magicL), (⟨some ad, E, c'⟩, T)] = magicL ++ T := by simp [allB]
          rw [e4, HFR.out] at h2
          exact ⟨_, rfl, OwnB.ptV h2, h3⟩
        by_cases h12 : i = 12
        · subst h12
          simp only [List.getElem?_toArray, List.getElem?_cons_zero, List.getElem?_cons_succ, Option.some.injEq] at hoo
          subst hoo
          have e28 : a.tmps.getD 28 undef = .slice (some (ad.add E)) 4 (c' - E) := hA ⟨5, .data⟩ (by simp) rfl
          obtain ⟨A34, c34, e34, h34⟩ := hA ⟨11, .data⟩ (by simp) rfl
          have e34 : a.tmps.getD 34 undef = .slice A34 fr.length c34 := e34
          refine Does.yes (j := 2) (d := 25) (want := false) rfl rfl (hA ⟨2, .guard⟩ (by simp) rfl) ?_
          unfold yieldsK
          simp only [Array.getD_eq_getD_getElem?] at e34
          go_simp
          refine (equalB_any (some (ad.add E)) A34 X fr 4 fr.length (c' - E) c34 w' (HX.out.1.keep hK (fun _ _ _ => id)) h34 HX.out.2 rfl bb HBB.out).mono ?_
          rintro e w5 ⟨rfl, rfl⟩
          exact ⟨_, rfl, rfl, Keep.refl _ _⟩
        by_cases h13 : i = 13
        · subst h13
          simp only [List.getElem?_toArray, List.getElem?_cons_zero, List.getElem?_cons_succ, Option.some.injEq] at hoo
          subst hoo
          have e35 : a.tmps.getD 35 undef = .bool bb := hA ⟨12, .data⟩ (by simp) rfl
          refine Does.yes (j := 2) (d := 25) (want := false) rfl rfl (hA ⟨2, .guard⟩ (by simp) rfl) ?_
          unfold yieldsK
          go_simp
          exact ⟨rfl, Keep.refl _ _⟩
        by_cases h14 : i = 14
        · subst h14
          simp only [List.getElem?_toArray, List.getElem?_cons_zero, List.getElem?_cons_succ, Option.some.injEq] at hoo
          subst hoo
          have e25 : a.tmps.getD 25 undef = .bool false := hA ⟨2, .data⟩ (by simp) rfl
          have e36 : a.tmps.getD 36 undef = .bool (!bb) := hA ⟨13, .data⟩ (by simp) rfl
          refine Does.plain rfl ?_
          unfold yieldsK
          go_simp
          exact ⟨rfl, Keep.refl _ _⟩
        omega
      case spec =>
        intro o a w' hoo
        simp at hoo
      case fin =>
        intro a w' hF gK hA
        have e37 : a.tmps.getD 37 undef = .bool (!bb) := hA 14 (by decide)
        have ha := frameD_list (l := [23, 24, 25, 26, 27, 28, 29, 30, 31, 32, 33, 34, 35, 36, 37]) rfl hF
        rw [ha]
        simp only [List.map_cons, List.map_nil, e37]
        generalize a.tmps.getD 23 undef = u0
        generalize a.tmps.getD 24 undef = u1
        generalize a.tmps.getD 25 undef = u2
        generalize a.tmps.getD 26 undef = u3
        generalize a.tmps.getD 27 undef = u4
        generalize a.tmps.getD 28 undef = u5
        generalize a.tmps.getD 29 undef = u6
        generalize a.tmps.getD 30 undef = u7
        generalize a.tmps.getD 31 undef = u8
        generalize a.tmps.getD 32 undef = u9
        generalize a.tmps.getD 33 undef = u10
        generalize a.tmps.getD 34 undef = u11
        generalize a.tmps.getD 35 undef = u12
        generalize a.tmps.getD 36 undef = u13
        simp only [fillD, List.setIfInBounds_toArray, List.set_cons_zero, List.set_cons_succ]
        have bz9 := bz3.keep gK id
        have kW9 := keepN kW3 gK
        have hT9 := HT.out.1.keep gK (fun _ _ _ => id)
        have hTl := HT.out.2
        clear hA hF ha e37 HM HX gK bz3 kW3 hcv HT
        cases bb
        · have HD := Lib.hid (decI_2 h5 (.inr (by rw [HTC.out.1, HTC.out.2.1, HFR.out]; exact of_decide_eq_false HBB.out)))
          clear HBB HFR HTC hT9
          have f3 := fun i => bz9.frozen i
          have q0 := bz9.cell 0
          have q1 := bz9.cell 1
          simp only [List.getElem?_toArray, List.getElem?_cons_zero, List.getElem?_cons_succ] at q0 q1
          have hlt := bz9.lt
          have HP := Lib.hid (put2_img bz9 (.slice none 0 0) (.slice none 0 0))
          have HK := Lib.hid (kW9.trans (keep2_img _ w.heap.size (.slice none 0 0) (.slice none 0 0)) (fun k e hl => by omega))
          clear bz9 kW9
          go_wp2
          refine bodyPost_ret (ret_imgE (v := nilW) rfl rfl HP.out rfl) rfl ?_
          rw [HD.out]
          exact ⟨nilW, [], [], rfl, nil_own _ _, rfl, HK.out⟩
        · have hsum : l.drop (l.length - 4) = four (sumN (l.take (l.length - 4))) := by rw [HTC.out.1, HTC.out.2.1, HFR.out]; exact of_decide_eq_true HBB.out
          have HD4 := Lib.hid (fun p hp => decI_4 (p := p) h5 h9 hsum (by rw [HTC.out.2.2]; exact hp))
          have HD3 := Lib.hid (fun hp => decI_3 h5 h9 hsum (by rw [HTC.out.2.2]; exact hp))
          have hin := inner_any (some ad) T c' _ hT9 (by omega)
          rw [hTl] at hin
          have HIN := Lib.hid hin
          clear HBB HFR HTC hT9 hsum hin h5
          go_wp2_with fail
          refine HIN.out.mono ?_
          rintro e w6 ⟨v6, es, fs, b6, rfl, hO6, k6, hb1, hb0⟩
          have bz6 := bz9.keep k6 id
          have kW6 := keepN kW9 k6
          have hz6 := bz9.lt
          have kA := (Keep.refl NoB w6).alloc (.cells v6.cells 25)
          have bz7 := bz6.keep kA id
          have kW7 := keepN kW6 kA
          have bv7 := Blk.new w6 25 v6.cells
          cases b6
          · have HD := Lib.hid (HD3.out (by
              cases hq : rdI T 0 with
              | none => exact opI_1 hq
              | some x => exact opI_2 hq (fun h => hb0 rfl x hq (by rw [h.1]))))
            have bz9 := bz7
            have kW9 := kW7
            clear hb1 hb0 HD3 HD4 hO6 k6 bz6 kW6 bz7 kW7 bv7 kA
            obtain ⟨X6, nx6, cx6, Y6, ny6, cy6⟩ := v6
            dsimp only [IV.val, IV.cells] at *
            have f3 := fun i => bz9.frozen i
            have q0 := bz9.cell 0
            have q1 := bz9.cell 1
            simp only [List.getElem?_toArray, List.getElem?_cons_zero, List.getElem?_cons_succ] at q0 q1
            have hlt := bz9.lt
            have HP := Lib.hid (put2_img bz9 (.slice none 0 0) (.slice none 0 0))
            have HK := Lib.hid (kW9.trans (keep2_img _ w.heap.size (.slice none 0 0) (.slice none 0 0)) (fun k e hl => by omega))
            clear bz9 kW9
            go_wp2
            refine bodyPost_ret (ret_imgE (v := nilW) rfl rfl HP.out rfl) rfl ?_
            rw [HD.out]
            exact ⟨nilW, [], [], rfl, nil_own _ _, rfl, HK.out⟩
          · have hrd := hb1 rfl
            obtain ⟨hsm, hlg⟩ := sm_of hO6.im (rdI_small hrd)
            have HC6 := Lib.hid (check_any v6 es fs _ (hO6.keepN kA).im hlg _ rfl)
            cases ho : okI (imOf es fs)
            · rw [chkI_no ho] at HC6
              have HD := Lib.hid (HD3.out (opI_2 hrd (fun h => by rw [ho] at h; exact absurd h.2 (by decide))))
              obtain ⟨p0, p1⟩ := blk2 bv7
              have HB7 := Lib.hid (And.intro bz7 kW7)
              clear hb1 hb0 HD3 HD4 hO6 k6 bz6 kW6 bz7 kW7 bv7 kA hrd hsm hlg ho bz9 kW9
              obtain ⟨X6, nx6, cx6, Y6, ny6, cy6⟩ := v6
              dsimp only [IV.val, IV.cells] at *
              go_wp2_with fail
              refine HC6.out.mono ?_
              rintro e w8 ⟨rfl, k8⟩
              have bz9 := HB7.out.1.keep k8 id
              have kW9 := keepN HB7.out.2 k8
              clear HB7 HC6 k8
              have f3 := fun i => bz9.frozen i
              have q0 := bz9.cell 0
              have q1 := bz9.cell 1
              simp only [List.getElem?_toArray, List.getElem?_cons_zero, List.getElem?_cons_succ] at q0 q1
              have hlt := bz9.lt
              have HP := Lib.hid (put2_img bz9 (.slice none 0 0) (.slice none 0 0))
              have HK := Lib.hid (kW9.trans (keep2_img _ w.heap.size (.slice none 0 0) (.slice none 0 0)) (fun k e hl => by omega))
              clear bz9 kW9
              go_wp2
              refine bodyPost_ret (ret_imgE (v := nilW) rfl rfl HP.out rfl) rfl ?_
              rw [HD.out]
              exact ⟨nilW, [], [], rfl, nil_own _ _, rfl, HK.out⟩
            · rw [chkI_ok ho] at HC6
              have HD := Lib.hid (HD4.out (imOf es fs) (opI_3 hrd rfl ho))
              have hO7 := hO6.keepN kA
              clear hb1 hb0 HD3 HD4 hO6 k6 bz6 kW6 kA hrd hsm hlg ho bz9 kW9
              have HB7 := Lib.hid (And.intro bz7 (And.intro kW7 (And.intro hO7 bv7)))
              obtain ⟨p0, p1⟩ := blk2 bv7
              clear bz7 kW7 hO7 bv7
              obtain ⟨X6, nx6, cx6, Y6, ny6, cy6⟩ := v6
              dsimp only [IV.val, IV.cells] at *
              go_wp2_with fail
              refine HC6.out.mono ?_
              rintro e w8 ⟨rfl, k8⟩
              obtain ⟨bz7, kW7, hO7, bv7⟩ := HB7.out
              have bz8 := bz7.keep k8 id
              have kW8 := keepN kW7 k8
              have hO8 := hO7.keepN k8
              obtain ⟨r0, r1⟩ := blk2 (v := ⟨X6, nx6, cx6, Y6, ny6, cy6⟩) (bv7.keep k8 id)
              dsimp only at r0 r1
              have f3 := fun i => bz8.frozen i
              have q0 := bz8.cell 0
              have q1 := bz8.cell 1
              simp only [List.getElem?_toArray, List.getElem?_cons_zero, List.getElem?_cons_succ] at q0 q1
              have hlt := bz8.lt
              have HP := Lib.hid (put2_img bz8 (.slice X6 nx6 cx6) (.slice Y6 ny6 cy6))
              have kq := keep2_img w8 w.heap.size (.slice X6 nx6 cx6) (.slice Y6 ny6 cy6)
              have HK := Lib.hid (kW8.trans kq (fun k e hl => by omega))
              have HO := Lib.hid ((hO8.keep kq (fun k hk e => by unfold Fresh at hk; omega)).mono (P' := Fresh w) (fun k hk _ => by unfold Fresh at *; omega))
              clear bz8 kW8 hO8 bz7 kW7 hO7 bv7 HB7 k8 kq HC6
              go_wp2
              refine bodyPost_ret (ret_imgE (v := ⟨X6, nx6, cx6, Y6, ny6, cy6⟩) rfl rfl HP.out rfl) rfl ?_
              rw [HD.out]
              exact ⟨⟨X6, nx6, cx6, Y6, ny6, cy6⟩, es, fs, rfl, HO.out, rfl, HK.out⟩
    · obtain ⟨N, hN⟩ : ∃ N, l.length - 5 = N := ⟨_, rfl⟩
      have hdN : ((N : Int) - 4 < 0) := by omega
      rw [hN]
      go_wp2_with fail
      refine wp_region_props6 (fun i => [23, 24, 25, 26, 27, 28, 29, 30, 31, 32, 33, 34, 35, 36, 37].getD i 0) 9999 (NoB) (fun _ => false) (by kernel_rfl) (by kernel_rfl) (by kernel_rfl) (SQ N) (fun i u x y _ _ _ h _ => SQ_stable _ i u x y h) (fun i u x y _ h _ => SQ_stable _ i u x y h) rfl ?step ?spec ?fin
      case step =>
        intro i o a w' hoo hic hF hK hA
        have hi : i < 15 := by simpa using (Array.getElem?_eq_some_iff.1 hoo).1
        by_cases h0 : i = 0
        · subst h0
          simp only [List.getElem?_toArray, List.getElem?_cons_zero, Option.some.injEq] at hoo
          subst hoo
          have e7 : a.tmps.getD 7 undef = .int .i64 ((N : Int) - 4) := hF.2.2 7 (by decide)
          refine Does.plain rfl ?_
          unfold yieldsK
          go_simp
          exact ⟨rfl, Keep.refl _ _⟩
        by_cases h1 : i = 1
        · subst h1
          simp only [List.getElem?_toArray, List.getElem?_cons_zero, List.getElem?_cons_succ, Option.some.injEq] at hoo
          subst hoo
          have e23 : a.tmps.getD 23 undef = .int .i64 ((N : Int) - 4) := hA ⟨0, .data⟩ (by simp) rfl
          have hd := hdN
          refine Does.plain rfl ?_
          unfold yieldsK
          go_simp
          exact ⟨rfl, Keep.refl _ _⟩
        by_cases h2 : i = 2
        · subst h2
          simp only [List.getElem?_toArray, List.getElem?_cons_zero, List.getElem?_cons_succ, Option.some.injEq] at hoo
          subst hoo
          have e24 : a.tmps.getD 24 undef = .bool true := hA ⟨1, .data⟩ (by simp) rfl
          refine Does.plain rfl ?_
          unfold yieldsK
          go_simp
          exact ⟨rfl, Keep.refl _ _⟩
        by_cases h3 : i = 3
        · subst h3
          simp only [List.getElem?_toArray, List.getElem?_cons_zero, List.getElem?_cons_succ, Option.some.injEq] at hoo
          subst hoo
          refine Does.no (j := 2) (d := 25) (want := false) rfl rfl (hA ⟨2, .guard⟩ (by simp) rfl) ?_
          exact ⟨trivial, Keep.refl _ _⟩
        by_cases h4 : i = 4
        · subst h4
          simp only [List.getElem?_toArray, List.getElem?_cons_zero, List.getElem?_cons_succ, Option.some.injEq] at hoo
          subst hoo
          refine Does.no (j := 2) (d := 25) (want := false) rfl rfl (hA ⟨2, .guard⟩ (by simp) rfl) ?_
          exact ⟨trivial, Keep.refl _ _⟩
        by_cases h5 : i = 5
        · subst h5
          simp only [List.getElem?_toArray, List.getElem?_cons_zero, List.getElem?_cons_succ, Option.some.injEq] at hoo
          subst hoo
          refine Does.no (j := 2) (d := 25) (want := false) rfl rfl (hA ⟨2, .guard⟩ (by simp) rfl) ?_
          exact ⟨trivial, Keep.refl _ _⟩
        by_cases h6 : i = 6
        · subst h6
          simp only [List.getElem?_toArray, List.getElem?_cons_zero, List.getElem?_cons_succ, Option.some.injEq] at hoo
          subst hoo
          refine Does.no (j := 2) (d := 25) (want := false) rfl rfl (hA ⟨2, .guard⟩ (by simp) rfl) ?_
          exact ⟨trivial, Keep.refl _ _⟩
        by_cases h7 : i = 7
        · subst h7
          simp only [List.getElem?_toArray, List.getElem?_cons_zero, List.getElem?_cons_succ, Option.some.injEq] at hoo
          subst hoo
          refine Does.no (j := 2) (d := 25) (want := false) rfl rfl (hA ⟨2, .guard⟩ (by simp) rfl) ?_
          exact ⟨trivial, Keep.refl _ _⟩
        by_cases h8 : i = 8
        · subst h8
          simp only [List.getElem?_toArray, List.getElem?_cons_zero, List.getElem?_cons_succ, Option.some.injEq] at hoo
          subst hoo
          refine Does.no (j := 2) (d := 25) (want := false) rfl rfl (hA ⟨2, .guard⟩ (by simp) rfl) ?_
          exact ⟨trivial, Keep.refl _ _⟩
        by_cases h9 : i = 9
        · subst h9
          simp only [List.getElem?_toArray, List.getElem?_cons_zero, List.getElem?_cons_succ, Option.some.injEq] at hoo
          subst hoo
          refine Does.no (j := 2) (d := 25) (want := false) rfl rfl (hA ⟨2, .guard⟩ (by simp) rfl) ?_
          exact ⟨trivial, Keep.refl _ _⟩
        by_cases h10 : i = 10
        · subst h10
          simp only [List.getElem?_toArray, List.getElem?_cons_zero, List.getElem?_cons_succ, Option.some.injEq] at hoo
          subst hoo
          refine Does.no (j := 2) (d := 25) (want := false) rfl rfl (hA ⟨2, .guard⟩ (by simp) rfl) ?_
          exact ⟨trivial, Keep.refl _ _⟩
        by_cases h11 : i = 11
        · subst h11
          simp only [List.getElem?_toArray, List.getElem?_cons_zero, List.getElem?_cons_succ, Option.some.injEq] at hoo
          subst hoo
          refine Does.no (j := 2) (d := 25) (want := false) rfl rfl (hA ⟨2, .guard⟩ (by simp) rfl) ?_
          exact ⟨trivial, Keep.refl _ _⟩
        by_cases h12 : i = 12
        · subst h12
          simp only [List.getElem?_toArray, List.getElem?_cons_zero, List.getElem?_cons_succ, Option.some.injEq] at hoo
          subst hoo
          refine Does.no (j := 2) (d := 25) (want := false) rfl rfl (hA ⟨2, .guard⟩ (by simp) rfl) ?_
          exact ⟨trivial, Keep.refl _ _⟩
        by_cases h13 : i = 13
        · subst h13
          simp only [List.getElem?_toArray, List.getElem?_cons_zero, List.getElem?_cons_succ, Option.some.injEq] at hoo
          subst hoo
          refine Does.no (j := 2) (d := 25) (want := false) rfl rfl (hA ⟨2, .guard⟩ (by simp) rfl) ?_
          exact ⟨trivial, Keep.refl _ _⟩
        by_cases h14 : i = 14
        · subst h14
          simp only [List.getElem?_toArray, List.getElem?_cons_zero, List.getElem?_cons_succ, Option.some.injEq] at hoo
          subst hoo
          have e25 : a.tmps.getD 25 undef = .bool true := hA ⟨2, .data⟩ (by simp) rfl
          refine Does.plain rfl ?_
          unfold yieldsK
          go_simp
          exact ⟨rfl, Keep.refl _ _⟩
        omega
      case spec =>
        intro o a w' hoo
        simp at hoo
      case fin =>
        intro a w' hF gK hA
        have e37 : a.tmps.getD 37 undef = .bool true := hA 14 (by decide)
        have ha := frameD_list (l := [23, 24, 25, 26, 27, 28, 29, 30, 31, 32, 33, 34, 35, 36, 37]) rfl hF
        rw [ha]
        simp only [List.map_cons, List.map_nil, e37]
        generalize a.tmps.getD 23 undef = u0
        generalize a.tmps.getD 24 undef = u1
        generalize a.tmps.getD 25 undef = u2
        generalize a.tmps.getD 26 undef = u3
        generalize a.tmps.getD 27 undef = u4
        generalize a.tmps.getD 28 undef = u5
        generalize a.tmps.getD 29 undef = u6
        generalize a.tmps.getD 30 undef = u7
        generalize a.tmps.getD 31 undef = u8
        generalize a.tmps.getD 32 undef = u9
        generalize a.tmps.getD 33 undef = u10
        generalize a.tmps.getD 34 undef = u11
        generalize a.tmps.getD 35 undef = u12
        generalize a.tmps.getD 36 undef = u13
        simp only [fillD, List.setIfInBounds_toArray, List.set_cons_zero, List.set_cons_succ]
        have bz9 := bz3.keep gK id
        have kW9 := keepN kW3 gK
        have HD := Lib.hid (decI_2 h5 (.inl (by omega)))
        clear hA hF ha e37 gK bz3 kW3 hcv hR hC hmg hr3
        have f3 := fun i => bz9.frozen i
        have q0 := bz9.cell 0
        have q1 := bz9.cell 1
        simp only [List.getElem?_toArray, List.getElem?_cons_zero, List.getElem?_cons_succ] at q0 q1
        have hlt := bz9.lt
        have HP := Lib.hid (put2_img bz9 (.slice none 0 0) (.slice none 0 0))
        have HK := Lib.hid (kW9.trans (keep2_img _ w.heap.size (.slice none 0 0) (.slice none 0 0)) (fun k e hl => by omega))
        clear bz9 kW9
        go_wp2
        refine bodyPost_ret (ret_imgE (v := nilW) rfl rfl HP.out rfl) rfl ?_
        rw [HD.out]
        exact ⟨nilW, [], [], rfl, nil_own _ _, rfl, HK.out⟩
end Go.Proofs.YtgifflfjhockaaaGreatDoor.I

namespace Go.Proofs.YtgifflfjhockaaaGreatDoor.I
open Go.RowKit W

/-- A row that has just been made is owned. -/
theorem made_own {w : World} {E size n b : Nat} {cs : Array Value} {xs : List Value} {P : Nat → Prop} (hb : b = w.heap.size) (hs : cs.size = n * size) (hm : n ≤ maxLen) (hx : xs = cs.toList) (hP : P b) : Own (w.alloc (.cells cs E)) E size P (.slice (some ⟨b, 0, none⟩) n n) n xs := by
  subst hb hx
  exact own_blk (Blk.new w E cs) (by simpa using hs) hm hP
/-- The image of one function of a name that returns. -/
def oneF (S : ByteArray) : F.Fu := ⟨S.data.toList, [], [], [], [(24, 0, 0)]⟩
def oneV (m : Nat) (S : ByteArray) : F.FV := ⟨S, none, 0, 0, none, 0, 0, none, 0, 0, some ⟨m + 1, 0, none⟩, 1, 1⟩
def oneI (m : Nat) : IV := ⟨none, 0, 0, some ⟨m + 1 + 1, 0, none⟩, 1, 1⟩
set_option maxRecDepth 100000 in
set_option maxHeartbeats 4000000 in
theorem one_any (S : ByteArray) (w : World) : Calls Tryz.prog 29 #[.string S] w fun e w' => e = .returned (oneI w.heap.size).val ∧ OwnIm w' (Fresh w) (oneI w.heap.size) [] [(oneV w.heap.size S, oneF S)] ∧ Keep NoB w w' := by
  have bz := ((Blk.new w 25 (oneI w.heap.size).cells).alloc (.cells #[.int .i64 24, .int .i64 0, .int .i64 0] 63)).alloc (.cells (oneV w.heap.size S).cells 61)
  have k1 := (Keep.refl NoB w).alloc (.cells (oneI w.heap.size).cells 25)
  have k2 := k1.alloc (.cells #[.int .i64 24, .int .i64 0, .int .i64 0] 63)
  have k3 := k2.alloc (.cells (oneV w.heap.size S).cells 61)
  have a1 := made_own (w := w.alloc (.cells (oneI w.heap.size).cells 25)) (E := 63) (size := 3) (n := 1) (b := w.heap.size + 1) (cs := #[.int .i64 24, .int .i64 0, .int .i64 0]) (xs := C.iis [(24, 0, 0)]) (P := Fresh w) (by simp) rfl (by unfold maxLen; omega) rfl (Nat.le_succ _)
  have a2 := made_own (w := (w.alloc (.cells (oneI w.heap.size).cells 25)).alloc (.cells #[.int .i64 24, .int .i64 0, .int .i64 0] 63)) (E := 61) (size := 5) (n := 1) (b := w.heap.size + 1 + 1) (cs := (oneV w.heap.size S).cells) (xs := fvs [(oneV w.heap.size S, oneF S)]) (P := Fresh w) (by simp) rfl (by unfold maxLen; omega) (by simp [fvs]) (Nat.le_trans (Nat.le_succ _) (Nat.le_succ _))
  have b1 := a1.keepN ((Keep.refl NoB _).alloc (.cells (oneV w.heap.size S).cells 61))
  unfold IV.cells oneI oneV F.FV.cells at *
  dsimp only at *
  have HO := Lib.hid (And.intro b1 a2)
  have HB := Lib.hid bz
  have HK := Lib.hid k3
  clear a1 a2 b1 k1 k2 k3 bz
  go_enter Tryz.func29, Tryz.ntmps29
  go_wp2
  refine bodyPost_ret (ret_img (v := ⟨none, 0, 0, some ⟨w.heap.size + 1 + 1, 0, none⟩, 1, 1⟩) rfl rfl HB.out) rfl ?_
  obtain ⟨b1, a2⟩ := HO.out
  refine ⟨rfl, ⟨Own.nil _ _ _ _, a2, (fun _ h => nomatch h), fun e he => ?_⟩, HK.out⟩
  obtain rfl := List.mem_singleton.1 he
  exact ⟨rfl, Own.nil _ _ _ _, Own.nil _ _ _ _, Own.nil _ _ _ _, b1, F.some_I⟩
theorem one_lg (m : Nat) (S : ByteArray) (hS : S.size ≤ 100) : LgI (oneI m) [] [(oneV m S, oneF S)] := ⟨Nat.zero_le _, by show 1 ≤ _; omega, (fun _ h => nomatch h), fun e he => by
  obtain rfl := List.mem_singleton.1 he
  exact ⟨by show S.size ≤ _; omega, Nat.zero_le _, Nat.zero_le _, Nat.zero_le _, by show 1 ≤ _; omega⟩⟩
/-- Bytes out of a constant: the conversion marks their block. -/
theorem marked {w : World} {cs : Array Value} {n : Nat} (l : List UInt8) (h : cs = (V.bvs l).toArray) (hn : l.length = n) :
    (convert 26 26 (.slice (some ⟨w.heap.size, 0, none⟩) n n)).run Tryz.prog (w.alloc (.cells cs 5)) = .ok (.slice (some ⟨w.heap.size, 0, none⟩) n n) ((w.alloc (.cells cs 5)).freeze ⟨w.heap.size, n, none⟩ 1) ∧
    V.Rd ((w.alloc (.cells cs 5)).freeze ⟨w.heap.size, n, none⟩ 1) (some ⟨w.heap.size, 0, none⟩) l ∧ Keep NoB w ((w.alloc (.cells cs 5)).freeze ⟨w.heap.size, n, none⟩ 1) := by
  subst h hn
  have hm := heap_alloc_new w (.cells (V.bvs l).toArray 5)
  have h1 := run_mark (n := l.length) (c := l.length) hm
  rw [show (V.bvs l).toArray.size = l.length by simp] at h1
  have hp := PtV.mark ⟨some ⟨w.heap.size, 0, none⟩, l.length, rfl, rdB_blk hm⟩ (freeze_mark (k := l.length) hm).1
  exact ⟨h1, hp.rd, keep_mark ((Keep.refl NoB w).alloc _) hm (Nat.le_refl _)⟩
theorem sum_nil (w : World) : Calls Tryz.prog 18 #[.slice none 0 0] w fun e w' => e = .returned (.int .u32 1) ∧ w = w' :=
  sum_any none [] 0 0 w (Rd.none_ _ _) rfl (fun _ h => nomatch h) (Nat.zero_le _) (fun _ h => nomatch h) 1 rfl
theorem sum_one {w : World} {g : Nat} {A : Option Addr} {l : List UInt8} {n c : Nat} (h : Blk w g 26 #[.slice A n c]) (hr : V.Rd w A l) (hn : l.length = n) (hl : n ≤ 140737488355328) (R : Nat) (hR : sumN l = R) :
    Calls Tryz.prog 18 #[.slice (some ⟨g, 0, none⟩) 1 1] w fun e w' => e = .returned (.int .u32 (R : Int)) ∧ w = w' :=
  sum_any _ [(⟨A, n, c⟩, l)] 1 1 w (rd_single h) rfl (fun e he => by obtain rfl := List.mem_singleton.1 he; exact ⟨hr, hn⟩) (by omega) (fun e he => by obtain rfl := List.mem_singleton.1 he; exact hl) R (show _ = _ by simpa [allB] using hR)
theorem own_bytes {w : World} {O : Nat → Prop} {v : Value} {l : List UInt8} {n : Nat} (h : V.OwnB w O v l) (hn : l.length = n) : ∃ A c, v = .slice A n c ∧ n ≤ c ∧ V.Rd w A l := by
  subst hn
  obtain ⟨A, c, e, hc, hr, _, _⟩ := h.form
  exact ⟨A, c, e, hc, hr⟩

theorem enc_f : encI ⟨[], [oneF ⟨#[102]⟩]⟩ = [98, 107, 115, 116, 1, 0, 1, 1, 102, 0, 0, 0, 0, 1, 24, 25, 238, 2, 55] := by decide +kernel
theorem chk_f : chkI ⟨[], [oneF ⟨#[102]⟩]⟩ = 0 := by decide +kernel
theorem sum_wiki : sumN [87, 105, 107, 105, 112, 101, 100, 105, 97] = 300286872 := by decide +kernel
theorem encode_f (m : Nat) (w : World) (h : ImAt w (oneI m) [] [(oneV m ⟨#[102]⟩, oneF ⟨#[102]⟩)]) : Calls Tryz.prog 13 #[(oneI m).val] w fun e w' => ∃ A c, e = .returned (.tuple #[.slice A 19 c, .int .i64 0]) ∧ 19 ≤ c ∧ V.Rd w' A [98, 107, 115, 116, 1, 0, 1, 1, 102, 0, 0, 0, 0, 1, 24, 25, 238, 2, 55] ∧ Keep NoB w w' := by
  refine (encode_any (oneI m) [] _ w h (one_lg _ _ (by decide))).mono ?_
  rintro e w' ⟨u, rfl, hu, hk⟩
  have hu2 : V.OwnB w' (Fresh w) u [98, 107, 115, 116, 1, 0, 1, 1, 102, 0, 0, 0, 0, 1, 24, 25, 238, 2, 55] := by rw [← enc_f]; exact hu
  obtain ⟨A, c, rfl, hc, hr⟩ := own_bytes (n := 19) hu2 rfl
  exact ⟨A, c, congrArg (fun x => Ending.returned (.tuple #[.slice A 19 c, .int .i64 x])) chk_f, hc, hr, hk⟩
/-- What Decode answers where the bytes are no image's: no image, and an error. -/
theorem decode_no (A : Option Addr) (l : List UInt8) (n c : Nat) (w : World) (hr : V.Rd w A l) (hn : l.length = n) (hc : n ≤ c) (hcm : c ≤ maxLen) (hlen : n ≤ 1073741824) (E : Int) (hE : decI l = (nilI, E)) :
    Calls Tryz.prog 15 #[.slice A n c] w fun e w' => ∃ X Y cx cy, e = .returned (.tuple #[.agg #[.slice X 0 cx, .slice Y 0 cy], .int .i64 E]) ∧ Keep NoB w w' := by
  subst hn
  refine (decode_any A l c w hr hc hcm hlen).mono ?_
  rw [hE]
  rintro e w' ⟨v, es, fs, rfl, ho, hi, hk⟩
  have h1 : es = [] := List.map_eq_nil_iff.1 (congrArg Im.sh hi)
  have h2 : fs = [] := List.map_eq_nil_iff.1 (congrArg Im.fn hi)
  subst h1 h2
  have l1 := ho.im.lx
  have l2 := ho.im.ly
  obtain ⟨X, nx, cx, Y, ny, cy⟩ := v
  dsimp only [List.length_nil] at l1 l2
  subst l1 l2
  exact ⟨X, Y, cx, cy, rfl, hk⟩
set_option maxRecDepth 100000 in
set_option maxHeartbeats 8000000 in
theorem alive_any (w : World) : Calls Tryz.prog 31 #[] w fun e w' => e = .returned (.bool true) ∧ Keep NoB w w' := by
  go_enter Tryz.func31, Tryz.ntmps31
  go_wp2_with fail
  refine (one_any _ _).mono ?_
  rintro e w1 ⟨rfl, h1, gK⟩
  have HE := Lib.hid (encode_f _ _ h1.im)
  clear h1
  unfold oneI IV.val at *
  dsimp only at *
  go_wp2_with fail
  refine HE.out.mono ?_
  rintro e w2 ⟨A2, c2, rfl, hc2, r2, k1⟩
  replace gK := keepN gK k1
  clear k1 HE
  go_wp2_with fail
  refine (decode_no none [] 0 0 w2 (V.Rd.none_ _ _) rfl (Nat.le_refl _) (Nat.zero_le _) (Nat.zero_le _) 81 (decI_1 (by decide))).mono ?_
  rintro e w3 ⟨X3, Y3, cx3, cy3, rfl, k1⟩
  replace gK := keepN gK k1
  replace r2 := S.rd_n r2 k1
  clear k1
  have kA := (Keep.refl NoB w3).alloc (.cells #[.slice X3 0 cx3, .slice Y3 0 cy3] 25)
  obtain ⟨hcv, hrd, hkp⟩ := marked (w := w3.alloc (.cells #[.slice X3 0 cx3, .slice Y3 0 cy3] 25)) (cs := #[.int .u8 98, .int .u8 107, .int .u8 115, .int .u8 116, .int .u8 1]) (n := 5) magicL rfl rfl
  replace gK := keepN gK (keepN kA hkp)
  replace r2 := S.rd_n r2 (keepN kA hkp)
  clear kA hkp
  simp only [World.size_alloc] at hcv hrd r2 gK
  generalize World.freeze _ ⟨w3.heap.size + 1, 5, none⟩ 1 = w4 at *
  go_wp2_with fail
  refine (decode_no (some ⟨w3.heap.size + 1, 0, none⟩) magicL 5 5 w4 hrd rfl (Nat.le_refl _) (by unfold maxLen; omega) (by omega) 82 (decI_2 rfl (.inl (by decide)))).mono ?_
  rintro e w5 ⟨X5, Y5, cx5, cy5, rfl, k1⟩
  have kA := (Keep.refl NoB w5).alloc (.cells #[.slice X5 0 cx5, .slice Y5 0 cy5] 25)
  replace gK := keepN gK (keepN k1 kA)
  replace r2 := S.rd_n r2 (keepN k1 kA)
  clear k1 kA hcv hrd
  go_wp2_with fail
  refine (sum_nil _).mono ?_
  rintro e w6 ⟨rfl, rfl⟩
  obtain ⟨hcv, hrd, hkp⟩ := marked (w := w5.alloc (.cells #[.slice X5 0 cx5, .slice Y5 0 cy5] 25)) (cs := #[.int .u8 87, .int .u8 105, .int .u8 107, .int .u8 105, .int .u8 112, .int .u8 101, .int .u8 100, .int .u8 105, .int .u8 97]) (n := 9) [87, 105, 107, 105, 112, 101, 100, 105, 97] rfl rfl
  replace gK := keepN gK hkp
  replace r2 := S.rd_n r2 hkp
  simp only [World.size_alloc] at hcv hrd r2 gK
  clear hkp
  generalize World.freeze _ ⟨w5.heap.size + 1, 9, none⟩ 1 = w7 at *
  have bw := Blk.new w7 26 #[.slice (some ⟨w5.heap.size + 1, 0, none⟩) 9 9]
  have kA := (Keep.refl NoB w7).alloc (.cells #[.slice (some ⟨w5.heap.size + 1, 0, none⟩) 9 9] 26)
  replace gK := keepN gK kA
  replace r2 := S.rd_n r2 kA
  have HS := Lib.hid (sum_one bw (S.rd_n hrd kA) rfl (by omega) 300286872 sum_wiki)
  have hcs : ∀ c, (convert 26 9 (.slice A2 15 c)).run Tryz.prog (w7.alloc (.cells #[.slice (some ⟨w5.heap.size + 1, 0, none⟩) 9 9] 26)) = .ok (.string ⟨#[98, 107, 115, 116, 1, 0, 1, 1, 102, 0, 0, 0, 0, 1, 24]⟩) (w7.alloc (.cells #[.slice (some ⟨w5.heap.size + 1, 0, none⟩) 9 9] 26)) := fun c => V.conv_rd (l := [98, 107, 115, 116, 1, 0, 1, 1, 102, 0, 0, 0, 0, 1, 24]) (rd_tk r2 15)
  clear bw kA r2 hrd
  go_wp2_with fail
  refine HS.out.mono ?_
  rintro e w8 ⟨rfl, rfl⟩
  go_wp2
  go_ret
  exact ⟨rfl, gK⟩

end Go.Proofs.YtgifflfjhockaaaGreatDoor.I

namespace Go.Proofs.YtgifflfjhockaaaGreatDoor.I
open Go.RowKit W

end Go.Proofs.YtgifflfjhockaaaGreatDoor.I

namespace Go.Proofs.YtgifflfjhockaaaGreatDoor.I
open Go.RowKit W

end Go.Proofs.YtgifflfjhockaaaGreatDoor.I

namespace Go.Proofs.YtgifflfjhockaaaGreatDoor.F
open Go.RowKit W

end Go.Proofs.YtgifflfjhockaaaGreatDoor.F

namespace Go.Proofs.YtgifflfjhockaaaGreatDoor.I
open Go.RowKit W

end Go.Proofs.YtgifflfjhockaaaGreatDoor.I

namespace Go.Proofs.YtgifflfjhockaaaGreatDoor.I
open Go.RowKit W

end Go.Proofs.YtgifflfjhockaaaGreatDoor.I

namespace Go.Proofs.YtgifflfjhockaaaGreatDoor
open Go.RowKit
section
variable {P : Program} {md : Region.Mode} {ops : Array Oper}

/-- Each number ahead of j has one behind it, up to j. -/
def allBehind (md : Region.Mode) (ops : Array Oper) (j : Nat) : Bool := (List.range j).all fun i => (List.range (j + 1)).any fun k => decide (i < k) && match ops[k]? with
  | none => false
  | some o => o.after.any fun e => Region.binds md e && e.on == i
/-- So it is with all from m on. -/
def tailG (md : Region.Mode) (ops : Array Oper) (m : Nat) : Bool := (List.range ops.size).all fun j => decide (j < m) || allBehind md ops j
/-- The first m write each a slot of its own, and stand behind earlier ones alone. -/
def headG (ops : Array Oper) (ds : Nat → Nat) (m : Nat) : Bool := (List.range m).all fun i => match ops[i]? with
  | none => false
  | some o => o.dst == some (ds i) && ((o.after.all fun e => decide (e.on < i)) && (List.range m).all fun j => i == j || !(ds i == ds j))
def onlyB (ops : Array Oper) : Bool := (List.range ops.size).all fun i => match ops[i]? with
  | none => false
  | some o => o.after.all fun e => decide (e.on < i)
theorem onlyB_at (h : onlyB ops = true) {i : Nat} {o : Oper} (ho : ops[i]? = some o) : ∀ e ∈ o.after, e.on < i := by
  have hi := (Array.getElem?_eq_some_iff.1 ho).1
  have h1 := List.all_eq_true.1 h i (List.mem_range.2 hi)
  simp only [ho] at h1
  intro e he
  have := Array.all_eq_true_iff_forall_mem.1 h1 e he
  simpa using this
theorem headG_at {ds : Nat → Nat} {m : Nat} (h : headG ops ds m = true) {i : Nat} (hi : i < m) {o : Oper} (ho : ops[i]? = some o) : o.dst = some (ds i) ∧ ∀ j, j < m → j ≠ i → ds j ≠ ds i := by
  have h1 := List.all_eq_true.1 h i (List.mem_range.2 hi)
  simp only [ho, Bool.and_eq_true] at h1
  obtain ⟨h1, _, h4⟩ := h1
  refine ⟨by simpa using h1, fun j hj hne e => ?_⟩
  have h5 := List.all_eq_true.1 h4 j (List.mem_range.2 hj)
  rw [e] at h5
  simp at h5
  exact hne h5.symm
/-- What is listed has all listed that it stands behind. -/
def Closed (md : Region.Mode) (ops : Array Oper) (listed : Array Bool) : Prop := ∀ k o, ops[k]? = some o → listed.getD k true = true → ∀ e ∈ o.after, Region.binds md e = true → listed.getD e.on true = true
theorem behind_all {j : Nat} (h : allBehind md ops j = true) {listed : Array Bool} (hC : Closed md ops listed) {o : Oper} (ho : ops[j]? = some o) (hr : ∀ e ∈ o.after, Region.binds md e = true → listed.getD e.on true = true) : ∀ i, i < j → listed.getD i true = true := by
  have key : ∀ d i, i + d = j → 0 < d → listed.getD i true = true := by
    intro d
    induction d using Nat.strongRecOn with
    | ind d ih =>
      intro i hd h0
      have h1 := List.all_eq_true.1 h i (List.mem_range.2 (by omega))
      obtain ⟨k, hk, h2⟩ := List.any_eq_true.1 h1
      have hk' := List.mem_range.1 hk
      simp only [Bool.and_eq_true, decide_eq_true_eq] at h2
      obtain ⟨hik, h3⟩ := h2
      cases hok : ops[k]? with
      | none => rw [hok] at h3; cases h3
      | some q =>
        rw [hok] at h3
        obtain ⟨x, hx, h4⟩ := Array.any_eq_true.1 h3
        simp only [Bool.and_eq_true, beq_iff_eq] at h4
        obtain ⟨hb, hon⟩ := h4
        by_cases e : k = j
        · subst e
          rw [ho] at hok
          injection hok with hok
          subst hok
          have := hr _ (Array.getElem_mem hx) hb
          rw [hon] at this; exact this
        · have hk2 := ih (j - k) (by omega) k (by omega) (by omega)
          have := hC k q hok hk2 _ (Array.getElem_mem hx) hb
          rw [hon] at this; exact this
  intro i hi
  exact key (j - i) i (by omega) (by omega)
theorem getD_set_self {listed : Array Bool} {i : Nat} (h : i < listed.size) : (listed.setIfInBounds i true).getD i true = true := by simp [h]
theorem getD_set_up {listed : Array Bool} {i n : Nat} (h : listed.getD n true = true) : (listed.setIfInBounds i true).getD n true = true := by
  by_cases e : i = n
  · subst e
    by_cases h5 : i < listed.size
    · simp [h5]
    · simp [h5]
  · rw [getD_set_ne true e]; exact h
theorem closed_set {listed : Array Bool} (hC : Closed md ops listed) {i : Nat} {o : Oper} (ho : ops[i]? = some o) (hr : ∀ e ∈ o.after, Region.binds md e = true → listed.getD e.on true = true) : Closed md ops (listed.setIfInBounds i true) := by
  intro k q hq hl e he hb
  by_cases ek : k = i
  · subst ek
    rw [ho] at hq
    injection hq with hq
    subst hq
    exact getD_set_up (hr e he hb)
  · rw [getD_set_ne true (Ne.symm ek)] at hl
    exact getD_set_up (hC k q hq hl e he hb)
theorem ready_getD {listed : Array Bool} (hB : onlyB ops = true) (hs : listed.size = ops.size) {i : Nat} {o : Oper} (ho : ops[i]? = some o) (hall : ∀ e ∈ o.after, Region.binds md e = true → listed.getD e.on false = true) : ∀ e ∈ o.after, Region.binds md e = true → listed.getD e.on true = true := by
  intro e he hb
  have h2 := hall e he hb
  have h3 := onlyB_at hB ho e he
  have h5 := (Array.getElem?_eq_some_iff.1 ho).1
  have h4 : e.on < listed.size := by omega
  simpa [h4] using h2

end
end Go.Proofs.YtgifflfjhockaaaGreatDoor

namespace Go.Proofs.YtgifflfjhockaaaGreatDoor
open Go.RowKit
section
variable {P : Program} {md : Region.Mode} {ops : Array Oper}

/-- No operation defers a call. -/
def noDefer (ops : Array Oper) : Bool := ops.all fun o => match o.op with
  | .defer _ => false
  | _ => true
theorem noDefer_at (h : noDefer ops = true) {i : Nat} {o : Oper} (ho : ops[i]? = some o) : ∀ c, o.op ≠ .defer c := by
  intro c e
  obtain ⟨hi, rfl⟩ := Array.getElem?_eq_some_iff.1 ho
  have := Array.all_eq_true.1 h i hi
  rw [e] at this
  cases this
theorem Oper.wpIn_of_yields {l n : Nat} {o : Oper} {a : Act} {w : World} {K' : Act → World → Prop} {Q' : Exit → Act → World → Prop} {R : Value → World → Prop} (hd : ∀ c, o.op ≠ .defer c) (h : yieldsK P o a w R) (hK : ∀ u w', R u w' → K' (a.put o.dst u) w') : o.wpIn (Fence.wide.inRound l) n P a w K' Q' := by
  refine ⟨fun _ _ => trivial, ?_⟩
  rw [Oper.semAt_eq _ _ _ hd]
  unfold yieldsK at h
  generalize (execOp a.eval o).run P w = r at *
  cases r with
  | ok n w' =>
    cases n <;> simp only [yieldsR] at h <;> simp only [Oper.uponIn]
    case value u => exact hK _ _ h
    case skip => exact hK _ _ h
    case enter f args => exact ⟨(fun hx => nomatch hx), CallsIn.inRound l (callsIn_wide.2 (h.mono fun e w'' ⟨u, he, hr⟩ => (by subst he; exact hK _ _ hr)))⟩
  | halt x w' => simp only [yieldsR] at h
end
end Go.Proofs.YtgifflfjhockaaaGreatDoor
