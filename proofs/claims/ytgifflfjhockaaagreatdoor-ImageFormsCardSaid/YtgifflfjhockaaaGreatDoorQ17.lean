/-
  What the laws' own one and alive answer. No conditions.
  ImageSums' walk: the sum of bytes hangs on no parting; one byte changed, it is another one; all noughts, it tells how many there are. Conditions: the bytes lie in memory.
  ImageTurned's walk: an image's bytes of which one was changed, or that were cut, or with one more behind, are no image's. Conditions: the image's lists lie in memory, each below 2^47.
  The document's bytes of images, and its Encode. Conditions: the image's lists lie in memory, and are no greater than statements go through.
  ImageForms' walk: whether an image may be, its bytes, what is read of bytes, and the sum of bytes, are the document's; all stays. Conditions: the image's lists, and the bytes, lie in memory.
  What the rows of opcode share where strings.Cut is called, or bytes come in: the wrap that keeps the world's shape beside the laid variables. No conditions.
  The arguments of the laws: functions, and lists of values, opened. No conditions.
  The arguments of the laws: images opened. No conditions.
-/
import Derived.ArgAppend
import Derived.Deep.OwnRows
import Derived.HandedShaped
import Derived.Shelf.Vars
import Derived.SizedLaws
import Derived.Test.YtgifflfjhockaaaGreatDoorQ15
import Derived.Test.YtgifflfjhockaaaGreatDoorQ13
import Derived.Test.YtgifflfjhockaaaGreatDoorQ6
import Derived.Test.YtgifflfjhockaaaGreatDoorQ16
import Derived.Test.YtgifflfjhockaaaGreatDoorQ9
import Derived.Test.YtgifflfjhockaaaGreatDoorQ5
namespace Go.Proofs.YtgifflfjhockaaaGreatDoor.I
open Go.RowKit W

/-- Bytes out of a constant: the conversion marks their block. -/
theorem marked {w : World} {cs : Array Value} {n : Nat} (l : List UInt8) (h : cs = (V.bvs l).toArray) (hn : l.length = n) :
    (convert 26 26 (.slice (some ⟨w.heap.size, 0, none⟩) n n)).run Tryz.prog (w.alloc (.cells cs 5)) = .ok (.slice (some ⟨w.heap.size, 0, none⟩) n n) ((w.alloc (.cells cs 5)).freeze ⟨w.heap.size, n, none⟩ 1) ∧
    V.Rd ((w.alloc (.cells cs 5)).freeze ⟨w.heap.size, n, none⟩ 1) (some ⟨w.heap.size, 0, none⟩) l ∧ Keep NoB w ((w.alloc (.cells cs 5)).freeze ⟨w.heap.size, n, none⟩ 1) := by
  subst h hn
  have hm := heap_alloc_new w (.cells (V.bvs l).toArray 5)
  have h1 := run_mark (n := l.length) (c := l.length) hm
  rw [show (V.bvs l).toArray.size = l.length by simp] at h1
  have hp := PtV.mark ⟨some ⟨w.heap.size, 0, none⟩, l.length, rfl, rdB_blk hm⟩ (freeze_mark (k := l.length) hm).1
  exact ⟨h1, hp.rd, keep_mark ((Keep.refl NoB w).alloc _) hm (Nat.le_refl _)⟩
theorem sum_one {w : World} {g : Nat} {A : Option Addr} {l : List UInt8} {n c : Nat} (h : Blk w g 26 #[.slice A n c]) (hr : V.Rd w A l) (hn : l.length = n) (hl : n ≤ 140737488355328) (R : Nat) (hR : sumN l = R) :
    Calls Tryz.prog 18 #[.slice (some ⟨g, 0, none⟩) 1 1] w fun e w' => e = .returned (.int .u32 (R : Int)) ∧ w = w' :=
  sum_any _ [(⟨A, n, c⟩, l)] 1 1 w (rd_single h) rfl (fun e he => by obtain rfl := List.mem_singleton.1 he; exact ⟨hr, hn⟩) (by omega) (fun e he => by obtain rfl := List.mem_singleton.1 he; exact hl) R (show _ = _ by simpa [allB] using hR)
end Go.Proofs.YtgifflfjhockaaaGreatDoor.I

namespace Go.Proofs.YtgifflfjhockaaaGreatDoor.I
open Go.RowKit W

/-- Bytes from a place on. -/
def fromA (B : Option Addr) (k c : Nat) : Option Addr := if c = k then B else B.map (·.add k)
theorem rd_from {w : World} {B : Option Addr} {l : List UInt8} {c : Nat} (h : V.Rd w B l) (hc : l.length ≤ c) (k : Nat) : V.Rd w (fromA B k c) (l.drop k) := fun h0 => by
  rw [List.length_drop] at h0
  obtain ⟨ad, rfl, _⟩ := h (by omega)
  unfold fromA
  rw [if_neg (by omega)]
  exact rd_dp h k (by rw [List.length_drop]; omega)
theorem run_from (B : Option Addr) (n c k : Nat) (hk : k ≤ n) (W : World) : (Instr.slice 26 (.slice B n c) (some (.int .i64 (k : Int))) none none).run Tryz.prog W = .ok (.slice (fromA B k c) (n - k) (c - k)) W := by
  have he : Tryz.prog.elem 26 = 5 := by kernel_rfl
  have hi : (Tryz.prog.info? 5).map (·.size) = some 1 := by kernel_rfl
  obtain ⟨i, hi1, hi2⟩ := Option.map_eq_some_iff.1 hi
  have h1 : (sizeOf 5).run Tryz.prog W = .ok 1 W := by simp [sizeOf, typeInfo, hi1, hi2]
  rw [run_slice_l (P := Tryz.prog) W 26 B n c (by rw [he]; exact Tryz.underlying26) .i64 k (by omega) (by omega), he, h1]
  simp only [Result.andThen, sliced, Int.toNat_natCast, Nat.mul_one]
  rfl
theorem own_rdI {w : World} {O : Nat → Prop} {A : Option Addr} {n c : Nat} {l : List UInt8} (h : V.OwnB w O (.slice A n c) l) : V.Rd w A l := by
  obtain ⟨A', c', e, _, hr, _⟩ := h.form
  cases e; exact hr
theorem own_appI {w0 w W : World} {v v' : Value} {l r : List UInt8} (hv : V.OwnB w (Fresh w0) v l) (hk : Keep NoB w0 w) (hown : W.ownsRow 0 5 1 v' (l ++ r).length (V.bvs (l ++ r))) (hg : w.grownBy W v.ownBlock) (hat : v'.ownBlock = v.ownBlock ∨ v'.ownBlock = some w.heap.size) :
    V.OwnB W (Fresh w0) v' (l ++ r) ∧ Keep NoB w0 W :=
  ⟨⟨hown, fun g e => by
    rcases hat with h | h
    · rw [h] at e; exact hv.2 g e
    · rw [h] at e; cases e; exact hk.size⟩, hk.grown hg (fun g e h => absurd (hv.2 g e) (by unfold Fresh; omega))⟩
end Go.Proofs.YtgifflfjhockaaaGreatDoor.I

namespace Go.Proofs.YtgifflfjhockaaaGreatDoor.I
open Go.RowKit W

/-- Bytes appended to owned ones. -/
theorem wpList_appN {ops : Array Oper} {rest : List Oper} {o : Oper} {a : Act} {Q : Exit → Act → World → Prop} {w w0 : World} (hgd : o.guard = none) (s x : Operand)
    (ho : o.op = .call { callee := .builtin .append, args := #[s, x], argTypes := #[26, 26] })
    (v : Value) (xs l : List UInt8) (A : Option Addr) (c m n q : Nat) (hs : a.eval s = v) (hO : V.OwnB w (Fresh w0) v xs) (hK : Keep NoB w0 w) (hx : a.eval x = .slice A n c) (hm : xs.length = m) (hn : l.length = n) (hr : V.Rd w A l)
    (hq : m + n = q) (hb : q ≤ 140737488355328)
    (h : ∀ A' c' w', Hid (V.OwnB w' (Fresh w0) (.slice A' q c') (xs ++ l)) → Hid (Keep NoB w0 w') → q ≤ c' → c' ≤ maxLen → wpList Tryz.prog ops Q rest (a.put o.dst (.slice A' q c')) w') :
    wpList Tryz.prog ops Q (o :: rest) a w := by
  subst hm hn hq
  refine V.wpList_append_rd w hgd s x ho v xs l A c hs hO.1 hx hr hb fun v' w' h2 h3 h4 => ?_
  obtain ⟨hO5, hK5⟩ := own_appI hO hK h2 h3 h4
  obtain ⟨A', c', e, hc, _, _, hcm⟩ := hO5.form
  subst e
  rw [List.length_append] at hO5 hc ⊢
  exact h A' c' w' (Lib.hid hO5) (Lib.hid hK5) hc hcm
end Go.Proofs.YtgifflfjhockaaaGreatDoor.I

namespace Go.Proofs.YtgifflfjhockaaaGreatDoor.I
open Go.RowKit W

set_option maxRecDepth 100000 in
/-- Bytes appended to bytes that fill their room. -/
theorem wpList_appG {ops : Array Oper} {rest : List Oper} {o : Oper} {a : Act} {Q : Exit → Act → World → Prop} {w w0 : World} (hgd : o.guard = none) (s x : Operand)
    (ho : o.op = .call { callee := .builtin .append, args := #[s, x], argTypes := #[26, 26] })
    (b : Nat) (xs l : List UInt8) (A : Option Addr) (c m n q : Nat) (hs : a.eval s = .slice (some ⟨b, 0, none⟩) m m) (hr0 : V.Rd w (some ⟨b, 0, none⟩) xs) (hm0 : 0 < m) (hK : Keep NoB w0 w) (hx : a.eval x = .slice A n c) (hm : xs.length = m) (hn : l.length = n) (hn0 : 0 < n) (hr : V.Rd w A l)
    (hq : m + n = q) (hb : q ≤ 140737488355328)
    (h : ∀ A' c' w', Hid (V.OwnB w' (Fresh w0) (.slice A' q c') (xs ++ l)) → Hid (Keep NoB w0 w') → q ≤ c' → c' ≤ maxLen → wpList Tryz.prog ops Q rest (a.put o.dst (.slice A' q c')) w') :
    wpList Tryz.prog ops Q (o :: rest) a w := by
  subst hm hn hq
  obtain ⟨i0, hi, hz0, hz1, hz2⟩ := info_parts byte_info
  obtain ⟨ad, rfl, hc⟩ := hr hn0
  obtain ⟨ad0, e0, hc0⟩ := hr0 hm0
  have hone : ∀ u ∈ V.bvs l, u.oneCell' = true := fun u hu => by
    obtain ⟨z, _, rfl⟩ := List.mem_map.1 hu; rfl
  refine wpList_append_grows w hgd s x 26 ho 5 i0 (.int .u8 0) 1 1 Tryz.underlying26 hi hz0 hz1 hz2 rfl (by decide) (some ⟨b, 0, none⟩) xs.length xs.length (V.bvs xs) hs (fun e => by cases e) (by simp) (fun b' e j u hu => by
    rw [e] at e0; injection e0 with e0; subst e0; exact hc0 j u hu) ad l.length c (V.bvs l) hx (by simp) hc hone (by omega) (by unfold maxLen; omega) (by omega) fun v' w' hown hg => ?_
  have hO : V.OwnB w' (Fresh w0) v' (xs ++ l) := by
    have h1 := Own.of_row (O := Fresh w0) hown (fun k hk => Nat.le_trans hK.size hk)
    refine ⟨?_, h1.2⟩
    have h2 := h1.1
    rw [← List.length_append, show V.bvs xs ++ V.bvs l = V.bvs (xs ++ l) by simp [V.bvs]] at h2
    exact h2
  obtain ⟨A', c', e, hcc, _, _, hcm⟩ := hO.form
  subst e
  rw [List.length_append] at hO hcc ⊢
  exact h A' c' w' (Lib.hid hO) (Lib.hid (hK.grown hg (fun g e => by cases e))) hcc hcm
theorem rtypesB_shape {W : World} {e : SE} (h : ShAt W e.1 e.2) (ho : S.okS e.2 = true) : Calls Tryz.prog 81 #[.slice e.1.A e.1.n e.1.c] W fun r w' => ∃ v, r = .returned v ∧ V.OwnB w' (Fresh W) v (S.bytesT e.2) ∧ Keep NoB W w' := by
  obtain ⟨h1, h2⟩ := (S.okS_iff _).1 ho
  refine S.rtypesB_any e.1.A e.2 e.1.n e.1.c W h.1 h.2 ?_ (by have := h.2; omega)
  show e.2.all knownB = true
  refine List.all_eq_true.2 fun t ht => ?_
  have := (S.held_iff t).1 (List.all_eq_true.1 h2 t ht)
  simp [knownB]
  omega
theorem take_le {α : Type} (l : List α) (k n : Nat) (h : l.length ≤ n) : (l.take k).length ≤ n := by rw [List.length_take]; omega

set_option maxRecDepth 100000 in
set_option maxHeartbeats 4000000 in
theorem rbytesI_any (v : IV) (es : List SE) (fs : List FE) (w : World) (h : ImAt w v es fs) (hs : SmI es fs) (ho : okI (imOf es fs) = true) :
    Calls Tryz.prog 41 #[v.val] w fun e w' => ∃ u, e = .returned u ∧ V.OwnB w' (Fresh w) u (bytesI (imOf es fs)) ∧ Keep NoB w w' := by
  have bx := Blk.new w 25 v.cells
  have gK := (Keep.refl NoB w).alloc (.cells v.cells 25)
  have HI := Lib.hid (fun W (hk : Keep NoB w W) => h.keepN hk)
  have hlx := h.lx
  have hly := h.ly
  have HSM := Lib.hid hs
  obtain ⟨g1, g2, g3, g4⟩ := okI_get ho
  have HS := Lib.hid g3
  have HF := Lib.hid g4
  rw [hlx] at g1
  rw [hly] at g2
  have HBS : Hid (∀ k, (wrBS v.nx (es.take k)).length ≤ 1300000) := fun k => by
    have := wrBS_len (n := v.nx) (l := es.take k) (fun e he => by have := bytesT_le (g3 e (List.mem_of_mem_take he)); omega)
    have := take_le es k 64 (by omega)
    omega
  have HBF : Hid (∀ k, (wrBF v.ny (fs.take k)).length ≤ 1300000) := fun k => by
    have := wrBF_len (n := v.ny) (l := fs.take k) (fun e he => by have := bytesF_le (g4 e (List.mem_of_mem_take he)); omega)
    have := take_le fs k 64 (by omega)
    omega
  have HEQ : Hid ((magicL ++ wrBS v.nx es) ++ wrBF v.ny fs = bodyI (imOf es fs)) := by
    show _ = _
    rw [wrBS_eq hlx, wrBF_eq hly, List.append_assoc]; rfl
  have HBY : Hid (bytesI (imOf es fs) = bodyI (imOf es fs) ++ four (sumN (bodyI (imOf es fs)))) := rfl
  have hl5 : magicL.length = 5 := rfl
  clear h hs ho g3 g4
  obtain ⟨X, nx, cx, Y, ny, cy⟩ := v
  dsimp only [IV.val, IV.cells] at *
  have e1 := V.encL_len nx
  have e2 := V.encL_len ny
  have e1p : 0 < (V.encL nx).length := (show 0 < (V.encL nx).length by rw [V.encL_length nx (by omega)]; exact V.wd_pos nx)
  have hw64 := C.wrap_n (n := nx) (by omega)
  have hw65 := C.wrap_n (n := ny) (by omega)
  obtain ⟨p0, p1⟩ := blk2 (v := ⟨X, nx, cx, Y, ny, cy⟩) bx
  dsimp only at p0 p1
  clear bx
  generalize hwb : w.alloc (.cells #[.slice X nx cx, .slice Y ny cy] 25) = wb at gK p0 p1
  obtain ⟨hcv, hrd, hkp⟩ := marked (w := wb) (cs := #[.int .u8 98, .int .u8 107, .int .u8 115, .int .u8 116, .int .u8 1]) (n := 5) magicL rfl rfl
  have q0 := hkp.cell p0 id
  have q1 := hkp.cell p1 id
  generalize World.freeze _ ⟨wb.heap.size, 5, none⟩ 1 = w1 at *
  have HN1 := Lib.hid (V.refnum_any nx w1 (show _ < _ by omega))
  go_enter Tryz.func41, Tryz.ntmps41
  go_wp2_with fail
  refine HN1.out.mono ?_
  rintro e w2 ⟨u2, rfl, h2, k2⟩
  obtain ⟨A2, c2, rfl, hc2, hr2, hadr, hcm2⟩ := h2.form
  have HR0 := Lib.hid (S.rd_n hrd k2)
  have HR2 := Lib.hid hr2
  have HK2 := Lib.hid (keepN hkp k2)
  clear h2 hr2 hadr k2 hrd hcv HN1 q0 q1 hkp hwb
  have HX1 : Hid (magicL ++ V.encL nx = magicL ++ wrBS nx (es.take 0)) := by show _ = _; simp [wrBS]
  generalize V.encL nx = en at *
  obtain ⟨L, hL⟩ : ∃ L, en.length = L := ⟨_, rfl⟩
  have HL := Lib.hid hL
  rw [hL] at e1 e1p hc2 ⊢
  clear hL
  go_wp2_with (at_builtin; refine wpList_appG rfl (.tmp 7) (.tmp 12) rfl wb.heap.size magicL en A2 c2 5 L (5 + L) rfl HR0.out (by omega) HK2.out rfl rfl HL.out e1p HR2.out rfl (by omega) ?_; intro A3 c3 w3 hO3 hK3 hc3 hcm3; rw [HX1.out] at hO3)
  go_loopw [3, 4] (fun v i wr => ∃ (k : Nat) (A : Option Addr) (c M : Nat), k ≤ nx ∧ i = .int .i64 k ∧ v = .slice A M c ∧ Hid (V.OwnB wr (Fresh wb) (.slice A M c) (magicL ++ wrBS nx (es.take k)) ∧ (magicL ++ wrBS nx (es.take k)).length = M ∧ Keep NoB wb wr)) (fun _ i _ => nx - (intOf i).toNat)
  case atStart => exact ⟨0, _, _, _, Nat.zero_le _, rfl, rfl, ⟨hO3.out, by rw [← HX1.out, List.length_append, HL.out]; rfl, hK3.out⟩⟩
  case round =>
    obtain ⟨k, A, c, M, hk, rfl, rfl, HO⟩ := hrel
    clear hO3 hK3 HX1 HR0 HR2 HK2
    have hM : M ≤ 1300005 := by have h1 := HO.out.2.1; have h2 := HBS.out k; rw [List.length_append] at h1; omega
    have s0 := HO.out.2.2.cell p0 id
    by_cases hlt : k < nx
    · have hke : k < es.length := by omega
      obtain ⟨g, off, rfl, d0⟩ := shape_at (HI.out wr (keepN gK HO.out.2.2)).rx hke
      have hsh := (HI.out wr (keepN gK HO.out.2.2)).hs _ (List.getElem_mem hke)
      have hok := HS.out _ (List.getElem_mem hke)
      have hok2 := (S.okS_iff _).1 hok
      have hb14 := bytesT_le hok
      have HT := Lib.hid (wrBS_take (n := nx) hke)
      have HC := Lib.hid (rtypesB_shape hsh hok)
      clear hsh hok hok2
      generalize es[k] = e at *
      obtain ⟨⟨A1, n1, c1⟩, l⟩ := e
      dsimp only at *
      generalize wrBS nx (es.take k) = pre at *
      go_wp2_with fail
      refine HC.out.mono ?_
      rintro e w5 ⟨u5, rfl, h5, k5⟩
      obtain ⟨A5, c5, rfl, hc5, hr5, hadr, hcm5⟩ := h5.form
      have HR5 := Lib.hid hr5
      have HO5 := Lib.hid (V.OwnB.keep HO.out.1 k5 (fun _ _ => id))
      have HK5 := Lib.hid (keepN HO.out.2.2 k5)
      have HM := Lib.hid HO.out.2.1
      clear h5 hr5 hadr k5 HO HC
      generalize S.bytesT l = tb at *
      obtain ⟨L5, hL5⟩ : ∃ L5, tb.length = L5 := ⟨_, rfl⟩
      have HL5 := Lib.hid hL5
      rw [hL5] at hb14 hc5 ⊢
      clear hL5
      go_wp2_with (at_builtin; refine wpList_appN rfl (.tmp 21) (.tmp 27) rfl (.slice A M c) (magicL ++ pre) tb A5 c5 M L5 (M + L5) rfl HO5.out HK5.out rfl HM.out HL5.out HR5.out rfl (by omega) ?_; intro A6 c6 w6 hO6 hK6 hc6 hcm6; rw [List.append_assoc, ← HT.out] at hO6)
      go_roundw
      case rel => exact ⟨k + 1, _, _, _, by omega, by go_num, rfl, ⟨hO6.out, by rw [HT.out, ← List.append_assoc, List.length_append, HM.out, HL5.out], hK6.out⟩⟩
      case measure => simp [intOf]; omega
    · obtain rfl : k = nx := by omega
      have hall : es.take k = es := List.take_of_length_le (by omega)
      rw [hall] at HO
      have HN2 := Lib.hid (V.refnum_any ny wr (show _ < _ by omega))
      have s1 := HO.out.2.2.cell p1 id
      clear hall hlt
      go_wp2_with fail
      refine HN2.out.mono ?_
      rintro e w2 ⟨u2, rfl, h2, k2⟩
      obtain ⟨A7, c7, rfl, hc7, hr7, hadr, hcm7⟩ := h2.form
      have HR7 := Lib.hid hr7
      have HO7 := Lib.hid (V.OwnB.keep HO.out.1 k2 (fun _ _ => id))
      have HK7 := Lib.hid (keepN HO.out.2.2 k2)
      have HM := Lib.hid HO.out.2.1
      clear h2 hr7 hadr k2 HO HN2 s0 s1
      have HX2 : Hid ((magicL ++ wrBS k es) ++ V.encL ny = (magicL ++ wrBS k es) ++ wrBF ny (fs.take 0)) := by show _ = _; simp [wrBF]
      generalize magicL ++ wrBS k es = pre at *
      generalize V.encL ny = en2 at *
      obtain ⟨L7, hL7⟩ : ∃ L7, en2.length = L7 := ⟨_, rfl⟩
      have HL7 := Lib.hid hL7
      rw [hL7] at e2 hc7 ⊢
      clear hL7
      go_wp2_with (at_builtin; refine wpList_appN rfl (.tmp 29) (.tmp 34) rfl (.slice A M c) pre en2 A7 c7 M L7 (M + L7) rfl HO7.out HK7.out rfl HM.out HL7.out HR7.out rfl (by omega) ?_; intro A8 c8 w8 hO8 hK8 hc8 hcm8; rw [HX2.out] at hO8)
      go_loopw [3, 5] (fun v i wr => ∃ (j : Nat) (A : Option Addr) (c M2 : Nat), j ≤ ny ∧ i = .int .i64 j ∧ v = .slice A M2 c ∧ Hid (V.OwnB wr (Fresh wb) (.slice A M2 c) (pre ++ wrBF ny (fs.take j)) ∧ (pre ++ wrBF ny (fs.take j)).length = M2 ∧ Keep NoB wb wr)) (fun _ i _ => ny - (intOf i).toNat)
      case atStart => exact ⟨0, _, _, _, Nat.zero_le _, rfl, rfl, ⟨hO8.out, by rw [← HX2.out, List.length_append, HL7.out, HM.out], hK8.out⟩⟩
      case round =>
        obtain ⟨j, A9, c9, M9, hj, rfl, rfl, HO⟩ := hrel
        clear hO8 hK8 HX2 HR7 HO7 HK7
        have hM9 : M9 ≤ 2600005 := by have h1 := HO.out.2.1; have h2 := HBF.out j; have h3 := HM.out; rw [List.length_append] at h1; omega
        have s1 := HO.out.2.2.cell p1 id
        by_cases hlt2 : j < ny
        · have hje : j < fs.length := by omega
          obtain ⟨g, off, rfl, d0, d1, d2, d3, d4⟩ := fun_at (HI.out wr (keepN gK HO.out.2.2)).ry hje
          have hfn := (HI.out wr (keepN gK HO.out.2.2)).hf _ (List.getElem_mem hje)
          have hsm := HSM.out.fn _ (List.getElem_mem hje)
          have hok := HF.out _ (List.getElem_mem hje)
          have hb14 := bytesF_le hok
          have HT := Lib.hid (wrBF_take (n := ny) hje)
          have HC := Lib.hid (F.rbytesF_any fs[j].1 fs[j].2 wr hfn hsm hok)
          clear hfn hsm hok
          generalize fs[j] = e at *
          obtain ⟨⟨S1, A1, na1, ca1, B1, nb1, cb1, L1, nl1, cl1, D1, nd1, cd1⟩, f⟩ := e
          dsimp only [F.FV.val, F.FV.cells] at *
          generalize wrBF ny (fs.take j) = pr2 at *
          go_wp2_with fail
          refine HC.out.mono ?_
          rintro e w5 ⟨u5, rfl, h5, k5⟩
          obtain ⟨A5, c5, rfl, hc5, hr5, hadr, hcm5⟩ := h5.form
          have HR5 := Lib.hid hr5
          have HO5 := Lib.hid (V.OwnB.keep HO.out.1 k5 (fun _ _ => id))
          have HK5 := Lib.hid (keepN HO.out.2.2 k5)
          have HM2 := Lib.hid HO.out.2.1
          clear h5 hr5 hadr k5 HO HC d0 d1 d2 d3 d4
          generalize F.bytesF f = tb at *
          obtain ⟨L5, hL5⟩ : ∃ L5, tb.length = L5 := ⟨_, rfl⟩
          have HL5 := Lib.hid hL5
          rw [hL5] at hb14 hc5 ⊢
          clear hL5
          go_wp2_with (at_builtin; refine wpList_appN rfl (.tmp 43) (.tmp 49) rfl (.slice A9 M9 c9) (pre ++ pr2) tb A5 c5 M9 L5 (M9 + L5) rfl HO5.out HK5.out rfl HM2.out HL5.out HR5.out rfl (by omega) ?_; intro A6 c6 w6 hO6 hK6 hc6 hcm6; rw [List.append_assoc, ← HT.out] at hO6)
          go_roundw
          case rel => exact ⟨j + 1, _, _, _, by omega, by go_num, rfl, ⟨hO6.out, by rw [HT.out, ← List.append_assoc, List.length_append, HM2.out, HL5.out], hK6.out⟩⟩
          case measure => simp [intOf]; omega
        · obtain rfl : j = ny := by omega
          have hall : fs.take j = fs := List.take_of_length_le (by omega)
          rw [hall] at HO
          rw [HEQ.out] at HO
          generalize bodyI (imOf es fs) = body at *
          have HS1 := Lib.hid (rsum_any A9 body M9 c9 wr (own_rdI HO.out.1) HO.out.2.1 (by omega) _ rfl)
          have hlt := sumN_lt body
          clear hall hlt2
          generalize sumN body = R at *
          go_wp2_with fail
          refine HS1.out.mono ?_
          rintro e w9 ⟨rfl, rfl⟩
          have HF4 := Lib.hid (four_any R wr hlt)
          clear HS1 s1
          go_wp2_with fail
          refine HF4.out.mono ?_
          rintro e w10 ⟨u10, rfl, h10, k10⟩
          obtain ⟨A10, c10, rfl, hc10, hr10, hadr, hcm10⟩ := h10.form
          have HR10 := Lib.hid hr10
          have HO10 := Lib.hid (V.OwnB.keep HO.out.1 k10 (fun _ _ => id))
          have HK10 := Lib.hid (keepN HO.out.2.2 k10)
          have HM2 := Lib.hid HO.out.2.1
          have HG := Lib.hid gK
          clear h10 hr10 hadr k10 HO HF4 gK p0 p1
          rw [four_length] at hc10 ⊢
          have HL4 := Lib.hid (four_length R)
          generalize four R = fr at *
          go_wp2_with (at_builtin; refine wpList_appN rfl (.tmp 51) (.tmp 54) rfl (.slice A9 M9 c9) body fr A10 c10 M9 4 (M9 + 4) rfl HO10.out HK10.out rfl HM2.out HL4.out HR10.out rfl (by omega) ?_; intro A6 c6 w6 hO6 hK6 hc6 hcm6)
          go_ret
          rw [HBY.out]
          exact ⟨_, rfl, hO6.out.mono (fun k hk _ => Nat.le_trans HG.out.size hk), keepN HG.out hK6.out⟩

set_option maxRecDepth 100000 in
set_option maxHeartbeats 2000000 in
theorem rencodeI_any (v : IV) (es : List SE) (fs : List FE) (w : World) (h : ImAt w v es fs) (hs : SmI es fs) :
    Calls Tryz.prog 14 #[v.val] w (S.EncR w (encI (imOf es fs)) (chkI (imOf es fs))) := by
  have bx := Blk.new w 25 v.cells
  have gK := (Keep.refl NoB w).alloc (.cells v.cells 25)
  have HC := Lib.hid (fun W (hk : Keep NoB w W) => rcheckI_any v es fs W (h.keepN hk) hs _ rfl)
  cases ho : okI (imOf es fs)
  · rw [chkI_no ho] at HC
    rw [chkI_no ho, encI_no ho]
    clear h hs ho
    obtain ⟨X, nx, cx, Y, ny, cy⟩ := v
    dsimp only [IV.val, IV.cells] at *
    obtain ⟨p0, p1⟩ := blk2 (v := ⟨X, nx, cx, Y, ny, cy⟩) bx
    dsimp only at p0 p1
    go_enter Tryz.func14, Tryz.ntmps14
    go_wp2_with fail
    refine (HC.out _ gK).mono ?_
    rintro e w1 ⟨rfl, k1⟩
    have HK := Lib.hid (keepN gK k1)
    clear bx p0 p1 k1
    go_wp2
    go_ret2
    exact ⟨_, rfl, V.OwnB.nil _ _, HK.out⟩
  · rw [chkI_ok ho] at HC
    rw [chkI_ok ho, encI_ok ho]
    have HB := Lib.hid (fun W (hk : Keep NoB w W) => rbytesI_any v es fs W (h.keepN hk) hs ho)
    clear h hs ho
    obtain ⟨X, nx, cx, Y, ny, cy⟩ := v
    dsimp only [IV.val, IV.cells] at *
    obtain ⟨p0, p1⟩ := blk2 (v := ⟨X, nx, cx, Y, ny, cy⟩) bx
    dsimp only at p0 p1
    go_enter Tryz.func14, Tryz.ntmps14
    go_wp2_with fail
    refine (HC.out _ gK).mono ?_
    rintro e w1 ⟨rfl, k1⟩
    replace p0 := k1.cell p0 id
    replace p1 := k1.cell p1 id
    replace gK := keepN gK k1
    clear bx k1
    go_wp2_with fail
    refine (HB.out _ gK).mono ?_
    rintro e w2 ⟨u, rfl, hu, k2⟩
    have HU := Lib.hid (hu.mono (O' := Fresh w) (fun k hk _ => Nat.le_trans gK.size hk))
    have HK := Lib.hid (keepN gK k2)
    obtain ⟨A2, c2, rfl, hc2, hr2, hadr, hcm2⟩ := hu.form
    clear hu k2 p0 p1 hr2 hadr gK
    generalize bytesI (imOf es fs) = body at *
    go_wp2
    go_ret2
    exact ⟨_, rfl, HU.out, HK.out⟩

end Go.Proofs.YtgifflfjhockaaaGreatDoor.I

namespace Go.Proofs.YtgifflfjhockaaaGreatDoor.I
open Go.RowKit W

/-- Images that are the same are as great. -/
theorem smI_same {w w' : World} {v v' : IV} {es es' : List SE} {fs fs' : List FE} (h : ImAt w v es fs) (hs : SmI es fs) (h' : ImAt w' v' es' fs') (he : imOf es' fs' = imOf es fs) : SmI es' fs' := by
  have h1 : (es'.map fun e => e.2) = es.map fun e => e.2 := congrArg Im.sh he
  have h2 : (fs'.map fun e => e.2) = fs.map fun e => e.2 := congrArg Im.fn he
  refine ⟨?_, ?_, fun e he => ?_, fun e he => ?_⟩
  · have := congrArg List.length h1; have := hs.ns; simp at *; omega
  · have := congrArg List.length h2; have := hs.nf; simp at *; omega
  · have hm : e.2 ∈ es.map fun e => e.2 := by rw [← h1]; exact List.mem_map.2 ⟨e, he, rfl⟩
    obtain ⟨q, hq, hqe⟩ := List.mem_map.1 hm
    have a := (h.hs q hq).2
    have b := (h'.hs e he).2
    have c := hs.sh q hq
    rw [hqe] at a
    omega
  · have hm : e.2 ∈ fs.map fun e => e.2 := by rw [← h2]; exact List.mem_map.2 ⟨e, he, rfl⟩
    obtain ⟨q, hq, hqe⟩ := List.mem_map.1 hm
    have a := h.hf q hq
    have b := h'.hf e he
    have c := hs.fn q hq
    rw [hqe] at a
    have e0 := F.sz_len b.nm
    have e1 := F.sz_len a.nm
    exact ⟨by have := c.sz; omega, by have := c.na; have := b.la; have := a.la; omega, by have := c.nb; have := b.lb; have := a.lb; omega, by have := c.nl; have := b.ll; have := a.ll; omega, by have := c.nd; have := b.ld; have := a.ld; omega⟩
theorem lg_of_sm {w : World} {v : IV} {es : List SE} {fs : List FE} (h : ImAt w v es fs) (hs : SmI es fs) : LgI v es fs := by
  have hx := h.lx
  have hy := h.ly
  exact ⟨by have := hs.ns; omega, by have := hs.nf; omega, fun e he => by have := hs.sh e he; omega, fun e he => (hs.fn e he).lg⟩
/-- What was read of bytes is no greater than statements go through. -/
theorem sm_dec {w : World} {v : IV} {es : List SE} {fs : List FE} {b : List UInt8} (h : ImAt w v es fs) (he : imOf es fs = (decI b).1) : SmI es fs := by
  rcases Classical.em ((decI b).2 = 0) with hE | hE
  · obtain ⟨hok, _⟩ := decI_ok hE
    rw [← he] at hok
    exact (sm_of h (okI_get hok)).1
  · have := decI_bad hE
    rw [← he] at this
    obtain rfl : es = [] := by have := congrArg (fun p => p.sh.length) this; simpa [imOf, nilI] using this
    obtain rfl : fs = [] := by have := congrArg (fun p => p.fn.length) this; simpa [imOf, nilI] using this
    exact ⟨by simp, by simp, (fun _ h => nomatch h), (fun _ h => nomatch h)⟩
theorem same_self (p : Im) : sameI p p = true := by unfold sameI; simp
/-- What lies in memory ahead of the law's region. -/
structure IB (W : World) (b0 b1 b2 b3 : Nat) (v o x y : IV) (es eo ex ey : List SE) (fs fo fx fy : List FE) (B RA P Q : Option Addr) (b xs : List UInt8) : Prop where
  k0 : Blk W b0 25 v.cells
  k1 : Blk W b1 25 o.cells
  k2 : Blk W b2 25 x.cells
  k3 : Blk W b3 25 y.cells
  i0 : ImAt W v es fs
  i1 : ImAt W o eo fo
  i2 : ImAt W x ex fx
  i3 : ImAt W y ey fy
  rb : V.Rd W B b
  rr : V.Rd W RA b
  rp : V.Rd W P xs
  rq : V.Rd W Q xs
theorem IB.keepN {W W' : World} {b0 b1 b2 b3 : Nat} {v o x y : IV} {es eo ex ey : List SE} {fs fo fx fy : List FE} {B RA P Q : Option Addr} {b xs : List UInt8} (h : IB W b0 b1 b2 b3 v o x y es eo ex ey fs fo fx fy B RA P Q b xs) (hk : Keep NoB W W') : IB W' b0 b1 b2 b3 v o x y es eo ex ey fs fo fx fy B RA P Q b xs :=
  ⟨h.k0.keep hk id, h.k1.keep hk id, h.k2.keep hk id, h.k3.keep hk id, h.i0.keepN hk, h.i1.keepN hk, h.i2.keepN hk, h.i3.keepN hk, S.rd_n h.rb hk, S.rd_n h.rr hk, S.rd_n h.rp hk, S.rd_n h.rq hk⟩
/-- What the values are that the law's region yields. -/
def SIF (E1 E2 : ByteArray) (xs : List UInt8) (v o x y : IV) (P Q B RA : Option Addr) (cp cq c ra n k R : Nat) (ck dE : Int) : Nat → Value → World → Prop
  | 0 => fun u _ => u = .slice P xs.length cp
  | 1 => fun u _ => u = .string E1
  | 2 => fun u _ => u = .slice Q xs.length cq
  | 3 => fun u _ => u = .string E1
  | 4 => fun u _ => u = .bool true
  | 5 => fun u _ => u = .bool true
  | 6 => fun u _ => u = .int .i64 ck
  | 7 => fun u _ => u = .int .i64 ck
  | 8 => fun u _ => u = .bool true
  | 9 => fun u _ => u = .bool true
  | 10 => fun u _ => u = .bool true
  | 11 => fun u _ => u = x.val
  | 12 => fun u _ => u = y.val
  | 13 => fun u _ => u = .bool true
  | 14 => fun u _ => u = .bool true
  | 15 => fun u _ => u = .bool true
  | 16 => fun u _ => u = .int .i64 dE
  | 17 => fun u _ => u = .int .i64 dE
  | 18 => fun u _ => u = .bool true
  | 19 => fun u _ => u = .bool true
  | 20 => fun u _ => u = .bool true
  | 21 => fun u _ => u = .slice RA n ra
  | 22 => fun u w => ∃ g, u = .slice (some ⟨g, 0, none⟩) 1 1 ∧ Blk w g 26 #[.slice RA n ra]
  | 23 => fun u _ => u = .int .u32 (R : Int)
  | 24 => fun u _ => u = .slice B n c
  | 25 => fun u _ => u = .int .u32 (R : Int)
  | 26 => fun u _ => u = .bool true
  | 27 => fun u _ => u = .bool true
  | 28 => fun u _ => u = .bool true
  | 29 => fun u _ => u = .slice RA n ra
  | 30 => fun u _ => u = .int .i64 (k : Int)
  | 31 => fun u _ => u = .slice RA k ra
  | 32 => fun u _ => u = .slice RA n ra
  | 33 => fun u _ => u = .int .i64 (k : Int)
  | 34 => fun u _ => u = .slice (fromA RA k ra) (n - k) (ra - k)
  | 35 => fun u w => ∃ g, u = .slice (some ⟨g, 0, none⟩) 3 3 ∧ Blk w g 26 #[.slice RA k ra, .slice none 0 0, .slice (fromA RA k ra) (n - k) (ra - k)]
  | 36 => fun u _ => u = .int .u32 (R : Int)
  | 37 => fun u _ => u = .slice B n c
  | 38 => fun u _ => u = .int .u32 (R : Int)
  | 39 => fun u _ => u = .bool true
  | 40 => fun u _ => u = .bool true
  | 41 => fun u _ => u = .bool true
  | 42 => fun u _ => u = o.val
  | 43 => fun u _ => u = .int .i64 ck
  | 44 => fun u _ => u = v.val
  | 45 => fun u _ => u = .int .i64 ck
  | 46 => fun u _ => u = .bool true
  | 47 => fun u _ => u = .bool true
  | 48 => fun u _ => u = .bool true
  | 49 => fun u _ => u = o.val
  | 50 => fun u _ => u = v.val
  | 51 => fun u _ => u = .bool true
  | 52 => fun u _ => u = .bool true
  | 53 => fun u _ => u = .bool true
  | 54 => fun u _ => u = .slice RA n ra
  | 55 => fun u _ => u = .string E2
  | 56 => fun u _ => u = .slice B n c
  | 57 => fun u _ => u = .string E2
  | 58 => fun u _ => u = .bool true
  | 59 => fun u _ => u = .bool true
  | 60 => fun u _ => u = .bool true
  | _ => fun _ _ => True
theorem SIF_stable (E1 E2 : ByteArray) (xs : List UInt8) (v o x y : IV) (P Q B RA : Option Addr) (cp cq c ra n k R : Nat) (ck dE : Int) (i : Nat) (u : Value) (w w' : World) (h : SIF E1 E2 xs v o x y P Q B RA cp cq c ra n k R ck dE i u w) (hk : Keep NoB w w') : SIF E1 E2 xs v o x y P Q B RA cp cq c ra n k R ck dE i u w' := by
  unfold SIF at h ⊢
  split at h <;> first | exact h | (obtain ⟨g, e, hb⟩ := h; exact ⟨g, e, hb.keep hk id⟩)

set_option maxRecDepth 100000 in
set_option maxHeartbeats 16000000 in
theorem forms_walk (v : IV) (es : List SE) (fs : List FE) (B : Option Addr) (b : List UInt8) (c at_ : Nat) (w : World) (h : ImAt w v es fs) (hl : LgI v es fs) (hr : V.Rd w B b) (hc : b.length ≤ c) (hB : ∀ ad, B = some ad → ad.block < w.heap.size) (hat : at_ < 65536) :
    Calls Tryz.prog 3 #[v.val, .slice B b.length c, .int .u16 (at_ : Int)] w fun e w' => e = .returned (.bool true) ∧ Keep NoB w w' := by
  have bx := Blk.new w 25 v.cells
  have gK := (Keep.refl NoB w).alloc (.cells v.cells 25)
  have HIV := Lib.hid (fun W (hk : Keep NoB w W) => (h.keepN hk : ImAt W v es fs))
  have HG := Lib.hid (fun W (hk : Keep NoB w W) => great_any v es fs W (h.keepN hk) hl)
  have HRB := Lib.hid (fun W (hk : Keep NoB w W) => S.rd_n (w' := W) hr hk)
  have HBL := Lib.hid hB
  obtain ⟨n, hn⟩ : ∃ n, b.length = n := ⟨_, rfl⟩
  have HN := Lib.hid hn
  rw [hn] at hc ⊢
  obtain ⟨k, hk⟩ : ∃ k, at_ % (n + 1) = k := ⟨_, rfl⟩
  have hkn : k ≤ n := by have := Nat.mod_lt at_ (show 0 < n + 1 by omega); omega
  have hrem : Int.tmod (at_ : Int) ((n : Int) + 1) = (k : Int) := by
    rw [show ((n : Int) + 1) = ((n + 1 : Nat) : Int) by omega, ← Int.ofNat_tmod, hk]
  have hz : ¬ ((n : Int) + 1 = 0) := by omega
  clear h hl hr hB hn hk
  obtain ⟨X, nx, cx, Y, ny, cy⟩ := v
  dsimp only [IV.val, IV.cells] at *
  obtain ⟨p0, p1⟩ := blk2 (v := ⟨X, nx, cx, Y, ny, cy⟩) bx
  dsimp only at p0 p1
  go_enter Tryz.func3, Tryz.ntmps3
  go_wp2_with fail
  refine (HG.out _ gK).mono ?_
  rintro e w2 ⟨hg, k2⟩
  replace bx := bx.keep k2 id
  replace gK := keepN gK k2
  clear k2 p0 p1 HG
  rcases hg with ⟨rfl, hg1, hg2⟩ | rfl
  rotate_left
  · clear bx
    go_wp2
    go_ret
    exact ⟨rfl, gK⟩
  clear hg2
  have HSM := Lib.hid hg1
  clear hg1
  by_cases hn2 : n ≤ 20000
  rotate_left
  · have hq : decide ((20000 : Int) < (n : Int)) = true := by rw [decide_eq_true_iff]; omega
    clear bx
    go_wp2
    go_ret
    exact ⟨rfl, gK⟩
  have hq : decide ((20000 : Int) < (n : Int)) = false := by rw [decide_eq_false_iff_not]; omega
  obtain ⟨p0, p1⟩ := blk2 (v := ⟨X, nx, cx, Y, ny, cy⟩) bx
  dsimp only at p0 p1
  have HTW := Lib.hid (fun W (hk : Keep NoB w W) => V.twin_any W B b c (HRB.out W hk) (by rw [HN.out]; omega))
  rw [HN.out] at HTW
  go_wp2_with fail
  refine (rcopyI_any ⟨X, nx, cx, Y, ny, cy⟩ es fs _ (HIV.out _ gK) HSM.out).mono ?_
  rintro e w3 ⟨o, eo, fo, rfl, hO, hOe, k3⟩
  replace bx := bx.keep k3 id
  replace gK := keepN gK k3
  clear k3 p0 p1
  have HSO := Lib.hid (smI_same (HIV.out _ gK) HSM.out hO.im hOe)
  have HOE := Lib.hid hOe
  have hOi := hO.im
  clear hO hOe
  obtain ⟨oX, onx, ocx, oY, ony, ocy⟩ := o
  dsimp only [IV.val, IV.cells] at *
  go_wp2_with fail
  refine (HTW.out _ gK).mono ?_
  rintro e w4 ⟨u4, rfl, h4, k4⟩
  obtain ⟨RA, ra, rfl, hrc, hrr, _, hrm⟩ := h4.form
  rw [HN.out] at hrc ⊢
  have b1 := Blk.new w4 25 #[.slice oX onx ocx, .slice oY ony ocy]
  have kA := (Keep.refl NoB w4).alloc (.cells #[.slice oX onx ocx, .slice oY ony ocy] 25)
  have kB := keepN k4 kA
  replace bx := bx.keep kB id
  replace gK := keepN gK kB
  replace hOi := hOi.keepN kB
  replace hrr := S.rd_n hrr kA
  clear h4 k4 kA kB HTW
  obtain ⟨y0, y1⟩ := blk2 (v := ⟨oX, onx, ocx, oY, ony, ocy⟩) b1
  dsimp only at y0 y1
  go_wp2_with fail
  refine (encode_any ⟨oX, onx, ocx, oY, ony, ocy⟩ eo fo _ hOi (lg_of_sm hOi HSO.out)).mono ?_
  rw [HOE.out]
  rintro e w5 ⟨u5, rfl, h5, k5⟩
  obtain ⟨P, cp, rfl, _, hrp, _, _⟩ := h5.form
  replace bx := bx.keep k5 id
  replace b1 := b1.keep k5 id
  replace gK := keepN gK k5
  replace hOi := hOi.keepN k5
  replace hrr := S.rd_n hrr k5
  clear h5 k5 y0 y1
  obtain ⟨p0, p1⟩ := blk2 (v := ⟨X, nx, cx, Y, ny, cy⟩) bx
  dsimp only at p0 p1
  go_wp2_with fail
  refine (rencodeI_any ⟨X, nx, cx, Y, ny, cy⟩ es fs _ (HIV.out _ gK) HSM.out).mono ?_
  rintro e w6 ⟨u6, rfl, h6, k6⟩
  obtain ⟨Q, cq, rfl, _, hrq, _, _⟩ := h6.form
  replace bx := bx.keep k6 id
  replace b1 := b1.keep k6 id
  replace gK := keepN gK k6
  replace hOi := hOi.keepN k6
  replace hrr := S.rd_n hrr k6
  replace hrp := S.rd_n hrp k6
  clear h6 k6 p0 p1
  obtain ⟨xs, hxs⟩ : ∃ xs, encI (imOf es fs) = xs := ⟨_, rfl⟩
  obtain ⟨ck, hck⟩ : ∃ ck, chkI (imOf es fs) = ck := ⟨_, rfl⟩
  rw [hxs] at hrp hrq ⊢
  rw [hck]
  have HCK := Lib.hid hck
  clear hxs hck
  have HDC := Lib.hid (fun W (hr : V.Rd W RA b) => decode_any RA b ra W hr (by rw [HN.out]; exact hrc) hrm (by rw [HN.out]; omega))
  have HRD := Lib.hid (fun W (hk : Keep NoB w W) => rdecodeI_any B b c W (HRB.out W hk) (by rw [HN.out]; exact hc) (fun ad e => Nat.lt_of_lt_of_le (HBL.out ad e) hk.size) (by rw [HN.out]; omega))
  rw [HN.out] at HDC HRD
  go_wp2_with fail
  refine (HDC.out _ hrr).mono ?_
  rintro e w7 ⟨x, ex, fx, rfl, hX, hXe, k7⟩
  have HSX := Lib.hid (And.intro hXe (sm_dec hX.im hXe))
  have hXi := hX.im
  clear hX hXe
  obtain ⟨xX, xnx, xcx, xY, xny, xcy⟩ := x
  dsimp only [IV.val, IV.cells] at *
  have b2 := Blk.new w7 25 #[.slice xX xnx xcx, .slice xY xny xcy]
  have kA := (Keep.refl NoB w7).alloc (.cells #[.slice xX xnx xcx, .slice xY xny xcy] 25)
  have kB := keepN k7 kA
  replace bx := bx.keep kB id
  replace b1 := b1.keep kB id
  replace gK := keepN gK kB
  replace hOi := hOi.keepN kB
  replace hXi := hXi.keepN kA
  replace hrr := S.rd_n hrr kB
  replace hrp := S.rd_n hrp kB
  replace hrq := S.rd_n hrq kB
  clear k7 kA kB HDC
  go_wp2_with fail
  refine (HRD.out _ gK).mono ?_
  rintro e w8 ⟨y, ey, fy, rfl, hY, hYe, k8⟩
  have HSY := Lib.hid (And.intro hYe (sm_dec hY.im hYe))
  have hYi := hY.im
  clear hY hYe
  obtain ⟨yX, ynx, ycx, yY, yny, ycy⟩ := y
  dsimp only [IV.val, IV.cells] at *
  have b3 := Blk.new w8 25 #[.slice yX ynx ycx, .slice yY yny ycy]
  have kA := (Keep.refl NoB w8).alloc (.cells #[.slice yX ynx ycx, .slice yY yny ycy] 25)
  have kB := keepN k8 kA
  have HIB : Hid (IB (w8.alloc (.cells #[.slice yX ynx ycx, .slice yY yny ycy] 25)) w.heap.size w4.heap.size w7.heap.size w8.heap.size ⟨X, nx, cx, Y, ny, cy⟩ ⟨oX, onx, ocx, oY, ony, ocy⟩ ⟨xX, xnx, xcx, xY, xny, xcy⟩ ⟨yX, ynx, ycx, yY, yny, ycy⟩ es eo ex ey fs fo fx fy B RA P Q b xs) :=
    ⟨bx.keep kB id, b1.keep kB id, b2.keep kB id, b3, HIV.out _ (keepN gK kB), hOi.keepN kB, hXi.keepN kB, hYi.keepN kA, HRB.out _ (keepN gK kB), S.rd_n hrr kB, S.rd_n hrp kB, S.rd_n hrq kB⟩
  have HGK := Lib.hid (keepN gK kB)
  clear k8 kA kB HRD bx b1 b2 b3 hOi hXi hYi hrr hrp hrq gK HIV HRB HBL
  generalize hw9 : w8.alloc (.cells #[.slice yX ynx ycx, .slice yY yny ycy] 25) = w9 at *
  obtain ⟨q00, q01⟩ := blk2 (v := ⟨X, nx, cx, Y, ny, cy⟩) HIB.out.k0
  obtain ⟨q10, q11⟩ := blk2 (v := ⟨oX, onx, ocx, oY, ony, ocy⟩) HIB.out.k1
  obtain ⟨q20, q21⟩ := blk2 (v := ⟨xX, xnx, xcx, xY, xny, xcy⟩) HIB.out.k2
  obtain ⟨q30, q31⟩ := blk2 (v := ⟨yX, ynx, ycx, yY, yny, ycy⟩) HIB.out.k3
  dsimp only at q00 q01 q10 q11 q20 q21 q30 q31
  obtain ⟨dE, hdE⟩ : ∃ dE, (decI b).2 = dE := ⟨_, rfl⟩
  rw [hdE]
  clear hdE
  obtain ⟨R, hR⟩ : ∃ R, sumN b = R := ⟨_, rfl⟩
  have HR := Lib.hid hR
  obtain ⟨E1, hE1⟩ : ∃ E1, V.str xs = E1 := ⟨_, rfl⟩
  have HCa := Lib.hid (fun W (hk : Keep NoB w9 W) => (show (convert 26 9 (.slice P xs.length cp)).run Tryz.prog W = .ok (.string E1) W by rw [← hE1]; exact V.conv_rd (S.rd_n HIB.out.rp hk)))
  have HCb := Lib.hid (fun W (hk : Keep NoB w9 W) => (show (convert 26 9 (.slice Q xs.length cq)).run Tryz.prog W = .ok (.string E1) W by rw [← hE1]; exact V.conv_rd (S.rd_n HIB.out.rq hk)))
  obtain ⟨E2, hE2⟩ : ∃ E2, V.str b = E2 := ⟨_, rfl⟩
  have HCc := Lib.hid (fun W (hk : Keep NoB w9 W) => (show (convert 26 9 (.slice RA b.length ra)).run Tryz.prog W = .ok (.string E2) W by rw [← hE2]; exact V.conv_rd (S.rd_n HIB.out.rr hk)))
  have HCd := Lib.hid (fun W (hk : Keep NoB w9 W) => (show (convert 26 9 (.slice B b.length c)).run Tryz.prog W = .ok (.string E2) W by rw [← hE2]; exact V.conv_rd (S.rd_n HIB.out.rb hk)))
  rw [HN.out] at HCc HCd
  clear hR hE1 hE2
  have hsl := fun W => run_from RA n ra k hkn W
  go_wp2_with fail
  clear hw9
  refine wp_region_props6 (fun i => [56, 57, 58, 59, 60, 61, 62, 63, 64, 65, 66, 67, 68, 69, 70, 71, 72, 73, 74, 75, 76, 77, 78, 79, 80, 81, 82, 83, 84, 85, 86, 87, 88, 89, 90, 91, 92, 93, 94, 95, 96, 97, 98, 99, 100, 101, 102, 103, 104, 105, 106, 107, 108, 109, 110, 111, 112, 113, 114, 115, 6].getD i 0) 9999 (NoB) (fun _ => false) (by kernel_rfl) (by kernel_rfl) (by kernel_rfl) (SIF E1 E2 xs ⟨X, nx, cx, Y, ny, cy⟩ ⟨oX, onx, ocx, oY, ony, ocy⟩ ⟨xX, xnx, xcx, xY, xny, xcy⟩ ⟨yX, ynx, ycx, yY, yny, ycy⟩ P Q B RA cp cq c ra n k R ck dE) (fun i u x y _ _ _ h hk => SIF_stable _ _ _ _ _ _ _ _ _ _ _ _ _ _ _ _ _ _ _ _ i u x y h (hk.mono (fun _ hf _ => hf))) (fun i u x y _ h hk => SIF_stable _ _ _ _ _ _ _ _ _ _ _ _ _ _ _ _ _ _ _ _ i u x y h hk) rfl ?step ?spec ?fin
  case step =>
    intro i o a w' hoo hic hF hK hA
    have hi : i < 61 := by simpa using (Array.getElem?_eq_some_iff.1 hoo).1
    by_cases h0 : i = 0
    · subst h0
      simp only [List.getElem?_toArray, List.getElem?_cons_zero, Option.some.injEq] at hoo
      subst hoo
      have e9 : a.tmps.getD 9 undef = .slice P xs.length cp := hF.2.2 9 (by decide)
      refine Does.plain rfl ?_
      unfold yieldsK
      go_simp
      exact ⟨rfl, Keep.refl _ _⟩
    by_cases h1 : i = 1
    · subst h1
      simp only [List.getElem?_toArray, List.getElem?_cons_zero, List.getElem?_cons_succ, Option.some.injEq] at hoo
      subst hoo
      have e56 : a.tmps.getD 56 undef = .slice P xs.length cp := hA ⟨0, .data⟩ (by simp) rfl
      have cv := HCa.out w' hK
      refine Does.plain rfl ?_
      unfold yieldsK
      go_simp
      exact ⟨rfl, Keep.refl _ _⟩
    by_cases h2 : i = 2
    · subst h2
      simp only [List.getElem?_toArray, List.getElem?_cons_zero, List.getElem?_cons_succ, Option.some.injEq] at hoo
      subst hoo
      have e11 : a.tmps.getD 11 undef = .slice Q xs.length cq := hF.2.2 11 (by decide)
      refine Does.plain rfl ?_
      unfold yieldsK
      go_simp
      exact ⟨rfl, Keep.refl _ _⟩
    by_cases h3 : i = 3
    · subst h3
      simp only [List.getElem?_toArray, List.getElem?_cons_zero, List.getElem?_cons_succ, Option.some.injEq] at hoo
      subst hoo
      have e58 : a.tmps.getD 58 undef = .slice Q xs.length cq := hA ⟨2, .data⟩ (by simp) rfl
      have cv := HCb.out w' hK
      refine Does.plain rfl ?_
      unfold yieldsK
      go_simp
      exact ⟨rfl, Keep.refl _ _⟩
    by_cases h4 : i = 4
    · subst h4
      simp only [List.getElem?_toArray, List.getElem?_cons_zero, List.getElem?_cons_succ, Option.some.injEq] at hoo
      subst hoo
      have e57 : a.tmps.getD 57 undef = .string E1 := hA ⟨1, .data⟩ (by simp) rfl
      have e59 : a.tmps.getD 59 undef = .string E1 := hA ⟨3, .data⟩ (by simp) rfl
      refine Does.plain rfl ?_
      unfold yieldsK
      go_simp
      exact ⟨rfl, Keep.refl _ _⟩
    by_cases h5 : i = 5
    · subst h5
      simp only [List.getElem?_toArray, List.getElem?_cons_zero, List.getElem?_cons_succ, Option.some.injEq] at hoo
      subst hoo
      have e60 : a.tmps.getD 60 undef = .bool true := hA ⟨4, .data⟩ (by simp) rfl
      refine Does.plain rfl ?_
      unfold yieldsK
      go_simp
      exact ⟨rfl, Keep.refl _ _⟩
    by_cases h6 : i = 6
    · subst h6
      simp only [List.getElem?_toArray, List.getElem?_cons_zero, List.getElem?_cons_succ, Option.some.injEq] at hoo
      subst hoo
      have e10 : a.tmps.getD 10 undef = .int .i64 ck := hF.2.2 10 (by decide)
      refine Does.yes (j := 5) (d := 61) (want := true) rfl rfl (hA ⟨5, .guard⟩ (by simp) rfl) ?_
      unfold yieldsK
      go_simp
      exact ⟨rfl, Keep.refl _ _⟩
    by_cases h7 : i = 7
    · subst h7
      simp only [List.getElem?_toArray, List.getElem?_cons_zero, List.getElem?_cons_succ, Option.some.injEq] at hoo
      subst hoo
      have e12 : a.tmps.getD 12 undef = .int .i64 ck := hF.2.2 12 (by decide)
      refine Does.yes (j := 5) (d := 61) (want := true) rfl rfl (hA ⟨5, .guard⟩ (by simp) rfl) ?_
      unfold yieldsK
      go_simp
      exact ⟨rfl, Keep.refl _ _⟩
    by_cases h8 : i = 8
    · subst h8
      simp only [List.getElem?_toArray, List.getElem?_cons_zero, List.getElem?_cons_succ, Option.some.injEq] at hoo
      subst hoo
      have e62 : a.tmps.getD 62 undef = .int .i64 ck := hA ⟨6, .data⟩ (by simp) rfl
      have e63 : a.tmps.getD 63 undef = .int .i64 ck := hA ⟨7, .data⟩ (by simp) rfl
      refine Does.yes (j := 5) (d := 61) (want := true) rfl rfl (hA ⟨5, .guard⟩ (by simp) rfl) ?_
      unfold yieldsK
      go_simp
      exact ⟨rfl, Keep.refl _ _⟩
    by_cases h9 : i = 9
    · subst h9
      simp only [List.getElem?_toArray, List.getElem?_cons_zero, List.getElem?_cons_succ, Option.some.injEq] at hoo
      subst hoo
      have e61 : a.tmps.getD 61 undef = .bool true := hA ⟨5, .data⟩ (by simp) rfl
      have e64 : a.tmps.getD 64 undef = .bool true := hA ⟨8, .data⟩ (by simp) rfl
      refine Does.plain rfl ?_
      unfold yieldsK
      go_simp
      exact ⟨rfl, Keep.refl _ _⟩
    by_cases h10 : i = 10
    · subst h10
      simp only [List.getElem?_toArray, List.getElem?_cons_zero, List.getElem?_cons_succ, Option.some.injEq] at hoo
      subst hoo
      have e65 : a.tmps.getD 65 undef = .bool true := hA ⟨9, .data⟩ (by simp) rfl
      refine Does.plain rfl ?_
      unfold yieldsK
      go_simp
      exact ⟨rfl, Keep.refl _ _⟩
    by_cases h11 : i = 11
    · subst h11
      simp only [List.getElem?_toArray, List.getElem?_cons_zero, List.getElem?_cons_succ, Option.some.injEq] at hoo
      subst hoo
      have e13 : a.tmps.getD 13 undef = .pointer (some ⟨w7.heap.size, 0, none⟩) := hF.2.2 13 (by decide)
      have c0 := Keep.cell hK q20 id
      have c1 := Keep.cell hK q21 id
      refine Does.yes (j := 10) (d := 66) (want := true) rfl rfl (hA ⟨10, .guard⟩ (by simp) rfl) ?_
      unfold yieldsK
      go_simp
      exact ⟨rfl, Keep.refl _ _⟩
    by_cases h12 : i = 12
    · subst h12
      simp only [List.getElem?_toArray, List.getElem?_cons_zero, List.getElem?_cons_succ, Option.some.injEq] at hoo
      subst hoo
      have e15 : a.tmps.getD 15 undef = .pointer (some ⟨w8.heap.size, 0, none⟩) := hF.2.2 15 (by decide)
      have c0 := Keep.cell hK q30 id
      have c1 := Keep.cell hK q31 id
      refine Does.yes (j := 10) (d := 66) (want := true) rfl rfl (hA ⟨10, .guard⟩ (by simp) rfl) ?_
      unfold yieldsK
      go_simp
      exact ⟨rfl, Keep.refl _ _⟩
    by_cases h13 : i = 13
    · subst h13
      simp only [List.getElem?_toArray, List.getElem?_cons_zero, List.getElem?_cons_succ, Option.some.injEq] at hoo
      subst hoo
      have e67 : a.tmps.getD 67 undef = .agg #[.slice xX xnx xcx, .slice xY xny xcy] := hA ⟨11, .data⟩ (by simp) rfl
      have e68 : a.tmps.getD 68 undef = .agg #[.slice yX ynx ycx, .slice yY yny ycy] := hA ⟨12, .data⟩ (by simp) rfl
      refine Does.yes (j := 10) (d := 66) (want := true) rfl rfl (hA ⟨10, .guard⟩ (by simp) rfl) ?_
      unfold yieldsK
      go_simp
      refine (rsame_any ⟨xX, xnx, xcx, xY, xny, xcy⟩ ⟨yX, ynx, ycx, yY, yny, ycy⟩ ex ey fx fy w' (HIB.out.i2.keepN hK) (HIB.out.i3.keepN hK) HSX.out.2 HSY.out.2).mono ?_
      rw [HSX.out.1, HSY.out.1, same_self]
      rintro e w9 ⟨rfl, h9⟩
      exact ⟨_, rfl, rfl, h9⟩
    by_cases h14 : i = 14
    · subst h14
      simp only [List.getElem?_toArray, List.getElem?_cons_zero, List.getElem?_cons_succ, Option.some.injEq] at hoo
      subst hoo
      have e66 : a.tmps.getD 66 undef = .bool true := hA ⟨10, .data⟩ (by simp) rfl
      have e69 : a.tmps.getD 69 undef = .bool true := hA ⟨13, .data⟩ (by simp) rfl
      refine Does.plain rfl ?_
      unfold yieldsK
      go_simp
      exact ⟨rfl, Keep.refl _ _⟩
    by_cases h15 : i = 15
    · subst h15
      simp only [List.getElem?_toArray, List.getElem?_cons_zero, List.getElem?_cons_succ, Option.some.injEq] at hoo
      subst hoo
      have e70 : a.tmps.getD 70 undef = .bool true := hA ⟨14, .data⟩ (by simp) rfl
      refine Does.plain rfl ?_
      unfold yieldsK
      go_simp
      exact ⟨rfl, Keep.refl _ _⟩
    by_cases h16 : i = 16
    · subst h16
      simp only [List.getElem?_toArray, List.getElem?_cons_zero, List.getElem?_cons_succ, Option.some.injEq] at hoo
      subst hoo
      have e14 : a.tmps.getD 14 undef = .int .i64 dE := hF.2.2 14 (by decide)
      refine Does.yes (j := 15) (d := 71) (want := true) rfl rfl (hA ⟨15, .guard⟩ (by simp) rfl) ?_
      unfold yieldsK
      go_simp
      exact ⟨rfl, Keep.refl _ _⟩
    by_cases h17 : i = 17
    · subst h17
      simp only [List.getElem?_toArray, List.getElem?_cons_zero, List.getElem?_cons_succ, Option.some.injEq] at hoo
      subst hoo
      have e16 : a.tmps.getD 16 undef = .int .i64 dE := hF.2.2 16 (by decide)
      refine Does.yes (j := 15) (d := 71) (want := true) rfl rfl (hA ⟨15, .guard⟩ (by simp) rfl) ?_
      unfold yieldsK
      go_simp
      exact ⟨rfl, Keep.refl _ _⟩
    by_cases h18 : i = 18
    · subst h18
      simp only [List.getElem?_toArray, List.getElem?_cons_zero, List.getElem?_cons_succ, Option.some.injEq] at hoo
      subst hoo
      have e72 : a.tmps.getD 72 undef = .int .i64 dE := hA ⟨16, .data⟩ (by simp) rfl
      have e73 : a.tmps.getD 73 undef = .int .i64 dE := hA ⟨17, .data⟩ (by simp) rfl
      refine Does.yes (j := 15) (d := 71) (want := true) rfl rfl (hA ⟨15, .guard⟩ (by simp) rfl) ?_
      unfold yieldsK
      go_simp
      exact ⟨rfl, Keep.refl _ _⟩
    by_cases h19 : i = 19
    · subst h19
      simp only [List.getElem?_toArray, List.getElem?_cons_zero, List.getElem?_cons_succ, Option.some.injEq] at hoo
      subst hoo
      have e71 : a.tmps.getD 71 undef = .bool true := hA ⟨15, .data⟩ (by simp) rfl
      have e74 : a.tmps.getD 74 undef = .bool true := hA ⟨18, .data⟩ (by simp) rfl
      refine Does.plain rfl ?_
      unfold yieldsK
      go_simp
      exact ⟨rfl, Keep.refl _ _⟩
    by_cases h20 : i = 20
    · subst h20
      simp only [List.getElem?_toArray, List.getElem?_cons_zero, List.getElem?_cons_succ, Option.some.injEq] at hoo
      subst hoo
      have e75 : a.tmps.getD 75 undef = .bool true := hA ⟨19, .data⟩ (by simp) rfl
      refine Does.plain rfl ?_
      unfold yieldsK
      go_simp
      exact ⟨rfl, Keep.refl _ _⟩
    by_cases h21 : i = 21
    · subst h21
      simp only [List.getElem?_toArray, List.getElem?_cons_zero, List.getElem?_cons_succ, Option.some.injEq] at hoo
      subst hoo
      have e8 : a.tmps.getD 8 undef = .slice RA n ra := hF.2.2 8 (by decide)
      refine Does.yes (j := 20) (d := 76) (want := true) rfl rfl (hA ⟨20, .guard⟩ (by simp) rfl) ?_
      unfold yieldsK
      go_simp
      exact ⟨rfl, Keep.refl _ _⟩
    by_cases h22 : i = 22
    · subst h22
      simp only [List.getElem?_toArray, List.getElem?_cons_zero, List.getElem?_cons_succ, Option.some.injEq] at hoo
      subst hoo
      have e77 : a.tmps.getD 77 undef = .slice RA n ra := hA ⟨21, .data⟩ (by simp) rfl
      refine Does.yes (j := 20) (d := 76) (want := true) rfl rfl (hA ⟨20, .guard⟩ (by simp) rfl) ?_
      unfold yieldsK
      simp only [Array.getD_eq_getD_getElem?] at e77
      go_simp
      exact ⟨⟨w'.heap.size, rfl, Blk.new _ _ _⟩, (Keep.refl _ _).alloc _⟩
    by_cases h23 : i = 23
    · subst h23
      simp only [List.getElem?_toArray, List.getElem?_cons_zero, List.getElem?_cons_succ, Option.some.injEq] at hoo
      subst hoo
      obtain ⟨g, e78, hb⟩ := hA ⟨22, .data⟩ (by simp) rfl
      have e78 : a.tmps.getD 78 undef = .slice (some ⟨g, 0, none⟩) 1 1 := e78
      refine Does.yes (j := 20) (d := 76) (want := true) rfl rfl (hA ⟨20, .guard⟩ (by simp) rfl) ?_
      unfold yieldsK
      go_simp
      refine (sum_one hb (S.rd_n HIB.out.rr hK) HN.out (by omega) R HR.out).mono ?_
      rintro e w9 ⟨rfl, rfl⟩
      exact ⟨_, rfl, rfl, Keep.refl _ _⟩
    by_cases h24 : i = 24
    · subst h24
      simp only [List.getElem?_toArray, List.getElem?_cons_zero, List.getElem?_cons_succ, Option.some.injEq] at hoo
      subst hoo
      have e1 : a.tmps.getD 1 undef = .slice B n c := hF.2.2 1 (by decide)
      refine Does.yes (j := 20) (d := 76) (want := true) rfl rfl (hA ⟨20, .guard⟩ (by simp) rfl) ?_
      unfold yieldsK
      go_simp
      exact ⟨rfl, Keep.refl _ _⟩
    by_cases h25 : i = 25
    · subst h25
      simp only [List.getElem?_toArray, List.getElem?_cons_zero, List.getElem?_cons_succ, Option.some.injEq] at hoo
      subst hoo
      have e80 : a.tmps.getD 80 undef = .slice B n c := hA ⟨24, .data⟩ (by simp) rfl
      refine Does.yes (j := 20) (d := 76) (want := true) rfl rfl (hA ⟨20, .guard⟩ (by simp) rfl) ?_
      unfold yieldsK
      go_simp
      refine (rsum_any B b n c w' (S.rd_n HIB.out.rb hK) HN.out (by omega) R HR.out).mono ?_
      rintro e w9 ⟨rfl, rfl⟩
      exact ⟨_, rfl, rfl, Keep.refl _ _⟩
    by_cases h26 : i = 26
    · subst h26
      simp only [List.getElem?_toArray, List.getElem?_cons_zero, List.getElem?_cons_succ, Option.some.injEq] at hoo
      subst hoo
      have e79 : a.tmps.getD 79 undef = .int .u32 (R : Int) := hA ⟨23, .data⟩ (by simp) rfl
      have e81 : a.tmps.getD 81 undef = .int .u32 (R : Int) := hA ⟨25, .data⟩ (by simp) rfl
      refine Does.yes (j := 20) (d := 76) (want := true) rfl rfl (hA ⟨20, .guard⟩ (by simp) rfl) ?_
      unfold yieldsK
      go_simp
      exact ⟨rfl, Keep.refl _ _⟩
    by_cases h27 : i = 27
    · subst h27
      simp only [List.getElem?_toArray, List.getElem?_cons_zero, List.getElem?_cons_succ, Option.some.injEq] at hoo
      subst hoo
      have e76 : a.tmps.getD 76 undef = .bool true := hA ⟨20, .data⟩ (by simp) rfl
      have e82 : a.tmps.getD 82 undef = .bool true := hA ⟨26, .data⟩ (by simp) rfl
      refine Does.plain rfl ?_
      unfold yieldsK
      go_simp
      exact ⟨rfl, Keep.refl _ _⟩
    by_cases h28 : i = 28
    · subst h28
      simp only [List.getElem?_toArray, List.getElem?_cons_zero, List.getElem?_cons_succ, Option.some.injEq] at hoo
      subst hoo
      have e83 : a.tmps.getD 83 undef = .bool true := hA ⟨27, .data⟩ (by simp) rfl
      refine Does.plain rfl ?_
      unfold yieldsK
      go_simp
      exact ⟨rfl, Keep.refl _ _⟩
    by_cases h29 : i = 29
    · subst h29
      simp only [List.getElem?_toArray, List.getElem?_cons_zero, List.getElem?_cons_succ, Option.some.injEq] at hoo
      subst hoo
      have e8 : a.tmps.getD 8 undef = .slice RA n ra := hF.2.2 8 (by decide)
      refine Does.yes (j := 28) (d := 84) (want := true) rfl rfl (hA ⟨28, .guard⟩ (by simp) rfl) ?_
      unfold yieldsK
      go_simp
      exact ⟨rfl, Keep.refl _ _⟩
    by_cases h30 : i = 30
    · subst h30
      simp only [List.getElem?_toArray, List.getElem?_cons_zero, List.getElem?_cons_succ, Option.some.injEq] at hoo
      subst hoo
      have e17 : a.tmps.getD 17 undef = .int .i64 (k : Int) := hF.2.2 17 (by decide)
      refine Does.yes (j := 28) (d := 84) (want := true) rfl rfl (hA ⟨28, .guard⟩ (by simp) rfl) ?_
      unfold yieldsK
      go_simp
      exact ⟨rfl, Keep.refl _ _⟩
    by_cases h31 : i = 31
    · subst h31
      simp only [List.getElem?_toArray, List.getElem?_cons_zero, List.getElem?_cons_succ, Option.some.injEq] at hoo
      subst hoo
      have e85 : a.tmps.getD 85 undef = .slice RA n ra := hA ⟨29, .data⟩ (by simp) rfl
      have e86 : a.tmps.getD 86 undef = .int .i64 (k : Int) := hA ⟨30, .data⟩ (by simp) rfl
      have hkc : (k : Int) ≤ (ra : Int) := by omega
      refine Does.yes (j := 28) (d := 84) (want := true) rfl rfl (hA ⟨28, .guard⟩ (by simp) rfl) ?_
      unfold yieldsK
      go_simp
      exact ⟨rfl, Keep.refl _ _⟩
    by_cases h32 : i = 32
    · subst h32
      simp only [List.getElem?_toArray, List.getElem?_cons_zero, List.getElem?_cons_succ, Option.some.injEq] at hoo
      subst hoo
      have e8 : a.tmps.getD 8 undef = .slice RA n ra := hF.2.2 8 (by decide)
      refine Does.yes (j := 28) (d := 84) (want := true) rfl rfl (hA ⟨28, .guard⟩ (by simp) rfl) ?_
      unfold yieldsK
      go_simp
      exact ⟨rfl, Keep.refl _ _⟩
    by_cases h33 : i = 33
    · subst h33
      simp only [List.getElem?_toArray, List.getElem?_cons_zero, List.getElem?_cons_succ, Option.some.injEq] at hoo
      subst hoo
      have e17 : a.tmps.getD 17 undef = .int .i64 (k : Int) := hF.2.2 17 (by decide)
      refine Does.yes (j := 28) (d := 84) (want := true) rfl rfl (hA ⟨28, .guard⟩ (by simp) rfl) ?_
      unfold yieldsK
      go_simp
      exact ⟨rfl, Keep.refl _ _⟩
    by_cases h34 : i = 34
    · subst h34
      simp only [List.getElem?_toArray, List.getElem?_cons_zero, List.getElem?_cons_succ, Option.some.injEq] at hoo
      subst hoo
      have e88 : a.tmps.getD 88 undef = .slice RA n ra := hA ⟨32, .data⟩ (by simp) rfl
      have e89 : a.tmps.getD 89 undef = .int .i64 (k : Int) := hA ⟨33, .data⟩ (by simp) rfl
      refine Does.yes (j := 28) (d := 84) (want := true) rfl rfl (hA ⟨28, .guard⟩ (by simp) rfl) ?_
      unfold yieldsK
      go_simp
      exact ⟨rfl, Keep.refl _ _⟩
    by_cases h35 : i = 35
    · subst h35
      simp only [List.getElem?_toArray, List.getElem?_cons_zero, List.getElem?_cons_succ, Option.some.injEq] at hoo
      subst hoo
      have e87 : a.tmps.getD 87 undef = .slice RA k ra := hA ⟨31, .data⟩ (by simp) rfl
      have e90 : a.tmps.getD 90 undef = .slice (fromA RA k ra) (n - k) (ra - k) := hA ⟨34, .data⟩ (by simp) rfl
      refine Does.yes (j := 28) (d := 84) (want := true) rfl rfl (hA ⟨28, .guard⟩ (by simp) rfl) ?_
      unfold yieldsK
      simp only [Array.getD_eq_getD_getElem?] at e87 e90
      go_simp
      exact ⟨⟨w'.heap.size, rfl, Blk.new _ _ _⟩, (Keep.refl _ _).alloc _⟩
    by_cases h36 : i = 36
    · subst h36
      simp only [List.getElem?_toArray, List.getElem?_cons_zero, List.getElem?_cons_succ, Option.some.injEq] at hoo
      subst hoo
      obtain ⟨g, e91, hb⟩ := hA ⟨35, .data⟩ (by simp) rfl
      have e91 : a.tmps.getD 91 undef = .slice (some ⟨g, 0, none⟩) 3 3 := e91
      refine Does.yes (j := 28) (d := 84) (want := true) rfl rfl (hA ⟨28, .guard⟩ (by simp) rfl) ?_
      unfold yieldsK
      go_simp
      refine (sum_any (some ⟨g, 0, none⟩) [(⟨RA, k, ra⟩, b.take k), (⟨none, 0, 0⟩, []), (⟨fromA RA k ra, n - k, ra - k⟩, b.drop k)] 3 3 w' (rd_three hb) rfl (fun e he => by
        simp only [List.mem_cons, List.not_mem_nil, or_false] at he
        have hr1 := S.rd_n HIB.out.rr hK
        have hbn := HN.out
        rcases he with rfl | rfl | rfl
        · exact ⟨rd_tk hr1 k, by rw [List.length_take]; show min k b.length = k; omega⟩
        · exact ⟨(fun h0 => absurd h0 (by simp)), rfl⟩
        · exact ⟨rd_from hr1 (by omega) k, by rw [List.length_drop, hbn]⟩) (by omega) (fun e he => by
        simp only [List.mem_cons, List.not_mem_nil, or_false] at he
        rcases he with rfl | rfl | rfl
        · show k ≤ _; omega
        · show (0 : Nat) ≤ _; omega
        · show n - k ≤ _; omega) R (by show _ = _; simpa [allB] using HR.out)).mono ?_
      rintro e w9 ⟨rfl, rfl⟩
      exact ⟨_, rfl, rfl, Keep.refl _ _⟩
    by_cases h37 : i = 37
    · subst h37
      simp only [List.getElem?_toArray, List.getElem?_cons_zero, List.getElem?_cons_succ, Option.some.injEq] at hoo
      subst hoo
      have e1 : a.tmps.getD 1 undef = .slice B n c := hF.2.2 1 (by decide)
      refine Does.yes (j := 28) (d := 84) (want := true) rfl rfl (hA ⟨28, .guard⟩ (by simp) rfl) ?_
      unfold yieldsK
      go_simp
      exact ⟨rfl, Keep.refl _ _⟩
    by_cases h38 : i = 38
    · subst h38
      simp only [List.getElem?_toArray, List.getElem?_cons_zero, List.getElem?_cons_succ, Option.some.injEq] at hoo
      subst hoo
      have e93 : a.tmps.getD 93 undef = .slice B n c := hA ⟨37, .data⟩ (by simp) rfl
      refine Does.yes (j := 28) (d := 84) (want := true) rfl rfl (hA ⟨28, .guard⟩ (by simp) rfl) ?_
      unfold yieldsK
      go_simp
      refine (rsum_any B b n c w' (S.rd_n HIB.out.rb hK) HN.out (by omega) R HR.out).mono ?_
      rintro e w9 ⟨rfl, rfl⟩
      exact ⟨_, rfl, rfl, Keep.refl _ _⟩
    by_cases h39 : i = 39
    · subst h39
      simp only [List.getElem?_toArray, List.getElem?_cons_zero, List.getElem?_cons_succ, Option.some.injEq] at hoo
      subst hoo
      have e92 : a.tmps.getD 92 undef = .int .u32 (R : Int) := hA ⟨36, .data⟩ (by simp) rfl
      have e94 : a.tmps.getD 94 undef = .int .u32 (R : Int) := hA ⟨38, .data⟩ (by simp) rfl
      refine Does.yes (j := 28) (d := 84) (want := true) rfl rfl (hA ⟨28, .guard⟩ (by simp) rfl) ?_
      unfold yieldsK
      go_simp
      exact ⟨rfl, Keep.refl _ _⟩
    by_cases h40 : i = 40
    · subst h40
      simp only [List.getElem?_toArray, List.getElem?_cons_zero, List.getElem?_cons_succ, Option.some.injEq] at hoo
      subst hoo
      have e84 : a.tmps.getD 84 undef = .bool true := hA ⟨28, .data⟩ (by simp) rfl
      have e95 : a.tmps.getD 95 undef = .bool true := hA ⟨39, .data⟩ (by simp) rfl
      refine Does.plain rfl ?_
      unfold yieldsK
      go_simp
      exact ⟨rfl, Keep.refl _ _⟩
    by_cases h41 : i = 41
    · subst h41
      simp only [List.getElem?_toArray, List.getElem?_cons_zero, List.getElem?_cons_succ, Option.some.injEq] at hoo
      subst hoo
      have e96 : a.tmps.getD 96 undef = .bool true := hA ⟨40, .data⟩ (by simp) rfl
      refine Does.plain rfl ?_
      unfold yieldsK
      go_simp
      exact ⟨rfl, Keep.refl _ _⟩
    by_cases h42 : i = 42
    · subst h42
      simp only [List.getElem?_toArray, List.getElem?_cons_zero, List.getElem?_cons_succ, Option.some.injEq] at hoo
      subst hoo
      have e7 : a.tmps.getD 7 undef = .pointer (some ⟨w4.heap.size, 0, none⟩) := hF.2.2 7 (by decide)
      have c0 := Keep.cell hK q10 id
      have c1 := Keep.cell hK q11 id
      refine Does.yes (j := 41) (d := 97) (want := true) rfl rfl (hA ⟨41, .guard⟩ (by simp) rfl) ?_
      unfold yieldsK
      go_simp
      exact ⟨rfl, Keep.refl _ _⟩
    by_cases h43 : i = 43
    · subst h43
      simp only [List.getElem?_toArray, List.getElem?_cons_zero, List.getElem?_cons_succ, Option.some.injEq] at hoo
      subst hoo
      have e98 : a.tmps.getD 98 undef = .agg #[.slice oX onx ocx, .slice oY ony ocy] := hA ⟨42, .data⟩ (by simp) rfl
      refine Does.yes (j := 41) (d := 97) (want := true) rfl rfl (hA ⟨41, .guard⟩ (by simp) rfl) ?_
      unfold yieldsK
      go_simp
      refine (check_any ⟨oX, onx, ocx, oY, ony, ocy⟩ eo fo w' (HIB.out.i1.keepN hK) (lg_of_sm HIB.out.i1 HSO.out) ck (by show _ = _; rw [HOE.out]; exact HCK.out)).mono ?_
      rintro e w9 ⟨rfl, h9⟩
      exact ⟨_, rfl, rfl, h9⟩
    by_cases h44 : i = 44
    · subst h44
      simp only [List.getElem?_toArray, List.getElem?_cons_zero, List.getElem?_cons_succ, Option.some.injEq] at hoo
      subst hoo
      have e3 : a.tmps.getD 3 undef = .pointer (some ⟨w.heap.size, 0, none⟩) := hF.2.2 3 (by decide)
      have c0 := Keep.cell hK q00 id
      have c1 := Keep.cell hK q01 id
      refine Does.yes (j := 41) (d := 97) (want := true) rfl rfl (hA ⟨41, .guard⟩ (by simp) rfl) ?_
      unfold yieldsK
      go_simp
      exact ⟨rfl, Keep.refl _ _⟩
    by_cases h45 : i = 45
    · subst h45
      simp only [List.getElem?_toArray, List.getElem?_cons_zero, List.getElem?_cons_succ, Option.some.injEq] at hoo
      subst hoo
      have e100 : a.tmps.getD 100 undef = .agg #[.slice X nx cx, .slice Y ny cy] := hA ⟨44, .data⟩ (by simp) rfl
      refine Does.yes (j := 41) (d := 97) (want := true) rfl rfl (hA ⟨41, .guard⟩ (by simp) rfl) ?_
      unfold yieldsK
      go_simp
      refine (rcheckI_any ⟨X, nx, cx, Y, ny, cy⟩ es fs w' (HIB.out.i0.keepN hK) HSM.out ck HCK.out).mono ?_
      rintro e w9 ⟨rfl, h9⟩
      exact ⟨_, rfl, rfl, h9⟩
    by_cases h46 : i = 46
    · subst h46
      simp only [List.getElem?_toArray, List.getElem?_cons_zero, List.getElem?_cons_succ, Option.some.injEq] at hoo
      subst hoo
      have e99 : a.tmps.getD 99 undef = .int .i64 ck := hA ⟨43, .data⟩ (by simp) rfl
      have e101 : a.tmps.getD 101 undef = .int .i64 ck := hA ⟨45, .data⟩ (by simp) rfl
      refine Does.yes (j := 41) (d := 97) (want := true) rfl rfl (hA ⟨41, .guard⟩ (by simp) rfl) ?_
      unfold yieldsK
      go_simp
      exact ⟨rfl, Keep.refl _ _⟩
    by_cases h47 : i = 47
    · subst h47
      simp only [List.getElem?_toArray, List.getElem?_cons_zero, List.getElem?_cons_succ, Option.some.injEq] at hoo
      subst hoo
      have e97 : a.tmps.getD 97 undef = .bool true := hA ⟨41, .data⟩ (by simp) rfl
      have e102 : a.tmps.getD 102 undef = .bool true := hA ⟨46, .data⟩ (by simp) rfl
      refine Does.plain rfl ?_
      unfold yieldsK
      go_simp
      exact ⟨rfl, Keep.refl _ _⟩
    by_cases h48 : i = 48
    · subst h48
      simp only [List.getElem?_toArray, List.getElem?_cons_zero, List.getElem?_cons_succ, Option.some.injEq] at hoo
      subst hoo
      have e103 : a.tmps.getD 103 undef = .bool true := hA ⟨47, .data⟩ (by simp) rfl
      refine Does.plain rfl ?_
      unfold yieldsK
      go_simp
      exact ⟨rfl, Keep.refl _ _⟩
    by_cases h49 : i = 49
    · subst h49
      simp only [List.getElem?_toArray, List.getElem?_cons_zero, List.getElem?_cons_succ, Option.some.injEq] at hoo
      subst hoo
      have e7 : a.tmps.getD 7 undef = .pointer (some ⟨w4.heap.size, 0, none⟩) := hF.2.2 7 (by decide)
      have c0 := Keep.cell hK q10 id
      have c1 := Keep.cell hK q11 id
      refine Does.yes (j := 48) (d := 104) (want := true) rfl rfl (hA ⟨48, .guard⟩ (by simp) rfl) ?_
      unfold yieldsK
      go_simp
      exact ⟨rfl, Keep.refl _ _⟩
    by_cases h50 : i = 50
    · subst h50
      simp only [List.getElem?_toArray, List.getElem?_cons_zero, List.getElem?_cons_succ, Option.some.injEq] at hoo
      subst hoo
      have e3 : a.tmps.getD 3 undef = .pointer (some ⟨w.heap.size, 0, none⟩) := hF.2.2 3 (by decide)
      have c0 := Keep.cell hK q00 id
      have c1 := Keep.cell hK q01 id
      refine Does.yes (j := 48) (d := 104) (want := true) rfl rfl (hA ⟨48, .guard⟩ (by simp) rfl) ?_
      unfold yieldsK
      go_simp
      exact ⟨rfl, Keep.refl _ _⟩
    by_cases h51 : i = 51
    · subst h51
      simp only [List.getElem?_toArray, List.getElem?_cons_zero, List.getElem?_cons_succ, Option.some.injEq] at hoo
      subst hoo
      have e105 : a.tmps.getD 105 undef = .agg #[.slice oX onx ocx, .slice oY ony ocy] := hA ⟨49, .data⟩ (by simp) rfl
      have e106 : a.tmps.getD 106 undef = .agg #[.slice X nx cx, .slice Y ny cy] := hA ⟨50, .data⟩ (by simp) rfl
      refine Does.yes (j := 48) (d := 104) (want := true) rfl rfl (hA ⟨48, .guard⟩ (by simp) rfl) ?_
      unfold yieldsK
      go_simp
      refine (rsame_any ⟨oX, onx, ocx, oY, ony, ocy⟩ ⟨X, nx, cx, Y, ny, cy⟩ eo es fo fs w' (HIB.out.i1.keepN hK) (HIB.out.i0.keepN hK) HSO.out HSM.out).mono ?_
      rw [HOE.out, same_self]
      rintro e w9 ⟨rfl, h9⟩
      exact ⟨_, rfl, rfl, h9⟩
    by_cases h52 : i = 52
    · subst h52
      simp only [List.getElem?_toArray, List.getElem?_cons_zero, List.getElem?_cons_succ, Option.some.injEq] at hoo
      subst hoo
      have e104 : a.tmps.getD 104 undef = .bool true := hA ⟨48, .data⟩ (by simp) rfl
      have e107 : a.tmps.getD 107 undef = .bool true := hA ⟨51, .data⟩ (by simp) rfl
      refine Does.plain rfl ?_
      unfold yieldsK
      go_simp
      exact ⟨rfl, Keep.refl _ _⟩
    by_cases h53 : i = 53
    · subst h53
      simp only [List.getElem?_toArray, List.getElem?_cons_zero, List.getElem?_cons_succ, Option.some.injEq] at hoo
      subst hoo
      have e108 : a.tmps.getD 108 undef = .bool true := hA ⟨52, .data⟩ (by simp) rfl
      refine Does.plain rfl ?_
      unfold yieldsK
      go_simp
      exact ⟨rfl, Keep.refl _ _⟩
    by_cases h54 : i = 54
    · subst h54
      simp only [List.getElem?_toArray, List.getElem?_cons_zero, List.getElem?_cons_succ, Option.some.injEq] at hoo
      subst hoo
      have e8 : a.tmps.getD 8 undef = .slice RA n ra := hF.2.2 8 (by decide)
      refine Does.yes (j := 53) (d := 109) (want := true) rfl rfl (hA ⟨53, .guard⟩ (by simp) rfl) ?_
      unfold yieldsK
      go_simp
      exact ⟨rfl, Keep.refl _ _⟩
    by_cases h55 : i = 55
    · subst h55
      simp only [List.getElem?_toArray, List.getElem?_cons_zero, List.getElem?_cons_succ, Option.some.injEq] at hoo
      subst hoo
      have e110 : a.tmps.getD 110 undef = .slice RA n ra := hA ⟨54, .data⟩ (by simp) rfl
      have cv := HCc.out w' hK
      refine Does.yes (j := 53) (d := 109) (want := true) rfl rfl (hA ⟨53, .guard⟩ (by simp) rfl) ?_
      unfold yieldsK
      go_simp
      exact ⟨rfl, Keep.refl _ _⟩
    by_cases h56 : i = 56
    · subst h56
      simp only [List.getElem?_toArray, List.getElem?_cons_zero, List.getElem?_cons_succ, Option.some.injEq] at hoo
      subst hoo
      have e1 : a.tmps.getD 1 undef = .slice B n c := hF.2.2 1 (by decide)
      refine Does.yes (j := 53) (d := 109) (want := true) rfl rfl (hA ⟨53, .guard⟩ (by simp) rfl) ?_
      unfold yieldsK
      go_simp
      exact ⟨rfl, Keep.refl _ _⟩
    by_cases h57 : i = 57
    · subst h57
      simp only [List.getElem?_toArray, List.getElem?_cons_zero, List.getElem?_cons_succ, Option.some.injEq] at hoo
      subst hoo
      have e112 : a.tmps.getD 112 undef = .slice B n c := hA ⟨56, .data⟩ (by simp) rfl
      have cv := HCd.out w' hK
      refine Does.yes (j := 53) (d := 109) (want := true) rfl rfl (hA ⟨53, .guard⟩ (by simp) rfl) ?_
      unfold yieldsK
      go_simp
      exact ⟨rfl, Keep.refl _ _⟩
    by_cases h58 : i = 58
    · subst h58
      simp only [List.getElem?_toArray, List.getElem?_cons_zero, List.getElem?_cons_succ, Option.some.injEq] at hoo
      subst hoo
      have e111 : a.tmps.getD 111 undef = .string E2 := hA ⟨55, .data⟩ (by simp) rfl
      have e113 : a.tmps.getD 113 undef = .string E2 := hA ⟨57, .data⟩ (by simp) rfl
      refine Does.yes (j := 53) (d := 109) (want := true) rfl rfl (hA ⟨53, .guard⟩ (by simp) rfl) ?_
      unfold yieldsK
      go_simp
      exact ⟨rfl, Keep.refl _ _⟩
    by_cases h59 : i = 59
    · subst h59
      simp only [List.getElem?_toArray, List.getElem?_cons_zero, List.getElem?_cons_succ, Option.some.injEq] at hoo
      subst hoo
      have e109 : a.tmps.getD 109 undef = .bool true := hA ⟨53, .data⟩ (by simp) rfl
      have e114 : a.tmps.getD 114 undef = .bool true := hA ⟨58, .data⟩ (by simp) rfl
      refine Does.plain rfl ?_
      unfold yieldsK
      go_simp
      exact ⟨rfl, Keep.refl _ _⟩
    by_cases h60 : i = 60
    · subst h60
      simp only [List.getElem?_toArray, List.getElem?_cons_zero, List.getElem?_cons_succ, Option.some.injEq] at hoo
      subst hoo
      have e115 : a.tmps.getD 115 undef = .bool true := hA ⟨59, .data⟩ (by simp) rfl
      refine Does.plain rfl ?_
      unfold yieldsK
      go_simp
      exact ⟨rfl, Keep.refl _ _⟩
    omega
  case spec =>
    intro o a w' hoo
    simp at hoo
  case fin =>
    intro a w' hF gK hA
    have e6 : a.tmps.getD 6 undef = .bool true := hA 60 (by decide)
    have ha := frameD_list (l := [56, 57, 58, 59, 60, 61, 62, 63, 64, 65, 66, 67, 68, 69, 70, 71, 72, 73, 74, 75, 76, 77, 78, 79, 80, 81, 82, 83, 84, 85, 86, 87, 88, 89, 90, 91, 92, 93, 94, 95, 96, 97, 98, 99, 100, 101, 102, 103, 104, 105, 106, 107, 108, 109, 110, 111, 112, 113, 114, 115, 6]) rfl hF
    rw [ha]
    simp only [List.map_cons, List.map_nil, e6]
    generalize a.tmps.getD 56 undef = u0
    generalize a.tmps.getD 57 undef = u1
    generalize a.tmps.getD 58 undef = u2
    generalize a.tmps.getD 59 undef = u3
    generalize a.tmps.getD 60 undef = u4
    generalize a.tmps.getD 61 undef = u5
    generalize a.tmps.getD 62 undef = u6
    generalize a.tmps.getD 63 undef = u7
    generalize a.tmps.getD 64 undef = u8
    generalize a.tmps.getD 65 undef = u9
    generalize a.tmps.getD 66 undef = u10
    generalize a.tmps.getD 67 undef = u11
    generalize a.tmps.getD 68 undef = u12
    generalize a.tmps.getD 69 undef = u13
    generalize a.tmps.getD 70 undef = u14
    generalize a.tmps.getD 71 undef = u15
    generalize a.tmps.getD 72 undef = u16
    generalize a.tmps.getD 73 undef = u17
    generalize a.tmps.getD 74 undef = u18
    generalize a.tmps.getD 75 undef = u19
    generalize a.tmps.getD 76 undef = u20
    generalize a.tmps.getD 77 undef = u21
    generalize a.tmps.getD 78 undef = u22
    generalize a.tmps.getD 79 undef = u23
    generalize a.tmps.getD 80 undef = u24
    generalize a.tmps.getD 81 undef = u25
    generalize a.tmps.getD 82 undef = u26
    generalize a.tmps.getD 83 undef = u27
    generalize a.tmps.getD 84 undef = u28
    generalize a.tmps.getD 85 undef = u29
    generalize a.tmps.getD 86 undef = u30
    generalize a.tmps.getD 87 undef = u31
    generalize a.tmps.getD 88 undef = u32
    generalize a.tmps.getD 89 undef = u33
    generalize a.tmps.getD 90 undef = u34
    generalize a.tmps.getD 91 undef = u35
    generalize a.tmps.getD 92 undef = u36
    generalize a.tmps.getD 93 undef = u37
    generalize a.tmps.getD 94 undef = u38
    generalize a.tmps.getD 95 undef = u39
    generalize a.tmps.getD 96 undef = u40
    generalize a.tmps.getD 97 undef = u41
    generalize a.tmps.getD 98 undef = u42
    generalize a.tmps.getD 99 undef = u43
    generalize a.tmps.getD 100 undef = u44
    generalize a.tmps.getD 101 undef = u45
    generalize a.tmps.getD 102 undef = u46
    generalize a.tmps.getD 103 undef = u47
    generalize a.tmps.getD 104 undef = u48
    generalize a.tmps.getD 105 undef = u49
    generalize a.tmps.getD 106 undef = u50
    generalize a.tmps.getD 107 undef = u51
    generalize a.tmps.getD 108 undef = u52
    generalize a.tmps.getD 109 undef = u53
    generalize a.tmps.getD 110 undef = u54
    generalize a.tmps.getD 111 undef = u55
    generalize a.tmps.getD 112 undef = u56
    generalize a.tmps.getD 113 undef = u57
    generalize a.tmps.getD 114 undef = u58
    generalize a.tmps.getD 115 undef = u59
    simp only [fillD, List.setIfInBounds_toArray, List.set_cons_zero, List.set_cons_succ]
    have HKF := Lib.hid (keepN HGK.out gK)
    clear hA hF ha e6 HIB HGK gK
    go_wp2
    go_ret
    exact ⟨rfl, HKF.out⟩

end Go.Proofs.YtgifflfjhockaaaGreatDoor.I

namespace Go.Proofs.YtgifflfjhockaaaGreatDoor.O
open Go.ChangeShapes Go.WideShapes Go.ChangeAt Go.RowKit

end Go.Proofs.YtgifflfjhockaaaGreatDoor.O

namespace Go.Proofs.YtgifflfjhockaaaGreatDoor.F
open Go.ChangeShapes Go.WideShapes Go.ChangeAt Go.RowKit Go.Deep W

section
variable {H : Type} {enc : TypeId × Value → H} {W0 : World} {base : Nat} {spare : Nat → Bool} {held : Bool} {fuel : Nat} {cs : List Value} {x : DataW H × List MemPlace}
theorem read_ints (h : DataW.trod enc Tryz.prog W0 base spare held fuel 55 cs = some x) : ∃ A l c, cs = [.slice A l.length c] ∧ Rd W0 A (ivs l) ∧ l.length ≤ c ∧ c ≤ maxLen := by
  rcases open_ints Tryz.underlying55 Tryz.underlying3 (by kernel_rfl) h with ⟨hcs, _⟩ | ⟨a, len, cap, zs, hcs, _, hl, hm, hz, _, hcell, _⟩
  · exact ⟨none, [], 0, hcs, Rd.none_ _ _, Nat.le_refl _, Nat.zero_le _⟩
  · have hzl : len ≤ zs.length := by rw [hz]; split <;> omega
    have hlen : (zs.take len).length = len := by rw [List.length_take]; omega
    refine ⟨some a, zs.take len, cap, by rw [hlen]; exact hcs, fun h0 => ?_, by rw [hlen]; exact hl, hm⟩
    have h0' : 0 < len := by rw [List.length_map, hlen] at h0; exact h0
    have ea := C.addr_of_cell (hcell 0 (by omega))
    have ea' : a = ⟨a.block, a.off, none⟩ := by simpa [Addr.add] using ea
    refine ⟨a.block, a.off, by rw [← ea'], fun j u hu => ?_⟩
    obtain ⟨hj, hju⟩ := List.getElem?_eq_some_iff.1 hu
    have hj' : j < len := by simp at hj; omega
    have hc := hcell j (by omega)
    rw [ea', C.add_of] at hc
    rw [hc]
    simp at hju
    rw [← hju]
    simp [List.getD, List.getElem?_eq_getElem (show j < zs.length by omega)]
end
section
variable {H : Type} {enc : TypeId × Value → H} {w : World} {base b0 : Nat} {spare : Nat → Bool} {held : Bool} {r : Reach} {v : Value} {d : DataW H} {p : List MemPlace}
end

end Go.Proofs.YtgifflfjhockaaaGreatDoor.F

namespace Go.Proofs.YtgifflfjhockaaaGreatDoor.I
open Go.ChangeShapes Go.WideShapes Go.ChangeAt Go.RowKit Go.Deep W

section
variable {H : Type} {enc : TypeId × Value → H} {W0 : World} {base : Nat} {spare : Nat → Bool} {held : Bool} {fuel : Nat} {cs : List Value} {x : DataW H × List MemPlace}
/-- What is read weighs no more than memory holds. -/
def Wt (t : TypeId) (d : DataW H) : Prop := ∀ k ∈ d.weights Tryz.prog t, k ≤ reachBytes
theorem wt_slice {t E : TypeId} {xs ys : List (DataW H)} (ht : Tryz.prog.underlying t = some (.slice E)) (hw : Wt t (.slice xs ys)) : (∀ d ∈ xs, Wt E d) ∧ (xs.length + ys.length) * Tryz.prog.bytesOf E ≤ reachBytes := by
  have all : ∀ (l : List (DataW H)) (d : DataW H), d ∈ l → ∀ k ∈ d.weights Tryz.prog E, k ∈ DataW.weightsAll Tryz.prog E l := by
    intro l
    induction l with
    | nil => intro d hd; cases hd
    | cons a l ih =>
      intro d hd k hk
      rw [DataW.weightsAll, List.mem_append]
      rcases List.mem_cons.1 hd with rfl | hd
      · exact .inl hk
      · exact .inr (ih d hd k hk)
  refine ⟨fun d hd k hk => hw k ?_, hw _ ?_⟩
  · simp only [DataW.weights, ht, List.mem_cons, List.mem_append]
    exact .inr (.inl (all xs d hd k hk))
  · simp only [DataW.weights, ht, List.mem_cons, true_or]
theorem wt_struct {t : TypeId} {fl : Array Field} {xs : List (DataW H)} (ht : Tryz.prog.underlying t = some (.struct fl)) (hw : Wt t (.agg xs)) {j : Nat} {f : Field} {d : DataW H} (hf : fl.toList[j]? = some f) (hd : xs[j]? = some d) : Wt f.type d := fun k hk => hw k (by
  simp only [DataW.weights, ht]
  exact DataW.weights_mem_each (j := j) (by simpa using congrArg (Option.map (·.type)) hf) hd k hk)
theorem wt_len {t E : TypeId} {A : Option Addr} {n c : Nat} (ht : Tryz.prog.underlying t = some (.slice E)) (hb : Nat.ble 1 (Tryz.prog.bytesOf E) = true) (h : DataW.trod enc Tryz.prog W0 base spare held fuel t [.slice A n c] = some x) (hw : Wt t x.1) : n ≤ 140737488355328 := by
  have hr : reachBytes ≤ 140737488355328 := by decide
  rcases open_slice ht h with ⟨hcs, _⟩ | ⟨a, len, cap, m, k, D, Pl, hcs, _, hl, hm, hmm, hx, _⟩
  · simp only [List.cons.injEq, Value.slice.injEq, and_true] at hcs; omega
  · simp only [List.cons.injEq, Value.slice.injEq, and_true] at hcs
    obtain ⟨_, rfl, _⟩ := hcs
    subst hx
    have h2 := (wt_slice ht hw).2
    simp only [List.length_map, List.length_range] at h2
    have h3 : n * 1 ≤ (n + (m - n)) * Tryz.prog.bytesOf E := Nat.mul_le_mul (Nat.le_add_right _ _) (Nat.le_of_ble_eq_true hb)
    omega
theorem read_shape (h : DataW.trod enc Tryz.prog W0 base spare held fuel 58 cs = some x) : ∃ e : SE, cs = [e.1.val] ∧ ShAt W0 e.1 e.2 ∧ e.1.n ≤ maxLen := by
  rcases open_ints Tryz.underlying58 Tryz.underlying3 (by kernel_rfl) h with ⟨hcs, _⟩ | ⟨a, len, cap, zs, hcs, _, hl, hm, hz, _, hcell, _⟩
  · exact ⟨(⟨none, 0, 0⟩, []), hcs, ⟨Rd.none_ _ _, rfl⟩, Nat.zero_le _⟩
  · have hzl : len ≤ zs.length := by rw [hz]; split <;> omega
    have hlen : (zs.take len).length = len := by rw [List.length_take]; omega
    refine ⟨(⟨some a, len, cap⟩, zs.take len), hcs, ⟨fun h0 => ?_, hlen⟩, Nat.le_trans hl hm⟩
    have h0' : 0 < len := by rw [List.length_map, hlen] at h0; exact h0
    have ea := C.addr_of_cell (hcell 0 (by omega))
    have ea' : a = ⟨a.block, a.off, none⟩ := by simpa [Addr.add] using ea
    refine ⟨a.block, a.off, by dsimp only; rw [← ea'], fun j u hu => ?_⟩
    obtain ⟨hj, hju⟩ := List.getElem?_eq_some_iff.1 hu
    have hj' : j < len := by simp at hj; omega
    have hc := hcell j (by omega)
    rw [ea', C.add_of] at hc
    rw [hc]
    simp at hju
    rw [← hju]
    simp [List.getD, List.getElem?_eq_getElem (show j < zs.length by omega)]
set_option maxRecDepth 100000 in
theorem read_fun (hsz : cs.length = 5) (h : DataW.trod enc Tryz.prog W0 base spare held fuel 61 cs = some x) : ∃ e : FE, cs = e.1.cells.toList ∧ F.FnAt W0 e.1 e.2 ∧ (Wt 61 x.1 → F.LgF e.1) := by
  have k9 : Tryz.prog.cellsOf 9 = 1 := by kernel_rfl
  have k24 : Tryz.prog.cellsOf 57 = 2 := by kernel_rfl
  have k22 : Tryz.prog.cellsOf 55 = 1 := by kernel_rfl
  have k25 : Tryz.prog.cellsOf 59 = 1 := by kernel_rfl
  match cs, hsz with
  | [c0, c1, c2, c3, c4], _ =>
  obtain ⟨y0, y1, y2, y3, n, rfl, _, h0, h1, h2, h3⟩ := Joins.trod_struct4 Tryz.underlying61 h
  simp only [k9, k24, k22, k25, List.drop_zero, List.drop_succ_cons, List.take_succ_cons, List.take_zero] at h0 h1 h2 h3
  obtain ⟨s0, e0, x0, _⟩ := DataW.trod_string Tryz.underlying9 h0
  obtain ⟨z0, z1, n1, x1, _, g0, g1⟩ := trod_struct2 Tryz.underlying57 h1
  simp only [k22, List.drop_zero, List.drop_succ_cons, List.take_succ_cons, List.take_zero] at g0 g1
  obtain ⟨A, a, ca, e1, ra, _, _⟩ := F.read_ints g0
  obtain ⟨B, b, cb, e2, rb, _, _⟩ := F.read_ints g1
  obtain ⟨L, l, cl, e3, rl, _, _⟩ := F.read_ints h2
  obtain ⟨D, bd, cd, e4, rd, _, _, hI⟩ := C.read_insts h3
  simp only [List.cons.injEq, and_true] at e0 e1 e2 e3 e4
  subst e0 e1 e2 e3 e4
  refine ⟨(⟨s0, A, a.length, ca, B, b.length, cb, L, l.length, cl, D, bd.length, cd⟩, ⟨s0.data.toList, a, b, l, bd⟩), rfl, ⟨rfl, ra, rb, rl, rd, rfl, rfl, rfl, rfl, hI⟩, fun hw => ?_⟩
  have w0 := wt_struct (j := 0) Tryz.underlying61 hw rfl rfl
  have w1 := wt_struct (j := 1) Tryz.underlying61 hw rfl rfl
  have w2 := wt_struct (j := 2) Tryz.underlying61 hw rfl rfl
  have w3 := wt_struct (j := 3) Tryz.underlying61 hw rfl rfl
  subst x0 x1
  have v0 := wt_struct (j := 0) Tryz.underlying57 w1 rfl rfl
  have v1 := wt_struct (j := 1) Tryz.underlying57 w1 rfl rfl
  refine ⟨?_, wt_len Tryz.underlying55 (by kernel_rfl) g0 v0, wt_len Tryz.underlying55 (by kernel_rfl) g1 v1, wt_len Tryz.underlying55 (by kernel_rfl) h2 w2, wt_len Tryz.underlying59 (by kernel_rfl) h3 w3⟩
  have := w0 s0.data.toList.length (by simp [DataW.weights])
  have hr : reachBytes ≤ 140737488355328 := by decide
  have e : s0.data.toList.length = s0.size := Array.length_toList
  dsimp only
  omega
theorem add_zero_addr (a : Addr) : a.add 0 = a := by simp [Addr.add]
set_option maxRecDepth 100000 in
theorem read_shapes (h : DataW.trod enc Tryz.prog W0 base spare held fuel 22 cs = some x) : ∃ X, ∃ es : List SE, ∃ c, cs = [.slice X es.length c] ∧ Rd W0 X (svs es) ∧ (∀ e ∈ es, ShAt W0 e.1 e.2 ∧ e.1.n ≤ maxLen) ∧ es.length ≤ c ∧ c ≤ maxLen ∧ (Wt 22 x.1 → ∀ e ∈ es, e.1.n ≤ 140737488355328) := by
  rcases open_slice Tryz.underlying22 h with ⟨hcs, _⟩ | ⟨a, len, cap, m, n, D, Pl, hcs, _, hl, hm, hmm, rfl, hi⟩
  · exact ⟨none, [], 0, hcs, Rd.none_ _ _, (fun _ h => nomatch h), Nat.le_refl _, Nat.zero_le _, fun _ _ h => nomatch h⟩
  · have hlm : len ≤ m := by rw [hmm]; split <;> omega
    have c1 : Tryz.prog.cellsOf 58 = 1 := by kernel_rfl
    have each : ∀ i : Nat, ∃ e : SE, i < len → W0.cell? (a.add i) = some e.1.val ∧ (ShAt W0 e.1 e.2 ∧ e.1.n ≤ maxLen) ∧ (Wt 58 (D i) → e.1.n ≤ 140737488355328) := by
      intro i
      by_cases hlt : i < len
      · obtain ⟨cs', hc, ht'⟩ := hi i (by omega)
        rw [c1, Nat.mul_one] at hc
        obtain ⟨e, he, hs, hn⟩ := read_shape ht'
        obtain ⟨_, hcl, hat⟩ := World.cells?_some hc
        have g0 := hat 0 (by omega)
        refine ⟨e, fun _ => ⟨?_, ⟨hs, hn⟩, fun hw => ?_⟩⟩
        rotate_left
        · rw [he] at ht'
          exact wt_len Tryz.underlying58 (by kernel_rfl) ht' hw
        rw [he] at g0
        rw [add_zero_addr] at g0
        simpa using g0
      · exact ⟨(⟨none, 0, 0⟩, []), fun h => absurd h hlt⟩
    obtain ⟨f, hf⟩ := Classical.axiomOfChoice each
    have hlen : ((List.range len).map f).length = len := by simp
    refine ⟨some a, (List.range len).map f, cap, by rw [hlen]; exact hcs, fun h0 => ?_, fun e he => ?_, by rw [hlen]; exact hl, hm, fun hw e he => ?_⟩
    · have h0' : 0 < len := by rw [svs_length, hlen] at h0; omega
      have ea := C.addr_of_cell (hf 0 h0').1
      have ea' : a = ⟨a.block, a.off, none⟩ := by simpa [Addr.add] using ea
      refine ⟨a.block, a.off, by rw [← ea'], fun j u hu => ?_⟩
      have hj : j < len := by have := (List.getElem?_eq_some_iff.1 hu).1; rw [svs_length, hlen] at this; exact this
      have q0 := svs_at ((List.range len).map f) j (by rw [hlen]; exact hj)
      have k0 := (hf j hj).1
      rw [ea', C.add_of] at k0
      rw [q0] at hu
      simp only [List.getElem_map, List.getElem_range] at hu
      rw [k0]; exact hu
    · obtain ⟨i, hi', rfl⟩ := List.mem_map.1 he
      exact (hf i (List.mem_range.1 hi')).2.1
    · obtain ⟨i, hi', rfl⟩ := List.mem_map.1 he
      exact (hf i (List.mem_range.1 hi')).2.2 ((wt_slice Tryz.underlying22 hw).1 _ (List.mem_map.2 ⟨i, hi', rfl⟩))
set_option maxRecDepth 100000 in
theorem read_funs (h : DataW.trod enc Tryz.prog W0 base spare held fuel 23 cs = some x) : ∃ Y, ∃ fs : List FE, ∃ c, cs = [.slice Y fs.length c] ∧ Rd W0 Y (fvs fs) ∧ (∀ e ∈ fs, F.FnAt W0 e.1 e.2) ∧ fs.length ≤ c ∧ c ≤ maxLen ∧ (Wt 23 x.1 → ∀ e ∈ fs, F.LgF e.1) := by
  rcases open_slice Tryz.underlying23 h with ⟨hcs, _⟩ | ⟨a, len, cap, m, n, D, Pl, hcs, _, hl, hm, hmm, rfl, hi⟩
  · exact ⟨none, [], 0, hcs, Rd.none_ _ _, (fun _ h => nomatch h), Nat.le_refl _, Nat.zero_le _, fun _ _ h => nomatch h⟩
  · have hlm : len ≤ m := by rw [hmm]; split <;> omega
    have c5 : Tryz.prog.cellsOf 61 = 5 := by kernel_rfl
    have each : ∀ i : Nat, ∃ e : FE, i < len → (∀ j u, e.1.cells.toList[j]? = some u → W0.cell? ((a.add (i * 5)).add j) = some u) ∧ F.FnAt W0 e.1 e.2 ∧ (Wt 61 (D i) → F.LgF e.1) := by
      intro i
      by_cases hlt : i < len
      · obtain ⟨cs', hc, ht'⟩ := hi i (by omega)
        rw [c5] at hc
        obtain ⟨_, hcl, hat⟩ := World.cells?_some hc
        obtain ⟨e, rfl, hs⟩ := read_fun hcl ht'
        refine ⟨e, fun _ => ⟨fun j u hu => ?_, hs⟩⟩
        have hj : j < 5 := by rw [← hcl]; exact (List.getElem?_eq_some_iff.1 hu).1
        rw [hat j hj]; exact hu
      · exact ⟨(F.nilV, F.nilF), fun h => absurd h hlt⟩
    obtain ⟨f, hf⟩ := Classical.axiomOfChoice each
    have hlen : ((List.range len).map f).length = len := by simp
    refine ⟨some a, (List.range len).map f, cap, by rw [hlen]; exact hcs, fun h0 => ?_, fun e he => ?_, by rw [hlen]; exact hl, hm, fun hw e he => ?_⟩
    · have h0' : 0 < len := by rw [fvs_length, hlen] at h0; omega
      have ea := C.addr_of_cell ((hf 0 h0').1 0 _ rfl)
      have ea' : a = ⟨a.block, a.off, none⟩ := by simpa [Addr.add] using ea
      refine ⟨a.block, a.off, by rw [← ea'], fun j u hu => ?_⟩
      have hj : j < len * 5 := by have := (List.getElem?_eq_some_iff.1 hu).1; rw [fvs_length, hlen] at this; exact this
      have hd : j / 5 < len := by omega
      have q0 := fvs_at ((List.range len).map f) (j / 5) (j % 5) (by rw [hlen]; exact hd) (by omega)
      rw [show j / 5 * 5 + j % 5 = j by omega, hu] at q0
      simp only [List.getElem_map, List.getElem_range] at q0
      have k0 := (hf (j / 5) hd).1 (j % 5) u q0.symm
      rw [ea', C.add_of, C.add_of, Nat.add_assoc, show j / 5 * 5 + j % 5 = j by omega] at k0
      exact k0
    · obtain ⟨i, hi', rfl⟩ := List.mem_map.1 he
      exact (hf i (List.mem_range.1 hi')).2.1
    · obtain ⟨i, hi', rfl⟩ := List.mem_map.1 he
      exact (hf i (List.mem_range.1 hi')).2.2 ((wt_slice Tryz.underlying23 hw).1 _ (List.mem_map.2 ⟨i, hi', rfl⟩))
end
section
variable {H : Type} {enc : TypeId × Value → H} {w : World} {base b0 : Nat} {spare : Nat → Bool} {held : Bool} {r : Reach} {v : Value} {d : DataW H} {p : List MemPlace}
theorem array2 {α : Type} {cs : Array α} (h : cs.size = 2) : ∃ c0 c1, cs = #[c0, c1] := by
  obtain ⟨l⟩ := cs
  match l, h with
  | [c0, c1], _ => exact ⟨c0, c1, rfl⟩
set_option maxRecDepth 100000 in
theorem open_img (hv : Value.okWide Tryz.prog w r b0 25 v) (h : DataW.Trod enc Tryz.prog w base spare held 25 v d p) : ∃ (iv : IV) (es : List SE) (fs : List FE), v = iv.val ∧ ImAt w iv es fs ∧ (Wt 25 d → LgI iv es fs) := by
  have k0 : Tryz.prog.cellsOf 22 = 1 := by kernel_rfl
  have k1 : Tryz.prog.cellsOf 23 = 1 := by kernel_rfl
  obtain ⟨cs, rfl, hsz⟩ := okWide_struct Tryz.underlying25 hv
  obtain ⟨c0, c1, rfl⟩ := array2 (hsz.trans (by kernel_rfl))
  obtain ⟨fuel, hf⟩ := h
  obtain ⟨z0, z1, n1, hx, _, g0, g1⟩ := trod_struct2 Tryz.underlying25 hf
  obtain ⟨rfl, _⟩ := Prod.mk.inj hx
  simp only [Value.cells, k0, k1, List.drop_zero, List.drop_succ_cons, List.take_succ_cons, List.take_zero] at g0 g1
  obtain ⟨X, es, cx, e1, rx, hs, _, _, ws⟩ := read_shapes g0
  obtain ⟨Y, fs, cy, e2, ry, hfn, _, _, wf⟩ := read_funs g1
  simp only [List.cons.injEq, and_true] at e1 e2
  subst e1 e2
  refine ⟨⟨X, es.length, cx, Y, fs.length, cy⟩, es, fs, rfl, ⟨rx, ry, rfl, rfl, fun e he => (hs e he).1, hfn⟩, fun hw => ?_⟩
  have w0 := wt_struct (j := 0) Tryz.underlying25 hw rfl rfl
  have w1 := wt_struct (j := 1) Tryz.underlying25 hw rfl rfl
  exact ⟨wt_len Tryz.underlying22 (by kernel_rfl) g0 w0, wt_len Tryz.underlying23 (by kernel_rfl) g1 w1, ws w0, wf w1⟩
end

/-- The wrap that hands on the world's shape, and how much is read at most. -/
theorem handed_sized {H : Type} {enc : TypeId × Value → H} {a : Assume} {C : Checked} {os : Os} {f : FuncId} {fn : Func} {s : ChangeSpec} {conds : List PathCond} {apart fresh handsOn again : Bool} {X : World → Array Value → Prop}
    (hX : ∀ (w w' : World) (args : Array Value), w.heap = w'.heap → X w args → X w' args) (own : ownKnob C.prog.godebug = none) (started : os.Started) (noInit : C.prog.inits.idxOf? f = none) (hfn : C.prog.funcs[f]? = some fn)
    (witness : ∃ (w : World) (tape : Tape) (i : Input), w.os = os ∧ (w.forCall tape i).Shaped C.prog ∧ i.vars = [] ∧ Input.okWide C.prog (w.forCall tape i) .any w.heap.size f i ∧
      ((s.pre enc C.prog fn conds apart (w.forCall tape i).memory i.args ∧ X (w.forCall tape i).memory i.args) ∧ sizedMet enc C.prog fn (OpenSpec.ofChange s) apart (w.forCall tape i).memory i.args) ∧ a.holds C.prog (lone (Frame.enter C.prog f i.args .normal) [] (w.forCall tape i)))
    (contract : ∀ (W : World) (base : Nat) (args : Array Value) (ds gs : List (DataW H)) (before : List MemPlace),
      (∀ (j : Nat) t v, fn.params[j]? = some t → args[j]? = some v → Value.okWide C.prog W .any base t v) → DataW.Whole enc C.prog fn.params.toList s.vars apart W args.toList ds gs before →
      W.ShapedOpen C.prog → X W args → (DataW.weightsEach C.prog (fn.params.toList ++ s.plain.varTypes C.prog) (ds ++ gs)).all (· ≤ reachBytes) = true →
      Calls C.prog f args W fun e W' => ∃ v, e = .returned v ∧ s.post enc C.prog fn apart fresh handsOn again W args v W') :
    ReturnsInHanded a C os f .any (fun w args => (s.pre enc C.prog fn conds apart w args ∧ X w args) ∧ sizedMet enc C.prog fn (OpenSpec.ofChange s) apart w args) (s.post enc C.prog fn apart fresh handsOn again) := by
  refine returnsInHanded_of_calls own started noInit witness ?_
  intro w tape i _ hsh _ hok hpre _
  obtain ⟨_, _, _, fn', hfn', _, _, _, _, hval⟩ := hok
  obtain rfl : fn' = fn := Option.some.inj (hfn'.symm.trans hfn)
  obtain ⟨⟨⟨ds, gs, before, hw, _⟩, hx⟩, hz⟩ := hpre
  have hw' := DataW.Whole.of_heap (w' := w.forCall tape i) (by rfl) hw
  refine (contract (w.forCall tape i) w.heap.size i.args ds gs before hval hw' hsh (hX _ _ _ (by rfl) hx) (hz.weights hw)).mono fun e W' ⟨v, he, hp⟩ => ?_
  subst he
  exact ChangeSpec.post_blind hp
theorem wt_arg {H : Type} {ts : List TypeId} {ds : List (DataW H)} (h : (DataW.weightsEach Tryz.prog ts ds).all (· ≤ reachBytes) = true) {j : Nat} {t : TypeId} {d : DataW H} (ht : ts[j]? = some t) (hd : ds[j]? = some d) : Wt t d :=
  fun k hk => by simpa using List.all_eq_true.1 h _ (DataW.weights_mem_each ht hd k hk)

section
variable {H : Type} {enc : TypeId × Value → H} {w : World} {base b0 : Nat} {spare : Nat → Bool} {held : Bool} {r : Reach} {v : Value} {d : DataW H} {p : List MemPlace}
set_option maxRecDepth 100000 in
theorem open_u16 (hv : Value.okWide Tryz.prog w r b0 27 v) (h : DataW.Trod enc Tryz.prog w base spare held 27 v d p) : ∃ n : Nat, v = .int .u16 (n : Int) ∧ d = .lit (.int .u16 (n : Int)) ∧ p = [] ∧ n < 65536 := by
  obtain ⟨n, rfl, rfl, rfl, hw⟩ := open_int Tryz.underlying27 hv h
  have hb : 0 ≤ n ∧ n < 65536 := by
    have h1 : IntKind.u16.min = 0 := rfl
    have h2 : IntKind.u16.max = 65535 := rfl
    simp only [Lit.wf, Bool.and_eq_true, decide_eq_true_eq] at hw
    omega
  obtain ⟨m, rfl⟩ := Int.eq_ofNat_of_zero_le hb.1
  exact ⟨m, rfl, rfl, rfl, by omega⟩
end
section
variable {H : Type} {enc : TypeId × Value → H} {P : Program} {w : World} {base : Nat} {spare : Nat → Bool} {held : Bool}
end

end Go.Proofs.YtgifflfjhockaaaGreatDoor.I
