/-
  What the reader's readLines answers: what was read of a text's lines, or which line says nothing that it may. Conditions: the reader is new; the text is not too long; what is laid is laid.
  Which parts may be: IndexFunc and ContainsFunc over what lies in memory, and may, of shapes and of functions. Conditions: what is asked answers by its contract.
  What the laws ask ahead: whether an image is more than statements go through. Conditions: the image's lists lie in memory, each below 2^47.
  The iterator of an image's functions, with their numbers; and Find, the program's and the document's. Conditions: the image's lists lie in memory; a round keeps them.
  Are no two functions of one name: the program's apart, by the iterator and a map. Conditions: the image's lists lie in memory; no more than 1000 functions.
  Which images may be: what Check of layer image answers. Conditions: the image's lists lie in memory, each below 2^47.
  What layer asm's read answers: a reader that holds what a text says, or what is wrong, and in which line. Conditions: the text is not too long; what is laid is laid.
-/
import Derived.Laws.EntriesVeiled
import Derived.Test.YtifobiajjhknbaaGreatDoorQ12
import Derived.Test.YtifobiajjhknbaaGreatDoorQ7
import Derived.Test.YtifobiajjhknbaaGreatDoorQ4
import Derived.Test.YtifobiajjhknbaaGreatDoorQ3
namespace Go.Proofs.YtifobiajjhknbaaGreatDoor.M
open Go.RowKit Go.Shelf W
attribute [local go_sem] Oper.semAt_some

set_option maxRecDepth 100000 in
set_option maxHeartbeats 8000000 in
theorem readLines_any (w0 w : World) (T : Nat → Tg) (rb : Nat) (hE : Hid (EnvM w0)) (h : RdAt w0 w T rb ps0 0 0) (S : ByteArray) (s : Bs) (hs : Hid (S.data.toList = s)) (hl : S.size ≤ 140000) :
    Calls Tryz.prog 67 #[.pointer (some ⟨rb, 0, none⟩), .string S] w (LnsR w0 s rb) := by
  have HLi := Lib.hid (fun W => lines_any S W)
  have HR := Lib.hid h
  have hsz := size_of hs.out
  have hlo : w0.heap.size ≤ w.heap.size := h.1.size
  clear h
  refine (callsIn_wide (n := 4)).1 ?_
  refine callsIn_of_wp_marks Tryz.func67 rfl trivial ?_ rfl
  simp only [Tryz.ntmps67, List.size_toArray, List.length_cons, List.length_nil, Nat.reduceAdd, Nat.reduceSub, Array.replicate_succ, Array.replicate_zero, List.push_toArray, List.append_toArray, List.nil_append, List.cons_append]
  gi_wp2
  refine wpIn_scope_wide ?_
  gi_wp2
  have hB : Bx w0 T w.heap.size rb ((((w.alloc (.cells #[.pointer (some ⟨rb, 0, none⟩)] 75)).alloc (.cells #[.int .i64 0] 3)).alloc (.cells #[.int .i64 0] 23)).alloc (.cells (fns rb) 177)) := by
    refine ⟨hlo, fun i _ => HR.out.new (Nat.le_add_right _ _), ?_, ?_, ?_, ?_⟩
    · exact (((Blk.new w _ _).alloc _).alloc _).alloc _
    · have := (((Blk.new (w.alloc (.cells #[.pointer (some ⟨rb, 0, none⟩)] 75)) 3 #[.int .i64 0]).alloc (.cells #[.int .i64 0] 23)).alloc (.cells (fns rb) 177))
      simpa [World.size_alloc] using this
    · have := ((Blk.new ((w.alloc (.cells #[.pointer (some ⟨rb, 0, none⟩)] 75)).alloc (.cells #[.int .i64 0] 3)) 23 #[.int .i64 0]).alloc (.cells (fns rb) 177))
      simpa [World.size_alloc] using this
    · have := (Blk.new (((w.alloc (.cells #[.pointer (some ⟨rb, 0, none⟩)] 75)).alloc (.cells #[.int .i64 0] 3)).alloc (.cells #[.int .i64 0] 23)) 177 (fns rb))
      simpa [World.size_alloc] using this
  have hk4 : Keep NoB w ((((w.alloc (.cells #[.pointer (some ⟨rb, 0, none⟩)] 75)).alloc (.cells #[.int .i64 0] 3)).alloc (.cells #[.int .i64 0] 23)).alloc (.cells (fns rb) 177)) := ((((Keep.refl NoB w).alloc _).alloc _).alloc _).alloc _
  have HR4 := Lib.hid (HR.out.keepN hk4)
  have hz4 : (((((w.alloc (.cells #[.pointer (some ⟨rb, 0, none⟩)] 75)).alloc (.cells #[.int .i64 0] 3)).alloc (.cells #[.int .i64 0] 23)).alloc (.cells (fns rb) 177))).heap.size = w.heap.size + 1 + 1 + 1 + 1 := by simp [World.size_alloc]
  unfold fns at hB hk4 HR4 hz4
  generalize hW4 : ((((w.alloc (.cells #[.pointer (some ⟨rb, 0, none⟩)] 75)).alloc (.cells #[.int .i64 0] 3)).alloc (.cells #[.int .i64 0] 23)).alloc (.cells #[.func (.func 106) #[.pointer (some ⟨rb, 0, none⟩)] #[], .func (.func 107) #[.pointer (some ⟨rb, 0, none⟩)] #[], .func (.func 108) #[.pointer (some ⟨rb, 0, none⟩)] #[], .func (.func 109) #[.pointer (some ⟨rb, 0, none⟩)] #[], .func (.func 110) #[.pointer (some ⟨rb, 0, none⟩)] #[]] 177)) = W4 at *
  clear hW4
  generalize hb : w.heap.size = b at *
  have HZ4 := Lib.hid hz4
  clear hz4
  refine wpIn_label ?_
  gi_wp2_with (refine ⟨trivial, ?_⟩; gi_at_call 42; refine (callsIn_wide.2 (HLi.out _)).mono ?_; rintro e w1 ⟨rfl, rfl⟩)
  clear HLi
  obtain ⟨W5, hW5⟩ : ∃ W5, W4.alloc (.cells #[.string S] 9) = W5 := ⟨_, rfl⟩
  rw [hW5]
  have hbn : W5.heap[W4.heap.size]? = some (.cells #[.string S] 9 (0, 0)) := by rw [← hW5]; exact Blk.new W4 9 #[.string S]
  have hk5 : Keep NoB W4 W5 := by rw [← hW5]; exact (Keep.refl NoB W4).alloc _
  have hz5 : W5.heap.size = W4.heap.size + 1 := by rw [← hW5]; simp
  clear hW5
  have hz4 := HZ4.out
  have hi0 : LnI w0 b rb [] (LP T b) W5 := ⟨T, ps0, 0, 0, rfl, rfl, fun h => absurd h (by decide), Nat.zero_le _, HR4.out.keepN hk5, hB.keep hk5 (fun _ h => h.elim)⟩
  have hp0 : ∀ k, LP T b k → k < W5.heap.size := by
    rintro k (h | rfl | rfl)
    · exact Classical.byContradiction fun hn => h (HR4.out.new (by omega))
    · omega
    · omega
  have hpb : ¬ LP T b W4.heap.size := by
    rintro (h | h | h)
    · exact h (HR4.out.new (Nat.le_refl _))
    · omega
    · omega
  have hb4 : b + 4 ≤ W5.heap.size := by omega
  clear hB hk4 HR4 hk5 hz4 hz5
  refine wpIn_rangeFunc_mine (m := 2) (gf := 75) (lb := #[.pointer (some ⟨W4.heap.size, 0, none⟩)]) rfl (enters_of Tryz.func75 rfl rfl)
    (lines_stops 2 3 W4.heap.size (by decide) rfl S s hs hl) (fun _ => rfl) (LnI w0 b rb) (LnX w0 b) (lnI_out w0 b rb _ hb4) (lnX_out w0 b _ hb4) hi0 hp0 hbn hpb
    (fun pre x p a' W => LnI w0 b rb pre p W ∧ a' = { tmps := #[.pointer (some ⟨rb, 0, none⟩), .string S, .pointer (some ⟨b, 0, none⟩), undef, .pointer (some ⟨b + 1, 0, none⟩), .pointer (some ⟨b + 1 + 1, 0, none⟩), .pointer (some ⟨b + 1 + 1 + 1, 0, none⟩), .int .i64 (x.1 : Int), .string (str x.2), undef, undef, undef, .pointer (some ⟨rb, 0, none⟩), .func (.func 106) #[.pointer (some ⟨rb, 0, none⟩)] #[], .pointer (some ⟨rb, 0, none⟩), .func (.func 107) #[.pointer (some ⟨rb, 0, none⟩)] #[], .pointer (some ⟨rb, 0, none⟩), .func (.func 108) #[.pointer (some ⟨rb, 0, none⟩)] #[], .pointer (some ⟨rb, 0, none⟩), .func (.func 109) #[.pointer (some ⟨rb, 0, none⟩)] #[], .pointer (some ⟨rb, 0, none⟩), .func (.func 110) #[.pointer (some ⟨rb, 0, none⟩)] #[], .agg #[.func (.func 106) #[.pointer (some ⟨rb, 0, none⟩)] #[], .func (.func 107) #[.pointer (some ⟨rb, 0, none⟩)] #[], .func (.func 108) #[.pointer (some ⟨rb, 0, none⟩)] #[], .func (.func 109) #[.pointer (some ⟨rb, 0, none⟩)] #[], .func (.func 110) #[.pointer (some ⟨rb, 0, none⟩)] #[]], .string S, .func (.func 75) #[] #[.pointer (some ⟨W4.heap.size, 0, none⟩)], .int .i64 (x.1 : Int), .string (str x.2), undef, undef, undef, undef, undef, undef, undef, undef, undef, undef, undef, undef, undef, undef, undef, undef, undef, undef, undef, undef, undef, undef, undef], defers := [] }) ?hax ?assign ?body ?done ?stop
  case hax =>
    rintro pre x a' s p X Y ⟨g1, g2⟩ hst
    exact ⟨lnI_out w0 b rb _ hb4 _ _ _ _ g1 hst, g2⟩
  case assign =>
    rintro l pre x p W hi hen
    gi_wp2
    exact ⟨p, Rnd.refl _ _, hi, trivial⟩
  case body =>
    rintro l pre ⟨n, x⟩ p a' W ⟨hn1, post, hpost⟩ ⟨⟨T1, q, N, ln, rfl, hq, hg, hN, hr, hbx⟩, rfl⟩
    have hxl := line_len hpost
    have hpc := pre_count hpost
    have hjl := join_le x
    have hwl := fun y hy => Nat.le_trans (word_le (wordsL x) y hy) (Nat.le_trans hjl hxl)
    have hnl := npLen (wordsL x)
    have hsn := fun q' => run_next (pre := pre) (x := (n, x)) (q' := q') hq
    have hsk := run_skip (pre := pre) (x := (n, x)) hq
    have hsb := run_bad (pre := pre) (x := (n, x)) hq
    dsimp only at hn1 hxl hsn hsk hsb ⊢
    simp only [List.length_cons] at hpc
    have HN1 := Lib.hid hn1
    obtain ⟨v, hbk⟩ := hr.bk
    have B3 := hbx.b3
    unfold fns at B3
    have hne1 := hbk.ne B3 (by decide)
    have hne2 := hne1.symm
    have HW := Lib.hid (words_any (str x) x W (Lib.hid (by simp)) (by rw [size_of (S := str x) (s := x) (by simp)]; omega))
    clear hn1
    generalize str x = X at HW ⊢
    obtain ⟨ws, hws⟩ : ∃ ws, wordsL x = ws := ⟨_, rfl⟩
    rw [hws] at HW hjl hwl hsn hsk hsb hnl
    unfold WordsR at HW
    obtain ⟨M, hM⟩ : ∃ M, ws.length = M := ⟨_, rfl⟩
    rw [hM] at HW hnl
    have hlen : (pre ++ [(n, x)]).length = pre.length + 1 := by simp
    by_cases h0 : M = 0
    · have he : ws = [] := List.length_eq_zero_iff.1 (by omega)
      have hsk := hsk he
      clear hws hsn hsb hwl
      gi_wp2_with (refine ⟨trivial, ?_⟩; gi_at_call 12; refine (CallsIn.inRound l (callsIn_wide.2 HW.out)).mono ?_; rintro e w5 ⟨A, c, rfl, ho, k5⟩)
      exact ⟨_, LP_rnd (rnd_keep k5), T1, q, N, ln, rfl, hsk, hg, by omega, hr.keepN k5, hbx.keep k5 (fun _ h => h.elim)⟩
    · have he : ws ≠ [] := fun e => h0 (by rw [← hM, e]; rfl)
      have hsn := fun q' => hsn q' he
      have hsb := hsb he
      have hnn : (M : Int) ≠ 0 := by omega
      have HM0 : Hid (0 < M) := Nat.pos_of_ne_zero h0
      clear hws hsk
      have HBX := Lib.hid hbx
      have HR1 := Lib.hid hr
      clear hr
      have hb0 := hbx.b0
      clear hbx
      gi_wp2_with (refine ⟨trivial, ?_⟩; gi_at_call 12; refine (CallsIn.inRound l (callsIn_wide.2 HW.out)).mono ?_; rintro e w5 ⟨A, c, rfl, ho, k5⟩; have z0 := (hb0.keep k5 id).cell 0; have x0 := (B3.keep k5 id).cell 0; have x1 := (B3.keep k5 id).cell 1; have x2 := (B3.keep k5 id).cell 2; have x3 := (B3.keep k5 id).cell 3; have x4 := (B3.keep k5 id).cell 4; have y2 := (hbk.keep k5 id).cell 2; have yf := (hbk.keep k5 id).frozen 2; have yl := (hbk.keep k5 id).lt; simp only [RV.cells, List.getElem?_toArray, List.getElem?_cons_zero, List.getElem?_cons_succ] at z0 x0 x1 x2 x3 x4 y2)
      obtain ⟨A', c', e', hcc, _, hr5, ho5⟩ := ho.form
      injection e' with e1 e2 e3
      clear e2
      subst e1 e3
      obtain ⟨g, off, rfl, hcs⟩ := sv_at hr5 (by omega)
      have hgl : g < w5.heap.size := World.block_lt_of_cell? _ _ (hcs 0 (by omega))
      have hgf : W.heap.size ≤ g := (ho5 _ rfl).1
      have HLJ : Hid (LJ w0 T1 b rb q N n (some ⟨g, off, none⟩) ws W T1 (w5.setCell ⟨rb, 2, none⟩ (.int .i64 (n : Int)))) := by
        obtain ⟨hl1, hl2⟩ := (HR1.out.keepN k5).line n
        have hgn : ¬ BS T1 g := fun h => h (HR1.out.new hgf)
        exact ⟨hl1, (HBX.out.keep k5 (fun _ h => h.elim)).rnd hl2, hr5.keep hl2.keep (fun a e => by cases e; exact hgn), fun a e => by cases e; exact ⟨Nat.lt_of_lt_of_le hgl hl2.keep.size, hgn⟩, (LP_rnd (rnd_keep k5)).trans (LP_rnd hl2)⟩
      have HE := Lib.hid hwl
      have HSN := Lib.hid hsn
      have HSB := Lib.hid hsb
      have hnn1 := HN1.out
      have hN9 : N ≤ 299000 := by omega
      have hn9 : n ≤ 300000 := by omega
      have hN8 : N + 2 ≤ 2 * (pre.length + 1) := by omega
      have hj9 : (joinW ws).length ≤ 140000 := by omega
      have hs9 : s.length ≤ 140000 := by omega
      clear hnn1 hcs ho5 hr5 ho k5 hgl hgf hb0 hbk B3 HBX HR1 hsn hsb z0 x0 x1 x2 x3 x4 y2 yf yl hwl HW
      have hmf : ((M : Int) == 0) = false := by rw [beq_eq_false_iff_ne]; exact hnn
      simp only [hmf]
      gi_loopw [37] (fun i wr => ∃ (k : Nat) (T2 : Nat → Tg), k ≤ 5 ∧ i = .int .i64 (k : Int) ∧ Hid (∀ j, j < k → tryP j q (n, ws) = none) ∧ Hid (LJ w0 T1 b rb q N n (some ⟨g, off, none⟩) ws W T2 wr)) (fun i _ => 5 - (intOf i).toNat)
      case atStart => exact ⟨0, T1, by omega, rfl, fun j h => by omega, HLJ⟩
      case round =>
        obtain ⟨k, T2, hk, rfl, HNo, HJ⟩ := hrel
        by_cases hk5 : k = 5
        · subst hk5
          have HB := Lib.hid (HSB.out (step_none HNo.out))
          have b1 := HJ.out.bx.b1
          have b2 := HJ.out.bx.b2
          have q1 := b1.cell 0
          have q2 := b2.cell 0
          have f1 := b1.frozen 0
          have f2 := b2.frozen 0
          have l1 := b1.lt
          have l2 := b2.lt
          simp only [List.getElem?_toArray, List.getElem?_cons_zero] at q1 q2
          have hfin : Rnd (LP T1 b) (LP T2 b) W ((wr.setCell ⟨b + 1, 0, none⟩ (.int .i64 (n : Int))).setCell ⟨b + 1 + 1, 0, none⟩ (.int .i64 90)) ∧ LnX w0 b .ret (pre ++ [(n, x)]) (LP T2 b) ((wr.setCell ⟨b + 1, 0, none⟩ (.int .i64 (n : Int))).setCell ⟨b + 1 + 1, 0, none⟩ (.int .i64 90)) := by
            have hlo2 := HJ.out.bx.lo
            refine ⟨HJ.out.rnd.trans (Rnd.of_keep (((Keep.refl (LP T2 b) wr).setCell (p := ⟨b + 1, 0, none⟩) (fun _ => .inr (.inl rfl)) _).setCell (p := ⟨b + 1 + 1, 0, none⟩) (fun _ => .inr (.inr rfl)) _)), rfl, T2, n, rfl, HB.out, ?_, hlo2, ?_, ?_⟩
            · exact (HJ.out.rd.1.setCell (p := ⟨b + 1, 0, none⟩) (fun h => by have h : b + 1 < w0.heap.size := h; omega) _).setCell (p := ⟨b + 1 + 1, 0, none⟩) (fun h => by have h : b + 1 + 1 < w0.heap.size := h; omega) _
            · exact (b1.put 0 _).far (p := ⟨b + 1 + 1, 0, none⟩) (by simp) _
            · exact (b2.far (p := ⟨b + 1, 0, none⟩) (by simp) _).put 0 _
          have HF := Lib.hid hfin
          clear HNo HLJ HJ hfin b1 b2 HB
          gi_wp2
          exact ⟨_, HF.out⟩
        · have hk4 : k < 5 := by omega
          have HT := Lib.hid (try_any w0 wr T2 rb q N n hE HJ.out.rd hN9 hn9 hg (some ⟨g, off, none⟩) ws M c HJ.out.ws hM HM0.out hcc (fun y hy => Nat.le_trans (HE.out y hy) hs9) hj9 k hk4)
          clear HLJ
          obtain rfl | rfl | rfl | rfl | rfl : k = 0 ∨ k = 1 ∨ k = 2 ∨ k = 3 ∨ k = 4 := by omega
          · have HX := try_at0 rb wr
            gi_wp2_with fail
            refine ⟨trivial, (CallsIn.inRound l (callsIn_wide.2 HT.out)).mono ?_⟩
            rintro e w7 ⟨T3, hrd, ⟨hq0, rfl, hd⟩ | ⟨p', hq0, rfl, hd⟩⟩
            · have HNo2 : Hid (∀ j, j < 1 → tryP j q (n, ws) = none) := fun j hj => by
                by_cases e : j = 0
                · subst e; exact hq0
                · exact HNo.out j (by omega)
              have HJ2 := Lib.hid (HJ.out.next hrd hd)
              clear HT HX HJ HNo hd hrd hq0
              gi_wp2
              go_roundw
              case rel => exact ⟨1, T3, by omega, rfl, HNo2, HJ2⟩
              case measure => simp [intOf]
            · have hst := HSN.out _ (step_at_try (by omega) HNo.out hq0)
              have htl := try_last (by omega) hq0 hg
              have bx7 := HJ.out.bx.rnd hrd
              have z0 := bx7.b0.cell 0
              obtain ⟨v7, hb7⟩ := hd.bk
              have y3 := hb7.cell 3
              have yf := hb7.frozen 3
              have yl := hb7.lt
              simp only [RV.cells, List.getElem?_toArray, List.getElem?_cons_zero, List.getElem?_cons_succ] at z0 y3
              obtain ⟨hl1, hl2⟩ := hd.last 0
              have hfin : ∃ p2, Rnd (LP T1 b) p2 W (w7.setCell ⟨rb, 3, none⟩ (.int .i64 ((0 : Nat) : Int))) ∧ LnI w0 b rb (pre ++ [(n, x)]) p2 (w7.setCell ⟨rb, 3, none⟩ (.int .i64 ((0 : Nat) : Int))) := by
                rw [to_to, htl.1] at hl1
                exact ⟨_, HJ.out.rnd.trans (LP_rnd (hrd.trans hl2)), T3, p', _, _, rfl, hst, htl.2, by rw [hlen]; exact hN8, hl1, bx7.rnd hl2⟩
              have HF := Lib.hid hfin
              clear HT HX HJ HNo hd hrd hq0 hst htl bx7 hb7 hl1 hl2 hfin
              gi_wp2
              exact HF.out
          · have HX := try_at1 rb wr
            gi_wp2_with fail
            refine ⟨trivial, (CallsIn.inRound l (callsIn_wide.2 HT.out)).mono ?_⟩
            rintro e w7 ⟨T3, hrd, ⟨hq0, rfl, hd⟩ | ⟨p', hq0, rfl, hd⟩⟩
            · have HNo2 : Hid (∀ j, j < 2 → tryP j q (n, ws) = none) := fun j hj => by
                by_cases e : j = 1
                · subst e; exact hq0
                · exact HNo.out j (by omega)
              have HJ2 := Lib.hid (HJ.out.next hrd hd)
              clear HT HX HJ HNo hd hrd hq0
              gi_wp2
              go_roundw
              case rel => exact ⟨2, T3, by omega, rfl, HNo2, HJ2⟩
              case measure => simp [intOf]
            · have hst := HSN.out _ (step_at_try (by omega) HNo.out hq0)
              have htl := try_last (by omega) hq0 hg
              have bx7 := HJ.out.bx.rnd hrd
              have z0 := bx7.b0.cell 0
              obtain ⟨v7, hb7⟩ := hd.bk
              have y3 := hb7.cell 3
              have yf := hb7.frozen 3
              have yl := hb7.lt
              simp only [RV.cells, List.getElem?_toArray, List.getElem?_cons_zero, List.getElem?_cons_succ] at z0 y3
              obtain ⟨hl1, hl2⟩ := hd.last 1
              have hfin : ∃ p2, Rnd (LP T1 b) p2 W (w7.setCell ⟨rb, 3, none⟩ (.int .i64 ((1 : Nat) : Int))) ∧ LnI w0 b rb (pre ++ [(n, x)]) p2 (w7.setCell ⟨rb, 3, none⟩ (.int .i64 ((1 : Nat) : Int))) := by
                rw [to_to, htl.1] at hl1
                exact ⟨_, HJ.out.rnd.trans (LP_rnd (hrd.trans hl2)), T3, p', _, _, rfl, hst, htl.2, by rw [hlen]; exact hN8, hl1, bx7.rnd hl2⟩
              have HF := Lib.hid hfin
              clear HT HX HJ HNo hd hrd hq0 hst htl bx7 hb7 hl1 hl2 hfin
              gi_wp2
              exact HF.out
          · have HX := try_at2 rb wr
            gi_wp2_with fail
            refine ⟨trivial, (CallsIn.inRound l (callsIn_wide.2 HT.out)).mono ?_⟩
            rintro e w7 ⟨T3, hrd, ⟨hq0, rfl, hd⟩ | ⟨p', hq0, rfl, hd⟩⟩
            · have HNo2 : Hid (∀ j, j < 3 → tryP j q (n, ws) = none) := fun j hj => by
                by_cases e : j = 2
                · subst e; exact hq0
                · exact HNo.out j (by omega)
              have HJ2 := Lib.hid (HJ.out.next hrd hd)
              clear HT HX HJ HNo hd hrd hq0
              gi_wp2
              go_roundw
              case rel => exact ⟨3, T3, by omega, rfl, HNo2, HJ2⟩
              case measure => simp [intOf]
            · have hst := HSN.out _ (step_at_try (by omega) HNo.out hq0)
              have htl := try_last (by omega) hq0 hg
              have bx7 := HJ.out.bx.rnd hrd
              have z0 := bx7.b0.cell 0
              obtain ⟨v7, hb7⟩ := hd.bk
              have y3 := hb7.cell 3
              have yf := hb7.frozen 3
              have yl := hb7.lt
              simp only [RV.cells, List.getElem?_toArray, List.getElem?_cons_zero, List.getElem?_cons_succ] at z0 y3
              obtain ⟨hl1, hl2⟩ := hd.last 2
              have hfin : ∃ p2, Rnd (LP T1 b) p2 W (w7.setCell ⟨rb, 3, none⟩ (.int .i64 ((2 : Nat) : Int))) ∧ LnI w0 b rb (pre ++ [(n, x)]) p2 (w7.setCell ⟨rb, 3, none⟩ (.int .i64 ((2 : Nat) : Int))) := by
                rw [to_to, htl.1] at hl1
                exact ⟨_, HJ.out.rnd.trans (LP_rnd (hrd.trans hl2)), T3, p', _, _, rfl, hst, htl.2, by rw [hlen]; exact hN8, hl1, bx7.rnd hl2⟩
              have HF := Lib.hid hfin
              clear HT HX HJ HNo hd hrd hq0 hst htl bx7 hb7 hl1 hl2 hfin
              gi_wp2
              exact HF.out
          · have HX := try_at3 rb wr
            gi_wp2_with fail
            refine ⟨trivial, (CallsIn.inRound l (callsIn_wide.2 HT.out)).mono ?_⟩
            rintro e w7 ⟨T3, hrd, ⟨hq0, rfl, hd⟩ | ⟨p', hq0, rfl, hd⟩⟩
            · have HNo2 : Hid (∀ j, j < 4 → tryP j q (n, ws) = none) := fun j hj => by
                by_cases e : j = 3
                · subst e; exact hq0
                · exact HNo.out j (by omega)
              have HJ2 := Lib.hid (HJ.out.next hrd hd)
              clear HT HX HJ HNo hd hrd hq0
              gi_wp2
              go_roundw
              case rel => exact ⟨4, T3, by omega, rfl, HNo2, HJ2⟩
              case measure => simp [intOf]
            · have hst := HSN.out _ (step_at_try (by omega) HNo.out hq0)
              have htl := try_last (by omega) hq0 hg
              have bx7 := HJ.out.bx.rnd hrd
              have z0 := bx7.b0.cell 0
              obtain ⟨v7, hb7⟩ := hd.bk
              have y3 := hb7.cell 3
              have yf := hb7.frozen 3
              have yl := hb7.lt
              simp only [RV.cells, List.getElem?_toArray, List.getElem?_cons_zero, List.getElem?_cons_succ] at z0 y3
              obtain ⟨hl1, hl2⟩ := hd.last 3
              have hfin : ∃ p2, Rnd (LP T1 b) p2 W (w7.setCell ⟨rb, 3, none⟩ (.int .i64 ((3 : Nat) : Int))) ∧ LnI w0 b rb (pre ++ [(n, x)]) p2 (w7.setCell ⟨rb, 3, none⟩ (.int .i64 ((3 : Nat) : Int))) := by
                rw [to_to, htl.1] at hl1
                exact ⟨_, HJ.out.rnd.trans (LP_rnd (hrd.trans hl2)), T3, p', _, _, rfl, hst, htl.2, by rw [hlen]; exact hN8, hl1, bx7.rnd hl2⟩
              have HF := Lib.hid hfin
              clear HT HX HJ HNo hd hrd hq0 hst htl bx7 hb7 hl1 hl2 hfin
              gi_wp2
              exact HF.out
          · have HX := try_at4 rb wr
            gi_wp2_with fail
            refine ⟨trivial, (CallsIn.inRound l (callsIn_wide.2 HT.out)).mono ?_⟩
            rintro e w7 ⟨T3, hrd, ⟨hq0, rfl, hd⟩ | ⟨p', hq0, rfl, hd⟩⟩
            · have HNo2 : Hid (∀ j, j < 5 → tryP j q (n, ws) = none) := fun j hj => by
                by_cases e : j = 4
                · subst e; exact hq0
                · exact HNo.out j (by omega)
              have HJ2 := Lib.hid (HJ.out.next hrd hd)
              clear HT HX HJ HNo hd hrd hq0
              gi_wp2
              go_roundw
              case rel => exact ⟨5, T3, by omega, rfl, HNo2, HJ2⟩
              case measure => simp [intOf]
            · have hst := HSN.out _ (step_at_try (by omega) HNo.out hq0)
              have htl := try_last (by omega) hq0 hg
              have bx7 := HJ.out.bx.rnd hrd
              have z0 := bx7.b0.cell 0
              obtain ⟨v7, hb7⟩ := hd.bk
              have y3 := hb7.cell 3
              have yf := hb7.frozen 3
              have yl := hb7.lt
              simp only [RV.cells, List.getElem?_toArray, List.getElem?_cons_zero, List.getElem?_cons_succ] at z0 y3
              obtain ⟨hl1, hl2⟩ := hd.last 4
              have hfin : ∃ p2, Rnd (LP T1 b) p2 W (w7.setCell ⟨rb, 3, none⟩ (.int .i64 ((4 : Nat) : Int))) ∧ LnI w0 b rb (pre ++ [(n, x)]) p2 (w7.setCell ⟨rb, 3, none⟩ (.int .i64 ((4 : Nat) : Int))) := by
                rw [to_to, htl.1] at hl1
                exact ⟨_, HJ.out.rnd.trans (LP_rnd (hrd.trans hl2)), T3, p', _, _, rfl, hst, htl.2, by rw [hlen]; exact hN8, hl1, bx7.rnd hl2⟩
              have HF := Lib.hid hfin
              clear HT HX HJ HNo hd hrd hq0 hst htl bx7 hb7 hl1 hl2 hfin
              gi_wp2
              exact HF.out
  case done =>
    rintro D xs p W hD hpD rfl ⟨T1, q, N, ln, rfl, hq, hg, hN, hr, hbx⟩ hK
    have b1 := hbx.b1
    have b2 := hbx.b2
    have q1 := b1.cell 0
    have q2 := b2.cell 0
    have f1 := b1.frozen 0
    have f2 := b2.frozen 0
    have l1 := b1.lt
    have l2 := b2.lt
    simp only [List.getElem?_toArray, List.getElem?_cons_zero] at q1 q2
    have hr2 := (hr.far ((Keep.refl (fun k => k = b + 1 ∨ k = b + 1 + 1) W).setCell (p := ⟨b + 1, 0, none⟩) (fun _ => .inl rfl) (.int .i64 0)) (by rintro k (rfl | rfl); exact ⟨hbx.no 1 (by omega), by have := hbx.lo; omega⟩; exact ⟨hbx.no 2 (by omega), by have := hbx.lo; omega⟩)).far ((Keep.refl (fun k => k = b + 1 ∨ k = b + 1 + 1) _).setCell (p := ⟨b + 1 + 1, 0, none⟩) (fun _ => .inr rfl) (.int .i64 0)) (by rintro k (rfl | rfl); exact ⟨hbx.no 1 (by omega), by have := hbx.lo; omega⟩; exact ⟨hbx.no 2 (by omega), by have := hbx.lo; omega⟩)
    have b1' := (b1.put 0 (.int .i64 0)).far (p := ⟨b + 1 + 1, 0, none⟩) (by simp) (.int .i64 0)
    have b2' := (b2.far (p := ⟨b + 1, 0, none⟩) (by simp) (.int .i64 0)).put 0 (.int .i64 0)
    have hK2 := (Below.heap_setCell (W.setCell ⟨b + 1, 0, none⟩ (.int .i64 0)) ⟨b + 1 + 1, 0, none⟩ (.int .i64 0) D (by simp; omega)).trans ((Below.heap_setCell W ⟨b + 1, 0, none⟩ (.int .i64 0) D (by simp; omega)).trans hK)
    have hlb := hbx.lo
    gi_wp2
    dsimp only [Exit.noGoto]
    refine ⟨by simp, .inl ⟨_, _, rfl, run_takeDeferred hK2, ?_⟩⟩
    have o1 := fun o => show _ = some (Value.int .i64 0) from (b1'.grown (grownBy_putObj' _ D o) (by simp; omega)).cell 0
    have o2 := fun o => show _ = some (Value.int .i64 0) from (b2'.grown (grownBy_putObj' _ D o) (by simp; omega)).cell 0
    refine ⟨.tuple #[.int .i64 0, .int .i64 0], by simp [results, Tryz.results67, go_sem, o1, o2], ?_⟩
    have hr3 := fun o => hr2.far (O := fun k => k = D) ((Keep.refl (fun k => k = D) _).grown (grownBy_putObj' _ D o) (fun g e _ => by cases e; rfl)) (by rintro k rfl; exact ⟨Classical.byContradiction fun hn => hpD (.inl hn), by omega⟩)
    refine ⟨(hr3 _).1, .inr ⟨q, T1, N, ln, ?_, rfl, hr3 _, ?_⟩⟩
    · rw [← lnsOf_all]; exact hq
    · have := pre_count (s := s) (pre := numS 1 (segs s)) (post := []) (by simp)
      simp only [List.length_nil] at this
      omega
  case stop =>
    rintro D c pre p W hD hpD ⟨post, hpost⟩ ⟨rfl, T1, n, rfl, hq, hk, hbl, b1, b2⟩ hK
    have q1 := b1.cell 0
    have q2 := b2.cell 0
    have l1 := b1.lt
    have l2 := b2.lt
    simp only [List.getElem?_toArray, List.getElem?_cons_zero] at q1 q2
    gi_wp2
    dsimp only [Exit.noGoto]
    refine ⟨by simp, .inl ⟨_, _, rfl, run_takeDeferred hK, ?_⟩⟩
    have o1 := fun o => (b1.grown (grownBy_putObj' _ D o) (by simp; omega)).cell 0
    have o2 := fun o => (b2.grown (grownBy_putObj' _ D o) (by simp; omega)).cell 0
    simp only [List.getElem?_toArray, List.getElem?_cons_zero] at o1 o2
    refine ⟨.tuple #[.int .i64 (n : Int), .int .i64 90], by simp [results, Tryz.results67, go_sem, o1, o2], ?_⟩
    exact ⟨npPut hk (by omega), .inl ⟨n, run_stop hpost hq, rfl⟩⟩

end Go.Proofs.YtifobiajjhknbaaGreatDoor.M

namespace Go.Proofs.YtifobiajjhknbaaGreatDoor.I
open Go.RowKit W

set_option maxRecDepth 100000 in
set_option maxHeartbeats 4000000 in
theorem indexS_any (A : Option Addr) (es : List SE) (n c k b : Nat) (w : World) (hcf : ∀ args w, (callFunc k args).run Tryz.prog w = .ok (.enter k args) w) (hr : Hid (∀ W, Keep NoB w W → Rd W A (svs es))) (hn : Hid (es.length = n)) (hm : n ≤ 1000) (bs : Nat → Bool)
    (hq : Hid (∀ i (h : i < es.length) W, Keep NoB w W → Calls Tryz.prog k #[es[i].1.val, .pointer (some ⟨b, 0, none⟩)] W fun e W' => e = .returned (.bool (bs i)) ∧ Keep NoB W W')) :
    Calls Tryz.prog 113 #[.slice A n c, .func (.func k) #[] #[.pointer (some ⟨b, 0, none⟩)]] w fun e w' => ∃ R : Int, e = .returned (.int .i64 R) ∧ ((0 ≤ R ∧ ∃ i, i < n ∧ bs i = true) ∨ (R = -1 ∧ ∀ i, i < n → bs i = false)) ∧ Keep NoB w w' := by
  go_enter Tryz.func113, Tryz.ntmps113
  go_wp2
  go_loopw [8] (fun i wr => ∃ j : Nat, j ≤ n ∧ i = .int .i64 j ∧ Hid (∀ t, t < j → bs t = false) ∧ Keep NoB w wr) (fun i _ => n - (intOf i).toNat)
  case atStart => exact ⟨0, Nat.zero_le _, rfl, fun t h => absurd h (by omega), Keep.refl _ _⟩
  case round =>
    obtain ⟨j, hj, rfl, hB, hK⟩ := hrel
    by_cases hlt : j < n
    · have hje : j < es.length := by rw [hn.out]; exact hlt
      obtain ⟨g, off, rfl, c0⟩ := shape_at (hr.out _ hK) hje
      have HQ := Lib.hid (hq.out j hje _ hK)
      generalize es[j] = e at c0 HQ
      obtain ⟨⟨A1, n1, d1⟩, l⟩ := e
      dsimp only [SV.val] at c0 HQ
      obtain ⟨bj, hbj⟩ : ∃ x, bs j = x := ⟨_, rfl⟩
      rw [hbj] at HQ
      have HBJ := Lib.hid hbj
      clear hbj
      go_wp2_with fail
      refine HQ.out.mono ?_
      rintro e w1 ⟨rfl, k1⟩
      replace hK := keepN hK k1
      cases bj
      · go_wp2
        go_roundw
        case rel => exact ⟨j + 1, by omega, by go_num, fun t ht => (by
          rcases Nat.lt_succ_iff_lt_or_eq.1 ht with h | rfl
          · exact hB.out t h
          · exact HBJ.out), hK⟩
        case measure => simp [intOf]; omega
      · go_wp2
        go_ret
        exact ⟨_, rfl, .inl ⟨by omega, j, hlt, HBJ.out⟩, hK⟩
    · obtain rfl : j = n := by omega
      go_wp2
      go_ret
      exact ⟨_, rfl, .inr ⟨rfl, hB.out⟩, hK⟩

set_option maxRecDepth 100000 in
set_option maxHeartbeats 2000000 in
theorem containsS_any (A : Option Addr) (es : List SE) (n c k b : Nat) (w : World) (hcf : ∀ args w, (callFunc k args).run Tryz.prog w = .ok (.enter k args) w) (hr : Hid (∀ W, Keep NoB w W → Rd W A (svs es))) (hn : Hid (es.length = n)) (hm : n ≤ 1000) (bs : Nat → Bool)
    (hq : Hid (∀ i (h : i < es.length) W, Keep NoB w W → Calls Tryz.prog k #[es[i].1.val, .pointer (some ⟨b, 0, none⟩)] W fun e W' => e = .returned (.bool (bs i)) ∧ Keep NoB W W'))
    (B : Bool) (h1 : Hid ((∃ i, i < n ∧ bs i = true) → B = true)) (h0 : Hid ((∀ i, i < n → bs i = false) → B = false)) :
    Calls Tryz.prog 78 #[.slice A n c, .func (.func k) #[] #[.pointer (some ⟨b, 0, none⟩)]] w fun e w' => e = .returned (.bool B) ∧ Keep NoB w w' := by
  have HI := Lib.hid (indexS_any A es n c k b w hcf hr hn hm bs hq)
  clear hq hr hcf
  go_enter Tryz.func78, Tryz.ntmps78
  go_wp2_with fail
  refine HI.out.mono ?_
  rintro e w1 ⟨R, rfl, hR, k1⟩
  rcases hR with ⟨h2, h3⟩ | ⟨rfl, h3⟩
  · obtain rfl : B = true := h1.out h3
    have hd : decide ((0 : Int) ≤ R) = true := decide_eq_true h2
    clear h3 h1 h0
    go_wp2
    go_ret
    exact ⟨rfl, k1⟩
  · obtain rfl : B = false := h0.out h3
    clear h3 h1 h0
    go_wp2
    go_ret
    exact ⟨rfl, k1⟩

set_option maxRecDepth 100000 in
set_option maxHeartbeats 2000000 in
theorem asksS_any (k : Nat) (hcf : ∀ args w, (callFunc k args).run Tryz.prog w = .ok (.enter k args) w) (v : SV) (b : Nat) (w : World) (u0 u1 u3 u4 u5 : Value) (hb : Blk w b 104 #[u0, u1, F.fnV k, u3, u4, u5]) (R : Int) (B : Bool) (hB : (R != 0) = B)
    (HG : Hid (∀ W, Keep NoB w W → Calls Tryz.prog k #[v.val] W fun e w' => e = .returned (.int .i64 R) ∧ Keep NoB W w')) :
    Calls Tryz.prog 79 #[v.val, .pointer (some ⟨b, 0, none⟩)] w fun e w' => e = .returned (.bool B) ∧ Keep NoB w w' := by
  have c2 := hb.cell 2
  unfold F.fnV at c2
  simp only [List.getElem?_toArray, List.getElem?_cons_zero, List.getElem?_cons_succ] at c2
  clear hb
  dsimp only [SV.val] at HG ⊢
  go_enter Tryz.func79, Tryz.ntmps79
  go_wp2_with fail
  refine (HG.out _ (Keep.refl _ _)).mono ?_
  rintro e w1 ⟨rfl, k1⟩
  go_wp2
  go_ret
  exact ⟨rfl, k1⟩

/-- What an image's parts of this kind have. -/
def partS : Value := .agg #[.int .i64 0, .int .i64 64, F.fnV 56, F.fnV 80, F.fnV 81, F.fnV 82]
theorem partS_size : (Tryz.prog.info? 104).map (·.size) = some 6 := by kernel_rfl
set_option maxRecDepth 100000 in
set_option maxHeartbeats 2000000 in
theorem partsS_any (w : World) : Calls Tryz.prog 47 #[] w fun e w' => e = .returned partS ∧ Keep NoB w w' := by
  have bz := Blk.new w 104 #[.int .i64 0, .int .i64 64, F.fnV 56, F.fnV 80, F.fnV 81, F.fnV 82]
  have k0 := (Keep.refl NoB w).alloc (.cells #[.int .i64 0, .int .i64 64, F.fnV 56, F.fnV 80, F.fnV 81, F.fnV 82] 104)
  have HB := Lib.hid bz
  have HK := Lib.hid k0
  unfold partS F.fnV at *
  clear bz k0
  go_enter Tryz.func47, Tryz.ntmps47
  go_wp2
  refine bodyPost_ret (results_cell_row rfl _ _ w.heap.size 104 _ (0, 0) _ rfl HB.out Tryz.underlying104 rfl partS_size) rfl ?_
  exact ⟨rfl, HK.out⟩

/-- What may answers. -/
def mayS (l : List SE) : Bool := decide (0 ≤ l.length ∧ l.length ≤ 64) && l.all fun e => S.okS e.2
set_option maxRecDepth 100000 in
set_option maxHeartbeats 4000000 in
theorem mayS_any (A : Option Addr) (es : List SE) (n c : Nat) (w : World) (hr : Hid (∀ W, Keep NoB w W → Rd W A (svs es))) (hn : Hid (es.length = n)) (hm : n ≤ 9223372036854775807) (he : Hid (∀ e ∈ es, ∀ W, Keep NoB w W → Calls Tryz.prog 56 #[e.1.val] W fun r W' => r = .returned (.int .i64 (S.chkS e.2)) ∧ Keep NoB W W')) :
    Calls Tryz.prog 46 #[.slice A n c, partS] w fun r w' => r = .returned (.bool (mayS es)) ∧ Keep NoB w w' := by
  have bz := Blk.new w 104 #[.int .i64 0, .int .i64 64, F.fnV 56, F.fnV 80, F.fnV 81, F.fnV 82]
  have k0 := (Keep.refl NoB w).alloc (.cells #[.int .i64 0, .int .i64 64, F.fnV 56, F.fnV 80, F.fnV 81, F.fnV 82] 104)
  have hmf : ∀ (fn : Go.Fn) (first cap : Array Value) (w : World), (Instr.makeFunc fn first cap).run Tryz.prog w = .ok (.func fn first cap) w := fun _ _ _ _ => rfl
  have q0 := bz.cell 0
  have q1 := bz.cell 1
  simp only [List.getElem?_toArray, List.getElem?_cons_zero, List.getElem?_cons_succ] at q0 q1
  have HZ := Lib.hid bz
  obtain ⟨M, hM⟩ : ∃ M, mayS es = M := ⟨_, rfl⟩
  rw [hM]
  have HM := Lib.hid hM
  clear hM bz
  unfold partS F.fnV at *
  by_cases h64 : n ≤ 64
  · have HC := Lib.hid (fun W (hk : Keep NoB (w.alloc (.cells #[.int .i64 0, .int .i64 64, F.fnV 56, F.fnV 80, F.fnV 81, F.fnV 82] 104)) W) => containsS_any A es n c 79 w.heap.size W (enters_of Tryz.func79 (by kernel_rfl) rfl) (fun W' hk' => hr.out W' (keepN (keepN k0 hk) hk')) hn (by omega) (fun i => (es[i]?.map fun e => (S.chkS e.2 != 0)).getD false)
      (fun i h W' hk' => asksS_any 56 (enters_of Tryz.func56 (by kernel_rfl) rfl) es[i].1 w.heap.size W' _ _ _ _ _ (HZ.out.keep (keepN hk hk') id) (S.chkS es[i].2) _ (by simp [h]) (fun W2 hk2 => he.out _ (List.getElem_mem h) W2 (keepN (keepN (keepN k0 hk) hk') hk2)))
      (!(es.all fun e => S.okS e.2))
      (by
        rintro ⟨i, hi, hb⟩
        have hi2 : i < es.length := by rw [hn.out]; exact hi
        simp only [List.getElem?_eq_getElem hi2, Option.map_some, Option.getD_some] at hb
        rw [Bool.not_eq_true', ← Bool.not_eq_true]
        intro hall
        have := List.all_eq_true.1 hall _ (List.getElem_mem hi2)
        rw [S.chkS_ok this] at hb
        exact absurd hb (by decide))
      (by
        intro hb
        rw [Bool.not_eq_false']
        refine List.all_eq_true.2 fun e hm => ?_
        obtain ⟨i, hi, rfl⟩ := List.getElem_of_mem hm
        have := hb i (by rw [← hn.out]; exact hi)
        simp only [List.getElem?_eq_getElem hi, Option.map_some, Option.getD_some] at this
        cases ho : S.okS es[i].2
        · rw [S.chkS_no ho] at this; exact absurd this (by decide)
        · rfl))
    unfold F.fnV at HC
    obtain ⟨al, hal⟩ : ∃ al, (es.all fun e => S.okS e.2) = al := ⟨_, rfl⟩
    rw [hal] at HC
    have HV : Hid (al = M) := by
      show _ = _
      rw [← HM.out, ← hal]; unfold mayS; rw [hn.out, decide_eq_true (by omega : 0 ≤ n ∧ n ≤ 64)]; rfl
    clear hal HM he hr HZ
    go_enter Tryz.func46, Tryz.ntmps46
    go_wp2_with fail
    refine (HC.out _ (Keep.refl _ _)).mono ?_
    rintro e w1 ⟨rfl, k1⟩
    go_wp2
    go_ret
    exact ⟨by rw [← HV.out]; cases al <;> rfl, keepN k0 k1⟩
  · have hd : decide ((n : Int) ≤ 64) = false := by rw [decide_eq_false_iff_not]; omega
    obtain rfl : false = M := by
      rw [← HM.out]; unfold mayS; rw [hn.out, decide_eq_false (by omega : ¬ (0 ≤ n ∧ n ≤ 64))]; rfl
    clear HM he hr HZ
    go_enter Tryz.func46, Tryz.ntmps46
    go_wp2
    go_ret
    exact ⟨rfl, k0⟩

set_option maxRecDepth 100000 in
set_option maxHeartbeats 4000000 in
theorem indexF_any (A : Option Addr) (fs : List FE) (n c k b : Nat) (w : World) (hcf : ∀ args w, (callFunc k args).run Tryz.prog w = .ok (.enter k args) w) (hr : Hid (∀ W, Keep NoB w W → Rd W A (fvs fs))) (hn : Hid (fs.length = n)) (hm : n ≤ 1000) (bs : Nat → Bool)
    (hq : Hid (∀ i (h : i < fs.length) W, Keep NoB w W → Calls Tryz.prog k #[fs[i].1.val, .pointer (some ⟨b, 0, none⟩)] W fun e W' => e = .returned (.bool (bs i)) ∧ Keep NoB W W')) :
    Calls Tryz.prog 117 #[.slice A n c, .func (.func k) #[] #[.pointer (some ⟨b, 0, none⟩)]] w fun e w' => ∃ R : Int, e = .returned (.int .i64 R) ∧ ((0 ≤ R ∧ ∃ i, i < n ∧ bs i = true) ∨ (R = -1 ∧ ∀ i, i < n → bs i = false)) ∧ Keep NoB w w' := by
  go_enter Tryz.func117, Tryz.ntmps117
  go_wp2
  go_loopw [8] (fun i wr => ∃ j : Nat, j ≤ n ∧ i = .int .i64 j ∧ Hid (∀ t, t < j → bs t = false) ∧ Keep NoB w wr) (fun i _ => n - (intOf i).toNat)
  case atStart => exact ⟨0, Nat.zero_le _, rfl, fun t h => absurd h (by omega), Keep.refl _ _⟩
  case round =>
    obtain ⟨j, hj, rfl, hB, hK⟩ := hrel
    by_cases hlt : j < n
    · have hje : j < fs.length := by rw [hn.out]; exact hlt
      obtain ⟨g, off, rfl, c0, c1, c2, c3, c4⟩ := fun_at (hr.out _ hK) hje
      have HQ := Lib.hid (hq.out j hje _ hK)
      generalize fs[j] = e at c0 c1 c2 c3 c4 HQ
      obtain ⟨⟨S1, A1, na1, ca1, B1, nb1, cb1, L1, nl1, cl1, D1, nd1, cd1⟩, l⟩ := e
      dsimp only [F.FV.val, F.FV.cells] at c0 c1 c2 c3 c4 HQ
      obtain ⟨bj, hbj⟩ : ∃ x, bs j = x := ⟨_, rfl⟩
      rw [hbj] at HQ
      have HBJ := Lib.hid hbj
      clear hbj
      go_wp2_with fail
      refine HQ.out.mono ?_
      rintro e w1 ⟨rfl, k1⟩
      replace hK := keepN hK k1
      cases bj
      · go_wp2
        go_roundw
        case rel => exact ⟨j + 1, by omega, by go_num, fun t ht => (by
          rcases Nat.lt_succ_iff_lt_or_eq.1 ht with h | rfl
          · exact hB.out t h
          · exact HBJ.out), hK⟩
        case measure => simp [intOf]; omega
      · go_wp2
        go_ret
        exact ⟨_, rfl, .inl ⟨by omega, j, hlt, HBJ.out⟩, hK⟩
    · obtain rfl : j = n := by omega
      go_wp2
      go_ret
      exact ⟨_, rfl, .inr ⟨rfl, hB.out⟩, hK⟩

set_option maxRecDepth 100000 in
set_option maxHeartbeats 2000000 in
theorem containsF_any (A : Option Addr) (fs : List FE) (n c k b : Nat) (w : World) (hcf : ∀ args w, (callFunc k args).run Tryz.prog w = .ok (.enter k args) w) (hr : Hid (∀ W, Keep NoB w W → Rd W A (fvs fs))) (hn : Hid (fs.length = n)) (hm : n ≤ 1000) (bs : Nat → Bool)
    (hq : Hid (∀ i (h : i < fs.length) W, Keep NoB w W → Calls Tryz.prog k #[fs[i].1.val, .pointer (some ⟨b, 0, none⟩)] W fun e W' => e = .returned (.bool (bs i)) ∧ Keep NoB W W'))
    (B : Bool) (h1 : Hid ((∃ i, i < n ∧ bs i = true) → B = true)) (h0 : Hid ((∀ i, i < n → bs i = false) → B = false)) :
    Calls Tryz.prog 83 #[.slice A n c, .func (.func k) #[] #[.pointer (some ⟨b, 0, none⟩)]] w fun e w' => e = .returned (.bool B) ∧ Keep NoB w w' := by
  have HI := Lib.hid (indexF_any A fs n c k b w hcf hr hn hm bs hq)
  clear hq hr hcf
  go_enter Tryz.func83, Tryz.ntmps83
  go_wp2_with fail
  refine HI.out.mono ?_
  rintro e w1 ⟨R, rfl, hR, k1⟩
  rcases hR with ⟨h2, h3⟩ | ⟨rfl, h3⟩
  · obtain rfl : B = true := h1.out h3
    have hd : decide ((0 : Int) ≤ R) = true := decide_eq_true h2
    clear h3 h1 h0
    go_wp2
    go_ret
    exact ⟨rfl, k1⟩
  · obtain rfl : B = false := h0.out h3
    clear h3 h1 h0
    go_wp2
    go_ret
    exact ⟨rfl, k1⟩

set_option maxRecDepth 100000 in
set_option maxHeartbeats 2000000 in
theorem asksF_any (k : Nat) (hcf : ∀ args w, (callFunc k args).run Tryz.prog w = .ok (.enter k args) w) (v : F.FV) (b : Nat) (w : World) (u0 u1 u3 u4 u5 : Value) (hb : Blk w b 112 #[u0, u1, F.fnV k, u3, u4, u5]) (R : Int) (B : Bool) (hB : (R != 0) = B)
    (HG : Hid (∀ W, Keep NoB w W → Calls Tryz.prog k #[v.val] W fun e w' => e = .returned (.int .i64 R) ∧ Keep NoB W w')) :
    Calls Tryz.prog 84 #[v.val, .pointer (some ⟨b, 0, none⟩)] w fun e w' => e = .returned (.bool B) ∧ Keep NoB w w' := by
  have k0 := (Keep.refl NoB w).alloc (.cells v.cells 35)
  have bx := Blk.new w 35 v.cells
  replace hb := hb.alloc (.cells v.cells 35)
  have c2 := hb.cell 2
  unfold F.fnV at c2
  simp only [List.getElem?_toArray, List.getElem?_cons_zero, List.getElem?_cons_succ] at c2
  clear hb
  obtain ⟨S1, A1, na1, ca1, B1, nb1, cb1, L1, nl1, cl1, D1, nd1, cd1⟩ := v
  obtain ⟨q0, q1, q2, q3, q4⟩ := F.blk5 bx
  dsimp only [F.FV.val, F.FV.cells] at HG k0 q0 q1 q2 q3 q4 c2 bx ⊢
  clear bx
  go_enter Tryz.func84, Tryz.ntmps84
  go_wp2_with fail
  refine (HG.out _ k0).mono ?_
  rintro e w1 ⟨rfl, k1⟩
  go_wp2
  go_ret
  exact ⟨rfl, keepN k0 k1⟩

/-- What an image's parts of this kind have. -/
def partF : Value := .agg #[.int .i64 1, .int .i64 64, F.fnV 85, F.fnV 86, F.fnV 87, F.fnV 88]
theorem partF_size : (Tryz.prog.info? 112).map (·.size) = some 6 := by kernel_rfl
set_option maxRecDepth 100000 in
set_option maxHeartbeats 2000000 in
theorem partsF_any (w : World) : Calls Tryz.prog 49 #[] w fun e w' => e = .returned partF ∧ Keep NoB w w' := by
  have bz := Blk.new w 112 #[.int .i64 1, .int .i64 64, F.fnV 85, F.fnV 86, F.fnV 87, F.fnV 88]
  have k0 := (Keep.refl NoB w).alloc (.cells #[.int .i64 1, .int .i64 64, F.fnV 85, F.fnV 86, F.fnV 87, F.fnV 88] 112)
  have HB := Lib.hid bz
  have HK := Lib.hid k0
  unfold partF F.fnV at *
  clear bz k0
  go_enter Tryz.func49, Tryz.ntmps49
  go_wp2
  refine bodyPost_ret (results_cell_row rfl _ _ w.heap.size 112 _ (0, 0) _ rfl HB.out Tryz.underlying112 rfl partF_size) rfl ?_
  exact ⟨rfl, HK.out⟩

/-- What may answers. -/
def mayF (l : List FE) : Bool := decide (1 ≤ l.length ∧ l.length ≤ 64) && l.all fun e => F.okF e.2
set_option maxRecDepth 100000 in
set_option maxHeartbeats 4000000 in
theorem mayF_any (A : Option Addr) (fs : List FE) (n c : Nat) (w : World) (hr : Hid (∀ W, Keep NoB w W → Rd W A (fvs fs))) (hn : Hid (fs.length = n)) (hm : n ≤ 9223372036854775807) (he : Hid (∀ e ∈ fs, ∀ W, Keep NoB w W → Calls Tryz.prog 85 #[e.1.val] W fun r W' => r = .returned (.int .i64 (F.chkF e.2)) ∧ Keep NoB W W')) :
    Calls Tryz.prog 48 #[.slice A n c, partF] w fun r w' => r = .returned (.bool (mayF fs)) ∧ Keep NoB w w' := by
  have bz := Blk.new w 112 #[.int .i64 1, .int .i64 64, F.fnV 85, F.fnV 86, F.fnV 87, F.fnV 88]
  have k0 := (Keep.refl NoB w).alloc (.cells #[.int .i64 1, .int .i64 64, F.fnV 85, F.fnV 86, F.fnV 87, F.fnV 88] 112)
  have hmf : ∀ (fn : Go.Fn) (first cap : Array Value) (w : World), (Instr.makeFunc fn first cap).run Tryz.prog w = .ok (.func fn first cap) w := fun _ _ _ _ => rfl
  have q0 := bz.cell 0
  have q1 := bz.cell 1
  simp only [List.getElem?_toArray, List.getElem?_cons_zero, List.getElem?_cons_succ] at q0 q1
  have HZ := Lib.hid bz
  obtain ⟨M, hM⟩ : ∃ M, mayF fs = M := ⟨_, rfl⟩
  rw [hM]
  have HM := Lib.hid hM
  clear hM bz
  unfold partF F.fnV at *
  by_cases hz : n = 0
  · subst hz
    obtain rfl : false = M := by
      rw [← HM.out]; unfold mayF; rw [hn.out]; rfl
    clear HM he hr HZ
    go_enter Tryz.func48, Tryz.ntmps48
    go_wp2
    go_ret
    exact ⟨rfl, k0⟩
  have hd1 : decide ((1 : Int) ≤ (n : Int)) = true := by rw [decide_eq_true_iff]; omega
  by_cases h64 : n ≤ 64
  · have HC := Lib.hid (fun W (hk : Keep NoB (w.alloc (.cells #[.int .i64 1, .int .i64 64, F.fnV 85, F.fnV 86, F.fnV 87, F.fnV 88] 112)) W) => containsF_any A fs n c 84 w.heap.size W (enters_of Tryz.func84 (by kernel_rfl) rfl) (fun W' hk' => hr.out W' (keepN (keepN k0 hk) hk')) hn (by omega) (fun i => (fs[i]?.map fun e => (F.chkF e.2 != 0)).getD false)
      (fun i h W' hk' => asksF_any 85 (enters_of Tryz.func85 (by kernel_rfl) rfl) fs[i].1 w.heap.size W' _ _ _ _ _ (HZ.out.keep (keepN hk hk') id) (F.chkF fs[i].2) _ (by simp [h]) (fun W2 hk2 => he.out _ (List.getElem_mem h) W2 (keepN (keepN (keepN k0 hk) hk') hk2)))
      (!(fs.all fun e => F.okF e.2))
      (by
        rintro ⟨i, hi, hb⟩
        have hi2 : i < fs.length := by rw [hn.out]; exact hi
        simp only [List.getElem?_eq_getElem hi2, Option.map_some, Option.getD_some] at hb
        rw [Bool.not_eq_true', ← Bool.not_eq_true]
        intro hall
        have := List.all_eq_true.1 hall _ (List.getElem_mem hi2)
        rw [F.chkF_ok this] at hb
        exact absurd hb (by decide))
      (by
        intro hb
        rw [Bool.not_eq_false']
        refine List.all_eq_true.2 fun e hm => ?_
        obtain ⟨i, hi, rfl⟩ := List.getElem_of_mem hm
        have := hb i (by rw [← hn.out]; exact hi)
        simp only [List.getElem?_eq_getElem hi, Option.map_some, Option.getD_some] at this
        cases ho : F.okF fs[i].2
        · rw [F.chkF_no ho] at this; exact absurd this (by decide)
        · rfl))
    unfold F.fnV at HC
    obtain ⟨al, hal⟩ : ∃ al, (fs.all fun e => F.okF e.2) = al := ⟨_, rfl⟩
    rw [hal] at HC
    have HV : Hid (al = M) := by
      show _ = _
      rw [← HM.out, ← hal]; unfold mayF; rw [hn.out, decide_eq_true (by omega : 1 ≤ n ∧ n ≤ 64)]; rfl
    clear hal HM he hr HZ
    go_enter Tryz.func48, Tryz.ntmps48
    go_wp2_with fail
    refine (HC.out _ (Keep.refl _ _)).mono ?_
    rintro e w1 ⟨rfl, k1⟩
    go_wp2
    go_ret
    exact ⟨by rw [← HV.out]; cases al <;> rfl, keepN k0 k1⟩
  · have hd : decide ((n : Int) ≤ 64) = false := by rw [decide_eq_false_iff_not]; omega
    obtain rfl : false = M := by
      rw [← HM.out]; unfold mayF; rw [hn.out, decide_eq_false (by omega : ¬ (1 ≤ n ∧ n ≤ 64))]; rfl
    clear HM he hr HZ
    go_enter Tryz.func48, Tryz.ntmps48
    go_wp2
    go_ret
    exact ⟨rfl, k0⟩

end Go.Proofs.YtifobiajjhknbaaGreatDoor.I

namespace Go.Proofs.YtifobiajjhknbaaGreatDoor.I
open Go.RowKit W

theorem blk2 {w : World} {g : Nat} {v : IV} (h : Blk w g 27 v.cells) : w.cell? ⟨g, 0, none⟩ = some (.slice v.X v.nx v.cx) ∧ w.cell? ⟨g, 1, none⟩ = some (.slice v.Y v.ny v.cy) := ⟨h.cell 0, h.cell 1⟩
/-- An image whose lists a machine holds. -/
structure LgI (v : IV) (es : List SE) (fs : List FE) : Prop where
  nx : v.nx ≤ 140737488355328
  ny : v.ny ≤ 140737488355328
  sh : ∀ e ∈ es, e.1.n ≤ 140737488355328
  fn : ∀ e ∈ fs, F.LgF e.1

end Go.Proofs.YtifobiajjhknbaaGreatDoor.I

namespace Go.Proofs.YtifobiajjhknbaaGreatDoor.I
open Go.RowKit Go.Shelf W
attribute [local go_sem] Oper.semAt_some

/-- The function of a number, and what comes. -/
def fnI (fs : List FE) (x : Nat) : FE := fs[x]?.getD (F.nilV, F.nilF)
theorem fnI_at {fs : List FE} {x : Nat} (h : x < fs.length) : fnI fs x = fs[x] := by unfold fnI; rw [List.getElem?_eq_getElem h]; rfl
abbrev eaA (fs : List FE) (x : Nat) : Array Value := #[.int .i64 (x : Int), (fnI fs x).1.val]
/-- What a round keeps: the list of functions. -/
def FsK (Y : Option Addr) (fs : List FE) (W W' : World) : Prop := Rd W Y (fvs fs) → Rd W' Y (fvs fs)
theorem FsK.trans {Y : Option Addr} {fs : List FE} {A B C : World} (h : FsK Y fs A B) (h' : FsK Y fs B C) : FsK Y fs A C := fun hr => h' (h hr)
theorem rd_putObj {A : Option Addr} {xs : List Value} (W : World) (l : Nat) (o o' : Obj) (hl : W.heap[l]? = some o) (ho : o.isCells = false) (hr : Rd W A xs) : Rd (W.putObj l o') A xs := fun h0 => by
  obtain ⟨g, off, e, hc⟩ := hr h0
  refine ⟨g, off, e, fun j u hu => ?_⟩
  have h1 := hc j u hu
  have hne : g ≠ l := by
    intro e2
    unfold World.cell? at h1
    dsimp only at h1
    rw [e2, hl] at h1
    cases o with
    | cells cs t f => cases ho
    | _ => simp at h1
  exact (World.cell?_of_block (World.putObj_heap_other (show (⟨g, off + j, none⟩ : Addr).block ≠ l from hne))).trans h1
theorem FsK.putObj {Y : Option Addr} {fs : List FE} (W : World) (l : Nat) (o o' : Obj) (hl : W.heap[l]? = some o) (ho : o.isCells = false) : FsK Y fs W (W.putObj l o') := fun h => rd_putObj W l o o' hl ho h
set_option maxRecDepth 100000 in
set_option maxHeartbeats 4000000 in
theorem each1_in (m l : Nat) (hm : 1 ≤ m) (b : Nat) (v : IV) (fs : List FE) (hl : fs.length = v.ny) (hn : v.ny ≤ 1000) (J Jx : List Nat → World → Prop) (hJk : ∀ pre W W', J pre W → Keep NoB W W' → J pre W')
    (hY : ∀ pre x W, J pre W → pre.length < v.ny → YieldAt Fence.wide (m - 1) Tryz.prog l (eaA fs x) W fun e W' =>
      (e = .returned (.bool true) ∧ J (pre ++ [x]) W' ∧ FsK v.Y fs W W') ∨ (e = .returned (.bool false) ∧ Jx (pre ++ [x]) W'))
    (W : World) (hx : Blk W b 27 v.cells) (hr : Rd W v.Y (fvs fs)) (h0 : J [] W) :
    CallsIn Fence.wide m Tryz.prog 143 #[.func (.yield l) #[] #[], .pointer (some ⟨b, 0, none⟩)] W fun e W' => (∃ v, e = .returned v) ∧
      ((∃ ys : List Nat, ys = List.range v.ny ∧ J ys W') ∨ (∃ pre : List Nat, (∃ k, k ≤ v.ny ∧ pre = List.range k) ∧ Jx pre W')) := by
  obtain ⟨q0, q1⟩ := blk2 hx
  obtain ⟨X, nx, cx, Y, ny, cy⟩ := v
  dsimp only at *
  have HR := Lib.hid hr
  clear hr hx
  refine callsIn_of_wp Tryz.func143 rfl trivial ?_ rfl
  simp only [Tryz.ntmps143, List.size_toArray, List.length_cons, List.length_nil, Nat.reduceAdd, Nat.reduceSub, Array.replicate_succ, Array.replicate_zero, List.push_toArray, List.append_toArray, List.nil_append, List.cons_append]
  gi_wp2
  gi_loopw [8] (fun p wr => ∃ j : Nat, j ≤ ny ∧ p = .int .i64 (j : Int) ∧ J (List.range j) wr ∧ Hid (Rd wr Y (fvs fs))) (fun p _ => ny - (intOf p).toNat)
  case atStart => exact ⟨0, by omega, rfl, h0, HR.out⟩
  case round =>
    clear h0 HR q0 q1
    obtain ⟨j, hj, rfl, hJ, hL⟩ := hrel
    by_cases hlt : j < ny
    · have hje : j < fs.length := by omega
      obtain ⟨g, off, rfl, c0, c1, c2, c3, c4⟩ := fun_at hL.out hje
      have hk0 := (Keep.refl NoB wr).alloc (.cells (fnI fs j).1.cells 35)
      have HY := Lib.hid (hY (List.range j) j _ (hJk _ _ _ hJ hk0) (by simp; omega))
      have HL2 := Lib.hid (hL.out.keepN hk0)
      have HE : Hid (List.range j ++ [j] = List.range (j + 1)) := by show _ = _; rw [List.range_succ]
      have hfi := fnI_at hje
      dsimp only [eaA] at HY
      rw [hfi] at HY HL2
      clear hJ hk0 hfi
      generalize fs[j] = e at c0 c1 c2 c3 c4 HY HL2
      obtain ⟨⟨S1, A1, na1, ca1, B1, nb1, cb1, L1, nl1, cl1, D1, nd1, cd1⟩, f⟩ := e
      dsimp only [F.FV.val, F.FV.cells] at c0 c1 c2 c3 c4 HY HL2
      obtain ⟨fn, tmps, assign, body, hy, hRun⟩ := HY.out
      clear HY hY
      gi_wp2
      refine hRun.mono ?_
      rintro e W3 (⟨rfl, hJ3, hk3⟩ | ⟨rfl, hJx3⟩)
      · have hL3 := hk3 HL2.out
        rw [HE.out] at hJ3
        gi_wp2
        go_roundw
        case rel => exact ⟨j + 1, by omega, by go_num, hJ3, hL3⟩
        case measure => simp [intOf]; omega
      · rw [HE.out] at hJx3
        gi_wp2
        refine bodyPost_ret (results_none rfl _ _ _) rfl ?_
        exact ⟨⟨_, rfl⟩, .inr ⟨_, ⟨_, by omega, rfl⟩, hJx3⟩⟩
    · obtain rfl : j = ny := by omega
      gi_wp2
      go_end0
      exact ⟨⟨_, rfl⟩, .inl ⟨_, rfl, hJ⟩⟩

theorem each_abides {B : Nat} {J : List Nat → World → Prop} (h : AbidesFrom B J) : ∀ pre W W', J pre W → Keep NoB W W' → J pre W' := fun pre W W' hj hk => h pre W W' none hj hk.grows (fun r e => by cases e)
theorem each_stops (m : Nat) (hm : 1 ≤ m) (b : Nat) (v : IV) (fs : List FE) (hl : fs.length = v.ny) (hn : v.ny ≤ 1000) (w : World) (hx : Blk w b 27 v.cells) (hr : Rd w v.Y (fvs fs)) :
    SeqStopsK Fence.wide m Tryz.prog 143 #[.pointer (some ⟨b, 0, none⟩)] (eaA fs) (FsK v.Y fs) (fun ys : List Nat => ys = List.range v.ny) (fun pre : List Nat => ∃ k, k ≤ v.ny ∧ pre = List.range k) v.ny w := fun l J Jx W hb hJ _ hY h0 =>
  each1_in m l hm b v fs hl hn J Jx (each_abides hJ) hY W (Blk.keep hx (Keep.of_below (O := NoB) hb) id) (hr.keepN (Keep.of_below (O := NoB) hb)) h0

set_option maxRecDepth 100000 in
theorem each_any (m : Nat) (v : IV) (w : World) :
    CallsIn Fence.wide m Tryz.prog 89 #[v.val] w fun e w' => e = .returned (.func (.func 143) #[] #[.pointer (some ⟨w.heap.size, 0, none⟩)]) ∧ w' = w.alloc (.cells v.cells 27) := by
  obtain ⟨X, nx, cx, Y, ny, cy⟩ := v
  dsimp only [IV.val, IV.cells]
  refine callsIn_of_wp Tryz.func89 rfl trivial ?_ rfl
  simp only [Tryz.ntmps89, List.size_toArray, List.length_cons, List.length_nil, Nat.reduceAdd, Nat.reduceSub, Array.replicate_succ, Array.replicate_zero, List.push_toArray, List.append_toArray, List.nil_append, List.cons_append]
  gi_wp2
  go_ret
  exact ⟨rfl, rfl⟩

end Go.Proofs.YtifobiajjhknbaaGreatDoor.I

namespace Go.Proofs.YtifobiajjhknbaaGreatDoor.I
open Go.RowKit Go.Shelf W
attribute [local go_sem] Oper.semAt_some

/-- The name of a number. -/
def nmx (fs : List FE) (x : Nat) : List UInt8 := (fnI fs x).1.S.data.toList
/-- How often a name has come, if none came twice. -/
def cntF (fs : List FE) (pre : List Nat) (s : List UInt8) : Nat := if s ∈ pre.map (nmx fs) then 1 else 0
theorem cntF_new {fs : List FE} {pre : List Nat} {x : Nat} : ∀ s, cntF fs (pre ++ [x]) s = setS (cntF fs pre) (nmx fs x) 1 s := by
  intro s
  unfold cntF setS
  by_cases e : s = nmx fs x
  · subst e; simp
  · rw [if_neg e]; simp [e]
theorem nodup_new {fs : List FE} {pre : List Nat} {x : Nat} (h : nmx fs x ∉ pre.map (nmx fs)) (hp : (pre.map (nmx fs)).Nodup) : ((pre ++ [x]).map (nmx fs)).Nodup := by
  rw [List.map_append, List.nodup_append]
  refine ⟨hp, by simp, ?_⟩
  intro a ha b hb
  simp at hb
  subst hb
  rintro rfl
  exact h ha
theorem names_range {fs : List FE} {n : Nat} (hn : fs.length = n) (hN : ∀ e ∈ fs, e.1.S.data.toList = e.2.nm) : (List.range n).map (nmx fs) = names (imOf [] fs) := by
  apply List.ext_getElem?
  intro i
  unfold names imOf nmx
  by_cases h : i < fs.length
  · rw [List.getElem?_map, List.getElem?_range (by omega)]
    simp [fnI_at h, h, hN _ (List.getElem_mem h)]
  · rw [List.getElem?_eq_none (by simp; omega), List.getElem?_eq_none (by simp; omega)]
theorem rd_grown {W W' : World} {A : Option Addr} {xs : List Value} {mb : Nat} {es : Array MapEntry} {c : Nat} (hg : W.grownBy W' (some mb)) (hm : W.heap[mb]? = some (.map es c)) (hr : Rd W A xs) : Rd W' A xs := fun h0 => by
  obtain ⟨g, off, e, hc⟩ := hr h0
  refine ⟨g, off, e, fun j u hu => ?_⟩
  have h1 := hc j u hu
  have hne : g ≠ mb := by
    rintro rfl
    unfold World.cell? at h1
    simp [hm] at h1
  exact (World.cell?_of_block (hg.block g (World.block_lt_of_cell? W _ h1) (by simp [hne]))).trans h1
theorem blk_grown_map {W W' : World} {mb g : Nat} {t : TypeId} {cs : Array Value} {es : Array MapEntry} {c : Nat} (hg : W.grownBy W' (some mb)) (hm : W.heap[mb]? = some (.map es c)) (h : Blk W g t cs) : Blk W' g t cs :=
  h.grown hg (fun e => by
    cases e
    unfold Blk at h
    rw [hm] at h; cases h)
/-- What the loop keeps. -/
def ApI (w : World) (b : Nat) (fs : List FE) (pre : List Nat) (W : World) : Prop :=
  (Blk W (b + 1) 4 #[.bool false] ∧ Blk W (b + 1 + 1 + 1) 78 #[.map (some (b + 1 + 1))]) ∧ SMap Tryz.prog 9 3 (b + 1 + 1) pre.length (cntF fs pre) W ∧ Keep NoB w W ∧ (pre.map (nmx fs)).Nodup
/-- Where it is left: a name came twice. -/
def ApX (w : World) (b : Nat) (fs : List FE) (c : Code) (pre : List Nat) (W : World) : Prop :=
  c = .ret ∧ Blk W (b + 1) 4 #[.bool false] ∧ Keep NoB w W ∧ ¬ (pre.map (nmx fs)).Nodup
def ApA (v : IV) (fs : List FE) (b : Nat) (x : Nat) (Bo : Nat) : Act :=
  { tmps := #[v.val, .pointer (some ⟨b, 0, none⟩), .pointer (some ⟨b + 1, 0, none⟩), .pointer (some ⟨b + 1 + 1 + 1, 0, none⟩), undef, .pointer (some ⟨Bo, 0, none⟩), .map (some (b + 1 + 1)), v.val, .func (.func 143) #[] #[.pointer (some ⟨b + 1 + 1 + 1 + 1, 0, none⟩)], .int .i64 (x : Int), (fnI fs x).1.val, undef, undef, undef, undef, undef, undef, undef, undef, undef, undef], defers := [] }
theorem apI_own {w : World} {b B : Nat} {fs : List FE} (hb : b + 4 ≤ B) (hB : w.heap.size ≤ B) : OwnFrom B (ApI w b fs) := by
  intro s X Y row ⟨⟨h1, h2⟩, h3, h4, h5⟩ hg hrow
  exact ⟨⟨O.blk_own (β := Unit) _ _ _ (fun _ => _) () _ _ _ h1 hg hrow, O.blk_own (β := Unit) _ _ _ (fun _ => _) () _ _ _ h2 hg hrow⟩, h3.grown hg (fun e => by have := (hrow _ e.symm).1; omega), O.keep_own (β := Unit) _ hB () _ _ _ h4 hg hrow, h5⟩
theorem apX_own {w : World} {b B : Nat} {fs : List FE} (hB : w.heap.size ≤ B) (c : Code) : OwnFrom B (fun (pre : List Nat) W => ApX w b fs c pre W) := by
  intro s X Y row ⟨h0, h1, h4, h5⟩ hg hrow
  exact ⟨h0, O.blk_own (β := Unit) _ _ _ (fun _ => _) () _ _ _ h1 hg hrow, O.keep_own (β := Unit) _ hB () _ _ _ h4 hg hrow, h5⟩
theorem met_zero (w : World) : (zeroValue 3).run Tryz.prog w = .ok (.int .i64 0) w := Tryz.zeroValue3 w
theorem not_nodup_range {fs : List FE} {k n : Nat} (hk : k ≤ n) (h : ¬ ((List.range k).map (nmx fs)).Nodup) : ¬ ((List.range n).map (nmx fs)).Nodup := by
  intro h2
  refine h (List.Nodup.sublist ?_ h2)
  exact (List.range_sublist.2 hk).map _
theorem blk_putObj {W : World} {g D : Nat} {t : TypeId} {cs : Array Value} {o o' : Obj} (h : Blk W g t cs) (hl : W.heap[D]? = some o) (ho : o.isCells = false) : Blk (W.putObj D o') g t cs := by
  have hne : g ≠ D := by
    rintro rfl
    unfold Blk at h
    rw [hl] at h; cases h; cases ho
  exact (World.putObj_heap_other hne).trans h
theorem run_bool {w : World} {g : Nat} {u : Bool} (h : Blk w g 4 #[.bool u]) : (loadVar 4 ⟨g, 0, none⟩).run Tryz.prog w = .ok (.bool u) w := by
  have ha : (isAgg 4).run Tryz.prog w = .ok false w := Tryz.isAgg4 w
  have hc : w.cell? ⟨g, 0, none⟩ = some (.bool u) := h.cell 0
  simp [loadVar, ha, hc]

set_option maxRecDepth 100000 in
set_option maxHeartbeats 4000000 in
theorem apart_any (v : IV) (es : List SE) (fs : List FE) (w : World) (h : ImAt w v es fs) (hn : v.ny ≤ 1000) (hf : ∀ e ∈ fs, e.1.S.size ≤ 140737488355328) (R : Bool) (hR : Hid (decide ((names (imOf [] fs)).Nodup) = R)) :
    Calls Tryz.prog 50 #[v.val] w fun e w' => e = .returned (.bool R) ∧ Keep NoB w w' := by
  have hly := h.ly
  have HR := Lib.hid (fun W (hk : Keep NoB w W) => h.ry.keepN hk)
  have HN := Lib.hid (names_range hly (fun e he => (h.hf e he).nm))
  have HSZ : Hid (∀ x, (fnI fs x).1.S.size ≤ maxLen) := fun x => by
    by_cases hx : x < fs.length
    · rw [fnI_at hx]; have := hf _ (List.getElem_mem hx); unfold maxLen; omega
    · unfold fnI; rw [List.getElem?_eq_none (by omega)]; exact Nat.zero_le _
  clear h hf
  refine (callsIn_wide (n := 4)).1 ?_
  refine callsIn_of_wp_marks Tryz.func50 rfl trivial ?_ rfl
  have hmm := @run_makeMap Tryz.prog
  have hst := Lib.hid (fun m hm b w hx hr => each_stops m hm b v fs hly hn w hx hr)
  have he1 := Lib.hid (fun m w => each_any m v w)
  have hkk := ((((Keep.refl NoB w).alloc (.cells v.cells 27)).alloc (.cells #[.bool false] 4)).alloc (.map #[] 0)).alloc (.cells #[.map (some (w.heap.size + 1 + 1))] 78)
  have hs := (((Blk.new (w.alloc (.cells v.cells 27)) 4 #[.bool false]).alloc (.map #[] 0)).alloc (.cells #[.map (some (w.heap.size + 1 + 1))] 78)).alloc (.cells v.cells 27)
  have hm0 := SMap.new Tryz.prog 9 3 ((w.alloc (.cells v.cells 27)).alloc (.cells #[.bool false] 4))
  simp only [World.size_alloc] at hm0
  have hm1 := hm0.keep (O := NoB) (((Keep.refl NoB _).alloc (.cells #[.map (some (w.heap.size + 1 + 1))] 78)).alloc (.cells v.cells 27)) id
  have hb3 := (Blk.new (((w.alloc (.cells v.cells 27)).alloc (.cells #[.bool false] 4)).alloc (.map #[] 0)) 78 #[.map (some (w.heap.size + 1 + 1))]).alloc (.cells v.cells 27)
  have hi5 := Blk.new ((((w.alloc (.cells v.cells 27)).alloc (.cells #[.bool false] 4)).alloc (.map #[] 0)).alloc (.cells #[.map (some (w.heap.size + 1 + 1))] 78)) 27 v.cells
  simp only [World.size_alloc] at hs hb3 hi5
  have hK := hkk.alloc (.cells v.cells 27)
  have hr5 := HR.out _ hK
  have hI0 : ApI w w.heap.size fs [] _ := ⟨⟨hs, hb3⟩, hm1.congr (fun x => by simp [cntF]), hK, by simp⟩
  have HI0 := Lib.hid hI0
  have HX5 := Lib.hid hi5
  have HR5 := Lib.hid hr5
  clear hs hm0 hm1 hb3 hi5 hkk hK hr5 hI0
  obtain ⟨X, nx, cx, Y, ny, cy⟩ := v
  dsimp only [IV.val, IV.cells] at *
  simp only [Tryz.ntmps50, List.size_toArray, List.length_cons, List.length_nil, Nat.reduceAdd, Nat.reduceSub, Array.replicate_succ, Array.replicate_zero, List.push_toArray, List.append_toArray, List.nil_append, List.cons_append]
  gi_wp2_with (refine ⟨trivial, ?_⟩; gi_at_call 89; refine (he1.out _ _).mono ?_; rintro e w1 ⟨rfl, rfl⟩)
  refine wpIn_rangeFunc_ownH rfl (by omega) (gf := 143) (lb := #[.pointer (some ⟨w.heap.size + 1 + 1 + 1 + 1, 0, none⟩)]) rfl trivial (enters_of Tryz.func143 (by kernel_rfl) rfl)
    (hst.out _ (by omega) _ _ HX5.out HR5.out) FsK.trans (fun W l o o' _ hl ho _ => FsK.putObj W l o o' hl ho) (Below.refl _ _) (fun _ => rfl)
    (ApI w w.heap.size fs) (fun c pre W => ApX w w.heap.size fs c pre W) (apI_own (by simp) (by simp; omega)) (fun c => apX_own (by simp; omega) c) HI0.out
    (fun x a' W => ∃ Bo, Blk W Bo 35 (fnI fs x).1.cells ∧ a' = ApA ⟨X, nx, cx, Y, ny, cy⟩ fs w.heap.size x Bo) ?hax ?assign ?body ?done ?stop
  case hax =>
    rintro x a' s X Y row ⟨Bo, h1, h2⟩ hg hrow
    exact ⟨Bo, O.blk_own (β := Unit) _ _ _ (fun _ => _) () _ _ _ h1 hg hrow, h2⟩
  case assign =>
    intro l pre x W K hi hK
    have HI := Lib.hid (fun W' hk => apI_own (w := w) (b := w.heap.size) (fs := fs) (B := w.heap.size + 4) (Nat.le_refl _) (by omega) pre W W' none hi (Keep.grows hk) (fun r e => by cases e))
    have HB1 := Lib.hid (Blk.new W 35 (fnI fs x).1.cells)
    have HK2 := Lib.hid (fun a' W' h1 h2 h3 h4 => hK a' W' h1 h2 h3 h4)
    unfold ApA at HK2
    dsimp only [eaA]
    clear hi
    generalize fnI fs x = e at *
    obtain ⟨⟨S1, A1, na1, ca1, B1, nb1, cb1, L1, nl1, cl1, D1, nd1, cd1⟩, f⟩ := e
    dsimp only [F.FV.val, F.FV.cells, IV.val, IV.cells] at *
    clear hK
    gi_wp2
    exact HK2.out _ _ (keepsFrom_keep ((Keep.refl NoB W).alloc _)) (fun h => h.keepN ((Keep.refl NoB W).alloc _)) (HI.out _ ((Keep.refl NoB W).alloc _)) ⟨_, HB1.out, rfl⟩
  case body =>
    rintro l pre x a' W hl _ ⟨⟨hs, hm3⟩, hM, hK, hnd⟩ ⟨Bo, hb, rfl⟩ hlt
    have cb : W.cell? ⟨Bo, 0, none⟩ = some (.string (fnI fs x).1.S) := hb.cell 0
    have cm : W.cell? ⟨w.heap.size + 1 + 1 + 1, 0, none⟩ = some (.map (some (w.heap.size + 1 + 1))) := hm3.cell 0
    have hsz := HSZ.out x
    obtain ⟨em, cmc, hobj⟩ := hM.obj
    dsimp only [ApA, IV.val, IV.cells]
    have hzs := hs.lt
    by_cases hx : nmx fs x ∈ pre.map (nmx fs)
    · have e1 : cntF fs pre (fnI fs x).1.S.data.toList = 1 := if_pos hx
      have hlk := hM.look (t := 78) Tryz.underlying78 Tryz.underlying9 Tryz.underlying3 (met_zero _) (fnI fs x).1.S hsz
      obtain ⟨w5, hup, hM5, hg5⟩ := hM.update (t := 78) Tryz.underlying78 Tryz.underlying9 Tryz.underlying3 (by unfold maxLen; omega) (fnI fs x).1.S 2 hsz (by decide)
      have hlk5 := hM5.look (t := 78) Tryz.underlying78 Tryz.underlying9 Tryz.underlying3 (met_zero _) (fnI fs x).1.S hsz
      have e2 : setS (cntF fs pre) (fnI fs x).1.S.data.toList 2 (fnI fs x).1.S.data.toList = 2 := if_pos rfl
      rw [e1, show ((1 : Nat) : Int) = 1 from rfl] at hlk
      rw [e2, show ((2 : Nat) : Int) = 2 from rfl] at hlk5
      rw [show ((2 : Nat) : Int) = 2 from rfl] at hup
      have cb5 := (blk_grown_map hg5 hobj hb).cell 0
      have cm5 := (blk_grown_map hg5 hobj hm3).cell 0
      have hs5 := blk_grown_map hg5 hobj hs
      have hs6 := hs5.put 0 (.bool false)
      have fz := fun i => hs5.frozen i
      have c5 := hs5.cell 0
      have hzs5 := hs5.lt
      have HX : Hid (ApX w w.heap.size fs .ret (pre ++ [x]) (w5.setCell ⟨w.heap.size + 1, 0, none⟩ (.bool false))) :=
        ⟨rfl, hs6, (hK.grown hg5 (fun g e hl => by cases e; omega)).setCell (fun h => absurd h (by simp)) _, fun h => by
          rw [List.map_append, List.nodup_append] at h
          exact h.2.2 _ hx _ (by simp) rfl⟩
      have HKF : Hid (KeepsFrom (w.heap.size + 1 + 1 + 1 + 1 + 1) W (w5.setCell ⟨w.heap.size + 1, 0, none⟩ (.bool false))) :=
        ⟨by have := hg5.size; simpa [World.setCell] using this, fun k o hk1 hk2 hk3 => (Below.heap_setCell _ _ _ _ (by show k ≠ w.heap.size + 1; omega)).trans ((hg5.block k (Array.getElem?_eq_some_iff.1 hk2).1 (by simp; omega)).trans hk2)⟩
      simp only [F.FV.cells, List.getElem?_toArray, List.getElem?_cons_zero] at cb5 cm5 c5
      clear hM hM5 hs hm3 hb hs5 hs6 hK hg5 hobj hnd e1 e2 hx
      generalize fnI fs x = e at *
      obtain ⟨⟨S1, A1, na1, ca1, B1, nb1, cb1, L1, nl1, cl1, D1, nd1, cd1⟩, f⟩ := e
      dsimp only [F.FV.val, F.FV.cells] at *
      gi_wp2
      exact ⟨by simpa using HKF.out, HX.out⟩
    · have e1 : cntF fs pre (fnI fs x).1.S.data.toList = 0 := if_neg hx
      have hlk := hM.look (t := 78) Tryz.underlying78 Tryz.underlying9 Tryz.underlying3 (met_zero _) (fnI fs x).1.S hsz
      obtain ⟨w5, hup, hM5, hg5⟩ := hM.update (t := 78) Tryz.underlying78 Tryz.underlying9 Tryz.underlying3 (by unfold maxLen; omega) (fnI fs x).1.S 1 hsz (by decide)
      have hlk5 := hM5.look (t := 78) Tryz.underlying78 Tryz.underlying9 Tryz.underlying3 (met_zero _) (fnI fs x).1.S hsz
      have e2 : setS (cntF fs pre) (fnI fs x).1.S.data.toList 1 (fnI fs x).1.S.data.toList = 1 := if_pos rfl
      rw [e1, show ((0 : Nat) : Int) = 0 from rfl] at hlk
      rw [e2, show ((1 : Nat) : Int) = 1 from rfl] at hlk5
      rw [show ((1 : Nat) : Int) = 1 from rfl] at hup
      have cb5 := (blk_grown_map hg5 hobj hb).cell 0
      have cm5 := (blk_grown_map hg5 hobj hm3).cell 0
      have HX : Hid (ApI w w.heap.size fs (pre ++ [x]) w5) :=
        ⟨⟨blk_grown_map hg5 hobj hs, blk_grown_map hg5 hobj hm3⟩, by
          have := hM5.congr (g := cntF fs (pre ++ [x])) cntF_new
          rwa [show pre.length + 1 = (pre ++ [x]).length by simp] at this, hK.grown hg5 (fun g e hl => by cases e; omega), nodup_new hx hnd⟩
      have HKF : Hid (KeepsFrom (w.heap.size + 1 + 1 + 1 + 1 + 1) W w5 ∧ FsK Y fs W w5) :=
        ⟨⟨hg5.size, fun k o hk1 hk2 hk3 => (hg5.block k (Array.getElem?_eq_some_iff.1 hk2).1 (by simp; omega)).trans hk2⟩, fun hr => rd_grown hg5 hobj hr⟩
      simp only [F.FV.cells, List.getElem?_toArray, List.getElem?_cons_zero] at cb5 cm5
      clear hM hM5 hs hm3 hb hK hg5 hobj hnd e1 e2 hx
      generalize fnI fs x = e at *
      obtain ⟨⟨S1, A1, na1, ca1, B1, nb1, cb1, L1, nl1, cl1, D1, nd1, cd1⟩, f⟩ := e
      dsimp only [F.FV.val, F.FV.cells] at *
      gi_wp2
      exact ⟨by simpa using HKF.out.1, HKF.out.2, HX.out⟩
  case done =>
    rintro D ys W hD rfl ⟨⟨hs, hm3⟩, hM, hK, hnd⟩ hDf
    rw [HN.out] at hnd
    obtain rfl : true = R := by rw [← hR.out, decide_eq_true hnd]
    have hs6 := hs.put 0 (.bool true)
    have fz := fun i => hs.frozen i
    have c5 : W.cell? ⟨w.heap.size + 1, 0, none⟩ = some (.bool false) := hs.cell 0
    have hK6 := hK.setCell (p := ⟨w.heap.size + 1, 0, none⟩) (fun h => absurd h (by simp)) (.bool true)
    have hDf6 := (Below.heap_setCell W ⟨w.heap.size + 1, 0, none⟩ (.bool true) D (by show D ≠ w.heap.size + 1; simp at hD; omega)).trans hDf
    have HS6 := Lib.hid hs6
    clear hs hm3 hM hnd hK hs6
    gi_wp2
    refine ⟨by simp, .inl ⟨_, _, rfl, run_takeDeferred hDf6, ?_⟩⟩
    exact ⟨_, O.results_cell rfl rfl (run_bool (blk_putObj HS6.out hDf6 rfl)), rfl, O.Keep_putObj hK6 (by simp at hD; omega)⟩
  case stop =>
    rintro D c pre W hD ⟨k, hk, rfl⟩ ⟨rfl, hs, hK, hnd⟩ hDf
    have hnd2 := not_nodup_range hk hnd
    rw [HN.out] at hnd2
    obtain rfl : false = R := by rw [← hR.out, decide_eq_false hnd2]
    gi_wp2
    refine ⟨by simp, .inl ⟨_, _, rfl, run_takeDeferred hDf, ?_⟩⟩
    exact ⟨_, O.results_cell rfl rfl (run_bool (blk_putObj hs hDf rfl)), rfl, O.Keep_putObj hK (by simp at hD; omega)⟩

end Go.Proofs.YtifobiajjhknbaaGreatDoor.I

namespace Go.Proofs.YtifobiajjhknbaaGreatDoor.I
open Go.RowKit W

theorem okI_parts (es : List SE) (fs : List FE) : okI (imOf es fs) = (mayS es && (mayF fs && decide ((names (imOf [] fs)).Nodup))) := by
  have hn : names (imOf es fs) = names (imOf [] fs) := rfl
  rw [Bool.eq_iff_iff, okI_iff, hn]
  simp only [Bool.and_eq_true, mayS, mayF, decide_eq_true_eq]
  have e1 : (imOf es fs).sh.all S.okS = es.all fun e => S.okS e.2 := by simp [imOf, List.all_map, Function.comp_def]
  have e2 : (imOf es fs).fn.all F.okF = fs.all fun e => F.okF e.2 := by simp [imOf, List.all_map, Function.comp_def]
  have e3 : (imOf es fs).sh.length = es.length := by simp [imOf]
  have e4 : (imOf es fs).fn.length = fs.length := by simp [imOf]
  rw [e1, e2, e3, e4]
  constructor
  · rintro ⟨⟨a, ⟨b, c⟩, d⟩, e, f⟩
    exact ⟨⟨⟨Nat.zero_le _, a⟩, e⟩, ⟨⟨b, c⟩, f⟩, d⟩
  · rintro ⟨⟨⟨_, a⟩, e⟩, ⟨⟨b, c⟩, f⟩, d⟩
    exact ⟨⟨a, ⟨b, c⟩, d⟩, e, f⟩

set_option maxRecDepth 100000 in
set_option maxHeartbeats 8000000 in
theorem check_any (v : IV) (es : List SE) (fs : List FE) (w : World) (h : ImAt w v es fs) (hl : LgI v es fs) (R : Int) (hR : Hid (chkI (imOf es fs) = R)) :
    Calls Tryz.prog 16 #[v.val] w fun e w' => e = .returned (.int .i64 R) ∧ Keep NoB w w' := by
  have bx := Blk.new w 27 v.cells
  have k0 := (Keep.refl NoB w).alloc (.cells v.cells 27)
  have hlx := h.lx
  have hly := h.ly
  have HS := Lib.hid (fun W (hk : Keep NoB w W) => mayS_any v.X es v.nx v.cx W (fun W' hk' => (h.keepN (keepN hk hk')).rx) hlx (by have := hl.nx; omega) (fun e he W' hk' => S.chkS_any e.1.A e.2 e.1.n e.1.c W' ((h.keepN (keepN hk hk')).hs e he).1 (h.hs e he).2 (by have := hl.sh e he; omega) _ rfl))
  have HF := Lib.hid (fun W (hk : Keep NoB w W) => mayF_any v.Y fs v.ny v.cy W (fun W' hk' => (h.keepN (keepN hk hk')).ry) hly (by have := hl.ny; omega) (fun e he W' hk' => F.checkL_any e.1 e.2 W' ((h.keepN (keepN hk hk')).hf e he) (hl.fn e he) _ rfl))
  have HA : Hid (mayF fs = true → ∀ W, Keep NoB w W → Calls Tryz.prog 50 #[v.val] W fun e w' => e = .returned (.bool (decide ((names (imOf [] fs)).Nodup))) ∧ Keep NoB W w') := fun hm W hk =>
    apart_any v es fs W (h.keepN hk) (by unfold mayF at hm; rw [Bool.and_eq_true, decide_eq_true_eq] at hm; omega) (fun e he => (hl.fn e he).sz) _ rfl
  have HR : Hid (chkI (imOf es fs) = if (mayS es && (mayF fs && decide ((names (imOf [] fs)).Nodup))) = true then 0 else 80) := by show _ = _; unfold chkI; rw [okI_parts]
  obtain ⟨q0, q1⟩ := blk2 bx
  clear h hl bx hlx hly
  obtain ⟨X, nx, cx, Y, ny, cy⟩ := v
  dsimp only [IV.val, IV.cells] at *
  generalize hw1 : w.alloc (.cells #[.slice X nx cx, .slice Y ny cy] 27) = w1 at k0 q0 q1
  have HP := Lib.hid (fun (n : KW w1) => keepN k0 n.keep)
  have z0 : ∀ n : KW w1, n.w.cell? ⟨w.heap.size, 0, none⟩ = some (.slice X nx cx) := fun n => n.keep.cell q0 id
  have z1 : ∀ n : KW w1, n.w.cell? ⟨w.heap.size, 1, none⟩ = some (.slice Y ny cy) := fun n => n.keep.cell q1 id
  generalize decide ((names (imOf [] fs)).Nodup) = bA at *
  cases hs : mayS es
  · rw [hs] at HS HR
    obtain rfl : 80 = R := by rw [← hR.out, HR.out]; rfl
    clear hR HR HF HA hs
    go_enter Tryz.func16, Tryz.ntmps16
    go_wp2_with fail
    clear hw1
    refine wp_region_kept w1 (by kernel_rfl) (by kernel_rfl) (Keep.refl NoB w1) ?_
    repeat (go_big_quiet_step (first | (go_at_call 47; exact kept_of (partsS_any _)) | (go_at_call 46; exact kept_of (HS.out _ (HP.out _)))))
    refine wpQuiet_nil ?_
    rintro _ ⟨n9, rfl⟩
    have hk9 := n9.keep
    generalize n9.w = w9 at hk9 ⊢
    have hK9 := keepN k0 hk9
    go_wp2
    go_ret
    exact ⟨rfl, hK9⟩
  · rw [hs] at HS HR
    cases hf : mayF fs
    · rw [hf] at HF HR
      obtain rfl : 80 = R := by rw [← hR.out, HR.out]; rfl
      clear hR HR HA hs hf
      go_enter Tryz.func16, Tryz.ntmps16
      go_wp2_with fail
      clear hw1
      refine wp_region_kept w1 (by kernel_rfl) (by kernel_rfl) (Keep.refl NoB w1) ?_
      repeat (go_big_quiet_step (first | (go_at_call 47; exact kept_of (partsS_any _)) | (go_at_call 46; exact kept_of (HS.out _ (HP.out _))) | (go_at_call 49; exact kept_of (partsF_any _)) | (go_at_call 48; exact kept_of (HF.out _ (HP.out _)))))
      refine wpQuiet_nil ?_
      rintro _ ⟨n9, rfl⟩
      have hk9 := n9.keep
      generalize n9.w = w9 at hk9 ⊢
      have hK9 := keepN k0 hk9
      go_wp2
      go_ret
      exact ⟨rfl, hK9⟩
    · have HA2 := Lib.hid (HA.out hf)
      rw [hf] at HF HR
      cases bA
      · obtain rfl : 80 = R := by rw [← hR.out, HR.out]; rfl
        clear hR HR HA hs hf
        go_enter Tryz.func16, Tryz.ntmps16
        go_wp2_with fail
        clear hw1
        refine wp_region_kept w1 (by kernel_rfl) (by kernel_rfl) (Keep.refl NoB w1) ?_
        repeat (go_big_quiet_step (first | (go_at_call 47; exact kept_of (partsS_any _)) | (go_at_call 46; exact kept_of (HS.out _ (HP.out _))) | (go_at_call 49; exact kept_of (partsF_any _)) | (go_at_call 48; exact kept_of (HF.out _ (HP.out _))) | (go_at_call 50; exact kept_of (HA2.out _ (HP.out _)))))
        refine wpQuiet_nil ?_
        rintro _ ⟨n9, rfl⟩
        have hk9 := n9.keep
        generalize n9.w = w9 at hk9 ⊢
        have hK9 := keepN k0 hk9
        go_wp2
        go_ret
        exact ⟨rfl, hK9⟩
      · obtain rfl : 0 = R := by rw [← hR.out, HR.out]; rfl
        clear hR HR HA hs hf
        go_enter Tryz.func16, Tryz.ntmps16
        go_wp2_with fail
        clear hw1
        refine wp_region_kept w1 (by kernel_rfl) (by kernel_rfl) (Keep.refl NoB w1) ?_
        repeat (go_big_quiet_step (first | (go_at_call 47; exact kept_of (partsS_any _)) | (go_at_call 46; exact kept_of (HS.out _ (HP.out _))) | (go_at_call 49; exact kept_of (partsF_any _)) | (go_at_call 48; exact kept_of (HF.out _ (HP.out _))) | (go_at_call 50; exact kept_of (HA2.out _ (HP.out _)))))
        refine wpQuiet_nil ?_
        rintro _ ⟨n9, rfl⟩
        have hk9 := n9.keep
        generalize n9.w = w9 at hk9 ⊢
        have hK9 := keepN k0 hk9
        go_wp2
        go_ret
        exact ⟨rfl, hK9⟩

end Go.Proofs.YtifobiajjhknbaaGreatDoor.I

namespace Go.Proofs.YtifobiajjhknbaaGreatDoor.M
open Go.RowKit Go.Shelf W

/-- What a text says, as the reader keeps it. -/
def readP (s : Bs) : PS ⊕ (Nat × Int) := if 131072 < s.length then .inr (0, 93) else match pRun ps0 (linesL s) with
  | .inr n => .inr (n, 90)
  | .inl q => match pSettle q q.im.fn q.ms with
    | .inr x => .inr x
    | .inl fn => if I.okI ⟨q.im.sh, fn⟩ = true then .inl ⟨⟨q.im.sh, fn⟩, q.last, q.nums, q.labs, q.ms⟩ else .inr (0, 93)
def ReadMR (s : Bs) (w : World) (e : Ending) (W' : World) : Prop :=
  Keep NoB w W' ∧ ((∃ l c, readP s = .inr (l, c) ∧ e = .returned (.tuple #[.pointer none, .int .i64 ((l : Nat) : Int), .int .i64 c])) ∨ (∃ q rb T N ln, readP s = .inl q ∧ e = .returned (.tuple #[.pointer (some ⟨rb, 0, none⟩), .int .i64 0, .int .i64 0]) ∧ RdAt w W' T rb q N ln ∧ N ≤ 300000))
/-- The image that the reader has. -/
theorem rdr_own {B : Nat} {W w0 : World} {T : Nat → Tg} {rb : Nat} {v : RV} {es : List I.SE} {fs : List I.FE} {ls : List LE} {R : Tg → Row} {F : Tg → Option Mp} {p : PS} {N : Nat} (h : Rdr B W T rb v es fs ls R F p N) (hB : w0.heap.size = B) (hN : N ≤ 300000) :
    I.OwnIm W (Fresh w0) ⟨v.X, v.nx, v.cx, v.Y, v.ny, v.cy⟩ es fs ∧ I.LgI ⟨v.X, v.nx, v.cx, v.Y, v.ny, v.cy⟩ es fs := by
  subst hB
  have hO : ∀ {t : Tg} {E sz n : Nat} {u : Value} {xs : List Value}, okT t → R t = ⟨E, sz, u, n, xs⟩ → Own W E sz (Fresh w0) u n xs := fun {t E sz n u xs} ht e => by
    have h1 := h.pa.row t ht
    rw [e] at h1
    exact h1.mono (fun k hk _ => (h.pa.fit k (by rw [show T k = mk t from hk]; exact (okT_mk ht).1)).1)
  have hX := hO ⟨Tg.noConfusion, Tg.noConfusion⟩ h.rsh
  have hY := hO ⟨Tg.noConfusion, Tg.noConfusion⟩ h.rfn
  have hxl := hX.1.1
  have hyl := hY.1.1
  rw [I.svs_length] at hxl
  rw [I.fvs_length] at hyl
  have hbx := h.bx
  have hby := h.by_
  refine ⟨⟨hX, hY, fun e he => ?_, fun e he => ?_⟩, by show v.nx ≤ _; omega, by show v.ny ≤ _; omega, fun e he => ?_, fun e he => ?_⟩
  · obtain ⟨i, hi, rfl⟩ := List.getElem_of_mem he
    exact hO ⟨Tg.noConfusion, Tg.noConfusion⟩ (h.rse i hi)
  · obtain ⟨i, hi, rfl⟩ := List.getElem_of_mem he
    exact ⟨(h.fnm i hi).1, hO ⟨Tg.noConfusion, Tg.noConfusion⟩ (h.rfa i hi), hO ⟨Tg.noConfusion, Tg.noConfusion⟩ (h.rfb i hi), hO ⟨Tg.noConfusion, Tg.noConfusion⟩ (h.rfl_ i hi), hO ⟨Tg.noConfusion, Tg.noConfusion⟩ (h.rbd i hi), (h.fnm i hi).2⟩
  · obtain ⟨i, hi, rfl⟩ := List.getElem_of_mem he
    exact h.esm i hi
  · obtain ⟨i, hi, rfl⟩ := List.getElem_of_mem he
    exact h.fsm i hi
def R0 : Tg → Row
  | .sh => ⟨53, 1, .slice none 0 0, 0, []⟩
  | .fn => ⟨35, 5, .slice none 0 0, 0, []⟩
  | .lb => ⟨84, 2, .slice none 0 0, 0, []⟩
  | .mn => ⟨179, 6, .slice none 0 0, 0, []⟩
  | _ => row0
theorem r0_own (t : Tg) (W : World) (P : Nat → Prop) : (R0 t).own W P := by cases t <;> exact Own.nil _ _ _ _
/-- A reader that is new. -/
theorem rdr_start {w W : World} {mb rb : Nat} (hk : Keep NoB w W) (hM : OMap Tryz.prog 9 3 mb 0 (fun _ => none) W) (hb : Blk W rb 82 #[.slice none 0 0, .slice none 0 0, .int .i64 0, .int .i64 0, .map (some mb), .slice none 0 0, .slice none 0 0]) (hne : mb ≠ rb) (h1 : w.heap.size ≤ mb) (h2 : w.heap.size ≤ rb) :
    ∃ T, RdAt w W T rb ps0 0 0 := by
  refine ⟨fun k => if k = rb then .rd else if k = mb then .nu else .no, hk, ⟨none, 0, 0, none, 0, 0, 0, 0, mb, none, 0, 0, none, 0, 0⟩, [], [], [], R0, fun t => if t = .nu then some ⟨mb, 0, fun _ => none⟩ else none, rfl, ?_⟩
  refine { pa := ⟨fun t _ => r0_own t W _, fun t m hm => ?_, fun k hk2 => ?_⟩, bk := hb, tb := if_pos rfl, rsh := rfl, rse := fun i hi => absurd hi (Nat.not_lt_zero _), rfn := rfl, rfa := fun i hi => absurd hi (Nat.not_lt_zero _), rfb := fun i hi => absurd hi (Nat.not_lt_zero _), rfl_ := fun i hi => absurd hi (Nat.not_lt_zero _), rbd := fun i hi => absurd hi (Nat.not_lt_zero _), fnm := fun i hi => absurd hi (Nat.not_lt_zero _), rlb := rfl, rnm := fun i hi => absurd hi (Nat.not_lt_zero _), rmn := rfl, fnu := ⟨0, Nat.le_refl _, rfl⟩, fpl := fun i hi => absurd hi (Nat.not_lt_zero _), fno := fun t _ h => if_neg h, rno := ⟨rfl, fun _ => rfl⟩, im := rfl, lb := rfl, lf := rfl, la := rfl, bx := Nat.le_refl _, by_ := Nat.le_refl _, bm := Nat.le_refl _, bd := fun i hi => absurd hi (Nat.not_lt_zero _), bl := fun i hi => absurd hi (Nat.not_lt_zero _), esm := fun i hi => absurd hi (Nat.not_lt_zero _), fsm := fun i hi => absurd hi (Nat.not_lt_zero _), wm := fun m hm => (List.not_mem_nil hm).elim }
  · split at hm
    · rename_i e
      subst e
      cases hm
      refine ⟨hM, ?_, ⟨Tg.noConfusion, Tg.noConfusion⟩, rfl, by intro t e; cases t <;> first | exact e | cases e⟩
      show (if mb = rb then Tg.rd else if mb = mb then .nu else .no) = .nu
      rw [if_neg hne, if_pos rfl]
    · cases hm
  · by_cases e : k = rb
    · subst e; exact ⟨h2, hb.lt⟩
    · by_cases e2 : k = mb
      · subst e2; exact ⟨h1, hM.lt⟩
      · exact absurd (show (if k = rb then Tg.rd else if k = mb then .nu else .no) = .no by rw [if_neg e, if_neg e2]) hk2
theorem settle_wrong {p : PS} {l : Nat} {c : Int} : ∀ (ms : List Mn) (fn : List _root_.Go.Proofs.YtifobiajjhknbaaGreatDoor.F.Fu), pSettle p fn ms = .inr (l, c) → c ≠ 0
  | [], fn, h => by cases h
  | m :: r, fn, h => by
    rw [pSettle] at h
    split at h
    · injection h with h
      injection h with _ h
      rw [← h]
      unfold wrongM
      split <;> decide
    · exact settle_wrong r _ h
theorem ones_len : ∀ (n : Nat) (l : List Bs), (ones n l).length ≤ l.length
  | _, [] => Nat.le_refl _
  | n, s :: r => by
    have ih := ones_len (n + 1) r
    rw [ones, List.length_append, List.length_cons]
    unfold one
    split
    · simp; omega
    · simp; omega
theorem lines_count (s : Bs) : (linesL s).length ≤ s.length := by
  rw [lines_segs]
  exact Nat.le_trans (ones_len 1 _) (segs_count s)

set_option maxRecDepth 100000 in
set_option maxHeartbeats 4000000 in
theorem read_any (S : ByteArray) (s : Bs) (w : World) (hE : Hid (EnvM w)) (hs : Hid (S.data.toList = s)) (hl : S.size ≤ 140000) :
    Calls Tryz.prog 33 #[.string S] w (ReadMR s w) := by
  have hsz := size_of hs.out
  by_cases h1 : 131072 < s.length
  · have hR : readP s = .inr (0, 93) := if_pos h1
    have hgt : (131072 : Int) < (S.size : Int) := by omega
    go_enter Tryz.func33, Tryz.ntmps33
    go_wp2
    refine bodyPost_ret (results_tmp3 rfl _ _ _) rfl ?_
    exact ⟨Keep.refl _ _, .inl ⟨0, 93, hR, rfl⟩⟩
  · have hngt : ¬ (131072 : Int) < (S.size : Int) := by omega
    have hmm := @run_makeMap Tryz.prog
    have hk1 := ((Keep.refl NoB w).alloc (.map #[] 0)).alloc (.cells #[.slice none 0 0, .slice none 0 0, .int .i64 0, .int .i64 0, .map (some w.heap.size), .slice none 0 0, .slice none 0 0] 82)
    have hM := (OMap.new Tryz.prog 9 3 w).keep ((Keep.refl NoB _).alloc (.cells #[.slice none 0 0, .slice none 0 0, .int .i64 0, .int .i64 0, .map (some w.heap.size), .slice none 0 0, .slice none 0 0] 82)) id
    have hb := Blk.new (w.alloc (.map #[] 0)) 82 #[.slice none 0 0, .slice none 0 0, .int .i64 0, .int .i64 0, .map (some w.heap.size), .slice none 0 0, .slice none 0 0]
    rw [World.size_alloc] at hb
    obtain ⟨T, hT⟩ := rdr_start hk1 hM hb (by omega) (Nat.le_refl _) (by omega)
    have HL := Lib.hid (readLines_any w _ T _ hE hT S s hs hl)
    have hP : readP s = _ := if_neg h1
    have HP := Lib.hid hP
    clear hk1 hM hb hT hP
    go_enter Tryz.func33, Tryz.ntmps33
    go_wp2_with fail
    refine HL.out.mono ?_
    rintro e w2 ⟨k2, ⟨n, hp, rfl⟩ | ⟨q, T2, N, ln, hp, rfl, hr2, hN⟩⟩
    · have hR : readP s = .inr (n, 90) := by rw [HP.out, hp]
      go_wp2
      refine bodyPost_ret (results_tmp3 rfl _ _ _) rfl ?_
      exact ⟨k2, .inl ⟨n, 90, hR, rfl⟩⟩
    · have hG := GP.start.run (linesL s) hp
      have hLc := lines_count s
      have HSe := Lib.hid (settle_any w w2 T2 _ q N ln _ hr2 (by omega) hG (by omega))
      rw [hp] at HP
      have HP2 := Lib.hid (show readP s = (match pSettle q q.im.fn q.ms with
        | .inr x => .inr x
        | .inl fn => if I.okI ⟨q.im.sh, fn⟩ = true then .inl ⟨⟨q.im.sh, fn⟩, q.last, q.nums, q.labs, q.ms⟩ else .inr (0, 93)) from HP.out)
      clear hp hr2 hG k2 HP HL hmm hLc
      generalize w.heap.size + 1 = rb at *
      go_wp2_with fail
      refine HSe.out.mono ?_
      rintro e w3 ⟨k3, ⟨l, c, hp, rfl⟩ | ⟨fn, hp, rfl, hr3⟩⟩
      · have hR : readP s = .inr (l, c) := by rw [HP2.out, hp]
        have HR := Lib.hid hR
        have hc := settle_wrong _ _ hp
        clear hp hR
        have hc2 : (c == 0) = false := by rw [beq_eq_false_iff_ne]; exact hc
        go_wp2
        refine bodyPost_ret (results_tmp3 rfl _ _ _) rfl ?_
        exact ⟨k3, .inl ⟨l, c, HR.out, rfl⟩⟩
      · have hR : readP s = (if I.okI ⟨q.im.sh, fn⟩ = true then .inl ⟨⟨q.im.sh, fn⟩, q.last, q.nums, q.labs, q.ms⟩ else .inr (0, 93)) := by rw [HP2.out, hp]
        have HR := Lib.hid hR
        have HR3 := Lib.hid hr3
        obtain ⟨hk3, v, es, fs, ls, R, F, hln, hr4⟩ := hr3
        obtain ⟨ho, hlg⟩ := rdr_own hr4 rfl (by omega)
        obtain ⟨c0, c1, _⟩ := rd_cells hr4.bk
        have him := hr4.im
        have HC := Lib.hid (I.check_any ⟨v.X, v.nx, v.cx, v.Y, v.ny, v.cy⟩ es fs w3 ho.im hlg (I.chkI ⟨q.im.sh, fn⟩) (by show _ = _; rw [him]))
        unfold I.IV.val I.IV.cells at HC
        clear hp hR hr4 hk3 hln ho hlg him
        cases hok : I.okI ⟨q.im.sh, fn⟩ with
        | true =>
          rw [if_pos hok] at HR
          rw [I.chkI_ok hok] at HC
          go_wp2_with fail
          refine HC.out.mono ?_
          rintro e w4 ⟨rfl, k4⟩
          go_wp2
          refine bodyPost_ret (results_tmp3 rfl _ _ _) rfl ?_
          exact ⟨keepN k3 k4, .inr ⟨_, rb, T2, N, ln, HR.out, rfl, HR3.out.keepN k4, by omega⟩⟩
        | false =>
          rw [if_neg (by rw [hok]; decide)] at HR
          rw [I.chkI_no hok] at HC
          go_wp2_with fail
          refine HC.out.mono ?_
          rintro e w4 ⟨rfl, k4⟩
          go_wp2
          refine bodyPost_ret (results_tmp3 rfl _ _ _) rfl ?_
          exact ⟨keepN k3 k4, .inl ⟨0, 93, HR.out, rfl⟩⟩

end Go.Proofs.YtifobiajjhknbaaGreatDoor.M
