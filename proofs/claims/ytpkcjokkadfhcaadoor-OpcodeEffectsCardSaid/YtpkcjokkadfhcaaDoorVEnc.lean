/-
  encode: a number's bytes, in new memory. No condition but that the number fits its type.
-/
import Derived.Test.YtpkcjokkadfhcaaDoorVDigits
namespace Go.Proofs.YtpkcjokkadfhcaaDoor.V
open Go.RowKit Go.Shelf
attribute [local go_sem] Oper.semAt_some

/-- A byte as a cell. -/
abbrev bv (b : UInt8) : Value := .int .u8 (b.toNat : Int)
abbrev bvs (l : List UInt8) : List Value := l.map bv

/-- The byte of a number at a place, the mark with it where it is the first. -/
def encB (n i : Nat) : UInt8 := if i = wd n - 1 then UInt8.ofNat (dgt n i ||| mk (wd n)) else UInt8.ofNat (dgt n i)
/-- The bytes at those places that the width has. -/
def encF (n : Nat) (ps : List Nat) : List UInt8 := (ps.filter fun i => decide (i < wd n)).map (encB n)
/-- A number's bytes. -/
def encL (n : Nat) : List UInt8 := encF n (down 9)

theorem encF_hit (n : Nat) (ps : List Nat) (i : Nat) (h : i < wd n) : encF n (ps ++ [i]) = encF n ps ++ [encB n i] := by simp [encF, h]
theorem encF_miss (n : Nat) (ps : List Nat) (i : Nat) (h : ¬ i < wd n) : encF n (ps ++ [i]) = encF n ps := by simp [encF, h]
theorem encF_len (n : Nat) (ps : List Nat) : (encF n ps).length ≤ ps.length := by
  unfold encF; rw [List.length_map]; exact List.length_filter_le _ _
theorem dgt_lt (n i : Nat) : dgt n i < 256 := Nat.mod_lt _ (by omega)
theorem mk_lt (k : Nat) : mk k < 256 := Nat.mod_lt _ (by omega)
theorem bv_plain (n i : Nat) (h : ¬ i = wd n - 1) : (Value.int .u8 (dgt n i : Int)) = bv (encB n i) := by
  unfold bv encB; rw [if_neg h, UInt8.toNat_ofNat', Nat.mod_eq_of_lt (dgt_lt n i)]
theorem bv_first (n i : Nat) (h : i = wd n - 1) : (Value.int .u8 (bits .or .u8 (dgt n i : Int) (mk (wd n) : Int))) = bv (encB n i) := by
  unfold bv encB
  rw [if_pos h, UInt8.toNat_ofNat', u8_or_nat _ _ (dgt_lt n i) (mk_lt _), Nat.mod_eq_of_lt (Nat.or_lt_two_pow (n := 8) (dgt_lt n i) (mk_lt _))]

theorem wpIn_scope_wide {n : Nat} {P : Program} {c : Code} {Q : Exit → Act → World → Prop} {a : Act} {w : World} (h : c.wpIn Fence.wide n P (Exit.noGoto Q) a w) : (Code.scope c).wpIn Fence.wide n P Q a w :=
  wpIn_wide.2 (wp_scope_straight (wpIn_wide.1 h))

theorem u8_info : (Tryd.prog.info? 5).map (fun i => (i.zero, i.size, i.bytes)) = some (some (.int .u8 0), 1, 1) := by kernel_rfl

/-- What encode's loop keeps: the box of w, the box of b with what came, the number's box. -/
def EncI (w : World) (bb n : Nat) (pre : List Plc) (W : World) : Prop :=
  (∃ v, Boxed W bb 49 v ∧ W.ownsRow w.heap.size 5 1 v (encF n (pre.map (·.1))).length (bvs (encF n (pre.map (·.1)))) ∧ True) ∧
  Boxed W w.heap.size 3 (.int .i64 (wd n)) ∧ Boxed W (bb + 1) 68 (.int .u64 n) ∧ Below w.heap.size w W

theorem boxed_own' {β : Type} (B : Nat) (t : TypeId) (v : Value) : Own (fun (_ : β) W => Boxed W B t v) := by
  intro s X Y row h hg hrow
  refine h.kept hg (fun e => ?_)
  obtain ⟨o, ho, hc⟩ := hrow B e.symm
  rw [show X.heap[B]? = _ from h] at ho; cases ho; cases hc

theorem encI_own (w : World) (bb n B : Nat) (hB : w.heap.size ≤ B) : OwnFrom B (EncI w bb n) := by
  refine OwnFrom.and (Own.from (holdsRow_own w.heap.size bb 49 5 1 (fun pre : List Plc => (encF n (pre.map (·.1))).length) (fun pre : List Plc => bvs (encF n (pre.map (·.1)))) (fun _ _ => True)) _) ?_
  exact OwnFrom.and (Own.from (boxed_own' _ _ _) _) (OwnFrom.and (Own.from (boxed_own' _ _ _) _) (ownFrom_below (Nat.le_refl _) hB))

theorem boxed_far {W : World} {B B' : Nat} {t : TypeId} {v : Value} (h : Boxed W B t v) (hne : B ≠ B') (u : Value) : Boxed (W.setCell ⟨B', 0, none⟩ u) B t v :=
  (Below.heap_setCell _ _ _ _ hne).trans h

/-- A round that puts a byte behind: all that the loop keeps. -/
theorem enc_step {w W w1 : World} {bb n : Nat} {pre : List Plc} {x : Plc} {v v' : Value} {tmp : Obj}
    (hv : Boxed W bb 49 v) (hrow : W.ownsRow w.heap.size 5 1 v (encF n (pre.map (·.1))).length (bvs (encF n (pre.map (·.1)))))
    (hbw : Boxed W w.heap.size 3 (.int .i64 (wd n))) (hbn : Boxed W (bb + 1) 68 (.int .u64 n)) (hB : Below w.heap.size w W) (hbb : w.heap.size < bb) (hx : x.1 < wd n)
    (hown' : w1.ownsRow w.heap.size 5 1 v' ((encF n (pre.map (·.1))).length + 1) (bvs (encF n (pre.map (·.1))) ++ [bv (encB n x.1)])) (hgrow : (W.alloc tmp).grownBy w1 v.ownBlock) :
    KeepsOthers W (w1.setCell ⟨bb, 0, none⟩ v') ∧ KpC (bb + 1) W (w1.setCell ⟨bb, 0, none⟩ v') ∧ EncI w bb n (pre ++ [x]) (w1.setCell ⟨bb, 0, none⟩ v') := by
  obtain ⟨hv1, hv2, hr2, hk2, hb2⟩ := hv.appended (by decide) hrow hB.size (Nat.le_of_lt hbb) hown' hgrow
  have hbw2 := boxed_far (((hbw.alloc tmp).kept hgrow (hbw.not_row (by decide) hrow))) (B' := bb) (by omega) v'
  have hbn2 := boxed_far (((hbn.alloc tmp).kept hgrow (hbn.not_row (by decide) hrow))) (B' := bb) (by omega) v'
  refine ⟨hk2, fun u hu => ?_, ⟨v', hv2, ?_, trivial⟩, hbw2, hbn2, hB.trans hb2⟩
  · rw [hbn.cell] at hu; rw [hbn2.cell]; exact hu
  · rw [List.map_append]
    simp only [List.map_cons, List.map_nil]
    rw [encF_hit n _ _ hx]
    simpa using hr2

set_option maxRecDepth 100000 in
set_option maxHeartbeats 2000000 in
theorem encode_any (n : Nat) (w : World) :
    Calls Tryd.prog 39 #[.int .u64 n] w fun e w' => ∃ v, e = .returned v ∧ w'.ownsRow w.heap.size 5 1 v (encL n).length (bvs (encL n)) ∧ Below w.heap.size w w' := by
  have hw1 := wd_pos n
  have hw9 := wd_le n
  obtain ⟨i0, hi, hz0, hz1, hz2⟩ := info_parts u8_info
  refine (callsIn_wide (n := 4)).1 ?_
  refine callsIn_of_wp_marks Tryd.func39 rfl trivial ?_ rfl
  simp only [Tryd.ntmps39, List.size_toArray, List.length_cons, List.length_nil, Nat.reduceAdd, Nat.reduceSub, Array.replicate_succ, Array.replicate_zero, List.push_toArray, List.append_toArray, List.nil_append, List.cons_append]
  gi_wp2
  refine wpIn_scope_wide ?_
  gi_wp2_with (first | (refine ⟨trivial, ?_⟩; gi_at_call 50; refine (callsIn_wide.2 (width_any n _)).mono ?_; rintro e w' ⟨rfl, rfl⟩) | (refine ⟨trivial, ?_⟩; gi_at_call 51; refine (digits_any _ n _).mono ?_; rintro e w' ⟨rfl, rfl⟩) | (gi_at_make; refine wpListIn_make_own _ rfl _ _ 49 rfl w.heap.size 5 i0 (.int .u8 0) 1 Tryd.underlying49 hi hz0 hz1 _ _ _ (wd n) rfl rfl rfl (by rw [hz2]; omega) (by unfold maxLen; omega) (by simp) ?_; intro w1 hrow1 hg1))
  refine wpIn_label ?_
  have hs1 : w.heap.size + 2 ≤ w1.heap.size := by have := (hrow1.lt _ rfl).2; simp at this; omega
  have bW : Boxed w1 w.heap.size 3 (.int .i64 (wd n)) := (Boxed.new w 3 (.int .i64 (wd n))).kept hg1 (by simp)
  have bB := Boxed.new w1 49 (.slice (some ⟨w.heap.size + 1, 0, none⟩) 0 (wd n))
  have hB1 : Below w.heap.size w w1 := ((Below.refl _ w).alloc (Nat.le_refl _) _).grown hg1 (by simp) (by simp)
  have bN := Boxed.new (w1.alloc (.cells #[.slice (some ⟨w.heap.size + 1, 0, none⟩) 0 (wd n)] 49)) 68 (.int .u64 n)
  rw [World.size_alloc] at bN
  gi_wp2_with (refine ⟨trivial, ?_⟩; gi_at_call 51; refine (digits_any _ n _).mono ?_; rintro e w' ⟨rfl, rfl⟩)
  have hI0 : EncI w w1.heap.size n [] ((w1.alloc (Obj.cells #[Value.slice (some ⟨w.heap.size + 1, 0, none⟩) 0 (wd n)] 49)).alloc (Obj.cells #[Value.int IntKind.u64 n] 68)) := by
    refine ⟨⟨_, bB.alloc _, ?_, trivial⟩, (bW.alloc _).alloc _, bN, (hB1.alloc (by omega) _).alloc (by simp; omega) _⟩
    have hr := (hrow1.alloc (.cells #[.slice (some ⟨w.heap.size + 1, 0, none⟩) 0 (wd n)] 49)).alloc (.cells #[.int .u64 n] 68)
    simpa [encF] using hr
  refine wpIn_rangeFunc_ownG rfl (by omega) (gf := 58) (lb := #[.pointer (some ⟨w1.heap.size + 1, 0, none⟩)]) rfl trivial (enters_of Tryd.func58 (by kernel_rfl) rfl)
    (digits_stops _ (w1.heap.size + 1) n (by omega) _ (by simp) bN.cell) kpC_t kpC_b (Below.refl _ _) (fun _ => rfl)
    (EncI w w1.heap.size n) (fun _ _ _ => False) (encI_own w w1.heap.size n _ (by simp; omega)) (fun _ _ _ _ _ hs _ _ => hs) hI0
    (fun x => { tmps := #[.int .u64 n, undef, .slice none 0 0, .pointer (some ⟨w.heap.size, 0, none⟩), .pointer (some ⟨w1.heap.size, 0, none⟩), .int .i64 (x.1 : Int), .int .u8 (dgt n x.1 : Int), .int .u64 n, .int .i64 (wd n), .int .i64 (wd n), .slice (some ⟨w.heap.size + 1, 0, none⟩) 0 (wd n), .int .u64 n, .func (.func 58) #[] #[.pointer (some ⟨w1.heap.size + 1, 0, none⟩)], .int .i64 (x.1 : Int), .int .u8 (dgt n x.1 : Int), undef, undef, undef, undef, undef, undef, undef, undef, undef, undef, undef, undef, undef, undef, undef, undef, undef, undef], defers := [] }) ?assign ?body ?done ?stop
  case assign =>
    intro l x W K hK
    gi_wp2
    exact hK
  case body =>
    rintro l pre x W ⟨⟨v, hv, hrow, _⟩, hbw, hbn, hB⟩ hlt
    have hcv := hv.cell
    have hcw := hbw.cell
    have hpl : (encF n (pre.map (·.1))).length ≤ 8 := by have := encF_len n (pre.map (·.1)); rw [List.length_map] at this; omega
    obtain ⟨x, hx8⟩ := x
    have hd := dgt_lt n x
    by_cases hx : x < wd n
    · by_cases hf : x = wd n - 1
      · have hb : ((x : Int) == (wd n : Int) - 1) = true := by rw [beq_iff_eq]; omega
        have HE := Lib.hid (bv_first n x hf)
        clear hf
        gi_wp2_with (first | (refine ⟨trivial, ?_⟩; gi_at_call 52; refine (CallsIn.inRound l (callsIn_wide.2 (mark_any (wd n) _ hw1 hw9))).mono ?_; rintro e w' ⟨rfl, rfl⟩) | (gi_at_builtin; refine wpListIn_append_own _ rfl _ _ 49 rfl w.heap.size 5 i0 (.int .u8 0) 1 1 Tryd.underlying49 hi hz0 hz1 hz2 rfl (by decide) _ _ _ rfl (hrow.alloc _) ⟨W.heap.size, 0, none⟩ 1 1 [.int .u8 (bits .or .u8 (dgt n x : Int) (mk (wd n) : Int))] rfl rfl (cell_one_new _ _ _) (by simp [Value.oneCell']) (by unfold maxLen; omega) (by omega) (by have := hB.size; simp; omega) ?_; intro v' w2 hown' hgrow _; obtain ⟨g', cap', rfl⟩ := ownsRow_succ hown'; rw [HE.out] at hown'; have hst := enc_step (x := ⟨x, hx8⟩) hv hrow hbw hbn hB (by omega) hx hown' hgrow; have hv2 := (hv.alloc _).kept hgrow (hv.not_row (by decide) hrow); have hc1 := hv2.cell; have hf1 := hv2.frozen))
        exact ⟨hst.1.from _, hst.2⟩
      · have hb : ((x : Int) == (wd n : Int) - 1) = false := by rw [beq_eq_false_iff_ne]; omega
        have HE := Lib.hid (bv_plain n x hf)
        clear hf
        gi_wp2_with (gi_at_builtin; refine wpListIn_append_own _ rfl _ _ 49 rfl w.heap.size 5 i0 (.int .u8 0) 1 1 Tryd.underlying49 hi hz0 hz1 hz2 rfl (by decide) _ _ _ rfl (hrow.alloc _) ⟨W.heap.size, 0, none⟩ 1 1 [.int .u8 (dgt n x : Int)] rfl rfl (cell_one_new _ _ _) (by simp [Value.oneCell']) (by unfold maxLen; omega) (by omega) (by have := hB.size; simp; omega) ?_; intro v' w2 hown' hgrow _; obtain ⟨g', cap', rfl⟩ := ownsRow_succ hown'; rw [HE.out] at hown'; have hst := enc_step (x := ⟨x, hx8⟩) hv hrow hbw hbn hB (by omega) hx hown' hgrow; have hv2 := (hv.alloc _).kept hgrow (hv.not_row (by decide) hrow); have hc1 := hv2.cell; have hf1 := hv2.frozen)
        exact ⟨hst.1.from _, hst.2⟩
    · have HM := Lib.hid (encF_miss n (pre.map (·.1)) x hx)
      gi_wp2
      refine ⟨KeepsFrom.refl _ _, fun u hu => hu, ⟨v, hv, ?_, trivial⟩, hbw, hbn, hB⟩
      rw [List.map_append]
      simp only [List.map_cons, List.map_nil]
      rw [HM.out]
      exact hrow
  case done =>
    rintro D ys W hD hS ⟨⟨v, hv, hrow, _⟩, _, _, hB⟩ hK
    have hc := hv.cell
    gi_wp2
    refine ⟨by simp, .inl ⟨_, _, rfl, run_takeDeferred hK, ?_⟩⟩
    rw [hS] at hrow
    exact ⟨_, results_tmp rfl _ _ _, v, rfl, ownsRow_putObj hrow _ hK rfl, hB.trans (belowK_b (w := w) (Nat.le_refl _) W D _ _ (by simp at hD; omega) hK rfl rfl)⟩
  case stop =>
    rintro D c pre W _ _ h _
    exact h.elim

end Go.Proofs.YtpkcjokkadfhcaaDoor.V
