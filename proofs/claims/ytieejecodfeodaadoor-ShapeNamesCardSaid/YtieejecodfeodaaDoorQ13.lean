/-
  For ShapeNames' walk: strings.Repeat; of and sig by what their answers hold; the values of the listed texts and bytes. Conditions: the letters stand.
  ShapeNames' walk: bounds of shapes and signatures; the chapter's bytes; cells; texts and bytes that are none. Conditions: the letters stand.
-/
import Derived.Lib.SlBytesConst
import Derived.Test.YtieejecodfeodaaDoorQ8
import Derived.Test.YtieejecodfeodaaDoorQ7
import Derived.Test.YtieejecodfeodaaDoorQ6
import Derived.Test.YtieejecodfeodaaDoorShelf3
import Derived.Test.YtieejecodfeodaaDoorQ12
namespace Go.Proofs.YtieejecodfeodaaDoor.S
open Go.RowKit W

section
variable {P : Program} {l tl : List Oper} {Q : Act → World → Prop} {rest : List (Nat × Bool)} {i : Nat} {gen : Bool} {o : Oper} {a : Act} {I : World → Prop}
/-- An operation that yields v in every world of the class. -/
theorem shM_val (ho : l.drop i = o :: tl) (hm : isMake o = false) (hw : Region.wanted o (yielded l.toArray a.tmps) = true) (v : Value)
    (H : ∀ n : KI I, yieldsK P o a n.w fun u w' => u = v ∧ Keep NoB n.w w') (h : Shut (wpM P l.toArray Q rest (a.put o.dst v) I)) : Shut (wpM P l.toArray Q ((i, gen) :: rest) a I) := by
  refine ⟨?_⟩
  change mOp P l.toArray gen i (wpM P l.toArray Q rest) a I
  have ho := at_drop ho
  unfold mOp
  simp only [ho, hw, if_true, hm, Bool.false_eq_true, if_false]
  exact .inl ⟨v, fun w hw' => H ⟨w, hw'⟩, h.out⟩
end
theorem yv {f : FuncId} {args : List Value} {v : Value} {w : World} {R : Ending → World → Prop} (h : Calls Tryd.prog f args.toArray w R) (hR : ∀ e w', R e w' → e = .returned v ∧ Keep NoB w w') :
    Calls Tryd.prog f args.toArray w fun e w' => ∃ u, e = .returned u ∧ u = v ∧ Keep NoB w w' := h.mono fun e w' hh => ⟨v, (hR e w' hh).1, rfl, (hR e w' hh).2⟩

/-- A list that of has answered; a signature that sig has. -/
def OfS (l : List Int) (u : Value) (w : World) : Prop := ∃ A c, u = .slice A l.length c ∧ Rd w A (ivs l)
theorem OfS.stable (l : List Int) (u : Value) : StableI (OfS l u) := fun _ _ ⟨A, c, e, h⟩ hk => ⟨A, c, e, h.keepN hk⟩
def SigS (a r : List Int) (u : Value) (w : World) : Prop := ∃ A ca B cb, u = .agg #[.slice A a.length ca, .slice B r.length cb] ∧ Rd w A (ivs a) ∧ Rd w B (ivs r)
theorem SigS.stable (a r : List Int) (u : Value) : StableI (SigS a r u) := fun _ _ ⟨A, ca, B, cb, e, h, h'⟩ hk => ⟨A, ca, B, cb, e, h.keepN hk, h'.keepN hk⟩
theorem size_le {S : ByteArray} {s : List UInt8} (hs : S.data.toList = s) (h : s.length ≤ 1000) : S.size ≤ 9223372036854775807 := by rw [size_of hs]; omega
theorem of_gen (S : ByteArray) (s : List UInt8) (l : List Int) (w : World) (hL : LetAt w) (hs : S.data.toList = s) (hm : s.length ≤ 1000) (h : untxt s = some l) :
    Calls Tryd.prog 40 #[.string S] w fun e w' => ∃ u, e = .returned u ∧ OfS l u w' ∧ Keep NoB w w' := by
  refine (own_of S s l w hL hs (size_le hs hm) h).mono ?_
  rintro e w' ⟨B, d, rfl, hO, hk⟩
  obtain ⟨A', c', e, hr⟩ := own_rdI hO
  cases e
  exact ⟨_, rfl, ⟨_, _, rfl, hr⟩, hk⟩
theorem sig_gen (S T : ByteArray) (s t : List UInt8) (a r : List Int) (w : World) (hL : LetAt w) (hs : S.data.toList = s) (ht : T.data.toList = t) (hm : s.length ≤ 1000) (hm2 : t.length ≤ 1000) (h : untxt s = some a) (h2 : untxt t = some r) :
    Calls Tryd.prog 41 #[.string S, .string T] w fun e w' => ∃ u, e = .returned u ∧ SigS a r u w' ∧ Keep NoB w w' := by
  refine (own_sig S T s t a r w hL hs ht (size_le hs hm) (size_le ht hm2) h h2).mono ?_
  rintro e w' ⟨A1, c1, A2, c2, rfl, hO1, hO2, hk⟩
  obtain ⟨A', c', e, hr⟩ := own_rdI hO1
  cases e
  obtain ⟨A', c', e, hr2⟩ := own_rdI hO2
  cases e
  exact ⟨_, rfl, ⟨_, _, _, _, rfl, hr, hr2⟩, hk⟩
theorem repeat_any (c : UInt8) (n : Nat) (hn : n ≤ 1000) (w : World) :
    Calls Tryd.prog 39 #[.string ⟨#[c]⟩, .int .i64 n] w fun e w' => e = .returned (.string (W.str (List.replicate n c))) ∧ Keep NoB w w' := by
  refine (Tryd.strings_Repeat ⟨#[c]⟩ n w (by omega) (by show 1 * n ≤ _; omega)).mono ?_
  rintro e w' ⟨rfl, hb⟩
  have := Lib.repeatL_replicate c 1 n
  refine ⟨?_, Keep.of_below hb⟩
  rw [show ((⟨#[c]⟩ : ByteArray).data.toList) = List.replicate 1 c from rfl, this, Nat.mul_one]
theorem rd_blk1 {w : World} {g : Nat} {x : Int} {t : TypeId} (h : w.heap[g]? = some (.cells #[.int .i64 x] t)) : Rd w (some ⟨g, 0, none⟩) (ivs [x]) := fun _ => ⟨g, 0, rfl, fun j u hu => by
  have : Blk w g t #[.int .i64 x] := h
  rw [Nat.zero_add, Blk.cell this]
  simpa [ivs] using hu⟩

theorem v_i16 : untxt (List.replicate 16 73) = some (List.replicate 16 1) := by kernel_rfl
theorem v_i17 : untxt (List.replicate 17 73) = some (List.replicate 17 1) := by kernel_rfl
theorem v_p64 : untxt (List.replicate 64 80) = some (List.replicate 64 4) := by kernel_rfl
theorem v_p60 : untxt (List.replicate 60 80) = some (List.replicate 60 4) := by kernel_rfl
theorem v_nil : untxt [] = some [] := by kernel_rfl
theorem v_irfi : untxt [73, 82, 70, 73] = some [1, 2, 3, 1] := by kernel_rfl
theorem v_irfir : untxt [73, 82, 70, 73, 82] = some [1, 2, 3, 1, 2] := by kernel_rfl
theorem v_ip : untxt [73, 80] = some [1, 4] := by kernel_rfl
theorem v_pi : untxt [80, 73] = some [4, 1] := by kernel_rfl
theorem v_r : untxt [82] = some [2] := by kernel_rfl
theorem v_p : untxt [80] = some [4] := by kernel_rfl
theorem v_irf : untxt [73, 82, 70] = some [1, 2, 3] := by kernel_rfl

/-- What an append leaves of the slice that it was made of. -/
theorem append_old {w w' : World} {g cap c : Nat} {xs l : List UInt8} {A : Option Addr} {ty : TypeId} {v' : Value} (hown : w.ownsRow 0 5 1 (.slice (some ⟨g, 0, none⟩) xs.length cap) xs.length (V.bvs xs)) (hr : V.Rd w A l) (h0 : 0 < l.length) (hb : xs.length + l.length ≤ 140737488355328)
    (hrun : (Builtin.append_ #[23, 23] ty #[.slice (some ⟨g, 0, none⟩) xs.length cap, .slice A l.length c]).run Tryd.prog w = .ok v' w') : V.Rd w' (some ⟨g, 0, none⟩) xs := by
  obtain ⟨v2, w2, hrun2, h2, h3, h4, _⟩ := V.run_append_rd w _ xs l A c ty hown hr hb
  rw [hrun] at hrun2
  injection hrun2 with e1 e2
  subst e1 e2
  rcases h4 with h4 | h4
  · exact fun _ => ⟨_, rfl, fun j u hu => h2.cells (g := g) (by rw [h4]; rfl) j u (by
      obtain ⟨hj, rfl⟩ := List.getElem?_eq_some_iff.1 hu
      have hj2 : j < xs.length := by simpa using hj
      simp [V.bvs, hj2, List.getElem?_append_left])⟩
  · obtain ⟨i0, hi, hz0, hz1, hz2⟩ := info_parts V.u8_info
    obtain ⟨ad, rfl, hc⟩ := hr h0
    have hlt : g < w.heap.size := (hown.lt g rfl).2
    have hold := hown.cells (g := g) rfl
    by_cases hroom : xs.length + l.length ≤ cap
    · rcases hown.2 with ⟨e, _⟩ | ⟨g', cap', cur, e, hbg, hg, hnc, hcm, hcs, htake⟩
      · cases e
      · injection e with e _ e3
        injection e with e
        injection e with e _ _
        subst e e3
        have hfit : xs.length * i0.size + (V.bvs l).length ≤ cur.size := by rw [hcs, hz1]; simp; omega
        have hr2 := run_append_room (P := Tryd.prog) w 23 ty 5 i0 Tryd.underlying23 hi g xs.length cap cur hg ad l.length c (V.bvs l) (by simp [hz1]) hc (V.bvs_one l) hroom hfit
        rw [hrun] at hr2
        injection hr2 with e1 e2
        rw [e1] at h4
        exfalso
        have : g = w.heap.size := by simpa [Value.ownBlock] using h4
        omega
    · have hr2 := run_append_grow (P := Tryd.prog) w 23 ty 5 i0 (.int .u8 0) Tryd.underlying23 hi hz0 ⟨g, 0, none⟩ xs.length cap (V.bvs xs) (by simp [hz1]) hold ad l.length c (V.bvs l) (by simp [hz1]) hc (by omega) (by omega) (growslice_fits (by omega) (by rw [hz2]; omega))
      rw [hrun] at hr2
      injection hr2 with e1 e2
      subst e2
      exact rd_n (fun _ => ⟨_, rfl, hold⟩) (((Keep.refl NoB w).drew).alloc _)
theorem wpList_append_old {ops : Array Oper} {rest : List Oper} {o : Oper} {a : Act} {Q : Exit → Act → World → Prop} (w : World) (hgd : o.guard = none) (s x : Operand)
    (ho : o.op = .call { callee := .builtin .append, args := #[s, x], argTypes := #[23, 23] })
    (g cap : Nat) (xs l : List UInt8) (A : Option Addr) (c : Nat) (hs : a.eval s = .slice (some ⟨g, 0, none⟩) xs.length cap) (hown : w.ownsRow 0 5 1 (.slice (some ⟨g, 0, none⟩) xs.length cap) xs.length (V.bvs xs)) (hx : a.eval x = .slice A l.length c) (hr : V.Rd w A l) (h0 : 0 < l.length)
    (hb : xs.length + l.length ≤ 140737488355328)
    (h : ∀ v' w', w'.ownsRow 0 5 1 v' (xs ++ l).length (V.bvs (xs ++ l)) → w.grownBy w' (some g) → (v'.ownBlock = some g ∨ v'.ownBlock = some w.heap.size) → V.Rd w' (some ⟨g, 0, none⟩) xs → wpList Tryd.prog ops Q rest (a.put o.dst v') w') :
    wpList Tryd.prog ops Q (o :: rest) a w :=
  wpList_plain hgd fun K hK => by
    obtain ⟨v', w', hrun, h2, h3, h4, _⟩ := V.run_append_rd w _ xs l A c o.type hown hr hb
    have h5 := append_old hown hr h0 hb hrun
    unfold Oper.wp execOp
    simp only [ho, resolve, invoke, builtin, Sem.run_bind, Sem.run_pure, Result.andThen_ok, List.map_toArray, List.map_cons, List.map_nil, hs, hx, hrun]
    exact hK _ _ (h v' w' h2 h3 h4 h5)
theorem encG_lit (A : Option Addr) (a : List Int) (ca : Nat) (B : Option Addr) (r : List Int) (cb : Nat) (w : World) (ha : Rd w A (ivs a)) (hr : Rd w B (ivs r)) (h1 : a.length ≤ 64) (h2 : r.length ≤ 64) (bs : List UInt8) (E : Int) (h : encG a r = bs ∧ chkG a r = E) :
    Calls Tryd.prog 27 #[.agg #[.slice A a.length ca, .slice B r.length cb]] w (EncR w bs E) := by
  obtain ⟨rfl, rfl⟩ := h
  exact encodeG_any A a _ ca B r _ cb w ha hr rfl rfl (by omega) (by omega)
theorem e_ip : encG [1, 4] [2] = [2, 12, 1, 1] ∧ chkG [1, 4] [2] = 0 := ⟨by kernel_rfl, by kernel_rfl⟩
theorem e_nil : encG [] [] = [0, 0] ∧ chkG [] [] = 0 := ⟨by kernel_rfl, by kernel_rfl⟩
theorem d_ip : decG [2, 12, 1, 1, 7] 0 = some (([1, 4], [2]), 4) := by kernel_rfl

theorem rs_fir : rdS [70, 73, 82] = some [3, 1, 2] := by kernel_rfl
theorem rg_arr : rdG [62] = some ([], []) := by kernel_rfl
theorem c_2 : cellT [1, 2, 3] 2 = 3 ∧ cellE [1, 2, 3] 2 = 0 := ⟨by kernel_rfl, by kernel_rfl⟩
theorem c_3 : cellE [1, 2, 3] 3 = 60 := by kernel_rfl
theorem c_m : cellE [1, 2, 3] (-1) = 60 := by kernel_rfl
theorem c_p : cellE [4] 0 = 60 := by kernel_rfl
theorem rd_rowC (w : World) (l : List UInt8) (C : Array Value) (fr : Nat × Nat) (hC : ∀ (j : Nat) (u : Value), (V.bvs l)[j]? = some u → C[j]? = some u) :
    V.Rd (w.alloc (.cells C 5 fr)) (some ⟨w.heap.size, 0, none⟩) l := fun _ =>
  ⟨_, rfl, fun j u hu => by
    have e : (⟨w.heap.size, 0, none⟩ : Addr).add j = ⟨w.heap.size, j, none⟩ := by unfold Addr.add; split <;> simp_all
    rw [e, World.cell?_alloc_mark]
    exact hC j u hu⟩
theorem conv_strC (w : World) (l : List UInt8) : ∃ w' c, (convert 9 23 (.string (V.str l))).run Tryd.prog w = .ok (.slice (some ⟨w.heap.size, 0, none⟩) l.length c) w' ∧ V.Rd w' (some ⟨w.heap.size, 0, none⟩) l ∧ Keep NoB w w' := by
  have h := run_bytes_of_string w 9 23 5 (V.str l) Tryd.underlying9 Tryd.underlying23 Tryd.underlying5
  refine ⟨_, _, h, ?_, ((Keep.refl NoB w).drew).alloc _⟩
  refine rd_rowC w.drew l _ _ (fun j u hu => ?_)
  obtain ⟨hj, rfl⟩ := List.getElem?_eq_some_iff.1 hu
  rw [bytesRow_at (V.str l) _ j (by simpa using hj)]
  simp
theorem str_self {S : ByteArray} {s : List UInt8} (h : S.data.toList = s) : V.str s = S := by subst h; rfl

end Go.Proofs.YtieejecodfeodaaDoor.S

namespace Go.Proofs.YtieejecodfeodaaDoor.S
open Go.RowKit W

set_option maxRecDepth 100000 in
set_option maxHeartbeats 16000000 in
theorem names_walk (w : World) (hL0 : LetAt w) : Calls Tryd.prog 5 #[] w fun e w' => e = .returned (.bool true) ∧ Keep NoB w w' := by
  have hL := Lib.hid hL0
  clear hL0
  obtain ⟨SI, hSI⟩ : ∃ SI, W.str (List.replicate 16 73) = SI := ⟨_, rfl⟩
  obtain ⟨S64, hS64⟩ : ∃ S64, W.str (List.replicate 64 80) = S64 := ⟨_, rfl⟩
  obtain ⟨S60, hS60⟩ : ∃ S60, W.str (List.replicate 60 80) = S60 := ⟨_, rfl⟩
  obtain ⟨T60, hT60⟩ : ∃ T60, W.str (List.replicate 60 73) = T60 := ⟨_, rfl⟩
  have R16 := Lib.hid (fun w => repeat_any 73 16 (by decide) w)
  have R64 := Lib.hid (fun w => repeat_any 80 64 (by decide) w)
  have R60 := Lib.hid (fun w => repeat_any 80 60 (by decide) w)
  have RT60 := Lib.hid (fun w => repeat_any 73 60 (by decide) w)
  rw [hSI] at R16
  rw [hS64] at R64
  rw [hS60] at R60
  rw [hT60] at RT60
  have H16 : Hid (SI.data.toList = List.replicate 16 73) := by rw [← hSI]; rfl
  have H17 : Hid ((SI ++ ⟨#[73]⟩).data.toList = List.replicate 17 73) := by rw [← hSI]; rfl
  have HIR : Hid ((SI ++ ⟨#[82]⟩).data.toList = List.replicate 16 73 ++ [82]) := by rw [← hSI]; rfl
  have H64 : Hid (S64.data.toList = List.replicate 64 80) := by rw [← hS64]; rfl
  have H60 : Hid (S60.data.toList = List.replicate 60 80) := by rw [← hS60]; rfl
  have HT6 : Hid ((T60 ++ ⟨#[62, 82, 82, 82, 82, 82]⟩).data.toList = List.replicate 60 73 ++ [62, 82, 82, 82, 82, 82]) := by rw [← hT60]; rfl
  have zI : SI.size = 16 := by rw [← hSI]; rfl
  have zT : T60.size = 60 := by rw [← hT60]; rfl
  clear hSI hS64 hS60 hT60
  go_enter Tryd.func5, Tryd.ntmps5
  go_wp2_with fail
  refine (R16.out _).mono ?_
  rintro e w1 ⟨rfl, gK⟩
  go_wp2_with fail
  refine (of_gen _ _ _ _ (hL.out.keep gK) H16.out (by decide) v_i16).mono ?_
  rintro e w2 ⟨_, rfl, ⟨A, c, rfl, hr⟩, k1⟩
  replace gK := keepN gK k1
  clear k1
  go_wp2_with fail
  refine (chkS_any A (List.replicate 16 1) _ c _ hr rfl (by decide) 0 (by show _ = _; kernel_rfl)).mono ?_
  rintro e w3 ⟨rfl, k1⟩
  replace gK := keepN gK k1
  clear k1
  clear hr
  go_wp2_with fail
  refine (of_gen _ _ _ _ (hL.out.keep gK) H17.out (by decide) v_i17).mono ?_
  rintro e w4 ⟨_, rfl, ⟨A, c, rfl, hr⟩, k1⟩
  replace gK := keepN gK k1
  clear k1
  go_wp2_with fail
  refine (chkS_any A (List.replicate 17 1) _ c _ hr rfl (by decide) 60 (by show _ = _; kernel_rfl)).mono ?_
  rintro e w5 ⟨rfl, k1⟩
  replace gK := keepN gK k1
  clear k1
  clear hr
  go_wp2_with fail
  refine (chkS_any none [] 0 0 _ (Rd.none_ _ _) rfl (by decide) 60 (by show _ = _; kernel_rfl)).mono ?_
  rintro e w6 ⟨rfl, k1⟩
  replace gK := keepN gK k1
  clear k1
  go_wp2_with fail
  refine (chkS_any _ [0] 1 1 _ (W.rd_made rfl rfl) rfl (by decide) 60 (by show _ = _; kernel_rfl)).mono ?_
  rintro e w7 ⟨rfl, k1⟩
  have kA := (Keep.refl NoB w6).alloc (.cells #[.int .i64 (0)] 3)
  replace k1 := keepN kA k1
  replace gK := keepN gK k1
  clear k1 kA
  go_wp2_with fail
  refine (chkS_any _ [5] 1 1 _ (W.rd_made rfl rfl) rfl (by decide) 60 (by show _ = _; kernel_rfl)).mono ?_
  rintro e w8 ⟨rfl, k1⟩
  have kA := (Keep.refl NoB w7).alloc (.cells #[.int .i64 (5)] 3)
  replace k1 := keepN kA k1
  replace gK := keepN gK k1
  clear k1 kA
  go_wp2_with fail
  refine (chkS_any _ [-1] 1 1 _ (W.rd_made rfl rfl) rfl (by decide) 60 (by show _ = _; kernel_rfl)).mono ?_
  rintro e w9 ⟨rfl, k1⟩
  have kA := (Keep.refl NoB w8).alloc (.cells #[.int .i64 (-1)] 3)
  replace k1 := keepN kA k1
  replace gK := keepN gK k1
  clear k1 kA
  go_wp2_with fail
  refine (R64.out _).mono ?_
  rintro e w10 ⟨rfl, k1⟩
  replace gK := keepN gK k1
  clear k1
  go_wp2_with fail
  refine (sig_gen _ _ _ _ _ _ _ (hL.out.keep gK) H64.out rfl (by decide) (by decide) v_p64 v_nil).mono ?_
  rintro e w11 ⟨_, rfl, ⟨A, c, B, d, rfl, hr, hr2⟩, k1⟩
  replace gK := keepN gK k1
  clear k1
  go_wp2_with fail
  refine (chkG_any A (List.replicate 64 4) _ c B [] _ d _ hr hr2 rfl rfl (by decide) (by decide) 0 (by show _ = _; kernel_rfl)).mono ?_
  rintro e w12 ⟨rfl, k1⟩
  replace gK := keepN gK k1
  clear k1
  clear hr hr2
  go_wp2_with fail
  refine (R60.out _).mono ?_
  rintro e w13 ⟨rfl, k1⟩
  replace gK := keepN gK k1
  clear k1
  go_wp2_with fail
  refine (sig_gen _ _ _ _ _ _ _ (hL.out.keep gK) H60.out rfl (by decide) (by decide) v_p60 v_irfi).mono ?_
  rintro e w14 ⟨_, rfl, ⟨A, c, B, d, rfl, hr, hr2⟩, k1⟩
  replace gK := keepN gK k1
  clear k1
  go_wp2_with fail
  refine (chkG_any A (List.replicate 60 4) _ c B [1, 2, 3, 1] _ d _ hr hr2 rfl rfl (by decide) (by decide) 0 (by show _ = _; kernel_rfl)).mono ?_
  rintro e w15 ⟨rfl, k1⟩
  replace gK := keepN gK k1
  clear k1
  clear hr hr2
  go_wp2_with fail
  refine (R60.out _).mono ?_
  rintro e w16 ⟨rfl, k1⟩
  replace gK := keepN gK k1
  clear k1
  go_wp2_with fail
  refine (sig_gen _ _ _ _ _ _ _ (hL.out.keep gK) H60.out rfl (by decide) (by decide) v_p60 v_irfir).mono ?_
  rintro e w17 ⟨_, rfl, ⟨A, c, B, d, rfl, hr, hr2⟩, k1⟩
  replace gK := keepN gK k1
  clear k1
  go_wp2_with fail
  refine (chkG_any A (List.replicate 60 4) _ c B [1, 2, 3, 1, 2] _ d _ hr hr2 rfl rfl (by decide) (by decide) 61 (by show _ = _; kernel_rfl)).mono ?_
  rintro e w18 ⟨rfl, k1⟩
  replace gK := keepN gK k1
  clear k1
  clear hr hr2
  go_wp2_with fail
  refine (chkG_any _ [9] 1 1 none [] 0 0 _ (W.rd_made rfl rfl) (Rd.none_ _ _) rfl rfl (by decide) (by decide) 61 (by show _ = _; kernel_rfl)).mono ?_
  rintro e w19 ⟨rfl, k1⟩
  have kA := (Keep.refl NoB w18).alloc (.cells #[.int .i64 9] 3)
  replace k1 := keepN kA k1
  replace gK := keepN gK k1
  clear k1 kA
  go_wp2_with fail
  refine (sig_gen _ _ _ _ _ _ _ (hL.out.keep gK) rfl rfl (by decide) (by decide) v_ip v_r).mono ?_
  rintro e x1 ⟨_, rfl, ⟨A, c, B, d, rfl, hr, hr2⟩, k1⟩
  replace gK := keepN gK k1
  clear k1
  go_wp2_with fail
  refine (encG_lit A [1, 4] c B [2] d _ hr hr2 (by decide) (by decide) _ _ e_ip).mono ?_
  rintro e x2 ⟨vu, rfl, hu, k1⟩
  have hu := hu.mono (O' := Fresh w) (fun j hj _ => Nat.le_trans gK.size hj)
  replace gK := keepN gK k1
  clear k1 hr hr2
  obtain ⟨Au, cu, rfl, ru, _⟩ := own_rd hu
  obtain ⟨gu, rfl⟩ := own_head hu rfl (by decide)
  have kA := (Keep.refl NoB x2).alloc (.cells #[.int .u8 7] 5)
  replace hu := hu.keep kA (fun _ _ => id)
  replace gK := keepN gK kA
  have rd7 := rd_byte x2 5 7 (by decide)
  clear kA ru
  go_wp2_with (at_builtin; refine wpList_append_old _ rfl _ _ rfl gu cu [2, 12, 1, 1] [UInt8.ofNat 7] _ 1 rfl hu.1 rfl rd7 (by decide) (by decide) ?_; intro v5 x3 hown hg hat ru; obtain ⟨hO5, gK5⟩ := own_app (v := .slice (some ⟨gu, 0, none⟩) 4 cu) hu gK hown hg hat; obtain ⟨A5, c5, rfl, r5, _⟩ := own_rd hO5; clear hown hg hat)
  refine (V.on_any _ A5 [2, 12, 1, 1, 7] c5 r5 (by decide)).mono ?_
  rintro e x4 ⟨br, rfl, hR, k4⟩
  have hbr : x3.heap.size ≤ br := hR.1
  have hR := reel_new hR
  have HD := Lib.hid (fun w br O hO h => decodeG_any w br O [2, 12, 1, 1, 7] 0 hO h (by decide))
  rw [d_ip] at HD
  go_wp2_with fail
  refine (HD.out _ br _ (fun k hk => hk.2) hR).mono ?_
  rintro e x5 ⟨vx, vx2, qx, rfl, hOx, hOx2, _, _, k5⟩
  have k35 := keep_br k4 k5 hbr
  dsimp only [optA, optB, optF] at hOx hOx2 ⊢
  obtain ⟨Ax, cx, rfl, rx⟩ := own_rdI hOx
  obtain ⟨Ay, cy, rfl, ry⟩ := own_rdI hOx2
  replace ru := rd_n ru k35
  replace gK := keepN gK5 k35
  clear hOx hOx2 k4 k5 k35 hR HD hO5 gK5 r5 hu rd7 hbr
  have bl := Blk.new x5 26 #[.slice Ax 2 cx, .slice Ay 1 cy]
  have kA := (Keep.refl NoB x5).alloc (.cells #[.slice Ax 2 cx, .slice Ay 1 cy] 26)
  replace ru := rd_n ru kA
  replace rx := rx.keepN kA
  replace ry := ry.keepN kA
  replace gK := keepN gK kA
  clear kA
  go_wp2_with fail
  refine (encG_lit none [] 0 none [] 0 _ (Rd.none_ _ _) (Rd.none_ _ _) (by decide) (by decide) _ _ e_nil).mono ?_
  rintro e x6 ⟨ve, rfl, he, k6⟩
  obtain ⟨Ae, ce, rfl, re, _⟩ := own_rd he
  replace ru := rd_n ru k6
  replace rx := rx.keepN k6
  replace ry := ry.keepN k6
  replace bl := bl.keep k6 id
  replace gK := keepN gK k6
  clear k6 he
  generalize x5.heap.size = g5 at bl ⊢
  have q4 := list_self ⟨#[2, 12, 1, 1]⟩
  have q2 := list_self ⟨#[0, 0]⟩
  go_wp2
  refine wp_region_sh ((0, false) :: (1, false) :: (2, false) :: (3, false) :: (4, false) :: (5, false) :: (6, false) :: (7, false) :: (8, false) :: (9, false) :: (10, false) :: (11, false) :: (12, false) :: (13, true) :: (14, false) :: (15, false) :: (16, false) :: (17, false) :: (18, false) :: (19, false) :: (20, false) :: (21, false) :: (22, false) :: (23, false) :: (24, false) :: (25, false) :: (26, false) :: (27, true) :: (28, false) :: (29, false) :: (30, false) :: (31, false) :: (32, false) :: (33, true) :: (34, false) :: (35, false) :: (36, false) :: (37, false) :: (38, false) :: (39, true) :: (40, false) :: (41, false) :: (42, false) :: []) (fun w' => Keep NoB x6 w') (by kernel_rfl) (by kernel_rfl) (by rfl) (by kernel_rfl) (stable_keep _) (Keep.refl NoB _).drew ?_
  refine shM_step rfl rfl rfl (by rfl) (by rfl) ?_
  apply Exists.intro
  refine ⟨fun z K hK => ?_, ?_, ?_⟩
  · go_big_quiet_op
    exact hK _ rfl
  · kernel_rfl
  refine shM_step rfl rfl rfl (by rfl) (by rfl) ?_
  apply Exists.intro
  refine ⟨fun z K hK => ?_, ?_, ?_⟩
  · go_big_quiet_op
    exact hK _ rfl
  · kernel_rfl
  refine shM_step rfl rfl rfl (by rfl) (by rfl) ?_
  apply Exists.intro
  refine ⟨fun z K hK => ?_, ?_, ?_⟩
  · go_big_quiet_op
    exact hK _ rfl
  · kernel_rfl
  refine shM_step rfl rfl rfl (by rfl) (by rfl) ?_
  apply Exists.intro
  refine ⟨fun z K hK => ?_, ?_, ?_⟩
  · go_big_quiet_op
    exact hK _ rfl
  · kernel_rfl
  refine shM_step rfl rfl rfl (by rfl) (by rfl) ?_
  apply Exists.intro
  refine ⟨fun z K hK => ?_, ?_, ?_⟩
  · have cv_ : ∀ y : KW z.w, (convert 23 9 (.slice (some ⟨gu, 0, none⟩) 4 cu)).run Tryd.prog y.w = .ok (.string ⟨#[2, 12, 1, 1]⟩) y.w := fun y => V.conv_rd (c := cu) (rd_n ru (keepN (z.has) y.keep))
    go_big_quiet_op
    exact hK _ rfl
  · kernel_rfl
  refine shM_step rfl rfl rfl (by rfl) (by rfl) ?_
  apply Exists.intro
  refine ⟨fun z K hK => ?_, ?_, ?_⟩
  · go_big_quiet_op
    exact hK _ rfl
  · kernel_rfl
  refine shM_step rfl rfl rfl (by rfl) (by rfl) ?_
  apply Exists.intro
  refine ⟨fun z K hK => ?_, ?_, ?_⟩
  · go_big_quiet_op
    exact hK _ rfl
  · kernel_rfl
  refine shM_step rfl rfl rfl (by rfl) (by rfl) ?_
  apply Exists.intro
  refine ⟨fun z K hK => ?_, ?_, ?_⟩
  · go_big_quiet_op
    exact hK _ rfl
  · kernel_rfl
  refine shM_step rfl rfl rfl (by rfl) (by rfl) ?_
  apply Exists.intro
  refine ⟨fun z K hK => ?_, ?_, ?_⟩
  · go_big_quiet_op
    exact hK _ rfl
  · kernel_rfl
  refine shM_step rfl rfl rfl (by rfl) (by rfl) ?_
  apply Exists.intro
  refine ⟨fun z K hK => ?_, ?_, ?_⟩
  · go_big_quiet_op
    exact hK _ rfl
  · kernel_rfl
  refine shM_step rfl rfl rfl (by rfl) (by rfl) ?_
  apply Exists.intro
  refine ⟨fun z K hK => ?_, ?_, ?_⟩
  · go_big_quiet_op
    exact hK _ rfl
  · kernel_rfl
  refine shM_step rfl rfl rfl (by rfl) (by rfl) ?_
  apply Exists.intro
  refine ⟨fun z K hK => ?_, ?_, ?_⟩
  · go_big_quiet_op
    exact hK _ rfl
  · kernel_rfl
  refine shM_step rfl rfl rfl (by rfl) (by rfl) ?_
  apply Exists.intro
  refine ⟨fun z K hK => ?_, ?_, ?_⟩
  · have ld0 : ∀ y : KW z.w, y.w.cell? ⟨g5, 0, none⟩ = some (.slice Ax 2 cx) := fun y => Keep.cell (keepN (z.has) y.keep) (blk2 bl).1 id
    have ld1 : ∀ y : KW z.w, y.w.cell? ⟨g5, 1, none⟩ = some (.slice Ay 1 cy) := fun y => Keep.cell (keepN (z.has) y.keep) (blk2 bl).2 id
    go_big_quiet_op
    exact hK _ rfl
  · kernel_rfl
  refine shM_gen rfl rfl (by kernel_rfl) (SigS [1, 4] [2]) (SigS.stable _ _) (fun z => ?_) (fun v0 => ?_)
  · unfold yieldsK
    go_simp
    exact sig_gen _ _ _ _ _ _ _ (hL.out.keep (keepN gK (z.has))) rfl rfl (by decide) (by decide) v_ip v_r
  simp only [Act.put, List.setIfInBounds_toArray, List.set_cons_zero, List.set_cons_succ]
  refine shM_val rfl rfl (by kernel_rfl) (.bool true) (fun z => ?_) ?_
  · obtain ⟨A, c, B, d, rfl, hr, hr2⟩ := z.has.2
    unfold yieldsK
    go_simp
    exact (same_any Ax [1, 4] 2 cx Ay [2] 1 cy A [1, 4] _ c B [2] _ d _ (rx.keepN (z.has.1)) (ry.keepN (z.has.1)) hr hr2 rfl rfl rfl rfl (by decide) (by decide) (by decide) (by decide) true (by show _ = _; decide)).mono fun _ _ h => ⟨_, h.1, rfl, h.2⟩
  simp only [Act.put, List.setIfInBounds_toArray, List.set_cons_zero, List.set_cons_succ]
  refine shM_step rfl rfl rfl (by rfl) (by rfl) ?_
  apply Exists.intro
  refine ⟨fun z K hK => ?_, ?_, ?_⟩
  · go_big_quiet_op
    exact hK _ rfl
  · kernel_rfl
  refine shM_step rfl rfl rfl (by rfl) (by rfl) ?_
  apply Exists.intro
  refine ⟨fun z K hK => ?_, ?_, ?_⟩
  · go_big_quiet_op
    exact hK _ rfl
  · kernel_rfl
  refine shM_step rfl rfl rfl (by rfl) (by rfl) ?_
  apply Exists.intro
  refine ⟨fun z K hK => ?_, ?_, ?_⟩
  · go_big_quiet_op
    exact hK _ rfl
  · kernel_rfl
  refine shM_step rfl rfl rfl (by rfl) (by rfl) ?_
  apply Exists.intro
  refine ⟨fun z K hK => ?_, ?_, ?_⟩
  · go_big_quiet_op
    exact hK _ rfl
  · kernel_rfl
  refine shM_step rfl rfl rfl (by rfl) (by rfl) ?_
  apply Exists.intro
  refine ⟨fun z K hK => ?_, ?_, ?_⟩
  · go_big_quiet_op
    exact hK _ rfl
  · kernel_rfl
  refine shM_step rfl rfl rfl (by rfl) (by rfl) ?_
  apply Exists.intro
  refine ⟨fun z K hK => ?_, ?_, ?_⟩
  · go_big_quiet_op
    exact hK _ rfl
  · kernel_rfl
  refine shM_step rfl rfl rfl (by rfl) (by rfl) ?_
  apply Exists.intro
  refine ⟨fun z K hK => ?_, ?_, ?_⟩
  · go_big_quiet_op
    exact hK _ rfl
  · kernel_rfl
  refine shM_step rfl rfl rfl (by rfl) (by rfl) ?_
  apply Exists.intro
  refine ⟨fun z K hK => ?_, ?_, ?_⟩
  · have cv_ : ∀ y : KW z.w, (convert 23 9 (.slice (Ae) 2 ce)).run Tryd.prog y.w = .ok (.string ⟨#[0, 0]⟩) y.w := fun y => V.conv_rd (c := ce) (rd_n re (keepN (z.has.1) y.keep))
    go_big_quiet_op
    exact hK _ rfl
  · kernel_rfl
  refine shM_step rfl rfl rfl (by rfl) (by rfl) ?_
  apply Exists.intro
  refine ⟨fun z K hK => ?_, ?_, ?_⟩
  · go_big_quiet_op
    exact hK _ rfl
  · kernel_rfl
  refine shM_step rfl rfl rfl (by rfl) (by rfl) ?_
  apply Exists.intro
  refine ⟨fun z K hK => ?_, ?_, ?_⟩
  · go_big_quiet_op
    exact hK _ rfl
  · kernel_rfl
  refine shM_step rfl rfl rfl (by rfl) (by rfl) ?_
  apply Exists.intro
  refine ⟨fun z K hK => ?_, ?_, ?_⟩
  · go_big_quiet_op
    exact hK _ rfl
  · kernel_rfl
  refine shM_step rfl rfl rfl (by rfl) (by rfl) ?_
  apply Exists.intro
  refine ⟨fun z K hK => ?_, ?_, ?_⟩
  · have ld0 : ∀ y : KW z.w, y.w.cell? ⟨g5, 0, none⟩ = some (.slice Ax 2 cx) := fun y => Keep.cell (keepN (z.has.1) y.keep) (blk2 bl).1 id
    have ld1 : ∀ y : KW z.w, y.w.cell? ⟨g5, 1, none⟩ = some (.slice Ay 1 cy) := fun y => Keep.cell (keepN (z.has.1) y.keep) (blk2 bl).2 id
    go_big_quiet_op
    exact hK _ rfl
  · kernel_rfl
  refine shM_gen rfl rfl (by kernel_rfl) (SigS [4, 1] [2]) (SigS.stable _ _) (fun z => ?_) (fun v1 => ?_)
  · unfold yieldsK
    go_simp
    exact sig_gen _ _ _ _ _ _ _ (hL.out.keep (keepN gK (z.has.1))) rfl rfl (by decide) (by decide) v_pi v_r
  simp only [Act.put, List.setIfInBounds_toArray, List.set_cons_zero, List.set_cons_succ]
  refine shM_val rfl rfl (by kernel_rfl) (.bool false) (fun z => ?_) ?_
  · obtain ⟨A, c, B, d, rfl, hr, hr2⟩ := z.has.2
    unfold yieldsK
    go_simp
    exact (same_any Ax [1, 4] 2 cx Ay [2] 1 cy A [4, 1] _ c B [2] _ d _ (rx.keepN (z.has.1.1)) (ry.keepN (z.has.1.1)) hr hr2 rfl rfl rfl rfl (by decide) (by decide) (by decide) (by decide) false (by show _ = _; decide)).mono fun _ _ h => ⟨_, h.1, rfl, h.2⟩
  simp only [Act.put, List.setIfInBounds_toArray, List.set_cons_zero, List.set_cons_succ]
  refine shM_step rfl rfl rfl (by rfl) (by rfl) ?_
  apply Exists.intro
  refine ⟨fun z K hK => ?_, ?_, ?_⟩
  · go_big_quiet_op
    exact hK _ rfl
  · kernel_rfl
  refine shM_step rfl rfl rfl (by rfl) (by rfl) ?_
  apply Exists.intro
  refine ⟨fun z K hK => ?_, ?_, ?_⟩
  · go_big_quiet_op
    exact hK _ rfl
  · kernel_rfl
  refine shM_step rfl rfl rfl (by rfl) (by rfl) ?_
  apply Exists.intro
  refine ⟨fun z K hK => ?_, ?_, ?_⟩
  · go_big_quiet_op
    exact hK _ rfl
  · kernel_rfl
  refine shM_step rfl rfl rfl (by rfl) (by rfl) ?_
  apply Exists.intro
  refine ⟨fun z K hK => ?_, ?_, ?_⟩
  · have ld0 : ∀ y : KW z.w, y.w.cell? ⟨g5, 0, none⟩ = some (.slice Ax 2 cx) := fun y => Keep.cell (keepN (z.has.1.1) y.keep) (blk2 bl).1 id
    have ld1 : ∀ y : KW z.w, y.w.cell? ⟨g5, 1, none⟩ = some (.slice Ay 1 cy) := fun y => Keep.cell (keepN (z.has.1.1) y.keep) (blk2 bl).2 id
    go_big_quiet_op
    exact hK _ rfl
  · kernel_rfl
  refine shM_gen rfl rfl (by kernel_rfl) (SigS [1, 4] []) (SigS.stable _ _) (fun z => ?_) (fun v2 => ?_)
  · unfold yieldsK
    go_simp
    exact sig_gen _ _ _ _ _ _ _ (hL.out.keep (keepN gK (z.has.1.1))) rfl rfl (by decide) (by decide) v_ip v_nil
  simp only [Act.put, List.setIfInBounds_toArray, List.set_cons_zero, List.set_cons_succ]
  refine shM_val rfl rfl (by kernel_rfl) (.bool false) (fun z => ?_) ?_
  · obtain ⟨A, c, B, d, rfl, hr, hr2⟩ := z.has.2
    unfold yieldsK
    go_simp
    exact (same_any Ax [1, 4] 2 cx Ay [2] 1 cy A [1, 4] _ c B [] _ d _ (rx.keepN (z.has.1.1.1)) (ry.keepN (z.has.1.1.1)) hr hr2 rfl rfl rfl rfl (by decide) (by decide) (by decide) (by decide) false (by show _ = _; decide)).mono fun _ _ h => ⟨_, h.1, rfl, h.2⟩
  simp only [Act.put, List.setIfInBounds_toArray, List.set_cons_zero, List.set_cons_succ]
  refine shM_step rfl rfl rfl (by rfl) (by rfl) ?_
  apply Exists.intro
  refine ⟨fun z K hK => ?_, ?_, ?_⟩
  · go_big_quiet_op
    exact hK _ rfl
  · kernel_rfl
  refine shM_step rfl rfl rfl (by rfl) (by rfl) ?_
  apply Exists.intro
  refine ⟨fun z K hK => ?_, ?_, ?_⟩
  · go_big_quiet_op
    exact hK _ rfl
  · kernel_rfl
  refine shM_step rfl rfl rfl (by rfl) (by rfl) ?_
  apply Exists.intro
  refine ⟨fun z K hK => ?_, ?_, ?_⟩
  · go_big_quiet_op
    exact hK _ rfl
  · kernel_rfl
  refine shM_step rfl rfl rfl (by rfl) (by rfl) ?_
  apply Exists.intro
  refine ⟨fun z K hK => ?_, ?_, ?_⟩
  · go_big_quiet_op
    exact hK _ rfl
  · kernel_rfl
  refine shM_gen rfl rfl (by kernel_rfl) (SigS [] []) (SigS.stable _ _) (fun z => ?_) (fun v3 => ?_)
  · unfold yieldsK
    go_simp
    exact sig_gen _ _ _ _ _ _ _ (hL.out.keep (keepN gK (z.has.1.1.1))) rfl rfl (by decide) (by decide) v_nil v_nil
  simp only [Act.put, List.setIfInBounds_toArray, List.set_cons_zero, List.set_cons_succ]
  refine shM_val rfl rfl (by kernel_rfl) (.bool true) (fun z => ?_) ?_
  · obtain ⟨A, c, B, d, rfl, hr, hr2⟩ := z.has.2
    unfold yieldsK
    go_simp
    exact (same_any none [] 0 0 none [] 0 0 A [] _ c B [] _ d _ (Rd.none_ _ _) (Rd.none_ _ _) hr hr2 rfl rfl rfl rfl (by decide) (by decide) (by decide) (by decide) true (by show _ = _; decide)).mono fun _ _ h => ⟨_, h.1, rfl, h.2⟩
  simp only [Act.put, List.setIfInBounds_toArray, List.set_cons_zero, List.set_cons_succ]
  refine shM_step rfl rfl rfl (by rfl) (by rfl) ?_
  apply Exists.intro
  refine ⟨fun z K hK => ?_, ?_, ?_⟩
  · go_big_quiet_op
    exact hK _ rfl
  · kernel_rfl
  refine shM_step rfl rfl rfl (by rfl) (by rfl) ?_
  apply Exists.intro
  refine ⟨fun z K hK => ?_, ?_, ?_⟩
  · go_big_quiet_op
    exact hK _ rfl
  · kernel_rfl
  refine shM_nil (fun z => ?_)
  have k1 := z.has.1.1.1.1
  generalize z.w = x7 at k1 ⊢
  replace gK := keepN gK k1
  clear k1 rx ry ru re bl q2 q4
  go_wp2_with fail
  refine (of_gen _ _ _ _ (hL.out.keep gK) rfl (by decide) v_irf).mono ?_
  rintro e x8 ⟨_, rfl, ⟨A, c, rfl, hr⟩, k1⟩
  replace gK := keepN gK k1
  clear k1
  go_wp2_with fail
  refine (cell_any A [1, 2, 3] _ c (2) _ hr rfl (by decide) 3 0 ⟨by kernel_rfl, by kernel_rfl⟩).mono ?_
  rintro e x9 ⟨rfl, k1⟩
  replace gK := keepN gK k1
  clear k1 hr
  go_wp2_with fail
  refine (of_gen _ _ _ _ (hL.out.keep gK) rfl (by decide) v_irf).mono ?_
  rintro e x8 ⟨_, rfl, ⟨A, c, rfl, hr⟩, k1⟩
  replace gK := keepN gK k1
  clear k1
  go_wp2_with fail
  refine (cell_any A [1, 2, 3] _ c (3) _ hr rfl (by decide) 0 60 ⟨by kernel_rfl, by kernel_rfl⟩).mono ?_
  rintro e x9 ⟨rfl, k1⟩
  replace gK := keepN gK k1
  clear k1 hr
  go_wp2_with fail
  refine (of_gen _ _ _ _ (hL.out.keep gK) rfl (by decide) v_irf).mono ?_
  rintro e x8 ⟨_, rfl, ⟨A, c, rfl, hr⟩, k1⟩
  replace gK := keepN gK k1
  clear k1
  go_wp2_with fail
  refine (cell_any A [1, 2, 3] _ c (-1) _ hr rfl (by decide) 0 60 ⟨by kernel_rfl, by kernel_rfl⟩).mono ?_
  rintro e x9 ⟨rfl, k1⟩
  replace gK := keepN gK k1
  clear k1 hr
  go_wp2_with fail
  refine (of_gen _ _ _ _ (hL.out.keep gK) rfl (by decide) v_p).mono ?_
  rintro e x8 ⟨_, rfl, ⟨A, c, rfl, hr⟩, k1⟩
  replace gK := keepN gK k1
  clear k1
  go_wp2_with fail
  refine (cell_any A [4] _ c (0) _ hr rfl (by decide) 0 60 ⟨by kernel_rfl, by kernel_rfl⟩).mono ?_
  rintro e x9 ⟨rfl, k1⟩
  replace gK := keepN gK k1
  clear k1 hr
  have hB := Blk.new x9 9 #[Value.string ⟨#[]⟩, Value.string ⟨#[80]⟩, Value.string ⟨#[105]⟩, Value.string ⟨#[73, 88]⟩, Value.string ⟨#[73, 32, 82]⟩, Value.string (SI ++ ⟨#[82]⟩), Value.string ⟨#[195, 169]⟩]
  have hst : Hid (∀ k, k < 7 → ∃ (S : ByteArray) (s : List UInt8), #[Value.string ⟨#[]⟩, Value.string ⟨#[80]⟩, Value.string ⟨#[105]⟩, Value.string ⟨#[73, 88]⟩, Value.string ⟨#[73, 32, 82]⟩, Value.string (SI ++ ⟨#[82]⟩), Value.string ⟨#[195, 169]⟩][k]? = some (.string S) ∧ S.data.toList = s ∧ s.length ≤ 100 ∧ rdS s = none) := fun k hk => by
    have hcase : k = 0 ∨ k = 1 ∨ k = 2 ∨ k = 3 ∨ k = 4 ∨ k = 5 ∨ k = 6 := by omega
    rcases hcase with rfl | rfl | rfl | rfl | rfl | rfl | rfl
    · exact ⟨⟨#[]⟩, [], by kernel_rfl, rfl, by decide, by kernel_rfl⟩
    · exact ⟨⟨#[80]⟩, [80], by kernel_rfl, rfl, by decide, by kernel_rfl⟩
    · exact ⟨⟨#[105]⟩, [105], by kernel_rfl, rfl, by decide, by kernel_rfl⟩
    · exact ⟨⟨#[73, 88]⟩, [73, 88], by kernel_rfl, rfl, by decide, by kernel_rfl⟩
    · exact ⟨⟨#[73, 32, 82]⟩, [73, 32, 82], by kernel_rfl, rfl, by decide, by kernel_rfl⟩
    · exact ⟨SI ++ ⟨#[82]⟩, List.replicate 16 73 ++ [82], by kernel_rfl, HIR.out, by decide, by kernel_rfl⟩
    · exact ⟨⟨#[195, 169]⟩, [195, 169], by kernel_rfl, rfl, by decide, by kernel_rfl⟩
  have gA := gK.alloc (.cells #[Value.string ⟨#[]⟩, Value.string ⟨#[80]⟩, Value.string ⟨#[105]⟩, Value.string ⟨#[73, 88]⟩, Value.string ⟨#[73, 32, 82]⟩, Value.string (SI ++ ⟨#[82]⟩), Value.string ⟨#[195, 169]⟩] 9)
  go_wp2
  generalize x9.alloc (.cells #[Value.string ⟨#[]⟩, Value.string ⟨#[80]⟩, Value.string ⟨#[105]⟩, Value.string ⟨#[73, 88]⟩, Value.string ⟨#[73, 32, 82]⟩, Value.string (SI ++ ⟨#[82]⟩), Value.string ⟨#[195, 169]⟩] 9) = wL at hB gA ⊢
  generalize x9.heap.size = gs at hB ⊢
  clear gK
  go_loopw [19, 197] (fun x i wr => ∃ k : Nat, k ≤ 7 ∧ x = .int .i64 ((0 + k : Nat) : Int) ∧ i = .int .i64 (k : Int) ∧ Keep NoB wL wr) (fun _ i _ => 7 - (intOf i).toNat)
  case atStart => exact ⟨0, by decide, rfl, rfl, Keep.refl _ _⟩
  case round =>
    obtain ⟨j, hj, rfl, rfl, hK⟩ := hrel
    by_cases hlt : j < 7
    · obtain ⟨S, s, hcs, hsl, hlen, hno⟩ := hst.out j hlt
      have c0 : wr.cell? ⟨gs, j, none⟩ = some (.string S) := hK.cell ((hB.cell j).trans hcs) id
      have gW := keepN gA hK
      clear hst hB hcs
      have HR := Lib.hid (fun w hL => readS_any S s w hL hsl (size_le hsl (by omega)))
      rw [hno] at HR
      clear hsl hlen hno
      go_wp2_with fail
      refine (HR.out _ (hL.out.keep gW)).mono ?_
      rintro e y1 ⟨v, rfl, hO, kR⟩
      obtain ⟨A1, c1, rfl, _⟩ := own_rdI hO
      clear hO
      dsimp only [rsL, rsE, List.length_nil]
      go_wp2
      go_roundw
      case rel => exact ⟨j + 1, by omega, by go_num, by go_num, keepN hK kR⟩
      case measure => simp [intOf]; omega
    · obtain rfl : j = 7 := by omega
      have gK := keepN gA hK
      clear gA hK hst hB hlt hj
      rw [show (((0 + 7 : Nat)) : Int) = 7 from rfl]
      try rw [show ((7 : Nat) : Int) = 7 from rfl]
      go_wp2_with fail
      refine (RT60.out _).mono ?_
      rintro e z2 ⟨rfl, k1⟩
      replace gK := keepN gK k1
      clear k1
      have hB := Blk.new z2 9 #[Value.string ⟨#[]⟩, Value.string ⟨#[73]⟩, Value.string ⟨#[73, 62, 80]⟩, Value.string ⟨#[73, 62, 62, 82]⟩, Value.string ⟨#[62, 62]⟩, Value.string ⟨#[73, 62, 32, 82]⟩, Value.string ⟨#[120, 62, 73]⟩, Value.string (T60 ++ ⟨#[62, 82, 82, 82, 82, 82]⟩)]
      have hst : Hid (∀ k, k < 8 → ∃ (S : ByteArray) (s : List UInt8), #[Value.string ⟨#[]⟩, Value.string ⟨#[73]⟩, Value.string ⟨#[73, 62, 80]⟩, Value.string ⟨#[73, 62, 62, 82]⟩, Value.string ⟨#[62, 62]⟩, Value.string ⟨#[73, 62, 32, 82]⟩, Value.string ⟨#[120, 62, 73]⟩, Value.string (T60 ++ ⟨#[62, 82, 82, 82, 82, 82]⟩)][k]? = some (.string S) ∧ S.data.toList = s ∧ s.length ≤ 100 ∧ rdG s = none) := fun k hk => by
        have hcase : k = 0 ∨ k = 1 ∨ k = 2 ∨ k = 3 ∨ k = 4 ∨ k = 5 ∨ k = 6 ∨ k = 7 := by omega
        rcases hcase with rfl | rfl | rfl | rfl | rfl | rfl | rfl | rfl
        · exact ⟨⟨#[]⟩, [], by kernel_rfl, rfl, by decide, by kernel_rfl⟩
        · exact ⟨⟨#[73]⟩, [73], by kernel_rfl, rfl, by decide, by kernel_rfl⟩
        · exact ⟨⟨#[73, 62, 80]⟩, [73, 62, 80], by kernel_rfl, rfl, by decide, by kernel_rfl⟩
        · exact ⟨⟨#[73, 62, 62, 82]⟩, [73, 62, 62, 82], by kernel_rfl, rfl, by decide, by kernel_rfl⟩
        · exact ⟨⟨#[62, 62]⟩, [62, 62], by kernel_rfl, rfl, by decide, by kernel_rfl⟩
        · exact ⟨⟨#[73, 62, 32, 82]⟩, [73, 62, 32, 82], by kernel_rfl, rfl, by decide, by kernel_rfl⟩
        · exact ⟨⟨#[120, 62, 73]⟩, [120, 62, 73], by kernel_rfl, rfl, by decide, by kernel_rfl⟩
        · exact ⟨T60 ++ ⟨#[62, 82, 82, 82, 82, 82]⟩, List.replicate 60 73 ++ [62, 82, 82, 82, 82, 82], by kernel_rfl, HT6.out, by decide, by kernel_rfl⟩
      have gA := gK.alloc (.cells #[Value.string ⟨#[]⟩, Value.string ⟨#[73]⟩, Value.string ⟨#[73, 62, 80]⟩, Value.string ⟨#[73, 62, 62, 82]⟩, Value.string ⟨#[62, 62]⟩, Value.string ⟨#[73, 62, 32, 82]⟩, Value.string ⟨#[120, 62, 73]⟩, Value.string (T60 ++ ⟨#[62, 82, 82, 82, 82, 82]⟩)] 9)
      go_wp2
      generalize z2.alloc (.cells #[Value.string ⟨#[]⟩, Value.string ⟨#[73]⟩, Value.string ⟨#[73, 62, 80]⟩, Value.string ⟨#[73, 62, 62, 82]⟩, Value.string ⟨#[62, 62]⟩, Value.string ⟨#[73, 62, 32, 82]⟩, Value.string ⟨#[120, 62, 73]⟩, Value.string (T60 ++ ⟨#[62, 82, 82, 82, 82, 82]⟩)] 9) = wL at hB gA ⊢
      generalize z2.heap.size = gs at hB ⊢
      clear gK
      go_loopw [19, 220] (fun x i wr => ∃ k : Nat, k ≤ 8 ∧ x = .int .i64 ((7 + k : Nat) : Int) ∧ i = .int .i64 (k : Int) ∧ Keep NoB wL wr) (fun _ i _ => 8 - (intOf i).toNat)
      case atStart => exact ⟨0, by decide, rfl, rfl, Keep.refl _ _⟩
      case round =>
        obtain ⟨j, hj, rfl, rfl, hK⟩ := hrel
        by_cases hlt : j < 8
        · obtain ⟨S, s, hcs, hsl, hlen, hno⟩ := hst.out j hlt
          have c0 : wr.cell? ⟨gs, j, none⟩ = some (.string S) := hK.cell ((hB.cell j).trans hcs) id
          have gW := keepN gA hK
          clear hst hB hcs
          have HR := Lib.hid (fun w hL => readG_any S s w hL hsl (size_le hsl (by omega)))
          rw [hno] at HR
          clear hsl hlen hno
          go_wp2_with fail
          refine (HR.out _ (hL.out.keep gW)).mono ?_
          rintro e y1 ⟨v, v2, rfl, hO, hO2, kR⟩
          obtain ⟨A1, c1, rfl, _⟩ := own_rdI hO
          obtain ⟨A2, c2, rfl, _⟩ := own_rdI hO2
          clear hO hO2
          dsimp only [spA, spB, spE, List.length_nil]
          have bz := Blk.new y1 26 #[.slice A1 0 c1, .slice A2 0 c2]
          obtain ⟨z0, z1⟩ := blk2 bz
          replace kR := kR.alloc (.cells #[.slice A1 0 c1, .slice A2 0 c2] 26)
          clear bz
          go_wp2
          go_roundw
          case rel => exact ⟨j + 1, by omega, by go_num, by go_num, keepN hK kR⟩
          case measure => simp [intOf]; omega
        · obtain rfl : j = 8 := by omega
          have gK := keepN gA hK
          clear gA hK hst hB hlt hj
          rw [show (((7 + 8 : Nat)) : Int) = 15 from rfl]
          try rw [show ((8 : Nat) : Int) = 8 from rfl]
          have hB := Blk.new wr 9 #[Value.string ⟨#[]⟩, Value.string ⟨#[0]⟩, Value.string ⟨#[1]⟩, Value.string ⟨#[1, 3]⟩, Value.string ⟨#[17, 0, 0, 0, 0, 0]⟩, Value.string ⟨#[4, 255]⟩, Value.string ⟨#[128, 1, 0]⟩]
          have hst : Hid (∀ k, k < 7 → ∃ (S : ByteArray) (s : List UInt8), #[Value.string ⟨#[]⟩, Value.string ⟨#[0]⟩, Value.string ⟨#[1]⟩, Value.string ⟨#[1, 3]⟩, Value.string ⟨#[17, 0, 0, 0, 0, 0]⟩, Value.string ⟨#[4, 255]⟩, Value.string ⟨#[128, 1, 0]⟩][k]? = some (.string S) ∧ S.data.toList = s ∧ s.length ≤ 100 ∧ decS s 0 = none) := fun k hk => by
            have hcase : k = 0 ∨ k = 1 ∨ k = 2 ∨ k = 3 ∨ k = 4 ∨ k = 5 ∨ k = 6 := by omega
            rcases hcase with rfl | rfl | rfl | rfl | rfl | rfl | rfl
            · exact ⟨⟨#[]⟩, [], by kernel_rfl, rfl, by decide, by kernel_rfl⟩
            · exact ⟨⟨#[0]⟩, [0], by kernel_rfl, rfl, by decide, by kernel_rfl⟩
            · exact ⟨⟨#[1]⟩, [1], by kernel_rfl, rfl, by decide, by kernel_rfl⟩
            · exact ⟨⟨#[1, 3]⟩, [1, 3], by kernel_rfl, rfl, by decide, by kernel_rfl⟩
            · exact ⟨⟨#[17, 0, 0, 0, 0, 0]⟩, [17, 0, 0, 0, 0, 0], by kernel_rfl, rfl, by decide, by kernel_rfl⟩
            · exact ⟨⟨#[4, 255]⟩, [4, 255], by kernel_rfl, rfl, by decide, by kernel_rfl⟩
            · exact ⟨⟨#[128, 1, 0]⟩, [128, 1, 0], by kernel_rfl, rfl, by decide, by kernel_rfl⟩
          have gA := gK.alloc (.cells #[Value.string ⟨#[]⟩, Value.string ⟨#[0]⟩, Value.string ⟨#[1]⟩, Value.string ⟨#[1, 3]⟩, Value.string ⟨#[17, 0, 0, 0, 0, 0]⟩, Value.string ⟨#[4, 255]⟩, Value.string ⟨#[128, 1, 0]⟩] 9)
          go_wp2
          generalize wr.alloc (.cells #[Value.string ⟨#[]⟩, Value.string ⟨#[0]⟩, Value.string ⟨#[1]⟩, Value.string ⟨#[1, 3]⟩, Value.string ⟨#[17, 0, 0, 0, 0, 0]⟩, Value.string ⟨#[4, 255]⟩, Value.string ⟨#[128, 1, 0]⟩] 9) = wL at hB gA ⊢
          generalize wr.heap.size = gs at hB ⊢
          clear gK
          go_loopw [19, 246] (fun x i wr => ∃ k : Nat, k ≤ 7 ∧ x = .int .i64 ((15 + k : Nat) : Int) ∧ i = .int .i64 (k : Int) ∧ Keep NoB wL wr) (fun _ i _ => 7 - (intOf i).toNat)
          case atStart => exact ⟨0, by decide, rfl, rfl, Keep.refl _ _⟩
          case round =>
            obtain ⟨j, hj, rfl, rfl, hK⟩ := hrel
            by_cases hlt : j < 7
            · obtain ⟨S, s, hcs, hsl, hlen, hno⟩ := hst.out j hlt
              have c0 : wr.cell? ⟨gs, j, none⟩ = some (.string S) := hK.cell ((hB.cell j).trans hcs) id
              have gW := keepN gA hK
              clear hst hB hcs
              obtain ⟨wc, cc, hcv, hrc, kc⟩ := conv_strC wr s
              rw [str_self hsl] at hcv
              have HD := Lib.hid (fun w br O h => decodeS_any w br O s 0 h (by omega))
              rw [hno] at HD
              clear hsl hno
              go_wp2_with fail
              refine (V.on_any _ _ s cc hrc (by omega)).mono ?_
              rintro e y1 ⟨br, rfl, hR, k1⟩
              have hbr : wr.heap.size ≤ br := Nat.le_trans kc.size hR.1
              have hR := reel_new hR
              go_wp2_with fail
              refine (HD.out _ br _ hR).mono ?_
              rintro e y2 ⟨v, q, rfl, hO, _, _, k2⟩
              obtain ⟨A1, c1, rfl, _⟩ := own_rdI hO
              dsimp only [optL, optE, List.length_nil]
              have kR := keep_br (keepN kc k1) k2 hbr
              clear hO hR k1 k2 kc hrc hcv hlen hbr
              go_wp2
              go_roundw
              case rel => exact ⟨j + 1, by omega, by go_num, by go_num, keepN hK kR⟩
              case measure => simp [intOf]; omega
            · obtain rfl : j = 7 := by omega
              have gK := keepN gA hK
              clear gA hK hst hB hlt hj
              rw [show (((15 + 7 : Nat)) : Int) = 22 from rfl]
              try rw [show ((7 : Nat) : Int) = 7 from rfl]
              have hB := Blk.new wr 9 #[Value.string ⟨#[]⟩, Value.string ⟨#[0]⟩, Value.string ⟨#[1, 3, 1, 3]⟩, Value.string ⟨#[1, 0, 1]⟩, Value.string ⟨#[65, 0]⟩]
              have hst : Hid (∀ k, k < 5 → ∃ (S : ByteArray) (s : List UInt8), #[Value.string ⟨#[]⟩, Value.string ⟨#[0]⟩, Value.string ⟨#[1, 3, 1, 3]⟩, Value.string ⟨#[1, 0, 1]⟩, Value.string ⟨#[65, 0]⟩][k]? = some (.string S) ∧ S.data.toList = s ∧ s.length ≤ 100 ∧ decG s 0 = none) := fun k hk => by
                have hcase : k = 0 ∨ k = 1 ∨ k = 2 ∨ k = 3 ∨ k = 4 := by omega
                rcases hcase with rfl | rfl | rfl | rfl | rfl
                · exact ⟨⟨#[]⟩, [], by kernel_rfl, rfl, by decide, by kernel_rfl⟩
                · exact ⟨⟨#[0]⟩, [0], by kernel_rfl, rfl, by decide, by kernel_rfl⟩
                · exact ⟨⟨#[1, 3, 1, 3]⟩, [1, 3, 1, 3], by kernel_rfl, rfl, by decide, by kernel_rfl⟩
                · exact ⟨⟨#[1, 0, 1]⟩, [1, 0, 1], by kernel_rfl, rfl, by decide, by kernel_rfl⟩
                · exact ⟨⟨#[65, 0]⟩, [65, 0], by kernel_rfl, rfl, by decide, by kernel_rfl⟩
              have gA := gK.alloc (.cells #[Value.string ⟨#[]⟩, Value.string ⟨#[0]⟩, Value.string ⟨#[1, 3, 1, 3]⟩, Value.string ⟨#[1, 0, 1]⟩, Value.string ⟨#[65, 0]⟩] 9)
              go_wp2
              generalize wr.alloc (.cells #[Value.string ⟨#[]⟩, Value.string ⟨#[0]⟩, Value.string ⟨#[1, 3, 1, 3]⟩, Value.string ⟨#[1, 0, 1]⟩, Value.string ⟨#[65, 0]⟩] 9) = wL at hB gA ⊢
              generalize wr.heap.size = gs at hB ⊢
              clear gK
              go_loopw [19, 269] (fun x i wr => ∃ k : Nat, k ≤ 5 ∧ x = .int .i64 ((22 + k : Nat) : Int) ∧ i = .int .i64 (k : Int) ∧ Keep NoB wL wr) (fun _ i _ => 5 - (intOf i).toNat)
              case atStart => exact ⟨0, by decide, rfl, rfl, Keep.refl _ _⟩
              case round =>
                obtain ⟨j, hj, rfl, rfl, hK⟩ := hrel
                by_cases hlt : j < 5
                · obtain ⟨S, s, hcs, hsl, hlen, hno⟩ := hst.out j hlt
                  have c0 : wr.cell? ⟨gs, j, none⟩ = some (.string S) := hK.cell ((hB.cell j).trans hcs) id
                  have gW := keepN gA hK
                  clear hst hB hcs
                  obtain ⟨wc, cc, hcv, hrc, kc⟩ := conv_strC wr s
                  rw [str_self hsl] at hcv
                  have HD := Lib.hid (fun w br O hO h => decodeG_any w br O s 0 hO h (by omega))
                  rw [hno] at HD
                  clear hsl hno
                  go_wp2_with fail
                  refine (V.on_any _ _ s cc hrc (by omega)).mono ?_
                  rintro e y1 ⟨br, rfl, hR, k1⟩
                  have hbr : wr.heap.size ≤ br := Nat.le_trans kc.size hR.1
                  have hR := reel_new hR
                  go_wp2_with fail
                  refine (HD.out _ br _ (fun k hk => hk.2) hR).mono ?_
                  rintro e y2 ⟨v, v2, q, rfl, hO, hO2, _, _, k2⟩
                  obtain ⟨A1, c1, rfl, _⟩ := own_rdI hO
                  obtain ⟨A2, c2, rfl, _⟩ := own_rdI hO2
                  dsimp only [optA, optB, optF, List.length_nil]
                  have bz := Blk.new y2 26 #[.slice A1 0 c1, .slice A2 0 c2]
                  obtain ⟨z0, z1⟩ := blk2 bz
                  have kR := (keep_br (keepN kc k1) k2 hbr).alloc (.cells #[.slice A1 0 c1, .slice A2 0 c2] 26)
                  clear hO hO2 hR k1 k2 kc hrc hcv hlen hbr bz
                  go_wp2
                  go_roundw
                  case rel => exact ⟨j + 1, by omega, by go_num, by go_num, keepN hK kR⟩
                  case measure => simp [intOf]; omega
                · obtain rfl : j = 5 := by omega
                  have gK := keepN gA hK
                  clear gA hK hst hB hlt hj
                  rw [show (((22 + 5 : Nat)) : Int) = 27 from rfl]
                  try rw [show ((5 : Nat) : Int) = 5 from rfl]
                  have HF := Lib.hid (fun w hL => readS_any ⟨#[70, 73, 82]⟩ [70, 73, 82] w hL rfl (by decide))
                  rw [rs_fir] at HF
                  have HG := Lib.hid (fun w hL => readG_any ⟨#[62]⟩ [62] w hL rfl (by decide))
                  rw [rg_arr] at HG
                  go_wp2_with fail
                  refine (HF.out _ (hL.out.keep gK)).mono ?_
                  rintro e u1 ⟨v, rfl, hO, k1⟩
                  obtain ⟨A1, c1, rfl, r1⟩ := own_rdI hO
                  replace gK := keepN gK k1
                  dsimp only [rsL, rsE]
                  clear hO k1
                  go_wp2_with fail
                  refine (HG.out _ (hL.out.keep gK)).mono ?_
                  rintro e u2 ⟨v, v2, rfl, hO, hO2, k1⟩
                  obtain ⟨A2, c2, rfl, _⟩ := own_rdI hO
                  obtain ⟨A3, c3, rfl, _⟩ := own_rdI hO2
                  dsimp only [spA, spB, spE, List.length_nil]
                  replace k1 := k1.alloc (.cells #[.slice A2 0 c2, .slice A3 0 c3] 26)
                  have bz := Blk.new u2 26 #[.slice A2 0 c2, .slice A3 0 c3]
                  replace gK := keepN gK k1
                  replace r1 := r1.keepN k1
                  clear hO hO2 k1
                  go_wp2_with fail
                  refine (alive_any _ (hL.out.keep gK)).mono ?_
                  rintro e u3 ⟨rfl, k1⟩
                  replace gK := keepN gK k1
                  replace r1 := r1.keepN k1
                  replace bz := bz.keep k1 id
                  clear k1
                  go_wp2_with fail
                  have kA := (Keep.refl NoB u3).alloc (.cells #[.int .i64 3, .int .i64 1, .int .i64 2] 3)
                  refine (W.ints_any A1 _ [3, 1, 2] [3, 1, 2] 3 3 c1 3 _ (r1.keepN kA) (W.rd_made rfl rfl) rfl rfl (by decide) (by decide) true (by show _ = _; decide)).mono ?_
                  rintro e u4 ⟨rfl, k1⟩
                  obtain ⟨z0, z1⟩ := blk2 ((bz.keep kA id).keep k1 id)
                  replace gK := keepN (keepN gK kA) k1
                  clear k1 kA r1 bz
                  go_wp2
                  go_ret
                  exact ⟨rfl, gK⟩

end Go.Proofs.YtieejecodfeodaaDoor.S
