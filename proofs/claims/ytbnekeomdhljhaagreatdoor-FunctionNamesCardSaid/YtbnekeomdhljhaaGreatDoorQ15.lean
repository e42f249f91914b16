/-
  What FunctionNames calls besides: the laws' function as lists that are owned; Decode of no Reel, and of bytes that are known; what stays of a slice behind an append to it. Conditions: none but those of the texts.
  Are two functions the same: the program's Same and the document's. Conditions: the functions' lists lie in memory, and are no longer than statements go through.
  A region that draws its order, whose last operations, from number m on, stand behind all that are ahead of them: the first ones are taken by what each of their values is, whatever the order (as in KProps5), the last ones in their order. No program, no conditions.
  The document's copy of a function. Conditions: the function's lists lie in memory, and are no longer than statements go through.
-/
import Derived.Test.YtbnekeomdhljhaaGreatDoorQ9
import Derived.Test.YtbnekeomdhljhaaGreatDoorQ12
import Derived.Test.YtbnekeomdhljhaaGreatDoorQ14
import Derived.Test.YtbnekeomdhljhaaGreatDoorQ3
import Derived.Test.YtbnekeomdhljhaaGreatDoorQ6
import Derived.Test.YtbnekeomdhljhaaGreatDoorQ7
import Derived.Test.YtbnekeomdhljhaaGreatDoorQ5
namespace Go.Proofs.YtbnekeomdhljhaaGreatDoor.F
open Go.RowKit W

theorem append_oldF {w w' : World} {g cap c : Nat} {xs l : List UInt8} {A : Option Addr} {ty : TypeId} {v' : Value} (hown : w.ownsRow 0 5 1 (.slice (some ⟨g, 0, none⟩) xs.length cap) xs.length (V.bvs xs)) (hr : V.Rd w A l) (h0 : 0 < l.length) (hb : xs.length + l.length ≤ 140737488355328)
    (hrun : (Builtin.append_ #[28, 28] ty #[.slice (some ⟨g, 0, none⟩) xs.length cap, .slice A l.length c]).run Tryz.prog w = .ok v' w') : V.Rd w' (some ⟨g, 0, none⟩) xs := by
  obtain ⟨v2, w2, hrun2, h2, h3, h4, _⟩ := V.run_append_rd w _ xs l A c ty hown hr hb
  rw [hrun] at hrun2
  injection hrun2 with e1 e2
  subst e1 e2
  rcases h4 with h4 | h4
  · exact fun _ => ⟨_, rfl, fun j u hu => h2.cells (g := g) (by rw [h4]; rfl) j u (by
      obtain ⟨hj, rfl⟩ := List.getElem?_eq_some_iff.1 hu
      have hj2 : j < xs.length := by simpa using hj
      simp [V.bvs, hj2, List.getElem?_append_left])⟩
  · obtain ⟨i0, hi, hz0, hz1, hz2⟩ := info_parts V.u8_info
    obtain ⟨ad, rfl, hc⟩ := hr h0
    have hlt : g < w.heap.size := (hown.lt g rfl).2
    have hold := hown.cells (g := g) rfl
    by_cases hroom : xs.length + l.length ≤ cap
    · rcases hown.2 with ⟨e, _⟩ | ⟨g', cap', cur, e, hbg, hg, hnc, hcm, hcs, htake⟩
      · cases e
      · injection e with e _ e3
        injection e with e
        injection e with e _ _
        subst e e3
        have hfit : xs.length * i0.size + (V.bvs l).length ≤ cur.size := by rw [hcs, hz1]; simp; omega
        have hr2 := run_append_room (P := Tryz.prog) w 28 ty 5 i0 Tryz.underlying28 hi g xs.length cap cur hg ad l.length c (V.bvs l) (by simp [hz1]) hc (V.bvs_one l) hroom hfit
        rw [hrun] at hr2
        injection hr2 with e1 e2
        rw [e1] at h4
        exfalso
        have : g = w.heap.size := by simpa [Value.ownBlock] using h4
        omega
    · have hr2 := run_append_grow (P := Tryz.prog) w 28 ty 5 i0 (.int .u8 0) Tryz.underlying28 hi hz0 ⟨g, 0, none⟩ xs.length cap (V.bvs xs) (by simp [hz1]) hold ad l.length c (V.bvs l) (by simp [hz1]) hc (by omega) (by omega) (growslice_fits (by omega) (by rw [hz2]; omega))
      rw [hrun] at hr2
      injection hr2 with e1 e2
      subst e2
      exact S.rd_n (fun _ => ⟨_, rfl, hold⟩) (((Keep.refl NoB w).drew).alloc _)
theorem wpList_append_oldF {ops : Array Oper} {rest : List Oper} {o : Oper} {a : Act} {Q : Exit → Act → World → Prop} (w : World) (hgd : o.guard = none) (s x : Operand)
    (ho : o.op = .call { callee := .builtin .append, args := #[s, x], argTypes := #[28, 28] })
    (g cap : Nat) (xs l : List UInt8) (A : Option Addr) (c : Nat) (hs : a.eval s = .slice (some ⟨g, 0, none⟩) xs.length cap) (hown : w.ownsRow 0 5 1 (.slice (some ⟨g, 0, none⟩) xs.length cap) xs.length (V.bvs xs)) (hx : a.eval x = .slice A l.length c) (hr : V.Rd w A l) (h0 : 0 < l.length)
    (hb : xs.length + l.length ≤ 140737488355328)
    (h : ∀ v' w', w'.ownsRow 0 5 1 v' (xs ++ l).length (V.bvs (xs ++ l)) → w.grownBy w' (some g) → (v'.ownBlock = some g ∨ v'.ownBlock = some w.heap.size) → V.Rd w' (some ⟨g, 0, none⟩) xs → wpList Tryz.prog ops Q rest (a.put o.dst v') w') :
    wpList Tryz.prog ops Q (o :: rest) a w :=
  wpList_plain hgd fun K hK => by
    obtain ⟨v', w', hrun, h2, h3, h4, _⟩ := V.run_append_rd w _ xs l A c o.type hown hr hb
    have h5 := append_oldF hown hr h0 hb hrun
    unfold Oper.wp execOp
    simp only [ho, resolve, invoke, builtin, Sem.run_bind, Sem.run_pure, Result.andThen_ok, List.map_toArray, List.map_cons, List.map_nil, hs, hx, hrun]
    exact hK _ _ (h v' w' h2 h3 h4 h5)

/-- A row that has just been made is owned. -/
theorem own_made {w : World} {E size n b : Nat} {cs : Array Value} {xs : List Value} (hb : b = w.heap.size) (hs : cs.size = n * size) (hm : n ≤ maxLen) (hx : xs = cs.toList) : Own (w.alloc (.cells cs E)) E size (Fresh w) (.slice (some ⟨b, 0, none⟩) n n) n xs := by
  subst hb hx
  refine ⟨⟨by simpa using hs, .inr ⟨w.heap.size, n, cs, rfl, Nat.zero_le _, heap_alloc_new w _, Nat.le_refl _, hm, hs, ?_⟩⟩, fun g e => by cases e; exact Nat.le_refl _⟩
  rw [← hs]; exact List.take_of_length_le (by simp)
set_option maxRecDepth 100000 in
set_option maxHeartbeats 4000000 in
theorem some_own (w : World) : Calls Tryz.prog 37 #[] w fun e w' => ∃ v : FV, e = .returned v.val ∧ OwnF w' (Fresh w) v fSome ∧ SmF v ∧ Keep NoB w w' := by
  obtain ⟨v, hv⟩ : ∃ v : FV, v = ⟨⟨#[102]⟩, some ⟨w.heap.size + 1, 0, none⟩, 2, 2, some ⟨w.heap.size + 1 + 1, 0, none⟩, 1, 1, some ⟨w.heap.size + 1 + 1 + 1, 0, none⟩, 1, 1, some ⟨w.heap.size + 1 + 1 + 1 + 1, 0, none⟩, 1, 1⟩ := ⟨_, rfl⟩
  have hb0 := ((((Blk.new w 27 v.cells).alloc (.cells #[.int .i64 1, .int .i64 4] 3)).alloc (.cells #[.int .i64 2] 3)).alloc (.cells #[.int .i64 3] 3)).alloc (.cells #[.int .i64 24, .int .i64 0, .int .i64 0] 74)
  have k1 := (Keep.refl NoB w).alloc (.cells v.cells 27)
  have k2 := k1.alloc (.cells #[.int .i64 1, .int .i64 4] 3)
  have k3 := k2.alloc (.cells #[.int .i64 2] 3)
  have k4 := k3.alloc (.cells #[.int .i64 3] 3)
  have k5 := k4.alloc (.cells #[.int .i64 24, .int .i64 0, .int .i64 0] 74)
  have HF : Hid (OwnF (((((w.alloc (.cells v.cells 27)).alloc (.cells #[.int .i64 1, .int .i64 4] 3)).alloc (.cells #[.int .i64 2] 3)).alloc (.cells #[.int .i64 3] 3)).alloc (.cells #[.int .i64 24, .int .i64 0, .int .i64 0] 74)) (Fresh w) v fSome ∧ SmF v) := by
    have a1 := own_made (w := w.alloc (.cells v.cells 27)) (E := 3) (size := 1) (n := 2) (b := w.heap.size + 1) (cs := #[.int .i64 1, .int .i64 4]) (xs := ivs [1, 4]) (by simp) rfl (by unfold maxLen; omega) rfl
    have a2 := own_made (w := (w.alloc (.cells v.cells 27)).alloc (.cells #[.int .i64 1, .int .i64 4] 3)) (E := 3) (size := 1) (n := 1) (b := w.heap.size + 1 + 1) (cs := #[.int .i64 2]) (xs := ivs [2]) (by simp) rfl (by unfold maxLen; omega) rfl
    have a3 := own_made (w := ((w.alloc (.cells v.cells 27)).alloc (.cells #[.int .i64 1, .int .i64 4] 3)).alloc (.cells #[.int .i64 2] 3)) (E := 3) (size := 1) (n := 1) (b := w.heap.size + 1 + 1 + 1) (cs := #[.int .i64 3]) (xs := ivs [3]) (by simp) rfl (by unfold maxLen; omega) rfl
    have a4 := own_made (w := (((w.alloc (.cells v.cells 27)).alloc (.cells #[.int .i64 1, .int .i64 4] 3)).alloc (.cells #[.int .i64 2] 3)).alloc (.cells #[.int .i64 3] 3)) (E := 74) (size := 3) (n := 1) (b := w.heap.size + 1 + 1 + 1 + 1) (cs := #[.int .i64 24, .int .i64 0, .int .i64 0]) (xs := C.iis [(24, 0, 0)]) (by simp) rfl (by unfold maxLen; omega) rfl
    have b1 := (a1.mono (O' := Fresh w) (fun k hk _ => Nat.le_trans k1.size hk)).keepN ((((Keep.refl NoB _).alloc (.cells #[.int .i64 2] 3)).alloc (.cells #[.int .i64 3] 3)).alloc (.cells #[.int .i64 24, .int .i64 0, .int .i64 0] 74))
    have b2 := (a2.mono (O' := Fresh w) (fun k hk _ => Nat.le_trans k2.size hk)).keepN (((Keep.refl NoB _).alloc (.cells #[.int .i64 3] 3)).alloc (.cells #[.int .i64 24, .int .i64 0, .int .i64 0] 74))
    have b3 := (a3.mono (O' := Fresh w) (fun k hk _ => Nat.le_trans k3.size hk)).keepN ((Keep.refl NoB _).alloc (.cells #[.int .i64 24, .int .i64 0, .int .i64 0] 74))
    have b4 := a4.mono (O' := Fresh w) (fun k hk _ => Nat.le_trans k4.size hk)
    subst hv
    exact ⟨⟨rfl, b1, b2, b3, b4, some_I⟩, ⟨Nat.le_of_ble_eq_true rfl, Nat.le_of_ble_eq_true rfl, Nat.le_of_ble_eq_true rfl, Nat.le_of_ble_eq_true rfl, Nat.le_of_ble_eq_true rfl⟩⟩
  have HB := Lib.hid hb0
  have HK := Lib.hid k5
  subst hv
  unfold FV.cells at *
  clear hb0 k1 k2 k3 k4 k5
  go_enter Tryz.func37, Tryz.ntmps37
  go_wp2
  refine bodyPost_ret (ret_fun (v := ⟨⟨#[102]⟩, some ⟨w.heap.size + 1, 0, none⟩, 2, 2, some ⟨w.heap.size + 1 + 1, 0, none⟩, 1, 1, some ⟨w.heap.size + 1 + 1 + 1, 0, none⟩, 1, 1, some ⟨w.heap.size + 1 + 1 + 1 + 1, 0, none⟩, 1, 1⟩) rfl rfl HB.out) rfl ?_
  exact ⟨_, rfl, HF.out.1, HF.out.2, HK.out⟩
/-- Decode of bytes that are known. -/
theorem decode_lit (l : List UInt8) (R : Option (Fu × Nat)) (w0 w : World) (br : Nat) (hd : decF l 0 = R) (hl : l.length ≤ 140737488355328) (h : V.ReelAt w br (Fresh w0) l 0) :
    Calls Tryz.prog 13 #[.pointer (some ⟨br, 0, none⟩)] w fun e w' => ((R = none ∧ e = .returned (.tuple #[nilV.val, .int .i64 70])) ∨ (∃ f q v, R = some (f, q) ∧ e = .returned (.tuple #[v.val, .int .i64 0]) ∧ OwnF w' (Fresh w) v f)) ∧ Keep (fun k => k = br) w w' ∧ w0.heap.size ≤ br := by
  have hb := h.1
  have h2 := h.mono (O' := fun k => Fresh w0 k ∧ k < w.heap.size) (fun _ ho hk => ⟨ho, hk⟩)
  refine (decodeF_any w br _ l 0 (fun k hk => hk.2) h2 hl).mono ?_
  rw [hd]
  rintro e w' (⟨h1, rfl, _, hk⟩ | ⟨f, q, v, h1, rfl, h3, _, hk⟩)
  · exact ⟨.inl ⟨h1, rfl⟩, hk, hb⟩
  · exact ⟨.inr ⟨f, q, v, h1, rfl, h3⟩, hk, hb⟩

set_option maxRecDepth 100000 in
set_option maxHeartbeats 1000000 in
theorem rbytes_nilF (w : World) : Calls Tryz.prog 107 #[.pointer none, .int .i64 32] w fun e w' => e = .returned (.tuple #[.slice none 0 0, .int .i64 1]) ∧ Keep NoB w w' := by
  go_enter Tryz.func107, Tryz.ntmps107
  go_wp2
  go_ret2
  exact ⟨rfl, Keep.refl _ _⟩
set_option maxRecDepth 100000 in
set_option maxHeartbeats 1000000 in
theorem decName_nil (w : World) : Calls Tryz.prog 52 #[.pointer none] w fun e w' => ∃ x E, e = .returned (.tuple #[.string x, .int .i64 E]) ∧ E = 1 ∧ Keep NoB w w' := by
  have c0 : ∀ w, (convert 28 9 (.slice none 0 0)).run Tryz.prog w = .ok (.string (V.str [])) w := fun w => V.conv_rd (l := []) (c := 0) (fun h => absurd h (by simp))
  go_enter Tryz.func52, Tryz.ntmps52
  go_wp2_with fail
  refine (rbytes_nilF _).mono ?_
  rintro e w1 ⟨rfl, k1⟩
  go_wp2
  go_ret2
  exact ⟨_, _, rfl, rfl, k1⟩
set_option maxRecDepth 100000 in
set_option maxHeartbeats 8000000 in
theorem decodeF_nil (w : World) : Calls Tryz.prog 13 #[.pointer none] w fun e w' => e = .returned (.tuple #[nilV.val, .int .i64 70]) ∧ Keep NoB w w' := by
  have bz := (Blk.new w 27 nilV.cells).alloc (.cells nilV.cells 27)
  have bf := Blk.new (w.alloc (.cells nilV.cells 27)) 27 nilV.cells
  have k0 := ((Keep.refl NoB w).alloc (.cells nilV.cells 27)).alloc (.cells nilV.cells 27)
  rw [World.size_alloc] at bf
  unfold nilV FV.cells at bz bf k0
  generalize hw0 : (w.alloc (.cells #[.string ⟨#[]⟩, .slice none 0 0, .slice none 0 0, .slice none 0 0, .slice none 0 0] 27)).alloc (.cells #[.string ⟨#[]⟩, .slice none 0 0, .slice none 0 0, .slice none 0 0, .slice none 0 0] 27) = w0 at bz bf k0
  have hsz : w0.heap.size = w.heap.size + 2 := by rw [← hw0]; simp
  have HZ := Lib.hid bz
  have HF := Lib.hid bf
  have gK := k0
  have gs : w0.heap.size ≤ w0.heap.size := Nat.le_refl _
  clear bz bf k0
  go_enter Tryz.func13, Tryz.ntmps13
  go_wp2_with fail
  clear hw0
  refine (readsStr_any 52 (w.heap.size + 1) 0 none w0).mono ?_
  rintro e w1 ⟨u0, rfl, ⟨c0, r0, q0, rfl, x0, y0, z0⟩, k1⟩
  replace gK := keepN gK k1
  replace gs := Nat.le_trans gs k1.size
  replace HZ := Lib.hid (HZ.out.keep k1 id)
  replace HF := Lib.hid (HF.out.keep k1 id)
  have HX0 := Lib.hid (And.intro x0 (And.intro y0 z0))
  clear x0 y0 z0
  clear k1
  unfold askV
  go_wp2_with fail
  refine (readsSig_any 54 (w.heap.size + 1) 1 none w1).mono ?_
  rintro e w2 ⟨u1, rfl, ⟨c1, r1, q1, rfl, x1, y1, z1⟩, k1⟩
  replace gK := keepN gK k1
  replace gs := Nat.le_trans gs k1.size
  replace HZ := Lib.hid (HZ.out.keep k1 id)
  replace HF := Lib.hid (HF.out.keep k1 id)
  replace HX0 := Lib.hid (And.intro (HX0.out.1.keep k1 id) (And.intro (HX0.out.2.1.keep k1 id) (HX0.out.2.2.keep k1 id)))
  clear x1 y1 z1
  clear k1
  unfold askV
  go_wp2_with fail
  refine (readsLoc_any 56 (w.heap.size + 1) 3 none w2).mono ?_
  rintro e w3 ⟨u2, rfl, ⟨c2, r2, q2, rfl, x2, y2, z2⟩, k1⟩
  replace gK := keepN gK k1
  replace gs := Nat.le_trans gs k1.size
  replace HZ := Lib.hid (HZ.out.keep k1 id)
  replace HF := Lib.hid (HF.out.keep k1 id)
  replace HX0 := Lib.hid (And.intro (HX0.out.1.keep k1 id) (And.intro (HX0.out.2.1.keep k1 id) (HX0.out.2.2.keep k1 id)))
  clear x2 y2 z2
  clear k1
  unfold askV
  go_wp2_with fail
  refine (readsBod_any 58 (w.heap.size + 1) 4 none w3).mono ?_
  rintro e w4 ⟨u3, rfl, ⟨c3, r3, q3, rfl, x3, y3, z3⟩, k1⟩
  replace gK := keepN gK k1
  replace gs := Nat.le_trans gs k1.size
  replace HZ := Lib.hid (HZ.out.keep k1 id)
  replace HF := Lib.hid (HF.out.keep k1 id)
  replace HX0 := Lib.hid (And.intro (HX0.out.1.keep k1 id) (And.intro (HX0.out.2.1.keep k1 id) (HX0.out.2.2.keep k1 id)))
  clear x3 y3 z3
  clear k1
  unfold askV
  have kb := (Keep.refl NoB w4).alloc (.cells #[askV 106 #[.pointer (some ⟨c0, 0, none⟩), .pointer (some ⟨r0, 0, none⟩), .pointer (some ⟨q0, 0, none⟩)], askV 108 #[.pointer (some ⟨c1, 0, none⟩), .pointer (some ⟨r1, 0, none⟩), .pointer (some ⟨q1, 0, none⟩)], askV 111 #[.pointer (some ⟨c2, 0, none⟩), .pointer (some ⟨r2, 0, none⟩), .pointer (some ⟨q2, 0, none⟩)], askV 112 #[.pointer (some ⟨c3, 0, none⟩), .pointer (some ⟨r3, 0, none⟩), .pointer (some ⟨q3, 0, none⟩)]] 75)
  have bb := Blk.new w4 75 #[askV 106 #[.pointer (some ⟨c0, 0, none⟩), .pointer (some ⟨r0, 0, none⟩), .pointer (some ⟨q0, 0, none⟩)], askV 108 #[.pointer (some ⟨c1, 0, none⟩), .pointer (some ⟨r1, 0, none⟩), .pointer (some ⟨q1, 0, none⟩)], askV 111 #[.pointer (some ⟨c2, 0, none⟩), .pointer (some ⟨r2, 0, none⟩), .pointer (some ⟨q2, 0, none⟩)], askV 112 #[.pointer (some ⟨c3, 0, none⟩), .pointer (some ⟨r3, 0, none⟩), .pointer (some ⟨q3, 0, none⟩)]]
  replace gK := keepN gK kb
  replace HZ := Lib.hid (HZ.out.keep kb id)
  replace HF := Lib.hid (HF.out.keep kb id)
  replace HX0 := Lib.hid (And.intro (HX0.out.1.keep kb id) (And.intro (HX0.out.2.1.keep kb id) (HX0.out.2.2.keep kb id)))
  have HE : Hid (Calls Tryz.prog 41 #[.slice (some ⟨w4.heap.size, 0, none⟩) 4 4] (w4.alloc (.cells #[askV 106 #[.pointer (some ⟨c0, 0, none⟩), .pointer (some ⟨r0, 0, none⟩), .pointer (some ⟨q0, 0, none⟩)], askV 108 #[.pointer (some ⟨c1, 0, none⟩), .pointer (some ⟨r1, 0, none⟩), .pointer (some ⟨q1, 0, none⟩)], askV 111 #[.pointer (some ⟨c2, 0, none⟩), .pointer (some ⟨r2, 0, none⟩), .pointer (some ⟨q2, 0, none⟩)], askV 112 #[.pointer (some ⟨c3, 0, none⟩), .pointer (some ⟨r3, 0, none⟩), .pointer (some ⟨q3, 0, none⟩)]] 75)) fun e w' => e = .returned (.bool false) ∧ Keep (fun k => k = w.heap.size + 1) (w4.alloc (.cells #[askV 106 #[.pointer (some ⟨c0, 0, none⟩), .pointer (some ⟨r0, 0, none⟩), .pointer (some ⟨q0, 0, none⟩)], askV 108 #[.pointer (some ⟨c1, 0, none⟩), .pointer (some ⟨r1, 0, none⟩), .pointer (some ⟨q1, 0, none⟩)], askV 111 #[.pointer (some ⟨c2, 0, none⟩), .pointer (some ⟨r2, 0, none⟩), .pointer (some ⟨q2, 0, none⟩)], askV 112 #[.pointer (some ⟨c3, 0, none⟩), .pointer (some ⟨r3, 0, none⟩), .pointer (some ⟨q3, 0, none⟩)]] 75)) w') := by
    generalize hwx : w4.alloc (.cells #[askV 106 #[.pointer (some ⟨c0, 0, none⟩), .pointer (some ⟨r0, 0, none⟩), .pointer (some ⟨q0, 0, none⟩)], askV 108 #[.pointer (some ⟨c1, 0, none⟩), .pointer (some ⟨r1, 0, none⟩), .pointer (some ⟨q1, 0, none⟩)], askV 111 #[.pointer (some ⟨c2, 0, none⟩), .pointer (some ⟨r2, 0, none⟩), .pointer (some ⟨q2, 0, none⟩)], askV 112 #[.pointer (some ⟨c3, 0, none⟩), .pointer (some ⟨r3, 0, none⟩), .pointer (some ⟨q3, 0, none⟩)]] 75) = wx at *
    refine (every_any (some ⟨w4.heap.size, 0, none⟩) [(106, #[.pointer (some ⟨c0, 0, none⟩), .pointer (some ⟨r0, 0, none⟩), .pointer (some ⟨q0, 0, none⟩)]), (108, #[.pointer (some ⟨c1, 0, none⟩), .pointer (some ⟨r1, 0, none⟩), .pointer (some ⟨q1, 0, none⟩)]), (111, #[.pointer (some ⟨c2, 0, none⟩), .pointer (some ⟨r2, 0, none⟩), .pointer (some ⟨q2, 0, none⟩)]), (112, #[.pointer (some ⟨c3, 0, none⟩), .pointer (some ⟨r3, 0, none⟩), .pointer (some ⟨q3, 0, none⟩)])] 4 4 wx rfl (by decide) (fun _ => false)
      (fun i W => i = 0 ∧ W = wx) (fun W => Keep (fun k => k = w.heap.size + 1) wx W) ?hcf ?hr ?hq ⟨rfl, rfl⟩).mono ?_
    case hcf =>
      intro q hq
      simp only [List.mem_cons, List.not_mem_nil, or_false] at hq
      rcases hq with rfl | rfl | rfl | rfl
      · exact enters_of Tryz.func106 (by kernel_rfl) rfl
      · exact enters_of Tryz.func108 (by kernel_rfl) rfl
      · exact enters_of Tryz.func111 (by kernel_rfl) rfl
      · exact enters_of Tryz.func112 (by kernel_rfl) rfl
    case hr =>
      rintro i W ⟨_, rfl⟩ _
      refine ⟨w4.heap.size, 0, rfl, fun j u hu => ?_⟩
      rw [Nat.zero_add, bb.cell j]
      simpa using hu
    case hq =>
      rintro i hi W ⟨rfl, rfl⟩
      refine (readStr_any 52 (enters_of Tryz.func52 (by kernel_rfl) rfl) NoB none c0 r0 q0 (w.heap.size + 1) nilV W HX0.out.1 HX0.out.2.1 HX0.out.2.2 HF.out id id (fun _ E _ => E = 1) (decName_nil W)).mono ?_
      rintro e W' ⟨x, E, w1', rfl, rfl, k1, rfl⟩
      exact ⟨rfl, (fun h => (by cases h)), fun _ => (k1.mono (fun _ hf _ => hf.elim)).trans (keep_one w1' (w.heap.size + 1) 0 (.string x)) (fun _ h _ => h)⟩
    rintro e W' (⟨rfl, h, _⟩ | ⟨rfl, _, hK⟩)
    · exact absurd (h 0 (by decide)) (by decide)
    · exact ⟨rfl, hK⟩
  clear bb HX0 HF kb
  unfold askV at HE gK HZ
  go_wp2_with fail
  refine HE.out.mono ?_
  rintro e w5 ⟨rfl, k5⟩
  have bz6 := HZ.out.keep k5 (fun e => by omega)
  have HK := Lib.hid ((gK.trans k5 (fun k e hk => by omega)).trans (keep_at5 w5 w.heap.size nilV) (fun k e hk => by omega))
  obtain ⟨z0, z1, z2, z3, z4⟩ := blk5 (v := nilV) bz6
  have fz := fun i => bz6.frozen i
  have HB := Lib.hid (blk_put5 bz6 nilV)
  unfold nilV at z0 z1 z2 z3 z4
  dsimp only at z0 z1 z2 z3 z4
  clear bz6 HE HZ gK k5 gs hsz
  go_wp2
  refine bodyPost_ret (ret_funE (v := nilV) rfl rfl HB.out rfl) rfl ?_
  exact ⟨rfl, HK.out⟩

end Go.Proofs.YtbnekeomdhljhaaGreatDoor.F

namespace Go.Proofs.YtbnekeomdhljhaaGreatDoor.F
open Go.RowKit W

set_option maxRecDepth 100000 in
set_option maxHeartbeats 8000000 in
theorem equalI_any (A B : Option Addr) (la lb : List C.I3) (n m c d : Nat) (w : World) (ha : Rd w A (C.iis la)) (hb : Rd w B (C.iis lb)) (hn : Hid (la.length = n)) (hm : Hid (lb.length = m))
    (h1 : n ≤ 9223372036854775807) (h2 : m ≤ 9223372036854775807) (R : Bool) (hR : Hid (R = decide (la = lb))) :
    Calls Tryz.prog 82 #[.slice A n c, .slice B m d] w fun e w' => e = .returned (.bool R) ∧ Keep NoB w w' := by
  by_cases hnm : n = m
  · subst hnm
    go_enter Tryz.func82, Tryz.ntmps82
    go_wp2
    go_loopw [13] (fun i wr => ∃ k : Nat, k ≤ n ∧ i = .int .i64 k ∧ Hid (la.take k = lb.take k) ∧ Keep NoB w wr) (fun i _ => n - (intOf i).toNat)
    case atStart => exact ⟨0, Nat.zero_le _, rfl, rfl, Keep.refl _ _⟩
    case round =>
      obtain ⟨k, hk, rfl, ht, hK⟩ := hrel
      by_cases hlt : k < n
      · have hka : k < la.length := by rw [hn.out]; exact hlt
        have hkb : k < lb.length := by rw [hm.out]; exact hlt
        obtain ⟨ga, oa, rfl, hca⟩ := C.rdJ_at ha (by omega)
        obtain ⟨gb, ob, rfl, hcb⟩ := C.rdJ_at hb (by omega)
        have ca0 := hK.cell (hca k hka).1 id
        have ca1 := hK.cell (hca k hka).2.1 id
        have ca2 := hK.cell (hca k hka).2.2 id
        have cb0 := hK.cell (hcb k hkb).1 id
        have cb1 := hK.cell (hcb k hkb).2.1 id
        have cb2 := hK.cell (hcb k hkb).2.2 id
        have HT := Lib.hid (show la.take (k + 1) = la.take k ++ [la[k]] from List.take_succ_eq_append_getElem hka)
        have HU := Lib.hid (show lb.take (k + 1) = lb.take k ++ [lb[k]] from List.take_succ_eq_append_getElem hkb)
        clear hca hcb
        by_cases he : la[k] = lb[k]
        · have HV : Hid (la.take (k + 1) = lb.take (k + 1)) := by show _ = _; rw [HT.out, HU.out, ht.out, he]
          rw [he] at ca0 ca1 ca2
          clear he HT HU ha hb
          generalize lb[k] = y at ca0 ca1 ca2 cb0 cb1 cb2
          obtain ⟨y0, y1, y2⟩ := y
          dsimp only at ca0 ca1 ca2 cb0 cb1 cb2
          go_wp2
          go_quiet (fail)
          go_wp2
          go_roundw
          case rel => exact ⟨k + 1, by omega, by go_num, HV, hK.drewN _⟩
          case measure => simp [intOf]; omega
        · have hf : R = false := by
            rw [hR.out, decide_eq_false_iff_not]
            intro e
            exact he (by simp [e])
          subst hf
          clear HT HU ha hb
          generalize la[k] = x at ca0 ca1 ca2 he
          generalize lb[k] = y at cb0 cb1 cb2 he
          obtain ⟨x0, x1, x2⟩ := x
          obtain ⟨y0, y1, y2⟩ := y
          dsimp only at ca0 ca1 ca2 cb0 cb1 cb2
          by_cases h0 : x0 = y0
          · subst h0
            by_cases h3 : x1 = y1
            · subst h3
              have hne : (x2 == y2) = false := by rw [beq_eq_false_iff_ne]; rintro rfl; exact he rfl
              clear he
              go_wp2
              go_quiet (fail)
              go_wp2
              go_ret
              exact ⟨rfl, hK.drewN _⟩
            · have hne : (x1 == y1) = false := by rw [beq_eq_false_iff_ne]; exact h3
              clear he h3
              go_wp2
              go_quiet (fail)
              go_wp2
              go_ret
              exact ⟨rfl, hK.drewN _⟩
          · have hne : (x0 == y0) = false := by rw [beq_eq_false_iff_ne]; exact h0
            clear he h0
            go_wp2
            go_quiet (fail)
            go_wp2
            go_ret
            exact ⟨rfl, hK.drewN _⟩
      · have hf : R = true := by
          rw [hR.out, decide_eq_true_iff]
          have e1 := ht.out
          rwa [List.take_of_length_le (by rw [hn.out]; omega), List.take_of_length_le (by rw [hm.out]; omega)] at e1
        subst hf
        go_wp2
        go_ret
        exact ⟨rfl, hK⟩
  · have hf : R = false := by
      rw [hR.out, decide_eq_false_iff_not]
      intro e
      exact hnm (by rw [← hn.out, ← hm.out, e])
    subst hf
    have hne : ((n : Int) != (m : Int)) = true := by rw [bne_iff_ne]; omega
    clear hnm
    go_enter Tryz.func82, Tryz.ntmps82
    go_wp2
    go_ret
    exact ⟨rfl, Keep.refl _ _⟩

theorem retB {a b : Bool} (h : a = b) : Ending.returned (.bool a) = .returned (.bool b) := by rw [h]
theorem same_bits (f g : Fu) : sameF f g = (decide (f.nm = g.nm) && (decide (f.ar = g.ar ∧ f.rs = g.rs) && (decide (f.lc = g.lc) && decide (f.bd = g.bd)))) := by
  unfold sameF
  simp only [Bool.decide_and]
theorem name_eq {S T : ByteArray} {s t : List UInt8} (hS : S.data.toList = s) (hT : T.data.toList = t) : (S.toList == T.toList) = decide (s = t) := by
  subst hS hT
  rw [ByteArray.toList_eq, ByteArray.toList_eq]
  by_cases h : S.data.toList = T.data.toList
  · rw [decide_eq_true h, h]; exact beq_self_eq_true _
  · rw [decide_eq_false h]; exact beq_eq_false_iff_ne.2 h

set_option maxRecDepth 100000 in
set_option maxHeartbeats 8000000 in
theorem sameF_any (v : FV) (f : Fu) (u : FV) (g : Fu) (w : World) (h : FnAt w v f) (h2 : FnAt w u g) (hs : SmF v) (hs2 : SmF u) :
    Calls Tryz.prog 22 #[v.val, u.val] w fun e w' => e = .returned (.bool (sameF f g)) ∧ Keep NoB w w' := by
  have bx := (Blk.new w 27 v.cells).alloc (.cells u.cells 27)
  have by1 := Blk.new (w.alloc (.cells v.cells 27)) 27 u.cells
  have k0 := ((Keep.refl NoB w).alloc (.cells v.cells 27)).alloc (.cells u.cells 27)
  rw [World.size_alloc] at by1
  have HF := Lib.hid (h.keepN k0)
  have HG := Lib.hid (h2.keepN k0)
  have HX := Lib.hid bx
  have HY := Lib.hid by1
  have HR := Lib.hid (same_bits f g)
  have HN := name_eq h.nm h2.nm
  have HS := Lib.hid (fun w1 hk => S.same_any v.A f.ar v.na v.ca v.B f.rs v.nb v.cb u.A g.ar u.na u.ca u.B g.rs u.nb u.cb w1 (HF.out.keepN hk).ra (HF.out.keepN hk).rb (HG.out.keepN hk).ra (HG.out.keepN hk).rb h.la h.lb h2.la h2.lb (by have := hs.na; omega) (by have := hs.nb; omega) (by have := hs2.na; omega) (by have := hs2.nb; omega) _ rfl)
  have HL := Lib.hid (fun w1 hk => S.equal_any v.L u.L f.lc g.lc v.nl u.nl v.cl u.cl w1 (HF.out.keepN hk).rl (HG.out.keepN hk).rl h.ll h2.ll (by have := hs.nl; omega) (by have := hs2.nl; omega) _ rfl)
  have HD := Lib.hid (fun w1 hk => equalI_any v.D u.D f.bd g.bd v.nd u.nd v.cd u.cd w1 (HF.out.keepN hk).rd (HG.out.keepN hk).rd h.ld h2.ld (by have := hs.nd; omega) (by have := hs2.nd; omega) _ rfl)
  generalize sameF f g = R at HR ⊢
  generalize decide (f.nm = g.nm) = b0 at HR HN
  generalize decide (f.ar = g.ar ∧ f.rs = g.rs) = b1 at HR HS
  generalize decide (f.lc = g.lc) = b2 at HR HL
  generalize decide (f.bd = g.bd) = b3 at HR HD
  obtain ⟨s0, A, na, ca, B, nb, cb, L, nl, cl, D, nd, cd⟩ := v
  obtain ⟨s1, A1, na1, ca1, B1, nb1, cb1, L1, nl1, cl1, D1, nd1, cd1⟩ := u
  unfold FV.val FV.cells at *
  dsimp only at HN HS HL HD
  clear h h2 hs hs2 bx by1 HF HG
  cases b0
  · go_enter Tryz.func22, Tryz.ntmps22
    obtain ⟨c0, c1, c2, c3, c4⟩ := blk5 (v := ⟨s0, A, na, ca, B, nb, cb, L, nl, cl, D, nd, cd⟩) HX.out
    obtain ⟨d0, d1, d2, d3, d4⟩ := blk5 (v := ⟨s1, A1, na1, ca1, B1, nb1, cb1, L1, nl1, cl1, D1, nd1, cd1⟩) HY.out
    dsimp only at c0 c1 c2 c3 c4 d0 d1 d2 d3 d4
    go_wp2
    go_ret
    exact ⟨retB HR.out.symm, k0⟩
  · cases b1
    · go_enter Tryz.func22, Tryz.ntmps22
      obtain ⟨c0, c1, c2, c3, c4⟩ := blk5 (v := ⟨s0, A, na, ca, B, nb, cb, L, nl, cl, D, nd, cd⟩) HX.out
      obtain ⟨d0, d1, d2, d3, d4⟩ := blk5 (v := ⟨s1, A1, na1, ca1, B1, nb1, cb1, L1, nl1, cl1, D1, nd1, cd1⟩) HY.out
      dsimp only at c0 c1 c2 c3 c4 d0 d1 d2 d3 d4
      go_wp2_with fail
      refine (HS.out _ (Keep.refl _ _)).mono ?_
      rintro e w1 ⟨rfl, k1⟩
      go_wp2
      go_ret
      exact ⟨retB HR.out.symm, keepN k0 k1⟩
    · cases b2
      · go_enter Tryz.func22, Tryz.ntmps22
        obtain ⟨c0, c1, c2, c3, c4⟩ := blk5 (v := ⟨s0, A, na, ca, B, nb, cb, L, nl, cl, D, nd, cd⟩) HX.out
        obtain ⟨d0, d1, d2, d3, d4⟩ := blk5 (v := ⟨s1, A1, na1, ca1, B1, nb1, cb1, L1, nl1, cl1, D1, nd1, cd1⟩) HY.out
        dsimp only at c0 c1 c2 c3 c4 d0 d1 d2 d3 d4
        go_wp2_with fail
        refine (HS.out _ (Keep.refl _ _)).mono ?_
        rintro e w1 ⟨rfl, k1⟩
        clear c0 c1 c2 c3 c4 d0 d1 d2 d3 d4
        obtain ⟨c0, c1, c2, c3, c4⟩ := blk5 (v := ⟨s0, A, na, ca, B, nb, cb, L, nl, cl, D, nd, cd⟩) (HX.out.keep k1 id)
        obtain ⟨d0, d1, d2, d3, d4⟩ := blk5 (v := ⟨s1, A1, na1, ca1, B1, nb1, cb1, L1, nl1, cl1, D1, nd1, cd1⟩) (HY.out.keep k1 id)
        dsimp only at c0 c1 c2 c3 c4 d0 d1 d2 d3 d4
        go_wp2_with fail
        refine (HL.out _ k1).mono ?_
        rintro e w2 ⟨rfl, k2⟩
        replace k2 := keepN k1 k2
        go_wp2
        go_ret
        exact ⟨retB HR.out.symm, keepN k0 k2⟩
      · cases b3
        · go_enter Tryz.func22, Tryz.ntmps22
          obtain ⟨c0, c1, c2, c3, c4⟩ := blk5 (v := ⟨s0, A, na, ca, B, nb, cb, L, nl, cl, D, nd, cd⟩) HX.out
          obtain ⟨d0, d1, d2, d3, d4⟩ := blk5 (v := ⟨s1, A1, na1, ca1, B1, nb1, cb1, L1, nl1, cl1, D1, nd1, cd1⟩) HY.out
          dsimp only at c0 c1 c2 c3 c4 d0 d1 d2 d3 d4
          go_wp2_with fail
          refine (HS.out _ (Keep.refl _ _)).mono ?_
          rintro e w1 ⟨rfl, k1⟩
          clear c0 c1 c2 c3 c4 d0 d1 d2 d3 d4
          obtain ⟨c0, c1, c2, c3, c4⟩ := blk5 (v := ⟨s0, A, na, ca, B, nb, cb, L, nl, cl, D, nd, cd⟩) (HX.out.keep k1 id)
          obtain ⟨d0, d1, d2, d3, d4⟩ := blk5 (v := ⟨s1, A1, na1, ca1, B1, nb1, cb1, L1, nl1, cl1, D1, nd1, cd1⟩) (HY.out.keep k1 id)
          dsimp only at c0 c1 c2 c3 c4 d0 d1 d2 d3 d4
          go_wp2_with fail
          refine (HL.out _ k1).mono ?_
          rintro e w2 ⟨rfl, k2⟩
          replace k2 := keepN k1 k2
          clear c0 c1 c2 c3 c4 d0 d1 d2 d3 d4
          obtain ⟨c0, c1, c2, c3, c4⟩ := blk5 (v := ⟨s0, A, na, ca, B, nb, cb, L, nl, cl, D, nd, cd⟩) (HX.out.keep k2 id)
          obtain ⟨d0, d1, d2, d3, d4⟩ := blk5 (v := ⟨s1, A1, na1, ca1, B1, nb1, cb1, L1, nl1, cl1, D1, nd1, cd1⟩) (HY.out.keep k2 id)
          dsimp only at c0 c1 c2 c3 c4 d0 d1 d2 d3 d4
          go_wp2_with fail
          refine (HD.out _ k2).mono ?_
          rintro e w3 ⟨rfl, k3⟩
          replace k3 := keepN k2 k3
          go_wp2
          go_ret
          exact ⟨retB HR.out.symm, keepN k0 k3⟩
        · go_enter Tryz.func22, Tryz.ntmps22
          obtain ⟨c0, c1, c2, c3, c4⟩ := blk5 (v := ⟨s0, A, na, ca, B, nb, cb, L, nl, cl, D, nd, cd⟩) HX.out
          obtain ⟨d0, d1, d2, d3, d4⟩ := blk5 (v := ⟨s1, A1, na1, ca1, B1, nb1, cb1, L1, nl1, cl1, D1, nd1, cd1⟩) HY.out
          dsimp only at c0 c1 c2 c3 c4 d0 d1 d2 d3 d4
          go_wp2_with fail
          refine (HS.out _ (Keep.refl _ _)).mono ?_
          rintro e w1 ⟨rfl, k1⟩
          clear c0 c1 c2 c3 c4 d0 d1 d2 d3 d4
          obtain ⟨c0, c1, c2, c3, c4⟩ := blk5 (v := ⟨s0, A, na, ca, B, nb, cb, L, nl, cl, D, nd, cd⟩) (HX.out.keep k1 id)
          obtain ⟨d0, d1, d2, d3, d4⟩ := blk5 (v := ⟨s1, A1, na1, ca1, B1, nb1, cb1, L1, nl1, cl1, D1, nd1, cd1⟩) (HY.out.keep k1 id)
          dsimp only at c0 c1 c2 c3 c4 d0 d1 d2 d3 d4
          go_wp2_with fail
          refine (HL.out _ k1).mono ?_
          rintro e w2 ⟨rfl, k2⟩
          replace k2 := keepN k1 k2
          clear c0 c1 c2 c3 c4 d0 d1 d2 d3 d4
          obtain ⟨c0, c1, c2, c3, c4⟩ := blk5 (v := ⟨s0, A, na, ca, B, nb, cb, L, nl, cl, D, nd, cd⟩) (HX.out.keep k2 id)
          obtain ⟨d0, d1, d2, d3, d4⟩ := blk5 (v := ⟨s1, A1, na1, ca1, B1, nb1, cb1, L1, nl1, cl1, D1, nd1, cd1⟩) (HY.out.keep k2 id)
          dsimp only at c0 c1 c2 c3 c4 d0 d1 d2 d3 d4
          go_wp2_with fail
          refine (HD.out _ k2).mono ?_
          rintro e w3 ⟨rfl, k3⟩
          replace k3 := keepN k2 k3
          go_wp2
          go_ret
          exact ⟨retB HR.out.symm, keepN k0 k3⟩

set_option maxRecDepth 100000 in
set_option maxHeartbeats 8000000 in
theorem rsameF_any (v : FV) (f : Fu) (u : FV) (g : Fu) (w : World) (h : FnAt w v f) (h2 : FnAt w u g) (hs : SmF v) (hs2 : SmF u) :
    Calls Tryz.prog 20 #[v.val, u.val] w fun e w' => e = .returned (.bool (sameF f g)) ∧ Keep NoB w w' := by
  have bx := (Blk.new w 27 v.cells).alloc (.cells u.cells 27)
  have by1 := Blk.new (w.alloc (.cells v.cells 27)) 27 u.cells
  have k0 := ((Keep.refl NoB w).alloc (.cells v.cells 27)).alloc (.cells u.cells 27)
  rw [World.size_alloc] at by1
  have HF := Lib.hid (h.keepN k0)
  have HG := Lib.hid (h2.keepN k0)
  have HX := Lib.hid bx
  have HY := Lib.hid by1
  have HR := Lib.hid (same_bits f g)
  have HN := name_eq h.nm h2.nm
  have HS := Lib.hid (fun w1 hk => S.rsame_any v.A f.ar v.na v.ca v.B f.rs v.nb v.cb u.A g.ar u.na u.ca u.B g.rs u.nb u.cb w1 (HF.out.keepN hk).ra (HF.out.keepN hk).rb (HG.out.keepN hk).ra (HG.out.keepN hk).rb h.la h.lb h2.la h2.lb (by have := hs.na; omega) (by have := hs.nb; omega) (by have := hs2.na; omega) (by have := hs2.nb; omega) _ rfl)
  have HL := Lib.hid (fun w1 hk => ints_any v.L u.L f.lc g.lc v.nl u.nl v.cl u.cl w1 (HF.out.keepN hk).rl (HG.out.keepN hk).rl h.ll h2.ll (by have := hs.nl; omega) (by have := hs2.nl; omega) _ rfl)
  have HD := Lib.hid (fun w1 hk => C.lists_any v.D u.D f.bd g.bd v.nd u.nd v.cd u.cd w1 (HF.out.keepN hk).rd (HG.out.keepN hk).rd h.ld h2.ld (by have := hs.nd; omega) (by have := hs2.nd; omega) _ rfl)
  generalize sameF f g = R at HR ⊢
  generalize decide (f.nm = g.nm) = b0 at HR HN
  generalize decide (f.ar = g.ar ∧ f.rs = g.rs) = b1 at HR HS
  generalize decide (f.lc = g.lc) = b2 at HR HL
  generalize decide (f.bd = g.bd) = b3 at HR HD
  obtain ⟨s0, A, na, ca, B, nb, cb, L, nl, cl, D, nd, cd⟩ := v
  obtain ⟨s1, A1, na1, ca1, B1, nb1, cb1, L1, nl1, cl1, D1, nd1, cd1⟩ := u
  unfold FV.val FV.cells at *
  dsimp only at HN HS HL HD
  clear h h2 hs hs2 bx by1 HF HG
  cases b0 <;> cases b1 <;> cases b2 <;> cases b3
  all_goals
    go_enter Tryz.func20, Tryz.ntmps20
    obtain ⟨c0, c1, c2, c3, c4⟩ := blk5 (v := ⟨s0, A, na, ca, B, nb, cb, L, nl, cl, D, nd, cd⟩) HX.out
    obtain ⟨d0, d1, d2, d3, d4⟩ := blk5 (v := ⟨s1, A1, na1, ca1, B1, nb1, cb1, L1, nl1, cl1, D1, nd1, cd1⟩) HY.out
    dsimp only at c0 c1 c2 c3 c4 d0 d1 d2 d3 d4
    go_wp2_with fail
    refine (HS.out _ (Keep.refl _ _)).mono ?_
    rintro e w1 ⟨rfl, k1⟩
    clear c0 c1 c2 c3 c4 d0 d1 d2 d3 d4
    obtain ⟨c0, c1, c2, c3, c4⟩ := blk5 (v := ⟨s0, A, na, ca, B, nb, cb, L, nl, cl, D, nd, cd⟩) (HX.out.keep k1 id)
    obtain ⟨d0, d1, d2, d3, d4⟩ := blk5 (v := ⟨s1, A1, na1, ca1, B1, nb1, cb1, L1, nl1, cl1, D1, nd1, cd1⟩) (HY.out.keep k1 id)
    dsimp only at c0 c1 c2 c3 c4 d0 d1 d2 d3 d4
    go_wp2_with fail
    refine (HL.out _ k1).mono ?_
    rintro e w2 ⟨rfl, k2⟩
    replace k2 := keepN k1 k2
    clear c0 c1 c2 c3 c4 d0 d1 d2 d3 d4
    obtain ⟨c0, c1, c2, c3, c4⟩ := blk5 (v := ⟨s0, A, na, ca, B, nb, cb, L, nl, cl, D, nd, cd⟩) (HX.out.keep k2 id)
    obtain ⟨d0, d1, d2, d3, d4⟩ := blk5 (v := ⟨s1, A1, na1, ca1, B1, nb1, cb1, L1, nl1, cl1, D1, nd1, cd1⟩) (HY.out.keep k2 id)
    dsimp only at c0 c1 c2 c3 c4 d0 d1 d2 d3 d4
    go_wp2_with fail
    refine (HD.out _ k2).mono ?_
    rintro e w3 ⟨rfl, k3⟩
    replace k3 := keepN k2 k3
    clear c0 c1 c2 c3 c4 d0 d1 d2 d3 d4
    obtain ⟨c0, c1, c2, c3, c4⟩ := blk5 (v := ⟨s0, A, na, ca, B, nb, cb, L, nl, cl, D, nd, cd⟩) (HX.out.keep k3 id)
    obtain ⟨d0, d1, d2, d3, d4⟩ := blk5 (v := ⟨s1, A1, na1, ca1, B1, nb1, cb1, L1, nl1, cl1, D1, nd1, cd1⟩) (HY.out.keep k3 id)
    dsimp only at c0 c1 c2 c3 c4 d0 d1 d2 d3 d4
    go_wp2
    go_ret
    exact ⟨retB HR.out.symm, keepN k0 k3⟩

end Go.Proofs.YtbnekeomdhljhaaGreatDoor.F

namespace Go.Proofs.YtbnekeomdhljhaaGreatDoor
open Go.RowKit
section
variable {P : Program} {md : Region.Mode} {ops : Array Oper}

/-- Each number ahead of j has one behind it, up to j. -/
def allBehind (md : Region.Mode) (ops : Array Oper) (j : Nat) : Bool := (List.range j).all fun i => (List.range (j + 1)).any fun k => decide (i < k) && match ops[k]? with
  | none => false
  | some o => o.after.any fun e => Region.binds md e && e.on == i
/-- So it is with all from m on. -/
def tailG (md : Region.Mode) (ops : Array Oper) (m : Nat) : Bool := (List.range ops.size).all fun j => decide (j < m) || allBehind md ops j
/-- The first m write each a slot of its own, and stand behind earlier ones alone. -/
def headG (ops : Array Oper) (ds : Nat → Nat) (m : Nat) : Bool := (List.range m).all fun i => match ops[i]? with
  | none => false
  | some o => o.dst == some (ds i) && ((o.after.all fun e => decide (e.on < i)) && (List.range m).all fun j => i == j || !(ds i == ds j))
def onlyB (ops : Array Oper) : Bool := (List.range ops.size).all fun i => match ops[i]? with
  | none => false
  | some o => o.after.all fun e => decide (e.on < i)
theorem onlyB_at (h : onlyB ops = true) {i : Nat} {o : Oper} (ho : ops[i]? = some o) : ∀ e ∈ o.after, e.on < i := by
  have hi := (Array.getElem?_eq_some_iff.1 ho).1
  have h1 := List.all_eq_true.1 h i (List.mem_range.2 hi)
  simp only [ho] at h1
  intro e he
  have := Array.all_eq_true_iff_forall_mem.1 h1 e he
  simpa using this
theorem headG_at {ds : Nat → Nat} {m : Nat} (h : headG ops ds m = true) {i : Nat} (hi : i < m) {o : Oper} (ho : ops[i]? = some o) : o.dst = some (ds i) ∧ ∀ j, j < m → j ≠ i → ds j ≠ ds i := by
  have h1 := List.all_eq_true.1 h i (List.mem_range.2 hi)
  simp only [ho, Bool.and_eq_true] at h1
  obtain ⟨h1, _, h4⟩ := h1
  refine ⟨by simpa using h1, fun j hj hne e => ?_⟩
  have h5 := List.all_eq_true.1 h4 j (List.mem_range.2 hj)
  rw [e] at h5
  simp at h5
  exact hne h5.symm
/-- What is listed has all listed that it stands behind. -/
def Closed (md : Region.Mode) (ops : Array Oper) (listed : Array Bool) : Prop := ∀ k o, ops[k]? = some o → listed.getD k true = true → ∀ e ∈ o.after, Region.binds md e = true → listed.getD e.on true = true
theorem behind_all {j : Nat} (h : allBehind md ops j = true) {listed : Array Bool} (hC : Closed md ops listed) {o : Oper} (ho : ops[j]? = some o) (hr : ∀ e ∈ o.after, Region.binds md e = true → listed.getD e.on true = true) : ∀ i, i < j → listed.getD i true = true := by
  have key : ∀ d i, i + d = j → 0 < d → listed.getD i true = true := by
    intro d
    induction d using Nat.strongRecOn with
    | ind d ih =>
      intro i hd h0
      have h1 := List.all_eq_true.1 h i (List.mem_range.2 (by omega))
      obtain ⟨k, hk, h2⟩ := List.any_eq_true.1 h1
      have hk' := List.mem_range.1 hk
      simp only [Bool.and_eq_true, decide_eq_true_eq] at h2
      obtain ⟨hik, h3⟩ := h2
      cases hok : ops[k]? with
      | none => rw [hok] at h3; cases h3
      | some q =>
        rw [hok] at h3
        obtain ⟨x, hx, h4⟩ := Array.any_eq_true.1 h3
        simp only [Bool.and_eq_true, beq_iff_eq] at h4
        obtain ⟨hb, hon⟩ := h4
        by_cases e : k = j
        · subst e
          rw [ho] at hok
          injection hok with hok
          subst hok
          have := hr _ (Array.getElem_mem hx) hb
          rw [hon] at this; exact this
        · have hk2 := ih (j - k) (by omega) k (by omega) (by omega)
          have := hC k q hok hk2 _ (Array.getElem_mem hx) hb
          rw [hon] at this; exact this
  intro i hi
  exact key (j - i) i (by omega) (by omega)
theorem getD_set_self {listed : Array Bool} {i : Nat} (h : i < listed.size) : (listed.setIfInBounds i true).getD i true = true := by simp [h]
theorem getD_set_up {listed : Array Bool} {i n : Nat} (h : listed.getD n true = true) : (listed.setIfInBounds i true).getD n true = true := by
  by_cases e : i = n
  · subst e
    by_cases h5 : i < listed.size
    · simp [h5]
    · simp [h5]
  · rw [getD_set_ne true e]; exact h
theorem closed_set {listed : Array Bool} (hC : Closed md ops listed) {i : Nat} {o : Oper} (ho : ops[i]? = some o) (hr : ∀ e ∈ o.after, Region.binds md e = true → listed.getD e.on true = true) : Closed md ops (listed.setIfInBounds i true) := by
  intro k q hq hl e he hb
  by_cases ek : k = i
  · subst ek
    rw [ho] at hq
    injection hq with hq
    subst hq
    exact getD_set_up (hr e he hb)
  · rw [getD_set_ne true (Ne.symm ek)] at hl
    exact getD_set_up (hC k q hq hl e he hb)
theorem ready_getD {listed : Array Bool} (hB : onlyB ops = true) (hs : listed.size = ops.size) {i : Nat} {o : Oper} (ho : ops[i]? = some o) (hall : ∀ e ∈ o.after, Region.binds md e = true → listed.getD e.on false = true) : ∀ e ∈ o.after, Region.binds md e = true → listed.getD e.on true = true := by
  intro e he hb
  have h2 := hall e he hb
  have h3 := onlyB_at hB ho e he
  have h5 := (Array.getElem?_eq_some_iff.1 ho).1
  have h4 : e.on < listed.size := by omega
  simpa [h4] using h2

/-- The last ones, in their order. -/
theorem wpAny_chain {Q : Exit → Act → World → Prop} {m : Nat} (hB : onlyB ops = true) (hT : tailG md ops m = true) : ∀ (fuel j : Nat) (listed : Array Bool) (a : Act) (w : World), m ≤ j → listed.size = ops.size → ops.size ≤ j + fuel → Closed md ops listed →
    (∀ i, i < j → listed.getD i true = true) → (∀ i, j ≤ i → i < ops.size → listed.getD i true = false) → wpList P ops Q (ops.toList.drop j) a w → wpAny P md ops Q fuel listed a w := by
  intro fuel
  induction fuel with
  | zero =>
    intro j listed a w hm hs hf hC h1 h2 h
    rw [List.drop_eq_nil_of_le (by simpa using hf)] at h
    refine ⟨?_, h⟩
    rw [List.eq_nil_iff_forall_not_mem]
    intro i hi
    obtain ⟨hl, o, ho, _⟩ := mem_ready.1 hi
    rw [h1 i (by have := (Array.getElem?_eq_some_iff.1 ho).1; omega)] at hl; cases hl
  | succ fuel ih =>
    intro j listed a w hm hs hf hC h1 h2 h
    refine ⟨fun h0 => ?_, fun i hi => ?_⟩
    · by_cases hj : j < ops.size
      · have ho : ops[j]? = some ops[j] := Array.getElem?_eq_getElem hj
        have : j ∈ Region.ready md ops listed := mem_ready.2 ⟨h2 j (Nat.le_refl _) hj, ops[j], ho, fun e he _ => by
          have h3 := onlyB_at hB ho e he
          have h4 := h1 e.on h3
          have h5 : e.on < listed.size := by omega
          simpa [h5] using h4⟩
        rw [h0] at this; cases this
      · rw [List.drop_eq_nil_of_le (by simpa using hj)] at h
        exact h
    · obtain ⟨hl, o, ho, hall⟩ := mem_ready.1 hi
      have hi' := (Array.getElem?_eq_some_iff.1 ho).1
      have hr := ready_getD (listed := listed) hB hs ho (fun e he hb => hall e he hb)
      have hji : j ≤ i := by
        rcases Nat.lt_or_ge i j with h5 | h5
        · rw [h1 i h5] at hl; cases hl
        · exact h5
      have hb := List.all_eq_true.1 hT i (List.mem_range.2 hi')
      simp only [Bool.or_eq_true, decide_eq_true_eq] at hb
      have hb : allBehind md ops i = true := hb.resolve_left (by omega)
      have hlt := behind_all hb hC ho hr
      obtain rfl : i = j := by
        rcases Nat.lt_or_eq_of_le hji with h5 | h5
        · have := hlt j h5
          rw [h2 j (Nat.le_refl _) (by omega)] at this; cases this
        · exact h5.symm
      have hd : ops.toList.drop i = o :: ops.toList.drop (i + 1) := by
        have hi2 : i < ops.toList.length := by simpa using hi'
        rw [List.drop_eq_getElem_cons hi2]
        congr 1
        have := (Array.getElem?_eq_some_iff.1 ho).2
        simpa using this
      rw [hd] at h
      have hK : ∀ (a' : Act) (w' : World), wpList P ops Q (ops.toList.drop (i + 1)) a' w' → wpAny P md ops Q fuel (listed.setIfInBounds i true) a' w' := fun a' w' h' =>
        ih (i + 1) _ a' w' (by omega) (by simpa using hs) (by omega) (closed_set hC ho hr) (fun k hk => by
          rcases Nat.lt_succ_iff_lt_or_eq.1 hk with h5 | rfl
          · exact getD_set_up (h1 k h5)
          · exact getD_set_self (by omega)) (fun k hk1 hk2 => by rw [getD_set_ne true (by omega)]; exact h2 k (by omega) hk2) h'
      unfold wpOp
      simp only [ho]
      unfold wpList at h
      split
      · rename_i hw
        rw [if_pos hw] at h
        rcases h with h | h
        · exact .inl (Oper.wp_mono hK h)
        · exact .inr h
      · rename_i hw
        rw [if_neg hw] at h
        exact hK _ _ h

theorem wpAny_tail {Q : Exit → Act → World → Prop} (ds : Nat → Nat) (m : Nat) (hm : m ≤ ops.size) (hO : onlyB ops = true) (hB : headG ops ds m = true) (hT : tailG md ops m = true) (S : Nat → Value → World → Prop) (hS : ∀ i v w w', S i v w → Keep NoB w w' → S i v w') (w0 : World) (a0 : Act) (hsz : fitsD ops ds a0.tmps.size = true)
    (hstep : ∀ i o (a : Act) (w : World), ops[i]? = some o → i < m → FrameD a0 ds m a → Keep NoB w0 w → (∀ e ∈ o.after, Region.binds md e = true → S e.on (a.tmps.getD (ds e.on) undef) w) → Does P ops o a w fun u w' => S i u w' ∧ Keep NoB w w')
    (hend : ∀ (a : Act) (w : World), FrameD a0 ds m a → Keep NoB w0 w → (∀ i, i < m → S i (a.tmps.getD (ds i) undef) w) → wpList P ops Q (ops.toList.drop m) a w) :
    ∀ (fuel : Nat) (listed : Array Bool) (a : Act) (w : World), listed.size = ops.size → (∃ L : List Nat, L.length + (ops.size - m) ≤ fuel ∧ ∀ i, i < m → listed.getD i true = false → i ∈ L) → Closed md ops listed → (∀ i, m ≤ i → i < ops.size → listed.getD i true = false) → FrameD a0 ds m a → Keep NoB w0 w →
      (∀ i, i < m → listed.getD i true = true → S i (a.tmps.getD (ds i) undef) w) → wpAny P md ops Q fuel listed a w := by
  intro fuel
  induction fuel with
  | zero =>
    intro listed a w hs ⟨L, hL, hin⟩ hC hN hF hK hA
    have hall : ∀ i, i < m → listed.getD i true = true := fun i hi => by
      cases h : listed.getD i true
      · have := hin i hi h
        rw [List.length_eq_zero_iff.1 (by omega : L.length = 0)] at this; cases this
      · rfl
    exact wpAny_chain hO hT 0 m listed a w (Nat.le_refl _) hs (by omega) hC hall hN (hend a w hF hK fun i hi => hA i hi (hall i hi))
  | succ fuel ih =>
    intro listed a w hs ⟨L, hL, hin⟩ hC hN hF hK hA
    by_cases hdone : ∀ i, i < m → listed.getD i true = true
    · exact wpAny_chain hO hT (fuel + 1) m listed a w (Nat.le_refl _) hs (by omega) hC hdone hN (hend a w hF hK fun i hi => hA i hi (hdone i hi))
    refine ⟨fun h0 => ?_, fun i hi => ?_⟩
    · refine absurd (fun i => ?_) hdone
      induction i using Nat.strongRecOn with
      | ind i ih2 =>
        intro hi
        cases hl : listed.getD i true
        · have hio : i < ops.size := by omega
          have ho : ops[i]? = some ops[i] := Array.getElem?_eq_getElem hio
          have : i ∈ Region.ready md ops listed := mem_ready.2 ⟨hl, ops[i], ho, fun e he _ => by
            have h3 := onlyB_at hO ho e he
            have h4 := ih2 e.on h3 (by omega)
            have h5 : e.on < listed.size := by omega
            simpa [h5] using h4⟩
          rw [h0] at this; cases this
        · rfl
    · obtain ⟨h1, o, ho, hall⟩ := mem_ready.1 hi
      have hi' := (Array.getElem?_eq_some_iff.1 ho).1
      have hr := ready_getD (listed := listed) hO hs ho (fun e he hb => hall e he hb)
      have him : i < m := by
        rcases Nat.lt_or_ge i m with h5 | h5
        · exact h5
        · have hb := List.all_eq_true.1 hT i (List.mem_range.2 hi')
          simp only [Bool.or_eq_true, decide_eq_true_eq] at hb
          have hb : allBehind md ops i = true := hb.resolve_left (by omega)
          exact absurd (fun k hk => behind_all hb hC ho hr k (by omega)) hdone
      obtain ⟨hd, hdis⟩ := headG_at hB him ho
      have hdoes := hstep i o a w ho him hF hK fun e he hb => hA e.on (by have := onlyB_at hO ho e he; omega) (hr e he hb)
      have hnext : ∀ u w', S i u w' → Keep NoB w w' → wpAny P md ops Q fuel (listed.setIfInBounds i true) (a.put o.dst u) w' := by
        intro u w' hSu hk
        rw [hd]
        have hds : ds i < a.tmps.size := by rw [hF.2.1]; exact fitsD_at hsz ho hd
        have hget : ∀ s, (a.put (some (ds i)) u).tmps.getD s undef = if s = ds i then u else a.tmps.getD s undef := fun s => by
          unfold Act.put
          by_cases e : s = ds i
          · subst e; simp [hds]
          · rw [if_neg e]
            simp only [Array.getD_eq_getD_getElem?, Array.getElem?_setIfInBounds]
            rw [if_neg (fun h => e h.symm)]
        refine ih (listed.setIfInBounds i true) _ w' (by simpa using hs) ⟨L.erase i, ?_, fun k hk' hl => ?_⟩ (closed_set hC ho hr) (fun k hk1 hk2 => by rw [getD_set_ne true (by omega)]; exact hN k hk1 hk2) ⟨hF.1, by unfold Act.put; simpa using hF.2.1, fun s hs' => by rw [hget, if_neg (hs' i him)]; exact hF.2.2 s hs'⟩ (keepN hK hk) fun k hk' hl => ?_
        · have hmem := hin i him h1
          have hpos := List.length_pos_of_mem hmem
          rw [List.length_erase_of_mem hmem]; omega
        · have hki : k ≠ i := by
            rintro rfl
            rw [getD_set_self (by omega)] at hl; cases hl
          rw [getD_set_ne true (Ne.symm hki)] at hl
          exact (List.mem_erase_of_ne hki).2 (hin k hk' hl)
        · by_cases e : k = i
          · subst e
            rw [hget, if_pos rfl]; exact hSu
          · rw [hget, if_neg (hdis k hk' e)]
            exact hS k _ _ _ (hA k hk' (by rw [getD_set_ne true (Ne.symm e)] at hl; exact hl)) hk
      unfold wpOp
      simp only [ho]
      rcases hdoes with ⟨hw, hy⟩ | ⟨hw, h2, h3⟩
      · rw [if_pos hw]
        exact .inl (Oper.wp_of_yields hy fun u w' ⟨h2, h3⟩ => hnext u w' h2 h3)
      · rw [if_neg (by rw [hw]; decide)]
        exact hnext undef w h2 h3
theorem wp_region_tail {id : Nat} {Q : Exit → Act → World → Prop} {a0 : Act} {w : World} (ds : Nat → Nat) (m : Nat) (hf : P.follows .mixedOrders = true) (hm : decide (m ≤ ops.size) = true) (hO : onlyB ops = true) (hB : headG ops ds m = true) (hT : tailG .any ops m = true) (S : Nat → Value → World → Prop) (hS : ∀ i v w1 w', S i v w1 → Keep NoB w1 w' → S i v w') (hsz : fitsD ops ds a0.tmps.size = true)
    (hstep : ∀ i o (a : Act) (w' : World), ops[i]? = some o → i < m → FrameD a0 ds m a → Keep NoB w w' → (∀ e ∈ o.after, Region.binds .any e = true → S e.on (a.tmps.getD (ds e.on) undef) w') → Does P ops o a w' fun u w'' => S i u w'' ∧ Keep NoB w' w'')
    (hend : ∀ (a : Act) (w' : World), FrameD a0 ds m a → Keep NoB w w' → (∀ i, i < m → S i (a.tmps.getD (ds i) undef) w') → wpList P ops Q (ops.toList.drop m) a w') : (Code.region id ops true).wp P Q a0 w :=
  have hm := of_decide_eq_true hm
  wp_region_any hf (wpAny_tail ds m hm hO hB hT S hS w a0 hsz hstep hend _ _ a0 w.drew (by simp) ⟨List.range m, by simp; omega, fun i hi _ => List.mem_range.2 hi⟩ (fun k o hk hl => by
    have := (Array.getElem?_eq_some_iff.1 hk).1
    simp [this] at hl) (fun i _ hi => by simp [hi]) ⟨rfl, rfl, fun _ _ => rfl⟩ (Keep.refl NoB w).drew fun i hi hl => by
    have : i < ops.size := by omega
    simp [this] at hl)
end
end Go.Proofs.YtbnekeomdhljhaaGreatDoor

namespace Go.Proofs.YtbnekeomdhljhaaGreatDoor.F
open Go.RowKit W

/-- What the values are that the document's Copy's region yields. -/
def SQ (v : FV) (f : Fu) (x m : Nat) : Nat → Value → World → Prop
  | 0 => fun u _ => u = .pointer (some ⟨x, 0, none⟩)
  | 1 => fun u _ => u = .string v.S
  | 2 => fun u _ => u = .pointer (some ⟨x, 1, none⟩)
  | 3 => fun u _ => u = .agg #[.slice v.A v.na v.ca, .slice v.B v.nb v.cb]
  | 4 => fun u w => ∃ A c B d, u = .agg #[.slice A v.na c, .slice B v.nb d] ∧ Own w 3 1 (fun k => m ≤ k) (.slice A v.na c) v.na (ivs f.ar) ∧ Own w 3 1 (fun k => m ≤ k) (.slice B v.nb d) v.nb (ivs f.rs)
  | 5 => fun u w => ∃ A c B d, u = .agg #[.string v.S, .slice A v.na c, .slice B v.nb d, .slice none 0 0, .slice none 0 0] ∧ Own w 3 1 (fun k => m ≤ k) (.slice A v.na c) v.na (ivs f.ar) ∧ Own w 3 1 (fun k => m ≤ k) (.slice B v.nb d) v.nb (ivs f.rs)
  | 6 => fun u w => ∃ g, u = .pointer (some ⟨g, 0, none⟩) ∧ m ≤ g ∧ Blk w g 27 #[.string ⟨#[]⟩, .slice none 0 0, .slice none 0 0, .slice none 0 0, .slice none 0 0]
  | _ => fun _ _ => True
theorem SQ_stable (v : FV) (f : Fu) (x m : Nat) : ∀ i u w w', SQ v f x m i u w → Keep NoB w w' → SQ v f x m i u w'
  | 0, _, _, _, h, _ => h
  | 1, _, _, _, h, _ => h
  | 2, _, _, _, h, _ => h
  | 3, _, _, _, h, _ => h
  | 4, _, _, _, ⟨A, c, B, d, e, h1, h2⟩, hk => ⟨A, c, B, d, e, h1.keepN hk, h2.keepN hk⟩
  | 5, _, _, _, ⟨A, c, B, d, e, h1, h2⟩, hk => ⟨A, c, B, d, e, h1.keepN hk, h2.keepN hk⟩
  | 6, _, _, _, ⟨g, e, hm, hb⟩, hk => ⟨g, e, hm, hb.keep hk id⟩
  | _ + 7, _, _, _, h, _ => h

/-- A row that is owned lies in no block of another type. -/
theorem own_off {w : World} {E t size n g c : Nat} {P : Nat → Prop} {A : Option Addr} {xs : List Value} {cs : Array Value} (h : Own w E size P (.slice A n c) n xs) (hb : Blk w g t cs) (hne : E ≠ t) : Own w E size (fun k => P k ∧ k ≠ g) (.slice A n c) n xs :=
  ⟨h.1, fun k e => ⟨h.2 k e, fun ek => by
    subst ek
    rcases h.1.2 with ⟨h2, _⟩ | ⟨g', cap, cur, h2, _, hh, _⟩
    · rw [h2] at e; cases e
    · rw [h2] at e
      injection e with e
      subst e
      have hbb : w.heap[g']? = some (.cells cs t (0, 0)) := hb
      rw [hh] at hbb
      injection hbb with hbb
      injection hbb with _ h4 _
      exact hne h4⟩⟩
/-- A row that append has made of nothing. -/
theorem own_app {w w' : World} {E size n c : Nat} {P : Nat → Prop} {A : Option Addr} {xs : List Value} (h : w'.ownsRow 0 E size (.slice A n c) n ([] ++ xs)) (hv : (Value.slice A n c).ownBlock = (Value.slice none 0 0).ownBlock ∨ (Value.slice A n c).ownBlock = some w.heap.size) (hP : ∀ k, w.heap.size ≤ k → P k) : Own w' E size P (.slice A n c) n xs := by
  rw [List.nil_append] at h
  refine ⟨h, fun k e => ?_⟩
  rcases hv with h1 | h1
  · rw [h1] at e; cases e
  · rw [h1] at e
    injection e with e
    exact hP k (by omega)

set_option maxRecDepth 100000 in
set_option maxHeartbeats 8000000 in
theorem rcopyF_any (v : FV) (f : Fu) (w : World) (h : FnAt w v f) (hs : SmF v) :
    Calls Tryz.prog 8 #[v.val] w (CpyR w f) := by
  obtain ⟨i0, hi, hz0, hz1, hz2⟩ := info_parts int_info
  obtain ⟨j0, hj, hy0, hy1, hy2⟩ := info_parts inst_info
  have bx := (Blk.new w 27 v.cells).alloc (.cells nilV.cells 27)
  have by0 := Blk.new (w.alloc (.cells v.cells 27)) 27 nilV.cells
  have k0 := ((Keep.refl NoB w).alloc (.cells v.cells 27)).alloc (.cells nilV.cells 27)
  rw [World.size_alloc] at by0
  have HF := Lib.hid (h.keepN k0)
  have hlo : w.heap.size + 2 ≤ ((w.alloc (.cells v.cells 27)).alloc (.cells nilV.cells 27)).heap.size := by simp
  obtain ⟨S, A, na, ca, B, nb, cb, L, nl, cl, D, nd, cd⟩ := v
  obtain ⟨q0, q1, q2, q3, q4⟩ := blk5 bx
  obtain ⟨p1, p2, p3, p4⟩ : na ≤ 100 ∧ nb ≤ 100 ∧ nl ≤ 100 ∧ nd ≤ 600 := ⟨hs.na, hs.nb, hs.nl, hs.nd⟩
  dsimp only [FV.val, FV.cells, nilV] at bx by0 k0 HF hlo q0 q1 q2 q3 q4 ⊢
  generalize hw1 : (w.alloc (.cells #[.string S, .slice A na ca, .slice B nb cb, .slice L nl cl, .slice D nd cd] 27)).alloc (.cells #[.string ⟨#[]⟩, .slice none 0 0, .slice none 0 0, .slice none 0 0, .slice none 0 0] 27) = w1 at bx by0 k0 HF hlo q0 q1 q2 q3 q4
  have HX := Lib.hid bx
  have HY := Lib.hid by0
  have HG := Lib.hid (fun W hk => rcopyG_any A f.ar na ca B f.rs nb cb W (HF.out.keepN hk).ra (HF.out.keepN hk).rb h.la h.lb p1 p2)
  have hbl := by0.lt
  have HRL : Hid (Rd w L (ivs f.lc)) := h.rl
  have HRD : Hid (Rd w D (C.iis f.bd)) := h.rd
  clear bx by0 hs h
  go_enter Tryz.func8, Tryz.ntmps8
  go_wp2_with fail
  clear hw1
  refine wp_region_tail (fun i => [4, 5, 6, 7, 8, 9, 3].getD i 0) 7 (by kernel_rfl) (by kernel_rfl) (by kernel_rfl) (by kernel_rfl) (by kernel_rfl) (SQ ⟨S, A, na, ca, B, nb, cb, L, nl, cl, D, nd, cd⟩ f w.heap.size (w.heap.size + 2)) (fun i u x y h hk => SQ_stable _ _ _ _ i u x y h hk) rfl ?step ?fin
  case step =>
    intro i o a w' hoo hi hF hK hA
    by_cases h0 : i = 0
    · subst h0
      simp only [List.getElem?_toArray, List.getElem?_cons_zero, Option.some.injEq] at hoo
      subst hoo
      have e1 : a.tmps.getD 1 undef = .pointer (some ⟨w.heap.size, 0, none⟩) := hF.2.2 1 (by decide)
      refine Does.plain rfl ?_
      unfold yieldsK
      go_simp
      exact ⟨rfl, Keep.refl _ _⟩
    by_cases h1 : i = 1
    · subst h1
      simp only [List.getElem?_toArray, List.getElem?_cons_zero, List.getElem?_cons_succ, Option.some.injEq] at hoo
      subst hoo
      have e4 : a.tmps.getD 4 undef = .pointer (some ⟨w.heap.size, 0, none⟩) := hA ⟨0, .data⟩ (by simp) rfl
      have c0 := Keep.cell hK q0 id
      refine Does.plain rfl ?_
      unfold yieldsK
      go_simp
      exact ⟨rfl, Keep.refl _ _⟩
    by_cases h2 : i = 2
    · subst h2
      simp only [List.getElem?_toArray, List.getElem?_cons_zero, List.getElem?_cons_succ, Option.some.injEq] at hoo
      subst hoo
      have e1 : a.tmps.getD 1 undef = .pointer (some ⟨w.heap.size, 0, none⟩) := hF.2.2 1 (by decide)
      refine Does.plain rfl ?_
      unfold yieldsK
      go_simp
      exact ⟨rfl, Keep.refl _ _⟩
    by_cases h3 : i = 3
    · subst h3
      simp only [List.getElem?_toArray, List.getElem?_cons_zero, List.getElem?_cons_succ, Option.some.injEq] at hoo
      subst hoo
      have e6 : a.tmps.getD 6 undef = .pointer (some ⟨w.heap.size, 1, none⟩) := hA ⟨2, .data⟩ (by simp) rfl
      have c1 := Keep.cell hK q1 id
      have c2 := Keep.cell hK q2 id
      refine Does.plain rfl ?_
      unfold yieldsK
      go_simp
      exact ⟨rfl, Keep.refl _ _⟩
    by_cases h4 : i = 4
    · subst h4
      simp only [List.getElem?_toArray, List.getElem?_cons_zero, List.getElem?_cons_succ, Option.some.injEq] at hoo
      subst hoo
      have e7 : a.tmps.getD 7 undef = .agg #[.slice A na ca, .slice B nb cb] := hA ⟨3, .data⟩ (by simp) rfl
      refine Does.plain rfl ?_
      unfold yieldsK
      go_simp
      refine (HG.out w' hK).mono ?_
      rintro e w2 ⟨v1, v2, rfl, h1, h2, h3⟩
      obtain ⟨A1, c1, rfl, _⟩ := h1.form
      obtain ⟨A2, c2, rfl, _⟩ := h2.form
      exact ⟨_, rfl, ⟨A1, c1, A2, c2, rfl, h1.mono (fun k (hk : Fresh w' k) _ => (Nat.le_trans (Nat.le_trans hlo hK.size) hk : w.heap.size + 2 ≤ k)), h2.mono (fun k (hk : Fresh w' k) _ => (Nat.le_trans (Nat.le_trans hlo hK.size) hk : w.heap.size + 2 ≤ k))⟩, h3⟩
    by_cases h5 : i = 5
    · subst h5
      simp only [List.getElem?_toArray, List.getElem?_cons_zero, List.getElem?_cons_succ, Option.some.injEq] at hoo
      subst hoo
      have e5 : a.tmps.getD 5 undef = .string S := hA ⟨1, .data⟩ (by simp) rfl
      obtain ⟨A5, c5, B5, d5, e8, h5, h6⟩ := hA ⟨4, .data⟩ (by simp) rfl
      have e8 : a.tmps.getD 8 undef = .agg #[.slice A5 na c5, .slice B5 nb d5] := e8
      refine Does.plain rfl ?_
      unfold yieldsK
      simp only [Array.getD_eq_getD_getElem?] at e5 e8
      go_simp
      exact ⟨⟨A5, c5, B5, d5, rfl, h5, h6⟩, Keep.refl _ _⟩
    by_cases h6 : i = 6
    · subst h6
      simp only [List.getElem?_toArray, List.getElem?_cons_zero, List.getElem?_cons_succ, Option.some.injEq] at hoo
      subst hoo
      refine Does.plain rfl ?_
      unfold yieldsK
      go_simp
      exact ⟨⟨w'.heap.size, rfl, Nat.le_trans hlo hK.size, Blk.new _ _ _⟩, (Keep.refl _ _).alloc _⟩
    omega
  case fin =>
    intro a w' hF gK hA
    obtain ⟨A5, c5, B5, d5, e9, h5, h6⟩ := hA 5 (by decide)
    obtain ⟨g, e3, hg, hb⟩ := hA 6 (by decide)
    have e9 : a.tmps.getD 9 undef = .agg #[.string S, .slice A5 na c5, .slice B5 nb d5, .slice none 0 0, .slice none 0 0] := e9
    have e3 : a.tmps.getD 3 undef = .pointer (some ⟨g, 0, none⟩) := e3
    have ha := frameD_list (l := [4, 5, 6, 7, 8, 9, 3]) rfl hF
    rw [ha]
    simp only [List.map_cons, List.map_nil, e9, e3]
    generalize a.tmps.getD 4 undef = u0
    generalize a.tmps.getD 5 undef = u1
    generalize a.tmps.getD 6 undef = u2
    generalize a.tmps.getD 7 undef = u3
    generalize a.tmps.getD 8 undef = u4
    simp only [fillD, List.setIfInBounds_toArray, List.set_cons_zero, List.set_cons_succ]
    simp only [List.drop_succ_cons, List.drop_zero]
    have bg0 := blk_put5 hb ⟨S, A5, na, c5, B5, nb, d5, none, 0, 0, none, 0, 0⟩
    have kg0 := keep_at5 w' g ⟨S, A5, na, c5, B5, nb, d5, none, 0, 0, none, 0, 0⟩
    have hgl := hb.lt
    have hxl := (HX.out.keep gK id).lt
    have hO5 := (own_off h5 hb (by decide)).keep kg0 (fun k hk e => hk.2 e)
    have hO6 := (own_off h6 hb (by decide)).keep kg0 (fun k hk e => hk.2 e)
    have bx0 := (HX.out.keep gK id).keep kg0 (fun e => by omega)
    have bs0 := (HY.out.keep gK id).keep kg0 (fun e => by omega)
    have hrl := rd_older HRL.out (HF.out.keepN gK).rl kg0 (fun k hk e => by omega)
    have hrd := rd_older HRD.out (HF.out.keepN gK).rd kg0 (fun k hk e => by omega)
    have HN := Lib.hid (And.intro HF.out.nm (And.intro HF.out.hI (And.intro HF.out.ll HF.out.ld)))
    have hsz0 := kg0.size
    have HK0 := (keepN k0 gK).trans kg0 (fun k e hk => by omega)
    obtain ⟨d0, d1, d2, d3, d4⟩ := blk5 (v := nilV) hb
    obtain ⟨x0, x1, x2, x3, x4⟩ := blk5 (v := ⟨S, A, na, ca, B, nb, cb, L, nl, cl, D, nd, cd⟩) (HX.out.keep gK id)
    have fz := fun i => hb.frozen i
    have hgx : w.heap.size ≠ g := by omega
    have hl1 : (ivs f.lc).length = nl * 1 := by have := HN.out.2.2.1; simpa using this
    have hl2 : (C.iis f.bd).length = nd * 3 := by have := HN.out.2.2.2; rw [C.iis_length]; dsimp only at this; omega
    have HALL := Lib.hid (And.intro hO5 (And.intro hO6 (And.intro bx0 (And.intro bs0 (And.intro hrl (And.intro hrd (And.intro HK0 (And.intro bg0 (And.intro hl1 (And.intro hl2 (And.intro hsz0 (And.intro (ivs_one f.lc) (iis_one f.bd)))))))))))))
    clear hA hF ha hb gK HX HY HF h5 h6 HG q0 q1 q2 q3 q4 k0 hO5 hO6 bx0 bs0 hrl hrd HK0 bg0 hl1 hl2 hsz0 kg0 HRL
    unfold nilV at d0 d1 d2 d3 d4
    dsimp only at d0 d1 d2 d3 d4 x0 x1 x2 x3 x4
    go_wp2_with (first
      | (at_builtin; obtain ⟨hO5, hO6, bx0, bs0, hrl, hrd, HK0, bg0, hl1, hl2, hsz0, ho1, ho2⟩ := HALL.out; refine wpList_append_rd (put5 w' g ⟨S, A5, na, c5, B5, nb, d5, none, 0, 0, none, 0, 0⟩) rfl (.tmp 11) (.tmp 13) _ rfl 3 1 8 i0 _ Tryz.underlying22 hi hz0 hz1 hz2 rfl (by decide) (.slice none 0 0) 0 [] L nl cl (ivs f.lc) rfl (World.ownsRow_nil _ _ _ _) rfl hrl hl1 ho1 (by unfold maxLen; omega) (by omega) ?_; intro A7 c7 w7 hrow7 hg7 hv7; rw [Nat.zero_add] at hrow7 hv7 ⊢; clear d0 d1 d2 d3 d4 x0 x1 x2 x3 x4 fz HALL; have k7 : Keep NoB _ w7 := (Keep.refl NoB _).grown hg7 (fun g e _ => by cases e); have bg7 := bg0.keep k7 id; have bx7 := bx0.keep k7 id; obtain ⟨d0, d1, d2, d3, d4⟩ := blk5 (v := ⟨S, A5, na, c5, B5, nb, d5, none, 0, 0, none, 0, 0⟩) bg7; obtain ⟨x0, x1, x2, x3, x4⟩ := blk5 (v := ⟨S, A, na, ca, B, nb, cb, L, nl, cl, D, nd, cd⟩) bx7; have fz := fun i => bg7.frozen i; have hO7 : Own w7 3 1 (fun k => w.heap.size + 2 ≤ k ∧ k ≠ g) (.slice A7 nl c7) nl (ivs f.lc) := own_app hrow7 hv7 (fun k hk => ⟨by omega, by omega⟩); have HALL := Lib.hid (And.intro (hO5.keepN k7) (And.intro (hO6.keepN k7) (And.intro hO7 (And.intro bx7 (And.intro (bs0.keep k7 id) (And.intro (hrd.keepN k7) (And.intro (keepN HK0 k7) (And.intro bg7 (And.intro hl2 (And.intro (Nat.le_trans hsz0 k7.size) ho2)))))))))); clear hO5 hO6 bx0 bs0 hrl hrd HK0 bg0 hl1 hl2 hsz0 ho1 ho2 k7 bg7 bx7 hO7 hrow7 hg7 hv7)
      | (at_builtin; obtain ⟨hO5, hO6, hO7, bx7, bs7, hrd, HK7, bg7, hl2, hsz7, ho2⟩ := HALL.out; have kp := keep_one w7 g 3 (.slice A7 nl c7); have hp := Nat.le_trans hsz7 kp.size; refine wpList_append_rd (w7.setCell ⟨g, 3, none⟩ (.slice A7 nl c7)) rfl (.tmp 17) (.tmp 19) _ rfl 74 3 24 j0 _ Tryz.underlying25 hj hy0 hy1 hy2 rfl (by decide) (.slice none 0 0) 0 [] D nd cd (C.iis f.bd) rfl (World.ownsRow_nil _ _ _ _) rfl (rd_older HRD.out hrd kp (fun k hk e => by omega)) hl2 ho2 (by unfold maxLen; omega) (by omega) ?_; intro A9 c9 w9 hrow9 hg9 hv9; rw [Nat.zero_add] at hrow9 hv9 ⊢; clear d0 d1 d2 d3 d4 x0 x1 x2 x3 x4 fz HALL; have k9 : Keep NoB _ w9 := (Keep.refl NoB _).grown hg9 (fun g e _ => by cases e); have bg9 : Blk w9 g 27 (FV.cells ⟨S, A5, na, c5, B5, nb, d5, A7, nl, c7, none, 0, 0⟩) := (bg7.put 3 (.slice A7 nl c7)).keep k9 id; have bs9 := (bs7.keep kp (fun e => by omega)).keep k9 id; obtain ⟨d0, d1, d2, d3, d4⟩ := blk5 (v := ⟨S, A5, na, c5, B5, nb, d5, A7, nl, c7, none, 0, 0⟩) bg9; obtain ⟨x0, x1, x2, x3, x4⟩ := blk5 (v := nilV) bs9; unfold nilV at x0 x1 x2 x3 x4; dsimp only at x0 x1 x2 x3 x4; have fz := fun i => bg9.frozen i; have fy := fun i => bs9.frozen i; have hO9 : Own w9 74 3 (fun k => w.heap.size + 2 ≤ k ∧ k ≠ g) (.slice A9 nd c9) nd (C.iis f.bd) := own_app hrow9 hv9 (fun k hk => ⟨by omega, by omega⟩); have HALL := Lib.hid (And.intro ((hO5.keep kp (fun k hk e => hk.2 e)).keepN k9) (And.intro ((hO6.keep kp (fun k hk e => hk.2 e)).keepN k9) (And.intro ((hO7.keep kp (fun k hk e => hk.2 e)).keepN k9) (And.intro hO9 (And.intro bs9 (And.intro (keepN (HK7.trans kp (fun k e hk => by omega)) k9) bg9)))))); clear hO5 hO6 hO7 bx7 bs7 hrd HK7 bg7 hl2 hsz7 ho2 k9 bg9 bs9 hO9 hrow9 hg9 hv9 kp hp))
    obtain ⟨hO5, hO6, hO7, hO9, bs9, HK9, _⟩ := HALL.out
    have kp := keep_one w9 g 4 (.slice A9 nd c9)
    have bsp := bs9.keep kp (fun e => by omega)
    have kq := keep_at5 (w9.setCell ⟨g, 4, none⟩ (.slice A9 nd c9)) (w.heap.size + 1) ⟨S, A5, na, c5, B5, nb, d5, A7, nl, c7, A9, nd, c9⟩
    have hOF : OwnF (put5 (w9.setCell ⟨g, 4, none⟩ (.slice A9 nd c9)) (w.heap.size + 1) ⟨S, A5, na, c5, B5, nb, d5, A7, nl, c7, A9, nd, c9⟩) (Fresh w) ⟨S, A5, na, c5, B5, nb, d5, A7, nl, c7, A9, nd, c9⟩ f :=
      ((OwnF.keep (W := w9) ⟨HN.out.1, hO5, hO6, hO7, hO9, HN.out.2.1⟩ kp (fun k hk e => hk.2 e)).keep kq (fun k hk e => by omega)).mono (fun k hk _ => by unfold Fresh; omega)
    refine bodyPost_ret (ret_fun1 (v := ⟨S, A5, na, c5, B5, nb, d5, A7, nl, c7, A9, nd, c9⟩) rfl rfl (blk_put5 bsp ⟨S, A5, na, c5, B5, nb, d5, A7, nl, c7, A9, nd, c9⟩)) rfl ?_
    exact ⟨⟨S, A5, na, c5, B5, nb, d5, A7, nl, c7, A9, nd, c9⟩, rfl, hOF, (HK9.trans kp (fun k e hk => by omega)).trans kq (fun k e hk => by omega)⟩

end Go.Proofs.YtbnekeomdhljhaaGreatDoor.F
