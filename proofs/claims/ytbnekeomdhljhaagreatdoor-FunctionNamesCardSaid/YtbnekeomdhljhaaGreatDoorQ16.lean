/-
  FunctionBack's walk: a function is read from its bytes, whatever stands behind them, as it was; what is read of any bytes has just these; two functions are the same just if their bytes are. Conditions: the functions' lists, and the bytes, lie in memory.
-/
import Derived.Test.YtbnekeomdhljhaaGreatDoorQ12
import Derived.Test.YtbnekeomdhljhaaGreatDoorQ14
import Derived.Test.YtbnekeomdhljhaaGreatDoorQ15
import Derived.Test.YtbnekeomdhljhaaGreatDoorQ9
import Derived.Test.YtbnekeomdhljhaaGreatDoorQ3
namespace Go.Proofs.YtbnekeomdhljhaaGreatDoor.F
open Go.RowKit W

theorem made_ownF (w : World) : V.OwnB (w.alloc (.cells #[] 5)) (Fresh w) (.slice (some ⟨w.heap.size, 0, none⟩) 0 0) [] :=
  ⟨World.ownsRow_made (e := 5) (size := 1) (base := 0) w #[] 0 (Nat.zero_le _) (Nat.zero_le _) rfl, fun g e => by simp [Value.ownBlock] at e; subst e; exact Nat.le_refl _⟩
theorem rd_takeF {w : World} {A : Option Addr} {l : List UInt8} (h : V.Rd w A l) (k : Nat) : V.Rd w A (l.take k) := fun h0 => by
  have h1 : 0 < l.length := by simp at h0; omega
  obtain ⟨ad, e, hc⟩ := h h1
  refine ⟨ad, e, fun j u hu => hc j u ?_⟩
  simp only [V.bvs] at hu ⊢
  rw [List.map_take] at hu
  obtain ⟨hj, hv⟩ := List.getElem?_eq_some_iff.1 hu
  rw [List.getElem_take] at hv
  exact List.getElem?_eq_some_iff.2 ⟨_, hv⟩
theorem own_appB {w0 w W : World} {v v' : Value} {l r : List UInt8} (hv : V.OwnB w (Fresh w0) v l) (hk : Keep NoB w0 w) (hown : W.ownsRow 0 5 1 v' (l ++ r).length (V.bvs (l ++ r))) (hg : w.grownBy W v.ownBlock) (hat : v'.ownBlock = v.ownBlock ∨ v'.ownBlock = some w.heap.size) :
    V.OwnB W (Fresh w0) v' (l ++ r) ∧ Keep NoB w0 W :=
  ⟨⟨hown, fun g e => by
    rcases hat with h | h
    · rw [h] at e; exact hv.2 g e
    · rw [h] at e; cases e; exact hk.size⟩, hk.grown hg (fun g e h => absurd (hv.2 g e) (by unfold Fresh; omega))⟩
theorem bytesF_len {f : Fu} (h : okF f = true) : (bytesF f).length ≤ 20000 := by
  obtain ⟨hN, hG, hL, hB, h64⟩ := (okF_iff f).1 h
  have hlc : S.okG f.lc [] = true := (okG_one _).2 ⟨by omega, hL⟩
  have hg1 := ((S.okG_iff _ _).1 hG).1
  have n1 := V.encL_len f.nm.length
  have n2 := ((okN_iff _).1 hN).1
  have n4 := bytesB_len hB
  have a1 := S.bytesT_len f.ar (by omega)
  have a2 := S.bytesT_len f.rs (by omega)
  have a3 := S.bytesT_len f.lc (by omega)
  have a4 := S.bytesT_len [] (by simp)
  unfold bytesF S.bytesG
  simp only [List.length_append]
  omega
theorem str_ne {xs ys : List UInt8} (h : xs ≠ ys) : ((V.str xs).toList == (V.str ys).toList) = false := by
  rw [beq_eq_false_iff_ne]
  intro e
  apply h
  have : ∀ l : List UInt8, (V.str l).toList = l := fun l => by rw [ByteArray.toList_eq]
  rw [this, this] at e
  exact e

set_option maxRecDepth 100000 in
set_option maxHeartbeats 4000000 in
theorem back_big (v u : FV) (B : Option Addr) (m d : Nat) (w : World) (h : ¬ (SmF v ∧ SmF u ∧ m ≤ 8000)) :
    Calls Tryz.prog 6 #[v.val, u.val, .slice B m d] w fun e w' => e = .returned (.bool true) ∧ Keep NoB w w' := by
  have bx := (Blk.new w 27 v.cells).alloc (.cells u.cells 27)
  have bo := Blk.new (w.alloc (.cells v.cells 27)) 27 u.cells
  rw [World.size_alloc] at bo
  have gK := ((Keep.refl NoB w).alloc (.cells v.cells 27)).alloc (.cells u.cells 27)
  by_cases h1 : SmF v
  · have HG1 := Lib.hid (fun w => great_no v w h1)
    by_cases h2 : SmF u
    · have HG2 := Lib.hid (fun w => great_no u w h2)
      have hq4 : decide ((8000 : Int) < (m : Int)) = true := by rw [decide_eq_true_iff]; have := Nat.lt_of_not_le (fun h4 => h ⟨h1, h2, h4⟩); omega
      clear h h1 h2
      obtain ⟨s0, A, na, ca, A2, nb, cb, L, nl, cl, D, nd, cd⟩ := v
      obtain ⟨s1, A3, ne, ce, A4, nf, cf, L2, ng, cg, D2, nh, ch⟩ := u
      dsimp only [FV.val, FV.cells] at *
      go_enter Tryz.func6, Tryz.ntmps6
      go_wp2_with fail
      refine (alive_any _).mono ?_
      rintro e wl ⟨rfl, k1⟩
      replace bx := bx.keep k1 id
      replace bo := bo.keep k1 id
      replace gK := keepN gK k1
      clear k1
      obtain ⟨x0, x1, x2, x3, x4⟩ := blk5 (v := ⟨s0, A, na, ca, A2, nb, cb, L, nl, cl, D, nd, cd⟩) bx
      obtain ⟨y0, y1, y2, y3, y4⟩ := blk5 (v := ⟨s1, A3, ne, ce, A4, nf, cf, L2, ng, cg, D2, nh, ch⟩) bo
      dsimp only at x0 x1 x2 x3 x4 y0 y1 y2 y3 y4
      go_wp2_with fail
      refine (HG1.out _).mono ?_
      rintro e wg1 ⟨rfl, k1⟩
      replace bx := bx.keep k1 id
      replace bo := bo.keep k1 id
      replace gK := keepN gK k1
      clear k1
      clear x0 x1 x2 x3 x4 y0 y1 y2 y3 y4
      obtain ⟨x0, x1, x2, x3, x4⟩ := blk5 (v := ⟨s0, A, na, ca, A2, nb, cb, L, nl, cl, D, nd, cd⟩) bx
      obtain ⟨y0, y1, y2, y3, y4⟩ := blk5 (v := ⟨s1, A3, ne, ce, A4, nf, cf, L2, ng, cg, D2, nh, ch⟩) bo
      dsimp only at x0 x1 x2 x3 x4 y0 y1 y2 y3 y4
      go_wp2_with fail
      refine (HG2.out _).mono ?_
      rintro e wg2 ⟨rfl, k1⟩
      replace bx := bx.keep k1 id
      replace bo := bo.keep k1 id
      replace gK := keepN gK k1
      clear k1
      clear x0 x1 x2 x3 x4 y0 y1 y2 y3 y4
      go_wp2
      go_ret
      exact ⟨rfl, gK⟩
    · have HG2 := Lib.hid (fun w => great_yes u w h2)
      clear h h1 h2
      obtain ⟨s0, A, na, ca, A2, nb, cb, L, nl, cl, D, nd, cd⟩ := v
      obtain ⟨s1, A3, ne, ce, A4, nf, cf, L2, ng, cg, D2, nh, ch⟩ := u
      dsimp only [FV.val, FV.cells] at *
      go_enter Tryz.func6, Tryz.ntmps6
      go_wp2_with fail
      refine (alive_any _).mono ?_
      rintro e wl ⟨rfl, k1⟩
      replace bx := bx.keep k1 id
      replace bo := bo.keep k1 id
      replace gK := keepN gK k1
      clear k1
      obtain ⟨x0, x1, x2, x3, x4⟩ := blk5 (v := ⟨s0, A, na, ca, A2, nb, cb, L, nl, cl, D, nd, cd⟩) bx
      obtain ⟨y0, y1, y2, y3, y4⟩ := blk5 (v := ⟨s1, A3, ne, ce, A4, nf, cf, L2, ng, cg, D2, nh, ch⟩) bo
      dsimp only at x0 x1 x2 x3 x4 y0 y1 y2 y3 y4
      go_wp2_with fail
      refine (HG1.out _).mono ?_
      rintro e wg1 ⟨rfl, k1⟩
      replace bx := bx.keep k1 id
      replace bo := bo.keep k1 id
      replace gK := keepN gK k1
      clear k1
      clear x0 x1 x2 x3 x4 y0 y1 y2 y3 y4
      obtain ⟨x0, x1, x2, x3, x4⟩ := blk5 (v := ⟨s0, A, na, ca, A2, nb, cb, L, nl, cl, D, nd, cd⟩) bx
      obtain ⟨y0, y1, y2, y3, y4⟩ := blk5 (v := ⟨s1, A3, ne, ce, A4, nf, cf, L2, ng, cg, D2, nh, ch⟩) bo
      dsimp only at x0 x1 x2 x3 x4 y0 y1 y2 y3 y4
      go_wp2_with fail
      refine (HG2.out _).mono ?_
      rintro e wg2 ⟨rfl, k1⟩
      replace bx := bx.keep k1 id
      replace bo := bo.keep k1 id
      replace gK := keepN gK k1
      clear k1
      clear x0 x1 x2 x3 x4 y0 y1 y2 y3 y4
      go_wp2
      go_ret
      exact ⟨rfl, gK⟩
  · have HG1 := Lib.hid (fun w => great_yes v w h1)
    clear h h1
    obtain ⟨s0, A, na, ca, A2, nb, cb, L, nl, cl, D, nd, cd⟩ := v
    obtain ⟨s1, A3, ne, ce, A4, nf, cf, L2, ng, cg, D2, nh, ch⟩ := u
    dsimp only [FV.val, FV.cells] at *
    go_enter Tryz.func6, Tryz.ntmps6
    go_wp2_with fail
    refine (alive_any _).mono ?_
    rintro e wl ⟨rfl, k1⟩
    replace bx := bx.keep k1 id
    replace bo := bo.keep k1 id
    replace gK := keepN gK k1
    clear k1
    obtain ⟨x0, x1, x2, x3, x4⟩ := blk5 (v := ⟨s0, A, na, ca, A2, nb, cb, L, nl, cl, D, nd, cd⟩) bx
    obtain ⟨y0, y1, y2, y3, y4⟩ := blk5 (v := ⟨s1, A3, ne, ce, A4, nf, cf, L2, ng, cg, D2, nh, ch⟩) bo
    dsimp only at x0 x1 x2 x3 x4 y0 y1 y2 y3 y4
    go_wp2_with fail
    refine (HG1.out _).mono ?_
    rintro e wg1 ⟨rfl, k1⟩
    replace bx := bx.keep k1 id
    replace bo := bo.keep k1 id
    replace gK := keepN gK k1
    clear k1
    clear x0 x1 x2 x3 x4 y0 y1 y2 y3 y4
    go_wp2
    go_ret
    exact ⟨rfl, gK⟩

/-- What the values are that the law's first region yields. -/
def SBy (v u : FV) (xs ys : List UInt8) (X Y : Option Addr) (cx cy : Nat) (E1 E2 : ByteArray) (sb : Bool) : Nat → Value → World → Prop
  | 0 => fun u0 _ => u0 = .int .i64 0
  | 1 => fun u0 _ => u0 = .bool true
  | 2 => fun u0 _ => u0 = .bool true
  | 3 => fun u0 _ => u0 = .slice X xs.length cx
  | 4 => fun u0 _ => u0 = .string E1
  | 5 => fun u0 _ => u0 = .slice Y ys.length cy
  | 6 => fun u0 _ => u0 = .string E2
  | 7 => fun u0 _ => u0 = .bool sb
  | 8 => fun u0 _ => u0 = v.val
  | 9 => fun u0 _ => u0 = u.val
  | 10 => fun u0 _ => u0 = .bool sb
  | 11 => fun u0 _ => u0 = .bool false
  | 12 => fun u0 _ => u0 = .bool false
  | _ => fun _ _ => True
theorem SBy_stable (v u : FV) (xs ys : List UInt8) (X Y : Option Addr) (cx cy : Nat) (E1 E2 : ByteArray) (sb : Bool) (i : Nat) (z : Value) (w w' : World) (h : SBy v u xs ys X Y cx cy E1 E2 sb i z w) : SBy v u xs ys X Y cx cy E1 E2 sb i z w' := by
  unfold SBy at h ⊢
  split at h <;> exact h
/-- What the values are that the law's first region yields. -/
def SBn  : Nat → Value → World → Prop
  | 0 => fun u0 _ => u0 = .int .i64 70
  | 1 => fun u0 _ => u0 = .bool false
  | 2 => fun u0 _ => u0 = .bool false
  | 3 => fun _ _ => True
  | 4 => fun _ _ => True
  | 5 => fun _ _ => True
  | 6 => fun _ _ => True
  | 7 => fun _ _ => True
  | 8 => fun _ _ => True
  | 9 => fun _ _ => True
  | 10 => fun _ _ => True
  | 11 => fun _ _ => True
  | 12 => fun u0 _ => u0 = .bool false
  | _ => fun _ _ => True
theorem SBn_stable  (i : Nat) (z : Value) (w w' : World) (h : SBn  i z w) : SBn  i z w' := by
  unfold SBn at h ⊢
  split at h <;> exact h
/-- What the values are that the law's last region yields. -/
def SBz (Z B : Option Addr) (zs : List UInt8) (cz bl d br Q : Nat) (E : ByteArray) : Nat → Value → World → Prop
  | 0 => fun u0 _ => u0 = .bool true
  | 1 => fun u0 _ => u0 = .bool true
  | 2 => fun u0 _ => u0 = .int .i64 0
  | 3 => fun u0 _ => u0 = .bool true
  | 4 => fun u0 _ => u0 = .bool true
  | 5 => fun u0 _ => u0 = .bool true
  | 6 => fun u0 _ => u0 = .slice Z zs.length cz
  | 7 => fun u0 _ => u0 = .string E
  | 8 => fun u0 _ => u0 = .slice B bl d
  | 9 => fun u0 _ => u0 = .pointer (some ⟨br, 0, none⟩)
  | 10 => fun u0 _ => u0 = .int .i64 (Q : Int)
  | 11 => fun u0 _ => ∃ c, u0 = .slice B Q c
  | 12 => fun u0 _ => u0 = .string E
  | 13 => fun u0 _ => u0 = .bool true
  | 14 => fun u0 _ => u0 = .bool true
  | _ => fun _ _ => True
theorem SBz_stable (Z B : Option Addr) (zs : List UInt8) (cz bl d br Q : Nat) (E : ByteArray) (i : Nat) (z : Value) (w w' : World) (h : SBz Z B zs cz bl d br Q E i z w) : SBz Z B zs cz bl d br Q E i z w' := by
  unfold SBz at h ⊢
  split at h <;> exact h

set_option maxRecDepth 100000 in
set_option maxHeartbeats 16000000 in
theorem back_yyy (v : FV) (f : Fu) (u : FV) (g : Fu) (B : Option Addr) (b : List UInt8) (d : Nat) (w : World) (h : FnAt w v f) (h2 : FnAt w u g) (hb : V.Rd w B b) (hc : b.length ≤ d) (hs : SmF v) (hs2 : SmF u) (h4 : b.length ≤ 8000) (hf : okF f = true) (hg : okF g = true) (fp : Fu) (Q : Nat) (hd : decF b 0 = some (fp, Q)) :
    Calls Tryz.prog 6 #[v.val, u.val, .slice B b.length d] w fun e w' => e = .returned (.bool true) ∧ Keep NoB w w' := by
  have bx := (Blk.new w 27 v.cells).alloc (.cells u.cells 27)
  have bo := Blk.new (w.alloc (.cells v.cells 27)) 27 u.cells
  rw [World.size_alloc] at bo
  have gK := ((Keep.refl NoB w).alloc (.cells v.cells 27)).alloc (.cells u.cells 27)
  have HG1 := Lib.hid (fun w => great_no v w hs)
  have HG2 := Lib.hid (fun w => great_no u w hs2)
  have hq4 : decide ((8000 : Int) < (b.length : Int)) = false := by rw [decide_eq_false_iff_not]; omega
  have HL : Hid (b.length ≤ 140737488355328) := by show _ ≤ _; omega
  have HEF := Lib.hid (fun W hk => encodeF_any v f W (h.keepN hk) hs)
  have HEG := Lib.hid (fun W hk => encodeF_any u g W (h2.keepN hk) hs2)
  have HFV := Lib.hid (fun W hk => (h.keepN hk : FnAt W v f))
  have HFU := Lib.hid (fun W hk => (h2.keepN hk : FnAt W u g))
  have HRB := Lib.hid (fun W hk => S.rd_n (w' := W) hb hk)
  have HS := Lib.hid (And.intro hs hs2)
  have HD := Lib.hid hd
  rw [chkF_ok hf, encF_ok hf] at HEF
  have hfl := bytesF_len hf
  have HDF := Lib.hid (decF_enc (l := bytesF f ++ b) (p := 0) (t := b) hf (by simp))
  rw [Nat.zero_add] at HDF
  rw [chkF_ok hg, encF_ok hg] at HEG
  have hgl := bytesF_len hg
  have HSM : Hid ((bytesF f = bytesF g ∧ sameF f g = true) ∨ (bytesF f ≠ bytesF g ∧ sameF f g = false)) := by
    by_cases e : f = g
    · exact .inl ⟨by rw [e], (sameF_iff _ _).2 e⟩
    · refine .inr ⟨fun h => e ((bytesF_inj hf hg).1 h), ?_⟩
      cases h : sameF f g
      · rfl
      · exact absurd ((sameF_iff _ _).1 h) e
  have hQ := decF_ok hd
  have HZ : Hid (okF fp = true ∧ b.take Q = bytesF fp ∧ Q ≤ b.length) := by
    obtain ⟨q1, q2, q3⟩ := hQ
    rw [List.drop_zero] at q2
    rw [Nat.zero_add] at q3
    have q4 := congrArg List.length q2
    simp only [List.length_append, List.length_drop] at q4
    refine ⟨q1, ?_, by omega⟩
    rw [q3]
    conv => lhs; rw [q2]
    rw [List.take_left]
  have HDC := Lib.hid hc
  clear hQ hc
  clear h h2 hs hs2 hb hd hf hg
  obtain ⟨xs, hxs⟩ : ∃ x, bytesF f = x := ⟨_, rfl⟩
  rw [hxs] at HEF HDF hfl HSM
  clear hxs
  obtain ⟨ys, hys⟩ : ∃ x, bytesF g = x := ⟨_, rfl⟩
  rw [hys] at HEG HSM hgl
  clear hys
  obtain ⟨s0, A, na, ca, A2, nb, cb, L, nl, cl, D, nd, cd⟩ := v
  obtain ⟨s1, A3, ne, ce, A4, nf, cf, L2, ng, cg, D2, nh, ch⟩ := u
  dsimp only [FV.val, FV.cells] at HEF HEG HFV HFU HG1 HG2 bx bo gK ⊢
  go_enter Tryz.func6, Tryz.ntmps6
  go_wp2_with fail
  refine (alive_any _).mono ?_
  rintro e wl ⟨rfl, k1⟩
  replace bx := bx.keep k1 id
  replace bo := bo.keep k1 id
  replace gK := keepN gK k1
  clear k1
  obtain ⟨x0, x1, x2, x3, x4⟩ := blk5 (v := ⟨s0, A, na, ca, A2, nb, cb, L, nl, cl, D, nd, cd⟩) bx
  obtain ⟨y0, y1, y2, y3, y4⟩ := blk5 (v := ⟨s1, A3, ne, ce, A4, nf, cf, L2, ng, cg, D2, nh, ch⟩) bo
  dsimp only at x0 x1 x2 x3 x4 y0 y1 y2 y3 y4
  go_wp2_with fail
  refine (HG1.out _).mono ?_
  rintro e wg1 ⟨rfl, k1⟩
  replace bx := bx.keep k1 id
  replace bo := bo.keep k1 id
  replace gK := keepN gK k1
  clear k1
  clear x0 x1 x2 x3 x4 y0 y1 y2 y3 y4
  obtain ⟨x0, x1, x2, x3, x4⟩ := blk5 (v := ⟨s0, A, na, ca, A2, nb, cb, L, nl, cl, D, nd, cd⟩) bx
  obtain ⟨y0, y1, y2, y3, y4⟩ := blk5 (v := ⟨s1, A3, ne, ce, A4, nf, cf, L2, ng, cg, D2, nh, ch⟩) bo
  dsimp only at x0 x1 x2 x3 x4 y0 y1 y2 y3 y4
  go_wp2_with fail
  refine (HG2.out _).mono ?_
  rintro e wg2 ⟨rfl, k1⟩
  replace bx := bx.keep k1 id
  replace bo := bo.keep k1 id
  replace gK := keepN gK k1
  clear k1
  clear x0 x1 x2 x3 x4 y0 y1 y2 y3 y4
  obtain ⟨x0, x1, x2, x3, x4⟩ := blk5 (v := ⟨s0, A, na, ca, A2, nb, cb, L, nl, cl, D, nd, cd⟩) bx
  obtain ⟨y0, y1, y2, y3, y4⟩ := blk5 (v := ⟨s1, A3, ne, ce, A4, nf, cf, L2, ng, cg, D2, nh, ch⟩) bo
  dsimp only at x0 x1 x2 x3 x4 y0 y1 y2 y3 y4
  go_wp2_with fail
  refine (HEF.out _ gK).mono ?_
  rintro e w1 ⟨vx, rfl, hx, k1⟩
  obtain ⟨X, cx, rfl, hrx, hxl⟩ := own_rdB hx
  replace bx := bx.keep k1 id
  replace bo := bo.keep k1 id
  replace gK := keepN gK k1
  clear k1 hx
  clear x0 x1 x2 x3 x4 y0 y1 y2 y3 y4
  obtain ⟨x0, x1, x2, x3, x4⟩ := blk5 (v := ⟨s0, A, na, ca, A2, nb, cb, L, nl, cl, D, nd, cd⟩) bx
  obtain ⟨y0, y1, y2, y3, y4⟩ := blk5 (v := ⟨s1, A3, ne, ce, A4, nf, cf, L2, ng, cg, D2, nh, ch⟩) bo
  dsimp only at x0 x1 x2 x3 x4 y0 y1 y2 y3 y4
  go_wp2_with fail
  refine (HEG.out _ gK).mono ?_
  rintro e w2 ⟨vy, rfl, hy, k1⟩
  obtain ⟨Y, cy, rfl, hry, hyl⟩ := own_rdB hy
  replace bx := bx.keep k1 id
  replace bo := bo.keep k1 id
  replace gK := keepN gK k1
  replace hrx := S.rd_n hrx k1
  replace hxl := fun ad e => Nat.lt_of_lt_of_le (hxl ad e) k1.size
  clear k1 hy HEF HEG HG1 HG2
  clear x0 x1 x2 x3 x4 y0 y1 y2 y3 y4
  obtain ⟨x0, x1, x2, x3, x4⟩ := blk5 (v := ⟨s0, A, na, ca, A2, nb, cb, L, nl, cl, D, nd, cd⟩) bx
  obtain ⟨y0, y1, y2, y3, y4⟩ := blk5 (v := ⟨s1, A3, ne, ce, A4, nf, cf, L2, ng, cg, D2, nh, ch⟩) bo
  dsimp only at x0 x1 x2 x3 x4 y0 y1 y2 y3 y4
  have hm2 := made_ownF w2
  have ru2 := S.rd_n hrx ((Keep.refl NoB w2).alloc (.cells #[] 5))
  go_wp2_with (first | (at_builtin; refine V.wpList_append_rd _ rfl (.tmp 51) (.tmp 52) rfl (.slice (some ⟨w2.heap.size, 0, none⟩) 0 0) [] xs X cx rfl hm2.1 rfl ru2 (by simp; omega) ?_; intro v1 w3 hown hg hat; have hap := own_appB hm2 ((Keep.refl NoB w2).alloc _) hown hg hat; rw [List.nil_append] at hap; have rb3 := HRB.out _ (keepN gK hap.2); clear hown hg hat) | (at_builtin; refine V.wpList_append_rd _ rfl (.tmp 53) (.tmp 54) rfl v1 xs b B d rfl hap.1.1 rfl rb3 (by omega) ?_; intro v2 w4 hown hg hat; have hap2 := own_appB hap.1 hap.2 hown hg hat; clear hown hg hat))
  obtain ⟨A5, c5, rfl, r5, _⟩ := own_rdB hap2.1
  have k1 := hap2.2
  clear hap hap2 hm2 ru2 rb3
  clear x0 x1 x2 x3 x4 y0 y1 y2 y3 y4
  replace bx := bx.keep k1 id
  replace bo := bo.keep k1 id
  replace gK := keepN gK k1
  replace hrx := S.rd_n hrx k1
  replace hry := S.rd_n hry k1
  replace hxl := fun ad e => Nat.lt_of_lt_of_le (hxl ad e) k1.size
  replace hyl := fun ad e => Nat.lt_of_lt_of_le (hyl ad e) k1.size
  clear k1
  have HUL : Hid ((xs ++ b).length ≤ 140737488355328) := by show _ ≤ _; rw [List.length_append]; omega
  go_wp2_with fail
  refine (V.on_any _ A5 (xs ++ b) c5 r5 HUL.out).mono ?_
  rintro e w5 ⟨br, rfl, hR, k1⟩
  have hbr : w4.heap.size ≤ br := hR.1
  have hR : V.ReelAt w5 br (fun k => w4.heap.size ≤ k ∧ k < w5.heap.size) (xs ++ b) 0 := hR.mono fun _ ho hk => ⟨ho, hk⟩
  have gb := bo.lt
  have gs5 := k1.size
  replace bx := bx.keep k1 id
  replace bo := bo.keep k1 id
  replace gK := keepN gK k1
  replace hrx := S.rd_n hrx k1
  replace hry := S.rd_n hry k1
  clear k1 r5
  go_wp2_with fail
  refine (decodeF_any _ br _ (xs ++ b) 0 (fun k hk => by omega) hR HUL.out).mono ?_
  rintro e w6 (⟨hn, _⟩ | ⟨fp', Q', p, hsm, rfl, hP, hR, k1⟩)
  · have := HDF.out; rw [hn] at this; cases this
  obtain ⟨rfl, rfl⟩ : fp' = f ∧ Q' = xs.length := by have := HDF.out; rw [hsm] at this; injection this with this; injection this with e1 e2; exact ⟨e1, e2⟩
  have sp := sm_own hP (HFV.out _ gK) HS.out.1
  clear hsm HDF
  obtain ⟨pS, pA, pna, pca, pB, pnb, pcb, pL, pnl, pcl, pD, pnd, pcd⟩ := p
  dsimp only [FV.val, FV.cells]
  have kA := (Keep.refl NoB w6).alloc (.cells (FV.cells ⟨pS, pA, pna, pca, pB, pnb, pcb, pL, pnl, pcl, pD, pnd, pcd⟩) 27)
  have b13 := Blk.new w6 27 (FV.cells ⟨pS, pA, pna, pca, pB, pnb, pcb, pL, pnl, pcl, pD, pnd, pcd⟩)
  dsimp only [FV.cells] at kA b13
  have k2 := k1.trans kA (fun _ hf _ => hf.elim)
  replace bx := bx.keep k2 (fun e => by omega)
  replace bo := bo.keep k2 (fun e => by omega)
  replace gK := gK.trans k2 (fun k e hk => by omega)
  replace hrx := hrx.keep k2 (fun ad e _ h => by have := hxl ad e; omega)
  replace hry := hry.keep k2 (fun ad e _ h => by have := hyl ad e; omega)
  replace hP := hP.keepN kA
  replace hR := hR.keep kA (fun _ _ => id)
  clear k1 kA k2 hxl hyl
  obtain ⟨z0, z1, z2, z3, z4⟩ := blk5 (v := ⟨pS, pA, pna, pca, pB, pnb, pcb, pL, pnl, pcl, pD, pnd, pcd⟩) b13
  dsimp only at z0 z1 z2 z3 z4
  obtain ⟨x0, x1, x2, x3, x4⟩ := blk5 (v := ⟨s0, A, na, ca, A2, nb, cb, L, nl, cl, D, nd, cd⟩) bx
  obtain ⟨y0, y1, y2, y3, y4⟩ := blk5 (v := ⟨s1, A3, ne, ce, A4, nf, cf, L2, ng, cg, D2, nh, ch⟩) bo
  dsimp only at x0 x1 x2 x3 x4 y0 y1 y2 y3 y4
  go_wp2_with fail
  refine (sameF_any ⟨pS, pA, pna, pca, pB, pnb, pcb, pL, pnl, pcl, pD, pnd, pcd⟩ fp' ⟨s0, A, na, ca, A2, nb, cb, L, nl, cl, D, nd, cd⟩ fp' _ hP.fn (HFV.out _ gK) sp HS.out.1).mono ?_
  rintro e w7 ⟨rfl, k1⟩
  rw [(sameF_iff _ _).2 rfl]
  replace hR := hR.keep k1 (fun _ _ => id)
  replace bx := bx.keep k1 id
  replace bo := bo.keep k1 id
  replace gK := keepN gK k1
  replace hrx := S.rd_n hrx k1
  replace hry := S.rd_n hry k1
  clear k1 hP b13 z0 z1 z2 z3 z4
  clear x0 x1 x2 x3 x4 y0 y1 y2 y3 y4
  go_wp2_with fail
  refine (S.at_gen hR (Keep.refl _ _)).mono ?_
  rintro e w8 ⟨rfl, k1⟩
  replace bx := bx.keep k1 id
  replace bo := bo.keep k1 id
  replace gK := keepN gK k1
  replace hrx := S.rd_n hrx k1
  replace hry := S.rd_n hry k1
  clear k1 hR
  obtain ⟨sb, hsb⟩ : ∃ sb, sameF fp' g = sb := ⟨_, rfl⟩
  have hE : ((V.str xs).toList == (V.str ys).toList) = sb := by
    rw [← hsb]
    rcases HSM.out with ⟨e1, e2⟩ | ⟨e1, e2⟩
    · rw [e1, e2]; simp
    · rw [e2]; exact str_ne e1
  have HSA := Lib.hid (fun W (hk : Keep NoB w W) => sameF_any ⟨s0, A, na, ca, A2, nb, cb, L, nl, cl, D, nd, cd⟩ fp' ⟨s1, A3, ne, ce, A4, nf, cf, L2, ng, cg, D2, nh, ch⟩ g W (HFV.out W hk) (HFU.out W hk) HS.out.1 HS.out.2)
  rw [hsb] at HSA
  have hcv : ∀ c, (convert 28 9 (.slice X xs.length c)).run Tryz.prog w8 = .ok (.string (V.str xs)) w8 := fun c => V.conv_rd hrx
  have HCX := Lib.hid (fun W (hk : Keep NoB w8 W) c => (V.conv_rd (c := c) (S.rd_n hrx hk)))
  have HCY := Lib.hid (fun W (hk : Keep NoB w8 W) c => (V.conv_rd (c := c) (S.rd_n hry hk)))
  generalize V.str xs = E1 at hE HCX
  generalize V.str ys = E2 at hE HCY
  clear HSM hsb hcv hrx hry
  obtain ⟨x0, x1, x2, x3, x4⟩ := blk5 (v := ⟨s0, A, na, ca, A2, nb, cb, L, nl, cl, D, nd, cd⟩) bx
  obtain ⟨y0, y1, y2, y3, y4⟩ := blk5 (v := ⟨s1, A3, ne, ce, A4, nf, cf, L2, ng, cg, D2, nh, ch⟩) bo
  dsimp only at x0 x1 x2 x3 x4 y0 y1 y2 y3 y4
  go_wp2_with fail
  have gK0 := gK
  clear gK
  refine wp_region_props2 77 99 (NoB) (by kernel_rfl) (by kernel_rfl) (SBy ⟨s0, A, na, ca, A2, nb, cb, L, nl, cl, D, nd, cd⟩ ⟨s1, A3, ne, ce, A4, nf, cf, L2, ng, cg, D2, nh, ch⟩ xs ys X Y cx cy E1 E2 sb) (fun i u x y _ h _ => SBy_stable _ _ _ _ _ _ _ _ _ _ _ i u x y h) (of_decide_eq_true rfl) ?step ?spec ?fin
  case step =>
    intro i o a w' ho hic hF hK hA
    have hi : i < 13 := by simpa using (Array.getElem?_eq_some_iff.1 ho).1
    by_cases h0 : i = 0
    · subst h0
      simp only [List.getElem?_toArray, List.getElem?_cons_zero, Option.some.injEq] at ho
      subst ho
      have e11 : a.tmps.getD 11 undef = .int .i64 0 := hF.2.2 11 (.inl (by decide))
      refine Does.plain rfl ?_
      unfold yieldsK
      go_simp
      exact ⟨rfl, Keep.refl _ _⟩
    by_cases h1 : i = 1
    · subst h1
      simp only [List.getElem?_toArray, List.getElem?_cons_zero, List.getElem?_cons_succ, Option.some.injEq] at ho
      subst ho
      have e77 : a.tmps.getD 77 undef = .int .i64 0 := hA ⟨0, .data⟩ (by simp) rfl
      refine Does.plain rfl ?_
      unfold yieldsK
      go_simp
      exact ⟨rfl, Keep.refl _ _⟩
    by_cases h2 : i = 2
    · subst h2
      simp only [List.getElem?_toArray, List.getElem?_cons_zero, List.getElem?_cons_succ, Option.some.injEq] at ho
      subst ho
      have e78 : a.tmps.getD 78 undef = .bool true := hA ⟨1, .data⟩ (by simp) rfl
      refine Does.plain rfl ?_
      unfold yieldsK
      go_simp
      exact ⟨rfl, Keep.refl _ _⟩
    by_cases h3 : i = 3
    · subst h3
      simp only [List.getElem?_toArray, List.getElem?_cons_zero, List.getElem?_cons_succ, Option.some.injEq] at ho
      subst ho
      have e8 : a.tmps.getD 8 undef = .slice X xs.length cx := hF.2.2 8 (.inl (by decide))
      refine Does.yes (j := 2) (d := 79) (want := true) rfl rfl (hA ⟨2, .guard⟩ (by simp) rfl) ?_
      unfold yieldsK
      go_simp
      exact ⟨rfl, Keep.refl _ _⟩
    by_cases h4 : i = 4
    · subst h4
      simp only [List.getElem?_toArray, List.getElem?_cons_zero, List.getElem?_cons_succ, Option.some.injEq] at ho
      subst ho
      have e80 : a.tmps.getD 80 undef = .slice X xs.length cx := hA ⟨3, .data⟩ (by simp) rfl
      have cv := HCX.out w' hK cx
      refine Does.yes (j := 2) (d := 79) (want := true) rfl rfl (hA ⟨2, .guard⟩ (by simp) rfl) ?_
      unfold yieldsK
      go_simp
      exact ⟨rfl, Keep.refl _ _⟩
    by_cases h5 : i = 5
    · subst h5
      simp only [List.getElem?_toArray, List.getElem?_cons_zero, List.getElem?_cons_succ, Option.some.injEq] at ho
      subst ho
      have e10 : a.tmps.getD 10 undef = .slice Y ys.length cy := hF.2.2 10 (.inl (by decide))
      refine Does.yes (j := 2) (d := 79) (want := true) rfl rfl (hA ⟨2, .guard⟩ (by simp) rfl) ?_
      unfold yieldsK
      go_simp
      exact ⟨rfl, Keep.refl _ _⟩
    by_cases h6 : i = 6
    · subst h6
      simp only [List.getElem?_toArray, List.getElem?_cons_zero, List.getElem?_cons_succ, Option.some.injEq] at ho
      subst ho
      have e82 : a.tmps.getD 82 undef = .slice Y ys.length cy := hA ⟨5, .data⟩ (by simp) rfl
      have cv := HCY.out w' hK cy
      refine Does.yes (j := 2) (d := 79) (want := true) rfl rfl (hA ⟨2, .guard⟩ (by simp) rfl) ?_
      unfold yieldsK
      go_simp
      exact ⟨rfl, Keep.refl _ _⟩
    by_cases h7 : i = 7
    · subst h7
      simp only [List.getElem?_toArray, List.getElem?_cons_zero, List.getElem?_cons_succ, Option.some.injEq] at ho
      subst ho
      have e81 : a.tmps.getD 81 undef = .string E1 := hA ⟨4, .data⟩ (by simp) rfl
      have e83 : a.tmps.getD 83 undef = .string E2 := hA ⟨6, .data⟩ (by simp) rfl
      refine Does.yes (j := 2) (d := 79) (want := true) rfl rfl (hA ⟨2, .guard⟩ (by simp) rfl) ?_
      unfold yieldsK
      go_simp
      exact ⟨rfl, Keep.refl _ _⟩
    by_cases h8 : i = 8
    · subst h8
      simp only [List.getElem?_toArray, List.getElem?_cons_zero, List.getElem?_cons_succ, Option.some.injEq] at ho
      subst ho
      have e3 : a.tmps.getD 3 undef = .pointer (some ⟨w.heap.size, 0, none⟩) := hF.2.2 3 (.inl (by decide))
      have c0 := Keep.cell hK x0 id
      have c1 := Keep.cell hK x1 id
      have c2 := Keep.cell hK x2 id
      have c3 := Keep.cell hK x3 id
      have c4 := Keep.cell hK x4 id
      refine Does.yes (j := 2) (d := 79) (want := true) rfl rfl (hA ⟨2, .guard⟩ (by simp) rfl) ?_
      unfold yieldsK
      go_simp
      exact ⟨rfl, Keep.refl _ _⟩
    by_cases h9 : i = 9
    · subst h9
      simp only [List.getElem?_toArray, List.getElem?_cons_zero, List.getElem?_cons_succ, Option.some.injEq] at ho
      subst ho
      have e4 : a.tmps.getD 4 undef = .pointer (some ⟨w.heap.size + 1, 0, none⟩) := hF.2.2 4 (.inl (by decide))
      have c0 := Keep.cell hK y0 id
      have c1 := Keep.cell hK y1 id
      have c2 := Keep.cell hK y2 id
      have c3 := Keep.cell hK y3 id
      have c4 := Keep.cell hK y4 id
      refine Does.yes (j := 2) (d := 79) (want := true) rfl rfl (hA ⟨2, .guard⟩ (by simp) rfl) ?_
      unfold yieldsK
      go_simp
      exact ⟨rfl, Keep.refl _ _⟩
    by_cases h10 : i = 10
    · subst h10
      simp only [List.getElem?_toArray, List.getElem?_cons_zero, List.getElem?_cons_succ, Option.some.injEq] at ho
      subst ho
      have e85 : a.tmps.getD 85 undef = .agg #[.string s0, .slice A na ca, .slice A2 nb cb, .slice L nl cl, .slice D nd cd] := hA ⟨8, .data⟩ (by simp) rfl
      have e86 : a.tmps.getD 86 undef = .agg #[.string s1, .slice A3 ne ce, .slice A4 nf cf, .slice L2 ng cg, .slice D2 nh ch] := hA ⟨9, .data⟩ (by simp) rfl
      refine Does.yes (j := 2) (d := 79) (want := true) rfl rfl (hA ⟨2, .guard⟩ (by simp) rfl) ?_
      unfold yieldsK
      go_simp
      refine (HSA.out w' (keepN gK0 hK)).mono ?_
      rintro e w2 ⟨rfl, h2⟩
      exact ⟨_, rfl, rfl, h2⟩
    by_cases h11 : i = 11
    · subst h11
      simp only [List.getElem?_toArray, List.getElem?_cons_zero, List.getElem?_cons_succ, Option.some.injEq] at ho
      subst ho
      have e84 : a.tmps.getD 84 undef = .bool sb := hA ⟨7, .data⟩ (by simp) rfl
      have e87 : a.tmps.getD 87 undef = .bool sb := hA ⟨10, .data⟩ (by simp) rfl
      refine Does.yes (j := 2) (d := 79) (want := true) rfl rfl (hA ⟨2, .guard⟩ (by simp) rfl) ?_
      unfold yieldsK
      go_simp
      exact ⟨rfl, Keep.refl _ _⟩
    by_cases h12 : i = 12
    · subst h12
      simp only [List.getElem?_toArray, List.getElem?_cons_zero, List.getElem?_cons_succ, Option.some.injEq] at ho
      subst ho
      have e79 : a.tmps.getD 79 undef = .bool true := hA ⟨2, .data⟩ (by simp) rfl
      have e88 : a.tmps.getD 88 undef = .bool false := hA ⟨11, .data⟩ (by simp) rfl
      refine Does.plain rfl ?_
      unfold yieldsK
      go_simp
      exact ⟨rfl, Keep.refl _ _⟩
    omega
  case spec =>
    intro o a w' ho
    simp at ho
  case fin =>
    intro a w' hF gK hA
    have e89 : a.tmps.getD (77 + 12) undef = .bool false := hA 12 (by decide)
    have ha := frame_fill (n := 13) hF (of_decide_eq_true rfl)
    rw [ha]
    rw [show List.range 13 = [0, 1, 2, 3, 4, 5, 6, 7, 8, 9, 10, 11, 12] from rfl]
    simp only [List.map_cons, List.map_nil, e89]
    generalize a.tmps.getD (77 + 0) undef = u0
    generalize a.tmps.getD (77 + 1) undef = u1
    generalize a.tmps.getD (77 + 2) undef = u2
    generalize a.tmps.getD (77 + 3) undef = u3
    generalize a.tmps.getD (77 + 4) undef = u4
    generalize a.tmps.getD (77 + 5) undef = u5
    generalize a.tmps.getD (77 + 6) undef = u6
    generalize a.tmps.getD (77 + 7) undef = u7
    generalize a.tmps.getD (77 + 8) undef = u8
    generalize a.tmps.getD (77 + 9) undef = u9
    generalize a.tmps.getD (77 + 10) undef = u10
    generalize a.tmps.getD (77 + 11) undef = u11
    simp only [fillT, List.setIfInBounds_toArray, List.set_cons_zero, List.set_cons_succ]
    have k1 := gK
    replace bx := bx.keep k1 id
    replace bo := bo.keep k1 id
    have gK := keepN gK0 k1
    clear gK0 hA hF ha e89 k1 x0 x1 x2 x3 x4 y0 y1 y2 y3 y4 hE HSA HCX HCY
    have gq := gK.size
    go_wp2_with fail
    refine (V.on_any _ B b d (HRB.out _ gK) HL.out).mono ?_
    rintro e wp ⟨bq, rfl, hR, k1⟩
    have hbq := hR.1
    replace hR := hR.mono (O' := fun k => w.heap.size ≤ k ∧ k < wp.heap.size) (fun k ho hk => ⟨Nat.le_trans gK.size ho, hk⟩)
    replace gK := keepN gK k1
    have gp := gK.size
    unfold Fresh at hbq
    clear k1
    go_wp2_with fail
    refine (decodeF_any _ bq _ b 0 (fun k hk => hk.2) hR HL.out).mono ?_
    rintro e wq (⟨hn, _⟩ | ⟨fz, Qz, z, hsm, rfl, hP2, hR, k1⟩)
    · have := HD.out; rw [hn] at this; cases this
    obtain ⟨rfl, rfl⟩ : fz = fp ∧ Qz = Q := by have := HD.out; rw [hsm] at this; injection this with this; injection this with e1 e2; exact ⟨e1, e2⟩
    have sz := sm_ok hP2 HZ.out.1
    have HEZ := Lib.hid (fun W hk => encodeF_any z fz W (hP2.fn.keepN hk) sz)
    rw [chkF_ok HZ.out.1, encF_ok HZ.out.1] at HEZ
    have HZ2 := Lib.hid (And.intro HZ.out.2.1 HZ.out.2.2)
    obtain ⟨zs, hzs⟩ : ∃ x, bytesF fz = x := ⟨_, rfl⟩
    rw [hzs] at HEZ HZ2
    clear hsm HZ hzs
    obtain ⟨pS, pA, pna, pca, pB, pnb, pcb, pL, pnl, pcl, pD, pnd, pcd⟩ := z
    dsimp only [FV.val, FV.cells] at HEZ ⊢
    have kA := (Keep.refl NoB wq).alloc (.cells (FV.cells ⟨pS, pA, pna, pca, pB, pnb, pcb, pL, pnl, pcl, pD, pnd, pcd⟩) 27)
    have b16 := Blk.new wq 27 (FV.cells ⟨pS, pA, pna, pca, pB, pnb, pcb, pL, pnl, pcl, pD, pnd, pcd⟩)
    dsimp only [FV.cells] at kA b16
    replace gK := keepN (gK.trans k1 (fun k e hk => by omega)) kA
    replace hR := hR.keep kA (fun _ _ => id)
    obtain ⟨z0, z1, z2, z3, z4⟩ := blk5 (v := ⟨pS, pA, pna, pca, pB, pnb, pcb, pL, pnl, pcl, pD, pnd, pcd⟩) b16
    dsimp only at z0 z1 z2 z3 z4
    clear k1 hP2 b16
    go_wp2_with fail
    refine (HEZ.out _ kA).mono ?_
    rintro e wr ⟨vz, rfl, hz, k1⟩
    obtain ⟨Z, cz, rfl, hrz, _⟩ := own_rdB hz
    replace gK := keepN gK k1
    replace hR := hR.keep k1 (fun _ _ => id)
    have hrb := HRB.out _ gK
    have hQb : Qz ≤ b.length := HZ2.out.2
    have hQd : Qz ≤ d := Nat.le_trans hQb HDC.out
    have HCZ := Lib.hid (fun W (hk : Keep NoB wr W) c => (V.conv_rd (c := c) (S.rd_n hrz hk)))
    have HCB := Lib.hid (fun W (hk : Keep NoB wr W) c => (V.conv_rd (c := c) (rd_takeF (S.rd_n hrb hk) Qz)))
    have htl : (b.take Qz).length = Qz := by rw [List.length_take]; omega
    rw [htl, HZ2.out.1] at HCB
    generalize V.str zs = E at HCZ HCB
    have HRR := Lib.hid hR
    clear z0 z1 z2 z3 z4 hz k1 kA hR hrz hrb htl HZ2 HEZ
    go_wp2_with fail
    have gK0 := gK
    clear gK
    refine wp_region_tail (fun i => [116, 117, 118, 119, 120, 121, 122, 123, 124, 125, 126, 127, 128, 129, 130].getD i 0) 15 (by kernel_rfl) (by kernel_rfl) (by kernel_rfl) (by kernel_rfl) (by kernel_rfl) (SBz Z B zs cz b.length d bq Qz E) (fun i u x y h _ => SBz_stable _ _ _ _ _ _ _ _ _ i u x y h) rfl ?step ?fin
    case step =>
      intro i o a w' hoo hi hF hK hA
      by_cases h0 : i = 0
      · subst h0
        simp only [List.getElem?_toArray, List.getElem?_cons_zero, Option.some.injEq] at hoo
        subst hoo
        have e7 : a.tmps.getD 7 undef = .bool true := hF.2.2 7 (by decide)
        refine Does.plain rfl ?_
        unfold yieldsK
        go_simp
        exact ⟨rfl, Keep.refl _ _⟩
      by_cases h1 : i = 1
      · subst h1
        simp only [List.getElem?_toArray, List.getElem?_cons_zero, List.getElem?_cons_succ, Option.some.injEq] at hoo
        subst hoo
        have e116 : a.tmps.getD 116 undef = .bool true := hA ⟨0, .data⟩ (by simp) rfl
        refine Does.plain rfl ?_
        unfold yieldsK
        go_simp
        exact ⟨rfl, Keep.refl _ _⟩
      by_cases h2 : i = 2
      · subst h2
        simp only [List.getElem?_toArray, List.getElem?_cons_zero, List.getElem?_cons_succ, Option.some.injEq] at hoo
        subst hoo
        have e19 : a.tmps.getD 19 undef = .int .i64 0 := hF.2.2 19 (by decide)
        refine Does.yes (j := 1) (d := 117) (want := true) rfl rfl (hA ⟨1, .guard⟩ (by simp) rfl) ?_
        unfold yieldsK
        go_simp
        exact ⟨rfl, Keep.refl _ _⟩
      by_cases h3 : i = 3
      · subst h3
        simp only [List.getElem?_toArray, List.getElem?_cons_zero, List.getElem?_cons_succ, Option.some.injEq] at hoo
        subst hoo
        have e118 : a.tmps.getD 118 undef = .int .i64 0 := hA ⟨2, .data⟩ (by simp) rfl
        refine Does.yes (j := 1) (d := 117) (want := true) rfl rfl (hA ⟨1, .guard⟩ (by simp) rfl) ?_
        unfold yieldsK
        go_simp
        exact ⟨rfl, Keep.refl _ _⟩
      by_cases h4 : i = 4
      · subst h4
        simp only [List.getElem?_toArray, List.getElem?_cons_zero, List.getElem?_cons_succ, Option.some.injEq] at hoo
        subst hoo
        have e117 : a.tmps.getD 117 undef = .bool true := hA ⟨1, .data⟩ (by simp) rfl
        have e119 : a.tmps.getD 119 undef = .bool true := hA ⟨3, .data⟩ (by simp) rfl
        refine Does.plain rfl ?_
        unfold yieldsK
        go_simp
        exact ⟨rfl, Keep.refl _ _⟩
      by_cases h5 : i = 5
      · subst h5
        simp only [List.getElem?_toArray, List.getElem?_cons_zero, List.getElem?_cons_succ, Option.some.injEq] at hoo
        subst hoo
        have e120 : a.tmps.getD 120 undef = .bool true := hA ⟨4, .data⟩ (by simp) rfl
        refine Does.plain rfl ?_
        unfold yieldsK
        go_simp
        exact ⟨rfl, Keep.refl _ _⟩
      by_cases h6 : i = 6
      · subst h6
        simp only [List.getElem?_toArray, List.getElem?_cons_zero, List.getElem?_cons_succ, Option.some.injEq] at hoo
        subst hoo
        have e18 : a.tmps.getD 18 undef = .slice Z zs.length cz := hF.2.2 18 (by decide)
        refine Does.yes (j := 5) (d := 121) (want := true) rfl rfl (hA ⟨5, .guard⟩ (by simp) rfl) ?_
        unfold yieldsK
        go_simp
        exact ⟨rfl, Keep.refl _ _⟩
      by_cases h7 : i = 7
      · subst h7
        simp only [List.getElem?_toArray, List.getElem?_cons_zero, List.getElem?_cons_succ, Option.some.injEq] at hoo
        subst hoo
        have e122 : a.tmps.getD 122 undef = .slice Z zs.length cz := hA ⟨6, .data⟩ (by simp) rfl
        have cv := HCZ.out w' hK cz
        refine Does.yes (j := 5) (d := 121) (want := true) rfl rfl (hA ⟨5, .guard⟩ (by simp) rfl) ?_
        unfold yieldsK
        go_simp
        exact ⟨rfl, Keep.refl _ _⟩
      by_cases h8 : i = 8
      · subst h8
        simp only [List.getElem?_toArray, List.getElem?_cons_zero, List.getElem?_cons_succ, Option.some.injEq] at hoo
        subst hoo
        have e2 : a.tmps.getD 2 undef = .slice B b.length d := hF.2.2 2 (by decide)
        refine Does.yes (j := 5) (d := 121) (want := true) rfl rfl (hA ⟨5, .guard⟩ (by simp) rfl) ?_
        unfold yieldsK
        go_simp
        exact ⟨rfl, Keep.refl _ _⟩
      by_cases h9 : i = 9
      · subst h9
        simp only [List.getElem?_toArray, List.getElem?_cons_zero, List.getElem?_cons_succ, Option.some.injEq] at hoo
        subst hoo
        have e15 : a.tmps.getD 15 undef = .pointer (some ⟨bq, 0, none⟩) := hF.2.2 15 (by decide)
        refine Does.yes (j := 5) (d := 121) (want := true) rfl rfl (hA ⟨5, .guard⟩ (by simp) rfl) ?_
        unfold yieldsK
        go_simp
        exact ⟨rfl, Keep.refl _ _⟩
      by_cases h10 : i = 10
      · subst h10
        simp only [List.getElem?_toArray, List.getElem?_cons_zero, List.getElem?_cons_succ, Option.some.injEq] at hoo
        subst hoo
        have e125 : a.tmps.getD 125 undef = .pointer (some ⟨bq, 0, none⟩) := hA ⟨9, .data⟩ (by simp) rfl
        refine Does.yes (j := 5) (d := 121) (want := true) rfl rfl (hA ⟨5, .guard⟩ (by simp) rfl) ?_
        unfold yieldsK
        go_simp
        refine (S.at_gen HRR.out hK).mono ?_
        rintro e w2 ⟨rfl, h2⟩
        exact ⟨_, rfl, rfl, h2⟩
      by_cases h11 : i = 11
      · subst h11
        simp only [List.getElem?_toArray, List.getElem?_cons_zero, List.getElem?_cons_succ, Option.some.injEq] at hoo
        subst hoo
        have e124 : a.tmps.getD 124 undef = .slice B b.length d := hA ⟨8, .data⟩ (by simp) rfl
        have e126 : a.tmps.getD 126 undef = .int .i64 (Qz : Int) := hA ⟨10, .data⟩ (by simp) rfl
        refine Does.yes (j := 5) (d := 121) (want := true) rfl rfl (hA ⟨5, .guard⟩ (by simp) rfl) ?_
        unfold yieldsK
        go_simp
        exact ⟨⟨_, rfl⟩, Keep.refl _ _⟩
      by_cases h12 : i = 12
      · subst h12
        simp only [List.getElem?_toArray, List.getElem?_cons_zero, List.getElem?_cons_succ, Option.some.injEq] at hoo
        subst hoo
        obtain ⟨c5, e127⟩ := hA ⟨11, .data⟩ (by simp) rfl
        have e127 : a.tmps.getD 127 undef = .slice B Qz c5 := e127
        have cv := HCB.out w' hK c5
        refine Does.yes (j := 5) (d := 121) (want := true) rfl rfl (hA ⟨5, .guard⟩ (by simp) rfl) ?_
        unfold yieldsK
        go_simp
        exact ⟨rfl, Keep.refl _ _⟩
      by_cases h13 : i = 13
      · subst h13
        simp only [List.getElem?_toArray, List.getElem?_cons_zero, List.getElem?_cons_succ, Option.some.injEq] at hoo
        subst hoo
        have e123 : a.tmps.getD 123 undef = .string E := hA ⟨7, .data⟩ (by simp) rfl
        have e128 : a.tmps.getD 128 undef = .string E := hA ⟨12, .data⟩ (by simp) rfl
        refine Does.yes (j := 5) (d := 121) (want := true) rfl rfl (hA ⟨5, .guard⟩ (by simp) rfl) ?_
        unfold yieldsK
        go_simp
        exact ⟨rfl, Keep.refl _ _⟩
      by_cases h14 : i = 14
      · subst h14
        simp only [List.getElem?_toArray, List.getElem?_cons_zero, List.getElem?_cons_succ, Option.some.injEq] at hoo
        subst hoo
        have e121 : a.tmps.getD 121 undef = .bool true := hA ⟨5, .data⟩ (by simp) rfl
        have e129 : a.tmps.getD 129 undef = .bool true := hA ⟨13, .data⟩ (by simp) rfl
        refine Does.plain rfl ?_
        unfold yieldsK
        go_simp
        exact ⟨rfl, Keep.refl _ _⟩
      omega
    case fin =>
      intro a w' hF gK hA
      have e130 : a.tmps.getD 130 undef = .bool true := hA 14 (by decide)
      have ha := frameD_list (l := [116, 117, 118, 119, 120, 121, 122, 123, 124, 125, 126, 127, 128, 129, 130]) rfl hF
      rw [ha]
      simp only [List.map_cons, List.map_nil, e130]
      generalize a.tmps.getD 116 undef = u0
      generalize a.tmps.getD 117 undef = u1
      generalize a.tmps.getD 118 undef = u2
      generalize a.tmps.getD 119 undef = u3
      generalize a.tmps.getD 120 undef = u4
      generalize a.tmps.getD 121 undef = u5
      generalize a.tmps.getD 122 undef = u6
      generalize a.tmps.getD 123 undef = u7
      generalize a.tmps.getD 124 undef = u8
      generalize a.tmps.getD 125 undef = u9
      generalize a.tmps.getD 126 undef = u10
      generalize a.tmps.getD 127 undef = u11
      generalize a.tmps.getD 128 undef = u12
      generalize a.tmps.getD 129 undef = u13
      simp only [fillD, List.setIfInBounds_toArray, List.set_cons_zero, List.set_cons_succ]
      simp only [List.drop_succ_cons, List.drop_zero]
      have HK9 := Lib.hid (keepN gK0 gK)
      clear gK gK0 hA hF ha e130 HCZ HCB HRR
      go_wp2
      go_ret
      exact ⟨rfl, HK9.out⟩

set_option maxRecDepth 100000 in
set_option maxHeartbeats 16000000 in
theorem back_yyn (v : FV) (f : Fu) (u : FV) (g : Fu) (B : Option Addr) (b : List UInt8) (d : Nat) (w : World) (h : FnAt w v f) (h2 : FnAt w u g) (hb : V.Rd w B b) (hs : SmF v) (hs2 : SmF u) (h4 : b.length ≤ 8000) (hf : okF f = true) (hg : okF g = true) (hd : decF b 0 = none) :
    Calls Tryz.prog 6 #[v.val, u.val, .slice B b.length d] w fun e w' => e = .returned (.bool true) ∧ Keep NoB w w' := by
  have bx := (Blk.new w 27 v.cells).alloc (.cells u.cells 27)
  have bo := Blk.new (w.alloc (.cells v.cells 27)) 27 u.cells
  rw [World.size_alloc] at bo
  have gK := ((Keep.refl NoB w).alloc (.cells v.cells 27)).alloc (.cells u.cells 27)
  have HG1 := Lib.hid (fun w => great_no v w hs)
  have HG2 := Lib.hid (fun w => great_no u w hs2)
  have hq4 : decide ((8000 : Int) < (b.length : Int)) = false := by rw [decide_eq_false_iff_not]; omega
  have HL : Hid (b.length ≤ 140737488355328) := by show _ ≤ _; omega
  have HEF := Lib.hid (fun W hk => encodeF_any v f W (h.keepN hk) hs)
  have HEG := Lib.hid (fun W hk => encodeF_any u g W (h2.keepN hk) hs2)
  have HFV := Lib.hid (fun W hk => (h.keepN hk : FnAt W v f))
  have HFU := Lib.hid (fun W hk => (h2.keepN hk : FnAt W u g))
  have HRB := Lib.hid (fun W hk => S.rd_n (w' := W) hb hk)
  have HS := Lib.hid (And.intro hs hs2)
  have HD := Lib.hid hd
  rw [chkF_ok hf, encF_ok hf] at HEF
  have hfl := bytesF_len hf
  have HDF := Lib.hid (decF_enc (l := bytesF f ++ b) (p := 0) (t := b) hf (by simp))
  rw [Nat.zero_add] at HDF
  rw [chkF_ok hg, encF_ok hg] at HEG
  have hgl := bytesF_len hg
  have HSM : Hid ((bytesF f = bytesF g ∧ sameF f g = true) ∨ (bytesF f ≠ bytesF g ∧ sameF f g = false)) := by
    by_cases e : f = g
    · exact .inl ⟨by rw [e], (sameF_iff _ _).2 e⟩
    · refine .inr ⟨fun h => e ((bytesF_inj hf hg).1 h), ?_⟩
      cases h : sameF f g
      · rfl
      · exact absurd ((sameF_iff _ _).1 h) e
  clear h h2 hs hs2 hb hd hf hg
  obtain ⟨xs, hxs⟩ : ∃ x, bytesF f = x := ⟨_, rfl⟩
  rw [hxs] at HEF HDF hfl HSM
  clear hxs
  obtain ⟨ys, hys⟩ : ∃ x, bytesF g = x := ⟨_, rfl⟩
  rw [hys] at HEG HSM hgl
  clear hys
  obtain ⟨s0, A, na, ca, A2, nb, cb, L, nl, cl, D, nd, cd⟩ := v
  obtain ⟨s1, A3, ne, ce, A4, nf, cf, L2, ng, cg, D2, nh, ch⟩ := u
  dsimp only [FV.val, FV.cells] at HEF HEG HFV HFU HG1 HG2 bx bo gK ⊢
  go_enter Tryz.func6, Tryz.ntmps6
  go_wp2_with fail
  refine (alive_any _).mono ?_
  rintro e wl ⟨rfl, k1⟩
  replace bx := bx.keep k1 id
  replace bo := bo.keep k1 id
  replace gK := keepN gK k1
  clear k1
  obtain ⟨x0, x1, x2, x3, x4⟩ := blk5 (v := ⟨s0, A, na, ca, A2, nb, cb, L, nl, cl, D, nd, cd⟩) bx
  obtain ⟨y0, y1, y2, y3, y4⟩ := blk5 (v := ⟨s1, A3, ne, ce, A4, nf, cf, L2, ng, cg, D2, nh, ch⟩) bo
  dsimp only at x0 x1 x2 x3 x4 y0 y1 y2 y3 y4
  go_wp2_with fail
  refine (HG1.out _).mono ?_
  rintro e wg1 ⟨rfl, k1⟩
  replace bx := bx.keep k1 id
  replace bo := bo.keep k1 id
  replace gK := keepN gK k1
  clear k1
  clear x0 x1 x2 x3 x4 y0 y1 y2 y3 y4
  obtain ⟨x0, x1, x2, x3, x4⟩ := blk5 (v := ⟨s0, A, na, ca, A2, nb, cb, L, nl, cl, D, nd, cd⟩) bx
  obtain ⟨y0, y1, y2, y3, y4⟩ := blk5 (v := ⟨s1, A3, ne, ce, A4, nf, cf, L2, ng, cg, D2, nh, ch⟩) bo
  dsimp only at x0 x1 x2 x3 x4 y0 y1 y2 y3 y4
  go_wp2_with fail
  refine (HG2.out _).mono ?_
  rintro e wg2 ⟨rfl, k1⟩
  replace bx := bx.keep k1 id
  replace bo := bo.keep k1 id
  replace gK := keepN gK k1
  clear k1
  clear x0 x1 x2 x3 x4 y0 y1 y2 y3 y4
  obtain ⟨x0, x1, x2, x3, x4⟩ := blk5 (v := ⟨s0, A, na, ca, A2, nb, cb, L, nl, cl, D, nd, cd⟩) bx
  obtain ⟨y0, y1, y2, y3, y4⟩ := blk5 (v := ⟨s1, A3, ne, ce, A4, nf, cf, L2, ng, cg, D2, nh, ch⟩) bo
  dsimp only at x0 x1 x2 x3 x4 y0 y1 y2 y3 y4
  go_wp2_with fail
  refine (HEF.out _ gK).mono ?_
  rintro e w1 ⟨vx, rfl, hx, k1⟩
  obtain ⟨X, cx, rfl, hrx, hxl⟩ := own_rdB hx
  replace bx := bx.keep k1 id
  replace bo := bo.keep k1 id
  replace gK := keepN gK k1
  clear k1 hx
  clear x0 x1 x2 x3 x4 y0 y1 y2 y3 y4
  obtain ⟨x0, x1, x2, x3, x4⟩ := blk5 (v := ⟨s0, A, na, ca, A2, nb, cb, L, nl, cl, D, nd, cd⟩) bx
  obtain ⟨y0, y1, y2, y3, y4⟩ := blk5 (v := ⟨s1, A3, ne, ce, A4, nf, cf, L2, ng, cg, D2, nh, ch⟩) bo
  dsimp only at x0 x1 x2 x3 x4 y0 y1 y2 y3 y4
  go_wp2_with fail
  refine (HEG.out _ gK).mono ?_
  rintro e w2 ⟨vy, rfl, hy, k1⟩
  obtain ⟨Y, cy, rfl, hry, hyl⟩ := own_rdB hy
  replace bx := bx.keep k1 id
  replace bo := bo.keep k1 id
  replace gK := keepN gK k1
  replace hrx := S.rd_n hrx k1
  replace hxl := fun ad e => Nat.lt_of_lt_of_le (hxl ad e) k1.size
  clear k1 hy HEF HEG HG1 HG2
  clear x0 x1 x2 x3 x4 y0 y1 y2 y3 y4
  obtain ⟨x0, x1, x2, x3, x4⟩ := blk5 (v := ⟨s0, A, na, ca, A2, nb, cb, L, nl, cl, D, nd, cd⟩) bx
  obtain ⟨y0, y1, y2, y3, y4⟩ := blk5 (v := ⟨s1, A3, ne, ce, A4, nf, cf, L2, ng, cg, D2, nh, ch⟩) bo
  dsimp only at x0 x1 x2 x3 x4 y0 y1 y2 y3 y4
  have hm2 := made_ownF w2
  have ru2 := S.rd_n hrx ((Keep.refl NoB w2).alloc (.cells #[] 5))
  go_wp2_with (first | (at_builtin; refine V.wpList_append_rd _ rfl (.tmp 51) (.tmp 52) rfl (.slice (some ⟨w2.heap.size, 0, none⟩) 0 0) [] xs X cx rfl hm2.1 rfl ru2 (by simp; omega) ?_; intro v1 w3 hown hg hat; have hap := own_appB hm2 ((Keep.refl NoB w2).alloc _) hown hg hat; rw [List.nil_append] at hap; have rb3 := HRB.out _ (keepN gK hap.2); clear hown hg hat) | (at_builtin; refine V.wpList_append_rd _ rfl (.tmp 53) (.tmp 54) rfl v1 xs b B d rfl hap.1.1 rfl rb3 (by omega) ?_; intro v2 w4 hown hg hat; have hap2 := own_appB hap.1 hap.2 hown hg hat; clear hown hg hat))
  obtain ⟨A5, c5, rfl, r5, _⟩ := own_rdB hap2.1
  have k1 := hap2.2
  clear hap hap2 hm2 ru2 rb3
  clear x0 x1 x2 x3 x4 y0 y1 y2 y3 y4
  replace bx := bx.keep k1 id
  replace bo := bo.keep k1 id
  replace gK := keepN gK k1
  replace hrx := S.rd_n hrx k1
  replace hry := S.rd_n hry k1
  replace hxl := fun ad e => Nat.lt_of_lt_of_le (hxl ad e) k1.size
  replace hyl := fun ad e => Nat.lt_of_lt_of_le (hyl ad e) k1.size
  clear k1
  have HUL : Hid ((xs ++ b).length ≤ 140737488355328) := by show _ ≤ _; rw [List.length_append]; omega
  go_wp2_with fail
  refine (V.on_any _ A5 (xs ++ b) c5 r5 HUL.out).mono ?_
  rintro e w5 ⟨br, rfl, hR, k1⟩
  have hbr : w4.heap.size ≤ br := hR.1
  have hR : V.ReelAt w5 br (fun k => w4.heap.size ≤ k ∧ k < w5.heap.size) (xs ++ b) 0 := hR.mono fun _ ho hk => ⟨ho, hk⟩
  have gb := bo.lt
  have gs5 := k1.size
  replace bx := bx.keep k1 id
  replace bo := bo.keep k1 id
  replace gK := keepN gK k1
  replace hrx := S.rd_n hrx k1
  replace hry := S.rd_n hry k1
  clear k1 r5
  go_wp2_with fail
  refine (decodeF_any _ br _ (xs ++ b) 0 (fun k hk => by omega) hR HUL.out).mono ?_
  rintro e w6 (⟨hn, _⟩ | ⟨fp', Q', p, hsm, rfl, hP, hR, k1⟩)
  · have := HDF.out; rw [hn] at this; cases this
  obtain ⟨rfl, rfl⟩ : fp' = f ∧ Q' = xs.length := by have := HDF.out; rw [hsm] at this; injection this with this; injection this with e1 e2; exact ⟨e1, e2⟩
  have sp := sm_own hP (HFV.out _ gK) HS.out.1
  clear hsm HDF
  obtain ⟨pS, pA, pna, pca, pB, pnb, pcb, pL, pnl, pcl, pD, pnd, pcd⟩ := p
  dsimp only [FV.val, FV.cells]
  have kA := (Keep.refl NoB w6).alloc (.cells (FV.cells ⟨pS, pA, pna, pca, pB, pnb, pcb, pL, pnl, pcl, pD, pnd, pcd⟩) 27)
  have b13 := Blk.new w6 27 (FV.cells ⟨pS, pA, pna, pca, pB, pnb, pcb, pL, pnl, pcl, pD, pnd, pcd⟩)
  dsimp only [FV.cells] at kA b13
  have k2 := k1.trans kA (fun _ hf _ => hf.elim)
  replace bx := bx.keep k2 (fun e => by omega)
  replace bo := bo.keep k2 (fun e => by omega)
  replace gK := gK.trans k2 (fun k e hk => by omega)
  replace hrx := hrx.keep k2 (fun ad e _ h => by have := hxl ad e; omega)
  replace hry := hry.keep k2 (fun ad e _ h => by have := hyl ad e; omega)
  replace hP := hP.keepN kA
  replace hR := hR.keep kA (fun _ _ => id)
  clear k1 kA k2 hxl hyl
  obtain ⟨z0, z1, z2, z3, z4⟩ := blk5 (v := ⟨pS, pA, pna, pca, pB, pnb, pcb, pL, pnl, pcl, pD, pnd, pcd⟩) b13
  dsimp only at z0 z1 z2 z3 z4
  obtain ⟨x0, x1, x2, x3, x4⟩ := blk5 (v := ⟨s0, A, na, ca, A2, nb, cb, L, nl, cl, D, nd, cd⟩) bx
  obtain ⟨y0, y1, y2, y3, y4⟩ := blk5 (v := ⟨s1, A3, ne, ce, A4, nf, cf, L2, ng, cg, D2, nh, ch⟩) bo
  dsimp only at x0 x1 x2 x3 x4 y0 y1 y2 y3 y4
  go_wp2_with fail
  refine (sameF_any ⟨pS, pA, pna, pca, pB, pnb, pcb, pL, pnl, pcl, pD, pnd, pcd⟩ fp' ⟨s0, A, na, ca, A2, nb, cb, L, nl, cl, D, nd, cd⟩ fp' _ hP.fn (HFV.out _ gK) sp HS.out.1).mono ?_
  rintro e w7 ⟨rfl, k1⟩
  rw [(sameF_iff _ _).2 rfl]
  replace hR := hR.keep k1 (fun _ _ => id)
  replace bx := bx.keep k1 id
  replace bo := bo.keep k1 id
  replace gK := keepN gK k1
  replace hrx := S.rd_n hrx k1
  replace hry := S.rd_n hry k1
  clear k1 hP b13 z0 z1 z2 z3 z4
  clear x0 x1 x2 x3 x4 y0 y1 y2 y3 y4
  go_wp2_with fail
  refine (S.at_gen hR (Keep.refl _ _)).mono ?_
  rintro e w8 ⟨rfl, k1⟩
  replace bx := bx.keep k1 id
  replace bo := bo.keep k1 id
  replace gK := keepN gK k1
  replace hrx := S.rd_n hrx k1
  replace hry := S.rd_n hry k1
  clear k1 hR
  obtain ⟨sb, hsb⟩ : ∃ sb, sameF fp' g = sb := ⟨_, rfl⟩
  have hE : ((V.str xs).toList == (V.str ys).toList) = sb := by
    rw [← hsb]
    rcases HSM.out with ⟨e1, e2⟩ | ⟨e1, e2⟩
    · rw [e1, e2]; simp
    · rw [e2]; exact str_ne e1
  have HSA := Lib.hid (fun W (hk : Keep NoB w W) => sameF_any ⟨s0, A, na, ca, A2, nb, cb, L, nl, cl, D, nd, cd⟩ fp' ⟨s1, A3, ne, ce, A4, nf, cf, L2, ng, cg, D2, nh, ch⟩ g W (HFV.out W hk) (HFU.out W hk) HS.out.1 HS.out.2)
  rw [hsb] at HSA
  have hcv : ∀ c, (convert 28 9 (.slice X xs.length c)).run Tryz.prog w8 = .ok (.string (V.str xs)) w8 := fun c => V.conv_rd hrx
  have HCX := Lib.hid (fun W (hk : Keep NoB w8 W) c => (V.conv_rd (c := c) (S.rd_n hrx hk)))
  have HCY := Lib.hid (fun W (hk : Keep NoB w8 W) c => (V.conv_rd (c := c) (S.rd_n hry hk)))
  generalize V.str xs = E1 at hE HCX
  generalize V.str ys = E2 at hE HCY
  clear HSM hsb hcv hrx hry
  obtain ⟨x0, x1, x2, x3, x4⟩ := blk5 (v := ⟨s0, A, na, ca, A2, nb, cb, L, nl, cl, D, nd, cd⟩) bx
  obtain ⟨y0, y1, y2, y3, y4⟩ := blk5 (v := ⟨s1, A3, ne, ce, A4, nf, cf, L2, ng, cg, D2, nh, ch⟩) bo
  dsimp only at x0 x1 x2 x3 x4 y0 y1 y2 y3 y4
  go_wp2_with fail
  have gK0 := gK
  clear gK
  refine wp_region_props2 77 99 (NoB) (by kernel_rfl) (by kernel_rfl) (SBy ⟨s0, A, na, ca, A2, nb, cb, L, nl, cl, D, nd, cd⟩ ⟨s1, A3, ne, ce, A4, nf, cf, L2, ng, cg, D2, nh, ch⟩ xs ys X Y cx cy E1 E2 sb) (fun i u x y _ h _ => SBy_stable _ _ _ _ _ _ _ _ _ _ _ i u x y h) (of_decide_eq_true rfl) ?step ?spec ?fin
  case step =>
    intro i o a w' ho hic hF hK hA
    have hi : i < 13 := by simpa using (Array.getElem?_eq_some_iff.1 ho).1
    by_cases h0 : i = 0
    · subst h0
      simp only [List.getElem?_toArray, List.getElem?_cons_zero, Option.some.injEq] at ho
      subst ho
      have e11 : a.tmps.getD 11 undef = .int .i64 0 := hF.2.2 11 (.inl (by decide))
      refine Does.plain rfl ?_
      unfold yieldsK
      go_simp
      exact ⟨rfl, Keep.refl _ _⟩
    by_cases h1 : i = 1
    · subst h1
      simp only [List.getElem?_toArray, List.getElem?_cons_zero, List.getElem?_cons_succ, Option.some.injEq] at ho
      subst ho
      have e77 : a.tmps.getD 77 undef = .int .i64 0 := hA ⟨0, .data⟩ (by simp) rfl
      refine Does.plain rfl ?_
      unfold yieldsK
      go_simp
      exact ⟨rfl, Keep.refl _ _⟩
    by_cases h2 : i = 2
    · subst h2
      simp only [List.getElem?_toArray, List.getElem?_cons_zero, List.getElem?_cons_succ, Option.some.injEq] at ho
      subst ho
      have e78 : a.tmps.getD 78 undef = .bool true := hA ⟨1, .data⟩ (by simp) rfl
      refine Does.plain rfl ?_
      unfold yieldsK
      go_simp
      exact ⟨rfl, Keep.refl _ _⟩
    by_cases h3 : i = 3
    · subst h3
      simp only [List.getElem?_toArray, List.getElem?_cons_zero, List.getElem?_cons_succ, Option.some.injEq] at ho
      subst ho
      have e8 : a.tmps.getD 8 undef = .slice X xs.length cx := hF.2.2 8 (.inl (by decide))
      refine Does.yes (j := 2) (d := 79) (want := true) rfl rfl (hA ⟨2, .guard⟩ (by simp) rfl) ?_
      unfold yieldsK
      go_simp
      exact ⟨rfl, Keep.refl _ _⟩
    by_cases h4 : i = 4
    · subst h4
      simp only [List.getElem?_toArray, List.getElem?_cons_zero, List.getElem?_cons_succ, Option.some.injEq] at ho
      subst ho
      have e80 : a.tmps.getD 80 undef = .slice X xs.length cx := hA ⟨3, .data⟩ (by simp) rfl
      have cv := HCX.out w' hK cx
      refine Does.yes (j := 2) (d := 79) (want := true) rfl rfl (hA ⟨2, .guard⟩ (by simp) rfl) ?_
      unfold yieldsK
      go_simp
      exact ⟨rfl, Keep.refl _ _⟩
    by_cases h5 : i = 5
    · subst h5
      simp only [List.getElem?_toArray, List.getElem?_cons_zero, List.getElem?_cons_succ, Option.some.injEq] at ho
      subst ho
      have e10 : a.tmps.getD 10 undef = .slice Y ys.length cy := hF.2.2 10 (.inl (by decide))
      refine Does.yes (j := 2) (d := 79) (want := true) rfl rfl (hA ⟨2, .guard⟩ (by simp) rfl) ?_
      unfold yieldsK
      go_simp
      exact ⟨rfl, Keep.refl _ _⟩
    by_cases h6 : i = 6
    · subst h6
      simp only [List.getElem?_toArray, List.getElem?_cons_zero, List.getElem?_cons_succ, Option.some.injEq] at ho
      subst ho
      have e82 : a.tmps.getD 82 undef = .slice Y ys.length cy := hA ⟨5, .data⟩ (by simp) rfl
      have cv := HCY.out w' hK cy
      refine Does.yes (j := 2) (d := 79) (want := true) rfl rfl (hA ⟨2, .guard⟩ (by simp) rfl) ?_
      unfold yieldsK
      go_simp
      exact ⟨rfl, Keep.refl _ _⟩
    by_cases h7 : i = 7
    · subst h7
      simp only [List.getElem?_toArray, List.getElem?_cons_zero, List.getElem?_cons_succ, Option.some.injEq] at ho
      subst ho
      have e81 : a.tmps.getD 81 undef = .string E1 := hA ⟨4, .data⟩ (by simp) rfl
      have e83 : a.tmps.getD 83 undef = .string E2 := hA ⟨6, .data⟩ (by simp) rfl
      refine Does.yes (j := 2) (d := 79) (want := true) rfl rfl (hA ⟨2, .guard⟩ (by simp) rfl) ?_
      unfold yieldsK
      go_simp
      exact ⟨rfl, Keep.refl _ _⟩
    by_cases h8 : i = 8
    · subst h8
      simp only [List.getElem?_toArray, List.getElem?_cons_zero, List.getElem?_cons_succ, Option.some.injEq] at ho
      subst ho
      have e3 : a.tmps.getD 3 undef = .pointer (some ⟨w.heap.size, 0, none⟩) := hF.2.2 3 (.inl (by decide))
      have c0 := Keep.cell hK x0 id
      have c1 := Keep.cell hK x1 id
      have c2 := Keep.cell hK x2 id
      have c3 := Keep.cell hK x3 id
      have c4 := Keep.cell hK x4 id
      refine Does.yes (j := 2) (d := 79) (want := true) rfl rfl (hA ⟨2, .guard⟩ (by simp) rfl) ?_
      unfold yieldsK
      go_simp
      exact ⟨rfl, Keep.refl _ _⟩
    by_cases h9 : i = 9
    · subst h9
      simp only [List.getElem?_toArray, List.getElem?_cons_zero, List.getElem?_cons_succ, Option.some.injEq] at ho
      subst ho
      have e4 : a.tmps.getD 4 undef = .pointer (some ⟨w.heap.size + 1, 0, none⟩) := hF.2.2 4 (.inl (by decide))
      have c0 := Keep.cell hK y0 id
      have c1 := Keep.cell hK y1 id
      have c2 := Keep.cell hK y2 id
      have c3 := Keep.cell hK y3 id
      have c4 := Keep.cell hK y4 id
      refine Does.yes (j := 2) (d := 79) (want := true) rfl rfl (hA ⟨2, .guard⟩ (by simp) rfl) ?_
      unfold yieldsK
      go_simp
      exact ⟨rfl, Keep.refl _ _⟩
    by_cases h10 : i = 10
    · subst h10
      simp only [List.getElem?_toArray, List.getElem?_cons_zero, List.getElem?_cons_succ, Option.some.injEq] at ho
      subst ho
      have e85 : a.tmps.getD 85 undef = .agg #[.string s0, .slice A na ca, .slice A2 nb cb, .slice L nl cl, .slice D nd cd] := hA ⟨8, .data⟩ (by simp) rfl
      have e86 : a.tmps.getD 86 undef = .agg #[.string s1, .slice A3 ne ce, .slice A4 nf cf, .slice L2 ng cg, .slice D2 nh ch] := hA ⟨9, .data⟩ (by simp) rfl
      refine Does.yes (j := 2) (d := 79) (want := true) rfl rfl (hA ⟨2, .guard⟩ (by simp) rfl) ?_
      unfold yieldsK
      go_simp
      refine (HSA.out w' (keepN gK0 hK)).mono ?_
      rintro e w2 ⟨rfl, h2⟩
      exact ⟨_, rfl, rfl, h2⟩
    by_cases h11 : i = 11
    · subst h11
      simp only [List.getElem?_toArray, List.getElem?_cons_zero, List.getElem?_cons_succ, Option.some.injEq] at ho
      subst ho
      have e84 : a.tmps.getD 84 undef = .bool sb := hA ⟨7, .data⟩ (by simp) rfl
      have e87 : a.tmps.getD 87 undef = .bool sb := hA ⟨10, .data⟩ (by simp) rfl
      refine Does.yes (j := 2) (d := 79) (want := true) rfl rfl (hA ⟨2, .guard⟩ (by simp) rfl) ?_
      unfold yieldsK
      go_simp
      exact ⟨rfl, Keep.refl _ _⟩
    by_cases h12 : i = 12
    · subst h12
      simp only [List.getElem?_toArray, List.getElem?_cons_zero, List.getElem?_cons_succ, Option.some.injEq] at ho
      subst ho
      have e79 : a.tmps.getD 79 undef = .bool true := hA ⟨2, .data⟩ (by simp) rfl
      have e88 : a.tmps.getD 88 undef = .bool false := hA ⟨11, .data⟩ (by simp) rfl
      refine Does.plain rfl ?_
      unfold yieldsK
      go_simp
      exact ⟨rfl, Keep.refl _ _⟩
    omega
  case spec =>
    intro o a w' ho
    simp at ho
  case fin =>
    intro a w' hF gK hA
    have e89 : a.tmps.getD (77 + 12) undef = .bool false := hA 12 (by decide)
    have ha := frame_fill (n := 13) hF (of_decide_eq_true rfl)
    rw [ha]
    rw [show List.range 13 = [0, 1, 2, 3, 4, 5, 6, 7, 8, 9, 10, 11, 12] from rfl]
    simp only [List.map_cons, List.map_nil, e89]
    generalize a.tmps.getD (77 + 0) undef = u0
    generalize a.tmps.getD (77 + 1) undef = u1
    generalize a.tmps.getD (77 + 2) undef = u2
    generalize a.tmps.getD (77 + 3) undef = u3
    generalize a.tmps.getD (77 + 4) undef = u4
    generalize a.tmps.getD (77 + 5) undef = u5
    generalize a.tmps.getD (77 + 6) undef = u6
    generalize a.tmps.getD (77 + 7) undef = u7
    generalize a.tmps.getD (77 + 8) undef = u8
    generalize a.tmps.getD (77 + 9) undef = u9
    generalize a.tmps.getD (77 + 10) undef = u10
    generalize a.tmps.getD (77 + 11) undef = u11
    simp only [fillT, List.setIfInBounds_toArray, List.set_cons_zero, List.set_cons_succ]
    have k1 := gK
    replace bx := bx.keep k1 id
    replace bo := bo.keep k1 id
    have gK := keepN gK0 k1
    clear gK0 hA hF ha e89 k1 x0 x1 x2 x3 x4 y0 y1 y2 y3 y4 hE HSA HCX HCY
    have gq := gK.size
    go_wp2_with fail
    refine (V.on_any _ B b d (HRB.out _ gK) HL.out).mono ?_
    rintro e wp ⟨bq, rfl, hR, k1⟩
    have hbq := hR.1
    replace hR := hR.mono (O' := fun k => w.heap.size ≤ k ∧ k < wp.heap.size) (fun k ho hk => ⟨Nat.le_trans gK.size ho, hk⟩)
    replace gK := keepN gK k1
    have gp := gK.size
    unfold Fresh at hbq
    clear k1
    go_wp2_with fail
    refine (decodeF_any _ bq _ b 0 (fun k hk => hk.2) hR HL.out).mono ?_
    rintro e wq (⟨_, rfl, ⟨q0, hR⟩, k1⟩ | ⟨fz, Qz, z, hsm, _⟩)
    case inr => have := HD.out; rw [hsm] at this; cases this
    dsimp only [nilV, FV.val, FV.cells]
    have HK9 := Lib.hid ((gK.trans k1 (fun k e hk => by omega)).alloc (.cells #[.string ⟨#[]⟩, .slice none 0 0, .slice none 0 0, .slice none 0 0, .slice none 0 0] 27))
    clear gK k1 hR
    go_wp2
    go_ret
    exact ⟨rfl, HK9.out⟩

set_option maxRecDepth 100000 in
set_option maxHeartbeats 16000000 in
theorem back_yny (v : FV) (f : Fu) (u : FV) (g : Fu) (B : Option Addr) (b : List UInt8) (d : Nat) (w : World) (h : FnAt w v f) (h2 : FnAt w u g) (hb : V.Rd w B b) (hc : b.length ≤ d) (hs : SmF v) (hs2 : SmF u) (h4 : b.length ≤ 8000) (hf : okF f = true) (hg : okF g = false) (fp : Fu) (Q : Nat) (hd : decF b 0 = some (fp, Q)) :
    Calls Tryz.prog 6 #[v.val, u.val, .slice B b.length d] w fun e w' => e = .returned (.bool true) ∧ Keep NoB w w' := by
  have bx := (Blk.new w 27 v.cells).alloc (.cells u.cells 27)
  have bo := Blk.new (w.alloc (.cells v.cells 27)) 27 u.cells
  rw [World.size_alloc] at bo
  have gK := ((Keep.refl NoB w).alloc (.cells v.cells 27)).alloc (.cells u.cells 27)
  have HG1 := Lib.hid (fun w => great_no v w hs)
  have HG2 := Lib.hid (fun w => great_no u w hs2)
  have hq4 : decide ((8000 : Int) < (b.length : Int)) = false := by rw [decide_eq_false_iff_not]; omega
  have HL : Hid (b.length ≤ 140737488355328) := by show _ ≤ _; omega
  have HEF := Lib.hid (fun W hk => encodeF_any v f W (h.keepN hk) hs)
  have HEG := Lib.hid (fun W hk => encodeF_any u g W (h2.keepN hk) hs2)
  have HFV := Lib.hid (fun W hk => (h.keepN hk : FnAt W v f))
  have HFU := Lib.hid (fun W hk => (h2.keepN hk : FnAt W u g))
  have HRB := Lib.hid (fun W hk => S.rd_n (w' := W) hb hk)
  have HS := Lib.hid (And.intro hs hs2)
  have HD := Lib.hid hd
  rw [chkF_ok hf, encF_ok hf] at HEF
  have hfl := bytesF_len hf
  have HDF := Lib.hid (decF_enc (l := bytesF f ++ b) (p := 0) (t := b) hf (by simp))
  rw [Nat.zero_add] at HDF
  rw [chkF_no hg] at HEG
  have hQ := decF_ok hd
  have HZ : Hid (okF fp = true ∧ b.take Q = bytesF fp ∧ Q ≤ b.length) := by
    obtain ⟨q1, q2, q3⟩ := hQ
    rw [List.drop_zero] at q2
    rw [Nat.zero_add] at q3
    have q4 := congrArg List.length q2
    simp only [List.length_append, List.length_drop] at q4
    refine ⟨q1, ?_, by omega⟩
    rw [q3]
    conv => lhs; rw [q2]
    rw [List.take_left]
  have HDC := Lib.hid hc
  clear hQ hc
  clear h h2 hs hs2 hb hd hf hg
  obtain ⟨xs, hxs⟩ : ∃ x, bytesF f = x := ⟨_, rfl⟩
  rw [hxs] at HEF HDF hfl
  clear hxs
  obtain ⟨ys, hys⟩ : ∃ x, encF g = x := ⟨_, rfl⟩
  rw [hys] at HEG
  clear hys
  obtain ⟨s0, A, na, ca, A2, nb, cb, L, nl, cl, D, nd, cd⟩ := v
  obtain ⟨s1, A3, ne, ce, A4, nf, cf, L2, ng, cg, D2, nh, ch⟩ := u
  dsimp only [FV.val, FV.cells] at HEF HEG HFV HFU HG1 HG2 bx bo gK ⊢
  go_enter Tryz.func6, Tryz.ntmps6
  go_wp2_with fail
  refine (alive_any _).mono ?_
  rintro e wl ⟨rfl, k1⟩
  replace bx := bx.keep k1 id
  replace bo := bo.keep k1 id
  replace gK := keepN gK k1
  clear k1
  obtain ⟨x0, x1, x2, x3, x4⟩ := blk5 (v := ⟨s0, A, na, ca, A2, nb, cb, L, nl, cl, D, nd, cd⟩) bx
  obtain ⟨y0, y1, y2, y3, y4⟩ := blk5 (v := ⟨s1, A3, ne, ce, A4, nf, cf, L2, ng, cg, D2, nh, ch⟩) bo
  dsimp only at x0 x1 x2 x3 x4 y0 y1 y2 y3 y4
  go_wp2_with fail
  refine (HG1.out _).mono ?_
  rintro e wg1 ⟨rfl, k1⟩
  replace bx := bx.keep k1 id
  replace bo := bo.keep k1 id
  replace gK := keepN gK k1
  clear k1
  clear x0 x1 x2 x3 x4 y0 y1 y2 y3 y4
  obtain ⟨x0, x1, x2, x3, x4⟩ := blk5 (v := ⟨s0, A, na, ca, A2, nb, cb, L, nl, cl, D, nd, cd⟩) bx
  obtain ⟨y0, y1, y2, y3, y4⟩ := blk5 (v := ⟨s1, A3, ne, ce, A4, nf, cf, L2, ng, cg, D2, nh, ch⟩) bo
  dsimp only at x0 x1 x2 x3 x4 y0 y1 y2 y3 y4
  go_wp2_with fail
  refine (HG2.out _).mono ?_
  rintro e wg2 ⟨rfl, k1⟩
  replace bx := bx.keep k1 id
  replace bo := bo.keep k1 id
  replace gK := keepN gK k1
  clear k1
  clear x0 x1 x2 x3 x4 y0 y1 y2 y3 y4
  obtain ⟨x0, x1, x2, x3, x4⟩ := blk5 (v := ⟨s0, A, na, ca, A2, nb, cb, L, nl, cl, D, nd, cd⟩) bx
  obtain ⟨y0, y1, y2, y3, y4⟩ := blk5 (v := ⟨s1, A3, ne, ce, A4, nf, cf, L2, ng, cg, D2, nh, ch⟩) bo
  dsimp only at x0 x1 x2 x3 x4 y0 y1 y2 y3 y4
  go_wp2_with fail
  refine (HEF.out _ gK).mono ?_
  rintro e w1 ⟨vx, rfl, hx, k1⟩
  obtain ⟨X, cx, rfl, hrx, hxl⟩ := own_rdB hx
  replace bx := bx.keep k1 id
  replace bo := bo.keep k1 id
  replace gK := keepN gK k1
  clear k1 hx
  clear x0 x1 x2 x3 x4 y0 y1 y2 y3 y4
  obtain ⟨x0, x1, x2, x3, x4⟩ := blk5 (v := ⟨s0, A, na, ca, A2, nb, cb, L, nl, cl, D, nd, cd⟩) bx
  obtain ⟨y0, y1, y2, y3, y4⟩ := blk5 (v := ⟨s1, A3, ne, ce, A4, nf, cf, L2, ng, cg, D2, nh, ch⟩) bo
  dsimp only at x0 x1 x2 x3 x4 y0 y1 y2 y3 y4
  go_wp2_with fail
  refine (HEG.out _ gK).mono ?_
  rintro e w2 ⟨vy, rfl, hy, k1⟩
  obtain ⟨Y, cy, rfl, hry, hyl⟩ := own_rdB hy
  replace bx := bx.keep k1 id
  replace bo := bo.keep k1 id
  replace gK := keepN gK k1
  replace hrx := S.rd_n hrx k1
  replace hxl := fun ad e => Nat.lt_of_lt_of_le (hxl ad e) k1.size
  clear k1 hy HEF HEG HG1 HG2
  clear x0 x1 x2 x3 x4 y0 y1 y2 y3 y4
  obtain ⟨x0, x1, x2, x3, x4⟩ := blk5 (v := ⟨s0, A, na, ca, A2, nb, cb, L, nl, cl, D, nd, cd⟩) bx
  obtain ⟨y0, y1, y2, y3, y4⟩ := blk5 (v := ⟨s1, A3, ne, ce, A4, nf, cf, L2, ng, cg, D2, nh, ch⟩) bo
  dsimp only at x0 x1 x2 x3 x4 y0 y1 y2 y3 y4
  have hm2 := made_ownF w2
  have ru2 := S.rd_n hrx ((Keep.refl NoB w2).alloc (.cells #[] 5))
  go_wp2_with (first | (at_builtin; refine V.wpList_append_rd _ rfl (.tmp 51) (.tmp 52) rfl (.slice (some ⟨w2.heap.size, 0, none⟩) 0 0) [] xs X cx rfl hm2.1 rfl ru2 (by simp; omega) ?_; intro v1 w3 hown hg hat; have hap := own_appB hm2 ((Keep.refl NoB w2).alloc _) hown hg hat; rw [List.nil_append] at hap; have rb3 := HRB.out _ (keepN gK hap.2); clear hown hg hat) | (at_builtin; refine V.wpList_append_rd _ rfl (.tmp 53) (.tmp 54) rfl v1 xs b B d rfl hap.1.1 rfl rb3 (by omega) ?_; intro v2 w4 hown hg hat; have hap2 := own_appB hap.1 hap.2 hown hg hat; clear hown hg hat))
  obtain ⟨A5, c5, rfl, r5, _⟩ := own_rdB hap2.1
  have k1 := hap2.2
  clear hap hap2 hm2 ru2 rb3
  clear x0 x1 x2 x3 x4 y0 y1 y2 y3 y4
  replace bx := bx.keep k1 id
  replace bo := bo.keep k1 id
  replace gK := keepN gK k1
  replace hrx := S.rd_n hrx k1
  replace hry := S.rd_n hry k1
  replace hxl := fun ad e => Nat.lt_of_lt_of_le (hxl ad e) k1.size
  replace hyl := fun ad e => Nat.lt_of_lt_of_le (hyl ad e) k1.size
  clear k1
  have HUL : Hid ((xs ++ b).length ≤ 140737488355328) := by show _ ≤ _; rw [List.length_append]; omega
  go_wp2_with fail
  refine (V.on_any _ A5 (xs ++ b) c5 r5 HUL.out).mono ?_
  rintro e w5 ⟨br, rfl, hR, k1⟩
  have hbr : w4.heap.size ≤ br := hR.1
  have hR : V.ReelAt w5 br (fun k => w4.heap.size ≤ k ∧ k < w5.heap.size) (xs ++ b) 0 := hR.mono fun _ ho hk => ⟨ho, hk⟩
  have gb := bo.lt
  have gs5 := k1.size
  replace bx := bx.keep k1 id
  replace bo := bo.keep k1 id
  replace gK := keepN gK k1
  replace hrx := S.rd_n hrx k1
  replace hry := S.rd_n hry k1
  clear k1 r5
  go_wp2_with fail
  refine (decodeF_any _ br _ (xs ++ b) 0 (fun k hk => by omega) hR HUL.out).mono ?_
  rintro e w6 (⟨hn, _⟩ | ⟨fp', Q', p, hsm, rfl, hP, hR, k1⟩)
  · have := HDF.out; rw [hn] at this; cases this
  obtain ⟨rfl, rfl⟩ : fp' = f ∧ Q' = xs.length := by have := HDF.out; rw [hsm] at this; injection this with this; injection this with e1 e2; exact ⟨e1, e2⟩
  have sp := sm_own hP (HFV.out _ gK) HS.out.1
  clear hsm HDF
  obtain ⟨pS, pA, pna, pca, pB, pnb, pcb, pL, pnl, pcl, pD, pnd, pcd⟩ := p
  dsimp only [FV.val, FV.cells]
  have kA := (Keep.refl NoB w6).alloc (.cells (FV.cells ⟨pS, pA, pna, pca, pB, pnb, pcb, pL, pnl, pcl, pD, pnd, pcd⟩) 27)
  have b13 := Blk.new w6 27 (FV.cells ⟨pS, pA, pna, pca, pB, pnb, pcb, pL, pnl, pcl, pD, pnd, pcd⟩)
  dsimp only [FV.cells] at kA b13
  have k2 := k1.trans kA (fun _ hf _ => hf.elim)
  replace bx := bx.keep k2 (fun e => by omega)
  replace bo := bo.keep k2 (fun e => by omega)
  replace gK := gK.trans k2 (fun k e hk => by omega)
  replace hrx := hrx.keep k2 (fun ad e _ h => by have := hxl ad e; omega)
  replace hry := hry.keep k2 (fun ad e _ h => by have := hyl ad e; omega)
  replace hP := hP.keepN kA
  replace hR := hR.keep kA (fun _ _ => id)
  clear k1 kA k2 hxl hyl
  obtain ⟨z0, z1, z2, z3, z4⟩ := blk5 (v := ⟨pS, pA, pna, pca, pB, pnb, pcb, pL, pnl, pcl, pD, pnd, pcd⟩) b13
  dsimp only at z0 z1 z2 z3 z4
  obtain ⟨x0, x1, x2, x3, x4⟩ := blk5 (v := ⟨s0, A, na, ca, A2, nb, cb, L, nl, cl, D, nd, cd⟩) bx
  obtain ⟨y0, y1, y2, y3, y4⟩ := blk5 (v := ⟨s1, A3, ne, ce, A4, nf, cf, L2, ng, cg, D2, nh, ch⟩) bo
  dsimp only at x0 x1 x2 x3 x4 y0 y1 y2 y3 y4
  go_wp2_with fail
  refine (sameF_any ⟨pS, pA, pna, pca, pB, pnb, pcb, pL, pnl, pcl, pD, pnd, pcd⟩ fp' ⟨s0, A, na, ca, A2, nb, cb, L, nl, cl, D, nd, cd⟩ fp' _ hP.fn (HFV.out _ gK) sp HS.out.1).mono ?_
  rintro e w7 ⟨rfl, k1⟩
  rw [(sameF_iff _ _).2 rfl]
  replace hR := hR.keep k1 (fun _ _ => id)
  replace bx := bx.keep k1 id
  replace bo := bo.keep k1 id
  replace gK := keepN gK k1
  replace hrx := S.rd_n hrx k1
  replace hry := S.rd_n hry k1
  clear k1 hP b13 z0 z1 z2 z3 z4
  clear x0 x1 x2 x3 x4 y0 y1 y2 y3 y4
  go_wp2_with fail
  refine (S.at_gen hR (Keep.refl _ _)).mono ?_
  rintro e w8 ⟨rfl, k1⟩
  replace bx := bx.keep k1 id
  replace bo := bo.keep k1 id
  replace gK := keepN gK k1
  replace hrx := S.rd_n hrx k1
  replace hry := S.rd_n hry k1
  clear k1 hR
  clear hrx hry
  obtain ⟨x0, x1, x2, x3, x4⟩ := blk5 (v := ⟨s0, A, na, ca, A2, nb, cb, L, nl, cl, D, nd, cd⟩) bx
  obtain ⟨y0, y1, y2, y3, y4⟩ := blk5 (v := ⟨s1, A3, ne, ce, A4, nf, cf, L2, ng, cg, D2, nh, ch⟩) bo
  dsimp only at x0 x1 x2 x3 x4 y0 y1 y2 y3 y4
  go_wp2_with fail
  have gK0 := gK
  clear gK
  refine wp_region_props2 77 99 (NoB) (by kernel_rfl) (by kernel_rfl) (SBn ) (fun i u x y _ h _ => SBn_stable  i u x y h) (of_decide_eq_true rfl) ?step ?spec ?fin
  case step =>
    intro i o a w' ho hic hF hK hA
    have hi : i < 13 := by simpa using (Array.getElem?_eq_some_iff.1 ho).1
    by_cases h0 : i = 0
    · subst h0
      simp only [List.getElem?_toArray, List.getElem?_cons_zero, Option.some.injEq] at ho
      subst ho
      have e11 : a.tmps.getD 11 undef = .int .i64 70 := hF.2.2 11 (.inl (by decide))
      refine Does.plain rfl ?_
      unfold yieldsK
      go_simp
      exact ⟨rfl, Keep.refl _ _⟩
    by_cases h1 : i = 1
    · subst h1
      simp only [List.getElem?_toArray, List.getElem?_cons_zero, List.getElem?_cons_succ, Option.some.injEq] at ho
      subst ho
      have e77 : a.tmps.getD 77 undef = .int .i64 70 := hA ⟨0, .data⟩ (by simp) rfl
      refine Does.plain rfl ?_
      unfold yieldsK
      go_simp
      exact ⟨rfl, Keep.refl _ _⟩
    by_cases h2 : i = 2
    · subst h2
      simp only [List.getElem?_toArray, List.getElem?_cons_zero, List.getElem?_cons_succ, Option.some.injEq] at ho
      subst ho
      have e78 : a.tmps.getD 78 undef = .bool false := hA ⟨1, .data⟩ (by simp) rfl
      refine Does.plain rfl ?_
      unfold yieldsK
      go_simp
      exact ⟨rfl, Keep.refl _ _⟩
    by_cases h3 : i = 3
    · subst h3
      simp only [List.getElem?_toArray, List.getElem?_cons_zero, List.getElem?_cons_succ, Option.some.injEq] at ho
      subst ho
      refine Does.no (j := 2) (d := 79) (want := true) rfl rfl (hA ⟨2, .guard⟩ (by simp) rfl) ?_
      exact ⟨trivial, Keep.refl _ _⟩
    by_cases h4 : i = 4
    · subst h4
      simp only [List.getElem?_toArray, List.getElem?_cons_zero, List.getElem?_cons_succ, Option.some.injEq] at ho
      subst ho
      refine Does.no (j := 2) (d := 79) (want := true) rfl rfl (hA ⟨2, .guard⟩ (by simp) rfl) ?_
      exact ⟨trivial, Keep.refl _ _⟩
    by_cases h5 : i = 5
    · subst h5
      simp only [List.getElem?_toArray, List.getElem?_cons_zero, List.getElem?_cons_succ, Option.some.injEq] at ho
      subst ho
      refine Does.no (j := 2) (d := 79) (want := true) rfl rfl (hA ⟨2, .guard⟩ (by simp) rfl) ?_
      exact ⟨trivial, Keep.refl _ _⟩
    by_cases h6 : i = 6
    · subst h6
      simp only [List.getElem?_toArray, List.getElem?_cons_zero, List.getElem?_cons_succ, Option.some.injEq] at ho
      subst ho
      refine Does.no (j := 2) (d := 79) (want := true) rfl rfl (hA ⟨2, .guard⟩ (by simp) rfl) ?_
      exact ⟨trivial, Keep.refl _ _⟩
    by_cases h7 : i = 7
    · subst h7
      simp only [List.getElem?_toArray, List.getElem?_cons_zero, List.getElem?_cons_succ, Option.some.injEq] at ho
      subst ho
      refine Does.no (j := 2) (d := 79) (want := true) rfl rfl (hA ⟨2, .guard⟩ (by simp) rfl) ?_
      exact ⟨trivial, Keep.refl _ _⟩
    by_cases h8 : i = 8
    · subst h8
      simp only [List.getElem?_toArray, List.getElem?_cons_zero, List.getElem?_cons_succ, Option.some.injEq] at ho
      subst ho
      refine Does.no (j := 2) (d := 79) (want := true) rfl rfl (hA ⟨2, .guard⟩ (by simp) rfl) ?_
      exact ⟨trivial, Keep.refl _ _⟩
    by_cases h9 : i = 9
    · subst h9
      simp only [List.getElem?_toArray, List.getElem?_cons_zero, List.getElem?_cons_succ, Option.some.injEq] at ho
      subst ho
      refine Does.no (j := 2) (d := 79) (want := true) rfl rfl (hA ⟨2, .guard⟩ (by simp) rfl) ?_
      exact ⟨trivial, Keep.refl _ _⟩
    by_cases h10 : i = 10
    · subst h10
      simp only [List.getElem?_toArray, List.getElem?_cons_zero, List.getElem?_cons_succ, Option.some.injEq] at ho
      subst ho
      refine Does.no (j := 2) (d := 79) (want := true) rfl rfl (hA ⟨2, .guard⟩ (by simp) rfl) ?_
      exact ⟨trivial, Keep.refl _ _⟩
    by_cases h11 : i = 11
    · subst h11
      simp only [List.getElem?_toArray, List.getElem?_cons_zero, List.getElem?_cons_succ, Option.some.injEq] at ho
      subst ho
      refine Does.no (j := 2) (d := 79) (want := true) rfl rfl (hA ⟨2, .guard⟩ (by simp) rfl) ?_
      exact ⟨trivial, Keep.refl _ _⟩
    by_cases h12 : i = 12
    · subst h12
      simp only [List.getElem?_toArray, List.getElem?_cons_zero, List.getElem?_cons_succ, Option.some.injEq] at ho
      subst ho
      have e79 : a.tmps.getD 79 undef = .bool false := hA ⟨2, .data⟩ (by simp) rfl
      refine Does.plain rfl ?_
      unfold yieldsK
      go_simp
      exact ⟨rfl, Keep.refl _ _⟩
    omega
  case spec =>
    intro o a w' ho
    simp at ho
  case fin =>
    intro a w' hF gK hA
    have e89 : a.tmps.getD (77 + 12) undef = .bool false := hA 12 (by decide)
    have ha := frame_fill (n := 13) hF (of_decide_eq_true rfl)
    rw [ha]
    rw [show List.range 13 = [0, 1, 2, 3, 4, 5, 6, 7, 8, 9, 10, 11, 12] from rfl]
    simp only [List.map_cons, List.map_nil, e89]
    generalize a.tmps.getD (77 + 0) undef = u0
    generalize a.tmps.getD (77 + 1) undef = u1
    generalize a.tmps.getD (77 + 2) undef = u2
    generalize a.tmps.getD (77 + 3) undef = u3
    generalize a.tmps.getD (77 + 4) undef = u4
    generalize a.tmps.getD (77 + 5) undef = u5
    generalize a.tmps.getD (77 + 6) undef = u6
    generalize a.tmps.getD (77 + 7) undef = u7
    generalize a.tmps.getD (77 + 8) undef = u8
    generalize a.tmps.getD (77 + 9) undef = u9
    generalize a.tmps.getD (77 + 10) undef = u10
    generalize a.tmps.getD (77 + 11) undef = u11
    simp only [fillT, List.setIfInBounds_toArray, List.set_cons_zero, List.set_cons_succ]
    have k1 := gK
    replace bx := bx.keep k1 id
    replace bo := bo.keep k1 id
    have gK := keepN gK0 k1
    clear gK0 hA hF ha e89 k1 x0 x1 x2 x3 x4 y0 y1 y2 y3 y4
    have gq := gK.size
    go_wp2_with fail
    refine (V.on_any _ B b d (HRB.out _ gK) HL.out).mono ?_
    rintro e wp ⟨bq, rfl, hR, k1⟩
    have hbq := hR.1
    replace hR := hR.mono (O' := fun k => w.heap.size ≤ k ∧ k < wp.heap.size) (fun k ho hk => ⟨Nat.le_trans gK.size ho, hk⟩)
    replace gK := keepN gK k1
    have gp := gK.size
    unfold Fresh at hbq
    clear k1
    go_wp2_with fail
    refine (decodeF_any _ bq _ b 0 (fun k hk => hk.2) hR HL.out).mono ?_
    rintro e wq (⟨hn, _⟩ | ⟨fz, Qz, z, hsm, rfl, hP2, hR, k1⟩)
    · have := HD.out; rw [hn] at this; cases this
    obtain ⟨rfl, rfl⟩ : fz = fp ∧ Qz = Q := by have := HD.out; rw [hsm] at this; injection this with this; injection this with e1 e2; exact ⟨e1, e2⟩
    have sz := sm_ok hP2 HZ.out.1
    have HEZ := Lib.hid (fun W hk => encodeF_any z fz W (hP2.fn.keepN hk) sz)
    rw [chkF_ok HZ.out.1, encF_ok HZ.out.1] at HEZ
    have HZ2 := Lib.hid (And.intro HZ.out.2.1 HZ.out.2.2)
    obtain ⟨zs, hzs⟩ : ∃ x, bytesF fz = x := ⟨_, rfl⟩
    rw [hzs] at HEZ HZ2
    clear hsm HZ hzs
    obtain ⟨pS, pA, pna, pca, pB, pnb, pcb, pL, pnl, pcl, pD, pnd, pcd⟩ := z
    dsimp only [FV.val, FV.cells] at HEZ ⊢
    have kA := (Keep.refl NoB wq).alloc (.cells (FV.cells ⟨pS, pA, pna, pca, pB, pnb, pcb, pL, pnl, pcl, pD, pnd, pcd⟩) 27)
    have b16 := Blk.new wq 27 (FV.cells ⟨pS, pA, pna, pca, pB, pnb, pcb, pL, pnl, pcl, pD, pnd, pcd⟩)
    dsimp only [FV.cells] at kA b16
    replace gK := keepN (gK.trans k1 (fun k e hk => by omega)) kA
    replace hR := hR.keep kA (fun _ _ => id)
    obtain ⟨z0, z1, z2, z3, z4⟩ := blk5 (v := ⟨pS, pA, pna, pca, pB, pnb, pcb, pL, pnl, pcl, pD, pnd, pcd⟩) b16
    dsimp only at z0 z1 z2 z3 z4
    clear k1 hP2 b16
    go_wp2_with fail
    refine (HEZ.out _ kA).mono ?_
    rintro e wr ⟨vz, rfl, hz, k1⟩
    obtain ⟨Z, cz, rfl, hrz, _⟩ := own_rdB hz
    replace gK := keepN gK k1
    replace hR := hR.keep k1 (fun _ _ => id)
    have hrb := HRB.out _ gK
    have hQb : Qz ≤ b.length := HZ2.out.2
    have hQd : Qz ≤ d := Nat.le_trans hQb HDC.out
    have HCZ := Lib.hid (fun W (hk : Keep NoB wr W) c => (V.conv_rd (c := c) (S.rd_n hrz hk)))
    have HCB := Lib.hid (fun W (hk : Keep NoB wr W) c => (V.conv_rd (c := c) (rd_takeF (S.rd_n hrb hk) Qz)))
    have htl : (b.take Qz).length = Qz := by rw [List.length_take]; omega
    rw [htl, HZ2.out.1] at HCB
    generalize V.str zs = E at HCZ HCB
    have HRR := Lib.hid hR
    clear z0 z1 z2 z3 z4 hz k1 kA hR hrz hrb htl HZ2 HEZ
    go_wp2_with fail
    have gK0 := gK
    clear gK
    refine wp_region_tail (fun i => [116, 117, 118, 119, 120, 121, 122, 123, 124, 125, 126, 127, 128, 129, 130].getD i 0) 15 (by kernel_rfl) (by kernel_rfl) (by kernel_rfl) (by kernel_rfl) (by kernel_rfl) (SBz Z B zs cz b.length d bq Qz E) (fun i u x y h _ => SBz_stable _ _ _ _ _ _ _ _ _ i u x y h) rfl ?step ?fin
    case step =>
      intro i o a w' hoo hi hF hK hA
      by_cases h0 : i = 0
      · subst h0
        simp only [List.getElem?_toArray, List.getElem?_cons_zero, Option.some.injEq] at hoo
        subst hoo
        have e7 : a.tmps.getD 7 undef = .bool true := hF.2.2 7 (by decide)
        refine Does.plain rfl ?_
        unfold yieldsK
        go_simp
        exact ⟨rfl, Keep.refl _ _⟩
      by_cases h1 : i = 1
      · subst h1
        simp only [List.getElem?_toArray, List.getElem?_cons_zero, List.getElem?_cons_succ, Option.some.injEq] at hoo
        subst hoo
        have e116 : a.tmps.getD 116 undef = .bool true := hA ⟨0, .data⟩ (by simp) rfl
        refine Does.plain rfl ?_
        unfold yieldsK
        go_simp
        exact ⟨rfl, Keep.refl _ _⟩
      by_cases h2 : i = 2
      · subst h2
        simp only [List.getElem?_toArray, List.getElem?_cons_zero, List.getElem?_cons_succ, Option.some.injEq] at hoo
        subst hoo
        have e19 : a.tmps.getD 19 undef = .int .i64 0 := hF.2.2 19 (by decide)
        refine Does.yes (j := 1) (d := 117) (want := true) rfl rfl (hA ⟨1, .guard⟩ (by simp) rfl) ?_
        unfold yieldsK
        go_simp
        exact ⟨rfl, Keep.refl _ _⟩
      by_cases h3 : i = 3
      · subst h3
        simp only [List.getElem?_toArray, List.getElem?_cons_zero, List.getElem?_cons_succ, Option.some.injEq] at hoo
        subst hoo
        have e118 : a.tmps.getD 118 undef = .int .i64 0 := hA ⟨2, .data⟩ (by simp) rfl
        refine Does.yes (j := 1) (d := 117) (want := true) rfl rfl (hA ⟨1, .guard⟩ (by simp) rfl) ?_
        unfold yieldsK
        go_simp
        exact ⟨rfl, Keep.refl _ _⟩
      by_cases h4 : i = 4
      · subst h4
        simp only [List.getElem?_toArray, List.getElem?_cons_zero, List.getElem?_cons_succ, Option.some.injEq] at hoo
        subst hoo
        have e117 : a.tmps.getD 117 undef = .bool true := hA ⟨1, .data⟩ (by simp) rfl
        have e119 : a.tmps.getD 119 undef = .bool true := hA ⟨3, .data⟩ (by simp) rfl
        refine Does.plain rfl ?_
        unfold yieldsK
        go_simp
        exact ⟨rfl, Keep.refl _ _⟩
      by_cases h5 : i = 5
      · subst h5
        simp only [List.getElem?_toArray, List.getElem?_cons_zero, List.getElem?_cons_succ, Option.some.injEq] at hoo
        subst hoo
        have e120 : a.tmps.getD 120 undef = .bool true := hA ⟨4, .data⟩ (by simp) rfl
        refine Does.plain rfl ?_
        unfold yieldsK
        go_simp
        exact ⟨rfl, Keep.refl _ _⟩
      by_cases h6 : i = 6
      · subst h6
        simp only [List.getElem?_toArray, List.getElem?_cons_zero, List.getElem?_cons_succ, Option.some.injEq] at hoo
        subst hoo
        have e18 : a.tmps.getD 18 undef = .slice Z zs.length cz := hF.2.2 18 (by decide)
        refine Does.yes (j := 5) (d := 121) (want := true) rfl rfl (hA ⟨5, .guard⟩ (by simp) rfl) ?_
        unfold yieldsK
        go_simp
        exact ⟨rfl, Keep.refl _ _⟩
      by_cases h7 : i = 7
      · subst h7
        simp only [List.getElem?_toArray, List.getElem?_cons_zero, List.getElem?_cons_succ, Option.some.injEq] at hoo
        subst hoo
        have e122 : a.tmps.getD 122 undef = .slice Z zs.length cz := hA ⟨6, .data⟩ (by simp) rfl
        have cv := HCZ.out w' hK cz
        refine Does.yes (j := 5) (d := 121) (want := true) rfl rfl (hA ⟨5, .guard⟩ (by simp) rfl) ?_
        unfold yieldsK
        go_simp
        exact ⟨rfl, Keep.refl _ _⟩
      by_cases h8 : i = 8
      · subst h8
        simp only [List.getElem?_toArray, List.getElem?_cons_zero, List.getElem?_cons_succ, Option.some.injEq] at hoo
        subst hoo
        have e2 : a.tmps.getD 2 undef = .slice B b.length d := hF.2.2 2 (by decide)
        refine Does.yes (j := 5) (d := 121) (want := true) rfl rfl (hA ⟨5, .guard⟩ (by simp) rfl) ?_
        unfold yieldsK
        go_simp
        exact ⟨rfl, Keep.refl _ _⟩
      by_cases h9 : i = 9
      · subst h9
        simp only [List.getElem?_toArray, List.getElem?_cons_zero, List.getElem?_cons_succ, Option.some.injEq] at hoo
        subst hoo
        have e15 : a.tmps.getD 15 undef = .pointer (some ⟨bq, 0, none⟩) := hF.2.2 15 (by decide)
        refine Does.yes (j := 5) (d := 121) (want := true) rfl rfl (hA ⟨5, .guard⟩ (by simp) rfl) ?_
        unfold yieldsK
        go_simp
        exact ⟨rfl, Keep.refl _ _⟩
      by_cases h10 : i = 10
      · subst h10
        simp only [List.getElem?_toArray, List.getElem?_cons_zero, List.getElem?_cons_succ, Option.some.injEq] at hoo
        subst hoo
        have e125 : a.tmps.getD 125 undef = .pointer (some ⟨bq, 0, none⟩) := hA ⟨9, .data⟩ (by simp) rfl
        refine Does.yes (j := 5) (d := 121) (want := true) rfl rfl (hA ⟨5, .guard⟩ (by simp) rfl) ?_
        unfold yieldsK
        go_simp
        refine (S.at_gen HRR.out hK).mono ?_
        rintro e w2 ⟨rfl, h2⟩
        exact ⟨_, rfl, rfl, h2⟩
      by_cases h11 : i = 11
      · subst h11
        simp only [List.getElem?_toArray, List.getElem?_cons_zero, List.getElem?_cons_succ, Option.some.injEq] at hoo
        subst hoo
        have e124 : a.tmps.getD 124 undef = .slice B b.length d := hA ⟨8, .data⟩ (by simp) rfl
        have e126 : a.tmps.getD 126 undef = .int .i64 (Qz : Int) := hA ⟨10, .data⟩ (by simp) rfl
        refine Does.yes (j := 5) (d := 121) (want := true) rfl rfl (hA ⟨5, .guard⟩ (by simp) rfl) ?_
        unfold yieldsK
        go_simp
        exact ⟨⟨_, rfl⟩, Keep.refl _ _⟩
      by_cases h12 : i = 12
      · subst h12
        simp only [List.getElem?_toArray, List.getElem?_cons_zero, List.getElem?_cons_succ, Option.some.injEq] at hoo
        subst hoo
        obtain ⟨c5, e127⟩ := hA ⟨11, .data⟩ (by simp) rfl
        have e127 : a.tmps.getD 127 undef = .slice B Qz c5 := e127
        have cv := HCB.out w' hK c5
        refine Does.yes (j := 5) (d := 121) (want := true) rfl rfl (hA ⟨5, .guard⟩ (by simp) rfl) ?_
        unfold yieldsK
        go_simp
        exact ⟨rfl, Keep.refl _ _⟩
      by_cases h13 : i = 13
      · subst h13
        simp only [List.getElem?_toArray, List.getElem?_cons_zero, List.getElem?_cons_succ, Option.some.injEq] at hoo
        subst hoo
        have e123 : a.tmps.getD 123 undef = .string E := hA ⟨7, .data⟩ (by simp) rfl
        have e128 : a.tmps.getD 128 undef = .string E := hA ⟨12, .data⟩ (by simp) rfl
        refine Does.yes (j := 5) (d := 121) (want := true) rfl rfl (hA ⟨5, .guard⟩ (by simp) rfl) ?_
        unfold yieldsK
        go_simp
        exact ⟨rfl, Keep.refl _ _⟩
      by_cases h14 : i = 14
      · subst h14
        simp only [List.getElem?_toArray, List.getElem?_cons_zero, List.getElem?_cons_succ, Option.some.injEq] at hoo
        subst hoo
        have e121 : a.tmps.getD 121 undef = .bool true := hA ⟨5, .data⟩ (by simp) rfl
        have e129 : a.tmps.getD 129 undef = .bool true := hA ⟨13, .data⟩ (by simp) rfl
        refine Does.plain rfl ?_
        unfold yieldsK
        go_simp
        exact ⟨rfl, Keep.refl _ _⟩
      omega
    case fin =>
      intro a w' hF gK hA
      have e130 : a.tmps.getD 130 undef = .bool true := hA 14 (by decide)
      have ha := frameD_list (l := [116, 117, 118, 119, 120, 121, 122, 123, 124, 125, 126, 127, 128, 129, 130]) rfl hF
      rw [ha]
      simp only [List.map_cons, List.map_nil, e130]
      generalize a.tmps.getD 116 undef = u0
      generalize a.tmps.getD 117 undef = u1
      generalize a.tmps.getD 118 undef = u2
      generalize a.tmps.getD 119 undef = u3
      generalize a.tmps.getD 120 undef = u4
      generalize a.tmps.getD 121 undef = u5
      generalize a.tmps.getD 122 undef = u6
      generalize a.tmps.getD 123 undef = u7
      generalize a.tmps.getD 124 undef = u8
      generalize a.tmps.getD 125 undef = u9
      generalize a.tmps.getD 126 undef = u10
      generalize a.tmps.getD 127 undef = u11
      generalize a.tmps.getD 128 undef = u12
      generalize a.tmps.getD 129 undef = u13
      simp only [fillD, List.setIfInBounds_toArray, List.set_cons_zero, List.set_cons_succ]
      simp only [List.drop_succ_cons, List.drop_zero]
      have HK9 := Lib.hid (keepN gK0 gK)
      clear gK gK0 hA hF ha e130 HCZ HCB HRR
      go_wp2
      go_ret
      exact ⟨rfl, HK9.out⟩

set_option maxRecDepth 100000 in
set_option maxHeartbeats 16000000 in
theorem back_ynn (v : FV) (f : Fu) (u : FV) (g : Fu) (B : Option Addr) (b : List UInt8) (d : Nat) (w : World) (h : FnAt w v f) (h2 : FnAt w u g) (hb : V.Rd w B b) (hs : SmF v) (hs2 : SmF u) (h4 : b.length ≤ 8000) (hf : okF f = true) (hg : okF g = false) (hd : decF b 0 = none) :
    Calls Tryz.prog 6 #[v.val, u.val, .slice B b.length d] w fun e w' => e = .returned (.bool true) ∧ Keep NoB w w' := by
  have bx := (Blk.new w 27 v.cells).alloc (.cells u.cells 27)
  have bo := Blk.new (w.alloc (.cells v.cells 27)) 27 u.cells
  rw [World.size_alloc] at bo
  have gK := ((Keep.refl NoB w).alloc (.cells v.cells 27)).alloc (.cells u.cells 27)
  have HG1 := Lib.hid (fun w => great_no v w hs)
  have HG2 := Lib.hid (fun w => great_no u w hs2)
  have hq4 : decide ((8000 : Int) < (b.length : Int)) = false := by rw [decide_eq_false_iff_not]; omega
  have HL : Hid (b.length ≤ 140737488355328) := by show _ ≤ _; omega
  have HEF := Lib.hid (fun W hk => encodeF_any v f W (h.keepN hk) hs)
  have HEG := Lib.hid (fun W hk => encodeF_any u g W (h2.keepN hk) hs2)
  have HFV := Lib.hid (fun W hk => (h.keepN hk : FnAt W v f))
  have HFU := Lib.hid (fun W hk => (h2.keepN hk : FnAt W u g))
  have HRB := Lib.hid (fun W hk => S.rd_n (w' := W) hb hk)
  have HS := Lib.hid (And.intro hs hs2)
  have HD := Lib.hid hd
  rw [chkF_ok hf, encF_ok hf] at HEF
  have hfl := bytesF_len hf
  have HDF := Lib.hid (decF_enc (l := bytesF f ++ b) (p := 0) (t := b) hf (by simp))
  rw [Nat.zero_add] at HDF
  rw [chkF_no hg] at HEG
  clear h h2 hs hs2 hb hd hf hg
  obtain ⟨xs, hxs⟩ : ∃ x, bytesF f = x := ⟨_, rfl⟩
  rw [hxs] at HEF HDF hfl
  clear hxs
  obtain ⟨ys, hys⟩ : ∃ x, encF g = x := ⟨_, rfl⟩
  rw [hys] at HEG
  clear hys
  obtain ⟨s0, A, na, ca, A2, nb, cb, L, nl, cl, D, nd, cd⟩ := v
  obtain ⟨s1, A3, ne, ce, A4, nf, cf, L2, ng, cg, D2, nh, ch⟩ := u
  dsimp only [FV.val, FV.cells] at HEF HEG HFV HFU HG1 HG2 bx bo gK ⊢
  go_enter Tryz.func6, Tryz.ntmps6
  go_wp2_with fail
  refine (alive_any _).mono ?_
  rintro e wl ⟨rfl, k1⟩
  replace bx := bx.keep k1 id
  replace bo := bo.keep k1 id
  replace gK := keepN gK k1
  clear k1
  obtain ⟨x0, x1, x2, x3, x4⟩ := blk5 (v := ⟨s0, A, na, ca, A2, nb, cb, L, nl, cl, D, nd, cd⟩) bx
  obtain ⟨y0, y1, y2, y3, y4⟩ := blk5 (v := ⟨s1, A3, ne, ce, A4, nf, cf, L2, ng, cg, D2, nh, ch⟩) bo
  dsimp only at x0 x1 x2 x3 x4 y0 y1 y2 y3 y4
  go_wp2_with fail
  refine (HG1.out _).mono ?_
  rintro e wg1 ⟨rfl, k1⟩
  replace bx := bx.keep k1 id
  replace bo := bo.keep k1 id
  replace gK := keepN gK k1
  clear k1
  clear x0 x1 x2 x3 x4 y0 y1 y2 y3 y4
  obtain ⟨x0, x1, x2, x3, x4⟩ := blk5 (v := ⟨s0, A, na, ca, A2, nb, cb, L, nl, cl, D, nd, cd⟩) bx
  obtain ⟨y0, y1, y2, y3, y4⟩ := blk5 (v := ⟨s1, A3, ne, ce, A4, nf, cf, L2, ng, cg, D2, nh, ch⟩) bo
  dsimp only at x0 x1 x2 x3 x4 y0 y1 y2 y3 y4
  go_wp2_with fail
  refine (HG2.out _).mono ?_
  rintro e wg2 ⟨rfl, k1⟩
  replace bx := bx.keep k1 id
  replace bo := bo.keep k1 id
  replace gK := keepN gK k1
  clear k1
  clear x0 x1 x2 x3 x4 y0 y1 y2 y3 y4
  obtain ⟨x0, x1, x2, x3, x4⟩ := blk5 (v := ⟨s0, A, na, ca, A2, nb, cb, L, nl, cl, D, nd, cd⟩) bx
  obtain ⟨y0, y1, y2, y3, y4⟩ := blk5 (v := ⟨s1, A3, ne, ce, A4, nf, cf, L2, ng, cg, D2, nh, ch⟩) bo
  dsimp only at x0 x1 x2 x3 x4 y0 y1 y2 y3 y4
  go_wp2_with fail
  refine (HEF.out _ gK).mono ?_
  rintro e w1 ⟨vx, rfl, hx, k1⟩
  obtain ⟨X, cx, rfl, hrx, hxl⟩ := own_rdB hx
  replace bx := bx.keep k1 id
  replace bo := bo.keep k1 id
  replace gK := keepN gK k1
  clear k1 hx
  clear x0 x1 x2 x3 x4 y0 y1 y2 y3 y4
  obtain ⟨x0, x1, x2, x3, x4⟩ := blk5 (v := ⟨s0, A, na, ca, A2, nb, cb, L, nl, cl, D, nd, cd⟩) bx
  obtain ⟨y0, y1, y2, y3, y4⟩ := blk5 (v := ⟨s1, A3, ne, ce, A4, nf, cf, L2, ng, cg, D2, nh, ch⟩) bo
  dsimp only at x0 x1 x2 x3 x4 y0 y1 y2 y3 y4
  go_wp2_with fail
  refine (HEG.out _ gK).mono ?_
  rintro e w2 ⟨vy, rfl, hy, k1⟩
  obtain ⟨Y, cy, rfl, hry, hyl⟩ := own_rdB hy
  replace bx := bx.keep k1 id
  replace bo := bo.keep k1 id
  replace gK := keepN gK k1
  replace hrx := S.rd_n hrx k1
  replace hxl := fun ad e => Nat.lt_of_lt_of_le (hxl ad e) k1.size
  clear k1 hy HEF HEG HG1 HG2
  clear x0 x1 x2 x3 x4 y0 y1 y2 y3 y4
  obtain ⟨x0, x1, x2, x3, x4⟩ := blk5 (v := ⟨s0, A, na, ca, A2, nb, cb, L, nl, cl, D, nd, cd⟩) bx
  obtain ⟨y0, y1, y2, y3, y4⟩ := blk5 (v := ⟨s1, A3, ne, ce, A4, nf, cf, L2, ng, cg, D2, nh, ch⟩) bo
  dsimp only at x0 x1 x2 x3 x4 y0 y1 y2 y3 y4
  have hm2 := made_ownF w2
  have ru2 := S.rd_n hrx ((Keep.refl NoB w2).alloc (.cells #[] 5))
  go_wp2_with (first | (at_builtin; refine V.wpList_append_rd _ rfl (.tmp 51) (.tmp 52) rfl (.slice (some ⟨w2.heap.size, 0, none⟩) 0 0) [] xs X cx rfl hm2.1 rfl ru2 (by simp; omega) ?_; intro v1 w3 hown hg hat; have hap := own_appB hm2 ((Keep.refl NoB w2).alloc _) hown hg hat; rw [List.nil_append] at hap; have rb3 := HRB.out _ (keepN gK hap.2); clear hown hg hat) | (at_builtin; refine V.wpList_append_rd _ rfl (.tmp 53) (.tmp 54) rfl v1 xs b B d rfl hap.1.1 rfl rb3 (by omega) ?_; intro v2 w4 hown hg hat; have hap2 := own_appB hap.1 hap.2 hown hg hat; clear hown hg hat))
  obtain ⟨A5, c5, rfl, r5, _⟩ := own_rdB hap2.1
  have k1 := hap2.2
  clear hap hap2 hm2 ru2 rb3
  clear x0 x1 x2 x3 x4 y0 y1 y2 y3 y4
  replace bx := bx.keep k1 id
  replace bo := bo.keep k1 id
  replace gK := keepN gK k1
  replace hrx := S.rd_n hrx k1
  replace hry := S.rd_n hry k1
  replace hxl := fun ad e => Nat.lt_of_lt_of_le (hxl ad e) k1.size
  replace hyl := fun ad e => Nat.lt_of_lt_of_le (hyl ad e) k1.size
  clear k1
  have HUL : Hid ((xs ++ b).length ≤ 140737488355328) := by show _ ≤ _; rw [List.length_append]; omega
  go_wp2_with fail
  refine (V.on_any _ A5 (xs ++ b) c5 r5 HUL.out).mono ?_
  rintro e w5 ⟨br, rfl, hR, k1⟩
  have hbr : w4.heap.size ≤ br := hR.1
  have hR : V.ReelAt w5 br (fun k => w4.heap.size ≤ k ∧ k < w5.heap.size) (xs ++ b) 0 := hR.mono fun _ ho hk => ⟨ho, hk⟩
  have gb := bo.lt
  have gs5 := k1.size
  replace bx := bx.keep k1 id
  replace bo := bo.keep k1 id
  replace gK := keepN gK k1
  replace hrx := S.rd_n hrx k1
  replace hry := S.rd_n hry k1
  clear k1 r5
  go_wp2_with fail
  refine (decodeF_any _ br _ (xs ++ b) 0 (fun k hk => by omega) hR HUL.out).mono ?_
  rintro e w6 (⟨hn, _⟩ | ⟨fp', Q', p, hsm, rfl, hP, hR, k1⟩)
  · have := HDF.out; rw [hn] at this; cases this
  obtain ⟨rfl, rfl⟩ : fp' = f ∧ Q' = xs.length := by have := HDF.out; rw [hsm] at this; injection this with this; injection this with e1 e2; exact ⟨e1, e2⟩
  have sp := sm_own hP (HFV.out _ gK) HS.out.1
  clear hsm HDF
  obtain ⟨pS, pA, pna, pca, pB, pnb, pcb, pL, pnl, pcl, pD, pnd, pcd⟩ := p
  dsimp only [FV.val, FV.cells]
  have kA := (Keep.refl NoB w6).alloc (.cells (FV.cells ⟨pS, pA, pna, pca, pB, pnb, pcb, pL, pnl, pcl, pD, pnd, pcd⟩) 27)
  have b13 := Blk.new w6 27 (FV.cells ⟨pS, pA, pna, pca, pB, pnb, pcb, pL, pnl, pcl, pD, pnd, pcd⟩)
  dsimp only [FV.cells] at kA b13
  have k2 := k1.trans kA (fun _ hf _ => hf.elim)
  replace bx := bx.keep k2 (fun e => by omega)
  replace bo := bo.keep k2 (fun e => by omega)
  replace gK := gK.trans k2 (fun k e hk => by omega)
  replace hrx := hrx.keep k2 (fun ad e _ h => by have := hxl ad e; omega)
  replace hry := hry.keep k2 (fun ad e _ h => by have := hyl ad e; omega)
  replace hP := hP.keepN kA
  replace hR := hR.keep kA (fun _ _ => id)
  clear k1 kA k2 hxl hyl
  obtain ⟨z0, z1, z2, z3, z4⟩ := blk5 (v := ⟨pS, pA, pna, pca, pB, pnb, pcb, pL, pnl, pcl, pD, pnd, pcd⟩) b13
  dsimp only at z0 z1 z2 z3 z4
  obtain ⟨x0, x1, x2, x3, x4⟩ := blk5 (v := ⟨s0, A, na, ca, A2, nb, cb, L, nl, cl, D, nd, cd⟩) bx
  obtain ⟨y0, y1, y2, y3, y4⟩ := blk5 (v := ⟨s1, A3, ne, ce, A4, nf, cf, L2, ng, cg, D2, nh, ch⟩) bo
  dsimp only at x0 x1 x2 x3 x4 y0 y1 y2 y3 y4
  go_wp2_with fail
  refine (sameF_any ⟨pS, pA, pna, pca, pB, pnb, pcb, pL, pnl, pcl, pD, pnd, pcd⟩ fp' ⟨s0, A, na, ca, A2, nb, cb, L, nl, cl, D, nd, cd⟩ fp' _ hP.fn (HFV.out _ gK) sp HS.out.1).mono ?_
  rintro e w7 ⟨rfl, k1⟩
  rw [(sameF_iff _ _).2 rfl]
  replace hR := hR.keep k1 (fun _ _ => id)
  replace bx := bx.keep k1 id
  replace bo := bo.keep k1 id
  replace gK := keepN gK k1
  replace hrx := S.rd_n hrx k1
  replace hry := S.rd_n hry k1
  clear k1 hP b13 z0 z1 z2 z3 z4
  clear x0 x1 x2 x3 x4 y0 y1 y2 y3 y4
  go_wp2_with fail
  refine (S.at_gen hR (Keep.refl _ _)).mono ?_
  rintro e w8 ⟨rfl, k1⟩
  replace bx := bx.keep k1 id
  replace bo := bo.keep k1 id
  replace gK := keepN gK k1
  replace hrx := S.rd_n hrx k1
  replace hry := S.rd_n hry k1
  clear k1 hR
  clear hrx hry
  obtain ⟨x0, x1, x2, x3, x4⟩ := blk5 (v := ⟨s0, A, na, ca, A2, nb, cb, L, nl, cl, D, nd, cd⟩) bx
  obtain ⟨y0, y1, y2, y3, y4⟩ := blk5 (v := ⟨s1, A3, ne, ce, A4, nf, cf, L2, ng, cg, D2, nh, ch⟩) bo
  dsimp only at x0 x1 x2 x3 x4 y0 y1 y2 y3 y4
  go_wp2_with fail
  have gK0 := gK
  clear gK
  refine wp_region_props2 77 99 (NoB) (by kernel_rfl) (by kernel_rfl) (SBn ) (fun i u x y _ h _ => SBn_stable  i u x y h) (of_decide_eq_true rfl) ?step ?spec ?fin
  case step =>
    intro i o a w' ho hic hF hK hA
    have hi : i < 13 := by simpa using (Array.getElem?_eq_some_iff.1 ho).1
    by_cases h0 : i = 0
    · subst h0
      simp only [List.getElem?_toArray, List.getElem?_cons_zero, Option.some.injEq] at ho
      subst ho
      have e11 : a.tmps.getD 11 undef = .int .i64 70 := hF.2.2 11 (.inl (by decide))
      refine Does.plain rfl ?_
      unfold yieldsK
      go_simp
      exact ⟨rfl, Keep.refl _ _⟩
    by_cases h1 : i = 1
    · subst h1
      simp only [List.getElem?_toArray, List.getElem?_cons_zero, List.getElem?_cons_succ, Option.some.injEq] at ho
      subst ho
      have e77 : a.tmps.getD 77 undef = .int .i64 70 := hA ⟨0, .data⟩ (by simp) rfl
      refine Does.plain rfl ?_
      unfold yieldsK
      go_simp
      exact ⟨rfl, Keep.refl _ _⟩
    by_cases h2 : i = 2
    · subst h2
      simp only [List.getElem?_toArray, List.getElem?_cons_zero, List.getElem?_cons_succ, Option.some.injEq] at ho
      subst ho
      have e78 : a.tmps.getD 78 undef = .bool false := hA ⟨1, .data⟩ (by simp) rfl
      refine Does.plain rfl ?_
      unfold yieldsK
      go_simp
      exact ⟨rfl, Keep.refl _ _⟩
    by_cases h3 : i = 3
    · subst h3
      simp only [List.getElem?_toArray, List.getElem?_cons_zero, List.getElem?_cons_succ, Option.some.injEq] at ho
      subst ho
      refine Does.no (j := 2) (d := 79) (want := true) rfl rfl (hA ⟨2, .guard⟩ (by simp) rfl) ?_
      exact ⟨trivial, Keep.refl _ _⟩
    by_cases h4 : i = 4
    · subst h4
      simp only [List.getElem?_toArray, List.getElem?_cons_zero, List.getElem?_cons_succ, Option.some.injEq] at ho
      subst ho
      refine Does.no (j := 2) (d := 79) (want := true) rfl rfl (hA ⟨2, .guard⟩ (by simp) rfl) ?_
      exact ⟨trivial, Keep.refl _ _⟩
    by_cases h5 : i = 5
    · subst h5
      simp only [List.getElem?_toArray, List.getElem?_cons_zero, List.getElem?_cons_succ, Option.some.injEq] at ho
      subst ho
      refine Does.no (j := 2) (d := 79) (want := true) rfl rfl (hA ⟨2, .guard⟩ (by simp) rfl) ?_
      exact ⟨trivial, Keep.refl _ _⟩
    by_cases h6 : i = 6
    · subst h6
      simp only [List.getElem?_toArray, List.getElem?_cons_zero, List.getElem?_cons_succ, Option.some.injEq] at ho
      subst ho
      refine Does.no (j := 2) (d := 79) (want := true) rfl rfl (hA ⟨2, .guard⟩ (by simp) rfl) ?_
      exact ⟨trivial, Keep.refl _ _⟩
    by_cases h7 : i = 7
    · subst h7
      simp only [List.getElem?_toArray, List.getElem?_cons_zero, List.getElem?_cons_succ, Option.some.injEq] at ho
      subst ho
      refine Does.no (j := 2) (d := 79) (want := true) rfl rfl (hA ⟨2, .guard⟩ (by simp) rfl) ?_
      exact ⟨trivial, Keep.refl _ _⟩
    by_cases h8 : i = 8
    · subst h8
      simp only [List.getElem?_toArray, List.getElem?_cons_zero, List.getElem?_cons_succ, Option.some.injEq] at ho
      subst ho
      refine Does.no (j := 2) (d := 79) (want := true) rfl rfl (hA ⟨2, .guard⟩ (by simp) rfl) ?_
      exact ⟨trivial, Keep.refl _ _⟩
    by_cases h9 : i = 9
    · subst h9
      simp only [List.getElem?_toArray, List.getElem?_cons_zero, List.getElem?_cons_succ, Option.some.injEq] at ho
      subst ho
      refine Does.no (j := 2) (d := 79) (want := true) rfl rfl (hA ⟨2, .guard⟩ (by simp) rfl) ?_
      exact ⟨trivial, Keep.refl _ _⟩
    by_cases h10 : i = 10
    · subst h10
      simp only [List.getElem?_toArray, List.getElem?_cons_zero, List.getElem?_cons_succ, Option.some.injEq] at ho
      subst ho
      refine Does.no (j := 2) (d := 79) (want := true) rfl rfl (hA ⟨2, .guard⟩ (by simp) rfl) ?_
      exact ⟨trivial, Keep.refl _ _⟩
    by_cases h11 : i = 11
    · subst h11
      simp only [List.getElem?_toArray, List.getElem?_cons_zero, List.getElem?_cons_succ, Option.some.injEq] at ho
      subst ho
      refine Does.no (j := 2) (d := 79) (want := true) rfl rfl (hA ⟨2, .guard⟩ (by simp) rfl) ?_
      exact ⟨trivial, Keep.refl _ _⟩
    by_cases h12 : i = 12
    · subst h12
      simp only [List.getElem?_toArray, List.getElem?_cons_zero, List.getElem?_cons_succ, Option.some.injEq] at ho
      subst ho
      have e79 : a.tmps.getD 79 undef = .bool false := hA ⟨2, .data⟩ (by simp) rfl
      refine Does.plain rfl ?_
      unfold yieldsK
      go_simp
      exact ⟨rfl, Keep.refl _ _⟩
    omega
  case spec =>
    intro o a w' ho
    simp at ho
  case fin =>
    intro a w' hF gK hA
    have e89 : a.tmps.getD (77 + 12) undef = .bool false := hA 12 (by decide)
    have ha := frame_fill (n := 13) hF (of_decide_eq_true rfl)
    rw [ha]
    rw [show List.range 13 = [0, 1, 2, 3, 4, 5, 6, 7, 8, 9, 10, 11, 12] from rfl]
    simp only [List.map_cons, List.map_nil, e89]
    generalize a.tmps.getD (77 + 0) undef = u0
    generalize a.tmps.getD (77 + 1) undef = u1
    generalize a.tmps.getD (77 + 2) undef = u2
    generalize a.tmps.getD (77 + 3) undef = u3
    generalize a.tmps.getD (77 + 4) undef = u4
    generalize a.tmps.getD (77 + 5) undef = u5
    generalize a.tmps.getD (77 + 6) undef = u6
    generalize a.tmps.getD (77 + 7) undef = u7
    generalize a.tmps.getD (77 + 8) undef = u8
    generalize a.tmps.getD (77 + 9) undef = u9
    generalize a.tmps.getD (77 + 10) undef = u10
    generalize a.tmps.getD (77 + 11) undef = u11
    simp only [fillT, List.setIfInBounds_toArray, List.set_cons_zero, List.set_cons_succ]
    have k1 := gK
    replace bx := bx.keep k1 id
    replace bo := bo.keep k1 id
    have gK := keepN gK0 k1
    clear gK0 hA hF ha e89 k1 x0 x1 x2 x3 x4 y0 y1 y2 y3 y4
    have gq := gK.size
    go_wp2_with fail
    refine (V.on_any _ B b d (HRB.out _ gK) HL.out).mono ?_
    rintro e wp ⟨bq, rfl, hR, k1⟩
    have hbq := hR.1
    replace hR := hR.mono (O' := fun k => w.heap.size ≤ k ∧ k < wp.heap.size) (fun k ho hk => ⟨Nat.le_trans gK.size ho, hk⟩)
    replace gK := keepN gK k1
    have gp := gK.size
    unfold Fresh at hbq
    clear k1
    go_wp2_with fail
    refine (decodeF_any _ bq _ b 0 (fun k hk => hk.2) hR HL.out).mono ?_
    rintro e wq (⟨_, rfl, ⟨q0, hR⟩, k1⟩ | ⟨fz, Qz, z, hsm, _⟩)
    case inr => have := HD.out; rw [hsm] at this; cases this
    dsimp only [nilV, FV.val, FV.cells]
    have HK9 := Lib.hid ((gK.trans k1 (fun k e hk => by omega)).alloc (.cells #[.string ⟨#[]⟩, .slice none 0 0, .slice none 0 0, .slice none 0 0, .slice none 0 0] 27))
    clear gK k1 hR
    go_wp2
    go_ret
    exact ⟨rfl, HK9.out⟩

set_option maxRecDepth 100000 in
set_option maxHeartbeats 16000000 in
theorem back_ny (v : FV) (f : Fu) (u : FV) (g : Fu) (B : Option Addr) (b : List UInt8) (d : Nat) (w : World) (h : FnAt w v f) (h2 : FnAt w u g) (hb : V.Rd w B b) (hc : b.length ≤ d) (hs : SmF v) (hs2 : SmF u) (h4 : b.length ≤ 8000) (hf : okF f = false) (fp : Fu) (Q : Nat) (hd : decF b 0 = some (fp, Q)) :
    Calls Tryz.prog 6 #[v.val, u.val, .slice B b.length d] w fun e w' => e = .returned (.bool true) ∧ Keep NoB w w' := by
  have bx := (Blk.new w 27 v.cells).alloc (.cells u.cells 27)
  have bo := Blk.new (w.alloc (.cells v.cells 27)) 27 u.cells
  rw [World.size_alloc] at bo
  have gK := ((Keep.refl NoB w).alloc (.cells v.cells 27)).alloc (.cells u.cells 27)
  have HG1 := Lib.hid (fun w => great_no v w hs)
  have HG2 := Lib.hid (fun w => great_no u w hs2)
  have hq4 : decide ((8000 : Int) < (b.length : Int)) = false := by rw [decide_eq_false_iff_not]; omega
  have HL : Hid (b.length ≤ 140737488355328) := by show _ ≤ _; omega
  have HEF := Lib.hid (fun W hk => encodeF_any v f W (h.keepN hk) hs)
  have HEG := Lib.hid (fun W hk => encodeF_any u g W (h2.keepN hk) hs2)
  have HFV := Lib.hid (fun W hk => (h.keepN hk : FnAt W v f))
  have HFU := Lib.hid (fun W hk => (h2.keepN hk : FnAt W u g))
  have HRB := Lib.hid (fun W hk => S.rd_n (w' := W) hb hk)
  have HS := Lib.hid (And.intro hs hs2)
  have HD := Lib.hid hd
  rw [chkF_no hf] at HEF
  have hQ := decF_ok hd
  have HZ : Hid (okF fp = true ∧ b.take Q = bytesF fp ∧ Q ≤ b.length) := by
    obtain ⟨q1, q2, q3⟩ := hQ
    rw [List.drop_zero] at q2
    rw [Nat.zero_add] at q3
    have q4 := congrArg List.length q2
    simp only [List.length_append, List.length_drop] at q4
    refine ⟨q1, ?_, by omega⟩
    rw [q3]
    conv => lhs; rw [q2]
    rw [List.take_left]
  have HDC := Lib.hid hc
  clear hQ hc
  clear h h2 hs hs2 hb hd hf
  obtain ⟨xs, hxs⟩ : ∃ x, encF f = x := ⟨_, rfl⟩
  rw [hxs] at HEF
  clear hxs
  obtain ⟨s0, A, na, ca, A2, nb, cb, L, nl, cl, D, nd, cd⟩ := v
  obtain ⟨s1, A3, ne, ce, A4, nf, cf, L2, ng, cg, D2, nh, ch⟩ := u
  dsimp only [FV.val, FV.cells] at HEF HEG HFV HFU HG1 HG2 bx bo gK ⊢
  go_enter Tryz.func6, Tryz.ntmps6
  go_wp2_with fail
  refine (alive_any _).mono ?_
  rintro e wl ⟨rfl, k1⟩
  replace bx := bx.keep k1 id
  replace bo := bo.keep k1 id
  replace gK := keepN gK k1
  clear k1
  obtain ⟨x0, x1, x2, x3, x4⟩ := blk5 (v := ⟨s0, A, na, ca, A2, nb, cb, L, nl, cl, D, nd, cd⟩) bx
  obtain ⟨y0, y1, y2, y3, y4⟩ := blk5 (v := ⟨s1, A3, ne, ce, A4, nf, cf, L2, ng, cg, D2, nh, ch⟩) bo
  dsimp only at x0 x1 x2 x3 x4 y0 y1 y2 y3 y4
  go_wp2_with fail
  refine (HG1.out _).mono ?_
  rintro e wg1 ⟨rfl, k1⟩
  replace bx := bx.keep k1 id
  replace bo := bo.keep k1 id
  replace gK := keepN gK k1
  clear k1
  clear x0 x1 x2 x3 x4 y0 y1 y2 y3 y4
  obtain ⟨x0, x1, x2, x3, x4⟩ := blk5 (v := ⟨s0, A, na, ca, A2, nb, cb, L, nl, cl, D, nd, cd⟩) bx
  obtain ⟨y0, y1, y2, y3, y4⟩ := blk5 (v := ⟨s1, A3, ne, ce, A4, nf, cf, L2, ng, cg, D2, nh, ch⟩) bo
  dsimp only at x0 x1 x2 x3 x4 y0 y1 y2 y3 y4
  go_wp2_with fail
  refine (HG2.out _).mono ?_
  rintro e wg2 ⟨rfl, k1⟩
  replace bx := bx.keep k1 id
  replace bo := bo.keep k1 id
  replace gK := keepN gK k1
  clear k1
  clear x0 x1 x2 x3 x4 y0 y1 y2 y3 y4
  obtain ⟨x0, x1, x2, x3, x4⟩ := blk5 (v := ⟨s0, A, na, ca, A2, nb, cb, L, nl, cl, D, nd, cd⟩) bx
  obtain ⟨y0, y1, y2, y3, y4⟩ := blk5 (v := ⟨s1, A3, ne, ce, A4, nf, cf, L2, ng, cg, D2, nh, ch⟩) bo
  dsimp only at x0 x1 x2 x3 x4 y0 y1 y2 y3 y4
  go_wp2_with fail
  refine (HEF.out _ gK).mono ?_
  rintro e w1 ⟨vx, rfl, hx, k1⟩
  obtain ⟨X, cx, rfl, hrx, hxl⟩ := own_rdB hx
  replace bx := bx.keep k1 id
  replace bo := bo.keep k1 id
  replace gK := keepN gK k1
  clear k1 hx
  clear x0 x1 x2 x3 x4 y0 y1 y2 y3 y4
  obtain ⟨x0, x1, x2, x3, x4⟩ := blk5 (v := ⟨s0, A, na, ca, A2, nb, cb, L, nl, cl, D, nd, cd⟩) bx
  obtain ⟨y0, y1, y2, y3, y4⟩ := blk5 (v := ⟨s1, A3, ne, ce, A4, nf, cf, L2, ng, cg, D2, nh, ch⟩) bo
  dsimp only at x0 x1 x2 x3 x4 y0 y1 y2 y3 y4
  go_wp2_with fail
  refine (HEG.out _ gK).mono ?_
  rintro e w2 ⟨vy, rfl, hy, k1⟩
  obtain ⟨Y, cy, rfl, hry, hyl⟩ := own_rdB hy
  replace bx := bx.keep k1 id
  replace bo := bo.keep k1 id
  replace gK := keepN gK k1
  replace hrx := S.rd_n hrx k1
  replace hxl := fun ad e => Nat.lt_of_lt_of_le (hxl ad e) k1.size
  clear k1 hy HEF HEG HG1 HG2
  clear x0 x1 x2 x3 x4 y0 y1 y2 y3 y4
  clear hrx hry hxl hyl
  obtain ⟨x0, x1, x2, x3, x4⟩ := blk5 (v := ⟨s0, A, na, ca, A2, nb, cb, L, nl, cl, D, nd, cd⟩) bx
  obtain ⟨y0, y1, y2, y3, y4⟩ := blk5 (v := ⟨s1, A3, ne, ce, A4, nf, cf, L2, ng, cg, D2, nh, ch⟩) bo
  dsimp only at x0 x1 x2 x3 x4 y0 y1 y2 y3 y4
  have gq := gK.size
  go_wp2_with fail
  refine (V.on_any _ B b d (HRB.out _ gK) HL.out).mono ?_
  rintro e wp ⟨bq, rfl, hR, k1⟩
  have hbq := hR.1
  replace hR := hR.mono (O' := fun k => w.heap.size ≤ k ∧ k < wp.heap.size) (fun k ho hk => ⟨Nat.le_trans gK.size ho, hk⟩)
  replace gK := keepN gK k1
  have gp := gK.size
  unfold Fresh at hbq
  clear k1
  go_wp2_with fail
  refine (decodeF_any _ bq _ b 0 (fun k hk => hk.2) hR HL.out).mono ?_
  rintro e wq (⟨hn, _⟩ | ⟨fz, Qz, z, hsm, rfl, hP2, hR, k1⟩)
  · have := HD.out; rw [hn] at this; cases this
  obtain ⟨rfl, rfl⟩ : fz = fp ∧ Qz = Q := by have := HD.out; rw [hsm] at this; injection this with this; injection this with e1 e2; exact ⟨e1, e2⟩
  have sz := sm_ok hP2 HZ.out.1
  have HEZ := Lib.hid (fun W hk => encodeF_any z fz W (hP2.fn.keepN hk) sz)
  rw [chkF_ok HZ.out.1, encF_ok HZ.out.1] at HEZ
  have HZ2 := Lib.hid (And.intro HZ.out.2.1 HZ.out.2.2)
  obtain ⟨zs, hzs⟩ : ∃ x, bytesF fz = x := ⟨_, rfl⟩
  rw [hzs] at HEZ HZ2
  clear hsm HZ hzs
  obtain ⟨pS, pA, pna, pca, pB, pnb, pcb, pL, pnl, pcl, pD, pnd, pcd⟩ := z
  dsimp only [FV.val, FV.cells] at HEZ ⊢
  have kA := (Keep.refl NoB wq).alloc (.cells (FV.cells ⟨pS, pA, pna, pca, pB, pnb, pcb, pL, pnl, pcl, pD, pnd, pcd⟩) 27)
  have b16 := Blk.new wq 27 (FV.cells ⟨pS, pA, pna, pca, pB, pnb, pcb, pL, pnl, pcl, pD, pnd, pcd⟩)
  dsimp only [FV.cells] at kA b16
  replace gK := keepN (gK.trans k1 (fun k e hk => by omega)) kA
  replace hR := hR.keep kA (fun _ _ => id)
  obtain ⟨z0, z1, z2, z3, z4⟩ := blk5 (v := ⟨pS, pA, pna, pca, pB, pnb, pcb, pL, pnl, pcl, pD, pnd, pcd⟩) b16
  dsimp only at z0 z1 z2 z3 z4
  clear k1 hP2 b16
  go_wp2_with fail
  refine (HEZ.out _ kA).mono ?_
  rintro e wr ⟨vz, rfl, hz, k1⟩
  obtain ⟨Z, cz, rfl, hrz, _⟩ := own_rdB hz
  replace gK := keepN gK k1
  replace hR := hR.keep k1 (fun _ _ => id)
  have hrb := HRB.out _ gK
  have hQb : Qz ≤ b.length := HZ2.out.2
  have hQd : Qz ≤ d := Nat.le_trans hQb HDC.out
  have HCZ := Lib.hid (fun W (hk : Keep NoB wr W) c => (V.conv_rd (c := c) (S.rd_n hrz hk)))
  have HCB := Lib.hid (fun W (hk : Keep NoB wr W) c => (V.conv_rd (c := c) (rd_takeF (S.rd_n hrb hk) Qz)))
  have htl : (b.take Qz).length = Qz := by rw [List.length_take]; omega
  rw [htl, HZ2.out.1] at HCB
  generalize V.str zs = E at HCZ HCB
  have HRR := Lib.hid hR
  clear z0 z1 z2 z3 z4 hz k1 kA hR hrz hrb htl HZ2 HEZ
  go_wp2_with fail
  have gK0 := gK
  clear gK
  refine wp_region_tail (fun i => [116, 117, 118, 119, 120, 121, 122, 123, 124, 125, 126, 127, 128, 129, 130].getD i 0) 15 (by kernel_rfl) (by kernel_rfl) (by kernel_rfl) (by kernel_rfl) (by kernel_rfl) (SBz Z B zs cz b.length d bq Qz E) (fun i u x y h _ => SBz_stable _ _ _ _ _ _ _ _ _ i u x y h) rfl ?step ?fin
  case step =>
    intro i o a w' hoo hi hF hK hA
    by_cases h0 : i = 0
    · subst h0
      simp only [List.getElem?_toArray, List.getElem?_cons_zero, Option.some.injEq] at hoo
      subst hoo
      have e7 : a.tmps.getD 7 undef = .bool true := hF.2.2 7 (by decide)
      refine Does.plain rfl ?_
      unfold yieldsK
      go_simp
      exact ⟨rfl, Keep.refl _ _⟩
    by_cases h1 : i = 1
    · subst h1
      simp only [List.getElem?_toArray, List.getElem?_cons_zero, List.getElem?_cons_succ, Option.some.injEq] at hoo
      subst hoo
      have e116 : a.tmps.getD 116 undef = .bool true := hA ⟨0, .data⟩ (by simp) rfl
      refine Does.plain rfl ?_
      unfold yieldsK
      go_simp
      exact ⟨rfl, Keep.refl _ _⟩
    by_cases h2 : i = 2
    · subst h2
      simp only [List.getElem?_toArray, List.getElem?_cons_zero, List.getElem?_cons_succ, Option.some.injEq] at hoo
      subst hoo
      have e19 : a.tmps.getD 19 undef = .int .i64 0 := hF.2.2 19 (by decide)
      refine Does.yes (j := 1) (d := 117) (want := true) rfl rfl (hA ⟨1, .guard⟩ (by simp) rfl) ?_
      unfold yieldsK
      go_simp
      exact ⟨rfl, Keep.refl _ _⟩
    by_cases h3 : i = 3
    · subst h3
      simp only [List.getElem?_toArray, List.getElem?_cons_zero, List.getElem?_cons_succ, Option.some.injEq] at hoo
      subst hoo
      have e118 : a.tmps.getD 118 undef = .int .i64 0 := hA ⟨2, .data⟩ (by simp) rfl
      refine Does.yes (j := 1) (d := 117) (want := true) rfl rfl (hA ⟨1, .guard⟩ (by simp) rfl) ?_
      unfold yieldsK
      go_simp
      exact ⟨rfl, Keep.refl _ _⟩
    by_cases h4 : i = 4
    · subst h4
      simp only [List.getElem?_toArray, List.getElem?_cons_zero, List.getElem?_cons_succ, Option.some.injEq] at hoo
      subst hoo
      have e117 : a.tmps.getD 117 undef = .bool true := hA ⟨1, .data⟩ (by simp) rfl
      have e119 : a.tmps.getD 119 undef = .bool true := hA ⟨3, .data⟩ (by simp) rfl
      refine Does.plain rfl ?_
      unfold yieldsK
      go_simp
      exact ⟨rfl, Keep.refl _ _⟩
    by_cases h5 : i = 5
    · subst h5
      simp only [List.getElem?_toArray, List.getElem?_cons_zero, List.getElem?_cons_succ, Option.some.injEq] at hoo
      subst hoo
      have e120 : a.tmps.getD 120 undef = .bool true := hA ⟨4, .data⟩ (by simp) rfl
      refine Does.plain rfl ?_
      unfold yieldsK
      go_simp
      exact ⟨rfl, Keep.refl _ _⟩
    by_cases h6 : i = 6
    · subst h6
      simp only [List.getElem?_toArray, List.getElem?_cons_zero, List.getElem?_cons_succ, Option.some.injEq] at hoo
      subst hoo
      have e18 : a.tmps.getD 18 undef = .slice Z zs.length cz := hF.2.2 18 (by decide)
      refine Does.yes (j := 5) (d := 121) (want := true) rfl rfl (hA ⟨5, .guard⟩ (by simp) rfl) ?_
      unfold yieldsK
      go_simp
      exact ⟨rfl, Keep.refl _ _⟩
    by_cases h7 : i = 7
    · subst h7
      simp only [List.getElem?_toArray, List.getElem?_cons_zero, List.getElem?_cons_succ, Option.some.injEq] at hoo
      subst hoo
      have e122 : a.tmps.getD 122 undef = .slice Z zs.length cz := hA ⟨6, .data⟩ (by simp) rfl
      have cv := HCZ.out w' hK cz
      refine Does.yes (j := 5) (d := 121) (want := true) rfl rfl (hA ⟨5, .guard⟩ (by simp) rfl) ?_
      unfold yieldsK
      go_simp
      exact ⟨rfl, Keep.refl _ _⟩
    by_cases h8 : i = 8
    · subst h8
      simp only [List.getElem?_toArray, List.getElem?_cons_zero, List.getElem?_cons_succ, Option.some.injEq] at hoo
      subst hoo
      have e2 : a.tmps.getD 2 undef = .slice B b.length d := hF.2.2 2 (by decide)
      refine Does.yes (j := 5) (d := 121) (want := true) rfl rfl (hA ⟨5, .guard⟩ (by simp) rfl) ?_
      unfold yieldsK
      go_simp
      exact ⟨rfl, Keep.refl _ _⟩
    by_cases h9 : i = 9
    · subst h9
      simp only [List.getElem?_toArray, List.getElem?_cons_zero, List.getElem?_cons_succ, Option.some.injEq] at hoo
      subst hoo
      have e15 : a.tmps.getD 15 undef = .pointer (some ⟨bq, 0, none⟩) := hF.2.2 15 (by decide)
      refine Does.yes (j := 5) (d := 121) (want := true) rfl rfl (hA ⟨5, .guard⟩ (by simp) rfl) ?_
      unfold yieldsK
      go_simp
      exact ⟨rfl, Keep.refl _ _⟩
    by_cases h10 : i = 10
    · subst h10
      simp only [List.getElem?_toArray, List.getElem?_cons_zero, List.getElem?_cons_succ, Option.some.injEq] at hoo
      subst hoo
      have e125 : a.tmps.getD 125 undef = .pointer (some ⟨bq, 0, none⟩) := hA ⟨9, .data⟩ (by simp) rfl
      refine Does.yes (j := 5) (d := 121) (want := true) rfl rfl (hA ⟨5, .guard⟩ (by simp) rfl) ?_
      unfold yieldsK
      go_simp
      refine (S.at_gen HRR.out hK).mono ?_
      rintro e w2 ⟨rfl, h2⟩
      exact ⟨_, rfl, rfl, h2⟩
    by_cases h11 : i = 11
    · subst h11
      simp only [List.getElem?_toArray, List.getElem?_cons_zero, List.getElem?_cons_succ, Option.some.injEq] at hoo
      subst hoo
      have e124 : a.tmps.getD 124 undef = .slice B b.length d := hA ⟨8, .data⟩ (by simp) rfl
      have e126 : a.tmps.getD 126 undef = .int .i64 (Qz : Int) := hA ⟨10, .data⟩ (by simp) rfl
      refine Does.yes (j := 5) (d := 121) (want := true) rfl rfl (hA ⟨5, .guard⟩ (by simp) rfl) ?_
      unfold yieldsK
      go_simp
      exact ⟨⟨_, rfl⟩, Keep.refl _ _⟩
    by_cases h12 : i = 12
    · subst h12
      simp only [List.getElem?_toArray, List.getElem?_cons_zero, List.getElem?_cons_succ, Option.some.injEq] at hoo
      subst hoo
      obtain ⟨c5, e127⟩ := hA ⟨11, .data⟩ (by simp) rfl
      have e127 : a.tmps.getD 127 undef = .slice B Qz c5 := e127
      have cv := HCB.out w' hK c5
      refine Does.yes (j := 5) (d := 121) (want := true) rfl rfl (hA ⟨5, .guard⟩ (by simp) rfl) ?_
      unfold yieldsK
      go_simp
      exact ⟨rfl, Keep.refl _ _⟩
    by_cases h13 : i = 13
    · subst h13
      simp only [List.getElem?_toArray, List.getElem?_cons_zero, List.getElem?_cons_succ, Option.some.injEq] at hoo
      subst hoo
      have e123 : a.tmps.getD 123 undef = .string E := hA ⟨7, .data⟩ (by simp) rfl
      have e128 : a.tmps.getD 128 undef = .string E := hA ⟨12, .data⟩ (by simp) rfl
      refine Does.yes (j := 5) (d := 121) (want := true) rfl rfl (hA ⟨5, .guard⟩ (by simp) rfl) ?_
      unfold yieldsK
      go_simp
      exact ⟨rfl, Keep.refl _ _⟩
    by_cases h14 : i = 14
    · subst h14
      simp only [List.getElem?_toArray, List.getElem?_cons_zero, List.getElem?_cons_succ, Option.some.injEq] at hoo
      subst hoo
      have e121 : a.tmps.getD 121 undef = .bool true := hA ⟨5, .data⟩ (by simp) rfl
      have e129 : a.tmps.getD 129 undef = .bool true := hA ⟨13, .data⟩ (by simp) rfl
      refine Does.plain rfl ?_
      unfold yieldsK
      go_simp
      exact ⟨rfl, Keep.refl _ _⟩
    omega
  case fin =>
    intro a w' hF gK hA
    have e130 : a.tmps.getD 130 undef = .bool true := hA 14 (by decide)
    have ha := frameD_list (l := [116, 117, 118, 119, 120, 121, 122, 123, 124, 125, 126, 127, 128, 129, 130]) rfl hF
    rw [ha]
    simp only [List.map_cons, List.map_nil, e130]
    generalize a.tmps.getD 116 undef = u0
    generalize a.tmps.getD 117 undef = u1
    generalize a.tmps.getD 118 undef = u2
    generalize a.tmps.getD 119 undef = u3
    generalize a.tmps.getD 120 undef = u4
    generalize a.tmps.getD 121 undef = u5
    generalize a.tmps.getD 122 undef = u6
    generalize a.tmps.getD 123 undef = u7
    generalize a.tmps.getD 124 undef = u8
    generalize a.tmps.getD 125 undef = u9
    generalize a.tmps.getD 126 undef = u10
    generalize a.tmps.getD 127 undef = u11
    generalize a.tmps.getD 128 undef = u12
    generalize a.tmps.getD 129 undef = u13
    simp only [fillD, List.setIfInBounds_toArray, List.set_cons_zero, List.set_cons_succ]
    simp only [List.drop_succ_cons, List.drop_zero]
    have HK9 := Lib.hid (keepN gK0 gK)
    clear gK gK0 hA hF ha e130 HCZ HCB HRR
    go_wp2
    go_ret
    exact ⟨rfl, HK9.out⟩

set_option maxRecDepth 100000 in
set_option maxHeartbeats 16000000 in
theorem back_nn (v : FV) (f : Fu) (u : FV) (g : Fu) (B : Option Addr) (b : List UInt8) (d : Nat) (w : World) (h : FnAt w v f) (h2 : FnAt w u g) (hb : V.Rd w B b) (hs : SmF v) (hs2 : SmF u) (h4 : b.length ≤ 8000) (hf : okF f = false) (hd : decF b 0 = none) :
    Calls Tryz.prog 6 #[v.val, u.val, .slice B b.length d] w fun e w' => e = .returned (.bool true) ∧ Keep NoB w w' := by
  have bx := (Blk.new w 27 v.cells).alloc (.cells u.cells 27)
  have bo := Blk.new (w.alloc (.cells v.cells 27)) 27 u.cells
  rw [World.size_alloc] at bo
  have gK := ((Keep.refl NoB w).alloc (.cells v.cells 27)).alloc (.cells u.cells 27)
  have HG1 := Lib.hid (fun w => great_no v w hs)
  have HG2 := Lib.hid (fun w => great_no u w hs2)
  have hq4 : decide ((8000 : Int) < (b.length : Int)) = false := by rw [decide_eq_false_iff_not]; omega
  have HL : Hid (b.length ≤ 140737488355328) := by show _ ≤ _; omega
  have HEF := Lib.hid (fun W hk => encodeF_any v f W (h.keepN hk) hs)
  have HEG := Lib.hid (fun W hk => encodeF_any u g W (h2.keepN hk) hs2)
  have HFV := Lib.hid (fun W hk => (h.keepN hk : FnAt W v f))
  have HFU := Lib.hid (fun W hk => (h2.keepN hk : FnAt W u g))
  have HRB := Lib.hid (fun W hk => S.rd_n (w' := W) hb hk)
  have HS := Lib.hid (And.intro hs hs2)
  have HD := Lib.hid hd
  rw [chkF_no hf] at HEF
  clear h h2 hs hs2 hb hd hf
  obtain ⟨xs, hxs⟩ : ∃ x, encF f = x := ⟨_, rfl⟩
  rw [hxs] at HEF
  clear hxs
  obtain ⟨s0, A, na, ca, A2, nb, cb, L, nl, cl, D, nd, cd⟩ := v
  obtain ⟨s1, A3, ne, ce, A4, nf, cf, L2, ng, cg, D2, nh, ch⟩ := u
  dsimp only [FV.val, FV.cells] at HEF HEG HFV HFU HG1 HG2 bx bo gK ⊢
  go_enter Tryz.func6, Tryz.ntmps6
  go_wp2_with fail
  refine (alive_any _).mono ?_
  rintro e wl ⟨rfl, k1⟩
  replace bx := bx.keep k1 id
  replace bo := bo.keep k1 id
  replace gK := keepN gK k1
  clear k1
  obtain ⟨x0, x1, x2, x3, x4⟩ := blk5 (v := ⟨s0, A, na, ca, A2, nb, cb, L, nl, cl, D, nd, cd⟩) bx
  obtain ⟨y0, y1, y2, y3, y4⟩ := blk5 (v := ⟨s1, A3, ne, ce, A4, nf, cf, L2, ng, cg, D2, nh, ch⟩) bo
  dsimp only at x0 x1 x2 x3 x4 y0 y1 y2 y3 y4
  go_wp2_with fail
  refine (HG1.out _).mono ?_
  rintro e wg1 ⟨rfl, k1⟩
  replace bx := bx.keep k1 id
  replace bo := bo.keep k1 id
  replace gK := keepN gK k1
  clear k1
  clear x0 x1 x2 x3 x4 y0 y1 y2 y3 y4
  obtain ⟨x0, x1, x2, x3, x4⟩ := blk5 (v := ⟨s0, A, na, ca, A2, nb, cb, L, nl, cl, D, nd, cd⟩) bx
  obtain ⟨y0, y1, y2, y3, y4⟩ := blk5 (v := ⟨s1, A3, ne, ce, A4, nf, cf, L2, ng, cg, D2, nh, ch⟩) bo
  dsimp only at x0 x1 x2 x3 x4 y0 y1 y2 y3 y4
  go_wp2_with fail
  refine (HG2.out _).mono ?_
  rintro e wg2 ⟨rfl, k1⟩
  replace bx := bx.keep k1 id
  replace bo := bo.keep k1 id
  replace gK := keepN gK k1
  clear k1
  clear x0 x1 x2 x3 x4 y0 y1 y2 y3 y4
  obtain ⟨x0, x1, x2, x3, x4⟩ := blk5 (v := ⟨s0, A, na, ca, A2, nb, cb, L, nl, cl, D, nd, cd⟩) bx
  obtain ⟨y0, y1, y2, y3, y4⟩ := blk5 (v := ⟨s1, A3, ne, ce, A4, nf, cf, L2, ng, cg, D2, nh, ch⟩) bo
  dsimp only at x0 x1 x2 x3 x4 y0 y1 y2 y3 y4
  go_wp2_with fail
  refine (HEF.out _ gK).mono ?_
  rintro e w1 ⟨vx, rfl, hx, k1⟩
  obtain ⟨X, cx, rfl, hrx, hxl⟩ := own_rdB hx
  replace bx := bx.keep k1 id
  replace bo := bo.keep k1 id
  replace gK := keepN gK k1
  clear k1 hx
  clear x0 x1 x2 x3 x4 y0 y1 y2 y3 y4
  obtain ⟨x0, x1, x2, x3, x4⟩ := blk5 (v := ⟨s0, A, na, ca, A2, nb, cb, L, nl, cl, D, nd, cd⟩) bx
  obtain ⟨y0, y1, y2, y3, y4⟩ := blk5 (v := ⟨s1, A3, ne, ce, A4, nf, cf, L2, ng, cg, D2, nh, ch⟩) bo
  dsimp only at x0 x1 x2 x3 x4 y0 y1 y2 y3 y4
  go_wp2_with fail
  refine (HEG.out _ gK).mono ?_
  rintro e w2 ⟨vy, rfl, hy, k1⟩
  obtain ⟨Y, cy, rfl, hry, hyl⟩ := own_rdB hy
  replace bx := bx.keep k1 id
  replace bo := bo.keep k1 id
  replace gK := keepN gK k1
  replace hrx := S.rd_n hrx k1
  replace hxl := fun ad e => Nat.lt_of_lt_of_le (hxl ad e) k1.size
  clear k1 hy HEF HEG HG1 HG2
  clear x0 x1 x2 x3 x4 y0 y1 y2 y3 y4
  clear hrx hry hxl hyl
  obtain ⟨x0, x1, x2, x3, x4⟩ := blk5 (v := ⟨s0, A, na, ca, A2, nb, cb, L, nl, cl, D, nd, cd⟩) bx
  obtain ⟨y0, y1, y2, y3, y4⟩ := blk5 (v := ⟨s1, A3, ne, ce, A4, nf, cf, L2, ng, cg, D2, nh, ch⟩) bo
  dsimp only at x0 x1 x2 x3 x4 y0 y1 y2 y3 y4
  have gq := gK.size
  go_wp2_with fail
  refine (V.on_any _ B b d (HRB.out _ gK) HL.out).mono ?_
  rintro e wp ⟨bq, rfl, hR, k1⟩
  have hbq := hR.1
  replace hR := hR.mono (O' := fun k => w.heap.size ≤ k ∧ k < wp.heap.size) (fun k ho hk => ⟨Nat.le_trans gK.size ho, hk⟩)
  replace gK := keepN gK k1
  have gp := gK.size
  unfold Fresh at hbq
  clear k1
  go_wp2_with fail
  refine (decodeF_any _ bq _ b 0 (fun k hk => hk.2) hR HL.out).mono ?_
  rintro e wq (⟨_, rfl, ⟨q0, hR⟩, k1⟩ | ⟨fz, Qz, z, hsm, _⟩)
  case inr => have := HD.out; rw [hsm] at this; cases this
  dsimp only [nilV, FV.val, FV.cells]
  have HK9 := Lib.hid ((gK.trans k1 (fun k e hk => by omega)).alloc (.cells #[.string ⟨#[]⟩, .slice none 0 0, .slice none 0 0, .slice none 0 0, .slice none 0 0] 27))
  clear gK k1 hR
  go_wp2
  go_ret
  exact ⟨rfl, HK9.out⟩

set_option maxRecDepth 100000 in
theorem back_walk (v : FV) (f : Fu) (u : FV) (g : Fu) (B : Option Addr) (b : List UInt8) (d : Nat) (w : World) (h : FnAt w v f) (h2 : FnAt w u g) (hb : V.Rd w B b) (hc : b.length ≤ d) :
    Calls Tryz.prog 6 #[v.val, u.val, .slice B b.length d] w fun e w' => e = .returned (.bool true) ∧ Keep NoB w w' := by
  by_cases hq : SmF v ∧ SmF u ∧ b.length ≤ 8000
  · obtain ⟨q1, q2, q4⟩ := hq
    cases hf : okF f
    · cases hd : decF b 0 with
      | none => exact back_nn v f u g B b d w h h2 hb q1 q2 q4 hf hd
      | some x => exact back_ny v f u g B b d w h h2 hb hc q1 q2 q4 hf x.1 x.2 hd
    · cases hg : okF g
      · cases hd : decF b 0 with
        | none => exact back_ynn v f u g B b d w h h2 hb q1 q2 q4 hf hg hd
        | some x => exact back_yny v f u g B b d w h h2 hb hc q1 q2 q4 hf hg x.1 x.2 hd
      · cases hd : decF b 0 with
        | none => exact back_yyn v f u g B b d w h h2 hb q1 q2 q4 hf hg hd
        | some x => exact back_yyy v f u g B b d w h h2 hb hc q1 q2 q4 hf hg x.1 x.2 hd
  · exact back_big v u B b.length d w hq

end Go.Proofs.YtbnekeomdhljhaaGreatDoor.F
