/-
  Layer listing: what the document's named answers. Conditions: the image may be, and lies in memory; the instruction is one of a body's; the body's targets lie in memory.
  Layer listing: the document's lines one after another; rows of them in memory. No program but the types.
  Which function has a name: the program's Find, by the iterator, left by a label, and the document's. Conditions: the image's lists lie in memory; no more than 1000 functions.
  The document's Check of images. Conditions: the image's lists lie in memory, and are no greater than statements go through.
  Layer listing: what the document's Lines answers: a listing's lines. Conditions: the image lies in memory; no greater than statements go through.
-/
import Derived.Test.YtgnooffedmeenaaGreatDoorQA11
import Derived.Test.YtgnooffedmeenaaGreatDoorQA9
import Derived.Test.YtgnooffedmeenaaGreatDoorQA7
import Derived.Test.YtgnooffedmeenaaGreatDoorQA3
import Derived.Test.YtgnooffedmeenaaGreatDoorQA8
import Derived.Test.YtgnooffedmeenaaGreatDoorQA5
import Derived.Test.YtgnooffedmeenaaGreatDoorQA4
namespace Go.Proofs.YtgnooffedmeenaaGreatDoor.M.L
open Go.RowKit W

theorem join2 (a s : Bs) : str a ++ (⟨#[32]⟩ : ByteArray) ++ str s = str (joinW [a, s]) := by
  rw [app_lit, str_app]
  show str _ = str (a ++ 32 :: s)
  simp
/-- What the values are that the region of a label's name yields. -/
def RNy1 (b5 : Nat) (op t : Int) (A : Option Addr) (n c : Nat) (S1 S2 : ByteArray) : Nat → Value → World → Prop
  | 0 => fun u _ => u = .pointer (some ⟨b5, 0, none⟩)
  | 1 => fun u _ => u = .int .i64 op
  | 2 => fun u _ => u = .string S1
  | 3 => fun u _ => u = .string (S1 ++ (⟨#[32]⟩ : ByteArray))
  | 4 => fun u _ => u = .slice A n c
  | 5 => fun u _ => u = .pointer (some ⟨b5, 1, none⟩)
  | 6 => fun u _ => u = .int .i64 t
  | 7 => fun u _ => u = .string S2
  | 8 => fun u _ => u = .string (S1 ++ (⟨#[32]⟩ : ByteArray) ++ S2)
  | 9 => fun u _ => u = .string (S1 ++ (⟨#[32]⟩ : ByteArray) ++ S2)
  | _ => fun _ _ => True
theorem RNy1_stable (b5 : Nat) (op t : Int) (A : Option Addr) (n c : Nat) (S1 S2 : ByteArray) (i : Nat) (u : Value) (W W' : World) (h : RNy1 b5 op t A n c S1 S2 i u W) (_hk : Keep NoB W W') : RNy1 b5 op t A n c S1 S2 i u W' := by
  unfold RNy1 at h ⊢
  split at h <;> exact h
/-- What the values are that the region of a function's name yields. -/
def RNy2 (b3 b5 : Nat) (op : Int) (t g off ny cy : Nat) (S1 S2 : ByteArray) : Nat → Value → World → Prop
  | 0 => fun u _ => u = .pointer (some ⟨b5, 0, none⟩)
  | 1 => fun u _ => u = .int .i64 op
  | 2 => fun u _ => u = .string S1
  | 3 => fun u _ => u = .string (S1 ++ (⟨#[32]⟩ : ByteArray))
  | 4 => fun u _ => u = .pointer (some ⟨b3, 1, none⟩)
  | 5 => fun u _ => u = .slice (some ⟨g, off, none⟩) ny cy
  | 6 => fun u _ => u = .pointer (some ⟨b5, 1, none⟩)
  | 7 => fun u _ => u = .int .i64 (t : Int)
  | 8 => fun u _ => u = .pointer (some ⟨g, off + t * 5, none⟩)
  | 9 => fun u _ => u = .pointer (some ⟨g, off + t * 5, none⟩)
  | 10 => fun u _ => u = .string S2
  | 11 => fun u _ => u = .string (S1 ++ (⟨#[32]⟩ : ByteArray) ++ S2)
  | 12 => fun u _ => u = .string (S1 ++ (⟨#[32]⟩ : ByteArray) ++ S2)
  | _ => fun _ _ => True
theorem RNy2_stable (b3 b5 : Nat) (op : Int) (t g off ny cy : Nat) (S1 S2 : ByteArray) (i : Nat) (u : Value) (W W' : World) (h : RNy2 b3 b5 op t g off ny cy S1 S2 i u W) (_hk : Keep NoB W W') : RNy2 b3 b5 op t g off ny cy S1 S2 i u W' := by
  unfold RNy2 at h ⊢
  split at h <;> exact h

set_option maxRecDepth 100000 in
set_option maxHeartbeats 4000000 in
theorem rnamed10_any (v : I.IV) (es : List I.SE) (fs : List I.FE) (w : World) (h : I.ImAt w v es fs) (hp : ImOk (I.imOf es fs)) (k : Nat) (f : F.Fu) (hf : (I.imOf es fs).fn[k]? = some f) (x : C.I3) (hx : x ∈ f.bd) (A : Option Addr) (n c : Nat) (hr : Rd w A (nvs (tgs f.bd))) (hn : Hid ((tgs f.bd).length = n)) :
    Calls Tryz.prog 87 #[v.val, .slice A n c, O.instV x.1 x.2.1 x.2.2] w fun e w' => e = .returned (.string (str (joinW (insL (NWp (I.imOf es fs) k x) x)))) ∧ Keep NoB w w' := by
  have hok := List.all_eq_true.1 (ok_body (hp.fn hf).1).1 x hx
  have hI := (hp.fn hf).2 x hx
  have hB := (Blk.new w 25 v.cells).alloc (.cells #[.int .i64 x.1, .int .i64 x.2.1, .int .i64 x.2.2] 55)
  have hX := Blk.new (w.alloc (.cells v.cells 25)) 55 #[.int .i64 x.1, .int .i64 x.2.1, .int .i64 x.2.2]
  have k0 := ((Keep.refl NoB w).alloc (.cells v.cells 25)).alloc (.cells #[.int .i64 x.1, .int .i64 x.2.1, .int .i64 x.2.2] 55)
  rw [World.size_alloc] at hX
  have HG := Lib.hid (fun W => C.rgoes_gen x.1 x.2.1 x.2.2 (C.gN x) (C.gB x) W rfl rfl hI.1 hI.2)
  have HNm := Lib.hid (fun W => (show Calls Tryz.prog 153 #[.int .i64 x.1] W fun e w' => e = .returned (.string (str (O.rowAt x.1).name)) ∧ Keep NoB W w' from O.rname_any x.1 W))
  have HK := Lib.hid (fun W => O.rkinds_any x.1 W)
  have HSh := Lib.hid (fun W => (show Calls Tryz.prog 86 #[O.instV x.1 x.2.1 x.2.2] W fun e w' => e = .returned (.string (str (O.showI x.1 x.2.1 x.2.2))) ∧ Keep NoB W w' from O.rshow_any x.1 x.2.1 x.2.2 W hI.1 hI.2))
  have hnl := O.name_len x.1
  have hz1 := str_size (O.rowAt x.1).name
  have hlx := h.lx
  have hly := h.ly
  cases hg : C.gB x
  · have HW : Hid ((∃ t : Nat, ∃ ht : t < fs.length, x.2.1 = (t : Int) ∧ (O.rowAt x.1).ka = 7 ∧ NWp (I.imOf es fs) k x = some fs[t].2.nm) ∨ (NWp (I.imOf es fs) k x = none ∧ ((O.rowAt x.1).ka ≠ 7 ∨ (v.ny : Int) ≤ x.2.1))) := by
      have h10 : ¬ (O.rowAt x.1).ka = 10 := fun e => by rw [C.ka_gB hok e] at hg; cases hg
      by_cases h7 : (O.rowAt x.1).ka = 7
      · obtain ⟨t, e1, e2⟩ := nw_func hp hf hx h7
        have e3 : (I.imOf es fs).fn = fs.map fun e => e.2 := rfl
        rw [e3, List.getElem?_map] at e2
        by_cases ht : t < fs.length
        · rw [List.getElem?_eq_getElem ht] at e2
          exact .inl ⟨t, ht, e1, h7, e2⟩
        · rw [List.getElem?_eq_none (by omega)] at e2
          exact .inr ⟨e2, .inr (by omega)⟩
      · exact .inr ⟨nw_else h10 h7, .inl h7⟩
    rcases HW.out with ⟨t, ht, e1, h7, e2⟩ | ⟨e2, hno⟩
    · rw [e2]
      have hfa := h.hf _ (List.getElem_mem ht)
      have HX : Hid (str (O.rowAt x.1).name ++ (⟨#[32]⟩ : ByteArray) ++ fs[t].1.S = str (joinW (insL (some fs[t].2.nm) x))) := by
        show _ = _
        rw [str_of hfa.nm, join2]; rfl
      have HFa : Hid (∃ g off, v.Y = some ⟨g, off, none⟩ ∧ w.cell? ⟨g, off + t * 5, none⟩ = some (.string fs[t].1.S)) := by
        obtain ⟨g, off, h1, h2, _⟩ := I.fun_at h.ry ht
        exact ⟨g, off, h1, h2⟩
      have hsz : fs[t].1.S.size ≤ 32 := by
        have h1 := (hp.fn (k := t) (f := fs[t].2) (by show (fs.map fun e => e.2)[t]? = _; rw [List.getElem?_map, List.getElem?_eq_getElem ht]; rfl)).1
        rw [size_of hfa.nm]
        exact okN_le ((F.okF_iff _).1 h1).1
      rw [← HX.out]
      have q1 : (str (O.rowAt x.1).name).size ≤ 7 := by omega
      have htn : t < v.ny := by omega
      rw [hg] at HG
      rw [h7] at HK
      clear h hp hf hx hok hI hn hr hg HX HW e2 hfa HSh hnl hz1 hlx hly h7
      obtain ⟨op, a, b⟩ := x
      obtain ⟨X, nx, cx, Y, ny, cy⟩ := v
      dsimp only [I.IV.val, I.IV.cells] at *
      subst e1
      obtain ⟨g, off, rfl, hc⟩ := HFa.out
      generalize str (O.rowAt op).name = S1 at *
      generalize fs[t].1.S = S2 at *
      generalize C.gN (op, (t : Int), b) = to1 at *
      have u1 : ¬ 9223372036854775807 < S1.size + 1 := by omega
      have u2 : ¬ 9223372036854775807 < S1.size + 1 + S2.size := by omega
      clear HFa
      go_enter Tryz.func87, Tryz.ntmps87
      obtain ⟨c0, c1⟩ := And.intro (hB.cell 0) (hB.cell 1)
      obtain ⟨d0, d1, d2⟩ := And.intro (hX.cell 0) (And.intro (hX.cell 1) (hX.cell 2))
      simp only [List.getElem?_toArray, List.getElem?_cons_zero, List.getElem?_cons_succ] at c0 c1 d0 d1 d2
      go_wp2_with fail
      refine (HG.out _).mono ?_
      rintro e w1 ⟨rfl, k1⟩
      clear c0 c1 d0 d1 d2
      have hB1 := hB.keep k1 id
      have hX1 := hX.keep k1 id
      obtain ⟨c0, c1⟩ := And.intro (hB1.cell 0) (hB1.cell 1)
      obtain ⟨d0, d1, d2⟩ := And.intro (hX1.cell 0) (And.intro (hX1.cell 1) (hX1.cell 2))
      simp only [List.getElem?_toArray, List.getElem?_cons_zero, List.getElem?_cons_succ] at c0 c1 d0 d1 d2
      have hc1 := (keepN k0 k1).cell hc id
      have hK1 := keepN k0 k1
      clear hB hX k0 k1 hB1 hX1 hc
      go_wp2_with (go_at_call 150; refine (HK.out _).mono ?_; rintro e w2 ⟨rfl, rfl⟩)
      refine wp_region_tail (fun i => [42, 43, 44, 45, 46, 47, 48, 49, 50, 51, 52, 53, 6].getD i 0) 13 (by kernel_rfl) (by kernel_rfl) (by kernel_rfl) (by kernel_rfl) (by kernel_rfl) (RNy2 w.heap.size (w.heap.size + 1) op t g off ny cy S1 S2) (fun i u x y h hk => RNy2_stable _ _ _ _ _ _ _ _ _ _ i u x y h hk) rfl ?step ?fin
      case step =>
        intro i o a w' hoo hi hF hK hA
        by_cases h0 : i = 0
        · subst h0
          simp only [List.getElem?_toArray, List.getElem?_cons_zero, Option.some.injEq] at hoo
          subst hoo
          have e5 : a.tmps.getD 5 undef = .pointer (some ⟨w.heap.size + 1, 0, none⟩) := hF.2.2 5 (by decide)
          refine Does.plain rfl ?_
          unfold yieldsK
          go_simp
          exact ⟨rfl, Keep.refl _ _⟩
        by_cases h1 : i = 1
        · subst h1
          simp only [List.getElem?_toArray, List.getElem?_cons_zero, List.getElem?_cons_succ, Option.some.injEq] at hoo
          subst hoo
          have e42 : a.tmps.getD 42 undef = .pointer (some ⟨w.heap.size + 1, 0, none⟩) := hA ⟨0, .data⟩ (by simp) rfl
          have z0 := Keep.cell hK d0 id
          refine Does.plain rfl ?_
          unfold yieldsK
          go_simp
          exact ⟨rfl, Keep.refl _ _⟩
        by_cases h2 : i = 2
        · subst h2
          simp only [List.getElem?_toArray, List.getElem?_cons_zero, List.getElem?_cons_succ, Option.some.injEq] at hoo
          subst hoo
          have e43 : a.tmps.getD 43 undef = .int .i64 op := hA ⟨1, .data⟩ (by simp) rfl
          refine Does.plain rfl ?_
          unfold yieldsK
          go_simp
          refine (HNm.out w').mono ?_
          rintro e w9 ⟨rfl, hk9⟩
          exact ⟨_, rfl, rfl, hk9⟩
        by_cases h3 : i = 3
        · subst h3
          simp only [List.getElem?_toArray, List.getElem?_cons_zero, List.getElem?_cons_succ, Option.some.injEq] at hoo
          subst hoo
          have e44 : a.tmps.getD 44 undef = .string S1 := hA ⟨2, .data⟩ (by simp) rfl
          refine Does.plain rfl ?_
          unfold yieldsK
          go_simp
          exact ⟨rfl, Keep.refl _ _⟩
        by_cases h4 : i = 4
        · subst h4
          simp only [List.getElem?_toArray, List.getElem?_cons_zero, List.getElem?_cons_succ, Option.some.injEq] at hoo
          subst hoo
          have e3 : a.tmps.getD 3 undef = .pointer (some ⟨w.heap.size, 0, none⟩) := hF.2.2 3 (by decide)
          refine Does.plain rfl ?_
          unfold yieldsK
          go_simp
          exact ⟨rfl, Keep.refl _ _⟩
        by_cases h5 : i = 5
        · subst h5
          simp only [List.getElem?_toArray, List.getElem?_cons_zero, List.getElem?_cons_succ, Option.some.injEq] at hoo
          subst hoo
          have e46 : a.tmps.getD 46 undef = .pointer (some ⟨w.heap.size, 1, none⟩) := hA ⟨4, .data⟩ (by simp) rfl
          have z0 := Keep.cell hK c1 id
          refine Does.plain rfl ?_
          unfold yieldsK
          go_simp
          exact ⟨rfl, Keep.refl _ _⟩
        by_cases h6 : i = 6
        · subst h6
          simp only [List.getElem?_toArray, List.getElem?_cons_zero, List.getElem?_cons_succ, Option.some.injEq] at hoo
          subst hoo
          have e5 : a.tmps.getD 5 undef = .pointer (some ⟨w.heap.size + 1, 0, none⟩) := hF.2.2 5 (by decide)
          refine Does.plain rfl ?_
          unfold yieldsK
          go_simp
          exact ⟨rfl, Keep.refl _ _⟩
        by_cases h7 : i = 7
        · subst h7
          simp only [List.getElem?_toArray, List.getElem?_cons_zero, List.getElem?_cons_succ, Option.some.injEq] at hoo
          subst hoo
          have e48 : a.tmps.getD 48 undef = .pointer (some ⟨w.heap.size + 1, 1, none⟩) := hA ⟨6, .data⟩ (by simp) rfl
          have z0 := Keep.cell hK d1 id
          refine Does.plain rfl ?_
          unfold yieldsK
          go_simp
          exact ⟨rfl, Keep.refl _ _⟩
        by_cases h8 : i = 8
        · subst h8
          simp only [List.getElem?_toArray, List.getElem?_cons_zero, List.getElem?_cons_succ, Option.some.injEq] at hoo
          subst hoo
          have e47 : a.tmps.getD 47 undef = .slice (some ⟨g, off, none⟩) ny cy := hA ⟨5, .data⟩ (by simp) rfl
          have e49 : a.tmps.getD 49 undef = .int .i64 (t : Int) := hA ⟨7, .data⟩ (by simp) rfl
          refine Does.plain rfl ?_
          unfold yieldsK
          go_simp
          exact ⟨rfl, Keep.refl _ _⟩
        by_cases h9 : i = 9
        · subst h9
          simp only [List.getElem?_toArray, List.getElem?_cons_zero, List.getElem?_cons_succ, Option.some.injEq] at hoo
          subst hoo
          have e50 : a.tmps.getD 50 undef = .pointer (some ⟨g, off + t * 5, none⟩) := hA ⟨8, .data⟩ (by simp) rfl
          refine Does.plain rfl ?_
          unfold yieldsK
          go_simp
          exact ⟨rfl, Keep.refl _ _⟩
        by_cases h10 : i = 10
        · subst h10
          simp only [List.getElem?_toArray, List.getElem?_cons_zero, List.getElem?_cons_succ, Option.some.injEq] at hoo
          subst hoo
          have e51 : a.tmps.getD 51 undef = .pointer (some ⟨g, off + t * 5, none⟩) := hA ⟨9, .data⟩ (by simp) rfl
          have z0 := Keep.cell hK hc1 id
          refine Does.plain rfl ?_
          unfold yieldsK
          go_simp
          exact ⟨rfl, Keep.refl _ _⟩
        by_cases h11 : i = 11
        · subst h11
          simp only [List.getElem?_toArray, List.getElem?_cons_zero, List.getElem?_cons_succ, Option.some.injEq] at hoo
          subst hoo
          have e45 : a.tmps.getD 45 undef = .string (S1 ++ (⟨#[32]⟩ : ByteArray)) := hA ⟨3, .data⟩ (by simp) rfl
          have e52 : a.tmps.getD 52 undef = .string S2 := hA ⟨10, .data⟩ (by simp) rfl
          refine Does.plain rfl ?_
          unfold yieldsK
          go_simp
          exact ⟨rfl, Keep.refl _ _⟩
        by_cases h12 : i = 12
        · subst h12
          simp only [List.getElem?_toArray, List.getElem?_cons_zero, List.getElem?_cons_succ, Option.some.injEq] at hoo
          subst hoo
          have e53 : a.tmps.getD 53 undef = .string (S1 ++ (⟨#[32]⟩ : ByteArray) ++ S2) := hA ⟨11, .data⟩ (by simp) rfl
          refine Does.plain rfl ?_
          unfold yieldsK
          go_simp
          exact ⟨rfl, Keep.refl _ _⟩
        omega
      case fin =>
        intro a w' hF gK hA
        have e6 : a.tmps.getD 6 undef = .string (S1 ++ (⟨#[32]⟩ : ByteArray) ++ S2) := hA 12 (by decide)
        have ha := frameD_list (l := [42, 43, 44, 45, 46, 47, 48, 49, 50, 51, 52, 53, 6]) rfl hF
        rw [ha]
        simp only [List.map_cons, List.map_nil, e6]
        generalize a.tmps.getD 42 undef = u0
        generalize a.tmps.getD 43 undef = u1
        generalize a.tmps.getD 44 undef = u2
        generalize a.tmps.getD 45 undef = u3
        generalize a.tmps.getD 46 undef = u4
        generalize a.tmps.getD 47 undef = u5
        generalize a.tmps.getD 48 undef = u6
        generalize a.tmps.getD 49 undef = u7
        generalize a.tmps.getD 50 undef = u8
        generalize a.tmps.getD 51 undef = u9
        generalize a.tmps.getD 52 undef = u10
        generalize a.tmps.getD 53 undef = u11
        simp only [fillD, List.setIfInBounds_toArray, List.set_cons_zero, List.set_cons_succ]
        simp only [List.drop_succ_cons, List.drop_zero]
        go_wp2
        go_ret
        exact ⟨rfl, keepN hK1 gK⟩
    · rw [e2]
      have HX : Hid (str (O.showI x.1 x.2.1 x.2.2) = str (joinW (insL none x))) := by show _ = _; rw [showI_ok hok]; rfl
      rw [← HX.out]
      rw [hg] at HG
      have hno2 : Hid ((((O.rowAt x.1).ka == 7) = false) ∨ (((O.rowAt x.1).ka == 7) = true ∧ decide (x.2.1 < (v.ny : Int)) = false)) := by
        cases hk7 : (O.rowAt x.1).ka == 7
        · exact .inl rfl
        · refine .inr ⟨rfl, ?_⟩
          rcases hno with hno | hno
          · exact absurd (by simpa using hk7) hno
          · rw [decide_eq_false_iff_not]; omega
      clear h hp hf hx hok hI hn hr hg HX HW e2 HNm hnl hz1 hlx hly hno
      obtain ⟨op, a, b⟩ := x
      obtain ⟨X, nx, cx, Y, ny, cy⟩ := v
      dsimp only [I.IV.val, I.IV.cells] at *
      generalize str (O.showI op a b) = S1 at *
      generalize C.gN (op, a, b) = to1 at *
      generalize (O.rowAt op).ka = ka at *
      generalize (O.rowAt op).kb = kb at *
      go_enter Tryz.func87, Tryz.ntmps87
      obtain ⟨c0, c1⟩ := And.intro (hB.cell 0) (hB.cell 1)
      obtain ⟨d0, d1, d2⟩ := And.intro (hX.cell 0) (And.intro (hX.cell 1) (hX.cell 2))
      simp only [List.getElem?_toArray, List.getElem?_cons_zero, List.getElem?_cons_succ] at c0 c1 d0 d1 d2
      go_wp2_with fail
      refine (HG.out _).mono ?_
      rintro e w1 ⟨rfl, k1⟩
      clear c0 c1 d0 d1 d2
      have hB1 := hB.keep k1 id
      have hX1 := hX.keep k1 id
      have hK1 := keepN k0 k1
      obtain ⟨c0, c1⟩ := And.intro (hB1.cell 0) (hB1.cell 1)
      obtain ⟨d0, d1, d2⟩ := And.intro (hX1.cell 0) (And.intro (hX1.cell 1) (hX1.cell 2))
      simp only [List.getElem?_toArray, List.getElem?_cons_zero, List.getElem?_cons_succ] at c0 c1 d0 d1 d2
      clear hB hX k0 k1 hB1 hX1
      rcases hno2.out with q7 | ⟨q7, q8⟩
      all_goals
        go_wp2_with (first | (go_at_call 150; refine (HK.out _).mono ?_; rintro e w2 ⟨rfl, rfl⟩) | (go_at_call 86; refine (HSh.out _).mono ?_; rintro e w3 ⟨rfl, k3⟩))
        go_ret
        exact ⟨rfl, keepN hK1 k3⟩
  · obtain ⟨t, m, e1, e2, e3, e4, e5⟩ := nw_place hp hf hx (C.gB_ka hg).2
    have HT : Hid (labT (tgs f.bd) t = lbl ((m : Nat) : Int)) := by
      show _ = _
      unfold lbN at e3
      rw [hf] at e3
      unfold labT labA
      rw [show ((tgs f.bd).findIdx? fun j => decide (j = t)) = some m from e3]
      rfl
    have htl := tgs_len f.bd
    have hbl := (ok_body (hp.fn hf).1).2.2.1
    have HLb := Lib.hid (fun W (hk : Keep NoB w W) (h1 : n ≤ 100000) => rlabel_any A (tgs f.bd) n c t W (hr.keepN hk) hn h1)
    rw [HT.out] at HLb
    rw [e5]
    have HX : Hid (str (O.rowAt x.1).name ++ (⟨#[32]⟩ : ByteArray) ++ str (lbl ((m : Nat) : Int)) = str (joinW (insL (some (lbl ((m : Nat) : Int))) x))) := by
      show _ = _
      rw [join2]; rfl
    have hle := Lib.itoa_length_le (m : Int) (by omega) (by omega)
    have hz2 := str_size (lbl ((m : Nat) : Int))
    have q2 : (str (lbl ((m : Nat) : Int))).size ≤ 22 := by unfold lbl at hz2 ⊢; simp at hz2 ⊢; omega
    have q1 : (str (O.rowAt x.1).name).size ≤ 7 := by omega
    have hnn : n ≤ 100000 := by
      rw [← hn.out]; omega
    have HLb2 := Lib.hid (fun W hk => HLb.out W hk hnn)
    rw [← HX.out]
    have hgt : C.gN x = (t : Int) := by rw [C.gN_yes hg, e1]
    rw [hg, hgt] at HG
    clear HLb h hp hf hx hok hI hn hr hg HX e2 e3 e4 e5 HSh HK hnl hz1 hlx hly HT htl hbl hle hz2 hgt
    obtain ⟨op, a, b⟩ := x
    obtain ⟨X, nx, cx, Y, ny, cy⟩ := v
    dsimp only [I.IV.val, I.IV.cells] at *
    subst e1
    generalize str (O.rowAt op).name = S1 at *
    generalize str (lbl ((m : Nat) : Int)) = S2 at *
    have u1 : ¬ 9223372036854775807 < S1.size + 1 := by omega
    have u2 : ¬ 9223372036854775807 < S1.size + 1 + S2.size := by omega
    go_enter Tryz.func87, Tryz.ntmps87
    obtain ⟨c0, c1⟩ := And.intro (hB.cell 0) (hB.cell 1)
    obtain ⟨d0, d1, d2⟩ := And.intro (hX.cell 0) (And.intro (hX.cell 1) (hX.cell 2))
    simp only [List.getElem?_toArray, List.getElem?_cons_zero, List.getElem?_cons_succ] at c0 c1 d0 d1 d2
    go_wp2_with fail
    refine (HG.out _).mono ?_
    rintro e w1 ⟨rfl, k1⟩
    clear c0 c1 d0 d1 d2
    have hB1 := hB.keep k1 id
    have hX1 := hX.keep k1 id
    have hK1 := keepN k0 k1
    obtain ⟨d0, d1, d2⟩ := And.intro (hX1.cell 0) (And.intro (hX1.cell 1) (hX1.cell 2))
    simp only [List.getElem?_toArray, List.getElem?_cons_zero, List.getElem?_cons_succ] at d0 d1 d2
    clear hB hX k0 k1 hB1 hX1
    go_wp2_with fail
    refine wp_region_tail (fun i => [17, 18, 19, 20, 21, 22, 23, 24, 25, 6].getD i 0) 10 (by kernel_rfl) (by kernel_rfl) (by kernel_rfl) (by kernel_rfl) (by kernel_rfl) (RNy1 (w.heap.size + 1) op (t : Int) A n c S1 S2) (fun i u x y h hk => RNy1_stable _ _ _ _ _ _ _ _ i u x y h hk) rfl ?step ?fin
    case step =>
      intro i o a w' hoo hi hF hK hA
      by_cases h0 : i = 0
      · subst h0
        simp only [List.getElem?_toArray, List.getElem?_cons_zero, Option.some.injEq] at hoo
        subst hoo
        have e5 : a.tmps.getD 5 undef = .pointer (some ⟨w.heap.size + 1, 0, none⟩) := hF.2.2 5 (by decide)
        refine Does.plain rfl ?_
        unfold yieldsK
        go_simp
        exact ⟨rfl, Keep.refl _ _⟩
      by_cases h1 : i = 1
      · subst h1
        simp only [List.getElem?_toArray, List.getElem?_cons_zero, List.getElem?_cons_succ, Option.some.injEq] at hoo
        subst hoo
        have e17 : a.tmps.getD 17 undef = .pointer (some ⟨w.heap.size + 1, 0, none⟩) := hA ⟨0, .data⟩ (by simp) rfl
        have z0 := Keep.cell hK d0 id
        refine Does.plain rfl ?_
        unfold yieldsK
        go_simp
        exact ⟨rfl, Keep.refl _ _⟩
      by_cases h2 : i = 2
      · subst h2
        simp only [List.getElem?_toArray, List.getElem?_cons_zero, List.getElem?_cons_succ, Option.some.injEq] at hoo
        subst hoo
        have e18 : a.tmps.getD 18 undef = .int .i64 op := hA ⟨1, .data⟩ (by simp) rfl
        refine Does.plain rfl ?_
        unfold yieldsK
        go_simp
        refine (HNm.out w').mono ?_
        rintro e w9 ⟨rfl, hk9⟩
        exact ⟨_, rfl, rfl, hk9⟩
      by_cases h3 : i = 3
      · subst h3
        simp only [List.getElem?_toArray, List.getElem?_cons_zero, List.getElem?_cons_succ, Option.some.injEq] at hoo
        subst hoo
        have e19 : a.tmps.getD 19 undef = .string S1 := hA ⟨2, .data⟩ (by simp) rfl
        refine Does.plain rfl ?_
        unfold yieldsK
        go_simp
        exact ⟨rfl, Keep.refl _ _⟩
      by_cases h4 : i = 4
      · subst h4
        simp only [List.getElem?_toArray, List.getElem?_cons_zero, List.getElem?_cons_succ, Option.some.injEq] at hoo
        subst hoo
        have e1 : a.tmps.getD 1 undef = .slice A n c := hF.2.2 1 (by decide)
        refine Does.plain rfl ?_
        unfold yieldsK
        go_simp
        exact ⟨rfl, Keep.refl _ _⟩
      by_cases h5 : i = 5
      · subst h5
        simp only [List.getElem?_toArray, List.getElem?_cons_zero, List.getElem?_cons_succ, Option.some.injEq] at hoo
        subst hoo
        have e5 : a.tmps.getD 5 undef = .pointer (some ⟨w.heap.size + 1, 0, none⟩) := hF.2.2 5 (by decide)
        refine Does.plain rfl ?_
        unfold yieldsK
        go_simp
        exact ⟨rfl, Keep.refl _ _⟩
      by_cases h6 : i = 6
      · subst h6
        simp only [List.getElem?_toArray, List.getElem?_cons_zero, List.getElem?_cons_succ, Option.some.injEq] at hoo
        subst hoo
        have e22 : a.tmps.getD 22 undef = .pointer (some ⟨w.heap.size + 1, 1, none⟩) := hA ⟨5, .data⟩ (by simp) rfl
        have z0 := Keep.cell hK d1 id
        refine Does.plain rfl ?_
        unfold yieldsK
        go_simp
        exact ⟨rfl, Keep.refl _ _⟩
      by_cases h7 : i = 7
      · subst h7
        simp only [List.getElem?_toArray, List.getElem?_cons_zero, List.getElem?_cons_succ, Option.some.injEq] at hoo
        subst hoo
        have e21 : a.tmps.getD 21 undef = .slice A n c := hA ⟨4, .data⟩ (by simp) rfl
        have e23 : a.tmps.getD 23 undef = .int .i64 (t : Int) := hA ⟨6, .data⟩ (by simp) rfl
        refine Does.plain rfl ?_
        unfold yieldsK
        go_simp
        refine (HLb2.out w' (keepN hK1 hK)).mono ?_
        rintro e w9 ⟨rfl, hk9⟩
        exact ⟨_, rfl, rfl, hk9⟩
      by_cases h8 : i = 8
      · subst h8
        simp only [List.getElem?_toArray, List.getElem?_cons_zero, List.getElem?_cons_succ, Option.some.injEq] at hoo
        subst hoo
        have e20 : a.tmps.getD 20 undef = .string (S1 ++ (⟨#[32]⟩ : ByteArray)) := hA ⟨3, .data⟩ (by simp) rfl
        have e24 : a.tmps.getD 24 undef = .string S2 := hA ⟨7, .data⟩ (by simp) rfl
        refine Does.plain rfl ?_
        unfold yieldsK
        go_simp
        exact ⟨rfl, Keep.refl _ _⟩
      by_cases h9 : i = 9
      · subst h9
        simp only [List.getElem?_toArray, List.getElem?_cons_zero, List.getElem?_cons_succ, Option.some.injEq] at hoo
        subst hoo
        have e25 : a.tmps.getD 25 undef = .string (S1 ++ (⟨#[32]⟩ : ByteArray) ++ S2) := hA ⟨8, .data⟩ (by simp) rfl
        refine Does.plain rfl ?_
        unfold yieldsK
        go_simp
        exact ⟨rfl, Keep.refl _ _⟩
      omega
    case fin =>
      intro a w' hF gK hA
      have e6 : a.tmps.getD 6 undef = .string (S1 ++ (⟨#[32]⟩ : ByteArray) ++ S2) := hA 9 (by decide)
      have ha := frameD_list (l := [17, 18, 19, 20, 21, 22, 23, 24, 25, 6]) rfl hF
      rw [ha]
      simp only [List.map_cons, List.map_nil, e6]
      generalize a.tmps.getD 17 undef = u0
      generalize a.tmps.getD 18 undef = u1
      generalize a.tmps.getD 19 undef = u2
      generalize a.tmps.getD 20 undef = u3
      generalize a.tmps.getD 21 undef = u4
      generalize a.tmps.getD 22 undef = u5
      generalize a.tmps.getD 23 undef = u6
      generalize a.tmps.getD 24 undef = u7
      generalize a.tmps.getD 25 undef = u8
      simp only [fillD, List.setIfInBounds_toArray, List.set_cons_zero, List.set_cons_succ]
      simp only [List.drop_succ_cons, List.drop_zero]
      go_wp2
      go_ret
      exact ⟨rfl, keepN hK1 gK⟩

end Go.Proofs.YtgnooffedmeenaaGreatDoor.M.L

namespace Go.Proofs.YtgnooffedmeenaaGreatDoor.M.L
open Go.RowKit W

def linesR (kind : Nat) (p : I.Im) : List LR := if I.okI p = true then allR kind p else []
def lv (e : LR) : List Value := [.string (str e.1), .int .i64 e.2.1, .int .i64 e.2.2]
def lvs (q : List LR) : List Value := q.flatMap lv
theorem lvs_snoc (q : List LR) (e : LR) : lvs (q ++ [e]) = lvs q ++ [.string (str e.1), .int .i64 e.2.1, .int .i64 e.2.2] := by
  unfold lvs; rw [List.flatMap_append, List.flatMap_cons, List.flatMap_nil, List.append_nil]; rfl
theorem lvs_length (q : List LR) : (lvs q).length = 3 * q.length := by
  induction q with
  | nil => rfl
  | cons a q ih =>
    unfold lvs at *
    rw [List.flatMap_cons, List.length_append, ih, List.length_cons]
    show 3 + _ = _
    omega
theorem lvs_at : ∀ (q : List LR) (i j : Nat) (h : i < q.length), j < 3 → (lvs q)[i * 3 + j]? = (lv q[i])[j]?
  | a :: q, 0, j, _, hj => by
    unfold lvs
    rw [List.flatMap_cons, Nat.zero_mul, Nat.zero_add, List.getElem?_append_left (by exact hj)]; rfl
  | a :: q, i + 1, j, h, hj => by
    have := lvs_at q i j (by simpa using h) hj
    unfold lvs at *
    rw [List.flatMap_cons, List.getElem?_append_right (by show 3 ≤ _; omega), show (i + 1) * 3 + j - (lv a).length = i * 3 + j by show _ - 3 = _; omega]
    exact this
def shR (p : I.Im) (i : Nat) : List LR := (p.sh.take i).map fun s => plainR (shapeT s)
def fnR (kind : Nat) (p : I.Im) (i : Nat) : List LR := shR p p.sh.length ++ funcsR kind p 0 (p.fn.take i)
def inR (kind : Nat) (p : I.Im) (i : Nat) (f : F.Fu) (j : Nat) : List LR := fnR kind p i ++ (headT f).map plainR ++ bodyR kind p (tgs f.bd) i 0 (f.bd.take j)
theorem shR_succ (p : I.Im) (i : Nat) (s : List Int) (h : p.sh[i]? = some s) : shR p (i + 1) = shR p i ++ [plainR (shapeT s)] := by
  unfold shR
  rw [List.take_add_one, h, List.map_append]; rfl
theorem funcs_snoc (kind : Nat) (p : I.Im) (f : F.Fu) : ∀ (l : List F.Fu) (k : Nat), funcsR kind p k (l ++ [f]) = funcsR kind p k l ++ funcR kind p (k + l.length) f
  | [], k => by show funcR kind p k f ++ [] = [] ++ _; simp
  | g :: l, k => by
    show funcR kind p k g ++ funcsR kind p (k + 1) (l ++ [f]) = (funcR kind p k g ++ funcsR kind p (k + 1) l) ++ _
    rw [funcs_snoc kind p f l (k + 1), List.append_assoc, List.length_cons, show k + 1 + l.length = k + (l.length + 1) by omega]
theorem body_snoc (kind : Nat) (p : I.Im) (t : List Nat) (k : Nat) (x : C.I3) : ∀ (l : List C.I3) (i : Nat), bodyR kind p t k i (l ++ [x]) = bodyR kind p t k i l ++ itemR kind p t k (i + l.length) x
  | [], i => by show itemR kind p t k i x ++ [] = [] ++ _; simp
  | y :: l, i => by
    show itemR kind p t k i y ++ bodyR kind p t k (i + 1) (l ++ [x]) = (itemR kind p t k i y ++ bodyR kind p t k (i + 1) l) ++ _
    rw [body_snoc kind p t k x l (i + 1), List.append_assoc, List.length_cons, show i + 1 + l.length = i + (l.length + 1) by omega]
theorem fnR_zero (kind : Nat) (p : I.Im) : fnR kind p 0 = shR p p.sh.length := by unfold fnR; rw [List.take_zero]; show _ ++ [] = _; simp
theorem fnR_succ (kind : Nat) (p : I.Im) (i : Nat) (f : F.Fu) (h : p.fn[i]? = some f) : fnR kind p (i + 1) = inR kind p i f f.bd.length := by
  unfold fnR inR fnR
  have hl := (List.getElem?_eq_some_iff.1 h).1
  rw [List.take_add_one, h]
  show _ ++ funcsR kind p 0 (p.fn.take i ++ [f]) = _
  rw [funcs_snoc, List.length_take, Nat.zero_add, Nat.min_eq_left (by omega), List.take_length]
  unfold funcR
  simp only [List.append_assoc]
theorem fnR_all (kind : Nat) (p : I.Im) : fnR kind p p.fn.length = allR kind p := by
  unfold fnR shR allR
  rw [List.take_length, List.take_length]
theorem inR_zero (kind : Nat) (p : I.Im) (i : Nat) (f : F.Fu) : inR kind p i f 0 = fnR kind p i ++ (headT f).map plainR := by
  unfold inR; rw [List.take_zero]; show _ ++ [] = _; simp
theorem inR_succ (kind : Nat) (p : I.Im) (i : Nat) (f : F.Fu) (j : Nat) (h : j < f.bd.length) : inR kind p i f (j + 1) = inR kind p i f j ++ itemR kind p (tgs f.bd) i j f.bd[j] := by
  unfold inR
  rw [List.take_succ_eq_append_getElem h, body_snoc, List.length_take, Nat.zero_add, Nat.min_eq_left (by omega)]
  simp only [List.append_assoc]
theorem item_len (kind : Nat) (p : I.Im) (t : List Nat) (k i : Nat) (x : C.I3) : (itemR kind p t k i x).length ≤ 2 := by
  unfold itemR
  rw [List.length_append]
  split
  · cases labA t i <;> simp
  · simp
theorem bodyR_len (kind : Nat) (p : I.Im) (t : List Nat) (k : Nat) : ∀ (l : List C.I3) (i : Nat), (bodyR kind p t k i l).length ≤ 2 * l.length
  | [], _ => Nat.le_refl _
  | x :: l, i => by
    show (itemR kind p t k i x ++ bodyR kind p t k (i + 1) l).length ≤ _
    rw [List.length_append, List.length_cons]
    have h1 := item_len kind p t k i x
    have h2 := bodyR_len kind p t k l (i + 1)
    omega
theorem head_len (f : F.Fu) : (headT f).length ≤ 2 := by
  unfold headT
  split <;> simp
theorem inR_len (kind : Nat) (p : I.Im) (i : Nat) (f : F.Fu) (j : Nat) : (inR kind p i f j).length ≤ (fnR kind p i).length + 2 + 2 * j := by
  unfold inR
  rw [List.length_append, List.length_append, List.length_map]
  have h1 := head_len f
  have h2 := bodyR_len kind p (tgs f.bd) i (f.bd.take j) 0
  have h3 := List.length_take_le j f.bd
  omega
theorem fnR_len (kind : Nat) (p : I.Im) (hb : ∀ f ∈ p.fn, f.bd.length ≤ 512) : ∀ i, i ≤ p.fn.length → (fnR kind p i).length ≤ p.sh.length + i * 1026
  | 0, _ => by rw [fnR_zero]; unfold shR; rw [List.length_map, List.take_length]; omega
  | i + 1, h => by
    have hi : i < p.fn.length := by omega
    have e := fnR_succ kind p i p.fn[i] (List.getElem?_eq_getElem hi)
    have h1 := fnR_len kind p hb i (by omega)
    have h2 := inR_len kind p i p.fn[i] p.fn[i].bd.length
    have h3 := hb _ (List.getElem_mem hi)
    rw [e]
    omega
theorem shR_len (p : I.Im) (i : Nat) : (shR p i).length ≤ p.sh.length := by
  unfold shR
  rw [List.length_map]
  exact List.length_take_le' _ _

/-- What is kept: blocks of all other types. -/
structure TK (U : TypeId) (W W' : World) : Prop where
  size : W.heap.size ≤ W'.heap.size
  blk : ∀ (k : Nat) cs T fz, W.heap[k]? = some (.cells cs T fz) → T ≠ U → W'.heap[k]? = some (.cells cs T fz)
theorem TK.refl (U : TypeId) (W : World) : TK U W W := ⟨Nat.le_refl _, fun _ _ _ _ h _ => h⟩
theorem TK.trans {U : TypeId} {W W1 W2 : World} (h : TK U W W1) (h' : TK U W1 W2) : TK U W W2 := ⟨Nat.le_trans h.size h'.size, fun k cs T fz h1 h2 => h'.blk k cs T fz (h.blk k cs T fz h1 h2) h2⟩
theorem TK.ofN {U : TypeId} {W W' : World} (h : Keep NoB W W') : TK U W W' := ⟨h.size, fun k _ _ _ h1 _ => (h.block k (Array.getElem?_eq_some_iff.1 h1).1 id).trans h1⟩
theorem TK.blk' {U : TypeId} {W W' : World} (h : TK U W W') {g : Nat} {t : TypeId} {cs : Array Value} (hb : Blk W g t cs) (hne : t ≠ U) : Blk W' g t cs := h.blk g cs t _ hb hne
theorem TK.own {U : TypeId} {W W' : World} (h : TK U W W') {E size n : Nat} {P : Nat → Prop} {v : Value} {xs : List Value} (ho : Own W E size P v n xs) (hne : E ≠ U) : Own W' E size P v n xs := by
  refine ⟨⟨ho.1.1, ?_⟩, ho.2⟩
  rcases ho.1.2 with h2 | ⟨g, cap, cur, rfl, hb, hh, r⟩
  · exact .inl h2
  · exact .inr ⟨g, cap, cur, rfl, hb, h.blk g _ _ _ hh hne, r⟩
theorem out_after {w W W' : World} {U size n n' : Nat} {v v' : Value} {xs xs' : List Value} {o : Obj} (ho : Own W U size (Fresh w) v n xs) (hK : Keep NoB w W) (hg : (W.alloc o).grownBy W' v.ownBlock)
    (hv : v'.ownBlock = v.ownBlock ∨ v'.ownBlock = some (W.alloc o).heap.size) (hrow : W'.ownsRow 0 U size v' n' xs') : Own W' U size (Fresh w) v' n' xs' ∧ Keep NoB w W' ∧ TK U W W' := by
  obtain ⟨h1, h2⟩ := own_after ho.2 (hK.alloc o) hg hv hrow
  refine ⟨h1, h2, ⟨?_, ?_⟩⟩
  · have := hg.size
    rw [World.size_alloc] at this
    omega
  · intro k cs T fz hk hne
    have hlt := (Array.getElem?_eq_some_iff.1 hk).1
    have hnb : some k ≠ v.ownBlock := fun e => by
      rcases ho.1.2 with ⟨rfl, _⟩ | ⟨g, cap, cur, rfl, _, hh, _⟩
      · simp [Value.ownBlock] at e
      · obtain rfl : k = g := by simpa [Value.ownBlock] using e
        rw [hh] at hk
        cases hk
        exact hne rfl
    rw [hg.block k (by rw [World.size_alloc]; omega) hnb, Below.heap_alloc _ _ _ hlt]
    exact hk
theorem out_after0 {w W W' : World} {U size n n' : Nat} {v v' : Value} {xs xs' : List Value} (ho : Own W U size (Fresh w) v n xs) (hK : Keep NoB w W) (hg : W.grownBy W' v.ownBlock)
    (hv : v'.ownBlock = v.ownBlock ∨ v'.ownBlock = some W.heap.size) (hrow : W'.ownsRow 0 U size v' n' xs') : Own W' U size (Fresh w) v' n' xs' ∧ Keep NoB w W' ∧ TK U W W' := by
  obtain ⟨h1, h2⟩ := own_after ho.2 hK hg hv hrow
  refine ⟨h1, h2, ⟨hg.size, ?_⟩⟩
  intro k cs T fz hk hne
  have hlt := (Array.getElem?_eq_some_iff.1 hk).1
  have hnb : some k ≠ v.ownBlock := fun e => by
    rcases ho.1.2 with ⟨rfl, _⟩ | ⟨g, cap, cur, rfl, _, hh, _⟩
    · simp [Value.ownBlock] at e
    · obtain rfl : k = g := by simpa [Value.ownBlock] using e
      rw [hh] at hk
      cases hk
      exact hne rfl
  rw [hg.block k hlt hnb]
  exact hk
theorem rd_blkL {w : World} {g : Nat} {t : TypeId} {cs : Array Value} (h : Blk w g t cs) : Rd w (some ⟨g, 0, none⟩) cs.toList := fun _ => ⟨g, 0, rfl, fun j u hu => by
  rw [Nat.zero_add, h.cell j]; simpa using hu⟩
theorem labA_size {t : List Nat} {i : Nat} {s : Bs} (h : labA t i = some s) (hl : t.length ≤ 512) : s ≠ [] ∧ s.length ≤ 22 := by
  unfold labA at h
  rw [Option.map_eq_some_iff] at h
  obtain ⟨n, h1, rfl⟩ := h
  have h2 := (List.findIdx?_eq_some_iff_getElem.1 h1).1
  have h3 := Lib.itoa_length_le (n : Int) (by omega) (by omega)
  unfold lbl
  refine ⟨by simp, ?_⟩
  rw [List.length_cons]
  omega
/-- A line's cells. -/
theorem line_cells {W : World} {A : Option Addr} {q : List LR} (h : Rd W A (lvs q)) {i : Nat} (hi : i < q.length) : ∃ g off, A = some ⟨g, off, none⟩ ∧ W.cell? ⟨g, off + i * 3, none⟩ = some (.string (str q[i].1)) ∧ W.cell? ⟨g, off + i * 3 + 1, none⟩ = some (.int .i64 q[i].2.1) ∧ W.cell? ⟨g, off + i * 3 + 2, none⟩ = some (.int .i64 q[i].2.2) := by
  obtain ⟨g, off, e, hc⟩ := h (by rw [lvs_length]; omega)
  exact ⟨g, off, e, hc _ _ (lvs_at q i 0 hi (by omega)), hc _ _ (lvs_at q i 1 hi (by omega)), hc _ _ (lvs_at q i 2 hi (by omega))⟩
theorem rline_info : (Tryz.prog.info? 78).map (fun i => (i.zero, i.size, i.bytes)) = some (some (.agg #[.string ⟨#[]⟩, .int .i64 0, .int .i64 0]), 3, 32) := by kernel_rfl

end Go.Proofs.YtgnooffedmeenaaGreatDoor.M.L

namespace Go.Proofs.YtgnooffedmeenaaGreatDoor.I
open Go.RowKit Go.Shelf W
attribute [local go_sem] Oper.semAt_some

/-- Functions and their names. -/
def NmsI (fs : List FE) : Prop := ∀ e ∈ fs, e.1.S.data.toList = e.2.nm
theorem nms_of {w : World} {v : IV} {es : List SE} {fs : List FE} (h : ImAt w v es fs) : NmsI fs := fun e he => (h.hf e he).nm
theorem str_ne {S T : ByteArray} (h : T ≠ S) : (T.toList == S.toList) = false := by
  rw [beq_eq_false_iff_ne]
  intro e
  rw [ByteArray.toList_eq, ByteArray.toList_eq] at e
  exact h (by cases T; cases S; simp at e; rw [e])
end Go.Proofs.YtgnooffedmeenaaGreatDoor.I

namespace Go.Proofs.YtgnooffedmeenaaGreatDoor.I
open Go.RowKit W

theorem nm_iff {fs : List FE} (hN : NmsI fs) {i j : Nat} (hi : i < fs.length) (hj : j < fs.length) : fs[i].1.S = fs[j].1.S ↔ fs[i].2.nm = fs[j].2.nm := by
  have h1 := hN _ (List.getElem_mem hi)
  have h2 := hN _ (List.getElem_mem hj)
  rw [← h1, ← h2]
  constructor
  · intro h; rw [h]
  · intro h
    generalize fs[i].1.S = T at h
    generalize fs[j].1.S = U at h
    cases T; cases U; simp at h; rw [h]
/-- The first so many functions are fine. -/
def FnP (fs : List FE) (j : Nat) : Prop := (∀ e ∈ fs.take j, F.okF e.2 = true) ∧ ((fs.take j).map fun e => e.2.nm).Nodup
theorem fnP_succ {fs : List FE} {j : Nat} (hj : j < fs.length) (h : FnP fs j) (ho : F.okF fs[j].2 = true) (hn : ∀ i (hi : i < fs.length), i < j → fs[i].2.nm ≠ fs[j].2.nm) : FnP fs (j + 1) := by
  obtain ⟨h1, h2⟩ := h
  unfold FnP
  rw [List.take_succ_eq_append_getElem hj]
  refine ⟨fun e he => ?_, ?_⟩
  · rcases List.mem_append.1 he with h | h
    · exact h1 e h
    · rw [List.mem_singleton.1 h]; exact ho
  · rw [List.map_append, List.nodup_append]
    refine ⟨h2, by simp, fun a ha b hb e => ?_⟩
    simp at hb
    obtain ⟨x, hx, rfl⟩ := List.mem_map.1 ha
    obtain ⟨i, hi, hxi⟩ := List.getElem_of_mem hx
    have hij : i < j := by rw [List.length_take] at hi; omega
    have hil : i < fs.length := by omega
    refine hn i hil hij ?_
    rw [List.getElem_take] at hxi
    rw [hxi, e, hb]
theorem not_ok_shape {es : List SE} {fs : List FE} {k : Nat} (hk : k < es.length) (h : S.okS es[k].2 = false) : okI (imOf es fs) = false := okI_not (fun hh => by
  have := List.all_eq_true.1 hh.2.1 es[k].2 (List.mem_map.2 ⟨_, List.getElem_mem hk, rfl⟩)
  rw [h] at this; cases this)
theorem not_ok_fun {es : List SE} {fs : List FE} {k : Nat} (hk : k < fs.length) (h : F.okF fs[k].2 = false) : okI (imOf es fs) = false := okI_not (fun hh => by
  have := List.all_eq_true.1 hh.2.2 fs[k].2 (List.mem_map.2 ⟨_, List.getElem_mem hk, rfl⟩)
  rw [h] at this; cases this)
theorem not_ok_name {es : List SE} {fs : List FE} {i j : Nat} (hi : i < fs.length) (hj : j < fs.length) (hij : i < j) (h : fs[i].2.nm = fs[j].2.nm) : okI (imOf es fs) = false := okI_not (fun hh => by
  have hnd := hh.1.2.2
  have hl : (names (imOf es fs)).length = fs.length := by simp [names, imOf]
  have := (List.getElem_inj (h₀ := by omega) (h₁ := by omega) hnd (i := i) (j := j)).1 (by simpa [names, imOf] using h)
  omega)
theorem ok_all {es : List SE} {fs : List FE} (h1 : es.length ≤ 64) (h2 : 1 ≤ fs.length) (h3 : fs.length ≤ 64) (h4 : ∀ e ∈ es, S.okS e.2 = true) (h5 : FnP fs fs.length) : okI (imOf es fs) = true := by
  obtain ⟨h6, h7⟩ := h5
  rw [List.take_of_length_le (Nat.le_refl _)] at h6 h7
  refine (okI_iff _).2 ⟨⟨by simpa [imOf] using h1, ⟨by simpa [imOf] using h2, by simpa [imOf] using h3⟩, by unfold names imOf; rw [List.map_map]; exact h7⟩, List.all_eq_true.2 fun x hx => ?_, List.all_eq_true.2 fun x hx => ?_⟩
  · obtain ⟨e, he, rfl⟩ := List.mem_map.1 hx; exact h4 e he
  · obtain ⟨e, he, rfl⟩ := List.mem_map.1 hx; exact h6 e he

set_option maxRecDepth 100000 in
set_option maxHeartbeats 4000000 in
theorem rcheckI_any (v : IV) (es : List SE) (fs : List FE) (w : World) (h : ImAt w v es fs) (hs : SmI es fs) (R : Int) (hR : Hid (chkI (imOf es fs) = R)) :
    Calls Tryz.prog 81 #[v.val] w fun e w' => e = .returned (.int .i64 R) ∧ Keep NoB w w' := by
  have bx := Blk.new w 25 v.cells
  have gK := (Keep.refl NoB w).alloc (.cells v.cells 25)
  have HI := Lib.hid (fun W (hk : Keep NoB w W) => h.keepN hk)
  have HN := Lib.hid (nms_of h)
  have hlx := h.lx
  have hly := h.ly
  have HSM := Lib.hid hs
  have hnx := hs.ns
  have hny := hs.nf
  rw [hlx] at hnx
  rw [hly] at hny
  have HBAD : Hid (okI (imOf es fs) = false → R = 80) := fun h => by rw [← hR.out, chkI_no h]
  have HOK : Hid (okI (imOf es fs) = true → R = 0) := fun h => by rw [← hR.out, chkI_ok h]
  have HLEN : Hid (¬ (v.nx ≤ 64 ∧ 1 ≤ v.ny ∧ v.ny ≤ 64) → R = 80) := fun hh => HBAD.out (okI_not (fun h2 => hh (by
    obtain ⟨⟨a1, ⟨a2, a3⟩, _⟩, _⟩ := h2
    have e1 : (imOf es fs).sh.length = es.length := by simp [imOf]
    have e2 : (imOf es fs).fn.length = fs.length := by simp [imOf]
    rw [e1] at a1
    rw [e2] at a2 a3
    omega)))
  clear h hs hR
  obtain ⟨X, nx, cx, Y, ny, cy⟩ := v
  dsimp only [IV.val, IV.cells] at *
  obtain ⟨p0, p1⟩ := blk2 (v := ⟨X, nx, cx, Y, ny, cy⟩) bx
  dsimp only at p0 p1
  clear bx
  generalize hwb : w.alloc (.cells #[.slice X nx cx, .slice Y ny cy] 25) = wb at gK p0 p1
  by_cases h1 : nx ≤ 64
  rotate_left
  · obtain rfl := HLEN.out (fun h => h1 h.1)
    go_enter Tryz.func81, Tryz.ntmps81
    go_wp2
    go_ret
    exact ⟨rfl, gK⟩
  by_cases h2 : 1 ≤ ny
  rotate_left
  · obtain rfl := HLEN.out (fun h => h2 h.2.1)
    go_enter Tryz.func81, Tryz.ntmps81
    go_wp2
    go_ret
    exact ⟨rfl, gK⟩
  by_cases h3 : ny ≤ 64
  rotate_left
  · obtain rfl := HLEN.out (fun h => h3 h.2.2)
    go_enter Tryz.func81, Tryz.ntmps81
    go_wp2
    go_ret
    exact ⟨rfl, gK⟩
  go_enter Tryz.func81, Tryz.ntmps81
  go_wp2_with fail
  clear hwb
  go_loopw [3] (fun i wr => ∃ k : Nat, k ≤ nx ∧ i = .int .i64 k ∧ Hid (∀ e ∈ es.take k, S.okS e.2 = true) ∧ Keep NoB wb wr) (fun i _ => nx - (intOf i).toNat)
  case atStart => exact ⟨0, Nat.zero_le _, rfl, fun e he => (by simp at he), Keep.refl _ _⟩
  case round =>
    obtain ⟨k, hk, rfl, hT, hK⟩ := hrel
    replace p0 := hK.cell p0 id
    by_cases hlt : k < nx
    · have hke : k < es.length := by omega
      obtain ⟨g, off, rfl, d0⟩ := shape_at (HI.out wr (keepN gK hK)).rx hke
      have hsh := (HI.out wr (keepN gK hK)).hs _ (List.getElem_mem hke)
      have hsz := HSM.out.sh _ (List.getElem_mem hke)
      have HC := Lib.hid (fun (R : Int) (hR : Hid (S.chkS es[k].2 = R)) => S.rchkS_any es[k].1.A es[k].2 es[k].1.n es[k].1.c wr hsh.1 hsh.2 (by omega) R hR)
      have HNO := Lib.hid (fun h => not_ok_shape (fs := fs) hke h)
      have HYE : Hid (S.okS es[k].2 = true → ∀ e ∈ es.take (k + 1), S.okS e.2 = true) := fun h e he => by
        rw [List.take_succ_eq_append_getElem hke] at he
        rcases List.mem_append.1 he with h5 | h5
        · exact hT.out e h5
        · rw [List.mem_singleton.1 h5]; exact h
      clear hsh hT hsz
      generalize es[k] = e at *
      obtain ⟨⟨A, n, c⟩, l⟩ := e
      dsimp only at *
      cases ho : S.okS l
      · have hC2 := Lib.hid (HC.out 60 (S.chkS_no ho))
        obtain rfl := HBAD.out (HNO.out ho)
        clear HC HYE HNO
        go_wp2_with fail
        refine hC2.out.mono ?_
        rintro e w5 ⟨rfl, k5⟩
        have HK := Lib.hid (keepN gK (keepN hK k5))
        clear k5 hC2
        go_wp2
        go_ret
        exact ⟨rfl, HK.out⟩
      · have hC2 := Lib.hid (HC.out 0 (S.chkS_ok ho))
        have HT2 := Lib.hid (HYE.out ho)
        clear HC HYE HNO
        go_wp2_with fail
        refine hC2.out.mono ?_
        rintro e w5 ⟨rfl, k5⟩
        have HK := Lib.hid (keepN hK k5)
        clear k5 hC2
        go_wp2
        go_roundw
        case rel => exact ⟨k + 1, by omega, by go_num, HT2, HK.out⟩
        case measure => simp [intOf]; omega
    · obtain rfl : k = nx := by omega
      have HES : Hid (∀ e ∈ es, S.okS e.2 = true) := fun e he => hT.out e (by rw [List.take_of_length_le (by omega)]; exact he)
      replace p1 := hK.cell p1 id
      replace gK := keepN gK hK
      obtain ⟨wM, hwM⟩ : ∃ wM, wM = wr := ⟨_, rfl⟩
      subst hwM
      clear hT hK
      go_wp2_with fail
      go_loopw [4] (fun i wr => ∃ j : Nat, j ≤ ny ∧ i = .int .i64 j ∧ Hid (FnP fs j) ∧ Keep NoB wM wr) (fun i _ => ny - (intOf i).toNat)
      case atStart => exact ⟨0, Nat.zero_le _, rfl, ⟨fun e he => (by simp at he), by simp⟩, Keep.refl _ _⟩
      case round =>
        obtain ⟨j, hj, rfl, hT, hK⟩ := hrel
        replace p1 := hK.cell p1 id
        by_cases hlt2 : j < ny
        · have hje : j < fs.length := by omega
          have hry := (HI.out wr (keepN gK hK)).ry
          obtain ⟨g, off, rfl, d0, d1, d2, d3, d4⟩ := fun_at hry hje
          have hfn := (HI.out wr (keepN gK hK)).hf _ (List.getElem_mem hje)
          have hsm := HSM.out.fn _ (List.getElem_mem hje)
          have HC := Lib.hid (fun W (hk : Keep NoB wr W) (R : Int) (hR : Hid (F.chkF fs[j].2 = R)) => F.rcheck_any fs[j].1 fs[j].2 W (hfn.keepN hk) hsm R hR)
          have HNO := Lib.hid (fun h => not_ok_fun (es := es) hje h)
          have HNN := Lib.hid (fun i hi hij h => not_ok_name (es := es) (i := i) hi hje hij h)
          have HNI := Lib.hid (fun i hi => nm_iff HN.out (i := i) hi hje)
          have HYE := Lib.hid (fun ho hn => fnP_succ hje hT.out ho hn)
          have HRY := Lib.hid hry
          clear hfn hsm hT hry
          generalize fs[j] = e at *
          obtain ⟨⟨S1, A1, na1, ca1, B1, nb1, cb1, L1, nl1, cl1, D1, nd1, cd1⟩, f⟩ := e
          dsimp only [F.FV.val, F.FV.cells] at *
          cases ho : F.okF f
          · have hC2 := Lib.hid (fun W hk => HC.out W hk 70 (F.chkF_no ho))
            obtain rfl := HBAD.out (HNO.out ho)
            clear HC HYE HNO HNN HNI
            go_wp2_with fail
            refine (hC2.out _ (Keep.refl _ _)).mono ?_
            rintro e w5 ⟨rfl, k5⟩
            have HK := Lib.hid (keepN gK (keepN hK k5))
            clear k5 hC2
            go_wp2
            go_ret
            exact ⟨rfl, HK.out⟩
          · have hC2 := Lib.hid (fun W hk => HC.out W hk 0 (F.chkF_ok ho))
            have HYE2 := Lib.hid (HYE.out ho)
            clear HC HYE HNO
            go_wp2_with fail
            refine (hC2.out _ (Keep.refl _ _)).mono ?_
            rintro e w5 ⟨rfl, k5⟩
            replace p1 := k5.cell p1 id
            replace d0 := k5.cell d0 id
            have HRY5 := Lib.hid (HRY.out.keepN k5)
            replace hK := keepN hK k5
            clear k5 hC2 HRY d1 d2 d3 d4
            go_wp2_with fail
            go_loopw [5] (fun i wr => ∃ i0 : Nat, i0 ≤ j ∧ i = .int .i64 i0 ∧ Hid (∀ i (hi : i < fs.length), i < i0 → fs[i].2.nm ≠ f.nm) ∧ Keep NoB w5 wr) (fun i _ => j - (intOf i).toNat)
            case atStart => exact ⟨0, Nat.zero_le _, rfl, fun i _ hi => (by omega), Keep.refl _ _⟩
            case round =>
              obtain ⟨i0, hi0, rfl, hT, hK2⟩ := hrel
              replace p1 := hK2.cell p1 id
              replace d0 := hK2.cell d0 id
              by_cases hlt3 : i0 < j
              · have hie : i0 < fs.length := by omega
                have hji : (i0 : Int) < (ny : Int) := by omega
                have hjn : (j : Int) < (ny : Int) := by omega
                obtain ⟨g', off', eg, e0, _⟩ := fun_at (HRY5.out.keepN hK2) hie
                injection eg with eg
                injection eg with eg1 eg2
                subst eg1 eg2
                have HI0 := Lib.hid (HNI.out i0 hie)
                have HN0 := Lib.hid (HNN.out i0 hie hlt3)
                have HT2 : Hid (fs[i0].2.nm ≠ f.nm → ∀ i (hi : i < fs.length), i < i0 + 1 → fs[i].2.nm ≠ f.nm) := fun h i hi hii => by
                  rcases Nat.lt_succ_iff_lt_or_eq.1 hii with h5 | rfl
                  · exact hT.out i hi h5
                  · exact h
                clear hT
                generalize fs[i0] = q at *
                obtain ⟨qv, qf⟩ := q
                dsimp only at *
                have HK := Lib.hid (keepN hK hK2)
                by_cases he : qf.nm = f.nm
                · obtain rfl := HBAD.out (HN0.out he)
                  have heq : qv.S = S1 := HI0.out.2 he
                  rw [heq] at e0
                  clear HT2 HN0 HI0 HYE2 he
                  go_wp2
                  go_quiet (fail)
                  go_wp2
                  go_ret
                  exact ⟨rfl, (keepN gK HK.out).drewN _⟩
                · have hne := str_ne (S := S1) (T := qv.S) (fun h => he (HI0.out.1 h))
                  have HT3 := Lib.hid (HT2.out he)
                  have HK3 := Lib.hid hK2
                  clear HT2 HN0 HI0 he
                  generalize qv.S = T at *
                  go_wp2
                  go_quiet (fail)
                  go_wp2
                  go_roundw
                  case rel => exact ⟨i0 + 1, by omega, by go_num, HT3, HK3.out.drewN _⟩
                  case measure => simp [intOf]; omega
              · obtain rfl : i0 = j := by omega
                have HT2 := Lib.hid (HYE2.out (fun i hi hij => hT.out i hi hij))
                have HK := Lib.hid (keepN hK hK2)
                clear hT hK hK2
                go_wp2
                go_roundw
                case rel => exact ⟨i0 + 1, by omega, by go_num, HT2, HK.out⟩
                case measure => simp [intOf]; omega
        · obtain rfl : j = ny := by omega
          obtain rfl := HOK.out (ok_all (by omega) (by omega) (by omega) HES.out (by rw [hly]; exact hT.out))
          have HK := Lib.hid (keepN gK hK)
          clear hT hK
          go_wp2
          go_ret
          exact ⟨rfl, HK.out⟩

end Go.Proofs.YtgnooffedmeenaaGreatDoor.I

namespace Go.Proofs.YtgnooffedmeenaaGreatDoor.M.L
open Go.RowKit W

/-- Where a row of lines stands. -/
def OutAt (w1 W : World) (v : Value) (q : List LR) : Prop := ∃ B d, v = .slice B q.length d ∧ Own W 78 3 (Fresh w1) (.slice B q.length d) q.length (lvs q) ∧ Keep NoB w1 W
/-- A function's copy, and its targets, while lines are appended. -/
structure FcAt (W : World) (b : Nat) (cells : Array Value) (T : Option Addr) (nt ct : Nat) (ts : List Nat) : Prop where
  bx : Blk W b 37 cells
  tg : ∃ P, Own W 3 1 P (.slice T nt ct) nt (nvs ts)
theorem FcAt.tk {W W' : World} {b : Nat} {cells : Array Value} {T : Option Addr} {nt ct : Nat} {ts : List Nat} (h : FcAt W b cells T nt ct ts) (hk : TK 78 W W') : FcAt W' b cells T nt ct ts :=
  ⟨hk.blk' h.bx (by decide), by obtain ⟨P, hp⟩ := h.tg; exact ⟨P, hk.own hp (by decide)⟩⟩
theorem FcAt.rd {W : World} {b : Nat} {cells : Array Value} {T : Option Addr} {nt ct : Nat} {ts : List Nat} (h : FcAt W b cells T nt ct ts) : Rd W T (nvs ts) := by
  obtain ⟨P, hp⟩ := h.tg
  obtain ⟨A, c, e, _, _, hr, _⟩ := hp.form
  injection e with e1 e2 e3
  subst e1
  exact hr


/-- What the values are that the region of a function's head yields. -/
def RLy1 (b8 : Nat) (B : Option Addr) (m d : Nat) (Sg : ByteArray) (A : Option Addr) (na ca : Nat) (B' : Option Addr) (nb cb : Nat) (G1 : ByteArray) : Nat → Value → World → Prop
  | 0 => fun u _ => u = .slice B m d
  | 1 => fun u _ => u = .pointer (some ⟨b8, 0, none⟩)
  | 2 => fun u _ => u = .string Sg
  | 3 => fun u _ => u = .string ((⟨#[102, 117, 110, 99, 32]⟩ : ByteArray) ++ Sg)
  | 4 => fun u _ => u = .string ((⟨#[102, 117, 110, 99, 32]⟩ : ByteArray) ++ Sg ++ (⟨#[32]⟩ : ByteArray))
  | 5 => fun u _ => u = .pointer (some ⟨b8, 1, none⟩)
  | 6 => fun u _ => u = .agg #[.slice A na ca, .slice B' nb cb]
  | 7 => fun u _ => u = .string G1
  | 8 => fun u _ => u = .string ((⟨#[102, 117, 110, 99, 32]⟩ : ByteArray) ++ Sg ++ (⟨#[32]⟩ : ByteArray) ++ G1)
  | 9 => fun u _ => u = .agg #[.string ((⟨#[102, 117, 110, 99, 32]⟩ : ByteArray) ++ Sg ++ (⟨#[32]⟩ : ByteArray) ++ G1), .int .i64 (-1), .int .i64 (-1)]
  | 10 => fun u W => ∃ b, u = .slice (some ⟨b, 0, none⟩) 1 1 ∧ Blk W b 78 #[.string ((⟨#[102, 117, 110, 99, 32]⟩ : ByteArray) ++ Sg ++ (⟨#[32]⟩ : ByteArray) ++ G1), .int .i64 (-1), .int .i64 (-1)]
  | _ => fun _ _ => True
theorem RLy1_stable (b8 : Nat) (B : Option Addr) (m d : Nat) (Sg : ByteArray) (A : Option Addr) (na ca : Nat) (B' : Option Addr) (nb cb : Nat) (G1 : ByteArray) (i : Nat) (u : Value) (W W' : World) (h : RLy1 b8 B m d Sg A na ca B' nb cb G1 i u W) (hk : Keep NoB W W') : RLy1 b8 B m d Sg A na ca B' nb cb G1 i u W' := by
  unfold RLy1 at h ⊢
  split at h
  all_goals first | exact h | (obtain ⟨b, e, hb⟩ := h; exact ⟨b, e, hb.keep hk id⟩)
/-- What the values are that the region of an instruction with names yields. -/
def RLy2 (im tg : Value) (b8 gd od nd cd q : Nat) (x : Value) (U : ByteArray) : Nat → Value → World → Prop
  | 0 => fun u _ => u = im
  | 1 => fun u _ => u = tg
  | 2 => fun u _ => u = .pointer (some ⟨b8, 4, none⟩)
  | 3 => fun u _ => u = .slice (some ⟨gd, od, none⟩) nd cd
  | 4 => fun u _ => u = .int .i64 (q : Int)
  | 5 => fun u _ => u = .pointer (some ⟨gd, od + q * 3, none⟩)
  | 6 => fun u _ => u = x
  | 7 => fun u _ => u = .string U
  | 8 => fun u _ => u = .string U
  | _ => fun _ _ => True
theorem RLy2_stable (im tg : Value) (b8 gd od nd cd q : Nat) (x : Value) (U : ByteArray) (i : Nat) (u : Value) (W W' : World) (h : RLy2 im tg b8 gd od nd cd q x U i u W) (_hk : Keep NoB W W') : RLy2 im tg b8 gd od nd cd q x U i u W' := by
  unfold RLy2 at h ⊢
  split at h <;> exact h

end Go.Proofs.YtgnooffedmeenaaGreatDoor.M.L
