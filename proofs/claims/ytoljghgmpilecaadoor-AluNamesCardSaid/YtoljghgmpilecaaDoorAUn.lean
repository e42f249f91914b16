/-
  Unary: the map of its operations is filled, and asked: what Unary answers (UnC). No conditions.
-/
import Derived.Test.YtoljghgmpilecaaDoorABin
namespace Go.Proofs.YtoljghgmpilecaaDoor
open Go.RowKit Go.Maps

theorem bits_not {a : Int} (ha : I64 a) : bits .xor .i64 (-1) a = -1 - a := by
  rw [bits_xor]
  have hu := U_lt a
  have h1 : U (-1) = 18446744073709551615 := by decide
  have h2 : U (-1) ^^^ U a = 18446744073709551615 - U a := by
    have h := congrArg BitVec.toNat (BitVec.allOnes_xor (x := BitVec.ofNat 64 (U a)))
    rw [BitVec.toNat_not, BitVec.toNat_xor, BitVec.toNat_allOnes, BitVec.toNat_ofNat, Nat.mod_eq_of_lt (show U a < 2 ^ 64 from hu)] at h
    rw [h1]
    simpa using h
  rw [h2, Int.ofNat_sub (by omega)]
  have hw : wrap64 ((18446744073709551615 : Nat) - (U a : Int)) = wrap64 (-1 - a) := w_cong (by
    have : (U a : Int) = a % 18446744073709551616 := by
      have := w_U a
      unfold U
      omega
    rw [this]; omega)
  rw [hw]
  exact w_in (by unfold I64 at ha ⊢; omega)

theorem w_i8 (a : Int) : wrap64 (IntKind.i8.wrap a) = IntKind.i8.wrap a := w_in (by
  simp only [I64, IntKind.wrap, IntKind.bits, IntKind.signed]; simp; split <;> omega)
theorem w_i16 (a : Int) : wrap64 (IntKind.i16.wrap a) = IntKind.i16.wrap a := w_in (by
  simp only [I64, IntKind.wrap, IntKind.bits, IntKind.signed]; simp; split <;> omega)
theorem w_i32 (a : Int) : wrap64 (IntKind.i32.wrap a) = IntKind.i32.wrap a := w_in (by rw [IntKind.wrap_i32]; unfold I64; omega)
theorem w_32 (a : Int) : wrap64 (wrap32 a) = IntKind.i32.wrap a := by
  have h : wrap32 a = IntKind.i32.wrap a := by rw [IntKind.wrap_i32]; simp only [wrap32]
  rw [h]; exact w_i32 a
theorem w_u16 (a : Int) : wrap64 (IntKind.u16.wrap a) = IntKind.u16.wrap a := by rw [IntKind.wrap_u16]; exact w_in (by unfold I64; omega)


theorem ucl_0 (a : Int) (w : World) (_ha : I64 a) :
    Calls Tryd.prog 41 #[.int .i64 a] w fun e w' => e = .returned (.int .i64 (unN 0 a)) ∧ w = w' := by
  rw [un_neg a]
  go_enter Tryd.func41, Tryd.ntmps41
  go_wp2
  go_ret
  exact ⟨ret_int rfl, rfl⟩

theorem ucl_1 (a : Int) (w : World) (ha : I64 a) :
    Calls Tryd.prog 42 #[.int .i64 a] w fun e w' => e = .returned (.int .i64 (unN 1 a)) ∧ w = w' := by
  have H : unN 1 a = -1 - a := by unfold unN; simp
  rw [H]
  go_enter Tryd.func42, Tryd.ntmps42
  go_wp2
  all_goals first | (rename_i h; exact absurd h (by decide)) | (go_ret; exact ⟨ret_int (bits_not ha), rfl⟩)

theorem ucl_2 (a : Int) (w : World) (_ha : I64 a) :
    Calls Tryd.prog 43 #[.int .i64 a] w fun e w' => e = .returned (.int .i64 (unN 2 a)) ∧ w = w' := by
  by_cases h : a = 0
  · have H : unN 2 a = 1 := by unfold unN; simp [h]
    have h' : (a == 0) = true := by simpa using h
    rw [H]
    go_enter Tryd.func43, Tryd.ntmps43
    go_wp2_with (go_at_call 38; refine (truth_yes _).mono ?_; rintro e w' ⟨rfl, rfl⟩)
    go_ret
    exact ⟨rfl, rfl⟩
  · have H : unN 2 a = 0 := by unfold unN; simp [h]
    have h' : (a == 0) = false := by simpa using h
    rw [H]
    go_enter Tryd.func43, Tryd.ntmps43
    go_wp2_with (go_at_call 38; refine (truth_no _).mono ?_; rintro e w' ⟨rfl, rfl⟩)
    go_ret
    exact ⟨rfl, rfl⟩

theorem ucl_3 (a : Int) (w : World) (_ha : I64 a) :
    Calls Tryd.prog 44 #[.int .i64 a] w fun e w' => e = .returned (.int .i64 (unN 3 a)) ∧ w = w' := by
  rw [un_i8 a]
  go_enter Tryd.func44, Tryd.ntmps44
  go_wp2
  go_ret
  exact ⟨ret_int (w_i8 a), rfl⟩

theorem ucl_4 (a : Int) (w : World) (_ha : I64 a) :
    Calls Tryd.prog 45 #[.int .i64 a] w fun e w' => e = .returned (.int .i64 (unN 4 a)) ∧ w = w' := by
  rw [un_i16 a]
  go_enter Tryd.func45, Tryd.ntmps45
  go_wp2
  go_ret
  exact ⟨ret_int (w_i16 a), rfl⟩

theorem ucl_5 (a : Int) (w : World) (_ha : I64 a) :
    Calls Tryd.prog 46 #[.int .i64 a] w fun e w' => e = .returned (.int .i64 (unN 5 a)) ∧ w = w' := by
  rw [un_i32 a]
  go_enter Tryd.func46, Tryd.ntmps46
  go_wp2
  go_ret
  exact ⟨ret_int (w_32 a), rfl⟩

theorem ucl_6 (a : Int) (w : World) (_ha : I64 a) :
    Calls Tryd.prog 47 #[.int .i64 a] w fun e w' => e = .returned (.int .i64 (unN 6 a)) ∧ w = w' := by
  rw [un_u8 a]
  go_enter Tryd.func47, Tryd.ntmps47
  go_wp2
  go_ret
  exact ⟨ret_int (IntKind.wrap_u8 a).symm, rfl⟩

theorem ucl_7 (a : Int) (w : World) (_ha : I64 a) :
    Calls Tryd.prog 48 #[.int .i64 a] w fun e w' => e = .returned (.int .i64 (unN 7 a)) ∧ w = w' := by
  rw [un_u16 a]
  go_enter Tryd.func48, Tryd.ntmps48
  go_wp2
  go_ret
  exact ⟨ret_int (w_u16 a), rfl⟩

theorem ucl_8 (a : Int) (w : World) (_ha : I64 a) :
    Calls Tryd.prog 49 #[.int .i64 a] w fun e w' => e = .returned (.int .i64 (unN 8 a)) ∧ w = w' := by
  rw [un_u32 a]
  go_enter Tryd.func49, Tryd.ntmps49
  go_wp2
  go_ret
  exact ⟨ret_int (IntKind.wrap_u32 a).symm, rfl⟩

def utab : DataW Unit := ((((((((((DataW.map [] : DataW Unit).put (.int .i64 0) (fnD 41)).put (.int .i64 1) (fnD 42)).put (.int .i64 2) (fnD 43)).put (.int .i64 3) (fnD 44)).put (.int .i64 4) (fnD 45)).put (.int .i64 5) (fnD 46)).put (.int .i64 6) (fnD 47)).put (.int .i64 7) (fnD 48)).put (.int .i64 8) (fnD 49))

set_option maxRecDepth 100000 in
set_option maxHeartbeats 8000000 in
theorem uops_any (w : World) :
    Calls Tryd.prog 23 #[] w fun e w' => ∃ b, e = .returned (.map (some b)) ∧ FMap Tryd.prog 3 w b 9 utab [] w' := by
  have hmm := @run_makeMap Tryd.prog
  have hf0 := fmap_new Tryd.prog 3 w w (Keep.refl _ _)
  go_enter Tryd.func23, Tryd.ntmps23
  go_wp2_with (refine wpList_insert_fun w _ rfl _ _ _ _ rfl _ _ intKey Tryd.underlying53 _ _ _ _ rfl hf0 (by unfold maxLen; omega) _ _ _ rfl rfl (key_at _ (by unfold I64; omega)) _ _ (funElem_mk _) ?_; clear hf0; intro w1 hf0)
  go_ret
  exact ⟨_, rfl, hf0⟩

theorem zero_ufun (w : World) : (zeroValue 51).run Tryd.prog w = .ok .nilFunc w := by kernel_rfl
theorem utab_0 : utab.atKey (.int .i64 0) .nil = (fnD 41) ∧ has utab (.int .i64 0) = true := by
  unfold utab
  exact ⟨by rw [atKey_put_other (litne (by decide)), atKey_put_other (litne (by decide)), atKey_put_other (litne (by decide)), atKey_put_other (litne (by decide)), atKey_put_other (litne (by decide)), atKey_put_other (litne (by decide)), atKey_put_other (litne (by decide)), atKey_put_other (litne (by decide)), atKey_put_same isMap_empty (keyLit 0)], by rw [has_put_other (litne (by decide)), has_put_other (litne (by decide)), has_put_other (litne (by decide)), has_put_other (litne (by decide)), has_put_other (litne (by decide)), has_put_other (litne (by decide)), has_put_other (litne (by decide)), has_put_other (litne (by decide)), has_put_same isMap_empty (keyLit 0)]⟩
theorem utab_1 : utab.atKey (.int .i64 1) .nil = (fnD 42) ∧ has utab (.int .i64 1) = true := by
  unfold utab
  exact ⟨by rw [atKey_put_other (litne (by decide)), atKey_put_other (litne (by decide)), atKey_put_other (litne (by decide)), atKey_put_other (litne (by decide)), atKey_put_other (litne (by decide)), atKey_put_other (litne (by decide)), atKey_put_other (litne (by decide)), atKey_put_same (isMap_empty.put _ _) (keyLit 1)], by rw [has_put_other (litne (by decide)), has_put_other (litne (by decide)), has_put_other (litne (by decide)), has_put_other (litne (by decide)), has_put_other (litne (by decide)), has_put_other (litne (by decide)), has_put_other (litne (by decide)), has_put_same (isMap_empty.put _ _) (keyLit 1)]⟩
theorem utab_2 : utab.atKey (.int .i64 2) .nil = (fnD 43) ∧ has utab (.int .i64 2) = true := by
  unfold utab
  exact ⟨by rw [atKey_put_other (litne (by decide)), atKey_put_other (litne (by decide)), atKey_put_other (litne (by decide)), atKey_put_other (litne (by decide)), atKey_put_other (litne (by decide)), atKey_put_other (litne (by decide)), atKey_put_same ((isMap_empty.put _ _).put _ _) (keyLit 2)], by rw [has_put_other (litne (by decide)), has_put_other (litne (by decide)), has_put_other (litne (by decide)), has_put_other (litne (by decide)), has_put_other (litne (by decide)), has_put_other (litne (by decide)), has_put_same ((isMap_empty.put _ _).put _ _) (keyLit 2)]⟩
theorem utab_3 : utab.atKey (.int .i64 3) .nil = (fnD 44) ∧ has utab (.int .i64 3) = true := by
  unfold utab
  exact ⟨by rw [atKey_put_other (litne (by decide)), atKey_put_other (litne (by decide)), atKey_put_other (litne (by decide)), atKey_put_other (litne (by decide)), atKey_put_other (litne (by decide)), atKey_put_same (((isMap_empty.put _ _).put _ _).put _ _) (keyLit 3)], by rw [has_put_other (litne (by decide)), has_put_other (litne (by decide)), has_put_other (litne (by decide)), has_put_other (litne (by decide)), has_put_other (litne (by decide)), has_put_same (((isMap_empty.put _ _).put _ _).put _ _) (keyLit 3)]⟩
theorem utab_4 : utab.atKey (.int .i64 4) .nil = (fnD 45) ∧ has utab (.int .i64 4) = true := by
  unfold utab
  exact ⟨by rw [atKey_put_other (litne (by decide)), atKey_put_other (litne (by decide)), atKey_put_other (litne (by decide)), atKey_put_other (litne (by decide)), atKey_put_same ((((isMap_empty.put _ _).put _ _).put _ _).put _ _) (keyLit 4)], by rw [has_put_other (litne (by decide)), has_put_other (litne (by decide)), has_put_other (litne (by decide)), has_put_other (litne (by decide)), has_put_same ((((isMap_empty.put _ _).put _ _).put _ _).put _ _) (keyLit 4)]⟩
theorem utab_5 : utab.atKey (.int .i64 5) .nil = (fnD 46) ∧ has utab (.int .i64 5) = true := by
  unfold utab
  exact ⟨by rw [atKey_put_other (litne (by decide)), atKey_put_other (litne (by decide)), atKey_put_other (litne (by decide)), atKey_put_same (((((isMap_empty.put _ _).put _ _).put _ _).put _ _).put _ _) (keyLit 5)], by rw [has_put_other (litne (by decide)), has_put_other (litne (by decide)), has_put_other (litne (by decide)), has_put_same (((((isMap_empty.put _ _).put _ _).put _ _).put _ _).put _ _) (keyLit 5)]⟩
theorem utab_6 : utab.atKey (.int .i64 6) .nil = (fnD 47) ∧ has utab (.int .i64 6) = true := by
  unfold utab
  exact ⟨by rw [atKey_put_other (litne (by decide)), atKey_put_other (litne (by decide)), atKey_put_same ((((((isMap_empty.put _ _).put _ _).put _ _).put _ _).put _ _).put _ _) (keyLit 6)], by rw [has_put_other (litne (by decide)), has_put_other (litne (by decide)), has_put_same ((((((isMap_empty.put _ _).put _ _).put _ _).put _ _).put _ _).put _ _) (keyLit 6)]⟩
theorem utab_7 : utab.atKey (.int .i64 7) .nil = (fnD 48) ∧ has utab (.int .i64 7) = true := by
  unfold utab
  exact ⟨by rw [atKey_put_other (litne (by decide)), atKey_put_same (((((((isMap_empty.put _ _).put _ _).put _ _).put _ _).put _ _).put _ _).put _ _) (keyLit 7)], by rw [has_put_other (litne (by decide)), has_put_same (((((((isMap_empty.put _ _).put _ _).put _ _).put _ _).put _ _).put _ _).put _ _) (keyLit 7)]⟩
theorem utab_8 : utab.atKey (.int .i64 8) .nil = (fnD 49) ∧ has utab (.int .i64 8) = true := by
  unfold utab
  exact ⟨by rw [atKey_put_same ((((((((isMap_empty.put _ _).put _ _).put _ _).put _ _).put _ _).put _ _).put _ _).put _ _) (keyLit 8)], by rw [has_put_same ((((((((isMap_empty.put _ _).put _ _).put _ _).put _ _).put _ _).put _ _).put _ _).put _ _) (keyLit 8)]⟩
theorem ukeys_tab (op : Int) (h : ¬ (0 ≤ op ∧ op < 9)) : has utab (.int .i64 op) = false := by
  have ne : ∀ k : Int, 0 ≤ k → k < 9 → (Lit.int .i64 op) ≠ (Lit.int .i64 k) := fun k h0 h1 e => by injection e with _ e; omega
  unfold utab
  rw [has_put_other (ne 8 (by omega) (by omega)), has_put_other (ne 7 (by omega) (by omega)), has_put_other (ne 6 (by omega) (by omega)), has_put_other (ne 5 (by omega) (by omega)), has_put_other (ne 4 (by omega) (by omega)), has_put_other (ne 3 (by omega) (by omega)), has_put_other (ne 2 (by omega) (by omega)), has_put_other (ne 1 (by omega) (by omega)), has_put_other (ne 0 (by omega) (by omega))]
  rfl

set_option maxRecDepth 100000 in
set_option maxHeartbeats 8000000 in
theorem un_0 (a : Int) (w : World) (ha : I64 a) :
    Calls Tryd.prog 19 #[.int .i64 0, .int .i64 a] w fun e w' => e = .returned (.tuple #[.int .i64 (unN 0 a), .int .i64 (unE 0)]) ∧ Keep NoB w w' := by
  have hh := Lib.hid ha
  clear ha
  go_enter Tryd.func19, Tryd.ntmps19
  go_wp2_with fail
  refine (uops_any _).mono ?_
  rintro e w1 ⟨b1, rfl, hf⟩
  obtain ⟨hown, k1, hb1, _⟩ := hf
  go_wp2_with (refine wpList_lookup_own_ok _ rfl _ _ _ rfl _ _ intKey Tryd.underlying53 funElem (zero_ufun _) .nil [] rfl _ _ _ rfl hown _ _ rfl (key_at 0 (by unfold I64; omega)) ?_; intro v ps hv; rw [utab_0.1] at hv; rw [utab_0.2]; obtain rfl := funElem_inv hv)
  refine (ucl_0 a _ hh.out).mono ?_
  rintro e w2 ⟨rfl, rfl⟩
  go_wp2
  go_ret2
  exact ⟨pr2 rfl rfl, k1⟩

set_option maxRecDepth 100000 in
set_option maxHeartbeats 8000000 in
theorem un_1 (a : Int) (w : World) (ha : I64 a) :
    Calls Tryd.prog 19 #[.int .i64 1, .int .i64 a] w fun e w' => e = .returned (.tuple #[.int .i64 (unN 1 a), .int .i64 (unE 1)]) ∧ Keep NoB w w' := by
  have hh := Lib.hid ha
  clear ha
  go_enter Tryd.func19, Tryd.ntmps19
  go_wp2_with fail
  refine (uops_any _).mono ?_
  rintro e w1 ⟨b1, rfl, hf⟩
  obtain ⟨hown, k1, hb1, _⟩ := hf
  go_wp2_with (refine wpList_lookup_own_ok _ rfl _ _ _ rfl _ _ intKey Tryd.underlying53 funElem (zero_ufun _) .nil [] rfl _ _ _ rfl hown _ _ rfl (key_at 1 (by unfold I64; omega)) ?_; intro v ps hv; rw [utab_1.1] at hv; rw [utab_1.2]; obtain rfl := funElem_inv hv)
  refine (ucl_1 a _ hh.out).mono ?_
  rintro e w2 ⟨rfl, rfl⟩
  go_wp2
  go_ret2
  exact ⟨pr2 rfl rfl, k1⟩

set_option maxRecDepth 100000 in
set_option maxHeartbeats 8000000 in
theorem un_2 (a : Int) (w : World) (ha : I64 a) :
    Calls Tryd.prog 19 #[.int .i64 2, .int .i64 a] w fun e w' => e = .returned (.tuple #[.int .i64 (unN 2 a), .int .i64 (unE 2)]) ∧ Keep NoB w w' := by
  have hh := Lib.hid ha
  clear ha
  go_enter Tryd.func19, Tryd.ntmps19
  go_wp2_with fail
  refine (uops_any _).mono ?_
  rintro e w1 ⟨b1, rfl, hf⟩
  obtain ⟨hown, k1, hb1, _⟩ := hf
  go_wp2_with (refine wpList_lookup_own_ok _ rfl _ _ _ rfl _ _ intKey Tryd.underlying53 funElem (zero_ufun _) .nil [] rfl _ _ _ rfl hown _ _ rfl (key_at 2 (by unfold I64; omega)) ?_; intro v ps hv; rw [utab_2.1] at hv; rw [utab_2.2]; obtain rfl := funElem_inv hv)
  refine (ucl_2 a _ hh.out).mono ?_
  rintro e w2 ⟨rfl, rfl⟩
  go_wp2
  go_ret2
  exact ⟨pr2 rfl rfl, k1⟩

set_option maxRecDepth 100000 in
set_option maxHeartbeats 8000000 in
theorem un_3 (a : Int) (w : World) (ha : I64 a) :
    Calls Tryd.prog 19 #[.int .i64 3, .int .i64 a] w fun e w' => e = .returned (.tuple #[.int .i64 (unN 3 a), .int .i64 (unE 3)]) ∧ Keep NoB w w' := by
  have hh := Lib.hid ha
  clear ha
  go_enter Tryd.func19, Tryd.ntmps19
  go_wp2_with fail
  refine (uops_any _).mono ?_
  rintro e w1 ⟨b1, rfl, hf⟩
  obtain ⟨hown, k1, hb1, _⟩ := hf
  go_wp2_with (refine wpList_lookup_own_ok _ rfl _ _ _ rfl _ _ intKey Tryd.underlying53 funElem (zero_ufun _) .nil [] rfl _ _ _ rfl hown _ _ rfl (key_at 3 (by unfold I64; omega)) ?_; intro v ps hv; rw [utab_3.1] at hv; rw [utab_3.2]; obtain rfl := funElem_inv hv)
  refine (ucl_3 a _ hh.out).mono ?_
  rintro e w2 ⟨rfl, rfl⟩
  go_wp2
  go_ret2
  exact ⟨pr2 rfl rfl, k1⟩

set_option maxRecDepth 100000 in
set_option maxHeartbeats 8000000 in
theorem un_4 (a : Int) (w : World) (ha : I64 a) :
    Calls Tryd.prog 19 #[.int .i64 4, .int .i64 a] w fun e w' => e = .returned (.tuple #[.int .i64 (unN 4 a), .int .i64 (unE 4)]) ∧ Keep NoB w w' := by
  have hh := Lib.hid ha
  clear ha
  go_enter Tryd.func19, Tryd.ntmps19
  go_wp2_with fail
  refine (uops_any _).mono ?_
  rintro e w1 ⟨b1, rfl, hf⟩
  obtain ⟨hown, k1, hb1, _⟩ := hf
  go_wp2_with (refine wpList_lookup_own_ok _ rfl _ _ _ rfl _ _ intKey Tryd.underlying53 funElem (zero_ufun _) .nil [] rfl _ _ _ rfl hown _ _ rfl (key_at 4 (by unfold I64; omega)) ?_; intro v ps hv; rw [utab_4.1] at hv; rw [utab_4.2]; obtain rfl := funElem_inv hv)
  refine (ucl_4 a _ hh.out).mono ?_
  rintro e w2 ⟨rfl, rfl⟩
  go_wp2
  go_ret2
  exact ⟨pr2 rfl rfl, k1⟩

set_option maxRecDepth 100000 in
set_option maxHeartbeats 8000000 in
theorem un_5 (a : Int) (w : World) (ha : I64 a) :
    Calls Tryd.prog 19 #[.int .i64 5, .int .i64 a] w fun e w' => e = .returned (.tuple #[.int .i64 (unN 5 a), .int .i64 (unE 5)]) ∧ Keep NoB w w' := by
  have hh := Lib.hid ha
  clear ha
  go_enter Tryd.func19, Tryd.ntmps19
  go_wp2_with fail
  refine (uops_any _).mono ?_
  rintro e w1 ⟨b1, rfl, hf⟩
  obtain ⟨hown, k1, hb1, _⟩ := hf
  go_wp2_with (refine wpList_lookup_own_ok _ rfl _ _ _ rfl _ _ intKey Tryd.underlying53 funElem (zero_ufun _) .nil [] rfl _ _ _ rfl hown _ _ rfl (key_at 5 (by unfold I64; omega)) ?_; intro v ps hv; rw [utab_5.1] at hv; rw [utab_5.2]; obtain rfl := funElem_inv hv)
  refine (ucl_5 a _ hh.out).mono ?_
  rintro e w2 ⟨rfl, rfl⟩
  go_wp2
  go_ret2
  exact ⟨pr2 rfl rfl, k1⟩

set_option maxRecDepth 100000 in
set_option maxHeartbeats 8000000 in
theorem un_6 (a : Int) (w : World) (ha : I64 a) :
    Calls Tryd.prog 19 #[.int .i64 6, .int .i64 a] w fun e w' => e = .returned (.tuple #[.int .i64 (unN 6 a), .int .i64 (unE 6)]) ∧ Keep NoB w w' := by
  have hh := Lib.hid ha
  clear ha
  go_enter Tryd.func19, Tryd.ntmps19
  go_wp2_with fail
  refine (uops_any _).mono ?_
  rintro e w1 ⟨b1, rfl, hf⟩
  obtain ⟨hown, k1, hb1, _⟩ := hf
  go_wp2_with (refine wpList_lookup_own_ok _ rfl _ _ _ rfl _ _ intKey Tryd.underlying53 funElem (zero_ufun _) .nil [] rfl _ _ _ rfl hown _ _ rfl (key_at 6 (by unfold I64; omega)) ?_; intro v ps hv; rw [utab_6.1] at hv; rw [utab_6.2]; obtain rfl := funElem_inv hv)
  refine (ucl_6 a _ hh.out).mono ?_
  rintro e w2 ⟨rfl, rfl⟩
  go_wp2
  go_ret2
  exact ⟨pr2 rfl rfl, k1⟩

set_option maxRecDepth 100000 in
set_option maxHeartbeats 8000000 in
theorem un_7 (a : Int) (w : World) (ha : I64 a) :
    Calls Tryd.prog 19 #[.int .i64 7, .int .i64 a] w fun e w' => e = .returned (.tuple #[.int .i64 (unN 7 a), .int .i64 (unE 7)]) ∧ Keep NoB w w' := by
  have hh := Lib.hid ha
  clear ha
  go_enter Tryd.func19, Tryd.ntmps19
  go_wp2_with fail
  refine (uops_any _).mono ?_
  rintro e w1 ⟨b1, rfl, hf⟩
  obtain ⟨hown, k1, hb1, _⟩ := hf
  go_wp2_with (refine wpList_lookup_own_ok _ rfl _ _ _ rfl _ _ intKey Tryd.underlying53 funElem (zero_ufun _) .nil [] rfl _ _ _ rfl hown _ _ rfl (key_at 7 (by unfold I64; omega)) ?_; intro v ps hv; rw [utab_7.1] at hv; rw [utab_7.2]; obtain rfl := funElem_inv hv)
  refine (ucl_7 a _ hh.out).mono ?_
  rintro e w2 ⟨rfl, rfl⟩
  go_wp2
  go_ret2
  exact ⟨pr2 rfl rfl, k1⟩

set_option maxRecDepth 100000 in
set_option maxHeartbeats 8000000 in
theorem un_8 (a : Int) (w : World) (ha : I64 a) :
    Calls Tryd.prog 19 #[.int .i64 8, .int .i64 a] w fun e w' => e = .returned (.tuple #[.int .i64 (unN 8 a), .int .i64 (unE 8)]) ∧ Keep NoB w w' := by
  have hh := Lib.hid ha
  clear ha
  go_enter Tryd.func19, Tryd.ntmps19
  go_wp2_with fail
  refine (uops_any _).mono ?_
  rintro e w1 ⟨b1, rfl, hf⟩
  obtain ⟨hown, k1, hb1, _⟩ := hf
  go_wp2_with (refine wpList_lookup_own_ok _ rfl _ _ _ rfl _ _ intKey Tryd.underlying53 funElem (zero_ufun _) .nil [] rfl _ _ _ rfl hown _ _ rfl (key_at 8 (by unfold I64; omega)) ?_; intro v ps hv; rw [utab_8.1] at hv; rw [utab_8.2]; obtain rfl := funElem_inv hv)
  refine (ucl_8 a _ hh.out).mono ?_
  rintro e w2 ⟨rfl, rfl⟩
  go_wp2
  go_ret2
  exact ⟨pr2 rfl rfl, k1⟩

set_option maxRecDepth 100000 in
set_option maxHeartbeats 8000000 in
theorem un_none (op a : Int) (w : World) (ho : I64 op) (h : ¬ (0 ≤ op ∧ op < 9)) :
    Calls Tryd.prog 19 #[.int .i64 op, .int .i64 a] w fun e w' => e = .returned (.tuple #[.int .i64 0, .int .i64 30]) ∧ Keep NoB w w' := by
  go_enter Tryd.func19, Tryd.ntmps19
  go_wp2_with fail
  refine (uops_any _).mono ?_
  rintro e w1 ⟨b1, rfl, hf⟩
  obtain ⟨hown, k1, hb1, _⟩ := hf
  go_wp2_with (refine wpList_lookup_own_ok _ rfl _ _ _ rfl _ _ intKey Tryd.underlying53 funElem (zero_ufun _) .nil [] rfl _ _ _ rfl hown _ _ rfl (key_at op ho) ?_; intro v ps hv; rw [ukeys_tab op h])
  go_ret2
  exact ⟨rfl, k1⟩

theorem un_any : UnC := fun op a w ho ha => by
  by_cases h : 0 ≤ op ∧ op < 9
  · have : op = 0 ∨ op = 1 ∨ op = 2 ∨ op = 3 ∨ op = 4 ∨ op = 5 ∨ op = 6 ∨ op = 7 ∨ op = 8 := by omega
    rcases this with rfl | rfl | rfl | rfl | rfl | rfl | rfl | rfl | rfl
    · exact un_0 a w ha
    · exact un_1 a w ha
    · exact un_2 a w ha
    · exact un_3 a w ha
    · exact un_4 a w ha
    · exact un_5 a w ha
    · exact un_6 a w ha
    · exact un_7 a w ha
    · exact un_8 a w ha
  · have H : unN op a = 0 ∧ unE op = 30 := by
      unfold unN unE
      refine ⟨?_, if_neg h⟩
      rw [if_neg (by omega), if_neg (by omega), if_neg (by omega), if_neg (by omega), if_neg (by omega), if_neg (by omega), if_neg (by omega), if_neg (by omega), if_neg (by omega)]
    rw [H.1, H.2]
    exact un_none op a w ho h

end Go.Proofs.YtoljghgmpilecaaDoor
