/-
  What the document's Types answers. No conditions.
  What typesOf and Effect answer. No conditions.
-/
import Derived.Test.YtpkcjokkadfhcaaGreatDoorQ9
import Derived.Test.YtpkcjokkadfhcaaGreatDoorQ3
namespace Go.Proofs.YtpkcjokkadfhcaaGreatDoor.W
open Go.RowKit

/-- The type found among the first letters. -/
def upto (c : UInt8) (j : Nat) : Int := if unlet c < j then unlet c else 0
theorem unlet_range (c : UInt8) : 0 ≤ unlet c ∧ unlet c ≤ 4 := by
  rcases unlet_known c with h | h
  · omega
  · have := (known_iff _).1 h; omega
theorem upto_hit {c : UInt8} {j : Nat} (h1 : 1 ≤ j) (h : letC (j : Int) = [c]) (h4 : j ≤ 4) : upto c (j + 1) = j := by
  have hu := unlet_of (by rw [known_iff]; omega) h
  unfold upto; rw [hu, if_pos (by omega)]
theorem upto_miss {c : UInt8} {j : Nat} (h1 : 1 ≤ j) (h : ¬ letC (j : Int) = [c]) : upto c (j + 1) = upto c j := by
  have hr := unlet_range c
  have hne : unlet c ≠ j := fun e => by
    by_cases h0 : unlet c = 0
    · omega
    · have := unlet_let h0
      rw [e] at this
      exact h this
  unfold upto
  by_cases h2 : unlet c < j
  · rw [if_pos (by omega), if_pos h2]
  · rw [if_neg (by omega), if_neg h2]
theorem upto_all (c : UInt8) : upto c 5 = unlet c := by have := unlet_range c; unfold upto; rw [if_pos (by omega)]
theorem upto_one (c : UInt8) : upto c 1 = 0 := by
  have := unlet_range c
  unfold upto
  split <;> omega

end Go.Proofs.YtpkcjokkadfhcaaGreatDoor.W

namespace Go.Proofs.YtpkcjokkadfhcaaGreatDoor.O
open Go.RowKit

/-- The element of a pair at a place. -/
def elem (t u : Int) (k : Nat) : Int := if k = 0 then t else u
theorem run_index_pair (t u : Int) (k : Nat) (hk : k < 2) (w : World) : (Instr.index 69 (.agg #[.int .i64 t, .int .i64 u]) (.int .i64 (k : Int))).run Tryz.prog w = .ok (.int .i64 (elem t u k)) w := by
  have hs : (sizeOf 3).run Tryz.prog w = .ok 1 w := Tryz.sizeOf3 w
  unfold Instr.index
  obtain rfl | rfl : k = 0 ∨ k = 1 := by omega
  · simp [run_underlying Tryz.underlying69, asIntOf, hs, part, elem]
  · simp [run_underlying Tryz.underlying69, asIntOf, hs, part, elem]
/-- The types that have come. -/
def came (t u a b : Int) (k : Nat) : List Int := [tyOf t a b, tyOf u a b].take k
theorem came_succ (t u a b : Int) (k : Nat) (hk : k < 2) : came t u a b (k + 1) = came t u a b k ++ [tyOf (elem t u k) a b] := by
  obtain rfl | rfl : k = 0 ∨ k = 1 := by omega
  · rfl
  · rfl
theorem came_len (t u a b : Int) (k : Nat) (hk : k ≤ 2) : (came t u a b k).length = k := by unfold came; simp; omega
/-- None of those that have come is 0. -/
def full (t u : Int) (k : Nat) : Prop := (1 ≤ k → t ≠ 0) ∧ (2 ≤ k → u ≠ 0)
theorem full_succ {t u : Int} {k : Nat} (hk : k < 2) (h : full t u k) (h0 : elem t u k ≠ 0) : full t u (k + 1) := by
  obtain rfl | rfl : k = 0 ∨ k = 1 := by omega
  · exact ⟨fun _ => h0, fun h => by omega⟩
  · exact ⟨fun _ => h.1 (by omega), fun _ => h0⟩
theorem types_end {t u a b : Int} {k : Nat} (hk : k < 2) (h : full t u k) (h0 : elem t u k = 0) : typesL t u a b = came t u a b k := by
  obtain rfl | rfl : k = 0 ∨ k = 1 := by omega
  · have h0' : t = 0 := h0
    unfold typesL; rw [if_pos h0']; rfl
  · have h0' : u = 0 := h0
    unfold typesL; rw [if_neg (h.1 (by omega)), if_pos h0']; rfl
theorem types_all {t u a b : Int} (h : full t u 2) : typesL t u a b = came t u a b 2 := by
  unfold typesL; rw [if_neg (h.1 (by omega)), if_neg (h.2 (by omega))]; rfl
theorem tyOf_a (a b : Int) : tyOf (-1) a b = a := rfl
theorem tyOf_b (a b : Int) : tyOf (-2) a b = b := rfl
theorem tyOf_c {c : Int} (a b : Int) (h1 : c ≠ -1) (h2 : c ≠ -2) : tyOf c a b = c := by unfold tyOf; rw [if_neg h1, if_neg h2]

/-- A new slice of numbers. -/
def IntsR (l : List Int) (w : World) (e : Ending) (w' : World) : Prop := ∃ B d, e = .returned (.slice B l.length d) ∧ Own w' 3 1 (Fresh w) (.slice B l.length d) l.length (ivs l) ∧ Keep NoB w w'
theorem ints_of {l l' : List Int} {n : Nat} {w w' : World} {B : Option Addr} {d : Nat} (hl : l = l') (hn : l'.length = n) (hO : Own w' 3 1 (Fresh w) (.slice B n d) n (ivs l')) (hK : Keep NoB w w') :
    IntsR l w (.returned (.slice B n d)) w' := by subst hl hn; exact ⟨B, d, rfl, hO, hK⟩

set_option maxRecDepth 100000 in
set_option maxHeartbeats 4000000 in
theorem typesOf_any (t u op a b : Int) (w : World) : Calls Tryz.prog 55 #[.agg #[.int .i64 t, .int .i64 u], instV op a b] w (IntsR (typesL t u a b) w) := by
  obtain ⟨i0, hi, hz0, hz1, hz2⟩ := info_parts int_info
  have hB := (Blk.new (w.alloc (.cells #[.int .i64 t, .int .i64 u] 69)) 23 #[.int .i64 op, .int .i64 a, .int .i64 b])
  rw [World.size_alloc] at hB
  have hKw := ((Keep.refl NoB w).alloc (.cells #[.int .i64 t, .int .i64 u] 69)).alloc (.cells #[.int .i64 op, .int .i64 a, .int .i64 b] 23)
  have hP := (Blk.new w 69 #[.int .i64 t, .int .i64 u]).alloc (.cells #[.int .i64 op, .int .i64 a, .int .i64 b] 23)
  obtain ⟨w0, hw0⟩ : ∃ w0, (w.alloc (.cells #[.int .i64 t, .int .i64 u] 69)).alloc (.cells #[.int .i64 op, .int .i64 a, .int .i64 b] 23) = w0 := ⟨_, rfl⟩
  rw [hw0] at hB hKw hP
  have HW := Lib.hid hw0
  clear hw0
  go_enter Tryz.func55, Tryz.ntmps55
  go_wp2_with (at_make; rw [HW.out]; refine wpList_make_own _ rfl _ _ 49 rfl w0.heap.size 3 i0 _ 1 Tryz.underlying49 hi hz0 hz1 _ _ _ 2 rfl rfl rfl (by rw [hz2]; omega) (by unfold maxLen; omega) (Nat.le_refl _) ?_; intro w1 hrow1 hg1; have k1 : Keep NoB w0 w1 := (Keep.refl NoB w0).grown hg1 (fun g e _ => by cases e); have hO1 : Own w1 3 1 (Fresh w0) _ 0 (ivs (came t u a b 0)) := Own.of_row hrow1 (fun _ h => h); have p10 : w1.cell? ⟨w.heap.size, 0, none⟩ = some (.int .i64 t) := (hP.keep k1 id).cell 0; have p11 : w1.cell? ⟨w.heap.size, 1, none⟩ = some (.int .i64 u) := (hP.keep k1 id).cell 1; clear hrow1 hg1)
  go_loopw [5, 10] (fun v i wr => ∃ k : Nat, k ≤ 2 ∧ i = .int .i64 (k : Int) ∧ Hid (full t u k) ∧ (∃ B d, v = .slice B k d ∧ Own wr 3 1 (Fresh w0) (.slice B k d) k (ivs (came t u a b k))) ∧ Keep NoB w0 wr)
    (fun _ i _ => 2 - (intOf i).toNat)
  case atStart => exact ⟨0, by omega, rfl, ⟨fun h => by omega, fun h => by omega⟩, ⟨_, _, rfl, hO1⟩, k1⟩
  case round =>
    obtain ⟨k, hk, rfl, hf, ⟨B, d, rfl, hO⟩, hK⟩ := hrel
    by_cases hlt : k < 2
    · have b2 := hB.keep hK id
      have c1 : wr.cell? ⟨w.heap.size + 1, 1, none⟩ = some (.int .i64 a) := b2.cell 1
      have c2 : wr.cell? ⟨w.heap.size + 1, 2, none⟩ = some (.int .i64 b) := b2.cell 2
      have hix := fun w => run_index_pair t u k hlt w
      obtain ⟨e, he⟩ : ∃ e, elem t u k = e := ⟨_, rfl⟩
      rw [he] at hix
      clear b2 p10 p11 hB hP hO1 k1
      by_cases h0 : e = 0
      · subst h0
        have HT : Hid (typesL t u a b = came t u a b k) := types_end hlt hf.out he
        have HL := Lib.hid (came_len t u a b k (by omega))
        clear he hf
        go_wp2
        go_ret
        exact ints_of HT.out HL.out (hO.mono fun g h _ => Nat.le_trans hKw.size h) (keepN hKw hK)
      · by_cases h1 : e = -1
        · subst h1
          have HZ : Hid (ivs (came t u a b (k + 1)) = ivs (came t u a b k) ++ [.int .i64 a]) := by show _ = _; rw [came_succ t u a b k hlt, he, tyOf_a]; simp
          have HF : Hid (full t u (k + 1)) := full_succ hlt hf.out (by rw [he]; decide)
          clear hf he
          go_wp2_with (at_builtin; refine wpList_append_rd _ rfl (.tmp 25) (.tmp 27) _ rfl 3 1 8 i0 _ Tryz.underlying49 hi hz0 hz1 hz2 rfl (by decide) _ k _ _ 1 _ [.int .i64 a] rfl (hO.1.alloc _) rfl (W.rd_made rfl rfl) rfl (by simp [Value.oneCell']) (by unfold maxLen; omega) (by omega) ?_; intro B2 d2 w3 hrow3 hg3 hv3; rw [← HZ.out] at hrow3; obtain ⟨hO3, hK3⟩ := W.own_after hO.2 (hK.alloc _) hg3 hv3 hrow3; clear hrow3 hg3 hv3)
          go_roundw
          case rel => exact ⟨k + 1, by omega, by go_num, HF, ⟨B2, d2, rfl, hO3⟩, hK3⟩
          case measure => simp [intOf]; omega
        · by_cases h2 : e = -2
          · subst h2
            have HZ : Hid (ivs (came t u a b (k + 1)) = ivs (came t u a b k) ++ [.int .i64 b]) := by show _ = _; rw [came_succ t u a b k hlt, he, tyOf_b]; simp
            have HF : Hid (full t u (k + 1)) := full_succ hlt hf.out (by rw [he]; decide)
            clear hf he
            go_wp2_with (at_builtin; refine wpList_append_rd _ rfl (.tmp 25) (.tmp 27) _ rfl 3 1 8 i0 _ Tryz.underlying49 hi hz0 hz1 hz2 rfl (by decide) _ k _ _ 1 _ [.int .i64 b] rfl (hO.1.alloc _) rfl (W.rd_made rfl rfl) rfl (by simp [Value.oneCell']) (by unfold maxLen; omega) (by omega) ?_; intro B2 d2 w3 hrow3 hg3 hv3; rw [← HZ.out] at hrow3; obtain ⟨hO3, hK3⟩ := W.own_after hO.2 (hK.alloc _) hg3 hv3 hrow3; clear hrow3 hg3 hv3)
            go_roundw
            case rel => exact ⟨k + 1, by omega, by go_num, HF, ⟨B2, d2, rfl, hO3⟩, hK3⟩
            case measure => simp [intOf]; omega
          · have e0 : e ≠ 0 := h0
            have q0 : (e == 0) = false := by rw [beq_eq_false_iff_ne]; exact h0
            have q1 : (e == -1) = false := by rw [beq_eq_false_iff_ne]; exact h1
            have q2 : (e == -2) = false := by rw [beq_eq_false_iff_ne]; exact h2
            have HZ : Hid (ivs (came t u a b (k + 1)) = ivs (came t u a b k) ++ [.int .i64 e]) := by show _ = _; rw [came_succ t u a b k hlt, he, tyOf_c _ _ h1 h2]; simp
            have HF : Hid (full t u (k + 1)) := full_succ hlt hf.out (by rw [he]; exact e0)
            clear hf he h0 h1 h2 e0
            go_wp2_with (at_builtin; refine wpList_append_rd _ rfl (.tmp 25) (.tmp 27) _ rfl 3 1 8 i0 _ Tryz.underlying49 hi hz0 hz1 hz2 rfl (by decide) _ k _ _ 1 _ [.int .i64 e] rfl (hO.1.alloc _) rfl (W.rd_made rfl rfl) rfl (by simp [Value.oneCell']) (by unfold maxLen; omega) (by omega) ?_; intro B2 d2 w3 hrow3 hg3 hv3; rw [← HZ.out] at hrow3; obtain ⟨hO3, hK3⟩ := W.own_after hO.2 (hK.alloc _) hg3 hv3 hrow3; clear hrow3 hg3 hv3)
            go_roundw
            case rel => exact ⟨k + 1, by omega, by go_num, HF, ⟨B2, d2, rfl, hO3⟩, hK3⟩
            case measure => simp [intOf]; omega
    · obtain rfl : k = 2 := by omega
      have HT : Hid (typesL t u a b = came t u a b 2) := types_all hf.out
      have HL := Lib.hid (came_len t u a b 2 (by omega))
      clear p10 p11
      go_wp2
      go_ret
      exact ints_of HT.out HL.out (hO.mono fun g h _ => Nat.le_trans hKw.size h) (keepN hKw hK)

/-- Is what an instruction takes and leaves fixed; and what that is. -/
def fixedI (op a b : Int) : Bool := okI op a b && !(rowAt op).hop
def takesI (op a b : Int) : List Int := if fixedI op a b = true then typesL (rowAt op).ta (rowAt op).tb a b else []
def leavesI (op a b : Int) : List Int := if fixedI op a b = true then typesL (rowAt op).la (rowAt op).lb a b else []

/-- What Effect answers: two new slices. -/
def EffR (t l : List Int) (x : Bool) (w : World) (e : Ending) (w' : World) : Prop :=
  ∃ A c B d, e = .returned (.tuple #[.slice A t.length c, .slice B l.length d, .bool x]) ∧ Own w' 3 1 (Fresh w) (.slice A t.length c) t.length (ivs t) ∧ Own w' 3 1 (Fresh w) (.slice B l.length d) l.length (ivs l) ∧ Keep NoB w w'
theorem eff_nil {op a b : Int} {w w' : World} (h : fixedI op a b = false) (hk : Keep NoB w w') : EffR (takesI op a b) (leavesI op a b) (fixedI op a b) w (.returned (.tuple #[.slice none 0 0, .slice none 0 0, .bool false])) w' := by
  have h1 : takesI op a b = [] := by unfold takesI; rw [if_neg (by rw [h]; decide)]
  have h2 : leavesI op a b = [] := by unfold leavesI; rw [if_neg (by rw [h]; decide)]
  rw [h1, h2, h]
  exact ⟨none, 0, none, 0, rfl, Own.nil _ _ _ _, Own.nil _ _ _ _, hk⟩

/-- A slice that is a new list's. -/
def SlV (w0 : World) (l : List Int) (v : Value) (w : World) : Prop := ∃ B d, v = .slice B l.length d ∧ Own w 3 1 (Fresh w0) v l.length (ivs l)
theorem SlV.stable (w0 : World) (l : List Int) (v : Value) : StableI (SlV w0 l v) := fun _ _ ⟨B, d, hv, hO⟩ hk => ⟨B, d, hv, hO.keepN hk⟩

theorem types_gen (t u op a b : Int) (l : List Int) (w0 w : World) (hl : typesL t u a b = l) (hk : Keep NoB w0 w) :
    Calls Tryz.prog 55 #[.agg #[.int .i64 t, .int .i64 u], instV op a b] w fun e w' => ∃ v, e = .returned v ∧ SlV w0 l v w' ∧ Keep NoB w w' := by
  subst hl
  exact (typesOf_any t u op a b w).mono fun _ _ ⟨B, d, he, hO, hK⟩ => ⟨_, he, ⟨B, d, rfl, hO.mono fun g h _ => Nat.le_trans hk.size h⟩, hK⟩

set_option maxRecDepth 100000 in
set_option maxHeartbeats 4000000 in
theorem effect_any (op a b : Int) (w : World) : Calls Tryz.prog 20 #[instV op a b] w (EffR (takesI op a b) (leavesI op a b) (fixedI op a b) w) := by
  have hB := Blk.new w 23 #[.int .i64 op, .int .i64 a, .int .i64 b]
  have hK := (Keep.refl NoB w).alloc (.cells #[.int .i64 op, .int .i64 a, .int .i64 b] 23)
  obtain ⟨r, hr⟩ : ∃ r, Hid (rowR op a b = r) := ⟨_, rfl⟩
  have HR := Lib.hid (fun w => rowFor_any op a b r w hr)
  cases hok : okI op a b
  · have HX : Hid (fixedI op a b = false) := by show _ = _; unfold fixedI; rw [hok]; rfl
    rw [hok] at HR
    clear hok hr
    go_enter Tryz.func20, Tryz.ntmps20
    go_wp2_with fail
    refine (HR.out _).mono ?_
    rintro e w1 ⟨rfl, k1⟩
    go_wp2
    exact bodyPost_ret (v := .tuple #[.slice none 0 0, .slice none 0 0, .bool false]) (by simp [results, Tryz.results20, go_sem]) rfl (eff_nil HX.out ((keepN hK k1).alloc _))
  · rw [hok] at HR
    have hrr : rowAt op = r := by rw [← hr.out, rowR_ok hok]
    cases hh : r.hop
    · have hfx : fixedI op a b = true := by unfold fixedI; rw [hok, hrr, hh]; rfl
      have HT : Hid (typesL r.ta r.tb a b = takesI op a b) := by show _ = _; unfold takesI; rw [if_pos hfx, hrr]
      have HL : Hid (typesL r.la r.lb a b = leavesI op a b) := by show _ = _; unfold leavesI; rw [if_pos hfx, hrr]
      have HX := Lib.hid hfx
      generalize takesI op a b = tl at HT ⊢
      generalize leavesI op a b = ll at HL ⊢
      clear hok hr hrr hfx
      go_enter Tryz.func20, Tryz.ntmps20
      go_wp2_with fail
      refine (HR.out _).mono ?_
      rintro e w1 ⟨rfl, k1⟩
      go_wp2_with fail
      have b2 := Blk.new w1 71 #[.string (str r.name), .int .i64 r.ka, .int .i64 r.kb, .int .i64 r.ta, .int .i64 r.tb, .int .i64 r.la, .int .i64 r.lb, .bool false, .bool r.fin]
      have bx2 := (hB.keep k1 id).alloc (.cells #[.string (str r.name), .int .i64 r.ka, .int .i64 r.kb, .int .i64 r.ta, .int .i64 r.tb, .int .i64 r.la, .int .i64 r.lb, .bool false, .bool r.fin] 71)
      have hK2 := (keepN hK k1).alloc (.cells #[.string (str r.name), .int .i64 r.ka, .int .i64 r.kb, .int .i64 r.ta, .int .i64 r.tb, .int .i64 r.la, .int .i64 r.lb, .bool false, .bool r.fin] 71)
      obtain ⟨w2, hw2⟩ : ∃ w2, w1.alloc (.cells #[.string (str r.name), .int .i64 r.ka, .int .i64 r.kb, .int .i64 r.ta, .int .i64 r.tb, .int .i64 r.la, .int .i64 r.lb, .bool false, .bool r.fin] 71) = w2 := ⟨_, rfl⟩
      rw [hw2] at b2 bx2 hK2 ⊢
      clear hw2 hB hK k1
      refine wp_region_sh ((0, false) :: (1, false) :: (2, false) :: (4, false) :: (5, false) :: (6, false) :: (3, true) :: (7, true) :: (8, false) :: (9, false) :: (10, false) :: []) (fun w' => Keep NoB w2 w') (by kernel_rfl) (by kernel_rfl) (by rfl) (by kernel_rfl) (stable_keep w2) (Keep.refl NoB w2).drew ?_
      refine shM_step rfl rfl rfl (by rfl) (by rfl) ?_
      apply Exists.intro
      refine ⟨fun n K hK => ?_, ?_, ?_⟩
      · go_big_quiet_op
        exact hK _ rfl
      · kernel_rfl
      refine shM_step rfl rfl rfl (by rfl) (by rfl) ?_
      apply Exists.intro
      refine ⟨fun n K hK => ?_, ?_, ?_⟩
      · have q1 : ∀ m : KW n.w, m.w.cell? ⟨w1.heap.size, 3, none⟩ = some (.int .i64 r.ta) := fun m => (b2.keep (keepN n.has m.keep) id).cell 3
        have q2 : ∀ m : KW n.w, m.w.cell? ⟨w1.heap.size, 4, none⟩ = some (.int .i64 r.tb) := fun m => (b2.keep (keepN n.has m.keep) id).cell 4
        go_big_quiet_op
        exact hK _ rfl
      · kernel_rfl
      refine shM_step rfl rfl rfl (by rfl) (by rfl) ?_
      apply Exists.intro
      refine ⟨fun n K hK => ?_, ?_, ?_⟩
      · have x0 : ∀ m : KW n.w, m.w.cell? ⟨w.heap.size, 0, none⟩ = some (.int .i64 op) := fun m => (bx2.keep (keepN n.has m.keep) id).cell 0
        have x1 : ∀ m : KW n.w, m.w.cell? ⟨w.heap.size, 1, none⟩ = some (.int .i64 a) := fun m => (bx2.keep (keepN n.has m.keep) id).cell 1
        have x2 : ∀ m : KW n.w, m.w.cell? ⟨w.heap.size, 2, none⟩ = some (.int .i64 b) := fun m => (bx2.keep (keepN n.has m.keep) id).cell 2
        go_big_quiet_op
        exact hK _ rfl
      · kernel_rfl
      refine shM_step rfl rfl rfl (by rfl) (by rfl) ?_
      apply Exists.intro
      refine ⟨fun n K hK => ?_, ?_, ?_⟩
      · go_big_quiet_op
        exact hK _ rfl
      · kernel_rfl
      refine shM_step rfl rfl rfl (by rfl) (by rfl) ?_
      apply Exists.intro
      refine ⟨fun n K hK => ?_, ?_, ?_⟩
      · have q1 : ∀ m : KW n.w, m.w.cell? ⟨w1.heap.size, 5, none⟩ = some (.int .i64 r.la) := fun m => (b2.keep (keepN n.has m.keep) id).cell 5
        have q2 : ∀ m : KW n.w, m.w.cell? ⟨w1.heap.size, 6, none⟩ = some (.int .i64 r.lb) := fun m => (b2.keep (keepN n.has m.keep) id).cell 6
        go_big_quiet_op
        exact hK _ rfl
      · kernel_rfl
      refine shM_step rfl rfl rfl (by rfl) (by rfl) ?_
      apply Exists.intro
      refine ⟨fun n K hK => ?_, ?_, ?_⟩
      · have x0 : ∀ m : KW n.w, m.w.cell? ⟨w.heap.size, 0, none⟩ = some (.int .i64 op) := fun m => (bx2.keep (keepN n.has m.keep) id).cell 0
        have x1 : ∀ m : KW n.w, m.w.cell? ⟨w.heap.size, 1, none⟩ = some (.int .i64 a) := fun m => (bx2.keep (keepN n.has m.keep) id).cell 1
        have x2 : ∀ m : KW n.w, m.w.cell? ⟨w.heap.size, 2, none⟩ = some (.int .i64 b) := fun m => (bx2.keep (keepN n.has m.keep) id).cell 2
        go_big_quiet_op
        exact hK _ rfl
      · kernel_rfl
      refine shM_gen rfl rfl (by kernel_rfl) (SlV w2 tl) (SlV.stable w2 tl) (fun n => ?_) (fun v1 => ?_)
      · unfold yieldsK
        go_simp
        exact types_gen r.ta r.tb op a b tl w2 n.w HT.out n.has
      simp only [Act.put, List.setIfInBounds_toArray, List.set_cons_zero, List.set_cons_succ]
      refine shM_gen rfl rfl (by kernel_rfl) (SlV w2 ll) (SlV.stable w2 ll) (fun n => ?_) (fun v2 => ?_)
      · unfold yieldsK
        go_simp
        exact types_gen r.la r.lb op a b ll w2 n.w HL.out n.has.1
      simp only [Act.put, List.setIfInBounds_toArray, List.set_cons_zero, List.set_cons_succ]
      refine shM_step rfl rfl rfl (by rfl) (by rfl) ?_
      apply Exists.intro
      refine ⟨fun n K hK => ?_, ?_, ?_⟩
      · go_big_quiet_op
        exact hK _ rfl
      · kernel_rfl
      refine shM_step rfl rfl rfl (by rfl) (by rfl) ?_
      apply Exists.intro
      refine ⟨fun n K hK => ?_, ?_, ?_⟩
      · go_big_quiet_op
        exact hK _ rfl
      · kernel_rfl
      refine shM_step rfl rfl rfl (by rfl) (by rfl) ?_
      apply Exists.intro
      refine ⟨fun n K hK => ?_, ?_, ?_⟩
      · go_big_quiet_op
        exact hK _ rfl
      · kernel_rfl
      refine shM_nil (fun n => ?_)
      obtain ⟨⟨k3, A, c, rfl, hO1⟩, B, d, rfl, hO2⟩ := n.has
      generalize n.w = w3 at k3 hO1 hO2 ⊢
      go_wp2
      go_ret3
      rw [HX.out]
      exact ⟨A, c, B, d, rfl, hO1.mono fun g h _ => Nat.le_trans hK2.size h, hO2.mono fun g h _ => Nat.le_trans hK2.size h, keepN hK2 k3⟩
    · have HX : Hid (fixedI op a b = false) := by show _ = _; unfold fixedI; rw [hok, hrr, hh]; rfl
      clear hok hr hrr
      go_enter Tryz.func20, Tryz.ntmps20
      go_wp2_with fail
      refine (HR.out _).mono ?_
      rintro e w1 ⟨rfl, k1⟩
      go_wp2
      exact bodyPost_ret (v := .tuple #[.slice none 0 0, .slice none 0 0, .bool false]) (by simp [results, Tryz.results20, go_sem]) rfl (eff_nil HX.out ((keepN hK k1).alloc _))

end Go.Proofs.YtpkcjokkadfhcaaGreatDoor.O
