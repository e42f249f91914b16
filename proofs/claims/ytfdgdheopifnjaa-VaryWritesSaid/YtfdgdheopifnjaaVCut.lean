/-
  Plain mathematics of what calls write: a Reel's back reads all of it, and no beginning of it. No program's run is named here. No conditions.
-/
import Derived.Test.YtfdgdheopifnjaaVBack
namespace Go.Proofs.Ytfdgdheopifnjaa
open Go.RowKit

/-- What a call writes. -/
def outL (o : OpV) : List UInt8 :=
  if o.kind = 0 then encL o.n else if o.kind = 1 then encL (zig o.lo) else if o.kind = 2 then encL o.b.length ++ o.b else []
/-- What all calls write. -/
def outs : List OpV → List UInt8
  | [] => []
  | o :: r => outL o ++ outs r
theorem outs_append (a b : List OpV) : outs (a ++ b) = outs a ++ outs b := by
  induction a with
  | nil => rfl
  | cons o a ih => simp [outs, ih]
theorem outs_snoc (l : List OpV) (k : Nat) (h : k < l.length) : outs (l.take (k + 1)) = outs (l.take k) ++ outL l[k] := by
  rw [List.take_succ_eq_append_getElem h, outs_append]; simp [outs]
theorem outL_len (o : OpV) : (outL o).length ≤ 9 + o.b.length := by
  have h1 := encL_len o.n
  have h2 := encL_len (zig o.lo)
  have h3 := encL_len o.b.length
  unfold outL
  split
  · omega
  · split
    · omega
    · split
      · rw [List.length_append]; omega
      · simp
theorem outs_len (l : List OpV) : (outs l).length ≤ 9 * l.length + total l := by
  induction l with
  | nil => simp [outs, total]
  | cons o l ih =>
    have := outL_len o
    simp only [outs, total, List.length_append, List.map_cons, List.sum_cons, List.length_cons] at ih ⊢
    omega
theorem total_append (a b : List OpV) : total (a ++ b) = total a + total b := by simp [total]
theorem total_take (l : List OpV) (k : Nat) : total (l.take k) ≤ total l := by
  have h : total (l.take k) + total (l.drop k) = total l := by
    rw [← total_append, List.take_append_drop]
  omega
theorem total_mem (l : List OpV) (k : Nat) (h : k < l.length) : l[k].b.length ≤ total l := by
  have h1 := great_sum l k h
  have h2 := total_take l (k + 1)
  omega

/-- No beginning of a number's bytes is read. -/
theorem nx_cut (n : Nat) (hn : n < 18446744073709551616) (c : List UInt8) (hp : c <+: encL n) (hl : c.length < (encL n).length) : (nx c).2.2 ≠ 0 := by
  intro h
  obtain ⟨h1, h2⟩ := nx_ok c h
  obtain ⟨h3, _, _, h4⟩ := nx_width c
  have hpre : encL (nx c).1 <+: encL n := by rw [h1]; exact (List.take_prefix _ _).trans hp
  have h5 := encL_prefix (nx c).1 n h4 hn
  unfold Lib.hasPrefix at h5
  rw [List.isPrefixOf_iff_prefix.2 hpre] at h5
  have h6 : (nx c).1 = n := by simpa using h5.symm
  have h7 := congrArg List.length h1
  rw [h6, List.length_take] at h7
  omega

theorem bnd_self (n d m : Nat) (h : n ≤ m) : bnd (n, d, 0) m = (n, d, 0) := by
  unfold bnd; simp; omega

theorem rd1_full (o : OpV) (ho : OpOk o) (hb : o.b.length < 18446744073709551616) (r : List UInt8) : rd1 (outL o ++ r) o = some (outL o).length := by
  obtain ⟨_, _, hn, hlo, _⟩ := ho
  by_cases h0 : o.kind = 0
  · have hO : outL o = encL o.n := by unfold outL; rw [if_pos h0]
    rw [hO]; unfold rd1
    rw [if_pos h0, nx_enc _ hn, encL_length _ hn]
    simp
  · by_cases h1 : o.kind = 1
    · have hz := zig_lt o.lo hlo.1 hlo.2
      have hO : outL o = encL (zig o.lo) := by unfold outL; rw [if_neg h0, if_pos h1]
      rw [hO]; unfold rd1
      rw [if_neg h0, if_pos h1, nx_enc _ hz, encL_length _ hz, zag_zig]
      simp
    · by_cases h2 : o.kind = 2
      · have hO : outL o = encL o.b.length ++ o.b := by unfold outL; rw [if_neg h0, if_neg h1, if_pos h2]
        rw [hO]; unfold rd1
        rw [if_neg h0, if_neg h1, if_pos h2, List.append_assoc, nx_enc _ hb, bnd_self _ _ _ (Nat.le_refl _)]
        have he := encL_length _ hb
        have hd : (encL o.b.length ++ (o.b ++ r)).drop (wd o.b.length) = o.b ++ r := by rw [← he, List.drop_left]
        simp only [hd, List.take_left, List.length_append, he]
        rw [if_pos ⟨trivial, by omega, trivial⟩]
      · have hO : outL o = [] := by unfold outL; rw [if_neg h0, if_neg h1, if_neg h2]
        rw [hO]; unfold rd1
        rw [if_neg h0, if_neg h1, if_neg h2]; rfl

theorem rd1_cut (o : OpV) (ho : OpOk o) (hb : o.b.length < 18446744073709551616) (c : List UInt8) (hp : c <+: outL o) (hl : c.length < (outL o).length) : rd1 c o = none := by
  obtain ⟨_, _, hn, hlo, _⟩ := ho
  unfold outL at hp hl
  unfold rd1
  by_cases h0 : o.kind = 0
  · simp only [h0, if_true] at hp hl ⊢
    have := nx_cut _ hn c hp hl
    rw [if_neg (fun h => this h.1)]
  · by_cases h1 : o.kind = 1
    · have hz := zig_lt o.lo hlo.1 hlo.2
      rw [if_neg h0, if_pos h1] at hp hl ⊢
      have := nx_cut _ hz c hp hl
      rw [if_neg (fun h => this h.1)]
    · by_cases h2 : o.kind = 2
      · rw [if_neg h0, if_neg h1, if_pos h2] at hp hl ⊢
        have he := encL_length _ hb
        rw [List.length_append] at hl
        by_cases hlt : c.length < (encL o.b.length).length
        · have hp' : c <+: encL o.b.length := List.prefix_of_prefix_length_le hp (List.prefix_append _ _) (by omega)
          have := nx_cut _ hb c hp' hlt
          rw [if_neg]
          intro h
          have h1 := h.1
          unfold bnd at h1
          rw [if_pos this] at h1
          exact this h1
        · obtain ⟨t, rfl⟩ : ∃ t, c = encL o.b.length ++ t := by
            have hp' : encL o.b.length <+: c := List.prefix_of_prefix_length_le (List.prefix_append _ _) hp (by omega)
            obtain ⟨t, ht⟩ := hp'
            exact ⟨t, ht.symm⟩
          rw [nx_enc _ hb, bnd_self _ _ _ (Nat.le_refl _)]
          rw [List.length_append] at hl ⊢
          rw [if_neg]
          intro h
          have := h.2.1
          dsimp only at this
          omega
      · rw [if_neg h0, if_neg h1, if_neg h2] at hl
        simp at hl

theorem bk_full (l : List OpV) : ∀ (a : List UInt8), (∀ o ∈ l, OpOk o) → (∀ o ∈ l, o.b.length < 18446744073709551616) → bkP (a ++ outs l) a.length l = some (a.length + (outs l).length) := by
  induction l with
  | nil => intro a _ _; simp [bkP, outs]
  | cons o r ih =>
    intro a h1 h2
    have h3 := ih (a ++ outL o) (fun x hx => h1 x (List.mem_cons_of_mem _ hx)) (fun x hx => h2 x (List.mem_cons_of_mem _ hx))
    unfold bkP
    rw [List.drop_left, show outs (o :: r) = outL o ++ outs r from rfl, rd1_full o (h1 o List.mem_cons_self) (h2 o List.mem_cons_self)]
    show bkP _ _ _ = _
    rw [← List.append_assoc, ← List.length_append, h3]
    simp [Nat.add_assoc]

theorem bk_cut (l : List OpV) : ∀ (a c : List UInt8), (∀ o ∈ l, OpOk o) → (∀ o ∈ l, o.b.length < 18446744073709551616) → c <+: outs l → c.length < (outs l).length → bkP (a ++ c) a.length l = none := by
  induction l with
  | nil => intro a c _ _ _ h; simp [outs] at h
  | cons o r ih =>
    intro a c h1 h2 hp hl
    unfold bkP
    rw [List.drop_left]
    rw [show outs (o :: r) = outL o ++ outs r from rfl] at hp hl
    rw [List.length_append] at hl
    by_cases hlt : c.length < (outL o).length
    · rw [rd1_cut o (h1 o List.mem_cons_self) (h2 o List.mem_cons_self) c (List.prefix_of_prefix_length_le hp (List.prefix_append _ _) (by omega)) hlt]
      rfl
    · obtain ⟨t, rfl⟩ : ∃ t, c = outL o ++ t := by
        have hp' : outL o <+: c := List.prefix_of_prefix_length_le (List.prefix_append _ _) hp (by omega)
        obtain ⟨t, ht⟩ := hp'
        exact ⟨t, ht.symm⟩
      rw [rd1_full o (h1 o List.mem_cons_self) (h2 o List.mem_cons_self)]
      show bkP _ _ _ = _
      rw [← List.append_assoc, ← List.length_append]
      rw [List.length_append] at hl
      exact ih (a ++ outL o) t (fun x hx => h1 x (List.mem_cons_of_mem _ hx)) (fun x hx => h2 x (List.mem_cons_of_mem _ hx)) ((List.prefix_append_right_inj _).1 hp) (by omega)

end Go.Proofs.Ytfdgdheopifnjaa
