/-
  Plain mathematics of reading: what bytes say as a number, and when they are a number's bytes. No program's run is named here. No conditions.
-/
import Derived.Test.YtpkcjokkadfhcaaDoorVAdd
namespace Go.Proofs.YtpkcjokkadfhcaaDoor.V
open Go.RowKit

/-- Bytes as a number, the highest first. -/
def vl (l : List UInt8) : Nat := l.foldl (fun s d => s * 256 + d.toNat) 0
theorem vl_snoc (l : List UInt8) (d : UInt8) : vl (l ++ [d]) = vl l * 256 + d.toNat := by simp [vl]
theorem foldl_add (l : List UInt8) : ∀ s, l.foldl (fun s d => s * 256 + d.toNat) s = s * 256 ^ l.length + vl l := by
  induction l with
  | nil => intro s; simp [vl]
  | cons d l ih =>
    intro s
    have h0 := ih (s * 256 + d.toNat)
    have h1 : vl (d :: l) = d.toNat * 256 ^ l.length + vl l := by
      have := ih (0 * 256 + d.toNat)
      simpa [vl] using this
    simp only [List.foldl_cons, List.length_cons]
    rw [h0, h1, Nat.pow_succ, Nat.add_mul]
    have e : s * 256 * 256 ^ l.length = s * (256 ^ l.length * 256) := by ac_rfl
    rw [e, Nat.add_assoc]
theorem vl_cons (d : UInt8) (l : List UInt8) : vl (d :: l) = d.toNat * 256 ^ l.length + vl l := by
  have := foldl_add l d.toNat
  simpa [vl] using this
theorem vl_lt (l : List UInt8) : vl l < 256 ^ l.length := by
  induction l with
  | nil => simp [vl]
  | cons d l ih =>
    rw [vl_cons, List.length_cons, Nat.pow_succ]
    have hd := d.toNat_lt
    have : d.toNat * 256 ^ l.length + 256 ^ l.length ≤ 256 ^ l.length * 256 := by
      have h : (d.toNat + 1) * 256 ^ l.length ≤ 256 * 256 ^ l.length := Nat.mul_le_mul_right _ (by omega)
      rw [Nat.add_mul] at h
      omega
    omega
theorem mod_step (K s t d : Nat) (hK : 0 < K) (hd : d < 256) (h : s = t % (K * 256)) : s * 256 % (K * 256) + d = (t * 256 + d) % (K * 256) := by
  have e1 : s * 256 % (K * 256) = (s % K) * 256 := Nat.mul_mod_mul_right 256 s K
  have e3 : s % K = t % K := by rw [h, Nat.mod_mul_right_mod]
  have hr := Nat.mod_lt t hK
  have e2 : t * 256 + d = ((t % K) * 256 + d) + (t / K) * (K * 256) := by
    have := Nat.mod_add_div' t K
    have e : (t / K) * (K * 256) = (t / K * K) * 256 := by ac_rfl
    rw [e]
    generalize t / K * K = q at *
    omega
  have hlt : (t % K) * 256 + d < K * 256 := by
    have : (t % K + 1) * 256 ≤ K * 256 := Nat.mul_le_mul_right _ hr
    omega
  rw [e1, e3, e2, Nat.add_mul_mod_self_right, Nat.mod_eq_of_lt hlt]
theorem acc_fold (l : List UInt8) : ∀ s t, s = t % 18446744073709551616 → l.foldl (fun s d => s * 256 % 18446744073709551616 + d.toNat) s = l.foldl (fun s d => s * 256 + d.toNat) t % 18446744073709551616 := by
  induction l with
  | nil => intro s t h; exact h
  | cons d l ih =>
    intro s t h
    exact ih _ _ (mod_step 72057594037927936 s t d.toNat (by omega) (by simpa using d.toNat_lt) h)
theorem acc_vl (l : List UInt8) : acc 0 l = vl l % 18446744073709551616 := acc_fold l 0 0 rfl

theorem be_vl (l : List UInt8) : be l.length (vl l) = l := by
  induction l with
  | nil => rfl
  | cons d l ih =>
    have hlt := vl_lt l
    simp only [List.length_cons, be]
    rw [vl_cons, Nat.add_comm, Nat.add_mul_div_right _ _ (Nat.pow_pos (by omega)), Nat.div_eq_of_lt hlt, be_add, ih, Nat.zero_add]
    simp
theorem vl_be (k m : Nat) (h : m < 256 ^ k) : vl (be k m) = m := by
  have h1 := be_vl (be k m)
  rw [be_len] at h1
  exact be_inj k _ _ (by have := vl_lt (be k m); rwa [be_len] at this) h h1

/-- The number that w bytes tell, the mark taken off. -/
def dc (w : Nat) (l : List UInt8) : Nat := vl l - mk w * 256 ^ (w - 1)

theorem td_rng (b : Nat) (h : b < 256) : 1 ≤ td b ∧ td b ≤ 9 ∧ mk (td b) ≤ b ∧ b - mk (td b) < 2 ^ (8 - td b) ∧ (b - mk (td b)) % 2 ^ (8 - td b) = b - mk (td b) ∧ mk (td b) % 2 ^ (8 - td b) = 0 := by
  have : ∀ b : Fin 256, 1 ≤ td b.1 ∧ td b.1 ≤ 9 ∧ mk (td b.1) ≤ b.1 ∧ b.1 - mk (td b.1) < 2 ^ (8 - td b.1) ∧ (b.1 - mk (td b.1)) % 2 ^ (8 - td b.1) = b.1 - mk (td b.1) ∧ mk (td b.1) % 2 ^ (8 - td b.1) = 0 := by decide +kernel
  exact this ⟨b, h⟩

/-- w bytes whose first one tells w. -/
theorem vl_split (b : UInt8) (l : List UInt8) (w : Nat) (hw : w = td b.toNat) (hl : l.length + 1 = w) : vl (b :: l) = mk w * 256 ^ (w - 1) + dc w (b :: l) ∧ dc w (b :: l) < 18446744073709551616 ∧ (w < 9 → dc w (b :: l) < 2 ^ (7 * w)) := by
  have hb := b.toNat_lt
  obtain ⟨h1, h9, hm, hr, _, _⟩ := td_rng b.toNat (by simpa using hb)
  rw [← hw] at h1 h9 hm hr
  have hlt := vl_lt l
  have hlen : l.length = w - 1 := by omega
  rw [hlen] at hlt
  have hge : mk w * 256 ^ (w - 1) ≤ vl (b :: l) := by
    rw [vl_cons, hlen]
    exact Nat.le_trans (Nat.mul_le_mul_right _ hm) (Nat.le_add_right _ _)
  have hsub : dc w (b :: l) = (b.toNat - mk w) * 256 ^ (w - 1) + vl l := by
    unfold dc
    rw [vl_cons, hlen, Nat.sub_mul]
    have := Nat.mul_le_mul_right (256 ^ (w - 1)) hm
    omega
  refine ⟨by unfold dc; omega, ?_, ?_⟩
  · rw [hsub]
    obtain ⟨r, hr'⟩ : ∃ r, r = b.toNat - mk w := ⟨_, rfl⟩
    rw [← hr'] at hr ⊢
    have hc : w = 1 ∨ w = 2 ∨ w = 3 ∨ w = 4 ∨ w = 5 ∨ w = 6 ∨ w = 7 ∨ w = 8 ∨ w = 9 := by omega
    clear hsub hge hw hl hlen hm
    rcases hc with rfl | rfl | rfl | rfl | rfl | rfl | rfl | rfl | rfl <;> simp only [Nat.reduceSub, Nat.reducePow] at hr hlt ⊢ <;> omega
  · intro hw9
    rw [hsub]
    obtain ⟨r, hr'⟩ : ∃ r, r = b.toNat - mk w := ⟨_, rfl⟩
    rw [← hr'] at hr ⊢
    have hc : w = 1 ∨ w = 2 ∨ w = 3 ∨ w = 4 ∨ w = 5 ∨ w = 6 ∨ w = 7 ∨ w = 8 := by omega
    clear hsub hge hw hl hlen hm
    rcases hc with rfl | rfl | rfl | rfl | rfl | rfl | rfl | rfl <;> simp only [Nat.reduceSub, Nat.reducePow, Nat.reduceMul] at hr hlt ⊢ <;> omega

/-- The width of what w bytes tell is w at most; it is w just if they are that number's bytes. -/
theorem dc_width (b : UInt8) (l : List UInt8) (w : Nat) (hw : w = td b.toNat) (hl : l.length + 1 = w) : wd (dc w (b :: l)) ≤ w ∧ (wd (dc w (b :: l)) = w ↔ encL (dc w (b :: l)) = b :: l) := by
  obtain ⟨h1, h2, h3⟩ := vl_split b l w hw hl
  have hb := b.toNat_lt
  have h9 := (td_rng b.toNat (by simpa using hb)).2.1
  rw [← hw] at h9
  have hle : wd (dc w (b :: l)) ≤ w := by
    rcases Nat.lt_or_ge w 9 with h | h
    · rcases Nat.lt_or_ge w (wd (dc w (b :: l))) with h' | h'
      · have := wd_min _ w h' (by omega)
        have := h3 h
        omega
      · exact h'
    · have := wd_le (dc w (b :: l)); omega
  refine ⟨hle, fun h => ?_, fun h => ?_⟩
  · rw [encL_be _ h2]
    unfold nb
    rw [h, ← h1]
    have := be_vl (b :: l)
    rw [List.length_cons, hl] at this
    exact this
  · have := encL_length _ h2
    rw [h, List.length_cons] at this
    omega

/-- What comes next: the number, its width, the error. -/
def nx (l : List UInt8) : Nat × Nat × Nat :=
  match l with
  | [] => (0, 0, 10)
  | b :: r => if r.length + 1 < td b.toNat then (0, 0, 10) else
      if wd (dc (td b.toNat) ((b :: r).take (td b.toNat))) < td b.toNat then (0, 0, 11) else (dc (td b.toNat) ((b :: r).take (td b.toNat)), td b.toNat, 0)

theorem nx_cons (b : UInt8) (r : List UInt8) : nx (b :: r) = if r.length + 1 < td b.toNat then (0, 0, 10) else
      if wd (dc (td b.toNat) ((b :: r).take (td b.toNat))) < td b.toNat then (0, 0, 11) else (dc (td b.toNat) ((b :: r).take (td b.toNat)), td b.toNat, 0) := rfl

theorem andnot_disj (M D k : Nat) (hD : D < 2 ^ k) (hM : M % 2 ^ k = 0) (h64 : M < 2 ^ 64) (hk : k ≤ 64) : (M + D) &&& (2 ^ 64 - (M + 1)) = D := by
  rw [← or_add k D M hD hM]
  apply Nat.eq_of_testBit_eq
  intro i
  rw [Nat.testBit_and, Nat.testBit_or, Nat.testBit_two_pow_sub_succ h64]
  obtain ⟨q, hq⟩ : ∃ q, M = 2 ^ k * q := ⟨M / 2 ^ k, by have := Nat.div_add_mod M (2 ^ k); omega⟩
  by_cases hi : i < k
  · have h1 : M.testBit i = false := by rw [hq, Nat.testBit_two_pow_mul]; simp; omega
    rw [h1]
    simp; omega
  · have h2 : D.testBit i = false := Nat.testBit_lt_two_pow (Nat.lt_of_lt_of_le hD (Nat.pow_le_pow_right (by omega) (by omega)))
    rw [h2]
    cases M.testBit i <;> simp

theorem p256 (k : Nat) : (256 : Nat) ^ k = 2 ^ (8 * k) := by rw [Nat.pow_mul]

theorem mk_mult (t : Nat) (h1 : 1 ≤ t) (h9 : t < 9) : mk t * 2 ^ (8 * (t - 1)) % 2 ^ (7 * t) = 0 ∧ mk t * 2 ^ (8 * (t - 1)) < 2 ^ 64 := by
  have : ∀ t : Fin 9, 1 ≤ t.1 → mk t.1 * 2 ^ (8 * (t.1 - 1)) % 2 ^ (7 * t.1) = 0 ∧ mk t.1 * 2 ^ (8 * (t.1 - 1)) < 2 ^ 64 := by decide +kernel
  exact this ⟨t, h9⟩ h1

theorem nx_form (b : UInt8) (r : List UInt8) (t : Nat) (hw : td b.toNat = t) (hl : t ≤ r.length + 1) :
    bits .andNot .u64 ((acc 0 ((b :: r).take t) : Nat) : Int) (IntKind.u64.wrap ((mk t : Int) * 2 ^ (8 * (t - 1)))) = ((dc t ((b :: r).take t) : Nat) : Int) := by
  have hb := b.toNat_lt
  obtain ⟨h1, h9, _⟩ := td_rng b.toNat (by simpa using hb)
  rw [hw] at h1 h9
  obtain ⟨k, rfl⟩ : ∃ k, t = k + 1 := ⟨t - 1, by omega⟩
  rw [List.take_succ_cons]
  have hlen : (r.take k).length + 1 = k + 1 := by simp; omega
  obtain ⟨e1, e2, e3⟩ := vl_split b (r.take k) (k + 1) hw.symm hlen
  rw [acc_vl]
  generalize dc (k + 1) (b :: r.take k) = D at *
  generalize vl (b :: r.take k) = V at *
  rw [p256] at e1
  rcases Nat.lt_or_ge (k + 1) 9 with h | h
  · obtain ⟨m1, m2⟩ := mk_mult (k + 1) h1 h
    have hD := e3 h
    generalize hM : mk (k + 1) * 2 ^ (8 * (k + 1 - 1)) = M at *
    have hc : ((mk (k + 1) : Nat) : Int) * 2 ^ (8 * (k + 1 - 1)) = (M : Int) := by rw [← hM]; push_cast; rfl
    rw [hc]
    have hw64 : IntKind.u64.wrap (M : Int) = (M : Int) := by rw [IntKind.wrap_u64]; omega
    have hV : V < 18446744073709551616 := by
      have hp : 2 ^ (7 * (k + 1)) ≤ 2 ^ 56 := Nat.pow_le_pow_right (by omega) (by omega)
      have hx : M ≤ 2 ^ 64 - 2 ^ 56 := by
        rw [← hM]
        have : ∀ t : Fin 9, 1 ≤ t.1 → mk t.1 * 2 ^ (8 * (t.1 - 1)) ≤ 2 ^ 64 - 2 ^ 56 := by decide +kernel
        exact this ⟨k + 1, h⟩ h1
      omega
    rw [hw64, Nat.mod_eq_of_lt hV, u64_andNot_nat _ _ hV (by omega), e1]
    congr 1
    rw [show 18446744073709551615 - M = 2 ^ 64 - (M + 1) by omega]
    exact andnot_disj M D (7 * (k + 1)) hD m1 m2 (by omega)
  · obtain rfl : k = 8 := by omega
    have m9 : mk 9 = 255 := mk_vals.2.2.2.2.2.2.2.2
    have hw64 : IntKind.u64.wrap (((mk (8 + 1) : Nat) : Int) * 2 ^ (8 * (8 + 1 - 1))) = ((0 : Nat) : Int) := by
      show IntKind.u64.wrap (((mk 9 : Nat) : Int) * 2 ^ 64) = _
      rw [m9, IntKind.wrap_u64]; omega
    rw [hw64, u64_andNot_nat _ _ (Nat.mod_lt _ (by omega)) (by omega)]
    congr 1
    have e4 : V % 18446744073709551616 = D := by
      rw [e1]
      show (mk 9 * 2 ^ 64 + D) % 18446744073709551616 = D
      rw [m9]; omega
    rw [e4]
    have := andnot_disj 0 D 64 e2 (by omega) (by omega) (Nat.le_refl _)
    simpa using this

theorem td_of (b w : Nat) (hb : b < 256) (hw : w ≤ 9) (h1 : 1 ≤ w) (hlo : mk w ≤ b) (hhi : w < 9 → b < mk (w + 1)) : td b = w := by
  have : ∀ b : Fin 256, ∀ w : Fin 10, 1 ≤ w.1 → mk w.1 ≤ b.1 → (w.1 < 9 → b.1 < mk (w.1 + 1)) → td b.1 = w.1 := by decide +kernel
  exact this ⟨b, hb⟩ ⟨w, by omega⟩ h1 hlo hhi

/-- A number's bytes, whatever stands behind them, are read as it was. -/
theorem nx_enc (n : Nat) (hn : n < 18446744073709551616) (r : List UInt8) : nx (encL n ++ r) = (n, wd n, 0) := by
  have hw1 := wd_pos n
  have hw9 := wd_le n
  obtain ⟨h1, h2, h3⟩ := hd_rng n hn
  have ht : td (UInt8.ofNat (hd n)).toNat = wd n := by
    rw [UInt8.toNat_ofNat', Nat.mod_eq_of_lt (by simpa using h2)]
    exact td_of _ _ h2 hw9 hw1 h1 h3
  have hlen := encL_length n hn
  have hlt := nb_lt n hn
  have hdc : dc (wd n) (encL n) = n := by
    unfold dc
    rw [encL_be n hn, vl_be _ _ hlt]
    unfold nb
    omega
  have htk : (encL n ++ r).take (wd n) = encL n := by rw [← hlen, List.take_left]
  have hcons := encL_cons n hn
  rw [hcons] at hlen htk ⊢
  rw [List.cons_append] at htk ⊢
  rw [nx_cons, ht, htk, ← hcons, hdc, if_neg (by simp at hlen; simp; omega), if_neg (by omega)]

end Go.Proofs.YtpkcjokkadfhcaaDoor.V
