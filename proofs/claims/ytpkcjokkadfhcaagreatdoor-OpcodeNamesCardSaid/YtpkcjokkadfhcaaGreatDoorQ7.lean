/-
  Plain mathematics of reading: what bytes say as a number, and when they are a number's bytes. No program's run is named here. No conditions.
  The law's own alive: the chapter's first examples hold. No conditions.
  The document's own Number and Bytes: a number's bytes by definition, as vary's. Conditions: a uint64; no more than 2^47 bytes.
  An instruction's bytes, and its text, tell it: plain mathematics. No program, no conditions.
  What the document's Encode answers. Conditions: the operands fit an int64.
  A Reel's look with each of its two keepers: too few bytes, or they are handed on. Conditions: no more than 2^47 bytes.
  A Reel's next: what comes next, its width, the error; the place stays. Conditions: no more than 2^47 bytes.
  The Reel: On, bounded, take, Number, Signed, Bytes, Raw, At, End over a Reel in memory. Conditions: no more than 2^47 bytes.
  The Reel's methods: Number, Signed, Bytes, Raw, At, End over a Reel in memory. Conditions: no more than 2^47 bytes.
-/
import Derived.Deep.DeepFit
import Derived.Laws.OwnMore
import Derived.Lib.Strings
import Derived.OwnWalk
import Derived.Test.YtpkcjokkadfhcaaGreatDoorQ6
import Derived.Test.YtpkcjokkadfhcaaGreatDoorQ2
import Derived.Test.YtpkcjokkadfhcaaGreatDoorQ4
namespace Go.Proofs.YtpkcjokkadfhcaaGreatDoor.V
open Go.RowKit

/-- Bytes as a number, the highest first. -/
def vl (l : List UInt8) : Nat := l.foldl (fun s d => s * 256 + d.toNat) 0
theorem vl_snoc (l : List UInt8) (d : UInt8) : vl (l ++ [d]) = vl l * 256 + d.toNat := by simp [vl]
theorem foldl_add (l : List UInt8) : ∀ s, l.foldl (fun s d => s * 256 + d.toNat) s = s * 256 ^ l.length + vl l := by
  induction l with
  | nil => intro s; simp [vl]
  | cons d l ih =>
    intro s
    have h0 := ih (s * 256 + d.toNat)
    have h1 : vl (d :: l) = d.toNat * 256 ^ l.length + vl l := by
      have := ih (0 * 256 + d.toNat)
      simpa [vl] using this
    simp only [List.foldl_cons, List.length_cons]
    rw [h0, h1, Nat.pow_succ, Nat.add_mul]
    have e : s * 256 * 256 ^ l.length = s * (256 ^ l.length * 256) := by ac_rfl
    rw [e, Nat.add_assoc]
theorem vl_cons (d : UInt8) (l : List UInt8) : vl (d :: l) = d.toNat * 256 ^ l.length + vl l := by
  have := foldl_add l d.toNat
  simpa [vl] using this
theorem vl_lt (l : List UInt8) : vl l < 256 ^ l.length := by
  induction l with
  | nil => simp [vl]
  | cons d l ih =>
    rw [vl_cons, List.length_cons, Nat.pow_succ]
    have hd := d.toNat_lt
    have : d.toNat * 256 ^ l.length + 256 ^ l.length ≤ 256 ^ l.length * 256 := by
      have h : (d.toNat + 1) * 256 ^ l.length ≤ 256 * 256 ^ l.length := Nat.mul_le_mul_right _ (by omega)
      rw [Nat.add_mul] at h
      omega
    omega
theorem mod_step (K s t d : Nat) (hK : 0 < K) (hd : d < 256) (h : s = t % (K * 256)) : s * 256 % (K * 256) + d = (t * 256 + d) % (K * 256) := by
  have e1 : s * 256 % (K * 256) = (s % K) * 256 := Nat.mul_mod_mul_right 256 s K
  have e3 : s % K = t % K := by rw [h, Nat.mod_mul_right_mod]
  have hr := Nat.mod_lt t hK
  have e2 : t * 256 + d = ((t % K) * 256 + d) + (t / K) * (K * 256) := by
    have := Nat.mod_add_div' t K
    have e : (t / K) * (K * 256) = (t / K * K) * 256 := by ac_rfl
    rw [e]
    generalize t / K * K = q at *
    omega
  have hlt : (t % K) * 256 + d < K * 256 := by
    have : (t % K + 1) * 256 ≤ K * 256 := Nat.mul_le_mul_right _ hr
    omega
  rw [e1, e3, e2, Nat.add_mul_mod_self_right, Nat.mod_eq_of_lt hlt]
theorem acc_fold (l : List UInt8) : ∀ s t, s = t % 18446744073709551616 → l.foldl (fun s d => s * 256 % 18446744073709551616 + d.toNat) s = l.foldl (fun s d => s * 256 + d.toNat) t % 18446744073709551616 := by
  induction l with
  | nil => intro s t h; exact h
  | cons d l ih =>
    intro s t h
    exact ih _ _ (mod_step 72057594037927936 s t d.toNat (by omega) (by simpa using d.toNat_lt) h)
theorem acc_vl (l : List UInt8) : acc 0 l = vl l % 18446744073709551616 := acc_fold l 0 0 rfl

theorem be_vl (l : List UInt8) : be l.length (vl l) = l := by
  induction l with
  | nil => rfl
  | cons d l ih =>
    have hlt := vl_lt l
    simp only [List.length_cons, be]
    rw [vl_cons, Nat.add_comm, Nat.add_mul_div_right _ _ (Nat.pow_pos (by omega)), Nat.div_eq_of_lt hlt, be_add, ih, Nat.zero_add]
    simp
theorem vl_be (k m : Nat) (h : m < 256 ^ k) : vl (be k m) = m := by
  have h1 := be_vl (be k m)
  rw [be_len] at h1
  exact be_inj k _ _ (by have := vl_lt (be k m); rwa [be_len] at this) h h1

/-- The number that w bytes tell, the mark taken off. -/
def dc (w : Nat) (l : List UInt8) : Nat := vl l - mk w * 256 ^ (w - 1)

theorem td_rng (b : Nat) (h : b < 256) : 1 ≤ td b ∧ td b ≤ 9 ∧ mk (td b) ≤ b ∧ b - mk (td b) < 2 ^ (8 - td b) ∧ (b - mk (td b)) % 2 ^ (8 - td b) = b - mk (td b) ∧ mk (td b) % 2 ^ (8 - td b) = 0 := by
  have : ∀ b : Fin 256, 1 ≤ td b.1 ∧ td b.1 ≤ 9 ∧ mk (td b.1) ≤ b.1 ∧ b.1 - mk (td b.1) < 2 ^ (8 - td b.1) ∧ (b.1 - mk (td b.1)) % 2 ^ (8 - td b.1) = b.1 - mk (td b.1) ∧ mk (td b.1) % 2 ^ (8 - td b.1) = 0 := by decide +kernel
  exact this ⟨b, h⟩

/-- w bytes whose first one tells w. -/
theorem vl_split (b : UInt8) (l : List UInt8) (w : Nat) (hw : w = td b.toNat) (hl : l.length + 1 = w) : vl (b :: l) = mk w * 256 ^ (w - 1) + dc w (b :: l) ∧ dc w (b :: l) < 18446744073709551616 ∧ (w < 9 → dc w (b :: l) < 2 ^ (7 * w)) := by
  have hb := b.toNat_lt
  obtain ⟨h1, h9, hm, hr, _, _⟩ := td_rng b.toNat (by simpa using hb)
  rw [← hw] at h1 h9 hm hr
  have hlt := vl_lt l
  have hlen : l.length = w - 1 := by omega
  rw [hlen] at hlt
  have hge : mk w * 256 ^ (w - 1) ≤ vl (b :: l) := by
    rw [vl_cons, hlen]
    exact Nat.le_trans (Nat.mul_le_mul_right _ hm) (Nat.le_add_right _ _)
  have hsub : dc w (b :: l) = (b.toNat - mk w) * 256 ^ (w - 1) + vl l := by
    unfold dc
    rw [vl_cons, hlen, Nat.sub_mul]
    have := Nat.mul_le_mul_right (256 ^ (w - 1)) hm
    omega
  refine ⟨by unfold dc; omega, ?_, ?_⟩
  · rw [hsub]
    obtain ⟨r, hr'⟩ : ∃ r, r = b.toNat - mk w := ⟨_, rfl⟩
    rw [← hr'] at hr ⊢
    have hc : w = 1 ∨ w = 2 ∨ w = 3 ∨ w = 4 ∨ w = 5 ∨ w = 6 ∨ w = 7 ∨ w = 8 ∨ w = 9 := by omega
    clear hsub hge hw hl hlen hm
    rcases hc with rfl | rfl | rfl | rfl | rfl | rfl | rfl | rfl | rfl <;> simp only [Nat.reduceSub, Nat.reducePow] at hr hlt ⊢ <;> omega
  · intro hw9
    rw [hsub]
    obtain ⟨r, hr'⟩ : ∃ r, r = b.toNat - mk w := ⟨_, rfl⟩
    rw [← hr'] at hr ⊢
    have hc : w = 1 ∨ w = 2 ∨ w = 3 ∨ w = 4 ∨ w = 5 ∨ w = 6 ∨ w = 7 ∨ w = 8 := by omega
    clear hsub hge hw hl hlen hm
    rcases hc with rfl | rfl | rfl | rfl | rfl | rfl | rfl | rfl <;> simp only [Nat.reduceSub, Nat.reducePow, Nat.reduceMul] at hr hlt ⊢ <;> omega

/-- The width of what w bytes tell is w at most; it is w just if they are that number's bytes. -/
theorem dc_width (b : UInt8) (l : List UInt8) (w : Nat) (hw : w = td b.toNat) (hl : l.length + 1 = w) : wd (dc w (b :: l)) ≤ w ∧ (wd (dc w (b :: l)) = w ↔ encL (dc w (b :: l)) = b :: l) := by
  obtain ⟨h1, h2, h3⟩ := vl_split b l w hw hl
  have hb := b.toNat_lt
  have h9 := (td_rng b.toNat (by simpa using hb)).2.1
  rw [← hw] at h9
  have hle : wd (dc w (b :: l)) ≤ w := by
    rcases Nat.lt_or_ge w 9 with h | h
    · rcases Nat.lt_or_ge w (wd (dc w (b :: l))) with h' | h'
      · have := wd_min _ w h' (by omega)
        have := h3 h
        omega
      · exact h'
    · have := wd_le (dc w (b :: l)); omega
  refine ⟨hle, fun h => ?_, fun h => ?_⟩
  · rw [encL_be _ h2]
    unfold nb
    rw [h, ← h1]
    have := be_vl (b :: l)
    rw [List.length_cons, hl] at this
    exact this
  · have := encL_length _ h2
    rw [h, List.length_cons] at this
    omega

/-- What comes next: the number, its width, the error. -/
def nx (l : List UInt8) : Nat × Nat × Nat :=
  match l with
  | [] => (0, 0, 10)
  | b :: r => if r.length + 1 < td b.toNat then (0, 0, 10) else
      if wd (dc (td b.toNat) ((b :: r).take (td b.toNat))) < td b.toNat then (0, 0, 11) else (dc (td b.toNat) ((b :: r).take (td b.toNat)), td b.toNat, 0)

theorem nx_cons (b : UInt8) (r : List UInt8) : nx (b :: r) = if r.length + 1 < td b.toNat then (0, 0, 10) else
      if wd (dc (td b.toNat) ((b :: r).take (td b.toNat))) < td b.toNat then (0, 0, 11) else (dc (td b.toNat) ((b :: r).take (td b.toNat)), td b.toNat, 0) := rfl

theorem andnot_disj (M D k : Nat) (hD : D < 2 ^ k) (hM : M % 2 ^ k = 0) (h64 : M < 2 ^ 64) (hk : k ≤ 64) : (M + D) &&& (2 ^ 64 - (M + 1)) = D := by
  rw [← or_add k D M hD hM]
  apply Nat.eq_of_testBit_eq
  intro i
  rw [Nat.testBit_and, Nat.testBit_or, Nat.testBit_two_pow_sub_succ h64]
  obtain ⟨q, hq⟩ : ∃ q, M = 2 ^ k * q := ⟨M / 2 ^ k, by have := Nat.div_add_mod M (2 ^ k); omega⟩
  by_cases hi : i < k
  · have h1 : M.testBit i = false := by rw [hq, Nat.testBit_two_pow_mul]; simp; omega
    rw [h1]
    simp; omega
  · have h2 : D.testBit i = false := Nat.testBit_lt_two_pow (Nat.lt_of_lt_of_le hD (Nat.pow_le_pow_right (by omega) (by omega)))
    rw [h2]
    cases M.testBit i <;> simp

theorem p256 (k : Nat) : (256 : Nat) ^ k = 2 ^ (8 * k) := by rw [Nat.pow_mul]

theorem mk_mult (t : Nat) (h1 : 1 ≤ t) (h9 : t < 9) : mk t * 2 ^ (8 * (t - 1)) % 2 ^ (7 * t) = 0 ∧ mk t * 2 ^ (8 * (t - 1)) < 2 ^ 64 := by
  have : ∀ t : Fin 9, 1 ≤ t.1 → mk t.1 * 2 ^ (8 * (t.1 - 1)) % 2 ^ (7 * t.1) = 0 ∧ mk t.1 * 2 ^ (8 * (t.1 - 1)) < 2 ^ 64 := by decide +kernel
  exact this ⟨t, h9⟩ h1

theorem nx_form (b : UInt8) (r : List UInt8) (t : Nat) (hw : td b.toNat = t) (hl : t ≤ r.length + 1) :
    bits .andNot .u64 ((acc 0 ((b :: r).take t) : Nat) : Int) (IntKind.u64.wrap ((mk t : Int) * 2 ^ (8 * (t - 1)))) = ((dc t ((b :: r).take t) : Nat) : Int) := by
  have hb := b.toNat_lt
  obtain ⟨h1, h9, _⟩ := td_rng b.toNat (by simpa using hb)
  rw [hw] at h1 h9
  obtain ⟨k, rfl⟩ : ∃ k, t = k + 1 := ⟨t - 1, by omega⟩
  rw [List.take_succ_cons]
  have hlen : (r.take k).length + 1 = k + 1 := by simp; omega
  obtain ⟨e1, e2, e3⟩ := vl_split b (r.take k) (k + 1) hw.symm hlen
  rw [acc_vl]
  generalize dc (k + 1) (b :: r.take k) = D at *
  generalize vl (b :: r.take k) = V at *
  rw [p256] at e1
  rcases Nat.lt_or_ge (k + 1) 9 with h | h
  · obtain ⟨m1, m2⟩ := mk_mult (k + 1) h1 h
    have hD := e3 h
    generalize hM : mk (k + 1) * 2 ^ (8 * (k + 1 - 1)) = M at *
    have hc : ((mk (k + 1) : Nat) : Int) * 2 ^ (8 * (k + 1 - 1)) = (M : Int) := by rw [← hM]; push_cast; rfl
    rw [hc]
    have hw64 : IntKind.u64.wrap (M : Int) = (M : Int) := by rw [IntKind.wrap_u64]; omega
    have hV : V < 18446744073709551616 := by
      have hp : 2 ^ (7 * (k + 1)) ≤ 2 ^ 56 := Nat.pow_le_pow_right (by omega) (by omega)
      have hx : M ≤ 2 ^ 64 - 2 ^ 56 := by
        rw [← hM]
        have : ∀ t : Fin 9, 1 ≤ t.1 → mk t.1 * 2 ^ (8 * (t.1 - 1)) ≤ 2 ^ 64 - 2 ^ 56 := by decide +kernel
        exact this ⟨k + 1, h⟩ h1
      omega
    rw [hw64, Nat.mod_eq_of_lt hV, u64_andNot_nat _ _ hV (by omega), e1]
    congr 1
    rw [show 18446744073709551615 - M = 2 ^ 64 - (M + 1) by omega]
    exact andnot_disj M D (7 * (k + 1)) hD m1 m2 (by omega)
  · obtain rfl : k = 8 := by omega
    have m9 : mk 9 = 255 := mk_vals.2.2.2.2.2.2.2.2
    have hw64 : IntKind.u64.wrap (((mk (8 + 1) : Nat) : Int) * 2 ^ (8 * (8 + 1 - 1))) = ((0 : Nat) : Int) := by
      show IntKind.u64.wrap (((mk 9 : Nat) : Int) * 2 ^ 64) = _
      rw [m9, IntKind.wrap_u64]; omega
    rw [hw64, u64_andNot_nat _ _ (Nat.mod_lt _ (by omega)) (by omega)]
    congr 1
    have e4 : V % 18446744073709551616 = D := by
      rw [e1]
      show (mk 9 * 2 ^ 64 + D) % 18446744073709551616 = D
      rw [m9]; omega
    rw [e4]
    have := andnot_disj 0 D 64 e2 (by omega) (by omega) (Nat.le_refl _)
    simpa using this

theorem td_of (b w : Nat) (hb : b < 256) (hw : w ≤ 9) (h1 : 1 ≤ w) (hlo : mk w ≤ b) (hhi : w < 9 → b < mk (w + 1)) : td b = w := by
  have : ∀ b : Fin 256, ∀ w : Fin 10, 1 ≤ w.1 → mk w.1 ≤ b.1 → (w.1 < 9 → b.1 < mk (w.1 + 1)) → td b.1 = w.1 := by decide +kernel
  exact this ⟨b, hb⟩ ⟨w, by omega⟩ h1 hlo hhi

/-- A number's bytes, whatever stands behind them, are read as it was. -/
theorem nx_enc (n : Nat) (hn : n < 18446744073709551616) (r : List UInt8) : nx (encL n ++ r) = (n, wd n, 0) := by
  have hw1 := wd_pos n
  have hw9 := wd_le n
  obtain ⟨h1, h2, h3⟩ := hd_rng n hn
  have ht : td (UInt8.ofNat (hd n)).toNat = wd n := by
    rw [UInt8.toNat_ofNat', Nat.mod_eq_of_lt (by simpa using h2)]
    exact td_of _ _ h2 hw9 hw1 h1 h3
  have hlen := encL_length n hn
  have hlt := nb_lt n hn
  have hdc : dc (wd n) (encL n) = n := by
    unfold dc
    rw [encL_be n hn, vl_be _ _ hlt]
    unfold nb
    omega
  have htk : (encL n ++ r).take (wd n) = encL n := by rw [← hlen, List.take_left]
  have hcons := encL_cons n hn
  rw [hcons] at hlen htk ⊢
  rw [List.cons_append] at htk ⊢
  rw [nx_cons, ht, htk, ← hcons, hdc, if_neg (by simp at hlen; simp; omega), if_neg (by omega)]

end Go.Proofs.YtpkcjokkadfhcaaGreatDoor.V

namespace Go.Proofs.YtpkcjokkadfhcaaGreatDoor.V
open Go.RowKit

theorem enc_0 : encL 0 = [0] := by decide +kernel
theorem enc_127 : encL 127 = [127] := by decide +kernel
theorem enc_128 : encL 128 = [128, 128] := by decide +kernel
theorem enc_300 : encL 300 = [129, 44] := by decide +kernel
theorem enc_16384 : encL 16384 = [192, 64, 0] := by decide +kernel

theorem keepN {w w1 w2 : World} (h : Keep NoB w w1) (h' : Keep NoB w1 w2) : Keep NoB w w2 := h.trans h' (fun _ hf _ => hf.elim)

end Go.Proofs.YtpkcjokkadfhcaaGreatDoor.V

namespace Go.Proofs.YtpkcjokkadfhcaaGreatDoor.V
open Go.RowKit

theorem set_be (j r n : Nat) : (List.replicate (j + 1) (0 : UInt8) ++ be r n).set j (UInt8.ofNat (n / 256 ^ r)) = List.replicate j 0 ++ be (r + 1) n := by
  have e : List.replicate (j + 1) (0 : UInt8) ++ be r n = List.replicate j 0 ++ (0 :: be r n) := by
    rw [List.replicate_succ', List.append_assoc]; rfl
  rw [e, List.set_append_right _ _ (by simp)]
  simp [be]

theorem bvs_set (l : List UInt8) (i : Nat) (b : UInt8) : (bvs l).set i (bv b) = bvs (l.set i b) := by
  unfold bvs; rw [List.map_set]

theorem put_be {w w0 : World} {g j W n : Nat} {V : Int} (h : w.ownsRow 0 5 1 (.slice (some ⟨g, 0, none⟩) W W) W (bvs (List.replicate (j + 1) 0 ++ be (W - (j + 1)) n))) (hj : j + 1 ≤ W)
    (hV : V = ((n / 256 ^ (W - (j + 1)) % 256 : Nat) : Int)) (hk : Keep NoB w0 w) (hg : w0.heap.size ≤ g) :
    (w.setCell ⟨g, j, none⟩ (.int .u8 V)).ownsRow 0 5 1 (.slice (some ⟨g, 0, none⟩) W W) W (bvs (List.replicate j 0 ++ be (W - j) n)) ∧ Keep NoB w0 (w.setCell ⟨g, j, none⟩ (.int .u8 V)) := by
  have hb : (Value.int .u8 V) = bv (UInt8.ofNat (n / 256 ^ (W - (j + 1)))) := by
    subst hV; simp [bv, UInt8.toNat_ofNat']
  rw [hb]
  have h1 := (h.stored j (bv (UInt8.ofNat (n / 256 ^ (W - (j + 1)))))).1
  rw [bvs_set, set_be, show W - (j + 1) + 1 = W - j by omega] at h1
  exact ⟨h1, hk.setCell (fun hlt => by simp at hlt; omega) _⟩

theorem head_of {n W : Nat} (hn : n < 18446744073709551616) (hW : wd n = W) : ∃ r, be W n = UInt8.ofNat (n / 256 ^ (W - 1)) :: r ∧ encL n = UInt8.ofNat (mk W + n / 256 ^ (W - 1)) :: r ∧ mk W + n / 256 ^ (W - 1) < 256 := by
  have hp := wd_pos n
  have h2 := (hd_rng n hn).2.1
  subst hW
  obtain ⟨k, hk⟩ : ∃ k, wd n = k + 1 := ⟨wd n - 1, by omega⟩
  refine ⟨be k n, by rw [hk]; rfl, ?_, h2⟩
  rw [encL_cons n hn]
  congr 1
  unfold nb
  rw [hk, Nat.add_sub_cancel, Nat.add_comm, be_add]

theorem mk_step (i : Nat) (h1 : 1 ≤ i) (h9 : i < 9) : mk (i + 1) = mk i + 256 / 2 ^ i ∧ 256 / 2 ^ (i + 1) = 256 / 2 ^ i / 2 ∧ mk i ≤ 256 ∧ 256 / 2 ^ i ≤ 256 := by
  have : ∀ i : Fin 9, 1 ≤ i.1 → mk (i.1 + 1) = mk i.1 + 256 / 2 ^ i.1 ∧ 256 / 2 ^ (i.1 + 1) = 256 / 2 ^ i.1 / 2 ∧ mk i.1 ≤ 256 ∧ 256 / 2 ^ i.1 ≤ 256 := by decide
  exact this ⟨i, h9⟩ h1

set_option maxRecDepth 100000 in
set_option maxHeartbeats 4000000 in
theorem refnum_any (n : Nat) (w : World) (hn : Hid (n < 18446744073709551616)) :
    Calls Tryz.prog 70 #[.int .u64 n] w fun e w' => ∃ v, e = .returned v ∧ OwnB w' (Fresh w) v (encL n) ∧ Keep NoB w w' := by
  have hw1 := wd_pos n
  have hw9 := wd_le n
  obtain ⟨W, hW⟩ : ∃ W, wd n = W := ⟨_, rfl⟩
  have HH := Lib.hid (head_of hn.out hW)
  have HWW := Lib.hid hW
  rw [hW] at hw1 hw9
  obtain ⟨i0, hi, hz0, hz1, hz2⟩ := info_parts u8_info
  have hwa := Lib.hid (rwidth_any n w)
  rw [hW] at hwa
  clear hW
  go_enter Tryz.func70, Tryz.ntmps70
  go_wp2_with fail
  refine hwa.out.mono ?_
  rintro e w1 ⟨rfl, rfl⟩
  go_wp2_with (at_make; refine wpList_make_full _ rfl _ _ 24 rfl 0 5 i0 (.int .u8 0) 1 Tryz.underlying24 hi hz0 hz1 _ _ _ _ W rfl rfl rfl rfl (by rw [hz2]; omega) (by unfold maxLen; omega) (Nat.zero_le _) ?_; intro w1 hrow1 hg1)
  have hr1 : w1.ownsRow 0 5 1 (.slice (some ⟨w.heap.size, 0, none⟩) W W) W (bvs (List.replicate W 0 ++ be (W - W) n)) := by
    have e : (madeCells (Value.int .u8 0).cells (W * 1)).toList = bvs (List.replicate W 0 ++ be (W - W) n) := by
      rw [Nat.mul_one, Nat.sub_self]
      show (madeCells #[Value.int .u8 0] W).toList = _
      rw [toList_madeCells_one]
      simp [be, bvs, bv]
    rw [← e]; exact hrow1
  have hk1 : Keep NoB w w1 := (Keep.refl NoB w).grown hg1 (fun _ e _ => by cases e)
  clear hrow1 hg1
  obtain ⟨g, hg⟩ : ∃ g, w.heap.size = g := ⟨_, rfl⟩
  have hgl : w.heap.size ≤ g := by omega
  rw [hg] at hr1 ⊢
  clear hg
  go_loopw [0, 5] (fun m i wr => ∃ (k q : Nat), k ≤ W ∧ Hid (q = n / 256 ^ (W - k)) ∧ q < 18446744073709551616 ∧ m = .int .u64 (q : Int) ∧ i = .int .i64 ((k : Int) - 1) ∧ wr.ownsRow 0 5 1 (.slice (some ⟨g, 0, none⟩) W W) W (bvs (List.replicate k 0 ++ be (W - k) n)) ∧ Keep NoB w wr) (fun _ i _ => (intOf i + 1).toNat)
  case atStart => exact ⟨W, n, Nat.le_refl _, by simp [Hid], hn.out, rfl, by go_num, hr1, hk1⟩
  case round =>
    clear hk1 hr1
    obtain ⟨k, q, hk, hq, hq64, rfl, rfl, hrow, hK⟩ := hrel
    by_cases hk0 : k = 0
    · subst hk0
      have hbe : Hid (be W n = List.replicate 0 0 ++ be (W - 0) n) := by simp [Hid]
      rw [← hbe.out] at hrow
      go_wp2
      go_loop [6, 7, 8] (fun f b i => ∃ (j F B : Nat), 1 ≤ j ∧ j ≤ W ∧ Hid (F = mk j ∧ B = 256 / 2 ^ j) ∧ F ≤ 512 ∧ B ≤ 256 ∧ f = .int .i64 (F : Int) ∧ b = .int .i64 (B : Int) ∧ i = .int .i64 (j : Int)) (fun _ _ i => W - (intOf i).toNat)
      case atStart => exact ⟨1, 0, 128, by omega, by omega, by show _ ∧ _; decide, by omega, by omega, rfl, rfl, rfl⟩
      case round =>
        obtain ⟨j, F, B, hj1, hj, hFB, hF, hB, rfl, rfl, rfl⟩ := hrel
        by_cases hjw : j < W
        · have hst := mk_step j hj1 (by omega)
          obtain ⟨e1, e2⟩ := hFB.out
          rw [← e1, ← e2] at hst
          have HS : Hid (F + B = mk (j + 1) ∧ B / 2 = 256 / 2 ^ (j + 1)) := ⟨hst.1.symm, hst.2.1.symm⟩
          have hs3 := hst.2.2.1
          clear hst e1 e2
          go_wp2
          go_round
          case rel => exact ⟨j + 1, F + B, B / 2, by omega, by omega, HS, by omega, by omega, by go_num, by go_num, by go_num⟩
          case measure => simp [intOf]; omega
        · obtain rfl : j = W := by omega
          obtain ⟨r, hr1, hr2, hr3⟩ := HH.out
          rw [hr1] at hrow
          have hFm := hFB.out.1
          rw [← hFm] at hr2 hr3
          have HR2 := Lib.hid hr2
          obtain ⟨x, hx⟩ : ∃ x, n / 256 ^ (j - 1) = x := ⟨_, rfl⟩
          rw [hx] at hr1 HR2 hr3 hrow
          clear hr1 hr2 HH hx hFB hFm hbe
          have c0 := hrow.cellAt 0 (by omega)
          have f0 := hrow.frozenAt 0
          have hxb : (((UInt8.ofNat x).toNat : Nat) : Int) = (x : Int) := by rw [UInt8.toNat_ofNat']; omega
          simp only [bvs, List.map_cons, List.getElem?_cons_zero, bv, hxb] at c0
          go_wp2
          go_ret
          have hst := (hrow.stored 0 (bv (UInt8.ofNat (F + x)))).1
          rw [bvs_set, List.set_cons_zero, ← HR2.out] at hst
          have hval : (Value.int .u8 ((F : Int) + (x : Int))) = bv (UInt8.ofNat (F + x)) := by
            simp only [bv]; rw [UInt8.toNat_ofNat', Nat.mod_eq_of_lt (by omega)]; simp
          rw [← hval] at hst
          have hle : (encL n).length = j := by rw [encL_length n hn.out]; exact HWW.out
          refine ⟨_, rfl, ⟨by rw [hle]; exact hst, fun g' e => ?_⟩, hK.setCell (fun hlt => by simp at hlt; omega) _⟩
          simp [Value.ownBlock] at e
          subst e
          exact hgl
    · obtain ⟨j, rfl⟩ : ∃ j, k = j + 1 := ⟨k - 1, by omega⟩
      have f0 := hrow.frozenAt j
      have cj : wr.cell? ⟨g, j, none⟩ = some (.int .u8 0) := by
        rw [hrow.cellAt j (by omega)]
        simp only [bvs, List.map_append, List.map_replicate]
        rw [List.getElem?_append_left (by simp)]
        simp [bv]
      have hP := Lib.hid (put_be (V := (q : Int) % 256) hrow hk (by rw [← hq.out]; omega) hK hgl)
      have hq' : Hid (q / 256 = n / 256 ^ (W - j)) := by
        show _ = _
        rw [hq.out, Nat.div_div_eq_div_mul, ← Nat.pow_succ, show (W - (j + 1)).succ = W - j by omega]
      clear hq hrow hK
      go_wp2
      go_roundw
      case rel => exact ⟨j, q / 256, by omega, hq', by omega, by go_num, by go_num, hP.out.1, hP.out.2⟩
      case measure => simp [intOf]

end Go.Proofs.YtpkcjokkadfhcaaGreatDoor.V

namespace Go.Proofs.YtpkcjokkadfhcaaGreatDoor.O

theorem in_bounds {k n : Int} (h : inK k n = true) : (-9223372036854775808 ≤ n ∧ n ≤ 9223372036854775807) ∧ (k ≠ 1 → 0 ≤ n ∧ n ≤ 511) ∧ (k = 0 → n = 0) := by
  have h := of_decide_eq_true h
  unfold lo hi at h
  repeat' split at h
  all_goals omega

theorem enc_cancel {m n : Nat} {s t : List UInt8} (hm : m < 18446744073709551616) (hn : n < 18446744073709551616) (h : V.encL m ++ s = V.encL n ++ t) : m = n ∧ s = t := by
  have e := congrArg V.nx h
  rw [V.nx_enc m hm, V.nx_enc n hn] at e
  have e1 : m = n := (Prod.mk.inj e).1
  subst e1
  exact ⟨rfl, List.append_cancel_left h⟩
theorem encP_cancel {k a b : Int} {s t : List UInt8} (ha : inK k a = true) (hb : inK k b = true) (h : encP k a ++ s = encP k b ++ t) : a = b ∧ s = t := by
  have xa := in_bounds ha
  have xb := in_bounds hb
  unfold encP at h
  split at h
  · rename_i h0
    rw [xa.2.2 h0, xb.2.2 h0]; exact ⟨rfl, by simpa using h⟩
  · split at h
    · obtain ⟨h1, h2⟩ := enc_cancel (V.zig_lt a xa.1.1 xa.1.2) (V.zig_lt b xb.1.1 xb.1.2) h
      exact ⟨(V.zig_inj a b).1 h1, h2⟩
    · rename_i h1
      have ya := xa.2.1 h1
      have yb := xb.2.1 h1
      obtain ⟨h1, h2⟩ := enc_cancel (by omega) (by omega) h
      exact ⟨by omega, h2⟩
theorem bytes_cancel {op a b op' a' b' : Int} {s t : List UInt8} (h1 : okI op a b = true) (h2 : okI op' a' b' = true) (h : bytesI op a b ++ s = bytesI op' a' b' ++ t) : (op = op' ∧ a = a' ∧ b = b') ∧ s = t := by
  obtain ⟨o1, a1, b1⟩ := ok_op h1
  obtain ⟨o2, a2, b2⟩ := ok_op h2
  have x1 := isOp_yes o1
  have x2 := isOp_yes o2
  unfold bytesI at h
  simp only [List.append_assoc] at h
  obtain ⟨e1, h⟩ := enc_cancel (by omega) (by omega) h
  have e1 : op = op' := by omega
  subst e1
  obtain ⟨e2, h'⟩ := encP_cancel a1 a2 h
  obtain ⟨e3, h''⟩ := encP_cancel b1 b2 h'
  exact ⟨⟨rfl, e2, e3⟩, h''⟩
theorem bytes_ne {op a b : Int} (h : okI op a b = true) : bytesI op a b ≠ [] := by
  have x := isOp_yes (ok_op h).1
  intro e
  have hl := congrArg List.length e
  unfold bytesI at hl
  rw [List.length_append, V.encL_length _ (by omega)] at hl
  have := V.wd_pos op.toNat
  simp at hl
  omega

/-- A text up to its first blank. -/
def upto (l : List UInt8) : List UInt8 := l.takeWhile (fun c => decide (c ≠ 32))
theorem upto_of {s r : List UInt8} (hs : ∀ c ∈ s, c ≠ 32) (hr : r = [] ∨ ∃ r', r = 32 :: r') : upto (s ++ r) = s := by
  unfold upto
  rw [List.takeWhile_append_of_pos (by intro c hc; simpa using hs c hc)]
  rcases hr with rfl | ⟨r', rfl⟩
  · simp
  · simp
theorem split_at {s t r q : List UInt8} (hs : ∀ c ∈ s, c ≠ 32) (ht : ∀ c ∈ t, c ≠ 32) (hr : r = [] ∨ ∃ r', r = 32 :: r') (hq : q = [] ∨ ∃ q', q = 32 :: q') (h : s ++ r = t ++ q) : s = t ∧ r = q := by
  have e := congrArg upto h
  rw [upto_of hs hr, upto_of ht hq] at e
  subst e
  exact ⟨rfl, List.append_cancel_left h⟩

theorem itoa_no (n : Int) : ∀ c ∈ Lib.itoa n, c ≠ 32 := by
  have hd : ∀ u, ∀ c ∈ Lib.decDigits u, c ≠ 32 := fun u c hc e => by
    have := W.dec_digits u c hc
    rw [e] at this
    exact absurd this (by decide)
  intro c hc
  rcases Int.lt_or_le n 0 with h | h
  · rw [W.itoa_minus h] at hc
    rcases List.mem_cons.1 hc with rfl | hc
    · decide
    · exact hd _ c hc
  · rw [W.itoa_pos h] at hc
    exact hd _ c hc
theorem nameAt_all {l : List (List UInt8)} {p : List UInt8 → Bool} (h : l.all p = true) (h0 : p [] = true) (n : Int) : p (A.nameAt l n) = true := by
  unfold A.nameAt
  split
  · rcases Nat.lt_or_ge n.toNat l.length with hlt | hge
    · rw [A.getD_at hlt]
      exact List.all_eq_true.1 h _ (List.getElem_mem hlt)
    · rw [A.getD_past hge]; exact h0
  · exact h0
def noSp (s : List UInt8) : Bool := s.all fun c => decide (c ≠ 32)
theorem noSp_mem {s : List UInt8} (h : noSp s = true) : ∀ c ∈ s, c ≠ 32 := fun c hc => by simpa using List.all_eq_true.1 h c hc
theorem word_no (k n : Int) : ∀ c ∈ word k n, c ≠ 32 := by
  unfold word
  split
  · apply noSp_mem
    unfold W.letC
    repeat' split
    all_goals decide
  · split
    · exact noSp_mem (nameAt_all (p := noSp) (by decide) (by decide) n)
    · split
      · exact noSp_mem (nameAt_all (p := noSp) (by decide) (by decide) n)
      · exact itoa_no n
theorem name_no (op : Int) : ∀ c ∈ (rowAt op).name, c ≠ 32 := noSp_mem (rowAt_all (p := fun r => noSp r.name) (by decide) (by decide) op)
theorem part_sp (k n : Int) : partL k n = [] ∨ ∃ r, partL k n = 32 :: r := by
  unfold partL
  split
  · exact .inl rfl
  · exact .inr ⟨_, rfl⟩
theorem names_inj (l : List (List UInt8)) (hnd : (List.range l.length).all (fun i => (List.range l.length).all fun j => decide (l.getD i [] = l.getD j [] → i = j)) = true) {a b : Int} (ha : 0 ≤ a ∧ a < l.length) (hb : 0 ≤ b ∧ b < l.length) (h : A.nameAt l a = A.nameAt l b) : a = b := by
  unfold A.nameAt at h
  rw [if_pos ha.1, if_pos hb.1] at h
  have h1 := List.all_eq_true.1 hnd a.toNat (List.mem_range.2 (by omega))
  have h2 := List.all_eq_true.1 h1 b.toNat (List.mem_range.2 (by omega))
  have := of_decide_eq_true h2 h
  omega
theorem word_inj {k a b : Int} (hk : k ≠ 0) (ha : inK k a = true) (hb : inK k b = true) (h : word k a = word k b) : a = b := by
  have xa := in_bounds ha
  have xb := in_bounds hb
  have ya := of_decide_eq_true ha
  have yb := of_decide_eq_true hb
  unfold word at h
  split at h
  · rename_i hk2
    have z1 : 1 ≤ a ∧ a ≤ 4 ∧ 1 ≤ b ∧ b ≤ 4 := by unfold lo hi at ya yb; rcases hk2 with rfl | rfl <;> simp at ya yb <;> omega
    obtain ⟨p1, p2, p3, p4⟩ := z1
    have va : a = 1 ∨ a = 2 ∨ a = 3 ∨ a = 4 := by omega
    have vb : b = 1 ∨ b = 2 ∨ b = 3 ∨ b = 4 := by omega
    rcases va with rfl | rfl | rfl | rfl <;> rcases vb with rfl | rfl | rfl | rfl <;> first | rfl | (exact absurd h (by decide))
  · split at h
    · rename_i h1 h2
      subst h2
      exact names_inj A.binNs (by decide +kernel) (by unfold lo hi at ya; simp at ya; exact ⟨ya.1, by have : A.binNs.length = 14 := rfl; omega⟩) (by unfold lo hi at yb; simp at yb; exact ⟨yb.1, by have : A.binNs.length = 14 := rfl; omega⟩) h
    · split at h
      · rename_i h1 h2 h3
        subst h3
        exact names_inj A.unNs (by decide +kernel) (by unfold lo hi at ya; simp at ya; exact ⟨ya.1, by have : A.unNs.length = 9 := rfl; omega⟩) (by unfold lo hi at yb; simp at yb; exact ⟨yb.1, by have : A.unNs.length = 9 := rfl; omega⟩) h
      · exact W.itoa_inj xa.1 xb.1 h
theorem rowsN_nodup : (List.range 30).all (fun i => (List.range 30).all fun j => decide ((rowsL.getD i row0).name = (rowsL.getD j row0).name → i = j)) = true := by decide +kernel
theorem name_inj {op op' : Int} (h1 : isOp op = true) (h2 : isOp op' = true) (h : (rowAt op).name = (rowAt op').name) : op = op' := by
  have x1 := isOp_yes h1
  have x2 := isOp_yes h2
  unfold rowAt at h
  rw [if_pos h1, if_pos h2] at h
  have e1 := List.all_eq_true.1 rowsN_nodup op.toNat (List.mem_range.2 (by omega))
  have e2 := List.all_eq_true.1 e1 op'.toNat (List.mem_range.2 (by omega))
  have := of_decide_eq_true e2 h
  omega
theorem part_cancel {k a b : Int} {s t : List UInt8} (ha : inK k a = true) (hb : inK k b = true) (hs : s = [] ∨ ∃ r, s = 32 :: r) (ht : t = [] ∨ ∃ r, t = 32 :: r) (h : partL k a ++ s = partL k b ++ t) : a = b ∧ s = t := by
  unfold partL at h
  split at h
  · rename_i h0
    rw [(in_bounds ha).2.2 h0, (in_bounds hb).2.2 h0]; exact ⟨rfl, by simpa using h⟩
  · rename_i h0
    simp only [List.cons_append, List.cons.injEq, true_and] at h
    obtain ⟨h1, h2⟩ := split_at (word_no k a) (word_no k b) hs ht h
    exact ⟨word_inj h0 ha hb h1, h2⟩
theorem text_inj {op a b op' a' b' : Int} (h1 : okI op a b = true) (h2 : okI op' a' b' = true) (h : textI op a b = textI op' a' b') : op = op' ∧ a = a' ∧ b = b' := by
  obtain ⟨o1, a1, b1⟩ := ok_op h1
  obtain ⟨o2, a2, b2⟩ := ok_op h2
  have hsp : ∀ k a k' b, (partL k a ++ partL k' b = [] ∨ ∃ r, partL k a ++ partL k' b = 32 :: r) := fun k a k' b => by
    rcases part_sp k a with e | ⟨r, e⟩
    · rw [e]; exact part_sp k' b
    · rw [e]; exact .inr ⟨_, rfl⟩
  unfold textI at h
  obtain ⟨e1, h⟩ := split_at (name_no op) (name_no op') (hsp _ _ _ _) (hsp _ _ _ _) h
  have e1 := name_inj o1 o2 e1
  subst e1
  obtain ⟨e2, h2⟩ := part_cancel a1 a2 (part_sp _ _) (part_sp _ _) h
  have h' : partL (rowAt op).kb b ++ [] = partL (rowAt op).kb b' ++ [] := by simpa using h2
  obtain ⟨e3, _⟩ := part_cancel b1 b2 (.inl rfl) (.inl rfl) h'
  exact ⟨rfl, e2, e3⟩

end Go.Proofs.YtpkcjokkadfhcaaGreatDoor.O

namespace Go.Proofs.YtpkcjokkadfhcaaGreatDoor.O
open Go.RowKit

theorem own_app {w w1 w2 : World} {v v' : Value} {l m : List UInt8} (hv : V.OwnB w1 (Fresh w) v l) (hk : Keep NoB w w1) (hown : w2.ownsRow 0 5 1 v' (l ++ m).length (V.bvs (l ++ m))) (hg : w1.grownBy w2 v.ownBlock)
    (hat : v'.ownBlock = v.ownBlock ∨ v'.ownBlock = some w1.heap.size) : V.OwnB w2 (Fresh w) v' (l ++ m) ∧ Keep NoB w w2 := by
  refine ⟨⟨hown, fun g e => ?_⟩, hk.grown hg (fun g e hlt => by have := hv.2 g e; unfold Fresh at this; omega)⟩
  rcases hat with h | h
  · rw [h] at e; exact hv.2 g e
  · rw [h] at e
    injection e with e
    subst e
    exact hk.size
theorem own_keep {w w1 w2 : World} {v : Value} {l : List UInt8} (hv : V.OwnB w1 (Fresh w) v l) (hk : Keep NoB w1 w2) : V.OwnB w2 (Fresh w) v l := hv.keep hk (fun _ _ => id)

theorem nat_of {k n : Int} (h1 : k ≠ 1) (h : inK k n = true) : ∃ m : Nat, n = (m : Int) ∧ m ≤ 511 := by
  have := (in_bounds h).2.1 h1
  exact ⟨n.toNat, by omega, by omega⟩
theorem wrap_u64 {m : Nat} (h : m ≤ 511) : IntKind.u64.wrap (m : Int) = (m : Int) := by simp [IntKind.wrap, IntKind.bits, IntKind.signed]; omega

theorem kind_one (op : Int) : (rowAt op).ka = 1 → (rowAt op).kb = 0 := by
  have := rowAt_all (p := fun r => decide (r.ka = 1 → r.kb = 0)) (by decide) (by decide) op
  exact of_decide_eq_true this
theorem kind_two (op : Int) : (rowAt op).kb ≠ 1 := by
  have := rowAt_all (p := fun r => decide (r.kb ≠ 1)) (by decide) (by decide) op
  simpa using this

set_option maxHeartbeats 2000000 in
theorem rbytes_any (op a b : Int) (w : World) (hok : okI op a b = true) :
    Calls Tryz.prog 43 #[instV op a b] w fun e w' => ∃ v, e = .returned v ∧ V.OwnB w' (Fresh w) v (bytesI op a b) ∧ Keep NoB w w' := by
  obtain ⟨ho, hA, hB⟩ := ok_op hok
  have hb := isOp_yes ho
  obtain ⟨o, rfl⟩ := Int.eq_ofNat_of_zero_le hb.1
  have hwo := wrap_u64 (m := o) (by omega)
  have HO := Lib.hid (fun w => V.refnum_any o w (by show _ < _; omega))
  have HK := Lib.hid (fun w => rkinds_any (o : Int) w)
  have hkk := kinds_ok (o : Int)
  have hkn := kinds_none (o : Int)
  have HX : Hid (bytesI o a b = V.encL o ++ (encP (rowAt o).ka a ++ encP (rowAt o).kb b)) := rfl
  have hl1 := V.encL_len o
  have hk1 := kind_one (o : Int)
  have hkb := kind_two (o : Int)
  clear ho hok hb
  generalize (rowAt (o : Int)).ka = ka at *
  generalize (rowAt (o : Int)).kb = kb at *
  have bx0 := Blk.new w 23 #[.int .i64 o, .int .i64 a, .int .i64 b]
  have gK := (Keep.refl NoB w).alloc (.cells #[.int .i64 o, .int .i64 a, .int .i64 b] 23)
  by_cases h0 : ka = 0
  · have h00 := hkn h0
    subst h0 h00
    have HX2 : Hid (bytesI o a b = V.encL o) := by show _ = _; rw [HX.out]; simp [encP_0]
    clear HX hA hB hkk hkn hk1 hkb
    go_enter Tryz.func43, Tryz.ntmps43
    go_wp2_with fail
    refine (HO.out _).mono ?_
    rintro e w1 ⟨v, rfl, hv, k1⟩
    obtain ⟨x0, x1, x2⟩ := blk_inst (bx0.keep k1 id)
    go_wp2_with fail
    refine (HK.out _).mono ?_
    rintro e w2 ⟨rfl, rfl⟩
    go_wp2
    go_ret
    rw [HX2.out]
    exact ⟨v, rfl, hv.mono (fun k hk _ => by unfold Fresh at hk ⊢; simp at hk; omega), keepN gK k1⟩
  · have q0 : decide (0 < ka) = true := by rw [decide_eq_true_iff]; omega
    by_cases h1 : ka = 1
    · subst h1
      have h00 := hk1 rfl
      subst h00
      have HX2 : Hid (bytesI o a b = V.encL o ++ V.encL (V.zig a)) := by show _ = _; rw [HX.out]; unfold encP; simp
      have hb1 := in_bounds hA
      have HZ := Lib.hid (fun w => V.rzig_any a w hb1.1.1 hb1.1.2)
      have HN := Lib.hid (fun w => V.refnum_any (V.zig a) w (V.zig_lt a hb1.1.1 hb1.1.2))
      have hl2 := V.encL_len (V.zig a)
      clear HX hA hB hkk hkn hk1 hb1 h0
      go_enter Tryz.func43, Tryz.ntmps43
      go_wp2_with fail
      refine (HO.out _).mono ?_
      rintro e w1 ⟨v, rfl, hv, k1⟩
      have bx := bx0.keep k1 id
      have hv : V.OwnB w1 (Fresh w) v (V.encL o) := hv.mono (fun k hk _ => by unfold Fresh at hk ⊢; simp at hk; omega)
      replace gK := keepN gK k1
      obtain ⟨x0, x1, x2⟩ := blk_inst bx
      go_wp2_with fail
      refine (HK.out _).mono ?_
      rintro e w2 ⟨rfl, rfl⟩
      go_wp2_with fail
      refine (HZ.out _).mono ?_
      rintro e w2 ⟨rfl, rfl⟩
      go_wp2_with fail
      refine (HN.out _).mono ?_
      rintro e w3 ⟨v2, rfl, hv2, k2⟩
      obtain ⟨A2, c2, rfl, _, hr2, _, _⟩ := hv2.form
      have hv3 := own_keep hv k2
      replace gK := keepN gK k2
      go_wp2_with (at_builtin; refine V.wpList_append_rd _ rfl _ _ rfl v (V.encL o) (V.encL (V.zig a)) A2 c2 rfl hv3.1 rfl hr2 (by omega) ?_; intro v' w4 hown' hg hat)
      go_ret
      rw [HX2.out]
      have := own_app hv3 gK hown' hg hat
      exact ⟨v', rfl, this.1, this.2⟩
    · have q1 : (ka == 1) = false := by rw [beq_eq_false_iff_ne]; exact h1
      obtain ⟨m, rfl, hm⟩ := nat_of h1 hA
      have hwm := wrap_u64 hm
      have HN := Lib.hid (fun w => V.refnum_any m w (by show _ < _; omega))
      have hl2 := V.encL_len m
      have e1 : encP ka (m : Int) = V.encL m := by unfold encP; rw [if_neg h0, if_neg h1]; simp
      by_cases h2 : kb = 0
      · subst h2
        have HX2 : Hid (bytesI o (m : Int) b = V.encL o ++ V.encL m) := by show _ = _; rw [HX.out, e1, encP_0]; simp
        clear HX hA hB hkk hkn hk1 h0 h1 e1 hm
        go_enter Tryz.func43, Tryz.ntmps43
        go_wp2_with fail
        refine (HO.out _).mono ?_
        rintro e w1 ⟨v, rfl, hv, k1⟩
        have bx := bx0.keep k1 id
        have hv : V.OwnB w1 (Fresh w) v (V.encL o) := hv.mono (fun k hk _ => by unfold Fresh at hk ⊢; simp at hk; omega)
        replace gK := keepN gK k1
        obtain ⟨x0, x1, x2⟩ := blk_inst bx
        go_wp2_with fail
        refine (HK.out _).mono ?_
        rintro e w2 ⟨rfl, rfl⟩
        go_wp2_with fail
        refine (HN.out _).mono ?_
        rintro e w3 ⟨v2, rfl, hv2, k2⟩
        obtain ⟨A2, c2, rfl, _, hr2, _, _⟩ := hv2.form
        have hv3 := own_keep hv k2
        replace gK := keepN gK k2
        go_wp2_with (at_builtin; refine V.wpList_append_rd _ rfl _ _ rfl v (V.encL o) (V.encL m) A2 c2 rfl hv3.1 rfl hr2 (by omega) ?_; intro v' w4 hown' hg hat)
        go_ret
        rw [HX2.out]
        have := own_app hv3 gK hown' hg hat
        exact ⟨v', rfl, this.1, this.2⟩
      · have hkb1 : kb ≠ 1 := hkb
        obtain ⟨n, rfl, hn⟩ := nat_of hkb1 hB
        have hwn := wrap_u64 hn
        have q2 : decide (0 < kb) = true := by rw [decide_eq_true_iff]; omega
        have HN2 := Lib.hid (fun w => V.refnum_any n w (by show _ < _; omega))
        have hl3 := V.encL_len n
        have e2 : encP kb (n : Int) = V.encL n := by unfold encP; rw [if_neg h2, if_neg hkb1]; simp
        have HX2 : Hid (bytesI o (m : Int) (n : Int) = (V.encL o ++ V.encL m) ++ V.encL n) := by show _ = _; rw [HX.out, e1, e2]; simp
        clear HX hA hB hkk hkn hk1 h0 h1 e1 e2 hm hn h2 hkb hkb1
        go_enter Tryz.func43, Tryz.ntmps43
        go_wp2_with fail
        refine (HO.out _).mono ?_
        rintro e w1 ⟨v, rfl, hv, k1⟩
        have bx := bx0.keep k1 id
        have hv : V.OwnB w1 (Fresh w) v (V.encL o) := hv.mono (fun k hk _ => by unfold Fresh at hk ⊢; simp at hk; omega)
        replace gK := keepN gK k1
        obtain ⟨x0, x1, x2⟩ := blk_inst bx
        go_wp2_with fail
        refine (HK.out _).mono ?_
        rintro e w2 ⟨rfl, rfl⟩
        go_wp2_with fail
        refine (HN.out _).mono ?_
        rintro e w3 ⟨v2, rfl, hv2, k2⟩
        obtain ⟨A2, c2, rfl, _, hr2, _, _⟩ := hv2.form
        have hv3 := own_keep hv k2
        have bx2 := bx.keep k2 id
        replace gK := keepN gK k2
        clear x0 x1 x2
        go_wp2_with (at_builtin; refine V.wpList_append_rd _ rfl _ _ rfl v (V.encL o) (V.encL m) A2 c2 rfl hv3.1 rfl hr2 (by omega) ?_; intro v' w4 hown' hg hat; have hap := own_app hv3 gK hown' hg hat; have hne : some w.heap.size ≠ v.ownBlock := (hv3.not_blk bx2 (by decide)).symm; have bx4 := bx2.grown hg hne; obtain ⟨x0, x1, x2⟩ := blk_inst bx4)
        go_wp2_with fail
        refine (HN2.out _).mono ?_
        rintro e w5 ⟨v5, rfl, hv5, k5⟩
        obtain ⟨A5, c5, rfl, _, hr5, _, _⟩ := hv5.form
        have hv6 := own_keep hap.1 k5
        have gK6 := keepN hap.2 k5
        go_wp2_with (at_builtin; refine V.wpList_append_rd _ rfl _ _ rfl v' (V.encL o ++ V.encL m) (V.encL n) A5 c5 rfl hv6.1 rfl hr5 (by simp; omega) ?_; intro v7 w7 hown7 hg7 hat7)
        go_ret
        rw [HX2.out]
        have := own_app hv6 gK6 hown7 hg7 hat7
        exact ⟨v7, rfl, this.1, this.2⟩

set_option maxHeartbeats 2000000 in
theorem rencode_any (op a b : Int) (w : World) (ha : I64 a) (hb : I64 b) :
    Calls Tryz.prog 9 #[instV op a b] w fun e w' => ∃ v, e = .returned (.tuple #[v, .int .i64 (chk op a b)]) ∧ V.OwnB w' (Fresh w) v (encI op a b) ∧ Keep NoB w w' := by
  have bx0 := Blk.new w 23 #[.int .i64 op, .int .i64 a, .int .i64 b]
  have gK := (Keep.refl NoB w).alloc (.cells #[.int .i64 op, .int .i64 a, .int .i64 b] 23)
  have HC := Lib.hid (fun w => rcheck_any op a b w ha hb)
  clear ha hb
  cases hok : okI op a b
  · have HX : Hid (encI op a b = [] ∧ chk op a b = 40) := ⟨by unfold encI; rw [if_neg (by rw [hok]; decide)], by unfold chk; rw [if_neg (by rw [hok]; decide)]⟩
    rw [HX.out.2] at HC ⊢
    clear hok
    go_enter Tryz.func9, Tryz.ntmps9
    go_wp2_with fail
    refine (HC.out _).mono ?_
    rintro e w1 ⟨rfl, k1⟩
    go_wp2
    go_ret2
    rw [HX.out.1]
    exact ⟨_, rfl, V.OwnB.nil _ _, keepN gK k1⟩
  · have HX : Hid (encI op a b = bytesI op a b ∧ chk op a b = 0) := ⟨by unfold encI; rw [if_pos hok], by unfold chk; rw [if_pos hok]⟩
    have HB := Lib.hid (fun w => rbytes_any op a b w hok)
    rw [HX.out.2] at HC ⊢
    clear hok
    go_enter Tryz.func9, Tryz.ntmps9
    go_wp2_with fail
    refine (HC.out _).mono ?_
    rintro e w1 ⟨rfl, k1⟩
    obtain ⟨x0, x1, x2⟩ := blk_inst (bx0.keep k1 id)
    go_wp2_with fail
    refine (HB.out _).mono ?_
    rintro e w2 ⟨v, rfl, hv, k2⟩
    go_wp2
    go_ret2
    rw [HX.out.1]
    have hs := (keepN gK k1).size
    exact ⟨v, rfl, hv.mono (fun k hk _ => by unfold Fresh at hk ⊢; omega), keepN (keepN gK k1) k2⟩

end Go.Proofs.YtpkcjokkadfhcaaGreatDoor.O

namespace Go.Proofs.YtpkcjokkadfhcaaGreatDoor.V
open Go.RowKit

/-- A part of the bytes that a slice reads as. -/
theorem Rd.part {w : World} {A : Option Addr} {l : List UInt8} {c k m : Nat} (h : Rd w A l) (hc : l.length ≤ c) : Rd w (if c = k then A else A.map (·.add k)) ((l.drop k).take m) := fun h0 => by
  have h0' : k < l.length ∧ 0 < m := by simp at h0; omega
  obtain ⟨ad, rfl, hcell⟩ := h (by omega)
  rw [if_neg (by omega)]
  refine ⟨ad.add k, rfl, fun j u hu => ?_⟩
  rw [add_add]
  have hj : j < ((l.drop k).take m).length := by
    have := List.getElem?_eq_some_iff.1 hu
    obtain ⟨h1, _⟩ := this
    simpa using h1
  have hjl : k + j < l.length := by simp at hj; omega
  apply hcell
  rw [← hu]
  simp at hj
  simp [hj]
  exact ⟨_, List.getElem?_eq_getElem hjl, rfl⟩

/-- The address of a part is in the same block. -/
theorem part_block {A : Option Addr} {c k : Nat} {ad : Addr} (h : (if c = k then A else A.map (·.add k)) = some ad) : ∃ ad', A = some ad' ∧ ad.block = ad'.block := by
  split at h
  · exact ⟨ad, h, rfl⟩
  · cases A with
    | none => simp at h
    | some a => simp at h; exact ⟨a, rfl, by rw [← h, block_add]⟩

theorem add_at (w : World) (sb n0 : Nat) (A : Option Addr) (b : List UInt8) (c n : Nat) (hn : n = b.length) (hs : Blk w sb 180 #[.int .u64 n0]) (hr : Rd w A b) (hA : ∀ ad, A = some ad → ad.block ≠ sb) (hlen : b.length ≤ 140737488355328) :
    Calls Tryz.prog 123 #[.pointer (some ⟨sb, 0, none⟩), .slice A n c] w fun e w' => e = .returned (.tuple #[]) ∧ Blk w' sb 180 #[.int .u64 (acc n0 b)] ∧ Keep (fun k => k = sb) w w' := by
  subst hn; exact add_any w sb n0 A b c hs hr hA hlen
/-- What look leaves: too few bytes; or they were handed on. -/
def Looked (w : World) (l : List UInt8) (fr : Nat) (S : Int) (Q : List UInt8 → World → Prop) (e : Ending) (w' : World) : Prop :=
  ((l.length : Int) - fr < S ∧ e = .returned (.int .i64 10) ∧ Keep NoB w w') ∨
  (S ≤ (l.length : Int) - fr ∧ e = .returned (.int .i64 0) ∧ Q ((l.drop fr).take S.toNat) w')
/-- The sum holds the bytes; nothing else has turned. -/
def Summed (w : World) (sb n0 : Nat) (b : List UInt8) (w' : World) : Prop := Blk w' sb 180 #[.int .u64 (acc n0 b)] ∧ Keep (fun k => k = sb) w w'
set_option maxRecDepth 100000 in
set_option maxHeartbeats 1000000 in
theorem look_add (w : World) (br sb n0 at_ fr : Nat) (S : Int) (A : Option Addr) (l : List UInt8) (c : Nat) (hb : Blk w br 91 #[.slice A l.length c, .int .i64 at_]) (hr : Rd w A l) (hc : l.length ≤ c) (hA : ∀ ad, A = some ad → ad.block ≠ sb)
    (hs : Blk w sb 180 #[.int .u64 n0]) (hlen : l.length ≤ 140737488355328) (hcm : c ≤ 9223372036854775807) (hfr : fr ≤ l.length) (hS0 : 0 ≤ S) (hS1 : S ≤ 9223372036854775807) :
    Calls Tryz.prog 122 #[.pointer (some ⟨br, 0, none⟩), .int .i64 fr, .agg #[.int .i64 S, .func (.func 123) #[.pointer (some ⟨sb, 0, none⟩)] #[]]] w (Looked w l fr S (Summed w sb n0)) := by
  have c0 := hb.cell 0
  have c1 := hb.cell 1
  have hlt := hb.lt
  simp at c0 c1
  by_cases hsh : (l.length : Int) - fr < S
  · go_enter Tryz.func122, Tryz.ntmps122
    go_wp2
    go_quiet (fail)
    go_wp2
    go_ret
    exact .inl ⟨hsh, rfl, ((Keep.refl NoB w).alloc _).drewN _⟩
  · obtain ⟨s, rfl⟩ := Int.eq_ofNat_of_zero_le hS0
    have hle : (s : Int) ≤ (l.length : Int) - fr := by omega
    go_enter Tryz.func122, Tryz.ntmps122
    go_wp2
    go_quiet (fail)
    go_wp2
    obtain ⟨wq, hwq⟩ : ∃ wq, (w.alloc (.cells #[.int .i64 s, .func (.func 123) #[.pointer (some ⟨sb, 0, none⟩)] #[]] 184)).drewN nq = wq := ⟨_, rfl⟩
    rw [hwq]
    have hkq : Keep NoB w wq := hwq ▸ ((Keep.refl NoB w).alloc _).drewN nq
    have hbx : Blk wq w.heap.size 184 #[.int .i64 s, .func (.func 123) #[.pointer (some ⟨sb, 0, none⟩)] #[]] := hwq ▸ Blk.new w _ _
    clear hwq
    have hbq := hb.keep hkq id
    have hsq := hs.keep hkq id
    have hrq := (hr.keep hkq (fun _ _ _ => id)).part (c := c) (k := fr) (m := s) hc
    have q0 := hbq.cell 0
    have q1 := hbx.cell 0
    have q2 := hbx.cell 1
    simp at q0 q1 q2
    have hpl : ((l.drop fr).take s).length = s := by simp; omega
    have hA2 : ∀ ad, (if c = fr then A else A.map (·.add fr)) = some ad → ad.block ≠ sb := fun ad e => by
      obtain ⟨ad', e1, e2⟩ := part_block e
      rw [e2]; exact hA ad' e1
    have hcs : (c : Int) ≤ 9223372036854775807 := by omega
    have hs0 : (0 : Int) ≤ (fr : Int) + s := by omega
    have hs1 : (fr : Int) + s ≤ c := by omega
    have hs2 : ((fr : Int) + s).toNat = fr + s := by omega
    have hs3 : IntKind.i64.wrap ((fr : Int) + s) = (fr : Int) + s := IntWalk.i64_in _ (by omega)
    go_still_tail 12, (by kernel_rfl)
    change wpList _ _ _ _ _ wq.drew
    go_wp2_with (go_at_call 123; refine (add_at wq.drew sb n0 _ ((l.drop fr).take s) _ s hpl.symm hsq hrq hA2 (by omega)).mono ?_; rintro e w2 ⟨rfl, hs2, hk2⟩)
    all_goals go_ret
    all_goals exact .inr ⟨hle, rfl, hs2, ((hkq.mono (fun _ hf _ => hf.elim)).drew).trans hk2 (fun _ h _ => h)⟩

end Go.Proofs.YtpkcjokkadfhcaaGreatDoor.V

namespace Go.Proofs.YtpkcjokkadfhcaaGreatDoor.V
open Go.RowKit

/-- A Reel at block br that has the bytes l and the place p; all its blocks are of O. -/
def ReelAt (w : World) (br : Nat) (O : Nat → Prop) (l : List UInt8) (p : Nat) : Prop :=
  O br ∧ p ≤ l.length ∧ ∃ A c, Blk w br 91 #[.slice A l.length c, .int .i64 p] ∧ Rd w A l ∧ l.length ≤ c ∧ c ≤ maxLen ∧ ∀ ad, A = some ad → O ad.block ∧ ad.block < w.heap.size

theorem ReelAt.keep {w w' : World} {br p : Nat} {O O' : Nat → Prop} {l : List UInt8} (h : ReelAt w br O l p) (hk : Keep O' w w') (hn : ∀ k, O k → ¬ O' k) : ReelAt w' br O l p := by
  obtain ⟨h1, h2, A, c, hb, hr, hc, hm, hA⟩ := h
  exact ⟨h1, h2, A, c, hb.keep hk (hn _ h1), hr.keep hk (fun ad e _ => hn _ (hA ad e).1), hc, hm, fun ad e => ⟨(hA ad e).1, Nat.lt_of_lt_of_le (hA ad e).2 hk.size⟩⟩
theorem ReelAt.mono {w : World} {br p : Nat} {O O' : Nat → Prop} {l : List UInt8} (h : ReelAt w br O l p) (hO : ∀ k, O k → k < w.heap.size → O' k) : ReelAt w br O' l p := by
  obtain ⟨h1, h2, A, c, hb, hr, hc, hm, hA⟩ := h
  exact ⟨hO _ h1 hb.lt, h2, A, c, hb, hr, hc, hm, fun ad e => ⟨hO _ (hA ad e).1 (hA ad e).2, (hA ad e).2⟩⟩

/-- What next hands back. -/
def NxR (r : Nat × Nat × Nat) : Ending := .returned (.tuple #[.int .u64 r.1, .int .i64 r.2.1, .int .i64 r.2.2])

theorem drop_cons {l : List UInt8} {p : Nat} (h : p < l.length) : l.drop p = l[p] :: l.drop (p + 1) := List.drop_eq_getElem_cons h

set_option maxRecDepth 100000 in
set_option maxHeartbeats 1000000 in
theorem next_any (w : World) (br : Nat) (O : Nat → Prop) (l : List UInt8) (p : Nat) (h : ReelAt w br O l p) (hlen : l.length ≤ 140737488355328) :
    Calls Tryz.prog 103 #[.pointer (some ⟨br, 0, none⟩)] w fun e w' => e = NxR (nx (l.drop p)) ∧ Keep NoB w w' := by
  obtain ⟨_, hp, A, c, hb, hr, hc, hm, hA⟩ := h
  unfold maxLen at hm
  have hlt := hb.lt
  have q0 := hb.cell 0
  have q1 := hb.cell 1
  simp at q0 q1
  have hA1 : ∀ ad, A = some ad → ad.block ≠ w.heap.size := fun ad e => by have := (hA ad e).2; omega
  have hA2 : ∀ ad, A = some ad → ad.block ≠ w.heap.size + 1 := fun ad e => by have := (hA ad e).2; omega
  have hk0 : Keep NoB w ((w.alloc (.cells #[.int .u64 0] 180)).alloc (.cells #[.int .u64 0] 180)) := ((Keep.refl NoB w).alloc _).alloc _
  have hb0 := hb.keep hk0 id
  have hr0 := hr.keep hk0 (fun _ _ _ => id)
  have hs0 := (Blk.new w 180 #[.int .u64 0]).alloc (.cells #[.int .u64 0] 180)
  have hs1 := Blk.new (w.alloc (.cells #[.int .u64 0] 180)) 180 #[.int .u64 0]
  rw [World.size_alloc] at hs1
  go_enter Tryz.func103, Tryz.ntmps103
  go_wp2_with fail
  refine (look_add _ br w.heap.size 0 p p 1 A l c hb0 hr0 hc hA1 hs0 hlen hm hp (by omega) (by omega)).mono ?_
  rintro e w1 (⟨hsh, rfl, hk1⟩ | ⟨hle, rfl, hsum1, hk1⟩)
  · have hd : l.drop p = [] := List.drop_eq_nil_of_le (by omega)
    go_wp2
    go_ret3
    exact ⟨by rw [hd]; rfl, hk0.trans hk1 (fun _ hf _ => hf.elim)⟩
  · have hpl : p < l.length := by omega
    obtain ⟨b, hbd⟩ : ∃ b, b = l[p] := ⟨_, rfl⟩
    have hdc := drop_cons hpl
    rw [← hbd] at hdc
    have hb256 := b.toNat_lt
    have hsb : Blk w1 w.heap.size 180 #[.int .u64 (b.toNat : Nat)] := by
      have e : acc 0 (List.take (Int.toNat 1) (l.drop p)) = b.toNat := by rw [hdc]; simp [acc]
      rw [e] at hsum1; exact hsum1
    have hne : ¬ br = w.heap.size := by omega
    have hb1 := hb0.keep hk1 hne
    have hr1 := hr0.keep hk1 (fun ad e _ => hA1 ad e)
    have hs2 := hs1.keep hk1 (by omega)
    have hk01 := hk0.trans hk1 (fun k e hk => by omega)
    obtain ⟨m, hm'⟩ : ∃ m, w.heap.size = m := ⟨_, rfl⟩
    rw [hm'] at hsb hs2 hA2 ⊢
    have hmw : w.heap.size ≤ m := by omega
    clear hsum1 hk1 hb0 hr0 hs0 hs1 hk0 hA1 hb hr hA q0 q1 hbd hm'
    have q0 := hb1.cell 0
    have q1 := hb1.cell 1
    have q2 := hsb.cell 0
    simp at q0 q1 q2
    go_wp2_with fail
    refine (told_any b.toNat _ (by omega)).mono ?_
    rintro e w2 ⟨rfl, rfl⟩
    obtain ⟨t1, t9, _⟩ := td_rng b.toNat (by omega)
    go_wp2_with fail
    refine (look_add _ br (m + 1) 0 p p (td b.toNat) A l c hb1 hr1 hc hA2 hs2 hlen hm hp (by omega) (by omega)).mono ?_
    rintro e w2 (⟨hsh, rfl, hk2⟩ | ⟨hle2, rfl, hsum2, hk2⟩)
    · go_wp2
      go_ret3
      refine ⟨?_, (hk01.trans hk2 (fun _ hf _ => hf.elim))⟩
      have hx : nx (l.drop p) = (0, 0, 10) := by
        rw [hdc, nx_cons, if_pos (by rw [List.length_drop]; omega)]
      rw [hx]; rfl
    · have q3 := hsum2.cell 0
      simp at q3
      have hkk := hk01.trans hk2 (O := NoB) (fun k e hk => by omega)
      go_wp2_with fail
      have hmk := mk_lt (td b.toNat)
      have hq := fun (n : Nat) => Calls.quiet_of_same ((mark_any (td b.toNat) (w2.drewN n) t1 t9).mono fun e w' h => (⟨h.1, h.2.symm⟩ : e = .returned (.int .u8 (mk (td b.toNat))) ∧ w' = w2.drewN n))
      obtain ⟨t, ht⟩ : ∃ t, td b.toNat = t := ⟨_, rfl⟩
      rw [ht] at t1 t9 hmk hq hsum2 q3 hle2 ⊢
      have HT := Lib.hid ht
      clear ht
      have htl : t ≤ (l.drop (p + 1)).length + 1 := by rw [List.length_drop]; omega
      have HF := Lib.hid (nx_form b (l.drop (p + 1)) t HT.out htl)
      have e1 : IntKind.i64.wrap ((t : Int) - 1) = (t : Int) - 1 := IntWalk.i64_in _ (by omega)
      have e2 : IntKind.i64.wrap (8 * ((t : Int) - 1)) = 8 * ((t : Int) - 1) := IntWalk.i64_in _ (by omega)
      have e3 : (0 : Int) ≤ 8 * ((t : Int) - 1) := by omega
      have e4 : (8 * ((t : Int) - 1)).toNat = 8 * (t - 1) := by omega
      have e5 : IntKind.u64.wrap ((mk t : Nat) : Int) = ((mk t : Nat) : Int) := by rw [IntKind.wrap_u64]; omega
      go_quiet ((go_at_call 100; exact hq _))
      clear e1 e2 e3 e4 e5 hq
      rw [HF.out]
      generalize hD : dc t ((b :: l.drop (p + 1)).take t) = D at *
      have HD := Lib.hid hD
      clear hD
      have hnx : Hid (nx (l.drop p) = if wd D < t then (0, 0, 11) else (D, t, 0)) := by
        show nx (l.drop p) = _
        rw [hdc, nx_cons, HT.out, HD.out, if_neg (by omega)]
      go_wp2_with fail
      refine (width_any D _).mono ?_
      rintro e w3 ⟨rfl, rfl⟩
      by_cases hwd : wd D < t
      · go_wp2
        go_ret3
        exact ⟨by rw [hnx.out, if_pos hwd]; rfl, hkk.drewN _⟩
      · go_wp2
        go_ret3
        exact ⟨by rw [hnx.out, if_neg hwd]; rfl, hkk.drewN _⟩

end Go.Proofs.YtpkcjokkadfhcaaGreatDoor.V

namespace Go.Proofs.YtpkcjokkadfhcaaGreatDoor.V
open Go.RowKit

/-- The number that comes next, if it is at most so great. -/
def bnd (r : Nat × Nat × Nat) (most : Nat) : Nat × Nat × Nat := if r.2.2 ≠ 0 then (0, 0, r.2.2) else if most < r.1 then (0, 0, 12) else r

theorem nx_err (l : List UInt8) : (nx l).2.2 ≠ 0 → (nx l).1 = 0 ∧ (nx l).2.1 = 0 := by
  intro h
  rcases l with _ | ⟨b, r⟩
  · exact ⟨rfl, rfl⟩
  · rw [nx_cons] at h ⊢
    split
    · exact ⟨rfl, rfl⟩
    · split
      · exact ⟨rfl, rfl⟩
      · rw [if_neg ‹_›, if_neg ‹_›] at h; exact absurd rfl h
theorem nx_width (l : List UInt8) : (nx l).2.1 ≤ l.length ∧ (nx l).2.1 ≤ 9 ∧ (nx l).2.2 ≤ 11 ∧ (nx l).1 < 18446744073709551616 := by
  rcases l with _ | ⟨b, r⟩
  · simp [nx]
  · rw [nx_cons]
    have hb := b.toNat_lt
    have h9 := (td_rng b.toNat (by simpa using hb))
    split
    · simp
    · rename_i hl
      split
      · simp
      · obtain ⟨k, hk⟩ : ∃ k, td b.toNat = k + 1 := ⟨td b.toNat - 1, by omega⟩
        have h2 := (vl_split b (r.take k) (td b.toNat) rfl (by simp; omega)).2.1
        rw [hk] at h2 hl h9 ⊢
        rw [List.take_succ_cons]
        simp only [List.length_cons]
        exact ⟨by omega, by omega, by omega, h2⟩
theorem bnd_width (l : List UInt8) (most : Nat) : (bnd (nx l) most).2.1 ≤ l.length ∧ (bnd (nx l) most).2.1 ≤ 9 ∧ (bnd (nx l) most).1 < 18446744073709551616 ∧ (bnd (nx l) most).2.2 ≤ 12 := by
  have h := nx_width l
  unfold bnd
  split
  · simp; omega
  · split
    · simp
    · omega

set_option maxHeartbeats 400000 in
theorem on_any (w : World) (A : Option Addr) (l : List UInt8) (c : Nat) (hr : Rd w A l) (hb : l.length ≤ 140737488355328) :
    Calls Tryz.prog 10 #[.slice A l.length c] w fun e w' => ∃ br, e = .returned (.pointer (some ⟨br, 0, none⟩)) ∧ ReelAt w' br (Fresh w) l 0 ∧ Keep NoB w w' := by
  go_enter Tryz.func10, Tryz.ntmps10
  go_wp2_with (go_at_call 44; refine (clone_any w A l c hr hb).mono ?_; rintro e w1 ⟨v, rfl, hv1, hk1⟩; obtain ⟨A1, c1, rfl, hc1, hr1, hA1, hm1⟩ := hv1.form)
  go_ret
  refine ⟨w1.heap.size, rfl, ⟨hk1.size, Nat.zero_le _, A1, c1, Blk.new _ _ _, ?_, hc1, hm1, fun ad e => ?_⟩, hk1.alloc _⟩
  · exact hr1.keep ((Keep.refl NoB w1).alloc _) (fun _ _ _ => id)
  · refine ⟨(hA1 ad e).1, ?_⟩
    have := (hv1.1.lt ad.block (by rw [e]; rfl)).2
    simp; omega

set_option maxRecDepth 100000 in
set_option maxHeartbeats 1000000 in
theorem bounded_any (w : World) (br : Nat) (O : Nat → Prop) (l : List UInt8) (p most : Nat) (h : ReelAt w br O l p) (hlen : l.length ≤ 140737488355328) :
    Calls Tryz.prog 72 #[.pointer (some ⟨br, 0, none⟩), .int .u64 most] w fun e w' => e = NxR (bnd (nx (l.drop p)) most) ∧ Keep NoB w w' := by
  have hx := nx_width (l.drop p)
  go_enter Tryz.func72, Tryz.ntmps72
  go_wp2_with fail
  refine (next_any w br O l p h hlen).mono ?_
  rintro e w1 ⟨he, hk1⟩
  obtain ⟨⟨n, d, r⟩, hn⟩ : ∃ t, nx (l.drop p) = t := ⟨_, rfl⟩
  rw [hn] at he hx
  have HN := Lib.hid hn
  clear hn
  unfold NxR at he
  subst he
  by_cases hr : r = 0
  · have hr1 : ((r : Int) != 0) = false := by rw [bne_eq_false_iff_eq]; omega
    by_cases hm : most < n
    · go_wp2
      go_ret3
      exact ⟨by rw [HN.out]; unfold bnd NxR; simp [hr, hm], hk1⟩
    · go_wp2
      go_ret3
      exact ⟨by rw [HN.out]; unfold bnd NxR; simp [hr, hm], hk1⟩
  · have hr1 : ((r : Int) != 0) = true := by rw [bne_iff_ne]; omega
    go_wp2
    go_ret3
    exact ⟨by rw [HN.out]; unfold bnd NxR; simp [hr], hk1⟩

end Go.Proofs.YtpkcjokkadfhcaaGreatDoor.V

namespace Go.Proofs.YtpkcjokkadfhcaaGreatDoor.V
open Go.RowKit

/-- The Reel stands at another place; nothing else has turned. -/
theorem ReelAt.moved {w w1 : World} {br p : Nat} {O : Nat → Prop} {l : List UInt8} {q : Nat} {Q : Int} (h : ReelAt w br O l p) (hk : Keep NoB w w1) (hq : q ≤ l.length) (hQ : Q = q) :
    ReelAt (w1.setCell ⟨br, 1, none⟩ (.int .i64 Q)) br O l q ∧ Keep (fun k => k = br) w (w1.setCell ⟨br, 1, none⟩ (.int .i64 Q)) := by
  subst hQ
  obtain ⟨h1, h2, A, c, hb, hr, hc, hm, hA⟩ := h
  have hb1 := hb.keep hk id
  have hk2 : Keep (fun k => k = br) w (w1.setCell ⟨br, 1, none⟩ (.int .i64 q)) := (hk.mono (O' := fun k => k = br) (fun _ hf _ => hf.elim)).setCell (p := ⟨br, 1, none⟩) (fun _ => rfl) _
  refine ⟨⟨h1, hq, A, c, hb1.put 1 _, ?_, hc, hm, fun ad e => ⟨(hA ad e).1, Nat.lt_of_lt_of_le (hA ad e).2 hk2.size⟩⟩, hk2⟩
  intro h0
  obtain ⟨ad, e, hcell⟩ := hr h0
  refine ⟨ad, e, fun j u hu => ?_⟩
  have hcu := hk.cell (hcell j u hu) id
  have hne : (⟨br, 1, none⟩ : Addr) ≠ ad.add j := by
    intro e'
    rw [← e'] at hcu
    have hb2 := hb1.cell 1
    rw [hb2] at hcu
    simp at hcu
    subst hcu
    have := (List.getElem?_eq_some_iff.1 hu)
    obtain ⟨hj, hju⟩ := this
    simp at hju
  exact (World.cell?_setCell_other _ _ _ _ hne).trans hcu

/-- What Number answers, and the place behind it. -/
def NumR (l : List UInt8) (p most : Nat) : Nat × Nat × Nat := ((bnd (nx (l.drop p)) most).1, (bnd (nx (l.drop p)) most).2.2, p + (bnd (nx (l.drop p)) most).2.1)

/-- A reading method's end. -/
def Reads (w : World) (br : Nat) (O : Nat → Prop) (l : List UInt8) (q : Nat) (v : Value) (er : Nat) (e : Ending) (w' : World) : Prop :=
  e = .returned (.tuple #[v, .int .i64 er]) ∧ ReelAt w' br O l q ∧ Keep (fun k => k = br) w w'

theorem bnd_zero (l : List UInt8) (most : Nat) (h : (bnd (nx l) most).2.2 ≠ 0) : (bnd (nx l) most).1 = 0 ∧ (bnd (nx l) most).2.1 = 0 := by
  unfold bnd at h ⊢
  split
  · exact ⟨rfl, rfl⟩
  · rename_i h1
    split
    · exact ⟨rfl, rfl⟩
    · rename_i h2
      rw [if_neg h1, if_neg h2] at h
      exact absurd h h1

theorem ReelAt.cells {w : World} {br p : Nat} {O : Nat → Prop} {l : List UInt8} (h : ReelAt w br O l p) : ∃ A c, Blk w br 91 #[.slice A l.length c, .int .i64 p] ∧ Rd w A l ∧ l.length ≤ c ∧ c ≤ maxLen ∧ ∀ ad, A = some ad → O ad.block ∧ ad.block < w.heap.size := h.2.2

set_option maxRecDepth 100000 in
set_option maxHeartbeats 1000000 in
theorem rnumber_any (w : World) (br : Nat) (O : Nat → Prop) (l : List UInt8) (p most : Nat) (h : ReelAt w br O l p) (hlen : l.length ≤ 140737488355328) :
    Calls Tryz.prog 45 #[.pointer (some ⟨br, 0, none⟩), .int .u64 most] w (Reads w br O l (NumR l p most).2.2 (.int .u64 (NumR l p most).1) (NumR l p most).2.1) := by
  have hx := bnd_width (l.drop p) most
  have hz := bnd_zero (l.drop p) most
  have hp := h.2.1
  rw [List.length_drop] at hx
  have hbd := bounded_any w br O l p most h hlen
  unfold NumR
  obtain ⟨⟨n, d, r⟩, hn⟩ : ∃ t, bnd (nx (l.drop p)) most = t := ⟨_, rfl⟩
  rw [hn] at hx hz hbd ⊢
  clear hn
  dsimp only at hx hz ⊢
  unfold NxR at hbd
  dsimp only at hbd
  have HB := Lib.hid hbd
  clear hbd
  by_cases hr : r = 0
  · subst hr
    clear hz
    go_enter Tryz.func45, Tryz.ntmps45
    go_wp2_with fail
    refine HB.out.mono ?_
    rintro e w1 ⟨rfl, hk1⟩
    have h1 := h.keep hk1 (fun _ _ => id)
    obtain ⟨A, c, hb1, _⟩ := h1.cells
    have q1 := hb1.cell 1
    have f1 := hb1.frozen 1
    simp at q1
    go_wp2
    go_ret2
    exact ⟨rfl, h.moved hk1 (by omega) (by omega)⟩
  · have hr1 : ((r : Int) != 0) = true := by rw [bne_iff_ne]; omega
    obtain ⟨rfl, rfl⟩ := hz hr
    clear hz
    go_enter Tryz.func45, Tryz.ntmps45
    go_wp2_with fail
    refine HB.out.mono ?_
    rintro e w1 ⟨rfl, hk1⟩
    go_wp2
    go_ret2
    exact ⟨rfl, h.keep hk1 (fun _ _ => id), hk1.mono (fun _ hf _ => hf.elim)⟩

/-- What Signed answers, and the place behind it. -/
def SigR (l : List UInt8) (p : Nat) (lo hi : Int) : Int × Nat × Nat :=
  if (nx (l.drop p)).2.2 ≠ 0 then (0, (nx (l.drop p)).2.2, p) else if zag (nx (l.drop p)).1 < lo ∨ hi < zag (nx (l.drop p)).1 then (0, 12, p) else (zag (nx (l.drop p)).1, 0, p + (nx (l.drop p)).2.1)

set_option maxRecDepth 100000 in
set_option maxHeartbeats 1000000 in
theorem rsigned_any (w : World) (br : Nat) (O : Nat → Prop) (l : List UInt8) (p : Nat) (lo hi : Int) (h : ReelAt w br O l p) (hlen : l.length ≤ 140737488355328) :
    Calls Tryz.prog 81 #[.pointer (some ⟨br, 0, none⟩), .int .i64 lo, .int .i64 hi] w (Reads w br O l (SigR l p lo hi).2.2 (.int .i64 (SigR l p lo hi).1) (SigR l p lo hi).2.1) := by
  have hx := nx_width (l.drop p)
  have hp := h.2.1
  rw [List.length_drop] at hx
  have hnx := next_any w br O l p h hlen
  unfold SigR
  obtain ⟨⟨n, d, r⟩, hn⟩ : ∃ t, nx (l.drop p) = t := ⟨_, rfl⟩
  rw [hn] at hx hnx ⊢
  clear hn
  dsimp only at hx ⊢
  unfold NxR at hnx
  dsimp only at hnx
  have HB := Lib.hid hnx
  clear hnx
  by_cases hr : r = 0
  · subst hr
    obtain ⟨hx1, hx2, _, hn64⟩ := hx
    have hz1 := zag_ge n hn64
    have hz2 := zag_le n hn64
    have HZ := Lib.hid (fun w => zag_any n w hn64)
    clear hn64
    rw [if_neg (by simp)]
    by_cases hlo : zag n < lo
    · rw [if_pos (.inl hlo)]
      go_enter Tryz.func81, Tryz.ntmps81
      go_wp2_with fail
      refine HB.out.mono ?_
      rintro e w1 ⟨rfl, hk1⟩
      go_wp2_with fail
      refine (HZ.out _).mono ?_
      rintro e w2 ⟨rfl, rfl⟩
      go_wp2
      go_ret2
      exact ⟨rfl, h.keep hk1 (fun _ _ => id), hk1.mono (fun _ hf _ => hf.elim)⟩
    · by_cases hhi : hi < zag n
      · rw [if_pos (.inr hhi)]
        go_enter Tryz.func81, Tryz.ntmps81
        go_wp2_with fail
        refine HB.out.mono ?_
        rintro e w1 ⟨rfl, hk1⟩
        go_wp2_with fail
        refine (HZ.out _).mono ?_
        rintro e w2 ⟨rfl, rfl⟩
        go_wp2
        go_ret2
        exact ⟨rfl, h.keep hk1 (fun _ _ => id), hk1.mono (fun _ hf _ => hf.elim)⟩
      · rw [if_neg (by omega)]
        go_enter Tryz.func81, Tryz.ntmps81
        go_wp2_with fail
        refine HB.out.mono ?_
        rintro e w1 ⟨rfl, hk1⟩
        have h1 := h.keep hk1 (fun _ _ => id)
        obtain ⟨A, c, hb1, _⟩ := h1.cells
        have q1 := hb1.cell 1
        have f1 := hb1.frozen 1
        simp at q1
        go_wp2_with fail
        refine (HZ.out _).mono ?_
        rintro e w2 ⟨rfl, rfl⟩
        go_wp2
        go_ret2
        exact ⟨rfl, h.moved hk1 (by omega) (by omega)⟩
  · have hr1 : ((r : Int) != 0) = true := by rw [bne_iff_ne]; omega
    rw [if_pos hr]
    go_enter Tryz.func81, Tryz.ntmps81
    go_wp2_with fail
    refine HB.out.mono ?_
    rintro e w1 ⟨rfl, hk1⟩
    go_wp2
    go_ret2
    exact ⟨rfl, h.keep hk1 (fun _ _ => id), hk1.mono (fun _ hf _ => hf.elim)⟩

set_option maxHeartbeats 400000 in
theorem at_any (w : World) (br : Nat) (O : Nat → Prop) (l : List UInt8) (p : Nat) (h : ReelAt w br O l p) :
    Calls Tryz.prog 13 #[.pointer (some ⟨br, 0, none⟩)] w fun e w' => e = .returned (.int .i64 p) ∧ w = w' := by
  obtain ⟨A, c, hb1, _⟩ := h.cells
  have q1 := hb1.cell 1
  simp at q1
  go_enter Tryz.func13, Tryz.ntmps13
  go_wp2
  go_ret
  exact ⟨rfl, rfl⟩

end Go.Proofs.YtpkcjokkadfhcaaGreatDoor.V
