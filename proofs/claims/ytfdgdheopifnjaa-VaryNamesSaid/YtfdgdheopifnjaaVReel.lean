/-
  The Reel: On, bounded, take, Number, Signed, Bytes, Raw, At, End over a Reel in memory. Conditions: no more than 2^47 bytes.
-/
import Derived.Test.YtfdgdheopifnjaaVNext
namespace Go.Proofs.Ytfdgdheopifnjaa
open Go.RowKit

/-- The number that comes next, if it is at most so great. -/
def bnd (r : Nat × Nat × Nat) (most : Nat) : Nat × Nat × Nat := if r.2.2 ≠ 0 then (0, 0, r.2.2) else if most < r.1 then (0, 0, 12) else r

theorem nx_err (l : List UInt8) : (nx l).2.2 ≠ 0 → (nx l).1 = 0 ∧ (nx l).2.1 = 0 := by
  intro h
  rcases l with _ | ⟨b, r⟩
  · exact ⟨rfl, rfl⟩
  · rw [nx_cons] at h ⊢
    split
    · exact ⟨rfl, rfl⟩
    · split
      · exact ⟨rfl, rfl⟩
      · rw [if_neg ‹_›, if_neg ‹_›] at h; exact absurd rfl h
theorem nx_width (l : List UInt8) : (nx l).2.1 ≤ l.length ∧ (nx l).2.1 ≤ 9 ∧ (nx l).2.2 ≤ 11 ∧ (nx l).1 < 18446744073709551616 := by
  rcases l with _ | ⟨b, r⟩
  · simp [nx]
  · rw [nx_cons]
    have hb := b.toNat_lt
    have h9 := (td_rng b.toNat (by simpa using hb))
    split
    · simp
    · rename_i hl
      split
      · simp
      · obtain ⟨k, hk⟩ : ∃ k, td b.toNat = k + 1 := ⟨td b.toNat - 1, by omega⟩
        have h2 := (vl_split b (r.take k) (td b.toNat) rfl (by simp; omega)).2.1
        rw [hk] at h2 hl h9 ⊢
        rw [List.take_succ_cons]
        simp only [List.length_cons]
        exact ⟨by omega, by omega, by omega, h2⟩
theorem bnd_width (l : List UInt8) (most : Nat) : (bnd (nx l) most).2.1 ≤ l.length ∧ (bnd (nx l) most).2.1 ≤ 9 ∧ (bnd (nx l) most).1 < 18446744073709551616 ∧ (bnd (nx l) most).2.2 ≤ 12 := by
  have h := nx_width l
  unfold bnd
  split
  · simp; omega
  · split
    · simp
    · omega

set_option maxHeartbeats 400000 in
theorem on_any (w : World) (A : Option Addr) (l : List UInt8) (c : Nat) (hr : Rd w A l) (hb : l.length ≤ 140737488355328) :
    Calls Try.prog 24 #[.slice A l.length c] w fun e w' => ∃ br, e = .returned (.pointer (some ⟨br, 0, none⟩)) ∧ ReelAt w' br (Fresh w) l 0 ∧ Keep NoB w w' := by
  go_enter Try.func24, Try.ntmps24
  go_wp2_with (go_at_call 44; refine (clone_any w A l c hr hb).mono ?_; rintro e w1 ⟨v, rfl, hv1, hk1⟩; obtain ⟨A1, c1, rfl, hc1, hr1, hA1, hm1⟩ := hv1.form)
  go_ret
  refine ⟨w1.heap.size, rfl, ⟨hk1.size, Nat.zero_le _, A1, c1, Blk.new _ _ _, ?_, hc1, hm1, fun ad e => ?_⟩, hk1.alloc _⟩
  · exact hr1.keep ((Keep.refl NoB w1).alloc _) (fun _ _ _ => id)
  · refine ⟨(hA1 ad e).1, ?_⟩
    have := (hv1.1.lt ad.block (by rw [e]; rfl)).2
    simp; omega

set_option maxRecDepth 100000 in
set_option maxHeartbeats 1000000 in
theorem bounded_any (w : World) (br : Nat) (O : Nat → Prop) (l : List UInt8) (p most : Nat) (h : ReelAt w br O l p) (hlen : l.length ≤ 140737488355328) :
    Calls Try.prog 45 #[.pointer (some ⟨br, 0, none⟩), .int .u64 most] w fun e w' => e = NxR (bnd (nx (l.drop p)) most) ∧ Keep NoB w w' := by
  have hx := nx_width (l.drop p)
  go_enter Try.func45, Try.ntmps45
  go_wp2_with fail
  refine (next_any w br O l p h hlen).mono ?_
  rintro e w1 ⟨he, hk1⟩
  obtain ⟨⟨n, d, r⟩, hn⟩ : ∃ t, nx (l.drop p) = t := ⟨_, rfl⟩
  rw [hn] at he hx
  have HN := Lib.hid hn
  clear hn
  unfold NxR at he
  subst he
  by_cases hr : r = 0
  · have hr1 : ((r : Int) != 0) = false := by rw [bne_eq_false_iff_eq]; omega
    by_cases hm : most < n
    · go_wp2
      go_ret3
      exact ⟨by rw [HN.out]; unfold bnd NxR; simp [hr, hm], hk1⟩
    · go_wp2
      go_ret3
      exact ⟨by rw [HN.out]; unfold bnd NxR; simp [hr, hm], hk1⟩
  · have hr1 : ((r : Int) != 0) = true := by rw [bne_iff_ne]; omega
    go_wp2
    go_ret3
    exact ⟨by rw [HN.out]; unfold bnd NxR; simp [hr], hk1⟩

end Go.Proofs.Ytfdgdheopifnjaa
