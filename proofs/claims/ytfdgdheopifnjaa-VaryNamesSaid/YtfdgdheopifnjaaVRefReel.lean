/-
  The document's own Reel: look: what comes next, as vary's next tells it. Conditions: no more than 2^47 bytes.
-/
import Derived.Test.YtfdgdheopifnjaaVRef
import Derived.Test.YtfdgdheopifnjaaVReel3
namespace Go.Proofs.Ytfdgdheopifnjaa
open Go.RowKit

/-- The document's own Reel at block br that has the bytes l and the place p; all its blocks are of O. -/
def RefAt (w : World) (br : Nat) (O : Nat → Prop) (l : List UInt8) (p : Nat) : Prop :=
  O br ∧ p ≤ l.length ∧ ∃ A c, Blk w br 45 #[.slice A l.length c, .int .i64 p] ∧ Rd w A l ∧ l.length ≤ c ∧ c ≤ maxLen ∧ ∀ ad, A = some ad → O ad.block ∧ ad.block < w.heap.size

theorem RefAt.keep {w w' : World} {br p : Nat} {O O' : Nat → Prop} {l : List UInt8} (h : RefAt w br O l p) (hk : Keep O' w w') (hn : ∀ k, O k → ¬ O' k) : RefAt w' br O l p := by
  obtain ⟨h1, h2, A, c, hb, hr, hc, hm, hA⟩ := h
  exact ⟨h1, h2, A, c, hb.keep hk (hn _ h1), hr.keep hk (fun ad e _ => hn _ (hA ad e).1), hc, hm, fun ad e => ⟨(hA ad e).1, Nat.lt_of_lt_of_le (hA ad e).2 hk.size⟩⟩
theorem RefAt.mono {w : World} {br p : Nat} {O O' : Nat → Prop} {l : List UInt8} (h : RefAt w br O l p) (hO : ∀ k, O k → k < w.heap.size → O' k) : RefAt w br O' l p := by
  obtain ⟨h1, h2, A, c, hb, hr, hc, hm, hA⟩ := h
  exact ⟨hO _ h1 hb.lt, h2, A, c, hb, hr, hc, hm, fun ad e => ⟨hO _ (hA ad e).1 (hA ad e).2, (hA ad e).2⟩⟩

/-- The Reel stands at another place; nothing else has turned. -/
theorem RefAt.moved {w w1 : World} {br p : Nat} {O : Nat → Prop} {l : List UInt8} {q : Nat} {Q : Int} (h : RefAt w br O l p) (hk : Keep NoB w w1) (hq : q ≤ l.length) (hQ : Q = q) :
    RefAt (w1.setCell ⟨br, 1, none⟩ (.int .i64 Q)) br O l q ∧ Keep (fun k => k = br) w (w1.setCell ⟨br, 1, none⟩ (.int .i64 Q)) := by
  subst hQ
  obtain ⟨h1, h2, A, c, hb, hr, hc, hm, hA⟩ := h
  have hb1 := hb.keep hk id
  have hk2 : Keep (fun k => k = br) w (w1.setCell ⟨br, 1, none⟩ (.int .i64 q)) := (hk.mono (O' := fun k => k = br) (fun _ hf _ => hf.elim)).setCell (p := ⟨br, 1, none⟩) (fun _ => rfl) _
  refine ⟨⟨h1, hq, A, c, hb1.put 1 _, ?_, hc, hm, fun ad e => ⟨(hA ad e).1, Nat.lt_of_lt_of_le (hA ad e).2 hk2.size⟩⟩, hk2⟩
  intro h0
  obtain ⟨ad, e, hcell⟩ := hr h0
  refine ⟨ad, e, fun j u hu => ?_⟩
  have hcu := hk.cell (hcell j u hu) id
  have hne : (⟨br, 1, none⟩ : Addr) ≠ ad.add j := by
    intro e'
    rw [← e'] at hcu
    have hb2 := hb1.cell 1
    rw [hb2] at hcu
    simp at hcu
    subst hcu
    have := (List.getElem?_eq_some_iff.1 hu)
    obtain ⟨hj, hju⟩ := this
    simp at hju
  exact (World.cell?_setCell_other _ _ _ _ hne).trans hcu

theorem RefAt.cells {w : World} {br p : Nat} {O : Nat → Prop} {l : List UInt8} (h : RefAt w br O l p) : ∃ A c, Blk w br 45 #[.slice A l.length c, .int .i64 p] ∧ Rd w A l ∧ l.length ≤ c ∧ c ≤ maxLen ∧ ∀ ad, A = some ad → O ad.block ∧ ad.block < w.heap.size := h.2.2

/-- The number as it is summed: the first byte without its mark, and the i - 1 bytes behind it. -/
def sm (b : UInt8) (r : List UInt8) (i : Nat) : Nat := (b.toNat - mk (td b.toNat)) * 256 ^ (i - 1) + vl (r.take (i - 1))

theorem sm_one (b : UInt8) (r : List UInt8) : sm b r 1 = b.toNat - mk (td b.toNat) := by simp [sm, vl]
theorem sm_step (b : UInt8) (r : List UInt8) (i : Nat) (h1 : 1 ≤ i) (h : i - 1 < r.length) : sm b r (i + 1) = 256 * sm b r i + r[i - 1].toNat := by
  obtain ⟨k, rfl⟩ : ∃ k, i = k + 1 := ⟨i - 1, by omega⟩
  unfold sm
  simp only [Nat.add_sub_cancel] at h ⊢
  rw [List.take_succ_eq_append_getElem h, vl_snoc, Nat.pow_succ, Nat.mul_add, Nat.mul_comm (vl _) 256, ← Nat.add_assoc]
  congr 2
  ac_rfl
theorem sm_lt (b : UInt8) (r : List UInt8) (i : Nat) (h1 : 1 ≤ i) (h : i ≤ td b.toNat) : sm b r i < 18446744073709551616 := by
  have hb := b.toNat_lt
  obtain ⟨t1, t9, hm, hr, _, _⟩ := td_rng b.toNat (by simpa using hb)
  have hv := vl_lt (r.take (i - 1))
  have hv2 : 256 ^ (r.take (i - 1)).length ≤ 256 ^ (i - 1) := Nat.pow_le_pow_right (by omega) (by rw [List.length_take]; omega)
  have hp : 256 ^ (i - 1) ≤ 256 ^ (td b.toNat - 1) := Nat.pow_le_pow_right (by omega) (by omega)
  have hs : sm b r i < (b.toNat - mk (td b.toNat) + 1) * 256 ^ (i - 1) := by unfold sm; rw [Nat.add_mul]; omega
  have hx : (b.toNat - mk (td b.toNat) + 1) * 256 ^ (i - 1) ≤ 2 ^ (8 - td b.toNat) * 256 ^ (td b.toNat - 1) := Nat.mul_le_mul hr hp
  have hy : ∀ t : Fin 10, 1 ≤ t.1 → 2 ^ (8 - t.1) * 256 ^ (t.1 - 1) ≤ 18446744073709551616 := by decide
  have := hy ⟨td b.toNat, by omega⟩ t1
  dsimp only at this
  omega
theorem sm_dc (b : UInt8) (r : List UInt8) (h : td b.toNat ≤ r.length + 1) : sm b r (td b.toNat) = dc (td b.toNat) ((b :: r).take (td b.toNat)) := by
  have hb := b.toNat_lt
  obtain ⟨t1, t9, hm, hr, _, _⟩ := td_rng b.toNat (by simpa using hb)
  obtain ⟨k, hk⟩ : ∃ k, td b.toNat = k + 1 := ⟨td b.toNat - 1, by omega⟩
  unfold sm dc
  rw [hk] at h hm ⊢
  rw [List.take_succ_cons, vl_cons, Nat.add_sub_cancel, List.length_take, Nat.min_eq_left (by omega), Nat.sub_mul]
  have := Nat.mul_le_mul_right (256 ^ k) hm
  omega

theorem bit_step (b i : Nat) (hb : b < 256) (h1 : 1 ≤ i) (hi : i ≤ td b) :
    (i < td b → 0 < 256 / 2 ^ i ∧ 256 / 2 ^ i ≤ b - mk i ∧ b - mk i - 256 / 2 ^ i = b - mk (i + 1) ∧ 256 / 2 ^ (i + 1) = 256 / 2 ^ i / 2) ∧ (i = td b → 256 / 2 ^ i = 0 ∨ b - mk i < 256 / 2 ^ i) := by
  have : ∀ b : Fin 256, ∀ i : Fin 10, 1 ≤ i.1 → i.1 ≤ td b.1 → (i.1 < td b.1 → 0 < 256 / 2 ^ i.1 ∧ 256 / 2 ^ i.1 ≤ b.1 - mk i.1 ∧ b.1 - mk i.1 - 256 / 2 ^ i.1 = b.1 - mk (i.1 + 1) ∧ 256 / 2 ^ (i.1 + 1) = 256 / 2 ^ i.1 / 2) ∧ (i.1 = td b.1 → 256 / 2 ^ i.1 = 0 ∨ b.1 - mk i.1 < 256 / 2 ^ i.1) := by decide +kernel
  have h9 := (td_rng b hb).2.1
  exact this ⟨b, hb⟩ ⟨i, by omega⟩ h1 hi

end Go.Proofs.Ytfdgdheopifnjaa
