/-
  The keepers of a Reel's look: sum.add gathers bytes as one number, taken.set keeps a copy; told tells a width. Conditions: no more than 2^47 bytes.
-/
import Derived.Test.YtfdgdheopifnjaaVTape2
import Derived.Test.YtfdgdheopifnjaaVBe
namespace Go.Proofs.Ytfdgdheopifnjaa
open Go.RowKit

/-- Bytes gathered onto a number, as add does. -/
def acc (s : Nat) (l : List UInt8) : Nat := l.foldl (fun s d => s * 256 % 18446744073709551616 + d.toNat) s
theorem acc_snoc (s : Nat) (l : List UInt8) (d : UInt8) : acc s (l ++ [d]) = acc s l * 256 % 18446744073709551616 + d.toNat := by simp [acc]
theorem acc_lt (s : Nat) (l : List UInt8) (hs : s < 18446744073709551616) : acc s l < 18446744073709551616 := by
  rcases l.eq_nil_or_concat with rfl | ⟨l', d, rfl⟩
  · exact hs
  · have := acc_snoc s l' d
    rw [List.concat_eq_append, this]
    have := d.toNat_lt
    omega

theorem add_form (s d : Nat) (hd : d < 256) :
    bits .or .u64 (IntKind.u64.wrap ((s : Int) * 256)) (d : Int) = ((s * 256 % 18446744073709551616 + d : Nat) : Int) := by
  have e : IntKind.u64.wrap ((s : Int) * 256) = ((s * 256 % 18446744073709551616 : Nat) : Int) := by rw [IntKind.wrap_u64]; omega
  rw [e, u64_or_nat _ _ (by omega) (by omega), nat_join 8 _ _ (by omega) (by omega)]

set_option maxRecDepth 100000 in
set_option maxHeartbeats 1000000 in
theorem add_any (w : World) (sb n0 : Nat) (A : Option Addr) (b : List UInt8) (c : Nat) (hs : Blk w sb 101 #[.int .u64 n0]) (hr : Rd w A b) (hA : ∀ ad, A = some ad → ad.block ≠ sb) (hlen : b.length ≤ 140737488355328) :
    Calls Try.prog 58 #[.pointer (some ⟨sb, 0, none⟩), .slice A b.length c] w fun e w' => e = .returned (.tuple #[]) ∧ Blk w' sb 101 #[.int .u64 (acc n0 b)] ∧ Keep (fun k => k = sb) w w' := by
  go_enter Try.func58, Try.ntmps58
  go_wp2
  go_loopw [8] (fun i wr => ∃ k : Nat, k ≤ b.length ∧ i = .int .i64 k ∧ Blk wr sb 101 #[.int .u64 (acc n0 (b.take k))] ∧ Keep (fun k => k = sb) w wr) (fun i _ => b.length - (intOf i).toNat)
  case atStart => exact ⟨0, Nat.zero_le _, rfl, by simpa [acc] using hs, Keep.refl _ _⟩
  case round =>
    obtain ⟨k, hk, rfl, hsr, hkr⟩ := hrel
    by_cases hlt : k < b.length
    · obtain ⟨ad, rfl, hc⟩ := hr (by omega)
      have hcell : wr.cell? (ad.add k) = some (.int .u8 ((b[k]).toNat : Int)) := hkr.cell (hc k _ (by simp [hlt])) (by rw [block_add]; exact hA ad rfl)
      have cs := hsr.cell 0
      have fs := hsr.frozen 0
      simp at cs
      have hd : (b[k]).toNat < 256 := (b[k]).toNat_lt
      have HF := Lib.hid (add_form (acc n0 (b.take k)) (b[k]).toNat hd)
      have HT : Hid (acc n0 (b.take (k + 1)) = acc n0 (b.take k) * 256 % 18446744073709551616 + (b[k]).toNat) := by
        show acc n0 (b.take (k + 1)) = _
        rw [List.take_succ_eq_append_getElem hlt, acc_snoc]
      generalize acc n0 (b.take k) = s at *
      generalize hdd : (b[k]).toNat = d at *
      clear hdd
      go_wp2
      go_roundw
      case rel =>
        refine ⟨k + 1, by omega, by go_num, ?_, hkr.setCell (p := ⟨sb, 0, none⟩) (fun _ => rfl) _⟩
        rw [HT.out, ← HF.out]
        exact hsr.put 0 _
      case measure => simp [intOf]; omega
    · obtain rfl : k = b.length := by omega
      go_wp2
      go_end0
      exact ⟨rfl, by simpa using hsr, hkr⟩

set_option maxHeartbeats 400000 in
theorem set_any (w : World) (sb : Nat) (v0 : Value) (A : Option Addr) (b : List UInt8) (c : Nat) (hs : Blk w sb 108 #[v0]) (hr : Rd w A b) (hlen : b.length ≤ 140737488355328) :
    Calls Try.prog 60 #[.pointer (some ⟨sb, 0, none⟩), .slice A b.length c] w fun e w' => e = .returned (.tuple #[]) ∧ (∃ v, Blk w' sb 108 #[v] ∧ OwnB w' (Fresh w) v b) ∧ Keep (fun k => k = sb) w w' := by
  go_enter Try.func60, Try.ntmps60
  go_wp2_with (go_at_call 44; refine (clone_any w A b c hr hlen).mono ?_; rintro e w1 ⟨v, rfl, hv1, hk1⟩; obtain ⟨A1, c1, rfl, _⟩ := hv1.form; have hs1 := hs.keep hk1 id; have cs1 := hs1.cell 0; have fs1 := hs1.frozen 0; simp at cs1)
  go_end0
  refine ⟨rfl, ⟨_, hs1.put 0 _, ?_⟩, (hk1.mono (O' := fun k => k = sb) (fun _ hf _ => hf.elim)).setCell (p := ⟨sb, 0, none⟩) (fun _ => rfl) _⟩
  exact hv1.keep (O' := fun k => k = sb) ((Keep.refl (fun k => k = sb) _).setCell (p := ⟨sb, 0, none⟩) (fun _ => rfl) _) (fun k hk e => by have := hs.lt; unfold Fresh at hk; omega)

/-- The width that a first byte tells. -/
def td (b : Nat) : Nat := if b < 128 then 1 else if b < 192 then 2 else if b < 224 then 3 else if b < 240 then 4 else if b < 248 then 5 else if b < 252 then 6 else if b < 254 then 7 else if b < 255 then 8 else 9

theorem td_form (b : Nat) (h : b < 256) : 8 - (Lib.bitLen (255 - b) : Int) + 1 = (td b : Int) := by
  have : ∀ b : Fin 256, 8 - (Lib.bitLen (255 - b.1) : Int) + 1 = (td b.1 : Int) := by decide +kernel
  exact this ⟨b, h⟩

theorem not_form (b : Nat) (h : b < 256) : bits .xor .u8 IntKind.u8.max (b : Int) = ((255 - b : Nat) : Int) := by
  have e : IntKind.u8.max = ((255 : Nat) : Int) := by decide
  rw [e, u8_xor_nat 255 b (by omega) h]
  have h2 : ∀ b : Fin 256, 255 ^^^ b.1 = 255 - b.1 := by decide +kernel
  exact congrArg _ (h2 ⟨b, h⟩)

theorem told_any (b : Nat) (w : World) (h : b < 256) :
    Calls Try.prog 59 #[.int .u8 b] w fun e w' => e = .returned (.int .i64 (td b)) ∧ w = w' := by
  have hf := Lib.hid (td_form b h)
  have hsg : IntKind.u8.signed = false := rfl
  have hx := Lib.hid (not_form b h)
  go_enter Try.func59, Try.ntmps59
  go_wp2_with fail
  rw [hx.out]
  refine (Try.bits_LeadingZeros8 _ _ (by omega) (by omega)).mono ?_
  rintro e w1 ⟨rfl, rfl⟩
  rw [Int.toNat_natCast]
  have hb1 : (Lib.bitLen (255 - b) : Int) ≤ 8 := by
    have h1 := hf.out
    have h2 : 1 ≤ td b := by unfold td; repeat' split
                             all_goals omega
    omega
  go_wp2
  go_ret
  exact ⟨ret_int hf.out, rfl⟩

end Go.Proofs.Ytfdgdheopifnjaa
