/-
  VaryBack: whatever calls, of 100 and of 20000 bytes together, and cut, the law returns true, and all read as they did. Conditions: the slices lie in memory.
-/
import Derived.Test.YtfdgdheopifnjaaVCut
import Derived.Test.YtfdgdheopifnjaaVTape3
namespace Go.Proofs.Ytfdgdheopifnjaa
open Go.RowKit

/-- The Tape's writing methods, over a Tape in new memory. -/
theorem wrote_at {w w0 w' : World} {bt : Nat} {xs : List UInt8} {e : Ending} (hk : Keep NoB w0 w) (h : Wrote w bt (fun k => Fresh w0 k ∧ k < w.heap.size) xs e w') :
    e = .returned (.pointer (some ⟨bt, 0, none⟩)) ∧ TapeAt w' bt (Fresh w0) xs ∧ Keep NoB w0 w' := by
  obtain ⟨h1, h2, h3⟩ := h
  refine ⟨h1, h2.mono ?_, hk.trans h3 (fun k ho hk' => by have := ho.1; unfold Fresh at this; omega)⟩
  rintro k (ho | ho) _
  · exact ho.1
  · exact Nat.le_trans hk.size ho.1

theorem wnumber_at (w w0 : World) (bt : Nat) (l xs : List UInt8) (n : Nat) (N : Int) (h : TapeAt w bt (Fresh w0) l) (hk : Keep NoB w0 w) (hb : l.length + 9 ≤ 140737488355328) (hN : N = n) (hx : Hid (xs = l ++ encL n)) :
    Calls Try.prog 19 #[.pointer (some ⟨bt, 0, none⟩), .int .u64 N] w fun e w' => e = .returned (.pointer (some ⟨bt, 0, none⟩)) ∧ TapeAt w' bt (Fresh w0) xs ∧ Keep NoB w0 w' := by
  have hx := hx.out
  subst hN hx
  exact (tnumber_any w bt (fun k => Fresh w0 k ∧ k < w.heap.size) l n (h.mono (fun k h1 h2 => ⟨h1, h2⟩)) (fun k h => h.2) hb).mono fun e w' h' => wrote_at hk h'

theorem wsigned_at (w w0 : World) (bt : Nat) (l xs : List UInt8) (n : Int) (h1 : -9223372036854775808 ≤ n) (h2 : n ≤ 9223372036854775807) (h : TapeAt w bt (Fresh w0) l) (hk : Keep NoB w0 w) (hb : l.length + 9 ≤ 140737488355328) (hx : Hid (xs = l ++ encL (zig n))) :
    Calls Try.prog 20 #[.pointer (some ⟨bt, 0, none⟩), .int .i64 n] w fun e w' => e = .returned (.pointer (some ⟨bt, 0, none⟩)) ∧ TapeAt w' bt (Fresh w0) xs ∧ Keep NoB w0 w' := by
  have hx := hx.out
  subst hx
  exact (tsigned_any w bt (fun k => Fresh w0 k ∧ k < w.heap.size) l n h1 h2 (h.mono (fun k h1 h2 => ⟨h1, h2⟩)) (fun k h => h.2) hb).mono fun e w' h' => wrote_at hk h'

theorem wbytes_at (w w0 : World) (bt : Nat) (l xs b : List UInt8) (A : Option Addr) (c : Nat) (hr : Rd w0 A b) (h : TapeAt w bt (Fresh w0) l) (hk : Keep NoB w0 w) (hb : l.length + 9 + b.length ≤ 140737488355328) (hx : Hid (xs = l ++ (encL b.length ++ b))) :
    Calls Try.prog 22 #[.pointer (some ⟨bt, 0, none⟩), .slice A b.length c] w fun e w' => e = .returned (.pointer (some ⟨bt, 0, none⟩)) ∧ TapeAt w' bt (Fresh w0) xs ∧ Keep NoB w0 w' := by
  have hx := hx.out
  subst hx
  rw [← List.append_assoc]
  have hs := hk.size
  exact (tbytes_gen w bt (fun k => Fresh w0 k ∧ k < w.heap.size) l b A c (h.mono (fun k h1 h2 => ⟨h1, h2⟩)) (fun k h => h.2) (hr.keep hk (fun _ _ _ => id)) (fun ad e h0 => by
    have := hr.lt e h0
    exact ⟨fun hf => by have := hf.1; unfold Fresh at this; omega, by omega⟩) hb).mono fun e w' h' => wrote_at hk h'

end Go.Proofs.Ytfdgdheopifnjaa
