/-
  What write puts on a Tape: an operand's bytes. Conditions: the number is one of the kind; no more than 2^47 bytes in all.
-/
import Derived.Test.YtpkcjokkadfhcaaDoorOFor
import Derived.Test.YtpkcjokkadfhcaaDoorKLoop
import Derived.Test.YtpkcjokkadfhcaaDoorVTape2
namespace Go.Proofs.YtpkcjokkadfhcaaDoor.O
open Go.RowKit

/-- Block k holds cells. -/
def CellsAt (W : World) (k : Nat) : Prop := ∃ cs t f, W.heap[k]? = some (.cells cs t f)
theorem CellsAt.lt {W : World} {k : Nat} (h : CellsAt W k) : k < W.heap.size := by obtain ⟨_, _, _, h⟩ := h; exact (Array.getElem?_eq_some_iff.1 h).1
theorem Blk.cellsAt {w : World} {g : Nat} {t : TypeId} {cs : Array Value} (h : Blk w g t cs) : CellsAt w g := ⟨cs, t, (0, 0), h⟩
theorem own_cells {w : World} {O : Nat → Prop} {v : Value} {l : List UInt8} (h : V.OwnB w O v l) : ∀ g, v.ownBlock = some g → CellsAt w g := by
  intro g e
  rcases h.1.2 with ⟨rfl, _⟩ | ⟨g', cap, cur, rfl, _, hh, _⟩
  · simp [Value.ownBlock] at e
  · simp [Value.ownBlock] at e
    subst e
    exact ⟨_, _, _, hh⟩
/-- A Tape's blocks are cells. -/
theorem tape_cells {w : World} {bt : Nat} {O : Nat → Prop} {l : List UInt8} (h : V.TapeAt w bt O l) : V.TapeAt w bt (fun k => O k ∧ CellsAt w k) l := by
  rcases h.2 with ⟨hb, hl⟩ | ⟨bs, v, ho, hb, hs, hv⟩
  · exact ⟨⟨h.1, Blk.cellsAt hb⟩, .inl ⟨hb, hl⟩⟩
  · exact ⟨⟨h.1, Blk.cellsAt hb⟩, .inr ⟨bs, v, ⟨ho, Blk.cellsAt hs⟩, hb, hs, hv.1, fun g e => ⟨hv.2 g e, own_cells hv g e⟩⟩⟩
/-- A step that turns none of a Tape's blocks leaves it. -/
theorem tape_grown {w w' : World} {row : Option Nat} {bt : Nat} {O : Nat → Prop} {l : List UInt8} (h : V.TapeAt w bt O l) (hg : w.grownBy w' row) (hr : ∀ r, row = some r → ¬ O r) : V.TapeAt w' bt O l := by
  have hk : Keep (fun k => some k = row) w w' := ⟨hg.os, hg.tape, hg.output, hg.size, fun k hk hn => hg.block k hk hn⟩
  exact h.keep hk (fun k ho e => hr k e.symm ho)

/-- What write leaves. -/
def WroteR (w : World) (bt : Nat) (O : Nat → Prop) (xs : List UInt8) (e : Ending) (w' : World) : Prop := e = .returned (.tuple #[]) ∧ V.TapeAt w' bt (V.More O w w') xs ∧ Keep O w w'

set_option maxHeartbeats 1000000 in
theorem write_any (k n : Int) (sh gu : Value) (bt : Nat) (O : Nat → Prop) (l : List UInt8) (w : World) (hk : k ≠ 0) (hn : inK k n = true) (h64 : -9223372036854775808 ≤ n ∧ n ≤ 9223372036854775807)
    (h : V.TapeAt w bt O l) (hO : ∀ k, O k → k < w.heap.size) (hb : l.length + 9 ≤ 140737488355328) :
    Calls Tryd.prog 27 #[opV k sh gu, .pointer (some ⟨bt, 0, none⟩), .int .i64 n] w (WroteR w bt O (l ++ encP k n)) := by
  have hK := (Keep.refl NoB w).alloc (.cells #[.int .i64 k, .int .i64 (lo k), .int .i64 (hi k), sh, gu] 58)
  have h1 := h.keep hK (fun _ _ => id)
  have hO1 : ∀ j, O j → j < (w.alloc (.cells #[.int .i64 k, .int .i64 (lo k), .int .i64 (hi k), sh, gu] 58)).heap.size := by intro j hj; have := hO j hj; simp; omega
  have hsz : (w.alloc (.cells #[.int .i64 k, .int .i64 (lo k), .int .i64 (hi k), sh, gu] 58)).heap.size = w.heap.size + 1 := by simp
  by_cases h1k : k = 1
  · subst h1k
    have HE : Hid (encP 1 n = V.encL (V.zig n)) := rfl
    have HS := Lib.hid (V.tsigned_any _ bt O l n h64.1 h64.2 h1 hO1 hb)
    clear hk hn hO hb h h1 hO1
    unfold opV
    go_enter Tryd.func27, Tryd.ntmps27
    go_wp2_with fail
    refine HS.out.mono ?_
    rintro e w2 ⟨rfl, h2, k2⟩
    go_wp2
    go_end0
    rw [HE.out]
    refine ⟨rfl, h2.mono ?_, hK.mono (fun _ hf _ => hf.elim) |>.trans k2 (fun _ ho _ => ho)⟩
    rintro j (hj | ⟨hj1, hj2⟩) _
    · exact .inl hj
    · exact .inr ⟨by omega, hj2⟩
  · have hn0 : 0 ≤ n := by
      have := (of_decide_eq_true hn).1
      unfold lo at this
      rw [if_neg h1k] at this
      split at this <;> omega
    obtain ⟨m, rfl⟩ := Int.eq_ofNat_of_zero_le hn0
    have HE : Hid (encP k m = V.encL m) := by show _ = _; unfold encP; rw [if_neg hk, if_neg h1k]; rfl
    have HS := Lib.hid (V.tnumber_any _ bt O l m h1 hO1 hb)
    have q1 : (k == 1) = false := by rw [beq_eq_false_iff_ne]; exact h1k
    have hm : (m : Int) ≤ 9223372036854775807 := h64.2
    have hw : IntKind.u64.wrap (m : Int) = (m : Int) := by simp [IntKind.wrap, IntKind.bits, IntKind.signed]; omega
    clear hk hn hO hb h h1 hO1 h1k h64
    unfold opV
    go_enter Tryd.func27, Tryd.ntmps27
    go_wp2_with fail
    refine HS.out.mono ?_
    rintro e w2 ⟨rfl, h2, k2⟩
    go_wp2
    go_end0
    rw [HE.out]
    refine ⟨rfl, h2.mono ?_, hK.mono (fun _ hf _ => hf.elim) |>.trans k2 (fun _ ho _ => ho)⟩
    rintro j (hj | ⟨hj1, hj2⟩) _
    · exact .inl hj
    · exact .inr ⟨by omega, hj2⟩

end Go.Proofs.YtpkcjokkadfhcaaDoor.O
