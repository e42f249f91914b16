/-
  VaryWrites' state: the Tape, what it should hold beside it, bytes of one's own besides; each step keeps them apart. Conditions: no more than 2^47 bytes.
-/
import Derived.Test.YtfdgdheopifnjaaVReadsU
import Derived.Test.YtfdgdheopifnjaaVTape3
import Derived.Test.YtfdgdheopifnjaaVCut
import Derived.LaidEqlPtr
namespace Go.Proofs.Ytfdgdheopifnjaa
open Go.RowKit

/-- The Tape holds xs, the value V is a row of ys; they lie apart, in new memory, and outside O. -/
def WSt (w0 w : World) (tb : Nat) (O : Nat → Prop) (V : Value) (xs ys : List UInt8) : Prop :=
  ∃ Ot : Nat → Prop, TapeAt w tb Ot xs ∧ (∀ k, Ot k → w0.heap.size ≤ k ∧ k < w.heap.size ∧ ¬ O k) ∧ OwnB w (fun k => w0.heap.size ≤ k ∧ ¬ Ot k ∧ ¬ O k) V ys

/-- Other new memory than O's. -/
def Oth (w0 : World) (O : Nat → Prop) : Nat → Prop := fun k => w0.heap.size ≤ k ∧ ¬ O k

theorem WSt.keep {w0 w w' : World} {tb : Nat} {O O' : Nat → Prop} {V : Value} {xs ys : List UInt8} (h : WSt w0 w tb O V xs ys) (hk : Keep O' w w') (hO : ∀ k, O' k → O k) : WSt w0 w' tb O V xs ys := by
  obtain ⟨Ot, h1, h2, h3⟩ := h
  exact ⟨Ot, h1.keep hk (fun k ho h' => (h2 k ho).2.2 (hO k h')), fun k ho => ⟨(h2 k ho).1, Nat.lt_of_lt_of_le (h2 k ho).2.1 hk.size, (h2 k ho).2.2⟩, h3.keep hk (fun k ho h' => ho.2.2 (hO k h'))⟩

/-- Memory laid later may be set apart from both. -/
theorem WSt.apart {w0 w : World} {tb : Nat} {O O' : Nat → Prop} {V : Value} {xs ys : List UInt8} (h : WSt w0 w tb O V xs ys) (hO : ∀ k, O' k → w.heap.size ≤ k) : WSt w0 w tb O' V xs ys := by
  obtain ⟨Ot, h1, h2, h3⟩ := h
  refine ⟨Ot, h1, fun k ho => ⟨(h2 k ho).1, (h2 k ho).2.1, fun h' => ?_⟩, h3.mono (fun k ho hk => ⟨ho.1, ho.2.1, fun h' => ?_⟩)⟩
  · have := hO k h'; have := (h2 k ho).2.1; omega
  · have := hO k h'; omega

theorem WSt.new {w0 w : World} (hk : Keep NoB w0 w) : WSt w0 (w.alloc (.cells #[.pointer none, .int .i64 0] 26)) w.heap.size NoB (.slice none 0 0) [] [] := by
  have hs := hk.size
  exact ⟨fun k => k = w.heap.size, TapeAt.new w, fun k e => ⟨by omega, by simp; omega, fun h => h⟩, OwnB.nil _ _⟩

theorem WSt.form {w0 w : World} {tb : Nat} {O : Nat → Prop} {V : Value} {xs ys : List UInt8} (h : WSt w0 w tb O V xs ys) : ∃ A c, V = .slice A ys.length c ∧ Rd w A ys := by
  obtain ⟨Ot, _, _, h3⟩ := h
  obtain ⟨A, c, e, _, hr, _⟩ := h3.form
  exact ⟨A, c, e, hr⟩
theorem WSt.own {w0 w : World} {tb : Nat} {O : Nat → Prop} {V : Value} {xs ys : List UInt8} (h : WSt w0 w tb O V xs ys) : w.ownsRow 0 5 1 V ys.length (bvs ys) := by
  obtain ⟨Ot, _, _, h3⟩ := h
  exact h3.1

/-- More was appended to the row. -/
theorem WSt.appended {w0 w w' : World} {tb : Nat} {O : Nat → Prop} {V v' : Value} {xs ys l : List UInt8} (h : WSt w0 w tb O V xs ys) (hO : ∀ k, O k → k < w.heap.size) (hs : w0.heap.size ≤ w.heap.size)
    (h2 : w'.ownsRow 0 5 1 v' (ys ++ l).length (bvs (ys ++ l))) (hg : w.grownBy w' V.ownBlock) (h4 : v'.ownBlock = V.ownBlock ∨ v'.ownBlock = some w.heap.size) :
    WSt w0 w' tb O v' xs (ys ++ l) ∧ Keep (Oth w0 O) w w' := by
  obtain ⟨Ot, t1, t2, t3⟩ := h
  have hk : Keep (fun k => V.ownBlock = some k) w w' := (Keep.refl _ w).grown hg (fun g e _ => e)
  refine ⟨⟨Ot, t1.keep hk (fun k ho e => (t3.2 k e).2.1 ho), fun k ho => ⟨(t2 k ho).1, Nat.lt_of_lt_of_le (t2 k ho).2.1 hk.size, (t2 k ho).2.2⟩, h2, fun g e => ?_⟩, hk.mono (fun k e _ => ⟨(t3.2 k e).1, (t3.2 k e).2.2⟩)⟩
  rcases h4 with h4 | h4
  · rw [h4] at e; exact t3.2 g e
  · rw [h4] at e
    injection e with e
    subst e
    exact ⟨hs, fun ho => by have := (t2 _ ho).2.1; omega, fun ho => by have := hO _ ho; omega⟩

theorem wst_wrote {w0 w w' : World} {tb : Nat} {O Ot : Nat → Prop} {V : Value} {ys zs : List UInt8} {e : Ending} (hO : ∀ k, O k → k < w.heap.size) (hs : w0.heap.size ≤ w.heap.size)
    (t2 : ∀ k, Ot k → w0.heap.size ≤ k ∧ k < w.heap.size ∧ ¬ O k) (t3 : OwnB w (fun k => w0.heap.size ≤ k ∧ ¬ Ot k ∧ ¬ O k) V ys) (h : Wrote w tb Ot zs e w') :
    e = .returned (.pointer (some ⟨tb, 0, none⟩)) ∧ WSt w0 w' tb O V zs ys ∧ Keep (Oth w0 O) w w' := by
  obtain ⟨h1, h2, h3⟩ := h
  refine ⟨h1, ⟨More Ot w w', h2, ?_, ?_⟩, h3.mono (fun k ho _ => ⟨(t2 k ho).1, (t2 k ho).2.2⟩)⟩
  · rintro k (ho | ⟨ho1, ho2⟩)
    · exact ⟨(t2 k ho).1, Nat.lt_of_lt_of_le (t2 k ho).2.1 h3.size, (t2 k ho).2.2⟩
    · exact ⟨by omega, ho2, fun h' => by have := hO k h'; omega⟩
  · refine (t3.mono (O' := fun k => w0.heap.size ≤ k ∧ (¬ Ot k ∧ k < w.heap.size) ∧ ¬ O k) (fun k ho hk => ⟨ho.1, ⟨ho.2.1, hk⟩, ho.2.2⟩)).keep h3 (fun k ho h' => ho.2.1.1 h') |>.mono (fun k ho _ => ⟨ho.1, ?_, ho.2.2⟩)
    rintro (h' | ⟨h', _⟩)
    · exact ho.2.1.1 h'
    · have := ho.2.1.2; omega

theorem wst_number (w0 w : World) (tb : Nat) (O : Nat → Prop) (V : Value) (xs ys zs : List UInt8) (n : Nat) (h : WSt w0 w tb O V xs ys) (hO : ∀ k, O k → k < w.heap.size) (hs : w0.heap.size ≤ w.heap.size) (hb : xs.length + 9 ≤ 140737488355328) (hz : Hid (zs = xs ++ encL n)) :
    Calls Try.prog 19 #[.pointer (some ⟨tb, 0, none⟩), .int .u64 (n : Int)] w fun e w' => e = .returned (.pointer (some ⟨tb, 0, none⟩)) ∧ WSt w0 w' tb O V zs ys ∧ Keep (Oth w0 O) w w' := by
  obtain ⟨Ot, t1, t2, t3⟩ := h
  have hz := hz.out
  subst hz
  exact (tnumber_any w tb Ot xs n t1 (fun k ho => (t2 k ho).2.1) hb).mono fun e w' h => wst_wrote hO hs t2 t3 h
theorem wst_signed (w0 w : World) (tb : Nat) (O : Nat → Prop) (V : Value) (xs ys zs : List UInt8) (n : Int) (h1 : -9223372036854775808 ≤ n) (h2 : n ≤ 9223372036854775807) (h : WSt w0 w tb O V xs ys) (hO : ∀ k, O k → k < w.heap.size) (hs : w0.heap.size ≤ w.heap.size) (hb : xs.length + 9 ≤ 140737488355328) (hz : Hid (zs = xs ++ encL (zig n))) :
    Calls Try.prog 20 #[.pointer (some ⟨tb, 0, none⟩), .int .i64 n] w fun e w' => e = .returned (.pointer (some ⟨tb, 0, none⟩)) ∧ WSt w0 w' tb O V zs ys ∧ Keep (Oth w0 O) w w' := by
  obtain ⟨Ot, t1, t2, t3⟩ := h
  have hz := hz.out
  subst hz
  exact (tsigned_any w tb Ot xs n h1 h2 t1 (fun k ho => (t2 k ho).2.1) hb).mono fun e w' h => wst_wrote hO hs t2 t3 h
theorem wst_bytes (w0 w : World) (tb : Nat) (O : Nat → Prop) (V : Value) (xs ys zs b : List UInt8) (A : Option Addr) (c : Nat) (h : WSt w0 w tb O V xs ys) (hb0 : OwnB w O (.slice A b.length c) b) (hO : ∀ k, O k → k < w.heap.size) (hs : w0.heap.size ≤ w.heap.size) (hb : xs.length + 9 + b.length ≤ 140737488355328) (hz : Hid (zs = xs ++ (encL b.length ++ b))) :
    Calls Try.prog 22 #[.pointer (some ⟨tb, 0, none⟩), .slice A b.length c] w fun e w' => e = .returned (.pointer (some ⟨tb, 0, none⟩)) ∧ WSt w0 w' tb O V zs ys ∧ Keep (Oth w0 O) w w' := by
  obtain ⟨Ot, t1, t2, t3⟩ := h
  have hz := hz.out
  subst hz
  obtain ⟨A', c', e, _, hr, hA, _⟩ := hb0.form
  simp only [Value.slice.injEq, true_and] at e
  obtain ⟨rfl, rfl⟩ := e
  rw [← List.append_assoc]
  exact (tbytes_gen w tb Ot xs b A c t1 (fun k ho => (t2 k ho).2.1) hr (fun ad e _ => ⟨fun ho => (t2 _ ho).2.2 (hA ad e).1, hO _ (hA ad e).1⟩) hb).mono fun e w' h => wst_wrote hO hs t2 t3 h
theorem wst_all (w0 w : World) (tb : Nat) (O : Nat → Prop) (V : Value) (xs ys : List UInt8) (h : WSt w0 w tb O V xs ys) (hb : xs.length ≤ 140737488355328) :
    Calls Try.prog 23 #[.pointer (some ⟨tb, 0, none⟩)] w fun e w' => ∃ A c, e = .returned (.slice A xs.length c) ∧ OwnB w' (Fresh w) (.slice A xs.length c) xs ∧ Keep NoB w w' := by
  obtain ⟨Ot, t1, _⟩ := h
  refine (all_any w tb Ot xs t1 hb).mono ?_
  rintro e w' ⟨v, he, hv, hk⟩
  obtain ⟨A, c, rfl, _⟩ := hv.form
  exact ⟨A, c, he, hv, hk⟩

theorem own_oth {w0 w w' : World} {O : Nat → Prop} {v : Value} {l : List UInt8} (h : OwnB w O v l) (hk : Keep (Oth w0 O) w w') : OwnB w' O v l := h.keep hk (fun _ h1 h2 => h2.2 h1)
theorem keep_oth {w0 w w' : World} {O : Nat → Prop} (h : Keep NoB w0 w) (hk : Keep (Oth w0 O) w w') : Keep NoB w0 w' := h.trans hk (fun k h1 h2 => by have := h1.1; omega)

section
variable (n : Nat) (z : Int) (w : World)
theorem width_same : Calls Try.prog 12 #[.int .u64 n] w fun e w' => e = .returned (.int .i64 (wd n)) ∧ w' = w := (width_any n w).mono fun _ _ ⟨h1, h2⟩ => ⟨h1, h2.symm⟩
theorem rwidth_same : Calls Try.prog 13 #[.int .u64 n] w fun e w' => e = .returned (.int .i64 (wd n)) ∧ w' = w := (rwidth_any n w).mono fun _ _ ⟨h1, h2⟩ => ⟨h1, h2.symm⟩
theorem zig_same (h1 : -9223372036854775808 ≤ z) (h2 : z ≤ 9223372036854775807) : Calls Try.prog 14 #[.int .i64 z] w fun e w' => e = .returned (.int .u64 (zig z)) ∧ w' = w := (zig_any z w h1 h2).mono fun _ _ ⟨h1, h2⟩ => ⟨h1, h2.symm⟩
theorem rzig_same (h1 : -9223372036854775808 ≤ z) (h2 : z ≤ 9223372036854775807) : Calls Try.prog 15 #[.int .i64 z] w fun e w' => e = .returned (.int .u64 (zig z)) ∧ w' = w := (rzig_any z w h1 h2).mono fun _ _ ⟨h1, h2⟩ => ⟨h1, h2.symm⟩
theorem zag_same (h : n < 18446744073709551616) : Calls Try.prog 16 #[.int .u64 n] w fun e w' => e = .returned (.int .i64 (zag n)) ∧ w' = w := (zag_any n w h).mono fun _ _ ⟨h1, h2⟩ => ⟨h1, h2.symm⟩
theorem rzag_same (h : n < 18446744073709551616) : Calls Try.prog 17 #[.int .u64 n] w fun e w' => e = .returned (.int .i64 (zag n)) ∧ w' = w := (rzag_any n w h).mono fun _ _ ⟨h1, h2⟩ => ⟨h1, h2.symm⟩
end

theorem tape_info : (Try.prog.info? 26).map (·.size) = some 2 := by kernel_rfl
/-- A Tape's pointer is the same as itself. -/
theorem tape_same (tb : Nat) (w : World) : (binOp .eql 36 (.pointer (some ⟨tb, 0, none⟩)) (.pointer (some ⟨tb, 0, none⟩))).run Try.prog w = .ok (.bool true) w := by
  obtain ⟨j, hj, _⟩ := Option.map_eq_some_iff.1 tape_info
  exact run_eql_ptr_same w _ Try.underlying36 hj

end Go.Proofs.Ytfdgdheopifnjaa
