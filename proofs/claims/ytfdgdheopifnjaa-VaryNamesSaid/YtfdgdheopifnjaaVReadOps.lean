/-
  The law's calls that came in, opened. No conditions.
-/
import Derived.Test.YtfdgdheopifnjaaVOps
import Derived.Test.YtfdgdheopifnjaaVOrder
namespace Go.Proofs.Ytfdgdheopifnjaa
open Go.ChangeShapes Go.WideShapes Go.ChangeAt Go.RowKit

theorem i64_bounds {n : Int} (h : (Lit.int .i64 n).wf = true) : -9223372036854775808 ≤ n ∧ n ≤ 9223372036854775807 := by
  have hmin : IntKind.i64.min = -9223372036854775808 := rfl
  have hmax : IntKind.i64.max = 9223372036854775807 := rfl
  simp only [Lit.wf, Bool.and_eq_true, decide_eq_true_eq] at h
  omega

theorem mem_weightsAll {H : Type} {P : Program} {e : TypeId} : ∀ {ds : List (DataW H)} {d : DataW H}, d ∈ ds → ∀ n ∈ d.weights P e, n ∈ DataW.weightsAll P e ds
  | [], _, h, _, _ => by simp at h
  | d' :: r, d, h, n, hn => by
    unfold DataW.weightsAll
    rcases List.mem_cons.1 h with rfl | h
    · exact List.mem_append_left _ hn
    · exact List.mem_append_right _ (mem_weightsAll h n hn)

theorem opFields : Go.Deep.oneCellFields Try.prog #[{ name := "Kind", type := 3, offset := 0, embedded := false, tag := "", pkgPath := "", byteOffset := 0 },
        { name := "M", type := 3, offset := 1, embedded := false, tag := "", pkgPath := "", byteOffset := 8 },
        { name := "N", type := 29, offset := 2, embedded := false, tag := "", pkgPath := "", byteOffset := 16 },
        { name := "Low", type := 2, offset := 3, embedded := false, tag := "", pkgPath := "", byteOffset := 24 },
        { name := "High", type := 2, offset := 4, embedded := false, tag := "", pkgPath := "", byteOffset := 32 },
        { name := "B", type := 27, offset := 5, embedded := false, tag := "", pkgPath := "", byteOffset := 40 }] = true := by kernel_rfl
theorem opCells : Try.prog.cellsOf 31 = 6 := by kernel_rfl

theorem read_ops {H : Type} {enc : TypeId × Value → H} {W : World} {base : Nat} {spare : Nat → Bool} {held : Bool} {fuel : Nat} {cs : List Value} {x : DataW H × List MemPlace}
    (h : DataW.trod enc Try.prog W base spare held fuel 22 cs = some x) (hw : Fine Try.prog H 22 x.1) :
    ∃ A l c, cs = [.slice A l.length c] ∧ Ops W A l ∧ l.length ≤ c ∧ c ≤ maxLen ∧ ∀ o ∈ l, o.b.length ≤ reachBytes := by
  rcases open_fields Try.underlying22 Try.underlying31 opFields opCells h with hcs | ⟨a, len, cap, D, rest, hcs, hl, hm, hx, hi⟩
  · exact ⟨none, [], 0, hcs, ⟨by simp, fun h => by simp at h⟩, Nat.le_refl _, Nat.zero_le _, by simp⟩
  · obtain ⟨l, hll, hli⟩ := choose_list (fun i (o : OpV) =>
        (W.cell? (a.add (i * 6 + 0)) = some (.int .i64 o.kind) ∧ W.cell? (a.add (i * 6 + 1)) = some (.int .i64 o.m) ∧ W.cell? (a.add (i * 6 + 2)) = some (.int .u64 o.n) ∧
        W.cell? (a.add (i * 6 + 3)) = some (.int .i64 o.lo) ∧ W.cell? (a.add (i * 6 + 4)) = some (.int .i64 o.hi) ∧ W.cell? (a.add (i * 6 + 5)) = some (.slice o.B o.b.length o.c) ∧
        Rd W o.B o.b ∧ o.b.length ≤ o.c ∧ o.c ≤ maxLen) ∧ OpOk o ∧ o.b.length ≤ reachBytes) len (fun i hil => by
      obtain ⟨ys, n, hD, hyl, hf⟩ := hi i hil
      obtain ⟨v0, y0, c0, e0, t0⟩ := hf 0 _ rfl
      obtain ⟨v1, y1, c1, e1, t1⟩ := hf 1 _ rfl
      obtain ⟨v2, y2, c2, e2, t2⟩ := hf 2 _ rfl
      obtain ⟨v3, y3, c3, e3, t3⟩ := hf 3 _ rfl
      obtain ⟨v4, y4, c4, e4, t4⟩ := hf 4 _ rfl
      obtain ⟨v5, y5, c5, e5, t5⟩ := hf 5 _ rfl
      obtain ⟨k, hk, _, wk⟩ := DataW.trod_int Try.underlying3 t0
      obtain ⟨m, hm', _, wm⟩ := DataW.trod_int Try.underlying3 t1
      obtain ⟨nn, hn', _, wn⟩ := DataW.trod_int Try.underlying29 t2
      obtain ⟨lo, hlo, _, wlo⟩ := DataW.trod_int Try.underlying2 t3
      obtain ⟨hi', hhi, _, whi⟩ := DataW.trod_int Try.underlying2 t4
      have hfine : Fine Try.prog H 27 y5.1 := by
        intro q hq
        apply hw q
        rw [hx]
        unfold DataW.weights
        rw [Try.underlying22]
        refine List.mem_cons_of_mem _ (List.mem_append_left _ ?_)
        refine mem_weightsAll (List.mem_map.2 ⟨i, List.mem_range.2 hil, rfl⟩) q ?_
        rw [hD]
        unfold DataW.weights
        rw [Try.underlying31]
        refine DataW.weights_mem_each (j := 5) (t := 27) (d := y5.1) rfl ?_ q hq
        rw [List.getElem?_map, e5]
        rfl
      obtain ⟨B, b, c, hB, hr, hc, hcm, hre⟩ := read_bytes_fine t5 hfine
      simp only [List.cons.injEq, and_true] at hk hm' hn' hlo hhi hB
      subst hk hm' hn' hlo hhi hB
      obtain ⟨un1, un2⟩ := u64_bounds wn
      obtain ⟨n', rfl⟩ := Int.eq_ofNat_of_zero_le un1
      exact ⟨⟨k, m, n', lo, hi', B, b, c⟩, ⟨c0, c1, c2, c3, c4, c5, hr, hc, hcm⟩, ⟨i64_bounds wk, i64_bounds wm, (by show n' < _; omega), i64_bounds wlo, i64_bounds whi⟩, hre⟩)
    refine ⟨some a, l, cap, by rw [hll]; exact hcs, ⟨fun o ho => ?_, fun h0 => ?_⟩, by omega, hm, fun o ho => ?_⟩
    · obtain ⟨i, hil, rfl⟩ := List.mem_iff_getElem.1 ho
      exact (hli i hil).2.1
    · obtain ⟨g, off, spot⟩ := a
      have hspot : spot = none := by simpa [Addr.add] using World.cell?_spot (hli 0 h0).1.1
      subst hspot
      refine ⟨g, off, rfl, fun i hil => ?_⟩
      obtain ⟨c0, c1, c2, c3, c4, c5, hr, hc, hcm⟩ := (hli i hil).1
      rw [add_plain] at c0 c1 c2 c3 c4 c5
      exact ⟨c0, c1, c2, c3, c4, c5, hr, hc, hcm⟩
    · obtain ⟨i, hil, rfl⟩ := List.mem_iff_getElem.1 ho
      exact (hli i hil).2.2

end Go.Proofs.Ytfdgdheopifnjaa
