/-
  The arguments of the laws: lists of numbers and of values, opened. No conditions.
-/
import Derived.Test.YtkhbmbkjaeaamaaDoorWArg
import Derived.Test.YtkhbmbkjaeaamaaDoorWMem
import Derived.Deep.Slices
import Derived.Deep.Fields
import Derived.ChangeSame
namespace Go.Proofs.YtkhbmbkjaeaamaaDoor
open Go.ChangeShapes Go.WideShapes Go.ChangeAt Go.RowKit Go.Deep

theorem addr_of_cell {w : World} {a : Addr} {v : Value} (h : w.cell? a = some v) : a = ⟨a.block, a.off, none⟩ := by
  obtain ⟨b, o, s⟩ := a
  cases s with
  | none => rfl
  | some s => unfold World.cell? at h; split at h <;> simp at h
theorem add_of (b o k : Nat) : (⟨b, o, none⟩ : Addr).add k = ⟨b, o + k, none⟩ := by unfold Addr.add; by_cases hk : k = 0 <;> simp [hk]

section
variable {H : Type} {enc : TypeId × Value → H} {W : World} {base : Nat} {spare : Nat → Bool} {held : Bool} {fuel : Nat} {cs : List Value} {x : DataW H × List MemPlace}

theorem read_ints (h : DataW.trod enc Tryd.prog W base spare held fuel 22 cs = some x) : ∃ A l c, cs = [.slice A l.length c] ∧ Rd W A (ivs l) ∧ l.length ≤ c ∧ c ≤ maxLen ∧ ∀ z ∈ l, I64 z := by
  rcases open_ints Tryd.underlying22 Tryd.underlying3 (by kernel_rfl) h with ⟨hcs, _⟩ | ⟨a, len, cap, zs, hcs, _, hl, hm, hz, _, hcell, hwz⟩
  · exact ⟨none, [], 0, hcs, Rd.none_ _ _, Nat.le_refl _, Nat.zero_le _, by simp⟩
  · have hzl : len ≤ zs.length := by rw [hz]; split <;> omega
    have hlen : (zs.take len).length = len := by rw [List.length_take]; omega
    refine ⟨some a, zs.take len, cap, by rw [hlen]; exact hcs, fun h0 => ?_, by rw [hlen]; exact hl, hm, fun z hz => i64_of_wf (hwz z (List.mem_of_mem_take hz))⟩
    have h0' : 0 < len := by rw [List.length_map, hlen] at h0; exact h0
    have ea := addr_of_cell (hcell 0 (by omega))
    have ea' : a = ⟨a.block, a.off, none⟩ := by simpa [Addr.add] using ea
    refine ⟨a.block, a.off, by rw [← ea'], fun j u hu => ?_⟩
    obtain ⟨hj, hju⟩ := List.getElem?_eq_some_iff.1 hu
    have hj' : j < len := by simp at hj; omega
    have hc := hcell j (by omega)
    rw [ea', add_of] at hc
    rw [hc]
    simp at hju
    rw [← hju]
    simp [List.getD, List.getElem?_eq_getElem (show j < zs.length by omega)]

set_option maxRecDepth 100000 in
theorem read_vals (h : DataW.trod enc Tryd.prog W base spare held fuel 45 cs = some x) : ∃ A l c, cs = [.slice A l.length c] ∧ Rd W A (vvs l) ∧ l.length ≤ c ∧ c ≤ maxLen ∧ ∀ v ∈ l, I64 v.1 ∧ I64 v.2 := by
  rcases open_slice Tryd.underlying45 h with ⟨hcs, _⟩ | ⟨a, len, cap, m, n, D, Pl, hcs, _, hl, hm, hmm, _, hi⟩
  · exact ⟨none, [], 0, hcs, Rd.none_ _ _, Nat.le_refl _, Nat.zero_le _, by simp⟩
  · have hlm : len ≤ m := by rw [hmm]; split <;> omega
    have c35 : Tryd.prog.cellsOf 35 = 2 := by kernel_rfl
    have c3 : Tryd.prog.cellsOf 3 = 1 := by kernel_rfl
    have c2 : Tryd.prog.cellsOf 2 = 1 := by kernel_rfl
    have each : ∀ i : Nat, ∃ v : Int × Int, i < len → W.cell? (a.add (i * 2)) = some (.int .i64 v.1) ∧ W.cell? ((a.add (i * 2)).add 1) = some (.int .i64 v.2) ∧ I64 v.1 ∧ I64 v.2 := by
      intro i
      by_cases hlt : i < len
      · obtain ⟨cs', hc, ht'⟩ := hi i (by omega)
        rw [c35] at hc
        obtain ⟨y0, y1, k, _, hlen, h0, h1⟩ := trod_struct2 Tryd.underlying35 ht'
        obtain ⟨_, hcl, hat⟩ := World.cells?_some hc
        match cs', hcl with
        | [u0, u1], _ =>
          have g0 := hat 0 (by omega)
          have g1 := hat 1 (by omega)
          obtain ⟨z0, e0, _, w0⟩ := DataW.trod_int Tryd.underlying3 h0
          obtain ⟨z1, e1, _, w1⟩ := DataW.trod_int Tryd.underlying2 h1
          simp [c3] at e0
          simp [c2] at e1
          subst e0 e1
          exact ⟨(z0, z1), fun _ => ⟨by simpa [Addr.add] using g0, by simpa using g1, i64_of_wf w0, i64_of_wf w1⟩⟩
      · exact ⟨(0, 0), fun h => absurd h hlt⟩
    obtain ⟨f, hf⟩ := Classical.axiomOfChoice each
    have hlen : ((List.range len).map f).length = len := by simp
    refine ⟨some a, (List.range len).map f, cap, by rw [hlen]; exact hcs, fun h0 => ?_, by rw [hlen]; exact hl, hm, fun v hv => ?_⟩
    · have h0' : 0 < len := by rw [vvs_length, hlen] at h0; omega
      have ea := addr_of_cell (hf 0 h0').1
      have ea' : a = ⟨a.block, a.off, none⟩ := by simpa [Addr.add] using ea
      refine ⟨a.block, a.off, by rw [← ea'], fun j u hu => ?_⟩
      have hj : j < len * 2 := by have := (List.getElem?_eq_some_iff.1 hu).1; rw [vvs_length, hlen] at this; exact this
      have hd : j / 2 < len := by omega
      obtain ⟨k0, k1, _⟩ := hf (j / 2) hd
      obtain ⟨q0, q1⟩ := vvs_at ((List.range len).map f) (j / 2) (by rw [hlen]; exact hd)
      rw [ea', add_of] at k0 k1
      rw [add_of] at k1
      simp only [List.getElem_map, List.getElem_range] at q0 q1
      rcases Nat.mod_two_eq_zero_or_one j with hr | hr
      · have ej : j = j / 2 * 2 := by omega
        rw [ej, q0] at hu
        rw [ej, k0]; exact hu
      · have ej : j = j / 2 * 2 + 1 := by omega
        rw [ej, q1] at hu
        rw [ej, ← Nat.add_assoc, k1]; exact hu
    · obtain ⟨i, hi', rfl⟩ := List.mem_map.1 hv
      exact ⟨(hf i (List.mem_range.1 hi')).2.2.1, (hf i (List.mem_range.1 hi')).2.2.2⟩
end

end Go.Proofs.YtkhbmbkjaeaamaaDoor
