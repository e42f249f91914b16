/-
  What the rows of opcode share: the condition on the listed package-level variables, opened; an instruction as an argument. No conditions.
  What the rows of opcode share where strings.Cut is called, or bytes come in: the wrap that keeps the world's shape beside the laid variables. No conditions.
  An argument that is a list of instructions, opened: an address from which its cells stand; its numbers fit. No conditions.
  The arguments of the laws: functions, and lists of values, opened. No conditions.
-/
import Derived.ChangeSame
import Derived.Deep.Fields
import Derived.Deep.Slices
import Derived.Deep.Strs
import Derived.HandedShaped
import Derived.LaidLaws
import Derived.LaidMore
import Derived.Lib.LaidTab
import Derived.Lib.SmallJoins
import Derived.OpenShut
import Derived.ProofKit
import Derived.Shelf.Vars
import Derived.SizedLaws
import Derived.Stop.LaidErr
import Derived.Test.YtbnekeomdhljhaaGreatDoorQ6
import Derived.Test.YtbnekeomdhljhaaGreatDoorRows
import Derived.Test.YtbnekeomdhljhaaGreatDoorQ11
namespace Go.Proofs.YtbnekeomdhljhaaGreatDoor.O
open Go.ChangeShapes Go.WideShapes Go.ChangeAt Go.RowKit

theorem seatOwn : ownKnob Tryz.prog.godebug = none := by kernel_rfl
theorem seatLaidOut : laidOutB Tryz.prog = true := by kernel_rfl
theorem i64_of_wf {n : Int} (h : (Lit.int .i64 n).wf = true) : I64 n := by
  have hmin : IntKind.i64.min = -9223372036854775808 := rfl
  have hmax : IntKind.i64.max = 9223372036854775807 := rfl
  simp only [Lit.wf, Bool.and_eq_true, decide_eq_true_eq] at h
  unfold I64; omega
theorem tLet : (Tryz.prog.globals[1]?).map (·.type) = some 268 := by kernel_rfl
theorem tPow : (Tryz.prog.globals[4]?).map (·.type) = some 289 := by kernel_rfl
theorem tSyn : (Tryz.prog.globals[5]?).map (·.type) = some 139 := by kernel_rfl
theorem tRng : (Tryz.prog.globals[6]?).map (·.type) = some 139 := by kernel_rfl
theorem tBin : (Tryz.prog.globals[2]?).map (·.type) = some 270 := by kernel_rfl
theorem tUn : (Tryz.prog.globals[3]?).map (·.type) = some 272 := by kernel_rfl
theorem errStar : "*" ++ "errors.errorString" = "*errors.errorString" := by decide
theorem errRow (u : TypeId) (h : Tryz.prog.typeName? 3 u = some "*errors.errorString") : u = 299 :=
  typeName_ptr_named (nm := "errors.errorString") (by rw [errStar]; kernel_rfl) (by kernel_rfl) (by decide) u (by rw [errStar]; exact h)

set_option maxRecDepth 100000 in
theorem laidO_of {W0 : World} {x y : String × DataW Unit}
    (h : laidMet Tryz.prog [("backstay/alu.binNames", Rows.laid_backstay_alu_binNames), ("backstay/alu.unNames", Rows.laid_backstay_alu_unNames), x, y, ("internal/strconv.uint64pow10", Rows.laid_internal_strconv_uint64pow10), ("strconv.ErrRange", Rows.laid_strconv_ErrRange), ("strconv.ErrSyntax", Rows.laid_strconv_ErrSyntax), ("backstay/value.letters", Rows.laid_backstay_value_letters)] W0) : LaidO W0 := by
  have h4 := h.tail.tail.tail.tail
  have h5 := h4.tail
  have h6 := h5.tail
  refine ⟨Lib.tabIs_of_head (zs := [0, 73, 82, 70, 80]) (k := .i32) _root_.Go.Proofs.YtbnekeomdhljhaaGreatDoor.W.gLet tLet Tryz.underlying268 Tryz.underlying21 (by kernel_rfl) (by kernel_rfl) h6.tail,
    ⟨A.strs_of_head (l := A.binNs) A.gBin tBin Tryz.underlying270 Tryz.underlying9 (by kernel_rfl) (by kernel_rfl) h,
     A.strs_of_head (l := A.unNs) A.gUn tUn Tryz.underlying272 Tryz.underlying9 (by kernel_rfl) (by kernel_rfl) h.tail⟩,
    Lib.tabIs_of_head (zs := Lib.pow10Tab) (k := .u64) _root_.Go.Proofs.YtbnekeomdhljhaaGreatDoor.W.gPow tPow Tryz.underlying289 Tryz.underlying152 (by kernel_rfl) (by kernel_rfl) h4, ?_, ?_⟩
  · obtain ⟨a, s, hv, _⟩ := laid_sentinel h6 _root_.Go.Proofs.YtbnekeomdhljhaaGreatDoor.W.gSyn tSyn Tryz.underlying139 errRow Tryz.underlying299 Tryz.underlying301 rfl rfl Tryz.underlying9 (by kernel_rfl) (by kernel_rfl)
    exact ⟨_, _, hv⟩
  · obtain ⟨a, s, hv, _⟩ := laid_sentinel h5 _root_.Go.Proofs.YtbnekeomdhljhaaGreatDoor.W.gRng tRng Tryz.underlying139 errRow Tryz.underlying299 Tryz.underlying301 rfl rfl Tryz.underlying9 (by kernel_rfl) (by kernel_rfl)
    exact ⟨_, _, hv⟩

section
variable {H : Type} {enc : TypeId × Value → H} {w : World} {base b0 : Nat} {spare : Nat → Bool} {held : Bool} {r : Reach} {v : Value} {d : DataW H} {p : List MemPlace}
set_option maxRecDepth 100000 in
theorem open_inst (hv : Value.okWide Tryz.prog w r b0 74 v) (h : DataW.Trod enc Tryz.prog w base spare held 74 v d p) :
    ∃ op a b, v = .agg #[.int .i64 op, .int .i64 a, .int .i64 b] ∧ d = .agg [.lit (.int .i64 op), .lit (.int .i64 a), .lit (.int .i64 b)] ∧ p = [] ∧ I64 op ∧ I64 a ∧ I64 b := by
  obtain ⟨v0, v1, v2, y0, y1, y2, n, rfl, rfl, rfl, h0, h1, h2⟩ := Joins.open_agg3 Tryz.underlying74 (by kernel_rfl) (by kernel_rfl) hv h
  obtain ⟨a, e0, rfl, w0⟩ := DataW.trod_int Tryz.underlying3 h0
  obtain ⟨b, e1, rfl, w1⟩ := DataW.trod_int Tryz.underlying2 h1
  obtain ⟨c, e2, rfl, w2⟩ := DataW.trod_int Tryz.underlying2 h2
  injection e0 with e0 _
  injection e1 with e1 _
  injection e2 with e2 _
  subst e0 e1 e2
  exact ⟨a, b, c, rfl, rfl, rfl, i64_of_wf w0, i64_of_wf w1, i64_of_wf w2⟩
end

end Go.Proofs.YtbnekeomdhljhaaGreatDoor.O

namespace Go.Proofs.YtbnekeomdhljhaaGreatDoor.O
open Go.ChangeShapes Go.WideShapes Go.ChangeAt Go.RowKit

theorem handed_and {H : Type} {enc : TypeId × Value → H} {a : Assume} {C : Checked} {os : Os} {f : FuncId} {fn : Func} {s : ChangeSpec} {conds : List PathCond} {apart fresh handsOn again : Bool} {X : World → Array Value → Prop}
    (hX : ∀ (w w' : World) (args : Array Value), w.heap = w'.heap → X w args → X w' args) (own : ownKnob C.prog.godebug = none) (started : os.Started) (noInit : C.prog.inits.idxOf? f = none) (hfn : C.prog.funcs[f]? = some fn)
    (witness : ∃ (w : World) (tape : Tape) (i : Input), w.os = os ∧ (w.forCall tape i).Shaped C.prog ∧ i.vars = [] ∧ Input.okWide C.prog (w.forCall tape i) .any w.heap.size f i ∧
      ((s.pre enc C.prog fn conds apart (w.forCall tape i).memory i.args ∧ X (w.forCall tape i).memory i.args) ∧ sizedMet enc C.prog fn (OpenSpec.ofChange s) apart (w.forCall tape i).memory i.args) ∧ a.holds C.prog (lone (Frame.enter C.prog f i.args .normal) [] (w.forCall tape i)))
    (contract : ∀ (W : World) (base : Nat) (args : Array Value) (ds gs : List (DataW H)) (before : List MemPlace),
      (∀ (j : Nat) t v, fn.params[j]? = some t → args[j]? = some v → Value.okWide C.prog W .any base t v) → DataW.Whole enc C.prog fn.params.toList s.vars apart W args.toList ds gs before →
      W.ShapedOpen C.prog → X W args → Calls C.prog f args W fun e W' => ∃ v, e = .returned v ∧ s.post enc C.prog fn apart fresh handsOn again W args v W') :
    ReturnsInHanded a C os f .any (fun w args => (s.pre enc C.prog fn conds apart w args ∧ X w args) ∧ sizedMet enc C.prog fn (OpenSpec.ofChange s) apart w args) (s.post enc C.prog fn apart fresh handsOn again) := by
  refine returnsInHanded_of_calls own started noInit witness ?_
  intro w tape i _ hsh _ hok hpre _
  obtain ⟨_, _, _, fn', hfn', _, _, _, _, hval⟩ := hok
  obtain rfl : fn' = fn := Option.some.inj (hfn'.symm.trans hfn)
  obtain ⟨⟨⟨ds, gs, before, hw, _⟩, hx⟩, _⟩ := hpre
  refine (contract (w.forCall tape i) w.heap.size i.args ds gs before hval (DataW.Whole.of_heap (w' := w.forCall tape i) (by rfl) hw) hsh (hX _ _ _ (by rfl) hx)).mono fun e W' ⟨v, he, hp⟩ => ?_
  subst he
  exact ChangeSpec.post_blind hp

end Go.Proofs.YtbnekeomdhljhaaGreatDoor.O

namespace Go.Proofs.YtbnekeomdhljhaaGreatDoor.C
open Go.ChangeShapes Go.WideShapes Go.ChangeAt Go.RowKit Go.Deep O

theorem addr_of_cell {w : World} {a : Addr} {v : Value} (h : w.cell? a = some v) : a = ⟨a.block, a.off, none⟩ := by
  obtain ⟨b, o, s⟩ := a
  cases s with
  | none => rfl
  | some s => unfold World.cell? at h; split at h <;> simp at h
theorem add_of (b o k : Nat) : (⟨b, o, none⟩ : Addr).add k = ⟨b, o + k, none⟩ := by unfold Addr.add; by_cases hk : k = 0 <;> simp [hk]

section
variable {H : Type} {enc : TypeId × Value → H} {W : World} {base : Nat} {spare : Nat → Bool} {held : Bool} {fuel : Nat} {cs : List Value} {x : DataW H × List MemPlace}
set_option maxRecDepth 100000 in
theorem read_insts (h : DataW.trod enc Tryz.prog W base spare held fuel 25 cs = some x) : ∃ A l c, cs = [.slice A l.length c] ∧ Rd W A (iis l) ∧ l.length ≤ c ∧ c ≤ maxLen ∧ AllI l := by
  rcases open_slice Tryz.underlying25 h with ⟨hcs, _⟩ | ⟨a, len, cap, m, n, D, Pl, hcs, _, hl, hm, hmm, _, hi⟩
  · exact ⟨none, [], 0, hcs, Rd.none_ _ _, Nat.le_refl _, Nat.zero_le _, fun _ h => by simp at h⟩
  · have hlm : len ≤ m := by rw [hmm]; split <;> omega
    have cI : Tryz.prog.cellsOf 74 = 3 := by kernel_rfl
    have c3 : Tryz.prog.cellsOf 3 = 1 := by kernel_rfl
    have c2 : Tryz.prog.cellsOf 2 = 1 := by kernel_rfl
    have each : ∀ i : Nat, ∃ v : I3, i < len → W.cell? (a.add (i * 3)) = some (.int .i64 v.1) ∧ W.cell? ((a.add (i * 3)).add 1) = some (.int .i64 v.2.1) ∧ W.cell? ((a.add (i * 3)).add 2) = some (.int .i64 v.2.2) ∧ O.I64 v.2.1 ∧ O.I64 v.2.2 := by
      intro i
      by_cases hlt : i < len
      · obtain ⟨cs', hc, ht'⟩ := hi i (by omega)
        rw [cI] at hc
        obtain ⟨y0, y1, y2, k, _, hlen, h0, h1, h2⟩ := trod_struct3 Tryz.underlying74 ht'
        obtain ⟨_, hcl, hat⟩ := World.cells?_some hc
        match cs', hcl with
        | [u0, u1, u2], _ =>
          have g0 := hat 0 (by omega)
          have g1 := hat 1 (by omega)
          have g2 := hat 2 (by omega)
          obtain ⟨z0, e0, _, w0⟩ := DataW.trod_int Tryz.underlying3 h0
          obtain ⟨z1, e1, _, w1⟩ := DataW.trod_int Tryz.underlying2 h1
          obtain ⟨z2, e2, _, w2⟩ := DataW.trod_int Tryz.underlying2 h2
          simp [c3] at e0
          simp [c2] at e1
          simp [c2] at e2
          subst e0 e1 e2
          exact ⟨(z0, z1, z2), fun _ => ⟨by simpa [Addr.add] using g0, by simpa using g1, by simpa using g2, i64_of_wf w1, i64_of_wf w2⟩⟩
      · exact ⟨(0, 0, 0), fun h => absurd h hlt⟩
    obtain ⟨f, hf⟩ := Classical.axiomOfChoice each
    have hlen : ((List.range len).map f).length = len := by simp
    refine ⟨some a, (List.range len).map f, cap, by rw [hlen]; exact hcs, fun h0 => ?_, by rw [hlen]; exact hl, hm, fun v hv => ?_⟩
    · have h0' : 0 < len := by rw [iis_length, hlen] at h0; omega
      have ea := addr_of_cell (hf 0 h0').1
      have ea' : a = ⟨a.block, a.off, none⟩ := by simpa [Addr.add] using ea
      refine ⟨a.block, a.off, by rw [← ea'], fun j u hu => ?_⟩
      have hj : j < len * 3 := by have := (List.getElem?_eq_some_iff.1 hu).1; rw [iis_length, hlen] at this; exact this
      have hd : j / 3 < len := by omega
      obtain ⟨k0, k1, k2, _⟩ := hf (j / 3) hd
      obtain ⟨q0, q1, q2⟩ := iis_at ((List.range len).map f) (j / 3) (by rw [hlen]; exact hd)
      rw [ea', add_of] at k0 k1 k2
      rw [add_of] at k1 k2
      simp only [List.getElem_map, List.getElem_range] at q0 q1 q2
      have hm3 : j % 3 = 0 ∨ j % 3 = 1 ∨ j % 3 = 2 := by omega
      rcases hm3 with hr | hr | hr
      · have ej : j = j / 3 * 3 := by omega
        rw [ej, q0] at hu
        rw [ej, k0]; exact hu
      · have ej : j = j / 3 * 3 + 1 := by omega
        rw [ej, q1] at hu
        rw [ej, ← Nat.add_assoc, k1]; exact hu
      · have ej : j = j / 3 * 3 + 2 := by omega
        rw [ej, q2] at hu
        rw [ej, ← Nat.add_assoc, k2]; exact hu
    · obtain ⟨i, hi', rfl⟩ := List.mem_map.1 hv
      exact ⟨(hf i (List.mem_range.1 hi')).2.2.2.1, (hf i (List.mem_range.1 hi')).2.2.2.2⟩
end
section
variable {H : Type} {enc : TypeId × Value → H} {w : World} {base b0 : Nat} {spare : Nat → Bool} {held : Bool} {r : Reach} {v : Value} {d : DataW H} {p : List MemPlace}
set_option maxRecDepth 100000 in
theorem open_insts (hv : Value.okWide Tryz.prog w r b0 25 v) (h : DataW.Trod enc Tryz.prog w base spare held 25 v d p) : ∃ A l c, v = .slice A l.length c ∧ Rd w A (iis l) ∧ l.length ≤ c ∧ c ≤ maxLen ∧ AllI l := by
  obtain ⟨a0, len, cap, rfl⟩ := okWide_slice Tryz.underlying25 hv
  obtain ⟨fuel, hf⟩ := h
  obtain ⟨A, l, c, hcs, hr, hc, hm, hI⟩ := read_insts hf
  simp only [Value.cells, List.cons.injEq, Value.slice.injEq, and_true] at hcs
  obtain ⟨rfl, rfl, rfl⟩ := hcs
  exact ⟨_, l, _, rfl, hr, hc, hm, hI⟩
end

end Go.Proofs.YtbnekeomdhljhaaGreatDoor.C

namespace Go.Proofs.YtbnekeomdhljhaaGreatDoor.F
open Go.ChangeShapes Go.WideShapes Go.ChangeAt Go.RowKit Go.Deep W

section
variable {H : Type} {enc : TypeId × Value → H} {W0 : World} {base : Nat} {spare : Nat → Bool} {held : Bool} {fuel : Nat} {cs : List Value} {x : DataW H × List MemPlace}
theorem read_ints (h : DataW.trod enc Tryz.prog W0 base spare held fuel 22 cs = some x) : ∃ A l c, cs = [.slice A l.length c] ∧ Rd W0 A (ivs l) ∧ l.length ≤ c ∧ c ≤ maxLen := by
  rcases open_ints Tryz.underlying22 Tryz.underlying3 (by kernel_rfl) h with ⟨hcs, _⟩ | ⟨a, len, cap, zs, hcs, _, hl, hm, hz, _, hcell, _⟩
  · exact ⟨none, [], 0, hcs, Rd.none_ _ _, Nat.le_refl _, Nat.zero_le _⟩
  · have hzl : len ≤ zs.length := by rw [hz]; split <;> omega
    have hlen : (zs.take len).length = len := by rw [List.length_take]; omega
    refine ⟨some a, zs.take len, cap, by rw [hlen]; exact hcs, fun h0 => ?_, by rw [hlen]; exact hl, hm⟩
    have h0' : 0 < len := by rw [List.length_map, hlen] at h0; exact h0
    have ea := C.addr_of_cell (hcell 0 (by omega))
    have ea' : a = ⟨a.block, a.off, none⟩ := by simpa [Addr.add] using ea
    refine ⟨a.block, a.off, by rw [← ea'], fun j u hu => ?_⟩
    obtain ⟨hj, hju⟩ := List.getElem?_eq_some_iff.1 hu
    have hj' : j < len := by simp at hj; omega
    have hc := hcell j (by omega)
    rw [ea', C.add_of] at hc
    rw [hc]
    simp at hju
    rw [← hju]
    simp [List.getD, List.getElem?_eq_getElem (show j < zs.length by omega)]
set_option maxRecDepth 100000 in
theorem read_vals (h : DataW.trod enc Tryz.prog W0 base spare held fuel 53 cs = some x) : ∃ A l c, cs = [.slice A l.length c] ∧ Rd W0 A (vvs l) ∧ l.length ≤ c ∧ c ≤ maxLen := by
  rcases open_slice Tryz.underlying53 h with ⟨hcs, _⟩ | ⟨a, len, cap, m, n, D, Pl, hcs, _, hl, hm, hmm, _, hi⟩
  · exact ⟨none, [], 0, hcs, Rd.none_ _ _, Nat.le_refl _, Nat.zero_le _⟩
  · have hlm : len ≤ m := by rw [hmm]; split <;> omega
    have c35 : Tryz.prog.cellsOf 68 = 2 := by kernel_rfl
    have c3 : Tryz.prog.cellsOf 3 = 1 := by kernel_rfl
    have c2 : Tryz.prog.cellsOf 2 = 1 := by kernel_rfl
    have each : ∀ i : Nat, ∃ v : Int × Int, i < len → W0.cell? (a.add (i * 2)) = some (.int .i64 v.1) ∧ W0.cell? ((a.add (i * 2)).add 1) = some (.int .i64 v.2) := by
      intro i
      by_cases hlt : i < len
      · obtain ⟨cs', hc, ht'⟩ := hi i (by omega)
        rw [c35] at hc
        obtain ⟨y0, y1, k, _, hlen, h0, h1⟩ := trod_struct2 Tryz.underlying68 ht'
        obtain ⟨_, hcl, hat⟩ := World.cells?_some hc
        match cs', hcl with
        | [u0, u1], _ =>
          have g0 := hat 0 (by omega)
          have g1 := hat 1 (by omega)
          obtain ⟨z0, e0, _, w0⟩ := DataW.trod_int Tryz.underlying3 h0
          obtain ⟨z1, e1, _, w1⟩ := DataW.trod_int Tryz.underlying2 h1
          simp [c3] at e0
          simp [c2] at e1
          subst e0 e1
          exact ⟨(z0, z1), fun _ => ⟨by simpa [Addr.add] using g0, by simpa using g1⟩⟩
      · exact ⟨(0, 0), fun h => absurd h hlt⟩
    obtain ⟨f, hf⟩ := Classical.axiomOfChoice each
    have hlen : ((List.range len).map f).length = len := by simp
    refine ⟨some a, (List.range len).map f, cap, by rw [hlen]; exact hcs, fun h0 => ?_, by rw [hlen]; exact hl, hm⟩
    have h0' : 0 < len := by rw [vvs_length, hlen] at h0; omega
    have ea := C.addr_of_cell (hf 0 h0').1
    have ea' : a = ⟨a.block, a.off, none⟩ := by simpa [Addr.add] using ea
    refine ⟨a.block, a.off, by rw [← ea'], fun j u hu => ?_⟩
    have hj : j < len * 2 := by have := (List.getElem?_eq_some_iff.1 hu).1; rw [vvs_length, hlen] at this; exact this
    have hd : j / 2 < len := by omega
    obtain ⟨k0, k1⟩ := hf (j / 2) hd
    obtain ⟨q0, q1⟩ := vvs_at ((List.range len).map f) (j / 2) (by rw [hlen]; exact hd)
    rw [ea', C.add_of] at k0 k1
    rw [C.add_of] at k1
    simp only [List.getElem_map, List.getElem_range] at q0 q1
    rcases Nat.mod_two_eq_zero_or_one j with hr | hr
    · have ej : j = j / 2 * 2 := by omega
      rw [ej, q0] at hu
      rw [ej, k0]; exact hu
    · have ej : j = j / 2 * 2 + 1 := by omega
      rw [ej, q1] at hu
      rw [ej, ← Nat.add_assoc, k1]; exact hu
end
section
variable {H : Type} {enc : TypeId × Value → H} {w : World} {base b0 : Nat} {spare : Nat → Bool} {held : Bool} {r : Reach} {v : Value} {d : DataW H} {p : List MemPlace}
set_option maxRecDepth 100000 in
theorem open_vals (hv : Value.okWide Tryz.prog w r b0 53 v) (h : DataW.Trod enc Tryz.prog w base spare held 53 v d p) : ∃ A l c, v = .slice A l.length c ∧ Rd w A (vvs l) ∧ l.length ≤ c ∧ c ≤ maxLen := by
  obtain ⟨a0, len, cap, rfl⟩ := okWide_slice Tryz.underlying53 hv
  obtain ⟨fuel, hf⟩ := h
  obtain ⟨A, l, c, hcs, hr, hc, hm⟩ := read_vals hf
  simp only [Value.cells, List.cons.injEq, Value.slice.injEq, and_true] at hcs
  obtain ⟨rfl, rfl, rfl⟩ := hcs
  exact ⟨_, l, _, rfl, hr, hc, hm⟩
theorem array5 {α : Type} {cs : Array α} (h : cs.size = 5) : ∃ c0 c1 c2 c3 c4, cs = #[c0, c1, c2, c3, c4] := by
  obtain ⟨l⟩ := cs
  match l, h with
  | [c0, c1, c2, c3, c4], _ => exact ⟨c0, c1, c2, c3, c4, rfl⟩
set_option maxRecDepth 100000 in
theorem open_fun (hv : Value.okWide Tryz.prog w r b0 27 v) (h : DataW.Trod enc Tryz.prog w base spare held 27 v d p) : ∃ (fv : FV) (f : Fu), v = fv.val ∧ FnAt w fv f := by
  have k9 : Tryz.prog.cellsOf 9 = 1 := by kernel_rfl
  have k24 : Tryz.prog.cellsOf 24 = 2 := by kernel_rfl
  have k22 : Tryz.prog.cellsOf 22 = 1 := by kernel_rfl
  have k25 : Tryz.prog.cellsOf 25 = 1 := by kernel_rfl
  obtain ⟨cs, rfl, hsz⟩ := okWide_struct Tryz.underlying27 hv
  obtain ⟨c0, c1, c2, c3, c4, rfl⟩ := array5 (hsz.trans (by kernel_rfl))
  obtain ⟨fuel, hf⟩ := h
  obtain ⟨y0, y1, y2, y3, n, hx, _, h0, h1, h2, h3⟩ := Joins.trod_struct4 Tryz.underlying27 hf
  simp only [Value.cells, k9, k24, k22, k25, List.drop_zero, List.drop_succ_cons, List.take_succ_cons, List.take_zero] at h0 h1 h2 h3
  obtain ⟨s0, e0, _, _⟩ := DataW.trod_string Tryz.underlying9 h0
  obtain ⟨z0, z1, n1, _, _, g0, g1⟩ := trod_struct2 Tryz.underlying24 h1
  simp only [k22, List.drop_zero, List.drop_succ_cons, List.take_succ_cons, List.take_zero] at g0 g1
  obtain ⟨A, a, ca, e1, ra, _, _⟩ := read_ints g0
  obtain ⟨B, b, cb, e2, rb, _, _⟩ := read_ints g1
  obtain ⟨L, l, cl, e3, rl, _, _⟩ := read_ints h2
  obtain ⟨D, bd, cd, e4, rd, _, _, hI⟩ := C.read_insts h3
  simp only [List.cons.injEq, and_true] at e0 e1 e2 e3 e4
  subst e0 e1 e2 e3 e4
  exact ⟨⟨s0, A, a.length, ca, B, b.length, cb, L, l.length, cl, D, bd.length, cd⟩, ⟨s0.data.toList, a, b, l, bd⟩, rfl, ⟨rfl, ra, rb, rl, rd, rfl, rfl, rfl, rfl, hI⟩⟩
end

end Go.Proofs.YtbnekeomdhljhaaGreatDoor.F
