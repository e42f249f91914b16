/-
  Part 13 of the proofs of GLoopsRow, GReachRow, GMustRow, GNamesRow: what is laid, and what the functions that the law runs answer. Conditions: each theorem names its own.
-/
import Derived.ChangeSame
import Derived.Deep.Fields
import Derived.Deep.Slices
import Derived.Deep.Strs
import Derived.HandedShaped
import Derived.Lib.LaidTab
import Derived.ProofKit
import Derived.Shelf.Vars
import Derived.SizedLaws
import Derived.Stop.LaidErr
import Derived.Test.YtghdibbooegocaaGreatDoorRows
import Derived.Test.YtghdibbooegocaaGreatDoorQA10
namespace Go.Proofs.YtghdibbooegocaaGreatDoor.O
open Go.ChangeShapes Go.WideShapes Go.ChangeAt Go.RowKit

theorem seatOwn : ownKnob Tryz.prog.godebug = none := by kernel_rfl
theorem seatLaidOut : laidOutB Tryz.prog = true := by kernel_rfl
theorem i64_of_wf {n : Int} (h : (Lit.int .i64 n).wf = true) : I64 n := by
 have hmin : IntKind.i64.min = -9223372036854775808 := rfl
 have hmax : IntKind.i64.max = 9223372036854775807 := rfl
 simp only [Lit.wf, Bool.and_eq_true, decide_eq_true_eq] at h
 unfold I64; omega
theorem tLet : (Tryz.prog.globals[1]?).map (·.type) = some 138 := by kernel_rfl
theorem tPow : (Tryz.prog.globals[4]?).map (·.type) = some 159 := by kernel_rfl
theorem tSyn : (Tryz.prog.globals[5]?).map (·.type) = some 135 := by kernel_rfl
theorem tRng : (Tryz.prog.globals[6]?).map (·.type) = some 135 := by kernel_rfl
theorem tBin : (Tryz.prog.globals[2]?).map (·.type) = some 140 := by kernel_rfl
theorem tUn : (Tryz.prog.globals[3]?).map (·.type) = some 142 := by kernel_rfl
theorem errStar : "*" ++ "errors.errorString" = "*errors.errorString" := by decide
theorem errRow (u : TypeId) (h : Tryz.prog.typeName? 3 u = some "*errors.errorString") : u = 168 :=
 typeName_ptr_named (nm := "errors.errorString") (by rw [errStar]; kernel_rfl) (by kernel_rfl) (by decide) u (by rw [errStar]; exact h)

set_option maxRecDepth 100000 in
theorem laidO_of {W0 : World} {x y : String × DataW Unit}
  (h : laidMet Tryz.prog [("backstay/alu.binNames", Rows.laid_backstay_alu_binNames), ("backstay/alu.unNames", Rows.laid_backstay_alu_unNames), x, y, ("internal/strconv.uint64pow10", Rows.laid_internal_strconv_uint64pow10), ("strconv.ErrRange", Rows.laid_strconv_ErrRange), ("strconv.ErrSyntax", Rows.laid_strconv_ErrSyntax), ("backstay/value.letters", Rows.laid_backstay_value_letters)] W0) : LaidO W0 := by
 have h4 := h.tail.tail.tail.tail
 have h5 := h4.tail
 have h6 := h5.tail
 refine ⟨Lib.tabIs_of_head (zs := [0, 73, 82, 70, 80]) (k := .i32) _root_.Go.Proofs.YtghdibbooegocaaGreatDoor.W.gLet tLet Tryz.underlying138 Tryz.underlying21 (by kernel_rfl) (by kernel_rfl) h6.tail,
  ⟨A.strs_of_head (l := A.binNs) A.gBin tBin Tryz.underlying140 Tryz.underlying9 (by kernel_rfl) (by kernel_rfl) h,
  A.strs_of_head (l := A.unNs) A.gUn tUn Tryz.underlying142 Tryz.underlying9 (by kernel_rfl) (by kernel_rfl) h.tail⟩,
  Lib.tabIs_of_head (zs := Lib.pow10Tab) (k := .u64) _root_.Go.Proofs.YtghdibbooegocaaGreatDoor.W.gPow tPow Tryz.underlying159 Tryz.underlying98 (by kernel_rfl) (by kernel_rfl) h4, ?_, ?_⟩
 ·obtain ⟨a, s, hv, _⟩ := laid_sentinel h6 _root_.Go.Proofs.YtghdibbooegocaaGreatDoor.W.gSyn tSyn Tryz.underlying135 errRow Tryz.underlying168 Tryz.underlying170 rfl rfl Tryz.underlying9 (by kernel_rfl) (by kernel_rfl)
  exact ⟨_, _, hv⟩
 ·obtain ⟨a, s, hv, _⟩ := laid_sentinel h5 _root_.Go.Proofs.YtghdibbooegocaaGreatDoor.W.gRng tRng Tryz.underlying135 errRow Tryz.underlying168 Tryz.underlying170 rfl rfl Tryz.underlying9 (by kernel_rfl) (by kernel_rfl)
  exact ⟨_, _, hv⟩

section
variable {H : Type} {enc : TypeId × Value → H} {w : World} {base b0 : Nat} {spare : Nat → Bool} {held : Bool} {r : Reach} {v : Value} {d : DataW H} {p : List MemPlace}
end

end Go.Proofs.YtghdibbooegocaaGreatDoor.O

namespace Go.Proofs.YtghdibbooegocaaGreatDoor.C
open Go.ChangeShapes Go.WideShapes Go.ChangeAt Go.RowKit Go.Deep O

theorem addr_of_cell {w : World} {a : Addr} {v : Value} (h : w.cell? a = some v) : a = ⟨a.block, a.off, none⟩ := by
 obtain ⟨b, o, s⟩ := a
 cases s with
 | none => rfl
 | some s => unfold World.cell? at h; split at h <;> simp at h
theorem add_of (b o k : Nat) : (⟨b, o, none⟩ : Addr).add k = ⟨b, o + k, none⟩ := by unfold Addr.add; by_cases hk : k = 0 <;> simp [hk]

section
variable {H : Type} {enc : TypeId × Value → H} {W : World} {base : Nat} {spare : Nat → Bool} {held : Bool} {fuel : Nat} {cs : List Value} {x : DataW H × List MemPlace}
set_option maxRecDepth 100000 in
theorem read_insts (h : DataW.trod enc Tryz.prog W base spare held fuel 22 cs = some x) : ∃ A l c, cs = [.slice A l.length c] ∧ Rd W A (iis l) ∧ l.length ≤ c ∧ c ≤ maxLen ∧ AllI l := by
 rcases open_slice Tryz.underlying22 h with ⟨hcs, _⟩ | ⟨a, len, cap, m, n, D, Pl, hcs, _, hl, hm, hmm, _, hi⟩
 ·exact ⟨none, [], 0, hcs, Rd.none_ _ _, Nat.le_refl _, Nat.zero_le _, fun _ h => by simp at h⟩
 ·have hlm : len ≤ m := by rw [hmm]; split <;> omega
  have cI : Tryz.prog.cellsOf 45 = 3 := by kernel_rfl
  have c3 : Tryz.prog.cellsOf 3 = 1 := by kernel_rfl
  have c2 : Tryz.prog.cellsOf 2 = 1 := by kernel_rfl
  have each : ∀ i : Nat, ∃ v : I3, i < len → W.cell? (a.add (i * 3)) = some (.int .i64 v.1) ∧ W.cell? ((a.add (i * 3)).add 1) = some (.int .i64 v.2.1) ∧ W.cell? ((a.add (i * 3)).add 2) = some (.int .i64 v.2.2) ∧ O.I64 v.2.1 ∧ O.I64 v.2.2 := by
   intro i
   by_cases hlt : i < len
   ·obtain ⟨cs', hc, ht'⟩ := hi i (by omega)
    rw [cI] at hc
    obtain ⟨y0, y1, y2, k, _, hlen, h0, h1, h2⟩ := trod_struct3 Tryz.underlying45 ht'
    obtain ⟨_, hcl, hat⟩ := World.cells?_some hc
    match cs', hcl with
    | [u0, u1, u2], _ =>
     have g0 := hat 0 (by omega)
     have g1 := hat 1 (by omega)
     have g2 := hat 2 (by omega)
     obtain ⟨z0, e0, _, w0⟩ := DataW.trod_int Tryz.underlying3 h0
     obtain ⟨z1, e1, _, w1⟩ := DataW.trod_int Tryz.underlying2 h1
     obtain ⟨z2, e2, _, w2⟩ := DataW.trod_int Tryz.underlying2 h2
     simp [c3] at e0
     simp [c2] at e1
     simp [c2] at e2
     subst e0 e1 e2
     exact ⟨(z0, z1, z2), fun _ => ⟨by simpa [Addr.add] using g0, by simpa using g1, by simpa using g2, i64_of_wf w1, i64_of_wf w2⟩⟩
   ·exact ⟨(0, 0, 0), fun h => absurd h hlt⟩
  obtain ⟨f, hf⟩ := Classical.axiomOfChoice each
  have hlen : ((List.range len).map f).length = len := by simp
  refine ⟨some a, (List.range len).map f, cap, by rw [hlen]; exact hcs, fun h0 => ?_, by rw [hlen]; exact hl, hm, fun v hv => ?_⟩
  ·have h0' : 0 < len := by rw [iis_length, hlen] at h0; omega
   have ea := addr_of_cell (hf 0 h0').1
   have ea' : a = ⟨a.block, a.off, none⟩ := by simpa [Addr.add] using ea
   refine ⟨a.block, a.off, by rw [← ea'], fun j u hu => ?_⟩
   have hj : j < len * 3 := by have := (List.getElem?_eq_some_iff.1 hu).1; rw [iis_length, hlen] at this; exact this
   have hd : j / 3 < len := by omega
   obtain ⟨k0, k1, k2, _⟩ := hf (j / 3) hd
   obtain ⟨q0, q1, q2⟩ := iis_at ((List.range len).map f) (j / 3) (by rw [hlen]; exact hd)
   rw [ea', add_of] at k0 k1 k2
   rw [add_of] at k1 k2
   simp only [List.getElem_map, List.getElem_range] at q0 q1 q2
   have hm3 : j % 3 = 0 ∨ j % 3 = 1 ∨ j % 3 = 2 := by omega
   rcases hm3 with hr | hr | hr
   ·have ej : j = j / 3 * 3 := by omega
    rw [ej, q0] at hu
    rw [ej, k0]; exact hu
   ·have ej : j = j / 3 * 3 + 1 := by omega
    rw [ej, q1] at hu
    rw [ej, ← Nat.add_assoc, k1]; exact hu
   ·have ej : j = j / 3 * 3 + 2 := by omega
    rw [ej, q2] at hu
    rw [ej, ← Nat.add_assoc, k2]; exact hu
  ·obtain ⟨i, hi', rfl⟩ := List.mem_map.1 hv
   exact ⟨(hf i (List.mem_range.1 hi')).2.2.2.1, (hf i (List.mem_range.1 hi')).2.2.2.2⟩
end
section
variable {H : Type} {enc : TypeId × Value → H} {w : World} {base b0 : Nat} {spare : Nat → Bool} {held : Bool} {r : Reach} {v : Value} {d : DataW H} {p : List MemPlace}
set_option maxRecDepth 100000 in
theorem open_insts (hv : Value.okWide Tryz.prog w r b0 22 v) (h : DataW.Trod enc Tryz.prog w base spare held 22 v d p) : ∃ A l c, v = .slice A l.length c ∧ Rd w A (iis l) ∧ l.length ≤ c ∧ c ≤ maxLen ∧ AllI l := by
 obtain ⟨a0, len, cap, rfl⟩ := okWide_slice Tryz.underlying22 hv
 obtain ⟨fuel, hf⟩ := h
 obtain ⟨A, l, c, hcs, hr, hc, hm, hI⟩ := read_insts hf
 simp only [Value.cells, List.cons.injEq, Value.slice.injEq, and_true] at hcs
 obtain ⟨rfl, rfl, rfl⟩ := hcs
 exact ⟨_, l, _, rfl, hr, hc, hm, hI⟩
end

end Go.Proofs.YtghdibbooegocaaGreatDoor.C

namespace Go.Proofs.YtghdibbooegocaaGreatDoor.V
open Go.ChangeShapes Go.WideShapes Go.ChangeAt Go.RowKit

section
variable {H : Type} {enc : TypeId × Value → H} {w : World} {base b0 : Nat} {spare : Nat → Bool} {held : Bool} {r : Reach} {v : Value} {d : DataW H} {p : List MemPlace}
end

end Go.Proofs.YtghdibbooegocaaGreatDoor.V

namespace Go.Proofs.YtghdibbooegocaaGreatDoor.O
open Go.ChangeShapes Go.WideShapes Go.ChangeAt Go.RowKit

theorem handed_and {H : Type} {enc : TypeId × Value → H} {a : Assume} {C : Checked} {os : Os} {f : FuncId} {fn : Func} {s : ChangeSpec} {conds : List PathCond} {apart fresh handsOn again : Bool} {X : World → Array Value → Prop}
  (hX : ∀ (w w' : World) (args : Array Value), w.heap = w'.heap → X w args → X w' args) (own : ownKnob C.prog.godebug = none) (started : os.Started) (noInit : C.prog.inits.idxOf? f = none) (hfn : C.prog.funcs[f]? = some fn)
  (witness : ∃ (w : World) (tape : Tape) (i : Input), w.os = os ∧ (w.forCall tape i).Shaped C.prog ∧ i.vars = [] ∧ Input.okWide C.prog (w.forCall tape i) .any w.heap.size f i ∧
   ((s.pre enc C.prog fn conds apart (w.forCall tape i).memory i.args ∧ X (w.forCall tape i).memory i.args) ∧ sizedMet enc C.prog fn (OpenSpec.ofChange s) apart (w.forCall tape i).memory i.args) ∧ a.holds C.prog (lone (Frame.enter C.prog f i.args .normal) [] (w.forCall tape i)))
  (contract : ∀ (W : World) (base : Nat) (args : Array Value) (ds gs : List (DataW H)) (before : List MemPlace),
   (∀ (j : Nat) t v, fn.params[j]? = some t → args[j]? = some v → Value.okWide C.prog W .any base t v) → DataW.Whole enc C.prog fn.params.toList s.vars apart W args.toList ds gs before →
   W.ShapedOpen C.prog → X W args → Calls C.prog f args W fun e W' => ∃ v, e = .returned v ∧ s.post enc C.prog fn apart fresh handsOn again W args v W') :
  ReturnsInHanded a C os f .any (fun w args => (s.pre enc C.prog fn conds apart w args ∧ X w args) ∧ sizedMet enc C.prog fn (OpenSpec.ofChange s) apart w args) (s.post enc C.prog fn apart fresh handsOn again) := by
 refine returnsInHanded_of_calls own started noInit witness ?_
 intro w tape i _ hsh _ hok hpre _
 obtain ⟨_, _, _, fn', hfn', _, _, _, _, hval⟩ := hok
 obtain rfl : fn' = fn := Option.some.inj (hfn'.symm.trans hfn)
 obtain ⟨⟨⟨ds, gs, before, hw, _⟩, hx⟩, _⟩ := hpre
 refine (contract (w.forCall tape i) w.heap.size i.args ds gs before hval (DataW.Whole.of_heap (w' := w.forCall tape i) (by rfl) hw) hsh (hX _ _ _ (by rfl) hx)).mono fun e W' ⟨v, he, hp⟩ => ?_
 subst he
 exact ChangeSpec.post_blind hp

theorem cutAt_of {w : World} (h : w.ShapedOpen Tryz.prog) : CutAt w :=
 cell_of_shapedOpen_int (t := 3) (zero := #[.int .i64 0]) h (by decide +kernel) (by kernel_rfl) rfl (by kernel_rfl) (by kernel_rfl) Tryz.underlying3

end Go.Proofs.YtghdibbooegocaaGreatDoor.O
