/-
  A region that draws its order, whose operations read, and whose calls may make memory but leave all that lay as it lay: one walk in the order of the text serves every order. No program, no conditions.
-/
import Derived.Test.YtpkcjokkadfhcaaDoorKMem
import Derived.BigQuiet
namespace Go.Proofs.YtpkcjokkadfhcaaDoor
open Go.RowKit

/-- A world that keeps all that lay in w0. -/
structure KW (w0 : World) where
  w : World
  keep : Keep NoB w0 w
instance kwNonempty (w0 : World) : Nonempty (KW w0) := ⟨⟨w0, Keep.refl _ _⟩⟩

theorem wp_region_kept {P : Program} {id : Nat} {Q : Exit → Act → World → Prop} {a : Act} {w : World} {l : List Oper} (w0 : World) (hm : P.follows .mixedOrders = true) (hB : Region.lexB .any l.toArray = true) (hw : Keep NoB w0 w)
    (h : wpQuiet P l.toArray (fun w' => ∃ n : KW w0, w' = n.w) (fun a' => ∀ w', (∃ n : KW w0, w' = n.w) → Q .normal a' w') l a) : (Code.region id l.toArray true).wp P Q a w :=
  wp_region_quiet (C := fun w' => ∃ n : KW w0, w' = n.w) hm hB ⟨⟨_, hw.drew⟩, rfl⟩ (by simpa using h)

/-- A callee's contract, met in such a world. -/
theorem kept_of {P : Program} {f : FuncId} {args : Array Value} {w0 : World} {n : KW w0} {v : Value}
    (h : Calls P f args n.w fun e w' => e = .returned v ∧ Keep NoB n.w w') : Calls P f args n.w fun e w'' => e = .returned v ∧ ∃ m : KW w0, w'' = m.w :=
  h.mono fun _ _ ⟨he, hk⟩ => ⟨he, ⟨_, keepN n.keep hk⟩, rfl⟩

/-- A cell that lay in w0 lies in each such world. -/
theorem KW.cell {w0 : World} {p : Addr} {v : Value} (h : w0.cell? p = some v) (n : KW w0) : n.w.cell? p = some v := n.keep.cell h id

end Go.Proofs.YtpkcjokkadfhcaaDoor
