/-
  An array of strings among the listed package-level variables, as a list of texts. No conditions.
-/
import Derived.Test.YtpkcjokkadfhcaaDoorANamesA
import Derived.LaidMore
import Derived.LaidLaws
import Derived.OpenShut
import Derived.Lib.SmallJoins
namespace Go.Proofs.YtpkcjokkadfhcaaDoor.A
open Go.ChangeShapes Go.WideShapes Go.ChangeAt Go.RowKit

/-- Texts as a datum. -/
def strD (l : List (List UInt8)) : DataW Unit := .agg (l.map fun s => .lit (.string s))

theorem strs_of_head {P : Program} {W : World} {name : String} {l : List (List UInt8)} {rest : List (String × DataW Unit)} {g : Nat} {t e : TypeId} {n : Nat}
    (hg : P.globalNamed name = some g) (hty : (P.globals[g]?).map (·.type) = some t) (ht : P.underlying t = some (.array n e)) (he : P.underlying e = some .string) (hce : P.cellsOf e = 1) (hct : P.cellsOf t = n)
    (h : laidMet P ((name, strD l) :: rest) W) : W.var? P name = some (svs l).toArray := by
  obtain ⟨ps, ⟨g', t', cs, fuel, p, q, hg', ht', hvar, hd, _, _⟩, _⟩ := h
  obtain rfl := Option.some.inj (hg.symm.trans hg')
  obtain rfl := Option.some.inj (hty.symm.trans ht')
  obtain ⟨xs, m, _, ex, hlen, hl, hel⟩ := DataW.trod_array ht hd
  rw [hct] at hlen
  rw [hce] at hel
  have e3 : l.map (fun s => (DataW.lit (.string s) : DataW Unit)) = xs.map (·.1) := DataW.agg.inj (Prod.mk.inj ex).1
  have hll : l.length = n := by have := congrArg List.length e3; simpa [hl] using this
  have key : cs.toList = svs l := by
    refine List.ext_getElem (by simp [hlen, hll]) fun i h1 h2 => ?_
    have hin : i < n := by rw [← hlen]; exact h1
    have k := hel i hin
    have hix : i < xs.length := by rw [hl]; exact hin
    rw [List.getElem?_eq_getElem hix, Nat.mul_one, List.drop_eq_getElem_cons h1] at k
    obtain ⟨z, a0, b0, _⟩ := DataW.trod_string he k
    have a1 : cs.toList[i] = .string z := by simpa using a0
    have hil : i < l.length := by rw [hll]; exact hin
    have b1 : (DataW.lit (.string l[i]) : DataW Unit) = (xs[i]).1 := by
      have := congrArg (fun y => y[i]?) e3
      simpa [hil, hix] using this
    rw [b0] at b1
    simp only [DataW.lit.injEq, Lit.string.injEq] at b1
    rw [a1, List.getElem_map, b1]
  rw [hvar]
  have : cs = (svs l).toArray := by rw [← key]
  rw [this]

theorem strs_cell {P : Program} {W : World} {name : String} {l : List (List UInt8)} {g : Nat} (hg : P.globalNamed name = some g) (h : W.var? P name = some (svs l).toArray) (i : Nat) (hi : i < l.length) :
    W.cell? ⟨g, i, none⟩ = some (.string (str l[i])) := by
  have := World.var?_cell hg h i
  simpa [hi] using this

end Go.Proofs.YtpkcjokkadfhcaaDoor.A
