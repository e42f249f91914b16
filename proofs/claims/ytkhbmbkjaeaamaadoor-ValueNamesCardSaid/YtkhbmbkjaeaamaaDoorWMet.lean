/-
  From the rows' condition on the listed package-level variables to what the walks ask of them; and the door's own heap meets it. No conditions.
-/
import Derived.Test.YtkhbmbkjaeaamaaDoorWShow2
import Derived.Test.YtkhbmbkjaeaamaaDoorRows
import Derived.Lib.LaidTab
import Derived.LaidMore
import Derived.LaidLaws
import Derived.OpenShut
import Derived.Stop.LaidErr
namespace Go.Proofs.YtkhbmbkjaeaamaaDoor
open Go.ChangeShapes Go.WideShapes Go.ChangeAt Go.RowKit

theorem tLet : (Tryd.prog.globals[0]?).map (·.type) = some 60 := by kernel_rfl
theorem tSig : (Tryd.prog.globals[1]?).map (·.type) = some 73 := by kernel_rfl
theorem tPow : (Tryd.prog.globals[2]?).map (·.type) = some 114 := by kernel_rfl
theorem tSyn : (Tryd.prog.globals[4]?).map (·.type) = some 66 := by kernel_rfl
theorem tRng : (Tryd.prog.globals[5]?).map (·.type) = some 66 := by kernel_rfl
theorem errStar : "*" ++ "errors.errorString" = "*errors.errorString" := by decide
theorem errRow (u : TypeId) (h : Tryd.prog.typeName? 3 u = some "*errors.errorString") : u = 124 :=
  typeName_ptr_named (nm := "errors.errorString") (by rw [errStar]; kernel_rfl) (by kernel_rfl) (by decide) u (by rw [errStar]; exact h)

theorem letAt_of {rest : List (String × DataW Unit)} {W : World} (h : laidMet Tryd.prog (("backstay/value.letters", Rows.laid_backstay_value_letters) :: rest) W) : LetAt W :=
  Lib.tabIs_of_head (zs := [0, 73, 82, 70, 80]) (k := .i32) gLet tLet Tryd.underlying60 Tryd.underlying21 (by kernel_rfl) (by kernel_rfl) h

set_option maxRecDepth 100000 in
theorem sig_of {rest : List (String × DataW Unit)} {W : World} (h : laidMet Tryd.prog (("backstay/value.signs", Rows.laid_backstay_value_signs) :: rest) W) : W.var? Tryd.prog "backstay/value.signs" = some sigV := by
  obtain ⟨ps, ⟨g, t, cs, fuel, p, q, hg, ht, hv, hd, _, _⟩, _, _⟩ := h
  obtain rfl := Option.some.inj (gSig.symm.trans hg)
  obtain rfl := Option.some.inj (tSig.symm.trans ht)
  have c5 : Tryd.prog.cellsOf 9 = 1 := by kernel_rfl
  have c29 : Tryd.prog.cellsOf 73 = 5 := by kernel_rfl
  obtain ⟨xs, m, _, ex, hlen, hl, hel⟩ := DataW.trod_array Tryd.underlying73 hd
  rw [c29] at hlen
  obtain ⟨l⟩ := cs
  match l, hlen with
  | [a, b, c, d, e], _ =>
    match xs, hl with
    | [x0, x1, x2, x3, x4], _ =>
      have e3 := (DataW.agg.inj (Prod.mk.inj ex).1)
      simp only [List.map_cons, List.map_nil, List.cons.injEq, and_true] at e3
      obtain ⟨q0, q1, q2, q3, q4⟩ := e3
      have k0 := hel 0 (by omega); have k1 := hel 1 (by omega); have k2 := hel 2 (by omega); have k3 := hel 3 (by omega); have k4 := hel 4 (by omega)
      rw [c5] at k0 k1 k2 k3 k4
      obtain ⟨z0, a0, b0, _⟩ := DataW.trod_string Tryd.underlying9 k0
      obtain ⟨z1, a1, b1, _⟩ := DataW.trod_string Tryd.underlying9 k1
      obtain ⟨z2, a2, b2, _⟩ := DataW.trod_string Tryd.underlying9 k2
      obtain ⟨z3, a3, b3, _⟩ := DataW.trod_string Tryd.underlying9 k3
      obtain ⟨z4, a4, b4, _⟩ := DataW.trod_string Tryd.underlying9 k4
      subst b0 b1 b2 b3 b4
      simp only [DataW.lit.injEq, Lit.string.injEq] at q0 q1 q2 q3 q4
      have bs : ∀ (z : ByteArray) (l : List UInt8), l = z.data.toList → z = ⟨l.toArray⟩ := by rintro ⟨⟨z⟩⟩ l rfl; rfl
      rw [hv]
      obtain rfl := bs z0 _ q0
      obtain rfl := bs z1 _ q1
      obtain rfl := bs z2 _ q2
      obtain rfl := bs z3 _ q3
      obtain rfl := bs z4 _ q4
      have e0 : a = .string ⟨[].toArray⟩ := by simpa using a0
      have e1 : b = .string ⟨[].toArray⟩ := by simpa using a1
      have e2 : c = .string ⟨[35].toArray⟩ := by simpa using a2
      have e3 : d = .string ⟨[64].toArray⟩ := by simpa using a3
      have e4 : e = .string ⟨[38].toArray⟩ := by simpa using a4
      rw [e0, e1, e2, e3, e4]
      rfl

set_option maxRecDepth 100000 in
theorem laid_of {rest : List (String × DataW Unit)} {x y : String × DataW Unit} {W : World}
    (h : laidMet Tryd.prog (x :: y :: ("internal/strconv.uint64pow10", Rows.laid_internal_strconv_uint64pow10) :: ("strconv.ErrRange", Rows.laid_strconv_ErrRange) :: ("strconv.ErrSyntax", Rows.laid_strconv_ErrSyntax) :: ("backstay/value.signs", Rows.laid_backstay_value_signs) :: rest) W) : Laid W := by
  have h2 := h.tail.tail
  have h3 := h2.tail
  have h4 := h3.tail
  have h5 := h4.tail
  refine ⟨sig_of h5, Lib.tabIs_of_head (zs := Lib.pow10Tab) (k := .u64) gPow tPow Tryd.underlying114 Tryd.underlying91 (by kernel_rfl) (by kernel_rfl) h2, ?_, ?_⟩
  · obtain ⟨a, s, hv, _⟩ := laid_sentinel h4 gSyn tSyn Tryd.underlying66 errRow Tryd.underlying124 Tryd.underlying126 rfl rfl Tryd.underlying9 (by kernel_rfl) (by kernel_rfl)
    exact ⟨_, _, hv⟩
  · obtain ⟨a, s, hv, _⟩ := laid_sentinel h3 gRng tRng Tryd.underlying66 errRow Tryd.underlying124 Tryd.underlying126 rfl rfl Tryd.underlying9 (by kernel_rfl) (by kernel_rfl)
    exact ⟨_, _, hv⟩

end Go.Proofs.YtkhbmbkjaeaamaaDoor
