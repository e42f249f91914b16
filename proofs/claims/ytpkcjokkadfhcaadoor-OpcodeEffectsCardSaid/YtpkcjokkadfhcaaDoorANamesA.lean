/-
  The document's own lists of names, what is found in them, and what stands in them. No conditions but bounds.
-/
import Derived.Test.YtpkcjokkadfhcaaDoorKMem
import Derived.Lib.Hide
import Derived.WalkLawsBesides
import Derived.Deep.RegionWith
namespace Go.Proofs.YtpkcjokkadfhcaaDoor.A
open Go.RowKit

abbrev str (l : List UInt8) : ByteArray := ⟨l.toArray⟩
/-- Texts as cells. -/
abbrev svs (l : List (List UInt8)) : List Value := l.map fun s => .string (str s)
/-- The number of a name; 0, if there is none. -/
def ofI (l : List (List UInt8)) (s : List UInt8) : Int := if s ∈ l then (l.idxOf s : Int) else 0
def ofE (l : List (List UInt8)) (s : List UInt8) : Int := if s ∈ l then 0 else 30
/-- The name of a number; nothing, if there is none. -/
def nameAt (l : List (List UInt8)) (n : Int) : List UInt8 := if 0 ≤ n then l.getD n.toNat [] else []

theorem rdS_at {w : World} {A : Option Addr} {l : List (List UInt8)} (h : Rd w A (svs l)) (h0 : 0 < l.length) : ∃ g off, A = some ⟨g, off, none⟩ ∧ ∀ (i : Nat) (hi : i < l.length), w.cell? ⟨g, off + i, none⟩ = some (.string (str l[i])) := by
  obtain ⟨g, off, e, hc⟩ := h (by simpa using h0)
  exact ⟨g, off, e, fun i hi => hc i _ (by simp [hi])⟩

theorem getD_at {l : List (List UInt8)} {k : Nat} (hk : k < l.length) : l.getD k [] = l[k] := by rw [List.getD_eq_getElem?_getD, List.getElem?_eq_getElem hk]; rfl
theorem getD_past {l : List (List UInt8)} {k : Nat} (hk : l.length ≤ k) : l.getD k [] = [] := by rw [List.getD_eq_getElem?_getD, List.getElem?_eq_none hk]; rfl
theorem of_hit {l : List (List UInt8)} {s : List UInt8} {k : Nat} (hk : k < l.length) (he : l[k] = s) (hb : ∀ j (_ : j < k), l.getD j [] ≠ s) : ofI l s = (k : Int) ∧ ofE l s = 0 := by
  have hm : s ∈ l := by rw [← he]; exact List.getElem_mem hk
  have hi : l.idxOf s = k := by
    have h1 : l.idxOf s < l.length := List.idxOf_lt_length_iff.2 hm
    have h2 : l[l.idxOf s] = s := List.getElem_idxOf h1
    rcases Nat.lt_trichotomy (l.idxOf s) k with h | h | h
    · exact absurd (by rw [getD_at h1]; exact h2) (hb _ h)
    · exact h
    · exact absurd he (by
        have := List.not_of_lt_findIdx (p := (· == s)) (xs := l) (i := k) h
        simpa using this)
  unfold ofI ofE
  rw [if_pos hm, if_pos hm, hi]; exact ⟨rfl, rfl⟩
theorem of_miss {l : List (List UInt8)} {s : List UInt8} (hb : ∀ j (_ : j < l.length), l.getD j [] ≠ s) : ofI l s = 0 ∧ ofE l s = 30 := by
  have hm : ¬ s ∈ l := fun h => by
    obtain ⟨i, hi, he⟩ := List.mem_iff_getElem.1 h
    exact hb i hi (by rw [getD_at hi]; exact he)
  unfold ofI ofE
  rw [if_neg hm, if_neg hm]; exact ⟨rfl, rfl⟩

theorem ret2 {a a' b b' : Int} (h1 : a = a') (h2 : b = b') : Ending.returned (.tuple #[.int .i64 a, .int .i64 b]) = .returned (.tuple #[.int .i64 a', .int .i64 b']) := by rw [h1, h2]

end Go.Proofs.YtpkcjokkadfhcaaDoor.A
