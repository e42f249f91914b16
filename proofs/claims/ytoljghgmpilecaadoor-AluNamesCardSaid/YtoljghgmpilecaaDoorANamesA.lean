/-
  The document's own lists of names, what is found in them, and what stands in them. No conditions but bounds.
-/
import Derived.Test.YtoljghgmpilecaaDoorKMem
import Derived.Lib.Hide
import Derived.WalkLawsBesides
import Derived.Deep.RegionWith
namespace Go.Proofs.YtoljghgmpilecaaDoor
open Go.RowKit

abbrev str (l : List UInt8) : ByteArray := ⟨l.toArray⟩
/-- Texts as cells. -/
abbrev svs (l : List (List UInt8)) : List Value := l.map fun s => .string (str s)
/-- The number of a name; 0, if there is none. -/
def ofI (l : List (List UInt8)) (s : List UInt8) : Int := if s ∈ l then (l.idxOf s : Int) else 0
def ofE (l : List (List UInt8)) (s : List UInt8) : Int := if s ∈ l then 0 else 30
/-- The name of a number; nothing, if there is none. -/
def nameAt (l : List (List UInt8)) (n : Int) : List UInt8 := if 0 ≤ n then l.getD n.toNat [] else []

theorem rdS_at {w : World} {A : Option Addr} {l : List (List UInt8)} (h : Rd w A (svs l)) (h0 : 0 < l.length) : ∃ g off, A = some ⟨g, off, none⟩ ∧ ∀ (i : Nat) (hi : i < l.length), w.cell? ⟨g, off + i, none⟩ = some (.string (str l[i])) := by
  obtain ⟨g, off, e, hc⟩ := h (by simpa using h0)
  exact ⟨g, off, e, fun i hi => hc i _ (by simp [hi])⟩

theorem getD_at {l : List (List UInt8)} {k : Nat} (hk : k < l.length) : l.getD k [] = l[k] := by rw [List.getD_eq_getElem?_getD, List.getElem?_eq_getElem hk]; rfl
theorem getD_past {l : List (List UInt8)} {k : Nat} (hk : l.length ≤ k) : l.getD k [] = [] := by rw [List.getD_eq_getElem?_getD, List.getElem?_eq_none hk]; rfl
theorem of_hit {l : List (List UInt8)} {s : List UInt8} {k : Nat} (hk : k < l.length) (he : l[k] = s) (hb : ∀ j (_ : j < k), l.getD j [] ≠ s) : ofI l s = (k : Int) ∧ ofE l s = 0 := by
  have hm : s ∈ l := by rw [← he]; exact List.getElem_mem hk
  have hi : l.idxOf s = k := by
    have h1 : l.idxOf s < l.length := List.idxOf_lt_length_iff.2 hm
    have h2 : l[l.idxOf s] = s := List.getElem_idxOf h1
    rcases Nat.lt_trichotomy (l.idxOf s) k with h | h | h
    · exact absurd (by rw [getD_at h1]; exact h2) (hb _ h)
    · exact h
    · exact absurd he (by
        have := List.not_of_lt_findIdx (p := (· == s)) (xs := l) (i := k) h
        simpa using this)
  unfold ofI ofE
  rw [if_pos hm, if_pos hm, hi]; exact ⟨rfl, rfl⟩
theorem of_miss {l : List (List UInt8)} {s : List UInt8} (hb : ∀ j (_ : j < l.length), l.getD j [] ≠ s) : ofI l s = 0 ∧ ofE l s = 30 := by
  have hm : ¬ s ∈ l := fun h => by
    obtain ⟨i, hi, he⟩ := List.mem_iff_getElem.1 h
    exact hb i hi (by rw [getD_at hi]; exact he)
  unfold ofI ofE
  rw [if_neg hm, if_neg hm]; exact ⟨rfl, rfl⟩

theorem ret2 {a a' b b' : Int} (h1 : a = a') (h2 : b = b') : Ending.returned (.tuple #[.int .i64 a, .int .i64 b]) = .returned (.tuple #[.int .i64 a', .int .i64 b']) := by rw [h1, h2]

set_option maxHeartbeats 4000000 in
theorem rof_any (A : Option Addr) (l : List (List UInt8)) (n c : Nat) (S : ByteArray) (s : List UInt8) (w : World) (ha : Rd w A (svs l)) (hn : Hid (l.length = n)) (h1 : n ≤ 100000) (hs : Hid (S.data.toList = s)) :
    Calls Tryd.prog 6 #[.slice A n c, .string S] w fun e w' => e = .returned (.tuple #[.int .i64 (ofI l s), .int .i64 (ofE l s)]) ∧ w = w' := by
  have hS : S.toList = s := by rw [ByteArray.toList_eq, hs.out]
  go_enter Tryd.func6, Tryd.ntmps6
  go_wp2
  go_loop [6] (fun i => ∃ k : Nat, k ≤ n ∧ i = .int .i64 (k : Int) ∧ Hid (∀ j (_ : j < k), l.getD j [] ≠ s)) (fun i => n - (intOf i).toNat)
  case atStart => exact ⟨0, Nat.zero_le _, rfl, fun j hj => by omega⟩
  case round =>
    obtain ⟨k, hk, rfl, hb⟩ := hrel
    by_cases hlt : k < n
    · have hkl : k < l.length := by rw [hn.out]; exact hlt
      obtain ⟨g, off, rfl, hc⟩ := rdS_at ha (by omega)
      have hck := hc k hkl
      have hE : Hid (l.getD k [] = l[k]) := getD_at hkl
      clear hc
      by_cases he : l[k] = s
      · have HH := Lib.hid (of_hit hkl he hb.out)
        have hq : (l[k] == S.toList) = true := by rw [hS, he]; simp
        generalize l[k] = x at hck hq
        clear he hE hS
        go_wp2
        go_ret2
        exact ⟨ret2 HH.out.1.symm HH.out.2.symm, rfl⟩
      · have hq : (l[k] == S.toList) = false := by rw [hS]; simpa using he
        have HB : Hid (∀ j (_ : j < k + 1), l.getD j [] ≠ s) := fun j hj => by
          rcases Nat.lt_succ_iff_lt_or_eq.1 hj with h | rfl
          · exact hb.out j h
          · rw [hE.out]; exact he
        generalize l[k] = x at hck hq
        clear he hE hS
        go_wp2
        go_round
        case rel => exact ⟨k + 1, by omega, by go_num, HB⟩
        case measure => simp [intOf]; omega
    · obtain rfl : k = n := by omega
      have HH := Lib.hid (of_miss (l := l) (s := s) (fun j hj => hb.out j (by rw [← hn.out]; exact hj)))
      clear hS
      go_wp2
      go_ret2
      exact ⟨ret2 HH.out.1.symm HH.out.2.symm, rfl⟩

set_option maxHeartbeats 4000000 in
theorem rname_any (A : Option Addr) (l : List (List UInt8)) (n c : Nat) (i : Int) (w : World) (ha : Rd w A (svs l)) (hn : Hid (l.length = n)) (h1 : n ≤ 100000) :
    Calls Tryd.prog 11 #[.slice A n c, .int .i64 i] w fun e w' => e = .returned (.string (str (nameAt l i))) ∧ w = w' := by
  by_cases hi : 0 ≤ i ∧ i < n
  · obtain ⟨k, rfl⟩ := Int.eq_ofNat_of_zero_le hi.1
    have hlt : k < n := by omega
    have hkl : k < l.length := by rw [hn.out]; exact hlt
    obtain ⟨g, off, rfl, hc⟩ := rdS_at ha (by omega)
    have hck := hc k hkl
    have HD : Hid (nameAt l (k : Int) = l[k]) := Lib.hid (by unfold nameAt; rw [if_pos hi.1, Int.toNat_natCast, getD_at hkl])
    clear hc
    generalize l[k] = x at hck HD
    go_enter Tryd.func11, Tryd.ntmps11
    go_wp2
    go_ret
    exact ⟨by rw [HD.out]; rfl, rfl⟩
  · have HD : Hid (nameAt l i = []) := Lib.hid (by
      unfold nameAt
      split
      · have : l.length ≤ i.toNat := by rw [hn.out]; omega
        exact getD_past this
      · rfl)
    by_cases h0 : i < 0
    · go_enter Tryd.func11, Tryd.ntmps11
      go_wp2
      go_ret
      exact ⟨by rw [HD.out]; rfl, rfl⟩
    · have h2 : (n : Int) ≤ i := by omega
      have h0' : decide (i < 0) = false := by simpa using h0
      go_enter Tryd.func11, Tryd.ntmps11
      go_wp2
      go_ret
      exact ⟨by rw [HD.out]; rfl, rfl⟩

end Go.Proofs.YtoljghgmpilecaaDoor
