/-
  What lettered and Types answer, the code's and the document's. Conditions: the letters stand; no more than 4096 bytes.
-/
import Derived.Test.YtkhbmbkjaeaamaaDoorWText
import Derived.Lib.DecodeN
namespace Go.Proofs.YtkhbmbkjaeaamaaDoor
open Go.RowKit

/-- A letter's number. -/
def letZ (k : Nat) : Int := if k = 1 then 73 else if k = 2 then 82 else if k = 3 then 70 else if k = 4 then 80 else 0
/-- The type of a rune; 0: none has it. -/
def unletZ (r : Int) : Int := if r = 73 then 1 else if r = 82 then 2 else if r = 70 then 3 else if r = 80 then 4 else 0
theorem unletZ_byte (c : UInt8) : unletZ (c.toNat : Int) = unlet c := by
  have e : ∀ d : UInt8, ((c.toNat : Int) = (d.toNat : Int)) ↔ c = d := fun d => ⟨fun h => UInt8.toNat_inj.1 (by omega), fun h => by rw [h]⟩
  unfold unletZ unlet
  have h1 := e 73; have h2 := e 82; have h3 := e 70; have h4 := e 80
  simp only [show ((73 : UInt8).toNat : Int) = 73 from rfl, show ((82 : UInt8).toNat : Int) = 82 from rfl, show ((70 : UInt8).toNat : Int) = 70 from rfl, show ((80 : UInt8).toNat : Int) = 80 from rfl] at h1 h2 h3 h4
  simp only [h1, h2, h3, h4]
theorem unletZ_big {r : Int} (h : 128 ≤ r) : unletZ r = 0 := by unfold unletZ; rw [if_neg (by omega), if_neg (by omega), if_neg (by omega), if_neg (by omega)]
theorem unletZ_hit {k : Nat} {r : Int} (h1 : 1 ≤ k) (h2 : k < 5) (h : letZ k = r) : unletZ r = k := by
  subst h
  obtain rfl | rfl | rfl | rfl : k = 1 ∨ k = 2 ∨ k = 3 ∨ k = 4 := by omega
  all_goals rfl
theorem unletZ_miss {r : Int} (h : ∀ j, 1 ≤ j → j < 5 → letZ j ≠ r) : unletZ r = 0 := by
  have h1 := h 1 (by omega) (by omega)
  have h2 := h 2 (by omega) (by omega)
  have h3 := h 3 (by omega) (by omega)
  have h4 := h 4 (by omega) (by omega)
  have e1 : letZ 1 = 73 := rfl
  have e2 : letZ 2 = 82 := rfl
  have e3 : letZ 3 = 70 := rfl
  have e4 : letZ 4 = 80 := rfl
  unfold unletZ
  rw [if_neg (by omega), if_neg (by omega), if_neg (by omega), if_neg (by omega)]
theorem letZ_cell {w : World} (h : LetAt w) {k : Nat} (h1 : 1 ≤ k) (h2 : k < 5) : w.cell? ⟨0, k, none⟩ = some (.int .i32 (letZ k)) := by
  rw [h.cell k]
  obtain rfl | rfl | rfl | rfl : k = 1 ∨ k = 2 ∨ k = 3 ∨ k = 4 := by omega
  all_goals rfl

set_option maxHeartbeats 1000000 in
theorem lettered_any (r : Int) (w : World) (h : LetAt w) :
    Calls Tryd.prog 32 #[.int .i32 r] w fun e w' => e = .returned (.tuple #[.int .i64 (unletZ r), .bool (decide (unletZ r ≠ 0))]) ∧ w = w' := by
  go_enter Tryd.func32, Tryd.ntmps32
  go_wp2
  go_loop [4] (fun i => ∃ k : Nat, 1 ≤ k ∧ k ≤ 5 ∧ i = .int .i64 k ∧ Hid (∀ j, 1 ≤ j → j < k → letZ j ≠ r)) (fun i => 5 - (intOf i).toNat)
  case atStart => exact ⟨1, by omega, by omega, rfl, fun j h1 h2 => by omega⟩
  case round =>
    obtain ⟨k, hk1, hk5, rfl, hm⟩ := hrel
    by_cases hlt : k < 5
    · have c := letZ_cell h hk1 hlt
      by_cases he : letZ k = r
      · have HU := Lib.hid (unletZ_hit hk1 hlt he)
        have he' : (letZ k == r) = true := by rw [beq_iff_eq]; exact he
        clear he
        go_wp2
        go_ret2
        exact ⟨by rw [HU.out]; congr 3; simp; omega, rfl⟩
      · have he' : (letZ k == r) = false := by rw [beq_eq_false_iff_ne]; exact he
        have hm2 : Hid (∀ j, 1 ≤ j → j < k + 1 → letZ j ≠ r) := fun j h1 h2 => by
          rcases Nat.lt_or_ge j k with h3 | h3
          · exact hm.out j h1 h3
          · obtain rfl : j = k := by omega
            exact he
        clear he
        go_wp2
        go_round
        case rel => exact ⟨k + 1, by omega, by omega, by go_num, hm2⟩
        case measure => simp [intOf]; omega
    · obtain rfl : k = 5 := by omega
      have HU := Lib.hid (unletZ_miss hm.out)
      go_wp2
      go_ret2
      exact ⟨by rw [HU.out]; rfl, rfl⟩

/-- What is decoded of a byte that is no ASCII is none either. -/
theorem decode_big (s : ByteArray) (i : Nat) (h : 128 ≤ (s.get! i).toNat) : 128 ≤ (Utf8.decode s i).1 := by
  rw [Lib.decode_at]
  have hb : (s.get! i).toNat < 256 := (s.get! i).toNat_lt
  generalize (s.get! i).toNat = b0 at h hb
  unfold Lib.decodeN
  repeat' split
  all_goals first | omega | (simp only; omega)

theorem own_iter {w : World} {E size n : Nat} {O : Nat → Prop} {v : Value} {xs : List Value} (h : Own w E size O v n xs) {k pos : Nat} {s : ByteArray} (hk : w.heap[k]? = some (.stringIter s pos)) : v.ownBlock ≠ some k := by
  rcases h.1.2 with ⟨rfl, _⟩ | ⟨g, cap, cur, rfl, _, hg, _⟩
  · simp [Value.ownBlock]
  · intro e
    have : g = k := by simpa [Value.ownBlock] using e
    subst this
    rw [hk] at hg; cases hg
theorem Own.iterAt {w : World} {E size n : Nat} {O : Nat → Prop} {v : Value} {xs : List Value} (h : Own w E size O v n xs) {k pos : Nat} {s : ByteArray} (hk : w.heap[k]? = some (.stringIter s pos)) (pos' : Nat) : Own (w.iterAt k s pos') E size O v n xs := by
  have hne := own_iter h hk
  refine ⟨⟨h.1.1, ?_⟩, h.2⟩
  rcases h.1.2 with h2 | ⟨g, cap, cur, rfl, hb, hh, r⟩
  · exact .inl h2
  · exact .inr ⟨g, cap, cur, rfl, hb, (Lib.iterAt_other w k g s pos' (fun e => hne (by rw [e]; rfl))).trans hh, r⟩
theorem Keep.iterAt {w w' : World} (h : Keep NoB w w') {k : Nat} (hk : w.heap.size ≤ k) (s : ByteArray) (pos : Nat) : Keep NoB w (w'.iterAt k s pos) := Keep.of_below (Lib.below_iterAt h.toBelow hk s pos)

/-- What Types answers, in one form. -/
def tN (s : List UInt8) : Nat := if (untxt s).isSome = true then s.length else 0
def tL (s : List UInt8) : List Int := (untxt s).getD []
def tE (s : List UInt8) : Int := if (untxt s).isSome = true then 0 else 20
theorem untxt_none {s : List UInt8} (h : ¬ (s.length ≤ 1024 ∧ (s.all fun c => decide (unlet c ≠ 0)) = true)) : untxt s = none := by unfold untxt; rw [if_neg h]
theorem untxt_some {s : List UInt8} (h1 : s.length ≤ 1024) (h2 : (s.all fun c => decide (unlet c ≠ 0)) = true) : untxt s = some (s.map unlet) := by unfold untxt; rw [if_pos ⟨h1, h2⟩]
theorem tL_length (s : List UInt8) : (tL s).length = tN s := by
  unfold tL tN
  by_cases h : s.length ≤ 1024 ∧ (s.all fun c => decide (unlet c ≠ 0)) = true
  · rw [untxt_some h.1 h.2]; simp
  · rw [untxt_none h]; simp
/-- What it hands back, and that it keeps all. -/
def TypesR (w : World) (s : List UInt8) (e : Ending) (w' : World) : Prop :=
  ∃ B d, e = .returned (.tuple #[.slice B (tN s) d, .int .i64 (tE s)]) ∧ Own w' 3 1 (Fresh w) (.slice B (tN s) d) (tN s) (ivs (tL s)) ∧ Keep NoB w w'
theorem types_none {w w' : World} {s : List UInt8} (h : untxt s = none) (hK : Keep NoB w w') : TypesR w s (.returned (.tuple #[.slice none 0 0, .int .i64 20])) w' := by
  have e1 : tN s = 0 := by unfold tN; rw [h]; rfl
  have e2 : tL s = [] := by unfold tL; rw [h]; rfl
  have e3 : tE s = 20 := by unfold tE; rw [h]; rfl
  unfold TypesR
  rw [e1, e2, e3]
  exact ⟨none, 0, rfl, Own.nil _ _ _ _, hK⟩
theorem types_some {w w' : World} {s : List UInt8} {B : Option Addr} {d : Nat} (h : untxt s = some (s.map unlet)) (hO : Own w' 3 1 (Fresh w) (.slice B s.length d) s.length (ivs (s.map unlet))) (hK : Keep NoB w w') :
    TypesR w s (.returned (.tuple #[.slice B s.length d, .int .i64 0])) w' := by
  have e1 : tN s = s.length := by unfold tN; rw [h]; rfl
  have e2 : tL s = s.map unlet := by unfold tL; rw [h]; rfl
  have e3 : tE s = 0 := by unfold tE; rw [h]; rfl
  unfold TypesR
  rw [e1, e2, e3]
  exact ⟨B, d, rfl, hO, hK⟩

end Go.Proofs.YtkhbmbkjaeaamaaDoor
