/-
  What lettered and Types answer, the code's and the document's. Conditions: the letters stand; no more than 4096 bytes.
  The plain mathematics of reading an instruction from text: what is guessed of a text, and that it is the instruction whose text it is, if there is one. No program, no conditions.
  What Types answers. Conditions: the letters stand.
  What Show answers, the code's and the document's, of any value; the document's digits. Conditions: the variables that it reads hold what their initialisers lay; the value's number fits an int64.
  What the program's guess answers: the operands that a text is guessed to be. Conditions: the listed package-level variables hold what their initialisers lay; the text is not too long.
  An argument that is a slice of bytes, opened: an address from which a list of bytes stands. No conditions.
  What the rows of opcode share where strings.Cut is called, or bytes come in: the wrap that keeps the world's shape beside the laid variables. No conditions.
  What the program's Of answers. No conditions.
  What the program's Of answers: the number that has the name, or ErrOpcode. No conditions.
  What the program's Read answers: the instruction whose text it is, if there is one. Conditions: the listed package-level variables hold what their initialisers lay; the text is not too long.
  OpcodeBack's walk: an instruction is read from its bytes, whatever stands behind them, and from its text, as it was; what is read of any bytes, and any text, has just these. Conditions: the listed package-level variables hold what their initialisers lay; numbers fit an int64; the bytes stand.
  What the laws' own of answers: the instructions of texts. Conditions: each text is one of an instruction that may be; the listed package-level variables hold what their initialisers lay.
-/
import Derived.HandedShaped
import Derived.Lib.DecodeN
import Derived.Lib.IndexBytes
import Derived.Lib.IndexMore
import Derived.OpenShut
import Derived.ProofKit
import Derived.RangeFuncBox
import Derived.Shelf.Vars
import Derived.SizedLaws
import Derived.Test.YtonpplpfipfnfaaGreatDoorQ8
import Derived.Test.YtonpplpfipfnfaaGreatDoorQ5
import Derived.Test.YtonpplpfipfnfaaGreatDoorQ4
import Derived.Test.YtonpplpfipfnfaaGreatDoorQ3
namespace Go.Proofs.YtonpplpfipfnfaaGreatDoor.W
open Go.RowKit

/-- A letter's number. -/
def letZ (k : Nat) : Int := if k = 1 then 73 else if k = 2 then 82 else if k = 3 then 70 else if k = 4 then 80 else 0
/-- The type of a rune; 0: none has it. -/
def unletZ (r : Int) : Int := if r = 73 then 1 else if r = 82 then 2 else if r = 70 then 3 else if r = 80 then 4 else 0
theorem unletZ_byte (c : UInt8) : unletZ (c.toNat : Int) = unlet c := by
  have e : ∀ d : UInt8, ((c.toNat : Int) = (d.toNat : Int)) ↔ c = d := fun d => ⟨fun h => UInt8.toNat_inj.1 (by omega), fun h => by rw [h]⟩
  unfold unletZ unlet
  have h1 := e 73; have h2 := e 82; have h3 := e 70; have h4 := e 80
  simp only [show ((73 : UInt8).toNat : Int) = 73 from rfl, show ((82 : UInt8).toNat : Int) = 82 from rfl, show ((70 : UInt8).toNat : Int) = 70 from rfl, show ((80 : UInt8).toNat : Int) = 80 from rfl] at h1 h2 h3 h4
  simp only [h1, h2, h3, h4]
theorem unletZ_big {r : Int} (h : 128 ≤ r) : unletZ r = 0 := by unfold unletZ; rw [if_neg (by omega), if_neg (by omega), if_neg (by omega), if_neg (by omega)]
theorem unletZ_hit {k : Nat} {r : Int} (h1 : 1 ≤ k) (h2 : k < 5) (h : letZ k = r) : unletZ r = k := by
  subst h
  obtain rfl | rfl | rfl | rfl : k = 1 ∨ k = 2 ∨ k = 3 ∨ k = 4 := by omega
  all_goals rfl
theorem unletZ_miss {r : Int} (h : ∀ j, 1 ≤ j → j < 5 → letZ j ≠ r) : unletZ r = 0 := by
  have h1 := h 1 (by omega) (by omega)
  have h2 := h 2 (by omega) (by omega)
  have h3 := h 3 (by omega) (by omega)
  have h4 := h 4 (by omega) (by omega)
  have e1 : letZ 1 = 73 := rfl
  have e2 : letZ 2 = 82 := rfl
  have e3 : letZ 3 = 70 := rfl
  have e4 : letZ 4 = 80 := rfl
  unfold unletZ
  rw [if_neg (by omega), if_neg (by omega), if_neg (by omega), if_neg (by omega)]
theorem letZ_cell {w : World} (h : LetAt w) {k : Nat} (h1 : 1 ≤ k) (h2 : k < 5) : w.cell? ⟨0, k, none⟩ = some (.int .i32 (letZ k)) := by
  rw [h.cell k]
  obtain rfl | rfl | rfl | rfl : k = 1 ∨ k = 2 ∨ k = 3 ∨ k = 4 := by omega
  all_goals rfl

set_option maxHeartbeats 1000000 in
theorem lettered_any (r : Int) (w : World) (h : LetAt w) :
    Calls Tryz.prog 120 #[.int .i32 r] w fun e w' => e = .returned (.tuple #[.int .i64 (unletZ r), .bool (decide (unletZ r ≠ 0))]) ∧ w = w' := by
  go_enter Tryz.func120, Tryz.ntmps120
  go_wp2
  go_loop [4] (fun i => ∃ k : Nat, 1 ≤ k ∧ k ≤ 5 ∧ i = .int .i64 k ∧ Hid (∀ j, 1 ≤ j → j < k → letZ j ≠ r)) (fun i => 5 - (intOf i).toNat)
  case atStart => exact ⟨1, by omega, by omega, rfl, fun j h1 h2 => by omega⟩
  case round =>
    obtain ⟨k, hk1, hk5, rfl, hm⟩ := hrel
    by_cases hlt : k < 5
    · have c := letZ_cell h hk1 hlt
      by_cases he : letZ k = r
      · have HU := Lib.hid (unletZ_hit hk1 hlt he)
        have he' : (letZ k == r) = true := by rw [beq_iff_eq]; exact he
        clear he
        go_wp2
        go_ret2
        exact ⟨by rw [HU.out]; congr 3; simp; omega, rfl⟩
      · have he' : (letZ k == r) = false := by rw [beq_eq_false_iff_ne]; exact he
        have hm2 : Hid (∀ j, 1 ≤ j → j < k + 1 → letZ j ≠ r) := fun j h1 h2 => by
          rcases Nat.lt_or_ge j k with h3 | h3
          · exact hm.out j h1 h3
          · obtain rfl : j = k := by omega
            exact he
        clear he
        go_wp2
        go_round
        case rel => exact ⟨k + 1, by omega, by omega, by go_num, hm2⟩
        case measure => simp [intOf]; omega
    · obtain rfl : k = 5 := by omega
      have HU := Lib.hid (unletZ_miss hm.out)
      go_wp2
      go_ret2
      exact ⟨by rw [HU.out]; rfl, rfl⟩

/-- What is decoded of a byte that is no ASCII is none either. -/
theorem decode_big (s : ByteArray) (i : Nat) (h : 128 ≤ (s.get! i).toNat) : 128 ≤ (Utf8.decode s i).1 := by
  rw [Lib.decode_at]
  have hb : (s.get! i).toNat < 256 := (s.get! i).toNat_lt
  generalize (s.get! i).toNat = b0 at h hb
  unfold Lib.decodeN
  repeat' split
  all_goals first | omega | (simp only; omega)

theorem own_iter {w : World} {E size n : Nat} {O : Nat → Prop} {v : Value} {xs : List Value} (h : Own w E size O v n xs) {k pos : Nat} {s : ByteArray} (hk : w.heap[k]? = some (.stringIter s pos)) : v.ownBlock ≠ some k := by
  rcases h.1.2 with ⟨rfl, _⟩ | ⟨g, cap, cur, rfl, _, hg, _⟩
  · simp [Value.ownBlock]
  · intro e
    have : g = k := by simpa [Value.ownBlock] using e
    subst this
    rw [hk] at hg; cases hg
theorem _root_.Go.Proofs.YtonpplpfipfnfaaGreatDoor.Own.iterAt {w : World} {E size n : Nat} {O : Nat → Prop} {v : Value} {xs : List Value} (h : Own w E size O v n xs) {k pos : Nat} {s : ByteArray} (hk : w.heap[k]? = some (.stringIter s pos)) (pos' : Nat) : Own (w.iterAt k s pos') E size O v n xs := by
  have hne := own_iter h hk
  refine ⟨⟨h.1.1, ?_⟩, h.2⟩
  rcases h.1.2 with h2 | ⟨g, cap, cur, rfl, hb, hh, r⟩
  · exact .inl h2
  · exact .inr ⟨g, cap, cur, rfl, hb, (Lib.iterAt_other w k g s pos' (fun e => hne (by rw [e]; rfl))).trans hh, r⟩
theorem _root_.Go.Proofs.YtonpplpfipfnfaaGreatDoor.Keep.iterAt {w w' : World} (h : Keep NoB w w') {k : Nat} (hk : w.heap.size ≤ k) (s : ByteArray) (pos : Nat) : Keep NoB w (w'.iterAt k s pos) := Keep.of_below (Lib.below_iterAt h.toBelow hk s pos)

/-- What Types answers, in one form. -/
def tN (s : List UInt8) : Nat := if (untxt s).isSome = true then s.length else 0
def tL (s : List UInt8) : List Int := (untxt s).getD []
def tE (s : List UInt8) : Int := if (untxt s).isSome = true then 0 else 20
theorem untxt_none {s : List UInt8} (h : ¬ (s.length ≤ 1024 ∧ (s.all fun c => decide (unlet c ≠ 0)) = true)) : untxt s = none := by unfold untxt; rw [if_neg h]
theorem untxt_some {s : List UInt8} (h1 : s.length ≤ 1024) (h2 : (s.all fun c => decide (unlet c ≠ 0)) = true) : untxt s = some (s.map unlet) := by unfold untxt; rw [if_pos ⟨h1, h2⟩]
theorem tL_length (s : List UInt8) : (tL s).length = tN s := by
  unfold tL tN
  by_cases h : s.length ≤ 1024 ∧ (s.all fun c => decide (unlet c ≠ 0)) = true
  · rw [untxt_some h.1 h.2]; simp
  · rw [untxt_none h]; simp
/-- What it hands back, and that it keeps all. -/
def TypesR (w : World) (s : List UInt8) (e : Ending) (w' : World) : Prop :=
  ∃ B d, e = .returned (.tuple #[.slice B (tN s) d, .int .i64 (tE s)]) ∧ Own w' 3 1 (Fresh w) (.slice B (tN s) d) (tN s) (ivs (tL s)) ∧ Keep NoB w w'
theorem types_none {w w' : World} {s : List UInt8} (h : untxt s = none) (hK : Keep NoB w w') : TypesR w s (.returned (.tuple #[.slice none 0 0, .int .i64 20])) w' := by
  have e1 : tN s = 0 := by unfold tN; rw [h]; rfl
  have e2 : tL s = [] := by unfold tL; rw [h]; rfl
  have e3 : tE s = 20 := by unfold tE; rw [h]; rfl
  unfold TypesR
  rw [e1, e2, e3]
  exact ⟨none, 0, rfl, Own.nil _ _ _ _, hK⟩
theorem types_some {w w' : World} {s : List UInt8} {B : Option Addr} {d : Nat} (h : untxt s = some (s.map unlet)) (hO : Own w' 3 1 (Fresh w) (.slice B s.length d) s.length (ivs (s.map unlet))) (hK : Keep NoB w w') :
    TypesR w s (.returned (.tuple #[.slice B s.length d, .int .i64 0])) w' := by
  have e1 : tN s = s.length := by unfold tN; rw [h]; rfl
  have e2 : tL s = s.map unlet := by unfold tL; rw [h]; rfl
  have e3 : tE s = 0 := by unfold tE; rw [h]; rfl
  unfold TypesR
  rw [e1, e2, e3]
  exact ⟨B, d, rfl, hO, hK⟩

end Go.Proofs.YtonpplpfipfnfaaGreatDoor.W

namespace Go.Proofs.YtonpplpfipfnfaaGreatDoor.O

theorem byte_at {r : List UInt8} : ∀ {s : List UInt8}, (∀ c ∈ s, c ≠ 32) → Lib.indexByte (s ++ 32 :: r) 32 = (s.length : Int)
  | [], _ => by simp [Lib.indexByte]
  | b :: s, h => by
    have ih := byte_at (r := r) (s := s) (fun c hc => h c (by simp [hc]))
    have hb : (b == 32) = false := by rw [beq_eq_false_iff_ne]; exact h b (by simp)
    have hn : (((s.length : Nat) : Int) == -1) = false := by rw [beq_eq_false_iff_ne]; omega
    rw [List.cons_append, Lib.indexByte, hb, ih, hn]
    simp
theorem byte_none : ∀ {s : List UInt8}, (∀ c ∈ s, c ≠ 32) → Lib.indexByte s 32 = -1
  | [], _ => rfl
  | b :: s, h => by
    have ih := byte_none (s := s) (fun c hc => h c (by simp [hc]))
    have hb : (b == 32) = false := by rw [beq_eq_false_iff_ne]; exact h b (by simp)
    rw [Lib.indexByte, hb, ih]
    simp
theorem cut_at {s r : List UInt8} (h : ∀ c ∈ s, c ≠ 32) : Lib.cut (s ++ 32 :: r) [32] = (s, r, true) := by
  have e : Lib.index (s ++ 32 :: r) [32] = (s.length : Int) := by rw [Lib.index_one, byte_at h]
  have e2 : s ++ 32 :: r = (s ++ [32]) ++ r := by simp
  unfold Lib.cut
  rw [e, if_pos (by omega), Int.toNat_natCast, List.take_left]
  have e3 : (s ++ 32 :: r).drop (s.length + [(32 : UInt8)].length) = r := by
    rw [e2]
    have : s.length + [(32 : UInt8)].length = (s ++ [32]).length := by simp
    rw [this, List.drop_left]
  rw [e3]
theorem cut_none {s : List UInt8} (h : ∀ c ∈ s, c ≠ 32) : Lib.cut s [32] = (s, [], false) := by
  unfold Lib.cut
  rw [Lib.index_one, byte_none h]
  rfl
/-- A word, and what stands behind it. -/
theorem cut_word {s r : List UInt8} (h : ∀ c ∈ s, c ≠ 32) (hr : r = [] ∨ ∃ r', r = 32 :: r') : (Lib.cut (s ++ r) [32]).1 = s ∧ (Lib.cut (s ++ r) [32]).2.1 = r.drop 1 := by
  rcases hr with rfl | ⟨r', rfl⟩
  · rw [List.append_nil, cut_none h]; exact ⟨rfl, rfl⟩
  · rw [cut_at h]; exact ⟨rfl, rfl⟩
theorem cut_len (s : List UInt8) : (Lib.cut s [32]).1.length ≤ s.length ∧ (Lib.cut s [32]).2.1.length ≤ s.length := by
  unfold Lib.cut
  split
  · simp; omega
  · simp

/-! ### Names -/

theorem str_inj {s t : List UInt8} (h : str s = str t) : s = t := by
  have := congrArg (fun x : ByteArray => x.data.toList) h
  simpa using this
theorem find_spec (S : ByteArray) : ∀ n k, (findFrom S n k = -1 ∧ ∀ j, k ≤ j → j < k + n → nm j ≠ S) ∨ (∃ j : Nat, k ≤ j ∧ j < k + n ∧ findFrom S n k = (j : Int) ∧ nm j = S)
  | 0, k => .inl ⟨rfl, fun j h1 h2 => by omega⟩
  | n + 1, k => by
    by_cases h : nm k = S
    · exact .inr ⟨k, Nat.le_refl _, by omega, by rw [findFrom, if_pos h], h⟩
    · rw [findFrom, if_neg h]
      rcases find_spec S n (k + 1) with ⟨h1, h2⟩ | ⟨j, h1, h2, h3, h4⟩
      · refine .inl ⟨h1, fun j h3 h4 => ?_⟩
        by_cases e : j = k
        · rw [e]; exact h
        · exact h2 j (by omega) (by omega)
      · exact .inr ⟨j, by omega, by omega, h3, h4⟩
theorem findI_spec (S : ByteArray) : (findI S = -1 ∧ ∀ op : Int, isOp op = true → str (rowAt op).name ≠ S) ∨ (isOp (findI S) = true ∧ str (rowAt (findI S)).name = S) := by
  rcases find_spec S 30 0 with ⟨h1, h2⟩ | ⟨j, _, h2, h3, h4⟩
  · refine .inl ⟨h1, fun op ho e => ?_⟩
    have hb := isOp_yes ho
    refine h2 op.toNat (Nat.zero_le _) (by omega) ?_
    unfold nm
    rw [show ((op.toNat : Nat) : Int) = op by omega]
    exact e
  · refine .inr ?_
    have e : findI S = (j : Int) := h3
    rw [e]
    exact ⟨decide_eq_true (by omega), h4⟩
theorem findI_of {op : Int} (h : isOp op = true) : findI (str (rowAt op).name) = op := by
  rcases findI_spec (str (rowAt op).name) with ⟨_, h2⟩ | ⟨h1, h2⟩
  · exact absurd rfl (h2 op h)
  · exact name_inj h1 h (str_inj h2)
theorem name_ne (op : Int) (h : isOp op = true) : (rowAt op).name ≠ [] := by
  obtain ⟨hk, e⟩ := rowAt_yes h
  rw [e]
  have := List.all_eq_true.1 (show rowsL.all (fun r => decide (r.name ≠ [])) = true by decide) _ (List.getElem_mem hk)
  exact of_decide_eq_true this

/-! ### Operands -/

/-- The number that a text is guessed to be. -/
def ltrI (s : List UInt8) : Int := if W.tE s = 0 ∧ W.tN s = 1 then (W.tL s).getD 0 0 else 0
def gK (k : Int) (s : List UInt8) : Int := if digK k = true then W.pI s else if k = 8 then A.ofI A.binNs s else if k = 9 then A.ofI A.unNs s else if k = 2 ∨ k = 3 then ltrI s else 0
theorem gK_word {k n : Int} (hk : 0 ≤ k ∧ k ≤ 10) (h0 : k ≠ 0) (hn : inK k n = true) : gK k (word k n) = n := by
  have hb := in_bounds hn
  have hd := of_decide_eq_true hn
  cases h : digK k
  · have hc : k = 2 ∨ k = 3 ∨ k = 8 ∨ k = 9 := by have := of_decide_eq_false h; omega
    rcases hc with rfl | rfl | rfl | rfl
    · have e1 : lo 2 = 1 := rfl
      have e2 : hi 2 = 4 := rfl
      have hn : n = 1 ∨ n = 2 ∨ n = 3 ∨ n = 4 := by omega
      rcases hn with rfl | rfl | rfl | rfl <;> decide +kernel
    · have e1 : lo 3 = 1 := rfl
      have e2 : hi 3 = 3 := rfl
      have hn : n = 1 ∨ n = 2 ∨ n = 3 := by omega
      rcases hn with rfl | rfl | rfl <;> decide +kernel
    · have e1 : lo 8 = 0 := rfl
      have e2 : hi 8 = 13 := rfl
      have : ∀ j : Fin 14, gK 8 (word 8 (j.1 : Int)) = (j.1 : Int) := by decide +kernel
      have := this ⟨n.toNat, by omega⟩
      rw [show ((n.toNat : Nat) : Int) = n by omega] at this
      exact this
    · have e1 : lo 9 = 0 := rfl
      have e2 : hi 9 = 8 := rfl
      have : ∀ j : Fin 9, gK 9 (word 9 (j.1 : Int)) = (j.1 : Int) := by decide +kernel
      have := this ⟨n.toNat, by omega⟩
      rw [show ((n.toNat : Nat) : Int) = n by omega] at this
      exact this
  · unfold gK
    rw [if_pos h, word_dig h]
    unfold W.pI
    rw [W.atoi_itoa _ hb.1.1 hb.1.2]
theorem ofI_bounds (l : List (List UInt8)) (s : List UInt8) (hl : l.length ≤ 1000) : 0 ≤ A.ofI l s ∧ A.ofI l s ≤ 1000 := by
  unfold A.ofI
  split
  · rename_i h
    have := List.idxOf_lt_length_of_mem h
    omega
  · omega
theorem unlet_bounds (c : UInt8) : 0 ≤ W.unlet c ∧ W.unlet c ≤ 4 := by
  unfold W.unlet
  repeat' split
  all_goals omega
theorem ltrI_bounds (s : List UInt8) : 0 ≤ ltrI s ∧ ltrI s ≤ 4 := by
  unfold ltrI
  split
  · unfold W.tL W.untxt
    split
    · rcases s with _ | ⟨c, r⟩
      · simp
      · exact unlet_bounds c
    · simp
  · omega
theorem gK_bounds (k : Int) (s : List UInt8) : I64 (gK k s) := by
  unfold gK I64
  split
  · exact W.pI_bounds s
  · split
    · have := ofI_bounds A.binNs s (by decide); omega
    · split
      · have := ofI_bounds A.unNs s (by decide); omega
      · split
        · have := ltrI_bounds s; omega
        · omega

/-- The operands that are guessed of what stands behind the name. -/
def gA (op : Int) (t : List UInt8) : Int := if (rowAt op).ka = 0 then 0 else gK (rowAt op).ka (Lib.cut t [32]).1
def gB (op : Int) (t : List UInt8) : Int := if (rowAt op).kb = 0 then 0 else gK (rowAt op).kb (Lib.cut t [32]).2.1
theorem gA_bounds (op : Int) (t : List UInt8) : I64 (gA op t) := by
  unfold gA
  split
  · unfold I64; omega
  · exact gK_bounds _ _
theorem gB_bounds (op : Int) (t : List UInt8) : I64 (gB op t) := by
  unfold gB
  split
  · unfold I64; omega
  · exact gK_bounds _ _

theorem text_cut {op a b : Int} :
    (Lib.cut (textI op a b) [32]).1 = (rowAt op).name ∧ (Lib.cut (textI op a b) [32]).2.1 = (partL (rowAt op).ka a ++ partL (rowAt op).kb b).drop 1 := by
  unfold textI
  refine cut_word (name_no op) ?_
  rcases part_sp (rowAt op).ka a with e | ⟨r, e⟩
  · rw [e]; exact part_sp (rowAt op).kb b
  · rw [e]; exact .inr ⟨_, rfl⟩
/-- What is guessed of an instruction's text is that instruction. -/
theorem guess_hit {op a b : Int} (h : okI op a b = true) : gA op (Lib.cut (textI op a b) [32]).2.1 = a ∧ gB op (Lib.cut (textI op a b) [32]).2.1 = b := by
  obtain ⟨ho, hA, hB⟩ := ok_op h
  have hk := kinds_ok op
  have hn := kinds_none op
  rw [text_cut.2]
  unfold gA gB
  by_cases h0 : (rowAt op).ka = 0
  · have h1 := hn h0
    rw [if_pos h0, if_pos h1]
    rw [h0] at hA
    rw [h1] at hB
    exact ⟨((in_bounds hA).2.2 rfl).symm, ((in_bounds hB).2.2 rfl).symm⟩
  · rw [if_neg h0]
    have e1 : partL (rowAt op).ka a = 32 :: word (rowAt op).ka a := by unfold partL; rw [if_neg h0]
    rw [e1, List.cons_append, List.drop_succ_cons, List.drop_zero]
    have hc := cut_word (word_no (rowAt op).ka a) (part_sp (rowAt op).kb b)
    rw [hc.1, hc.2]
    refine ⟨gK_word ⟨hk.1, hk.2.1⟩ h0 hA, ?_⟩
    by_cases h1 : (rowAt op).kb = 0
    · rw [if_pos h1]
      rw [h1] at hB
      exact ((in_bounds hB).2.2 rfl).symm
    · rw [if_neg h1]
      have e2 : partL (rowAt op).kb b = 32 :: word (rowAt op).kb b := by unfold partL; rw [if_neg h1]
      rw [e2, List.drop_succ_cons, List.drop_zero]
      exact gK_word ⟨hk.2.2.1, hk.2.2.2⟩ h1 hB

/-- What reading a text answers: the instruction that has it; that there is none. -/
def ReadV (s : List UInt8) (v : Value) : Prop :=
  (∃ op a b, okI op a b = true ∧ textI op a b = s ∧ v = .tuple #[instV op a b, .int .i64 0]) ∨ ((∀ op a b, okI op a b = true → textI op a b ≠ s) ∧ v = .tuple #[instV 0 0 0, .int .i64 40])
theorem readV_one {s : List UInt8} {u v : Value} (h1 : ReadV s u) (h2 : ReadV s v) : u = v := by
  rcases h1 with ⟨op, a, b, h1, e1, rfl⟩ | ⟨h1, rfl⟩
  · rcases h2 with ⟨op', a', b', h2, e2, rfl⟩ | ⟨h2, rfl⟩
    · obtain ⟨rfl, rfl, rfl⟩ := text_inj h1 h2 (e1.trans e2.symm); rfl
    · exact absurd e1 (h2 op a b h1)
  · rcases h2 with ⟨op', a', b', h2, e2, rfl⟩ | ⟨h2, rfl⟩
    · exact absurd e2 (h1 op' a' b' h2)
    · rfl
/-- No name: no instruction. -/
theorem read_nameless {s : List UInt8} (h : findI (str (Lib.cut s [32]).1) < 0) : ReadV s (.tuple #[instV 0 0 0, .int .i64 40]) := by
  refine .inr ⟨fun op a b hok e => ?_, rfl⟩
  subst e
  rw [text_cut.1, findI_of (ok_op hok).1] at h
  have := isOp_yes (ok_op hok).1
  omega
/-- What is guessed has the text: it is the one. -/
theorem read_yes {s : List UInt8} {op a b : Int} (hop : isOp op = true) (hn : str (rowAt op).name = str (Lib.cut s [32]).1) (h : showI op a b = s) : ReadV s (.tuple #[instV op a b, .int .i64 0]) := by
  cases hok : okI op a b
  · unfold showI at h
    rw [if_neg (by rw [hok]; decide)] at h
    subst h
    exact absurd (str_inj hn) (name_ne op hop)
  · unfold showI at h
    rw [if_pos hok] at h
    exact .inl ⟨op, a, b, hok, h, rfl⟩
/-- What is guessed has another text: none has this one. -/
theorem read_no {s : List UInt8} (op a b : Int) (hop : op = findI (str (Lib.cut s [32]).1)) (h : ∀ x y, okI op x y = true → textI op x y = s → a = x ∧ b = y) (hs : showI op a b ≠ s) :
    ReadV s (.tuple #[instV 0 0 0, .int .i64 40]) := by
  refine .inr ⟨fun op' x y hok e => ?_, rfl⟩
  have he := e
  subst e
  rw [text_cut.1, findI_of (ok_op hok).1] at hop
  subst hop
  obtain ⟨rfl, rfl⟩ := h x y hok rfl
  unfold showI at hs
  rw [if_pos hok] at hs
  exact hs rfl
theorem read_miss {s : List UInt8} {op : Int} (hop : findI (str (Lib.cut s [32]).1) = op) (hs : showI op (gA op (Lib.cut s [32]).2.1) (gB op (Lib.cut s [32]).2.1) ≠ s) : ReadV s (.tuple #[instV 0 0 0, .int .i64 40]) := by
  refine read_no op _ _ hop.symm (fun x y hok e => ?_) hs
  subst e
  exact guess_hit hok

end Go.Proofs.YtonpplpfipfnfaaGreatDoor.O

namespace Go.Proofs.YtonpplpfipfnfaaGreatDoor.W
open Go.RowKit


set_option maxRecDepth 100000 in
set_option maxHeartbeats 4000000 in
theorem types_any (S : ByteArray) (s : List UInt8) (w : World) (hL : LetAt w) (hs : Hid (S.data.toList = s)) (h1 : S.size ≤ 9223372036854775807) :
    Calls Tryz.prog 110 #[.string S] w (TypesR w s) := by
  have HSZ := Lib.hid (size_of hs.out)
  by_cases hlong : 1024 < S.size
  · have HU : Hid (untxt s = none) := untxt_none (by rw [← HSZ.out]; omega)
    go_enter Tryz.func110, Tryz.ntmps110
    go_wp2
    go_ret2
    exact types_none HU.out (Keep.refl _ _)
  · obtain ⟨i0, hi, hz0, hz1, hz2⟩ := info_parts int_info
    go_enter Tryz.func110, Tryz.ntmps110
    go_wp2_with (at_make; refine wpList_make_own _ rfl _ _ 48 rfl w.heap.size 3 i0 _ 1 Tryz.underlying48 hi hz0 hz1 _ _ _ S.size rfl rfl rfl (by rw [hz2]; omega) (by unfold maxLen; omega) (Nat.le_refl _) ?_; intro w1 hrow1 hg1)
    have hO1 : Own w1 3 1 (Fresh w) (.slice (some ⟨w.heap.size, 0, none⟩) 0 S.size) 0 (ivs ((s.take 0).map unlet)) := Own.of_row hrow1 (fun _ h => h)
    have hK1 : Keep NoB w w1 := (Keep.refl NoB w).grown hg1 (fun g e _ => by cases e)
    have hsz1 : w.heap.size ≤ w1.heap.size := hK1.size
    clear hrow1 hg1
    have hk0 : (w1.iter S 0).heap[w1.heap.size]? = some (.stringIter S 0) := World.iter_heap w1 S 0
    have hO0 : Own (w1.iter S 0) 3 1 (Fresh w) (.slice (some ⟨w.heap.size, 0, none⟩) 0 S.size) 0 (ivs ((s.take 0).map unlet)) := hO1.keepN ((Keep.refl NoB w1).alloc _)
    have hK0 : Keep NoB w (w1.iter S 0) := hK1.alloc _
    go_loopw [4] (fun v wr => ∃ k : Nat, k ≤ S.size ∧ wr.heap[w1.heap.size]? = some (.stringIter S k) ∧ (∃ B d, v = .slice B k d ∧ Own wr 3 1 (Fresh w) (.slice B k d) k (ivs ((s.take k).map unlet))) ∧ Hid (((s.take k).all fun c => decide (unlet c ≠ 0)) = true) ∧ Keep NoB w wr)
      (fun _ wr => S.size - wr.iterPos w1.heap.size)
    case atStart => exact ⟨0, Nat.zero_le _, hk0, ⟨_, _, rfl, hO0⟩, rfl, hK0⟩
    case round =>
      obtain ⟨k, hk, hit, ⟨B, d, rfl, hO⟩, hall, hK⟩ := hrel
      clear hO0 hK0 hk0 hO1 hK1
      have hmu : Hid (wr.iterPos w1.heap.size = k) := by show _ = _; simp [World.iterPos, hit]
      by_cases hlt : k < S.size
      · have hks : k < s.length := by rw [← HSZ.out]; exact hlt
        have HT := Lib.hid (show s.take (k + 1) = s.take k ++ [s[k]] from List.take_succ_eq_append_getElem hks)
        have HM := Lib.hid (List.getElem_mem hks)
        have hbt := byte_at hs.out k hlt hks
        by_cases hb : (S[k]'hlt).toNat < 128
        · have hnext : ∀ ty, (Instr.next (.pointer (some ⟨w1.heap.size, 0, none⟩)) true ty).run Tryz.prog wr = _ := fun ty => Lib.run_next_ascii_at wr w1.heap.size S k ty hit hlt hb
          rw [hbt] at hnext hb
          have HB := Lib.hid (unletZ_byte s[k])
          generalize s[k] = c at hnext hb HT HM HB
          have hO2 := hO.iterAt hit (k + 1)
          have hit2 := Lib.iterAt_heap wr w1.heap.size S k (k + 1) hit
          have hK2 := hK.iterAt hsz1 S (k + 1)
          generalize wr.iterAt w1.heap.size S (k + 1) = w2 at hnext hO2 hit2 hK2
          have hL2 := hL.keep hK2
          clear hbt hO hK hit
          by_cases hc : unlet c = 0
          · have HU : Hid (untxt s = none) := untxt_none (fun h => by have := (List.all_eq_true.1 h.2) c HM.out; simp [hc] at this)
            have e0 : unletZ (c.toNat : Int) = 0 := HB.out.trans hc
            have HLT : Hid (Calls Tryz.prog 120 #[.int .i32 (c.toNat : Int)] w2 fun e w' => e = .returned (.tuple #[.int .i64 0, .bool false]) ∧ w2 = w') := by
              have := lettered_any (c.toNat : Int) w2 hL2
              rw [e0] at this
              exact this
            clear HB hc e0
            go_wp2_with (go_at_call 120; refine HLT.out.mono ?_; rintro e w' ⟨rfl, rfl⟩)
            go_ret2
            exact types_none HU.out hK2
          · have e0 : unletZ (c.toNat : Int) = unlet c := HB.out
            have HLT : Hid (Calls Tryz.prog 120 #[.int .i32 (c.toNat : Int)] w2 fun e w' => e = .returned (.tuple #[.int .i64 (unlet c), .bool true]) ∧ w2 = w') := by
              have := lettered_any (c.toNat : Int) w2 hL2
              rw [e0, show decide (unlet c ≠ 0) = true by simpa using hc] at this
              exact this
            have hall2 : Hid (((s.take (k + 1)).all fun c => decide (unlet c ≠ 0)) = true) := by show _ = _; rw [HT.out, List.all_append, hall.out]; simp [hc]
            have HZ : Hid (ivs ((s.take (k + 1)).map unlet) = ivs ((s.take k).map unlet) ++ [.int .i64 (unlet c)]) := by show _ = _; rw [HT.out]; simp
            clear HB hc e0 HT hall HM
            go_wp2_with (first
              | (go_at_call 120; refine HLT.out.mono ?_; rintro e w' ⟨rfl, rfl⟩)
              | (at_builtin; refine wpList_append_rd _ rfl (.tmp 27) (.tmp 29) _ rfl 3 1 8 i0 _ Tryz.underlying48 hi hz0 hz1 hz2 rfl (by decide) _ k _ _ 1 _ [.int .i64 (unlet c)] rfl (hO2.1.alloc _) rfl (rd_made rfl rfl) rfl (by simp [Value.oneCell']) (by unfold maxLen; omega) (by omega) ?_; intro B2 d2 w3 hrow3 hg3 hv3; rw [← HZ.out] at hrow3; have hit3 := (hg3.block w1.heap.size (by have := (Array.getElem?_eq_some_iff.1 hit2).1; simp; omega) (fun e => own_iter hO2 hit2 e.symm)).trans ((Below.heap_alloc w2 _ w1.heap.size (Array.getElem?_eq_some_iff.1 hit2).1).trans hit2); obtain ⟨hO3, hK3⟩ := own_after hO2.2 (hK2.alloc _) hg3 hv3 hrow3; clear hrow3 hg3 hv3))
            go_roundw
            case rel => exact ⟨k + 1, by omega, hit3, ⟨B2, d2, rfl, hO3⟩, hall2, hK3⟩
            case measure =>
              have hmu2 : w3.iterPos w1.heap.size = k + 1 := by simp [World.iterPos, hit3]
              rw [hmu.out, hmu2]
              omega
        · have hnext : ∀ ty, (Instr.next (.pointer (some ⟨w1.heap.size, 0, none⟩)) true ty).run Tryz.prog wr = _ := fun ty => Lib.run_next_any_at wr w1.heap.size S k ty hit hlt
          have hbig := decode_big S k (by rw [get_at k hlt]; omega)
          have HB : Hid (unletZ ((Utf8.decode S k).1 : Int) = 0) := unletZ_big (by omega)
          have hc : unlet s[k] = 0 := by
            have := unletZ_byte s[k]
            rw [unletZ_big (by rw [← hbt]; omega)] at this
            exact this.symm
          have HU : Hid (untxt s = none) := untxt_none (fun h => by have := (List.all_eq_true.1 h.2) s[k] HM.out; simp [hc] at this)
          have hK2 := hK.iterAt hsz1 S (k + (Utf8.decode S k).2)
          generalize wr.iterAt w1.heap.size S (k + (Utf8.decode S k).2) = w2 at hnext hK2
          generalize (Utf8.decode S k).1 = r at hnext HB hbig
          have hL2 := hL.keep hK2
          have HLT : Hid (Calls Tryz.prog 120 #[.int .i32 (r : Int)] w2 fun e w' => e = .returned (.tuple #[.int .i64 0, .bool false]) ∧ w2 = w') := by
            have := lettered_any (r : Int) w2 hL2
            rw [HB.out] at this
            exact this
          clear hbt hO hK hit HT HM hc hb
          go_wp2_with (go_at_call 120; refine HLT.out.mono ?_; rintro e w' ⟨rfl, rfl⟩)
          go_ret2
          exact types_none HU.out hK2
      · obtain hkn : k = s.length := by rw [← HSZ.out]; omega
        have hnext : ∀ ty, (Instr.next (.pointer (some ⟨w1.heap.size, 0, none⟩)) true ty).run Tryz.prog wr = _ := fun ty => Lib.run_next_end_at wr w1.heap.size S k ty hit hlt
        subst hkn
        rw [List.take_length] at hO hall
        have HU : Hid (untxt s = some (s.map unlet)) := untxt_some (by rw [← HSZ.out]; omega) hall.out
        go_wp2
        go_ret2
        exact types_some HU.out hO hK

end Go.Proofs.YtonpplpfipfnfaaGreatDoor.W

namespace Go.Proofs.YtonpplpfipfnfaaGreatDoor.W
open Go.RowKit

/-! ### guess, Read -/

/-- strconv.ParseInt at base 10, 64 bits: the number, whatever the error. -/
theorem parse_any (S : ByteArray) (s : List UInt8) (w : World) (hs : S.data.toList = s) (hl : S.size ≤ 281474976710656) (h : Laid w) :
    Calls Tryz.prog 106 #[.string S, .int .i64 10, .int .i64 64] w fun e w' => ∃ er, e = .returned (.tuple #[.int .i64 (pI s), er]) ∧ Keep NoB w w' := by
  have e64 : Lib.parseIntB 64 S.data.toList = Lib.atoiAll s := by rw [Lib.parseIntB_64, hs]
  unfold pI
  rcases ha : Lib.atoiAll s with v | _ | _
  · rw [ha] at e64
    refine (Tryz.strconv_ParseInt_10_at64_ok S (by omega) v e64 w).mono ?_
    rintro e w' ⟨rfl, hw⟩
    refine ⟨_, rfl, ?_⟩
    rcases hw with rfl | ⟨t, rfl⟩
    · exact Keep.refl _ _
    · exact Keep.of_below (Lib.bytesWorld_below _ _ _)
  · rw [ha] at e64
    obtain ⟨tp, p, hv⟩ := h.syn
    refine (Tryz.strconv_ParseInt_10_at64_syntax_var S hl e64 tp p w hv).mono ?_
    rintro e w' ⟨N, rfl, _, _, hb⟩
    exact ⟨_, rfl, Keep.of_below hb⟩
  · rw [ha] at e64
    obtain ⟨tp, p, hv⟩ := h.rng
    refine (Tryz.strconv_ParseInt_10_at64_range_var S hl e64 tp p w hv).mono ?_
    rintro e w' ⟨N, rfl, _, _, hb⟩
    rw [Lib.intSat_64, hs]
    exact ⟨_, rfl, Keep.of_below hb⟩

theorem w64_w (n : Int) : wrap64 n = w64 n := by unfold wrap64 w64; rfl

/-- What Read answers. -/
def rT (t : Int) (s : List UInt8) : Int := if knownB t = true ∧ (rd t s).isSome = true then t else 0
def rN (t : Int) (s : List UInt8) : Int := if knownB t = true ∧ (rd t s).isSome = true then (rd t s).getD 0 else 0
def rE (t : Int) (s : List UInt8) : Int := if knownB t = true then (if (rd t s).isSome = true then 0 else 21) else 20
theorem r_bad {t : Int} (s : List UInt8) (h : knownB t = false) : rT t s = 0 ∧ rN t s = 0 ∧ rE t s = 20 := by simp [rT, rN, rE, h]
theorem r_none {t : Int} {s : List UInt8} (h : knownB t = true) (hr : rd t s = none) : rT t s = 0 ∧ rN t s = 0 ∧ rE t s = 21 := by simp [rT, rN, rE, h, hr]
theorem r_some {t n : Int} {s : List UInt8} (h : knownB t = true) (hr : rd t s = some n) : rT t s = t ∧ rN t s = n ∧ rE t s = 0 := by simp [rT, rN, rE, h, hr]

end Go.Proofs.YtonpplpfipfnfaaGreatDoor.W

namespace Go.Proofs.YtonpplpfipfnfaaGreatDoor.O
open Go.RowKit

/-- What strings.Cut reads besides its text. -/
def CutAt (w : World) : Prop := ∃ m, w.cell? ⟨3, 0, none⟩ = some (.int .i64 m)
theorem CutAt.keep {w w' : World} (h : CutAt w) (hk : Keep NoB w w') : CutAt w' := by
  obtain ⟨m, hm⟩ := h
  exact ⟨m, hk.cell hm id⟩
theorem cut_any (S : ByteArray) (s : List UInt8) (w : World) (hs : S.data.toList = s) (hl : S.size ≤ 1000) (h : CutAt w) :
    Calls Tryz.prog 65 #[.string S, .string ⟨#[32]⟩] w fun e w' => ∃ b, e = .returned (.tuple #[.string (str (Lib.cut s [32]).1), .string (str (Lib.cut s [32]).2.1), .bool b]) ∧ Keep NoB w w' := by
  obtain ⟨m, hm⟩ := h
  refine (Tryz.strings_Cut S ⟨#[32]⟩ m w (by omega) hm).mono ?_
  rintro e w' ⟨rfl, n, rfl⟩
  rw [hs]
  exact ⟨_, rfl, (Keep.refl NoB w).drewN n⟩
theorem str_list (s : List UInt8) : (str s).data.toList = s := by simp
theorem str_size (s : List UInt8) : (str s).size = s.length := _root_.Go.Proofs.YtonpplpfipfnfaaGreatDoor.W.size_of (str_list s)

set_option maxHeartbeats 1000000 in
theorem guess_dig (k : Int) (S : ByteArray) (s : List UInt8) (w : World) (hk : digK k = true) (hs : S.data.toList = s) (hl : S.size ≤ 1000) (h : LaidO w) :
    Calls Tryz.prog 105 #[.string S] w fun e w' => e = .returned (.int .i64 (gK k s)) ∧ Keep NoB w w' := by
  have HX : Hid (gK k s = W.pI s) := by show _ = _; unfold gK; rw [if_pos hk]
  have HF := Lib.hid (W.parse_any S s w hs (by omega) h.lib)
  clear h hk hs hl
  go_enter Tryz.func105, Tryz.ntmps105
  go_wp2_with fail
  refine HF.out.mono ?_
  rintro e w1 ⟨er, rfl, k1⟩
  go_wp2
  go_ret
  exact ⟨by rw [HX.out]; rfl, k1⟩

theorem own_first {w1 w : World} {B : Option Addr} {d : Nat} {x : Int} (h : Own w1 3 1 (Fresh w) (.slice B 1 d) 1 (ivs [x])) : ∃ g, B = some ⟨g, 0, none⟩ ∧ w1.cell? ⟨g, 0, none⟩ = some (.int .i64 x) := by
  obtain ⟨A, c, e, _, _, hr, ha⟩ := h.form
  injection e with e1 _ e2
  subst e1
  obtain ⟨g, off, e3, hc⟩ := hr (by simp)
  have h0 := (ha _ e3).2
  injection h0 with _ h0 _
  subst h0
  exact ⟨g, e3, hc 0 _ (by simp)⟩
/-- The error of a text that is no letter. -/
def letE (s : List UInt8) : Int := if W.tE s = 0 ∧ W.tN s = 1 then 0 else 40
theorem tE_tN (s : List UInt8) : W.tE s = 0 ∨ (W.tE s = 20 ∧ W.tN s = 0) := by
  unfold W.tE W.tN
  split
  · exact .inl rfl
  · exact .inr ⟨rfl, rfl⟩
set_option maxHeartbeats 1000000 in
theorem lettered_any (S : ByteArray) (s : List UInt8) (w : World) (hs : S.data.toList = s) (hl : S.size ≤ 1000) (h : LaidO w) :
    Calls Tryz.prog 85 #[.string S] w fun e w' => e = .returned (.tuple #[.int .i64 (ltrI s), .int .i64 (letE s)]) ∧ Keep NoB w w' := by
  have HF := Lib.hid (W.types_any S s w h.lets hs (by omega))
  have hlen := W.tL_length s
  clear h hs hl
  by_cases h0 : W.tE s = 0
  · by_cases h1 : W.tN s = 1
    · have HX : Hid (ltrI s = (W.tL s).getD 0 0 ∧ letE s = 0) := ⟨by unfold ltrI; rw [if_pos ⟨h0, h1⟩], by unfold letE; rw [if_pos ⟨h0, h1⟩]⟩
      obtain ⟨x, hx⟩ : ∃ x, W.tL s = [x] := by
        rw [h1] at hlen
        exact List.length_eq_one_iff.1 hlen
      rw [hx] at HX
      unfold W.TypesR at HF
      rw [h0, h1, hx] at HF
      clear h0 h1 hx hlen
      go_enter Tryz.func85, Tryz.ntmps85
      go_wp2_with fail
      refine HF.out.mono ?_
      rintro e w1 ⟨B, d, rfl, hO, k1⟩
      obtain ⟨ad, rfl, hc⟩ : ∃ ad, B = some ad ∧ w1.cell? ad = some (.int .i64 x) := by
        obtain ⟨g, rfl, hcell⟩ := own_first hO
        exact ⟨_, rfl, hcell⟩
      go_wp2
      go_ret2
      rw [HX.out.1, HX.out.2]
      exact ⟨rfl, k1⟩
    · have HX : Hid (ltrI s = 0 ∧ letE s = 40) := ⟨by unfold ltrI; rw [if_neg (fun h => h1 h.2)], by unfold letE; rw [if_neg (fun h => h1 h.2)]⟩
      unfold W.TypesR at HF
      rw [h0] at HF
      clear h0 hlen
      have hq : ((W.tN s : Int) != 1) = true := by rw [bne_iff_ne]; omega
      generalize W.tN s = n at HF hq
      clear h1
      go_enter Tryz.func85, Tryz.ntmps85
      go_wp2_with fail
      refine HF.out.mono ?_
      rintro e w1 ⟨B, d, rfl, hO, k1⟩
      go_wp2
      go_ret2
      rw [HX.out.1, HX.out.2]
      exact ⟨rfl, k1⟩
  · have HX : Hid (ltrI s = 0 ∧ letE s = 40) := ⟨by unfold ltrI; rw [if_neg (fun h => h0 h.1)], by unfold letE; rw [if_neg (fun h => h0 h.1)]⟩
    obtain ⟨h20, hn0⟩ := (tE_tN s).resolve_left h0
    unfold W.TypesR at HF
    rw [h20, hn0] at HF
    clear h0 h20 hn0 hlen
    go_enter Tryz.func85, Tryz.ntmps85
    go_wp2_with fail
    refine HF.out.mono ?_
    rintro e w1 ⟨B, d, rfl, hO, k1⟩
    go_wp2
    go_ret2
    rw [HX.out.1, HX.out.2]
    exact ⟨rfl, k1⟩

set_option maxHeartbeats 1000000 in
theorem guess_word (k : Int) (S : ByteArray) (s : List UInt8) (c : Nat) (w : World) (hk : wordK k = true) (hs : S.data.toList = s) (hl : S.size ≤ 1000) (h : LaidO w) (hc : w.cell? ⟨c, 0, none⟩ = some (fnV (readF k))) :
    Calls Tryz.prog 108 #[.string S, .pointer (some ⟨c, 0, none⟩)] w fun e w' => e = .returned (.int .i64 (gK k s)) ∧ Keep NoB w w' := by
  have hk := of_decide_eq_true hk
  have hkc : k = 8 ∨ k = 9 ∨ (k = 2 ∨ k = 3) := by omega
  clear hk
  rcases hkc with rfl | rfl | hk
  · have HF := Lib.hid (A.binOf_any S s w h.names hs hl)
    have HX : Hid (gK 8 s = A.ofI A.binNs s) := rfl
    have hc' : w.cell? ⟨c, 0, none⟩ = some (fnV 87) := hc
    clear h hs hl hc
    go_enter Tryz.func108, Tryz.ntmps108
    go_wp2_with fail
    refine HF.out.mono ?_
    rintro e w1 ⟨rfl, k1⟩
    go_wp2
    go_ret
    exact ⟨by rw [HX.out]; rfl, k1⟩
  · have HF := Lib.hid (A.unOf_any S s w h.names hs hl)
    have HX : Hid (gK 9 s = A.ofI A.unNs s) := rfl
    have hc' : w.cell? ⟨c, 0, none⟩ = some (fnV 89) := hc
    clear h hs hl hc
    go_enter Tryz.func108, Tryz.ntmps108
    go_wp2_with fail
    refine HF.out.mono ?_
    rintro e w1 ⟨rfl, k1⟩
    go_wp2
    go_ret
    exact ⟨by rw [HX.out]; rfl, k1⟩
  · have HF := Lib.hid (lettered_any S s w hs hl h)
    have HX : Hid (gK k s = ltrI s) := by rcases hk with rfl | rfl <;> rfl
    have hc' : w.cell? ⟨c, 0, none⟩ = some (fnV 85) := by rw [hc]; rcases hk with rfl | rfl <;> rfl
    clear h hs hl hc hk
    go_enter Tryz.func108, Tryz.ntmps108
    go_wp2_with fail
    refine HF.out.mono ?_
    rintro e w1 ⟨rfl, k1⟩
    go_wp2
    go_ret
    exact ⟨by rw [HX.out]; rfl, k1⟩

theorem kb_cases (op : Int) : (rowAt op).kb = 0 ∨ (rowAt op).kb = 3 := by
  have := rowAt_all (p := fun r => decide (r.kb = 0 ∨ r.kb = 3)) (by decide) (by decide) op
  simpa using this

theorem run_field_gu (k l m : Int) (sh gu : Value) (w : World) : (Instr.field 109 (.agg #[.int .i64 k, .int .i64 l, .int .i64 m, sh, gu]) 4).run Tryz.prog w = .ok gu w := by kernel_rfl

/-! ### guess -/
theorem dig_word {k : Int} (h : wordK k = true) : ¬ digK k = true := by
  have h := of_decide_eq_true h
  intro h2
  have h2 := of_decide_eq_true h2
  omega
theorem word_dig_no {k : Int} (h : wordK k = true) : ¬ digK k = true := dig_word h

set_option maxRecDepth 100000 in
set_option maxHeartbeats 4000000 in
theorem guess_00 (op ka kb A B : Int) (S : ByteArray) (s : List UInt8) (w : World) (hs : Hid (S.data.toList = s)) (hl : Hid (S.size ≤ 1000)) (_hL : Hid (LaidO w)) (hC : Hid (CutAt w)) (HKn : Hid (∀ w, Calls Tryz.prog 58 #[.int .i64 op] w fun e w' => e = .returned (.tuple #[.int .i64 ka, .int .i64 kb]) ∧ Keep NoB w w'))
    (hA : Hid (A = 0)) (hB : Hid (B = 0)) (h0 : ka = 0) (h1 : kb = 0) :
    Calls Tryz.prog 67 #[.int .i64 op, .string S] w fun e w' => e = .returned (instV op A B) ∧ Keep NoB w w' := by
  have HCt := Lib.hid (fun w hw => cut_any S s w hs.out hl.out hw)
  have hcl := Lib.hid (cut_len s)
  have hsz : Hid (S.size = s.length) := Lib.hid (_root_.Go.Proofs.YtonpplpfipfnfaaGreatDoor.W.size_of hs.out)
  subst h0
  subst h1
  have gK := ((Keep.refl NoB w).alloc (.cells #[.int .i64 0, .int .i64 0, .int .i64 0] 46)).alloc (.cells #[.int .i64 op, .int .i64 0, .int .i64 0] 46)
  have bo := (Blk.new w 46 #[.int .i64 0, .int .i64 0, .int .i64 0]).alloc (.cells #[.int .i64 op, .int .i64 0, .int .i64 0] 46)
  have bx := Blk.new (w.alloc (.cells #[.int .i64 0, .int .i64 0, .int .i64 0] 46)) 46 #[.int .i64 op, .int .i64 0, .int .i64 0]
  rw [World.size_alloc] at bx
  generalize (Lib.cut s [32]).1 = s1 at *
  generalize (Lib.cut s [32]).2.1 = s2 at *
  go_enter Tryz.func67, Tryz.ntmps67
  go_wp2_with fail
  refine (HCt.out _ (hC.out.keep gK)).mono ?_
  rintro e w1 ⟨bb, rfl, k1⟩
  replace bo := bo.keep k1 id
  replace bx := bx.keep k1 id
  replace gK := keepN gK k1
  clear k1
  go_wp2_with fail
  refine (HKn.out _).mono ?_
  rintro e w2 ⟨rfl, k1⟩
  replace bo := bo.keep k1 id
  replace bx := bx.keep k1 id
  replace gK := keepN gK k1
  clear k1
  have hz := bx.lt
  have hzo := bo.lt
  have fx := fun i => bx.frozen i
  have fo := fun i => bo.frozen i
  obtain ⟨c0, c1, c2⟩ := blk_inst bx
  obtain ⟨o0, o1, o2⟩ := blk_inst bo
  go_wp2
  refine bodyPost_ret (v := instV op 0 0) (by simp [results, Tryz.results67, go_sem, o0, o1, o2]) rfl ⟨by rw [hA.out, hB.out], ?_⟩
  repeat' first | exact gK | refine Keep.setCell ?_ (fun h => absurd h (by simp)) _


set_option maxRecDepth 100000 in
set_option maxHeartbeats 4000000 in
theorem guess_d0 (op ka kb A B : Int) (S : ByteArray) (s : List UInt8) (w : World) (hs : Hid (S.data.toList = s)) (hl : Hid (S.size ≤ 1000)) (hL : Hid (LaidO w)) (hC : Hid (CutAt w)) (HKn : Hid (∀ w, Calls Tryz.prog 58 #[.int .i64 op] w fun e w' => e = .returned (.tuple #[.int .i64 ka, .int .i64 kb]) ∧ Keep NoB w w'))
    (hA : Hid (A = gK ka (Lib.cut s [32]).1)) (hB : Hid (B = 0)) (h0 : ka ≠ 0) (h1 : kb = 0) (hk0 : Hid (digK ka = true ∧ 0 ≤ ka ∧ ka ≤ 10)) :
    Calls Tryz.prog 67 #[.int .i64 op, .string S] w fun e w' => e = .returned (instV op A B) ∧ Keep NoB w w' := by
  have HCt := Lib.hid (fun w hw => cut_any S s w hs.out hl.out hw)
  have hcl := Lib.hid (cut_len s)
  have hsz : Hid (S.size = s.length) := Lib.hid (_root_.Go.Proofs.YtonpplpfipfnfaaGreatDoor.W.size_of hs.out)
  have q0 : (ka != 0) = true := by rw [bne_iff_ne]; exact h0
  subst h1
  have gK := ((Keep.refl NoB w).alloc (.cells #[.int .i64 0, .int .i64 0, .int .i64 0] 46)).alloc (.cells #[.int .i64 op, .int .i64 0, .int .i64 0] 46)
  have bo := (Blk.new w 46 #[.int .i64 0, .int .i64 0, .int .i64 0]).alloc (.cells #[.int .i64 op, .int .i64 0, .int .i64 0] 46)
  have bx := Blk.new (w.alloc (.cells #[.int .i64 0, .int .i64 0, .int .i64 0] 46)) 46 #[.int .i64 op, .int .i64 0, .int .i64 0]
  rw [World.size_alloc] at bx
  generalize (Lib.cut s [32]).1 = s1 at *
  generalize (Lib.cut s [32]).2.1 = s2 at *
  go_enter Tryz.func67, Tryz.ntmps67
  go_wp2_with fail
  refine (HCt.out _ (hC.out.keep gK)).mono ?_
  rintro e w1 ⟨bb, rfl, k1⟩
  replace bo := bo.keep k1 id
  replace bx := bx.keep k1 id
  replace gK := keepN gK k1
  clear k1
  go_wp2_with fail
  refine (HKn.out _).mono ?_
  rintro e w2 ⟨rfl, k1⟩
  replace bo := bo.keep k1 id
  replace bx := bx.keep k1 id
  replace gK := keepN gK k1
  clear k1
  have HO := Lib.hid (fun w => operandOf_any ka ⟨hk0.out.2.1, hk0.out.2.2⟩ w)
  go_wp2_with fail
  refine (HO.out _).mono ?_
  rintro e w3 ⟨sh, gu, rfl, hF, k1⟩
  replace bo := bo.keep k1 id
  replace bx := bx.keep k1 id
  replace gK := keepN gK k1
  clear k1
  obtain ⟨rfl, rfl⟩ : sh = fnV 103 ∧ gu = fnV 105 := by
    rcases hF with ⟨h, _⟩ | ⟨_, h⟩ | ⟨h, _⟩
    · exact absurd h h0
    · exact h
    · exact absurd hk0.out.1 (dig_word h)
  clear hF
  dsimp only [opV]
  have hfd := fun w => run_field_gu ka (lo ka) (hi ka) (fnV 103) (fnV 105) w
  go_wp2_with fail
  refine (guess_dig ka (str s1) s1 _ hk0.out.1 (str_list _) (by rw [str_size]; have := hcl.out; have := hsz.out; have := hl.out; omega) (hL.out.keep gK)).mono ?_
  rintro e w4 ⟨rfl, k1⟩
  replace bo := bo.keep k1 id
  replace bx := bx.keep k1 id
  replace gK := keepN gK k1
  clear k1
  clear hfd
  rw [← hA.out]
  have hz := bx.lt
  have hzo := bo.lt
  have fx := fun i => bx.frozen i
  have fo := fun i => bo.frozen i
  obtain ⟨c0, c1, c2⟩ := blk_inst bx
  obtain ⟨o0, o1, o2⟩ := blk_inst bo
  go_wp2
  refine bodyPost_ret (v := instV op A 0) (by simp [results, Tryz.results67, go_sem, o0, o1, o2]) rfl ⟨by rw [hB.out], ?_⟩
  repeat' first | exact gK | refine Keep.setCell ?_ (fun h => absurd h (by simp)) _


set_option maxRecDepth 100000 in
set_option maxHeartbeats 4000000 in
theorem guess_w0 (op ka kb A B : Int) (S : ByteArray) (s : List UInt8) (w : World) (hs : Hid (S.data.toList = s)) (hl : Hid (S.size ≤ 1000)) (hL : Hid (LaidO w)) (hC : Hid (CutAt w)) (HKn : Hid (∀ w, Calls Tryz.prog 58 #[.int .i64 op] w fun e w' => e = .returned (.tuple #[.int .i64 ka, .int .i64 kb]) ∧ Keep NoB w w'))
    (hA : Hid (A = gK ka (Lib.cut s [32]).1)) (hB : Hid (B = 0)) (h0 : ka ≠ 0) (h1 : kb = 0) (hk0 : Hid (wordK ka = true ∧ 0 ≤ ka ∧ ka ≤ 10)) :
    Calls Tryz.prog 67 #[.int .i64 op, .string S] w fun e w' => e = .returned (instV op A B) ∧ Keep NoB w w' := by
  have HCt := Lib.hid (fun w hw => cut_any S s w hs.out hl.out hw)
  have hcl := Lib.hid (cut_len s)
  have hsz : Hid (S.size = s.length) := Lib.hid (_root_.Go.Proofs.YtonpplpfipfnfaaGreatDoor.W.size_of hs.out)
  have q0 : (ka != 0) = true := by rw [bne_iff_ne]; exact h0
  subst h1
  have gK := ((Keep.refl NoB w).alloc (.cells #[.int .i64 0, .int .i64 0, .int .i64 0] 46)).alloc (.cells #[.int .i64 op, .int .i64 0, .int .i64 0] 46)
  have bo := (Blk.new w 46 #[.int .i64 0, .int .i64 0, .int .i64 0]).alloc (.cells #[.int .i64 op, .int .i64 0, .int .i64 0] 46)
  have bx := Blk.new (w.alloc (.cells #[.int .i64 0, .int .i64 0, .int .i64 0] 46)) 46 #[.int .i64 op, .int .i64 0, .int .i64 0]
  rw [World.size_alloc] at bx
  generalize (Lib.cut s [32]).1 = s1 at *
  generalize (Lib.cut s [32]).2.1 = s2 at *
  go_enter Tryz.func67, Tryz.ntmps67
  go_wp2_with fail
  refine (HCt.out _ (hC.out.keep gK)).mono ?_
  rintro e w1 ⟨bb, rfl, k1⟩
  replace bo := bo.keep k1 id
  replace bx := bx.keep k1 id
  replace gK := keepN gK k1
  clear k1
  go_wp2_with fail
  refine (HKn.out _).mono ?_
  rintro e w2 ⟨rfl, k1⟩
  replace bo := bo.keep k1 id
  replace bx := bx.keep k1 id
  replace gK := keepN gK k1
  clear k1
  have HO := Lib.hid (fun w => operandOf_any ka ⟨hk0.out.2.1, hk0.out.2.2⟩ w)
  go_wp2_with fail
  refine (HO.out _).mono ?_
  rintro e w3 ⟨sh, gu, rfl, hF, k1⟩
  replace bo := bo.keep k1 id
  replace bx := bx.keep k1 id
  replace gK := keepN gK k1
  clear k1
  obtain ⟨bb, cc, rfl, rfl, hcc⟩ : ∃ b c, sh = boxV 107 b ∧ gu = boxV 108 c ∧ w3.cell? ⟨c, 0, none⟩ = some (fnV (readF ka)) := by
    rcases hF with ⟨h, _⟩ | ⟨h, _⟩ | ⟨_, b, c, h1, h2, _, h4⟩
    · exact absurd h h0
    · exact absurd h (word_dig_no hk0.out.1)
    · exact ⟨b, c, h1, h2, h4⟩
  have hcc := Lib.hid hcc
  clear hF
  dsimp only [opV]
  have hfd := fun w => run_field_gu ka (lo ka) (hi ka) (boxV 107 bb) (boxV 108 cc) w
  go_wp2_with fail
  refine (guess_word ka (str s1) s1 cc _ hk0.out.1 (str_list _) (by rw [str_size]; have := hcl.out; have := hsz.out; have := hl.out; omega) (hL.out.keep gK) hcc.out).mono ?_
  rintro e w4 ⟨rfl, k1⟩
  replace bo := bo.keep k1 id
  replace bx := bx.keep k1 id
  replace gK := keepN gK k1
  clear k1
  clear hfd
  rw [← hA.out]
  have hz := bx.lt
  have hzo := bo.lt
  have fx := fun i => bx.frozen i
  have fo := fun i => bo.frozen i
  obtain ⟨c0, c1, c2⟩ := blk_inst bx
  obtain ⟨o0, o1, o2⟩ := blk_inst bo
  go_wp2
  refine bodyPost_ret (v := instV op A 0) (by simp [results, Tryz.results67, go_sem, o0, o1, o2]) rfl ⟨by rw [hB.out], ?_⟩
  repeat' first | exact gK | refine Keep.setCell ?_ (fun h => absurd h (by simp)) _


set_option maxRecDepth 100000 in
set_option maxHeartbeats 4000000 in
theorem guess_dw (op ka kb A B : Int) (S : ByteArray) (s : List UInt8) (w : World) (hs : Hid (S.data.toList = s)) (hl : Hid (S.size ≤ 1000)) (hL : Hid (LaidO w)) (hC : Hid (CutAt w)) (HKn : Hid (∀ w, Calls Tryz.prog 58 #[.int .i64 op] w fun e w' => e = .returned (.tuple #[.int .i64 ka, .int .i64 kb]) ∧ Keep NoB w w'))
    (hA : Hid (A = gK ka (Lib.cut s [32]).1)) (hB : Hid (B = gK kb (Lib.cut s [32]).2.1)) (h0 : ka ≠ 0) (h1 : kb ≠ 0) (hk0 : Hid (digK ka = true ∧ 0 ≤ ka ∧ ka ≤ 10)) (hk1 : Hid (wordK kb = true ∧ 0 ≤ kb ∧ kb ≤ 10)) :
    Calls Tryz.prog 67 #[.int .i64 op, .string S] w fun e w' => e = .returned (instV op A B) ∧ Keep NoB w w' := by
  have HCt := Lib.hid (fun w hw => cut_any S s w hs.out hl.out hw)
  have hcl := Lib.hid (cut_len s)
  have hsz : Hid (S.size = s.length) := Lib.hid (_root_.Go.Proofs.YtonpplpfipfnfaaGreatDoor.W.size_of hs.out)
  have q0 : (ka != 0) = true := by rw [bne_iff_ne]; exact h0
  have q1 : (kb != 0) = true := by rw [bne_iff_ne]; exact h1
  have gK := ((Keep.refl NoB w).alloc (.cells #[.int .i64 0, .int .i64 0, .int .i64 0] 46)).alloc (.cells #[.int .i64 op, .int .i64 0, .int .i64 0] 46)
  have bo := (Blk.new w 46 #[.int .i64 0, .int .i64 0, .int .i64 0]).alloc (.cells #[.int .i64 op, .int .i64 0, .int .i64 0] 46)
  have bx := Blk.new (w.alloc (.cells #[.int .i64 0, .int .i64 0, .int .i64 0] 46)) 46 #[.int .i64 op, .int .i64 0, .int .i64 0]
  rw [World.size_alloc] at bx
  generalize (Lib.cut s [32]).1 = s1 at *
  generalize (Lib.cut s [32]).2.1 = s2 at *
  go_enter Tryz.func67, Tryz.ntmps67
  go_wp2_with fail
  refine (HCt.out _ (hC.out.keep gK)).mono ?_
  rintro e w1 ⟨bb, rfl, k1⟩
  replace bo := bo.keep k1 id
  replace bx := bx.keep k1 id
  replace gK := keepN gK k1
  clear k1
  go_wp2_with fail
  refine (HKn.out _).mono ?_
  rintro e w2 ⟨rfl, k1⟩
  replace bo := bo.keep k1 id
  replace bx := bx.keep k1 id
  replace gK := keepN gK k1
  clear k1
  have HO := Lib.hid (fun w => operandOf_any ka ⟨hk0.out.2.1, hk0.out.2.2⟩ w)
  go_wp2_with fail
  refine (HO.out _).mono ?_
  rintro e w3 ⟨sh, gu, rfl, hF, k1⟩
  replace bo := bo.keep k1 id
  replace bx := bx.keep k1 id
  replace gK := keepN gK k1
  clear k1
  obtain ⟨rfl, rfl⟩ : sh = fnV 103 ∧ gu = fnV 105 := by
    rcases hF with ⟨h, _⟩ | ⟨_, h⟩ | ⟨h, _⟩
    · exact absurd h h0
    · exact h
    · exact absurd hk0.out.1 (dig_word h)
  clear hF
  dsimp only [opV]
  have hfd := fun w => run_field_gu ka (lo ka) (hi ka) (fnV 103) (fnV 105) w
  go_wp2_with fail
  refine (guess_dig ka (str s1) s1 _ hk0.out.1 (str_list _) (by rw [str_size]; have := hcl.out; have := hsz.out; have := hl.out; omega) (hL.out.keep gK)).mono ?_
  rintro e w4 ⟨rfl, k1⟩
  replace bo := bo.keep k1 id
  replace bx := bx.keep k1 id
  replace gK := keepN gK k1
  clear k1
  clear hfd
  rw [← hA.out]
  have bo2 := bo
  have hz := bx.lt
  have fx := fun i => bx.frozen i
  have c0 := bx.cell 0
  have c1 := bx.cell 1
  have c2 := bx.cell 2
  have bx2 := bx.put 1 (.int .i64 A)
  have bo3 := bo.far (p := ⟨w.heap.size + 1, 1, none⟩) (by simp) (.int .i64 A)
  have gK2 : Keep NoB w (w4.setCell ⟨w.heap.size + 1, 1, none⟩ (.int .i64 A)) := gK.setCell (fun h => by have : w.heap.size + 1 < w.heap.size := h; omega) _
  have HO := Lib.hid (fun w => operandOf_any kb ⟨hk1.out.2.1, hk1.out.2.2⟩ w)
  go_wp2_with fail
  refine (HO.out _).mono ?_
  rintro e w5 ⟨sh, gu, rfl, hF, k1⟩
  clear bx bo gK hz fx c0 c1 c2 bo2
  have bx := bx2.keep k1 id
  have bo := bo3.keep k1 id
  have gK := keepN gK2 k1
  clear k1 bx2 bo3 gK2
  obtain ⟨bb, cc, rfl, rfl, hcc⟩ : ∃ b c, sh = boxV 107 b ∧ gu = boxV 108 c ∧ w5.cell? ⟨c, 0, none⟩ = some (fnV (readF kb)) := by
    rcases hF with ⟨h, _⟩ | ⟨h, _⟩ | ⟨_, b, c, h1, h2, _, h4⟩
    · exact absurd h h1
    · exact absurd h (word_dig_no hk1.out.1)
    · exact ⟨b, c, h1, h2, h4⟩
  have hcc := Lib.hid hcc
  clear hF
  dsimp only [opV]
  have hfd := fun w => run_field_gu kb (lo kb) (hi kb) (boxV 107 bb) (boxV 108 cc) w
  go_wp2_with fail
  refine (guess_word kb (str s2) s2 cc _ hk1.out.1 (str_list _) (by rw [str_size]; have := hcl.out; have := hsz.out; have := hl.out; omega) (hL.out.keep gK) hcc.out).mono ?_
  rintro e w6 ⟨rfl, k1⟩
  replace bo := bo.keep k1 id
  replace bx := bx.keep k1 id
  replace gK := keepN gK k1
  clear k1
  rw [← hB.out]
  have hz := bx.lt
  have hzo := bo.lt
  have fx := fun i => bx.frozen i
  have fo := fun i => bo.frozen i
  obtain ⟨c0, c1, c2⟩ := blk_inst bx
  obtain ⟨o0, o1, o2⟩ := blk_inst bo
  go_wp2
  refine bodyPost_ret (v := instV op A B) (by simp [results, Tryz.results67, go_sem, o0, o1, o2]) rfl ⟨rfl, ?_⟩
  repeat' first | exact gK | refine Keep.setCell ?_ (fun h => absurd h (by simp)) _

end Go.Proofs.YtonpplpfipfnfaaGreatDoor.O

namespace Go.Proofs.YtonpplpfipfnfaaGreatDoor.V
open Go.ChangeShapes Go.WideShapes Go.ChangeAt Go.RowKit

theorem cellsU8 : Tryz.prog.cellsOf 5 = 1 := by kernel_rfl

theorem u8_bounds {n : Int} (h : (Lit.int .u8 n).wf = true) : 0 ≤ n ∧ n < 256 := by
  have hmin : IntKind.u8.min = 0 := rfl
  have hmax : IntKind.u8.max = 255 := rfl
  simp only [Lit.wf, Bool.and_eq_true, decide_eq_true_eq] at h
  omega

/-- The bytes of a list of numbers that fit bytes. -/
def toU8 (zs : List Int) : List UInt8 := zs.map fun z => UInt8.ofNat z.toNat
theorem bvs_toU8 (zs : List Int) (h : ∀ n ∈ zs, (Lit.int .u8 n).wf = true) : bvs (toU8 zs) = zs.map (Value.int .u8) := by
  unfold bvs toU8
  rw [List.map_map]
  apply List.map_congr_left
  intro z hz
  obtain ⟨h0, h1⟩ := u8_bounds (h z hz)
  show Value.int .u8 (((UInt8.ofNat z.toNat).toNat : Nat) : Int) = _
  rw [UInt8.toNat_ofNat', Nat.mod_eq_of_lt (show z.toNat < 2 ^ 8 by omega)]
  congr 1
  omega

set_option maxRecDepth 100000 in
theorem read_bytes {H : Type} {enc : TypeId × Value → H} {W : World} {base : Nat} {spare : Nat → Bool} {held : Bool} {fuel : Nat} {cs : List Value} {x : DataW H × List MemPlace}
    (h : DataW.trod enc Tryz.prog W base spare held fuel 23 cs = some x) : ∃ A l c, cs = [.slice A l.length c] ∧ Rd W A l ∧ l.length ≤ c ∧ c ≤ maxLen := by
  rcases open_ints Tryz.underlying23 Tryz.underlying5 cellsU8 h with ⟨hcs, _⟩ | ⟨a, len, cap, zs, hcs, _, hl, hm, hz, _, hcell, hwz⟩
  · exact ⟨none, [], 0, hcs, Rd.none_ _ _, Nat.le_refl _, Nat.zero_le _⟩
  · have hzl : len ≤ zs.length := by rw [hz]; split <;> omega
    have hlen : (toU8 (zs.take len)).length = len := by simp [toU8]; omega
    refine ⟨some a, toU8 (zs.take len), cap, by rw [hlen]; exact hcs, fun _ => ⟨a, rfl, fun j u hu => ?_⟩, by rw [hlen]; exact hl, hm⟩
    rw [bvs_toU8 _ (fun n hn => hwz n (List.mem_of_mem_take hn))] at hu
    obtain ⟨hj, hju⟩ := List.getElem?_eq_some_iff.1 hu
    have hj' : j < len := by simp at hj; omega
    have hc := hcell j (by omega)
    rw [hc]
    simp at hju
    rw [← hju]
    simp [List.getD, List.getElem?_eq_getElem (show j < zs.length by omega)]

section
variable {H : Type} {enc : TypeId × Value → H} {w : World} {base b0 : Nat} {spare : Nat → Bool} {held : Bool} {r : Reach} {v : Value} {d : DataW H} {p : List MemPlace}
set_option maxRecDepth 100000 in
theorem open_bytes (hv : Value.okWide Tryz.prog w r b0 23 v) (h : DataW.Trod enc Tryz.prog w base spare held 23 v d p) : ∃ A l c, v = .slice A l.length c ∧ Rd w A l ∧ l.length ≤ c ∧ c ≤ maxLen := by
  obtain ⟨a0, len, cap, rfl⟩ := okWide_slice Tryz.underlying23 hv
  obtain ⟨fuel, hf⟩ := h
  obtain ⟨A, l, c, hcs, hr, hc, hm⟩ := read_bytes hf
  simp only [Value.cells, List.cons.injEq, Value.slice.injEq, and_true] at hcs
  obtain ⟨rfl, rfl, rfl⟩ := hcs
  exact ⟨_, l, _, rfl, hr, hc, hm⟩
end

end Go.Proofs.YtonpplpfipfnfaaGreatDoor.V

namespace Go.Proofs.YtonpplpfipfnfaaGreatDoor.O
open Go.ChangeShapes Go.WideShapes Go.ChangeAt Go.RowKit

theorem handed_and {H : Type} {enc : TypeId × Value → H} {a : Assume} {C : Checked} {os : Os} {f : FuncId} {fn : Func} {s : ChangeSpec} {conds : List PathCond} {apart fresh handsOn again : Bool} {X : World → Array Value → Prop}
    (hX : ∀ (w w' : World) (args : Array Value), w.heap = w'.heap → X w args → X w' args) (own : ownKnob C.prog.godebug = none) (started : os.Started) (noInit : C.prog.inits.idxOf? f = none) (hfn : C.prog.funcs[f]? = some fn)
    (witness : ∃ (w : World) (tape : Tape) (i : Input), w.os = os ∧ (w.forCall tape i).Shaped C.prog ∧ i.vars = [] ∧ Input.okWide C.prog (w.forCall tape i) .any w.heap.size f i ∧
      ((s.pre enc C.prog fn conds apart (w.forCall tape i).memory i.args ∧ X (w.forCall tape i).memory i.args) ∧ sizedMet enc C.prog fn (OpenSpec.ofChange s) apart (w.forCall tape i).memory i.args) ∧ a.holds C.prog (lone (Frame.enter C.prog f i.args .normal) [] (w.forCall tape i)))
    (contract : ∀ (W : World) (base : Nat) (args : Array Value) (ds gs : List (DataW H)) (before : List MemPlace),
      (∀ (j : Nat) t v, fn.params[j]? = some t → args[j]? = some v → Value.okWide C.prog W .any base t v) → DataW.Whole enc C.prog fn.params.toList s.vars apart W args.toList ds gs before →
      W.ShapedOpen C.prog → X W args → Calls C.prog f args W fun e W' => ∃ v, e = .returned v ∧ s.post enc C.prog fn apart fresh handsOn again W args v W') :
    ReturnsInHanded a C os f .any (fun w args => (s.pre enc C.prog fn conds apart w args ∧ X w args) ∧ sizedMet enc C.prog fn (OpenSpec.ofChange s) apart w args) (s.post enc C.prog fn apart fresh handsOn again) := by
  refine returnsInHanded_of_calls own started noInit witness ?_
  intro w tape i _ hsh _ hok hpre _
  obtain ⟨_, _, _, fn', hfn', _, _, _, _, hval⟩ := hok
  obtain rfl : fn' = fn := Option.some.inj (hfn'.symm.trans hfn)
  obtain ⟨⟨⟨ds, gs, before, hw, _⟩, hx⟩, _⟩ := hpre
  refine (contract (w.forCall tape i) w.heap.size i.args ds gs before hval (DataW.Whole.of_heap (w' := w.forCall tape i) (by rfl) hw) hsh (hX _ _ _ (by rfl) hx)).mono fun e W' ⟨v, he, hp⟩ => ?_
  subst he
  exact ChangeSpec.post_blind hp

/-- Function 67 asks for it. -/
theorem cutAt_of {w : World} (h : w.ShapedOpen Tryz.prog) : CutAt w :=
  cell_of_shapedOpen_int (t := 3) (zero := #[.int .i64 0]) h (by decide +kernel) (by kernel_rfl) rfl (by kernel_rfl) (by kernel_rfl) Tryz.underlying3

end Go.Proofs.YtonpplpfipfnfaaGreatDoor.O

namespace Go.Proofs.YtonpplpfipfnfaaGreatDoor.O
open Go.RowKit Go.Shelf

/-- An instruction's number. -/
abbrev Rn := { k : Nat // k < 30 }
abbrev rowE (x : Rn) : Array Value := #[.int .i64 (x.1 : Int), rowV (rowAt (x.1 : Int))]
theorem rn_op (x : Rn) : isOp (x.1 : Int) = true := decide_eq_true (by have := x.2; omega)

set_option maxRecDepth 100000 in
set_option maxHeartbeats 1000000 in
theorem rows1_in (m l : Nat) (hm : 1 ≤ m) (J Jx : List Rn → World → Prop) (hJk : ∀ pre W W', J pre W → Keep NoB W W' → J pre W')
    (hY : ∀ pre x W, J pre W → pre.length < 30 → YieldAt Fence.wide (m - 1) Tryz.prog l (rowE x) W fun e W' =>
      (e = .returned (.bool true) ∧ J (pre ++ [x]) W' ∧ True) ∨ (e = .returned (.bool false) ∧ Jx (pre ++ [x]) W'))
    (W : World) (h0 : J [] W) :
    CallsIn Fence.wide m Tryz.prog 115 #[.func (.yield l) #[] #[]] W fun e W' => (∃ v, e = .returned v) ∧
      ((∃ ys : List Rn, ys.map (·.1) = List.range 30 ∧ J ys W') ∨ (∃ pre, True ∧ Jx pre W')) := by
  refine callsIn_of_wp Tryz.func115 rfl trivial ?_ rfl
  simp only [Tryz.ntmps115, List.size_toArray, List.length_cons, List.length_nil, Nat.reduceAdd, Nat.reduceSub, Array.replicate_succ, Array.replicate_zero, List.push_toArray, List.append_toArray, List.nil_append, List.cons_append]
  gi_wp2_with (refine ⟨trivial, ?_⟩; (try refine ⟨fun _ => hm, ?_⟩); gi_at_call 73; refine (callsIn_wide.2 (table_any _)).mono ?_; rintro e w1 ⟨rfl, k1⟩; have hJ1 := hJk _ _ _ h0 k1)
  gi_loopw [5] (fun p wr => ∃ (j : Nat) (pre : List Rn), j ≤ 30 ∧ p = .int .i64 (j : Int) ∧ Hid (pre.map (·.1) = List.range j) ∧ J pre wr)
    (fun p _ => 30 - (intOf p).toNat)
  case atStart => exact ⟨0, [], by omega, rfl, rfl, hJ1⟩
  case round =>
    obtain ⟨j, pre, hj, rfl, HP, hJ⟩ := hrel
    by_cases hlt : j < 30
    · have hlen : pre.length < 30 := by
        have := congrArg List.length HP.out
        simp at this
        omega
      have ho : isOp (j : Int) = true := decide_eq_true (by omega)
      have hix : ∀ w, (Instr.index 137 (.agg tableC) (.int .i64 (j : Int))).run Tryz.prog w = .ok (rowV (rowAt (j : Int))) w := fun w => run_index_row (j : Int) ho w
      have HJ2 := Lib.hid (fun W' hk => hJk pre wr W' hJ hk)
      have HY := Lib.hid (hY pre ⟨j, hlt⟩ _ (HJ2.out _ ((Keep.refl NoB wr).alloc (.cells (cells9 (rowAt (j : Int))) 95))) hlen)
      have hdn : Hid ((pre ++ [(⟨j, hlt⟩ : Rn)]).map (·.1) = List.range (j + 1)) := by
        show _ = _
        rw [List.map_append, HP.out, List.range_succ]
        rfl
      obtain ⟨r, hr⟩ : ∃ r, rowAt (j : Int) = r := ⟨_, rfl⟩
      rw [hr] at hix
      dsimp only [rowE] at HY
      rw [hr] at HY
      clear hr
      obtain ⟨fn, tmps, assign, body, hy, hR⟩ := HY.out
      clear hY ho HY HJ2
      gi_wp2
      refine hR.mono ?_
      rintro e W3 (⟨rfl, hJ3, _⟩ | ⟨rfl, hJx3⟩)
      · gi_wp2
        go_roundw
        case rel => exact ⟨j + 1, _, by omega, by go_num, hdn, hJ3⟩
        case measure => simp [intOf]; omega
      · gi_wp2
        refine bodyPost_ret (results_none rfl _ _ _) rfl ?_
        exact ⟨⟨_, rfl⟩, .inr ⟨_, trivial, hJx3⟩⟩
    · obtain rfl : j = 30 := by omega
      gi_wp2
      go_end0
      exact ⟨⟨_, rfl⟩, .inl ⟨pre, HP.out, hJ⟩⟩

end Go.Proofs.YtonpplpfipfnfaaGreatDoor.O

namespace Go.Proofs.YtonpplpfipfnfaaGreatDoor.O
open Go.RowKit Go.Shelf
attribute [local go_sem] Oper.semAt_some

/-- What the loop keeps: none that has come has the name. -/
def OfI (w : World) (bs bn be : Nat) (S : ByteArray) (pre : List Rn) (W : World) : Prop :=
  (Blk W bs 9 #[.string S] ∧ Blk W bn 3 #[.int .i64 0] ∧ Blk W be 25 #[.int .i64 40]) ∧ Keep NoB w W ∧ ∀ x ∈ pre, nm x.1 ≠ S
/-- Where it is left: one has it. -/
def OfX (w : World) (bn be : Nat) (S : ByteArray) (c : Code) (W : World) : Prop :=
  c = .exit 0 ∧ ∃ x : Rn, nm x.1 = S ∧ (Blk W bn 3 #[.int .i64 (x.1 : Int)] ∧ Blk W be 25 #[.int .i64 0]) ∧ Keep NoB w W
/-- The activation at the head of the loop's body. -/
def OfA (S : ByteArray) (bs bn be : Nat) (x : Rn) (Bo : Nat) : Act :=
  { tmps := #[.string S, .pointer (some ⟨bs, 0, none⟩), .int .i64 0, .int .i64 0, .pointer (some ⟨bn, 0, none⟩), .pointer (some ⟨be, 0, none⟩), .int .i64 (x.1 : Int), .pointer (some ⟨Bo, 0, none⟩), .func (.func 115) #[] #[], .int .i64 (x.1 : Int), rowV (rowAt (x.1 : Int)), undef, undef, undef, undef, undef, undef, undef], defers := [] }
theorem ofI_own {w : World} {bs bn be B : Nat} {S : ByteArray} (hB : w.heap.size ≤ B) : OwnFrom B (OfI w bs bn be S) := by
  intro s X Y row ⟨⟨h1, h2, h3⟩, h4, h5⟩ hg hrow
  exact ⟨⟨blk_own (β := Unit) _ _ _ (fun _ => _) () _ _ _ h1 hg hrow, blk_own (β := Unit) _ _ _ (fun _ => _) () _ _ _ h2 hg hrow, blk_own (β := Unit) _ _ _ (fun _ => _) () _ _ _ h3 hg hrow⟩, keep_own (β := Unit) _ hB () _ _ _ h4 hg hrow, h5⟩
theorem ofX_own {w : World} {bn be B : Nat} {S : ByteArray} (hB : w.heap.size ≤ B) (c : Code) : OwnFrom B (fun (_ : List Rn) W => OfX w bn be S c W) := by
  intro s X Y row ⟨h0, x, h1, ⟨h2, h3⟩, h4⟩ hg hrow
  exact ⟨h0, x, h1, ⟨blk_own (β := Unit) _ _ _ (fun _ => _) () _ _ _ h2 hg hrow, blk_own (β := Unit) _ _ _ (fun _ => _) () _ _ _ h3 hg hrow⟩, keep_own (β := Unit) _ hB () _ _ _ h4 hg hrow⟩
theorem abides_keep {B : Nat} {J : List Rn → World → Prop} (h : AbidesFrom B J) : ∀ pre W W', J pre W → Keep NoB W W' → J pre W' := fun pre W W' hj hk => h pre W W' none hj hk.grows (fun r e => by cases e)
theorem rows_stops (m : Nat) (hm : 1 ≤ m) (w : World) :
    SeqStopsK Fence.wide m Tryz.prog 115 #[] rowE (fun _ _ => True) (fun ys : List Rn => ys.map (·.1) = List.range 30) (fun _ => True) 30 w := fun l J Jx W _ hJ _ hY h0 =>
  rows1_in m l hm J Jx (abides_keep hJ) hY W h0
theorem rows_any (m : Nat) (w : World) :
    CallsIn Fence.wide m Tryz.prog 95 #[] w fun e w' => e = .returned (.func (.func 115) #[] #[]) ∧ w' = w := by
  refine callsIn_of_wp Tryz.func95 rfl trivial ?_ rfl
  simp only [Tryz.ntmps95, List.size_toArray, List.length_nil, Nat.reduceSub, Array.replicate_succ, Array.replicate_zero, List.push_toArray, List.append_toArray, List.nil_append]
  gi_wp2
  go_ret
  exact ⟨rfl, rfl⟩
theorem nm_ne {S T : ByteArray} (h : T ≠ S) : (T.toList == S.toList) = false := by
  rw [beq_eq_false_iff_ne]
  intro e
  rw [ByteArray.toList_eq, ByteArray.toList_eq] at e
  exact h (by cases T; cases S; simp at e; rw [e])
theorem findI_hit {S : ByteArray} (x : Rn) (h : nm x.1 = S) : findI S = (x.1 : Int) := by
  rw [← h]; exact findI_of (rn_op x)
theorem findI_miss {S : ByteArray} {ys : List Rn} (h : ys.map (·.1) = List.range 30) (h2 : ∀ x ∈ ys, nm x.1 ≠ S) : findI S = -1 := by
  rcases find_spec S 30 0 with ⟨h1, _⟩ | ⟨j, _, hj, _, h4⟩
  · exact h1
  · have hm : j ∈ ys.map (·.1) := by rw [h]; simp; omega
    obtain ⟨x, hx, rfl⟩ := List.mem_map.1 hm
    exact absurd h4 (h2 x hx)

set_option maxRecDepth 100000 in
set_option maxHeartbeats 4000000 in
theorem opOf_any (S : ByteArray) (w : World) :
    Calls Tryz.prog 66 #[.string S] w fun e w' => e = .returned (.tuple #[.int .i64 (ofN S), .int .i64 (ofE S)]) ∧ Keep NoB w w' := by
  refine (callsIn_wide (n := 4)).1 ?_
  refine callsIn_of_wp_marks Tryz.func66 rfl trivial ?_ rfl
  simp only [Tryz.ntmps66, List.size_toArray, List.length_cons, List.length_nil, Nat.reduceAdd, Nat.reduceSub, Array.replicate_succ, Array.replicate_zero, List.push_toArray, List.append_toArray, List.nil_append, List.cons_append]
  gi_wp2
  refine V.wpIn_scope_wide ?_
  have hs := ((Blk.new w 9 #[.string S]).alloc (.cells #[.int .i64 0] 3)).alloc (.cells #[.int .i64 40] 25)
  have hn := (Blk.new (w.alloc (.cells #[.string S] 9)) 3 #[.int .i64 0]).alloc (.cells #[.int .i64 40] 25)
  have he := Blk.new ((w.alloc (.cells #[.string S] 9)).alloc (.cells #[.int .i64 0] 3)) 25 #[.int .i64 40]
  simp only [World.size_alloc] at hn he
  have hK := (((Keep.refl NoB w).alloc (.cells #[.string S] 9)).alloc (.cells #[.int .i64 0] 3)).alloc (.cells #[.int .i64 40] 25)
  have hI0 : OfI w w.heap.size (w.heap.size + 1) (w.heap.size + 1 + 1) S [] (((w.alloc (.cells #[.string S] 9)).alloc (.cells #[.int .i64 0] 3)).alloc (.cells #[.int .i64 40] 25)) := ⟨⟨hs, hn, he⟩, hK, fun x hx => by simp at hx⟩
  gi_wp2
  refine wpIn_label ?_
  gi_wp2_with (refine ⟨trivial, ?_⟩; gi_at_call 95; refine (rows_any _ _).mono ?_; rintro e w1 ⟨rfl, rfl⟩)
  clear hs hn he hK
  refine wpIn_rangeFunc_ownH rfl (by omega) (gf := 115) (lb := #[]) rfl trivial (enters_of Tryz.func115 (by kernel_rfl) rfl)
    (rows_stops _ (by omega) _) (fun _ _ => trivial) (fun _ _ _ _ _ _ _ _ => trivial) (Below.refl _ _) (fun _ => rfl)
    (OfI w w.heap.size (w.heap.size + 1) (w.heap.size + 1 + 1) S) (fun c _ W => OfX w (w.heap.size + 1) (w.heap.size + 1 + 1) S c W) (ofI_own (by simp; omega)) (fun c => ofX_own (by simp; omega) c) hI0
    (fun x a' W => ∃ Bo, Blk W Bo 95 (cells9 (rowAt (x.1 : Int))) ∧ a' = OfA S w.heap.size (w.heap.size + 1) (w.heap.size + 1 + 1) x Bo) ?hax ?assign ?body ?done ?stop
  case hax =>
    rintro x a' s X Y row ⟨Bo, h1, h2⟩ hg hrow
    exact ⟨Bo, blk_own (β := Unit) _ _ _ (fun _ => _) () _ _ _ h1 hg hrow, h2⟩
  case assign =>
    intro l pre x W K hi hK
    have HI := Lib.hid (fun W' hk => ofI_own (w := w) (bs := w.heap.size) (bn := w.heap.size + 1) (be := w.heap.size + 1 + 1) (S := S) (Nat.le_refl _) pre W W' none hi (Keep.grows hk) (fun r e => by cases e))
    have HB := Lib.hid (Blk.new W 95 (cells9 (rowAt (x.1 : Int))))
    gi_wp2
    exact hK _ _ (keepsFrom_keep ((Keep.refl NoB W).alloc _)) trivial (HI.out _ ((Keep.refl NoB W).alloc _)) ⟨_, HB.out, rfl⟩
  case body =>
    rintro l pre x a' W hl _ ⟨⟨hs, hn, he⟩, hK, hall⟩ ⟨Bo, hb, rfl⟩ _
    have cs : W.cell? ⟨w.heap.size, 0, none⟩ = some (.string S) := hs.cell 0
    have cb : W.cell? ⟨Bo, 0, none⟩ = some (.string (nm x.1)) := hb.cell 0
    have hzn := hn.lt
    have hze := he.lt
    have fn := fun i => hn.frozen i
    have fe := fun i => he.frozen i
    have cn := hn.cell 0
    have ce := he.cell 0
    dsimp only [OfA]
    by_cases hx : nm x.1 = S
    · have hq : ((nm x.1).toList == S.toList) = true := by rw [hx]; simp
      have hn2 := (hn.put 0 (.int .i64 (x.1 : Int))).far (p := ⟨w.heap.size + 1 + 1, 0, none⟩) (by simp) (.int .i64 0)
      have he2 := (he.far (p := ⟨w.heap.size + 1, 0, none⟩) (by simp) (.int .i64 (x.1 : Int))).put 0 (.int .i64 0)
      have HX : Hid (OfX w (w.heap.size + 1) (w.heap.size + 1 + 1) S (.exit 0) ((W.setCell ⟨w.heap.size + 1, 0, none⟩ (.int .i64 (x.1 : Int))).setCell ⟨w.heap.size + 1 + 1, 0, none⟩ (.int .i64 0))) :=
        ⟨rfl, x, hx, ⟨hn2, he2⟩, (hK.setCell (fun h => absurd h (by simp)) _).setCell (fun h => absurd h (by simp; omega)) _⟩
      clear hx hs hn he hn2 he2 hK hall
      generalize nm x.1 = T at cb hq
      gi_wp2
      refine ⟨⟨?_, ?_⟩, HX.out⟩
      · simp
      · intro k o hk1 hk2 hk3
        have hk1' : w.heap.size + 3 ≤ k := by simp at hk1; omega
        exact ((Below.heap_setCell _ _ _ _ (by show k ≠ w.heap.size + 1 + 1; omega)).trans (Below.heap_setCell _ _ _ _ (by show k ≠ w.heap.size + 1; omega))).trans hk2
    · have hq := nm_ne hx
      have HX : Hid (OfI w w.heap.size (w.heap.size + 1) (w.heap.size + 1 + 1) S (pre ++ [x]) W) := ⟨⟨hs, hn, he⟩, hK, fun y hy => by
        rcases List.mem_append.1 hy with h | h
        · exact hall y h
        · rw [List.mem_singleton.1 h]; exact hx⟩
      clear hx hs hn he hK hall
      generalize nm x.1 = T at cb hq
      gi_wp2
      exact ⟨KeepsFrom.refl _ _, trivial, HX.out⟩
  case done =>
    rintro D ys W hD hS ⟨⟨hs, hn, he⟩, hK, hall⟩ hDf
    have hf := findI_miss hS hall
    have HX : Hid (ofN S = 0 ∧ ofE S = 40) := ⟨by unfold ofN; rw [if_pos (by omega)], by unfold ofE; rw [if_pos (by omega)]⟩
    have cn : W.cell? ⟨w.heap.size + 1, 0, none⟩ = some (.int .i64 0) := hn.cell 0
    have ce : W.cell? ⟨w.heap.size + 1 + 1, 0, none⟩ = some (.int .i64 40) := he.cell 0
    have hmix : Tryz.prog.follows .mixedOrders = true := by kernel_rfl
    gi_wp2
    gi_region
    gi_wp2
    refine ⟨by simp, .inl ⟨_, _, rfl, run_takeDeferred (w := W.drew) hDf, ?_⟩⟩
    refine ⟨_, results_tmp2 rfl _ _ _, ?_, Keep_putObj hK.drew (by simp at hD; omega)⟩
    exact pr_ii HX.out.1.symm HX.out.2.symm
  case stop =>
    rintro D c pre W hD _ ⟨rfl, x, hx, ⟨hn, he⟩, hK⟩ hDf
    have hf := findI_hit x hx
    have HX : Hid (ofN S = (x.1 : Int) ∧ ofE S = 0) := ⟨by unfold ofN; rw [if_neg (by omega), hf], by unfold ofE; rw [if_neg (by omega)]⟩
    have cn : W.cell? ⟨w.heap.size + 1, 0, none⟩ = some (.int .i64 (x.1 : Int)) := hn.cell 0
    have ce : W.cell? ⟨w.heap.size + 1 + 1, 0, none⟩ = some (.int .i64 0) := he.cell 0
    have hmix : Tryz.prog.follows .mixedOrders = true := by kernel_rfl
    gi_wp2
    gi_region
    gi_wp2
    refine ⟨by simp, .inl ⟨_, _, rfl, run_takeDeferred (w := W.drew) hDf, ?_⟩⟩
    refine ⟨_, results_tmp2 rfl _ _ _, ?_, Keep_putObj hK.drew (by simp at hD; omega)⟩
    exact pr_ii HX.out.1.symm HX.out.2.symm

end Go.Proofs.YtonpplpfipfnfaaGreatDoor.O

namespace Go.Proofs.YtonpplpfipfnfaaGreatDoor.O
open Go.RowKit

theorem ka_cases (op : Int) : (rowAt op).ka = 0 ∨ digK (rowAt op).ka = true ∨ (wordK (rowAt op).ka = true ∧ (rowAt op).kb = 0) := by
  have := rowAt_all (p := fun r => decide (r.ka = 0 ∨ digK r.ka = true ∨ (wordK r.ka = true ∧ r.kb = 0))) (by decide) (by decide) op
  simpa using this

theorem guess_any (op : Int) (S : ByteArray) (s : List UInt8) (w : World) (hs : S.data.toList = s) (hl : S.size ≤ 1000) (hL : LaidO w) (hC : CutAt w) :
    Calls Tryz.prog 67 #[.int .i64 op, .string S] w fun e w' => e = .returned (instV op (gA op s) (gB op s)) ∧ Keep NoB w w' := by
  have hk := kinds_ok op
  have HK := Lib.hid (fun w => kinds_any op w)
  have eA : gA op s = if (rowAt op).ka = 0 then 0 else gK (rowAt op).ka (Lib.cut s [32]).1 := rfl
  have eB : gB op s = if (rowAt op).kb = 0 then 0 else gK (rowAt op).kb (Lib.cut s [32]).2.1 := rfl
  rcases ka_cases op with h0 | hd | ⟨hw, h1⟩
  · have h1 := kinds_none op h0
    rw [if_pos h0] at eA
    rw [if_pos h1] at eB
    exact guess_00 op (rowAt op).ka (rowAt op).kb _ _ S s w hs hl hL hC HK eA eB h0 h1
  · have h0 := dig_0 hd
    rw [if_neg h0] at eA
    rcases kb_cases op with h1 | h3
    · rw [if_pos h1] at eB
      exact guess_d0 op (rowAt op).ka (rowAt op).kb _ _ S s w hs hl hL hC HK eA eB h0 h1 ⟨hd, hk.1, hk.2.1⟩
    · have h1 : (rowAt op).kb ≠ 0 := by omega
      rw [if_neg h1] at eB
      exact guess_dw op (rowAt op).ka (rowAt op).kb _ _ S s w hs hl hL hC HK eA eB h0 h1 ⟨hd, hk.1, hk.2.1⟩ ⟨by rw [h3]; decide, hk.2.2.1, hk.2.2.2⟩
  · have h0 := word_0 hw
    rw [if_neg h0] at eA
    rw [if_pos h1] at eB
    exact guess_w0 op (rowAt op).ka (rowAt op).kb _ _ S s w hs hl hL hC HK eA eB h0 h1 ⟨hw, hk.1, hk.2.1⟩

theorem eq_text {S : ByteArray} {s t : List UInt8} (hs : S.data.toList = s) : ((str t).toList == S.toList) = decide (t = s) := by
  rw [ByteArray.toList_eq, ByteArray.toList_eq, hs, str_list]
  by_cases h : t = s
  · subst h; simp
  · simp [h]
theorem out3N {w w1 : World} {B : Nat} (hk : Keep NoB w w1) (hB : w.heap.size ≤ B) (u0 u1 u2 : Value) : Keep NoB w (((w1.setCell ⟨B, 0, none⟩ u0).setCell ⟨B, 1, none⟩ u1).setCell ⟨B, 2, none⟩ u2) := by
  have hn : ∀ i, (⟨B, i, none⟩ : Addr).block < w.heap.size → NoB (⟨B, i, none⟩ : Addr).block := fun i hl => by have : B < w.heap.size := hl; omega
  exact ((hk.setCell (hn 0) _).setCell (hn 1) _).setCell (hn 2) _

set_option maxRecDepth 100000 in
set_option maxHeartbeats 2000000 in
theorem read_text (S : ByteArray) (s : List UInt8) (w : World) (hs : S.data.toList = s) (hl : S.size ≤ 1000) (hL : LaidO w) (hC : CutAt w) :
    Calls Tryz.prog 44 #[.string S] w fun e w' => ∃ v, e = .returned v ∧ ReadV s v ∧ Keep NoB w w' := by
  have hK := (Keep.refl NoB w).alloc (.cells #[.int .i64 0, .int .i64 0, .int .i64 0] 46)
  have bo := Blk.new w 46 #[.int .i64 0, .int .i64 0, .int .i64 0]
  have HL := Lib.hid hL
  have HCt := Lib.hid (cut_any S s _ hs hl (hC.keep hK))
  have HC := Lib.hid hC
  have hcl := Lib.hid (cut_len s)
  have hsz : Hid (S.size = s.length) := Lib.hid (_root_.Go.Proofs.YtonpplpfipfnfaaGreatDoor.W.size_of hs)
  have hl := Lib.hid hl
  have HN := Lib.hid (fun h => read_nameless (s := s) h)
  have HY := Lib.hid (fun op a b h1 h2 h3 => read_yes (s := s) (op := op) (a := a) (b := b) h1 h2 h3)
  have HM := Lib.hid (fun op h1 h2 => read_miss (s := s) (op := op) h1 h2)
  have HE := Lib.hid (fun t => eq_text (t := t) hs)
  clear hL hC hs
  generalize (Lib.cut s [32]).1 = s1 at *
  generalize (Lib.cut s [32]).2.1 = s2 at *
  have HO := Lib.hid (fun w => opOf_any (str s1) w)
  rcases findI_spec (str s1) with ⟨hf, _⟩ | ⟨ho, hn⟩
  · have HX : Hid (ofN (str s1) = 0 ∧ ofE (str s1) = 40) := ⟨by unfold ofN; rw [if_pos (by omega)], by unfold ofE; rw [if_pos (by omega)]⟩
    have HR := Lib.hid (HN.out (by omega))
    rw [HX.out.1, HX.out.2] at HO
    clear hf HX HN HY HM HE
    go_enter Tryz.func44, Tryz.ntmps44
    go_wp2_with fail
    refine HCt.out.mono ?_
    rintro e w1 ⟨bb, rfl, k1⟩
    replace hK := keepN hK k1
    replace bo := bo.keep k1 id
    clear k1
    go_wp2_with fail
    refine (HO.out _).mono ?_
    rintro e w2 ⟨rfl, k1⟩
    replace hK := keepN hK k1
    replace bo := bo.keep k1 id
    clear k1
    have hz := bo.lt
    have fo := fun i => bo.frozen i
    obtain ⟨o0, o1, o2⟩ := blk_inst bo
    go_wp2
    exact bodyPost_ret (v := .tuple #[instV 0 0 0, .int .i64 40]) (by simp [results, Tryz.results44, go_sem, o0, o1, o2]) rfl ⟨_, rfl, HR.out, out3N hK (Nat.le_refl _) _ _ _⟩
  · have hb := isOp_yes ho
    have HX : Hid (ofN (str s1) = findI (str s1) ∧ ofE (str s1) = 0) := ⟨by unfold ofN; rw [if_neg (by omega)], by unfold ofE; rw [if_neg (by omega)]⟩
    rw [HX.out.1, HX.out.2] at HO
    obtain ⟨op, hop⟩ : ∃ op, findI (str s1) = op := ⟨_, rfl⟩
    rw [hop] at HO ho hn
    have HG := Lib.hid (fun w hL hC => guess_any op (str s2) s2 w (str_list _) (by rw [str_size]; have := hcl.out; have := hsz.out; have := hl.out; omega) hL hC)
    have HS := Lib.hid (fun w hL => show_any op (gA op s2) (gB op s2) w (gA_bounds op s2) (gB_bounds op s2) hL)
    have HY := Lib.hid (HY.out op (gA op s2) (gB op s2) ho hn)
    have HM := Lib.hid (HM.out op hop)
    have HE := Lib.hid (HE.out (showI op (gA op s2) (gB op s2)))
    clear HX HN hb hop ho hn hcl hsz hl
    generalize gA op s2 = a at *
    generalize gB op s2 = b at *
    generalize showI op a b = t at *
    by_cases ht : t = s
    · have hq : ((str t).toList == S.toList) = true := by rw [HE.out]; simpa using ht
      have HR := Lib.hid (HY.out ht)
      clear HE HM HY ht
      generalize str t = T at *
      go_enter Tryz.func44, Tryz.ntmps44
      go_wp2_with fail
      refine HCt.out.mono ?_
      rintro e w1 ⟨bb, rfl, k1⟩
      replace hK := keepN hK k1
      replace bo := bo.keep k1 id
      clear k1
      go_wp2_with fail
      refine (HO.out _).mono ?_
      rintro e w2 ⟨rfl, k1⟩
      replace hK := keepN hK k1
      replace bo := bo.keep k1 id
      clear k1
      go_wp2_with fail
      refine (HG.out _ (HL.out.keep hK) (HC.out.keep hK)).mono ?_
      rintro e w3 ⟨rfl, k1⟩
      replace hK := (keepN hK k1).alloc (.cells #[.int .i64 op, .int .i64 a, .int .i64 b] 46)
      replace bo := (bo.keep k1 id).alloc (.cells #[.int .i64 op, .int .i64 a, .int .i64 b] 46)
      have bx := Blk.new w3 46 #[.int .i64 op, .int .i64 a, .int .i64 b]
      clear k1
      go_wp2_with fail
      refine (HS.out _ (HL.out.keep hK)).mono ?_
      rintro e w4 ⟨rfl, k1⟩
      replace hK := keepN hK k1
      replace bo := bo.keep k1 id
      replace bx := bx.keep k1 id
      clear k1
      have hz := bo.lt
      have fo := fun i => bo.frozen i
      obtain ⟨o0, o1, o2⟩ := blk_inst bo
      obtain ⟨x0, x1, x2⟩ := blk_inst bx
      go_wp2
      exact bodyPost_ret (v := .tuple #[instV op a b, .int .i64 0]) (by simp [results, Tryz.results44, go_sem, o0, o1, o2]) rfl ⟨_, rfl, HR.out, out3N hK (Nat.le_refl _) _ _ _⟩
    · have hq : ((str t).toList == S.toList) = false := by rw [HE.out]; simpa using ht
      have HR := Lib.hid (HM.out ht)
      clear HE HM HY ht
      generalize str t = T at *
      go_enter Tryz.func44, Tryz.ntmps44
      go_wp2_with fail
      refine HCt.out.mono ?_
      rintro e w1 ⟨bb, rfl, k1⟩
      replace hK := keepN hK k1
      replace bo := bo.keep k1 id
      clear k1
      go_wp2_with fail
      refine (HO.out _).mono ?_
      rintro e w2 ⟨rfl, k1⟩
      replace hK := keepN hK k1
      replace bo := bo.keep k1 id
      clear k1
      go_wp2_with fail
      refine (HG.out _ (HL.out.keep hK) (HC.out.keep hK)).mono ?_
      rintro e w3 ⟨rfl, k1⟩
      replace hK := (keepN hK k1).alloc (.cells #[.int .i64 op, .int .i64 a, .int .i64 b] 46)
      replace bo := (bo.keep k1 id).alloc (.cells #[.int .i64 op, .int .i64 a, .int .i64 b] 46)
      clear k1
      go_wp2_with fail
      refine (HS.out _ (HL.out.keep hK)).mono ?_
      rintro e w4 ⟨rfl, k1⟩
      replace hK := keepN hK k1
      replace bo := bo.keep k1 id
      clear k1
      have hz := bo.lt
      have fo := fun i => bo.frozen i
      obtain ⟨o0, o1, o2⟩ := blk_inst bo
      go_wp2
      exact bodyPost_ret (v := .tuple #[instV 0 0 0, .int .i64 40]) (by simp [results, Tryz.results44, go_sem, o0, o1, o2]) rfl ⟨_, rfl, HR.out, out3N hK (Nat.le_refl _) _ _ _⟩

end Go.Proofs.YtonpplpfipfnfaaGreatDoor.O

namespace Go.Proofs.YtonpplpfipfnfaaGreatDoor.O
open Go.RowKit

theorem bytesI_len (op a b : Int) : (bytesI op a b).length ≤ 27 := by
  unfold bytesI
  have h1 := V.encL_len op.toNat
  have h2 := encP_len (rowAt op).ka a
  have h3 := encP_len (rowAt op).kb b
  simp
  omega
theorem partL_len (k n : Int) (hn : I64 n) : (partL k n).length ≤ 22 := by
  unfold partL
  have := word_len k n hn
  split
  · simp
  · simp; omega
theorem textI_len (op a b : Int) (ha : I64 a) (hb : I64 b) : (textI op a b).length ≤ 51 := by
  unfold textI
  have h1 := name_len op
  have h2 := partL_len (rowAt op).ka a ha
  have h3 := partL_len (rowAt op).kb b hb
  simp
  omega
theorem read_own (op a b : Int) (w : World) (hok : okI op a b = true) (ha : I64 a) (hb : I64 b) (hL : LaidO w) (hC : CutAt w) :
    Calls Tryz.prog 44 #[.string (str (textI op a b))] w fun e w' => e = .returned (.tuple #[instV op a b, .int .i64 0]) ∧ Keep NoB w w' := by
  have hl := textI_len op a b ha hb
  refine (read_text (str (textI op a b)) (textI op a b) w (str_list _) (by rw [str_size]; omega) hL hC).mono ?_
  rintro e w' ⟨v, rfl, hv, hk⟩
  rw [readV_one hv (.inl ⟨op, a, b, hok, rfl, rfl⟩)]
  exact ⟨rfl, hk⟩
theorem show_ok (op a b : Int) (w : World) (hok : okI op a b = true) (ha : I64 a) (hb : I64 b) (hL : LaidO w) :
    Calls Tryz.prog 68 #[instV op a b] w fun e w' => e = .returned (.string (str (textI op a b))) ∧ Keep NoB w w' := by
  have h := show_any op a b w ha hb hL
  unfold showI at h
  rw [if_pos hok] at h
  exact h
theorem encode_ok (op a b : Int) (w : World) (hok : okI op a b = true) (ha : I64 a) (hb : I64 b) :
    Calls Tryz.prog 32 #[instV op a b] w fun e w' => ∃ v, e = .returned (.tuple #[v, .int .i64 0]) ∧ V.OwnB w' (Fresh w) v (bytesI op a b) ∧ Keep NoB w w' := by
  have h := encode_any op a b w ha hb
  unfold encI chk at h
  rw [if_pos hok, if_pos hok] at h
  exact h
theorem encode_no (op a b : Int) (w : World) (hok : okI op a b = false) (ha : I64 a) (hb : I64 b) :
    Calls Tryz.prog 32 #[instV op a b] w fun e w' => ∃ v, e = .returned (.tuple #[v, .int .i64 40]) ∧ V.OwnB w' (Fresh w) v [] ∧ Keep NoB w w' := by
  have h := encode_any op a b w ha hb
  have hn : ¬ okI op a b = true := by rw [hok]; decide
  unfold encI chk at h
  rw [if_neg hn, if_neg hn] at h
  exact h
theorem check_ok (op a b : Int) (w : World) (hok : okI op a b = true) :
    Calls Tryz.prog 40 #[instV op a b] w fun e w' => e = .returned (.int .i64 0) ∧ Keep NoB w w' := by
  have h := check_any op a b w
  unfold chk at h
  rw [if_pos hok] at h
  exact h
theorem made_own (w : World) : V.OwnB (w.alloc (.cells #[] 5)) (Fresh w) (.slice (some ⟨w.heap.size, 0, none⟩) 0 0) [] :=
  ⟨World.ownsRow_made (e := 5) (size := 1) (base := 0) w #[] 0 (Nat.zero_le _) (Nat.zero_le _) rfl, fun g e => by simp [Value.ownBlock] at e; subst e; exact Nat.le_refl _⟩
theorem ok_i64 {op a b : Int} (h : okI op a b = true) : I64 a ∧ I64 b := ⟨(in_bounds (ok_op h).2.1).1, (in_bounds (ok_op h).2.2).1⟩
theorem rd_take {w : World} {A : Option Addr} {l : List UInt8} (h : V.Rd w A l) (k : Nat) : V.Rd w A (l.take k) := fun h0 => by
  have h1 : 0 < l.length := by simp at h0; omega
  obtain ⟨ad, e, hc⟩ := h h1
  refine ⟨ad, e, fun j u hu => hc j u ?_⟩
  simp only [V.bvs] at hu ⊢
  rw [List.map_take] at hu
  obtain ⟨hj, hv⟩ := List.getElem?_eq_some_iff.1 hu
  rw [List.getElem_take] at hv
  exact List.getElem?_eq_some_iff.2 ⟨_, hv⟩

end Go.Proofs.YtonpplpfipfnfaaGreatDoor.O

namespace Go.Proofs.YtonpplpfipfnfaaGreatDoor.C
open Go.RowKit O

def txI (x : I3) : List UInt8 := textI x.1 x.2.1 x.2.2
def txs (l : List I3) : List Value := l.map fun x => .string (str (txI x))
theorem read1 (op a b : Int) (w : World) (h : ok1 (op, a, b) = true) (hL : LaidO w) (hC : CutAt w) :
    Calls Tryz.prog 44 #[.string (str (txI (op, a, b)))] w fun e w' => e = .returned (.tuple #[instV op a b, .int .i64 0]) ∧ Keep NoB w w' :=
  O.read_own op a b w h (ok_i64 h).1 (ok_i64 h).2 hL hC

set_option maxRecDepth 100000 in
set_option maxHeartbeats 4000000 in
theorem texts_any (l : List I3) (n : Nat) (B : Option Addr) (c : Nat) (w : World) (hr : Rd w B (txs l)) (hok : Hid (∀ x ∈ l, ok1 x = true)) (hn : Hid (l.length = n)) (hm : n ≤ 1000) (hL : LaidO w) (hC : CutAt w) :
    Calls Tryz.prog 19 #[.slice B n c] w fun e w' => ∃ v, e = .returned v ∧ Own w' 46 3 (Fresh w) v n (iis l) ∧ Keep NoB w w' := by
  obtain ⟨i0, hi, hz0, hz1, hz2⟩ := info_parts instr_info
  have HR := Lib.hid hr
  have HL := Lib.hid hL
  have HC := Lib.hid hC
  clear hr hL hC
  go_enter Tryz.func19, Tryz.ntmps19
  go_wp2
  go_loopw [3, 10] (fun v i wr => ∃ k : Nat, k ≤ n ∧ i = .int .i64 k ∧ (∃ B d, v = .slice B k d ∧ Own wr 46 3 (Fresh w) (.slice B k d) k (iis (l.take k))) ∧ Keep NoB w wr) (fun _ i _ => n - (intOf i).toNat)
  case atStart => exact ⟨0, Nat.zero_le _, rfl, ⟨none, 0, rfl, Own.nil _ _ _ _⟩, Keep.refl _ _⟩
  case round =>
    obtain ⟨k, hk, rfl, ⟨D, d, rfl, hO⟩, hK⟩ := hrel
    by_cases hlt : k < n
    · have hkl : k < l.length := by rw [hn.out]; exact hlt
      have hR := HR.out.keepN hK
      obtain ⟨g, off, rfl, hc⟩ := hR (by unfold txs; rw [List.length_map]; omega)
      have c0 := hc k (.string (str (txI l[k]))) (by unfold txs; rw [List.getElem?_map, List.getElem?_eq_getElem hkl]; rfl)
      have hT := List.take_succ_eq_append_getElem hkl
      have ho := hok.out l[k] (List.getElem_mem hkl)
      clear hc hR
      generalize l[k] = x at c0 hT ho
      obtain ⟨op, a, b⟩ := x
      have HE := Lib.hid (fun w hL hC => read1 op a b w ho hL hC)
      have hLr := HL.out.keep hK
      have hCr := HC.out.keep hK
      have HX : Hid (iis (l.take (k + 1)) = iis (l.take k) ++ [.int .i64 op, .int .i64 a, .int .i64 b]) := by show _ = _; rw [hT, iis_append]; rfl
      generalize str (txI (op, a, b)) = S at c0 HE
      clear hT ho
      go_wp2_with fail
      refine (HE.out _ hLr hCr).mono ?_
      rintro e w4 ⟨rfl, k4⟩
      have hO4 := (hO.keepN k4).keepN ((Keep.refl NoB w4).alloc (.cells #[.int .i64 op, .int .i64 a, .int .i64 b] 46))
      have hK4 := (keepN hK k4).alloc (.cells #[.int .i64 op, .int .i64 a, .int .i64 b] 46)
      clear hO hK k4 c0 hLr hCr
      go_wp2_with (at_builtin; refine wpList_append_rd _ rfl (.tmp 21) (.tmp 23) _ rfl 46 3 24 i0 _ Tryz.underlying22 hi hz0 hz1 hz2 rfl (by decide) _ k _ _ 1 _ [.int .i64 op, .int .i64 a, .int .i64 b] rfl (hO4.1.alloc _) rfl (W.rd_made (by simp) rfl) rfl (by simp [Value.oneCell']) (by unfold maxLen; omega) (by omega) ?_; intro B5 d5 w5 hrow5 hg5 hv5; obtain ⟨hO5, hK5⟩ := W.own_after hO4.2 (hK4.alloc _) hg5 hv5 hrow5; clear hrow5 hg5 hv5)
      go_roundw
      case rel => exact ⟨k + 1, by omega, by go_num, ⟨B5, d5, rfl, by rw [HX.out]; exact hO5⟩, hK5⟩
      case measure => simp [intOf]; omega
    · obtain rfl : k = n := by omega
      rw [List.take_of_length_le (by rw [hn.out]; exact Nat.le_refl _)] at hO
      go_wp2
      go_ret
      exact ⟨_, rfl, hO, hK⟩

end Go.Proofs.YtonpplpfipfnfaaGreatDoor.C
