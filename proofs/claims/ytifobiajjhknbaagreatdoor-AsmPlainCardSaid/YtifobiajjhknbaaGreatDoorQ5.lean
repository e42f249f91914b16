/-
  The plain mathematics of reading an instruction from text: what is guessed of a text, and that it is the instruction whose text it is, if there is one. No program, no conditions.
  What Types answers. Conditions: the letters stand.
  What Show answers, the code's and the document's, of any value; the document's digits. Conditions: the variables that it reads hold what their initialisers lay; the value's number fits an int64.
  What the program's guess answers: the operands that a text is guessed to be. Conditions: the listed package-level variables hold what their initialisers lay; the text is not too long.
  An argument that is a slice of bytes, opened: an address from which a list of bytes stands. No conditions.
  What the rows of opcode share where strings.Cut is called, or bytes come in: the wrap that keeps the world's shape beside the laid variables. No conditions.
  The plain mathematics of layer asm's words and lines: what stands in a text, its normal one, a text with notes put in. No program, no conditions.
  What a normal text does not contain: as the library's index tells it. No program, no conditions.
  The lines of a text, one after another: each up to its line feed. No program, no conditions.
  Strings as cells, and lists of them in memory. No program but its types.
  A builder of one's own, what was written into it, and what it leaves as it was. No program but its types.
  The law's own alive: the chapter's first examples hold. No conditions.
  The document's own Number and Bytes: a number's bytes by definition, as vary's. Conditions: a uint64; no more than 2^47 bytes.
  A Reel's look with each of its two keepers: too few bytes, or they are handed on. Conditions: no more than 2^47 bytes.
  A Reel's next: what comes next, its width, the error; the place stays. Conditions: no more than 2^47 bytes.
  The Reel: On, bounded, take, Number, Signed, Bytes, Raw, At, End over a Reel in memory. Conditions: no more than 2^47 bytes.
  The Reel's methods: Number, Signed, Bytes, Raw, At, End over a Reel in memory. Conditions: no more than 2^47 bytes.
  The Reel's take, Bytes, Raw over a Reel in memory. Conditions: no more than 2^47 bytes.
  The document's own Reel: look: what comes next, as vary's next tells it. Conditions: no more than 2^47 bytes.
  The document's own Reel: look: what comes next, as vary's next tells it. Conditions: no more than 2^47 bytes.
  The document's own Reel: Number, Signed, Raw, Bytes, End: as vary's. Conditions: no more than 2^47 bytes.
  Reading a number off bytes, and what the walks of shape share. No program, no conditions.
  The plain mathematics of shapes and signatures: which may be, their bytes, four types to one, and what is read of bytes. No program, no conditions.
-/
import Derived.Deep.DeepFit
import Derived.HandedShaped
import Derived.Laws.OwnMore
import Derived.Lib.IndexBytes
import Derived.Lib.IndexLaws
import Derived.Lib.IndexMore
import Derived.Lib.OthersKept
import Derived.OpenShut
import Derived.OwnWalk
import Derived.ProofKit
import Derived.Shelf.Vars
import Derived.SizedLaws
import Derived.Test.YtifobiajjhknbaaGreatDoorQ3
import Derived.Test.YtifobiajjhknbaaGreatDoorQ4
import Derived.Test.YtifobiajjhknbaaGreatDoorQ2
import Derived.Test.YtifobiajjhknbaaGreatDoorShelf
import Derived.Test.YtifobiajjhknbaaGreatDoorShelf2
namespace Go.Proofs.YtifobiajjhknbaaGreatDoor.O

theorem byte_at {r : List UInt8} : ∀ {s : List UInt8}, (∀ c ∈ s, c ≠ 32) → Lib.indexByte (s ++ 32 :: r) 32 = (s.length : Int)
  | [], _ => by simp [Lib.indexByte]
  | b :: s, h => by
    have ih := byte_at (r := r) (s := s) (fun c hc => h c (by simp [hc]))
    have hb : (b == 32) = false := by rw [beq_eq_false_iff_ne]; exact h b (by simp)
    have hn : (((s.length : Nat) : Int) == -1) = false := by rw [beq_eq_false_iff_ne]; omega
    rw [List.cons_append, Lib.indexByte, hb, ih, hn]
    simp
theorem byte_none : ∀ {s : List UInt8}, (∀ c ∈ s, c ≠ 32) → Lib.indexByte s 32 = -1
  | [], _ => rfl
  | b :: s, h => by
    have ih := byte_none (s := s) (fun c hc => h c (by simp [hc]))
    have hb : (b == 32) = false := by rw [beq_eq_false_iff_ne]; exact h b (by simp)
    rw [Lib.indexByte, hb, ih]
    simp
theorem cut_at {s r : List UInt8} (h : ∀ c ∈ s, c ≠ 32) : Lib.cut (s ++ 32 :: r) [32] = (s, r, true) := by
  have e : Lib.index (s ++ 32 :: r) [32] = (s.length : Int) := by rw [Lib.index_one, byte_at h]
  have e2 : s ++ 32 :: r = (s ++ [32]) ++ r := by simp
  unfold Lib.cut
  rw [e, if_pos (by omega), Int.toNat_natCast, List.take_left]
  have e3 : (s ++ 32 :: r).drop (s.length + [(32 : UInt8)].length) = r := by
    rw [e2]
    have : s.length + [(32 : UInt8)].length = (s ++ [32]).length := by simp
    rw [this, List.drop_left]
  rw [e3]
theorem cut_none {s : List UInt8} (h : ∀ c ∈ s, c ≠ 32) : Lib.cut s [32] = (s, [], false) := by
  unfold Lib.cut
  rw [Lib.index_one, byte_none h]
  rfl
/-- A word, and what stands behind it. -/
theorem cut_word {s r : List UInt8} (h : ∀ c ∈ s, c ≠ 32) (hr : r = [] ∨ ∃ r', r = 32 :: r') : (Lib.cut (s ++ r) [32]).1 = s ∧ (Lib.cut (s ++ r) [32]).2.1 = r.drop 1 := by
  rcases hr with rfl | ⟨r', rfl⟩
  · rw [List.append_nil, cut_none h]; exact ⟨rfl, rfl⟩
  · rw [cut_at h]; exact ⟨rfl, rfl⟩
theorem cut_len (s : List UInt8) : (Lib.cut s [32]).1.length ≤ s.length ∧ (Lib.cut s [32]).2.1.length ≤ s.length := by
  unfold Lib.cut
  split
  · simp; omega
  · simp

/-! ### Names -/

theorem str_inj {s t : List UInt8} (h : str s = str t) : s = t := by
  have := congrArg (fun x : ByteArray => x.data.toList) h
  simpa using this
theorem find_spec (S : ByteArray) : ∀ n k, (findFrom S n k = -1 ∧ ∀ j, k ≤ j → j < k + n → nm j ≠ S) ∨ (∃ j : Nat, k ≤ j ∧ j < k + n ∧ findFrom S n k = (j : Int) ∧ nm j = S)
  | 0, k => .inl ⟨rfl, fun j h1 h2 => by omega⟩
  | n + 1, k => by
    by_cases h : nm k = S
    · exact .inr ⟨k, Nat.le_refl _, by omega, by rw [findFrom, if_pos h], h⟩
    · rw [findFrom, if_neg h]
      rcases find_spec S n (k + 1) with ⟨h1, h2⟩ | ⟨j, h1, h2, h3, h4⟩
      · refine .inl ⟨h1, fun j h3 h4 => ?_⟩
        by_cases e : j = k
        · rw [e]; exact h
        · exact h2 j (by omega) (by omega)
      · exact .inr ⟨j, by omega, by omega, h3, h4⟩
theorem findI_spec (S : ByteArray) : (findI S = -1 ∧ ∀ op : Int, isOp op = true → str (rowAt op).name ≠ S) ∨ (isOp (findI S) = true ∧ str (rowAt (findI S)).name = S) := by
  rcases find_spec S 30 0 with ⟨h1, h2⟩ | ⟨j, _, h2, h3, h4⟩
  · refine .inl ⟨h1, fun op ho e => ?_⟩
    have hb := isOp_yes ho
    refine h2 op.toNat (Nat.zero_le _) (by omega) ?_
    unfold nm
    rw [show ((op.toNat : Nat) : Int) = op by omega]
    exact e
  · refine .inr ?_
    have e : findI S = (j : Int) := h3
    rw [e]
    exact ⟨decide_eq_true (by omega), h4⟩
theorem findI_of {op : Int} (h : isOp op = true) : findI (str (rowAt op).name) = op := by
  rcases findI_spec (str (rowAt op).name) with ⟨_, h2⟩ | ⟨h1, h2⟩
  · exact absurd rfl (h2 op h)
  · exact name_inj h1 h (str_inj h2)
theorem name_ne (op : Int) (h : isOp op = true) : (rowAt op).name ≠ [] := by
  obtain ⟨hk, e⟩ := rowAt_yes h
  rw [e]
  have := List.all_eq_true.1 (show rowsL.all (fun r => decide (r.name ≠ [])) = true by decide) _ (List.getElem_mem hk)
  exact of_decide_eq_true this

/-! ### Operands -/

/-- The number that a text is guessed to be. -/
def ltrI (s : List UInt8) : Int := if W.tE s = 0 ∧ W.tN s = 1 then (W.tL s).getD 0 0 else 0
def gK (k : Int) (s : List UInt8) : Int := if digK k = true then W.pI s else if k = 8 then A.ofI A.binNs s else if k = 9 then A.ofI A.unNs s else if k = 2 ∨ k = 3 then ltrI s else 0
theorem gK_word {k n : Int} (hk : 0 ≤ k ∧ k ≤ 10) (h0 : k ≠ 0) (hn : inK k n = true) : gK k (word k n) = n := by
  have hb := in_bounds hn
  have hd := of_decide_eq_true hn
  cases h : digK k
  · have hc : k = 2 ∨ k = 3 ∨ k = 8 ∨ k = 9 := by have := of_decide_eq_false h; omega
    rcases hc with rfl | rfl | rfl | rfl
    · have e1 : lo 2 = 1 := rfl
      have e2 : hi 2 = 4 := rfl
      have hn : n = 1 ∨ n = 2 ∨ n = 3 ∨ n = 4 := by omega
      rcases hn with rfl | rfl | rfl | rfl <;> decide +kernel
    · have e1 : lo 3 = 1 := rfl
      have e2 : hi 3 = 3 := rfl
      have hn : n = 1 ∨ n = 2 ∨ n = 3 := by omega
      rcases hn with rfl | rfl | rfl <;> decide +kernel
    · have e1 : lo 8 = 0 := rfl
      have e2 : hi 8 = 13 := rfl
      have : ∀ j : Fin 14, gK 8 (word 8 (j.1 : Int)) = (j.1 : Int) := by decide +kernel
      have := this ⟨n.toNat, by omega⟩
      rw [show ((n.toNat : Nat) : Int) = n by omega] at this
      exact this
    · have e1 : lo 9 = 0 := rfl
      have e2 : hi 9 = 8 := rfl
      have : ∀ j : Fin 9, gK 9 (word 9 (j.1 : Int)) = (j.1 : Int) := by decide +kernel
      have := this ⟨n.toNat, by omega⟩
      rw [show ((n.toNat : Nat) : Int) = n by omega] at this
      exact this
  · unfold gK
    rw [if_pos h, word_dig h]
    unfold W.pI
    rw [W.atoi_itoa _ hb.1.1 hb.1.2]
theorem ofI_bounds (l : List (List UInt8)) (s : List UInt8) (hl : l.length ≤ 1000) : 0 ≤ A.ofI l s ∧ A.ofI l s ≤ 1000 := by
  unfold A.ofI
  split
  · rename_i h
    have := List.idxOf_lt_length_of_mem h
    omega
  · omega
theorem unlet_bounds (c : UInt8) : 0 ≤ W.unlet c ∧ W.unlet c ≤ 4 := by
  unfold W.unlet
  repeat' split
  all_goals omega
theorem ltrI_bounds (s : List UInt8) : 0 ≤ ltrI s ∧ ltrI s ≤ 4 := by
  unfold ltrI
  split
  · unfold W.tL W.untxt
    split
    · rcases s with _ | ⟨c, r⟩
      · simp
      · exact unlet_bounds c
    · simp
  · omega
theorem gK_bounds (k : Int) (s : List UInt8) : I64 (gK k s) := by
  unfold gK I64
  split
  · exact W.pI_bounds s
  · split
    · have := ofI_bounds A.binNs s (by decide); omega
    · split
      · have := ofI_bounds A.unNs s (by decide); omega
      · split
        · have := ltrI_bounds s; omega
        · omega

/-- The operands that are guessed of what stands behind the name. -/
def gA (op : Int) (t : List UInt8) : Int := if (rowAt op).ka = 0 then 0 else gK (rowAt op).ka (Lib.cut t [32]).1
def gB (op : Int) (t : List UInt8) : Int := if (rowAt op).kb = 0 then 0 else gK (rowAt op).kb (Lib.cut t [32]).2.1
theorem gA_bounds (op : Int) (t : List UInt8) : I64 (gA op t) := by
  unfold gA
  split
  · unfold I64; omega
  · exact gK_bounds _ _
theorem gB_bounds (op : Int) (t : List UInt8) : I64 (gB op t) := by
  unfold gB
  split
  · unfold I64; omega
  · exact gK_bounds _ _

theorem text_cut {op a b : Int} :
    (Lib.cut (textI op a b) [32]).1 = (rowAt op).name ∧ (Lib.cut (textI op a b) [32]).2.1 = (partL (rowAt op).ka a ++ partL (rowAt op).kb b).drop 1 := by
  unfold textI
  refine cut_word (name_no op) ?_
  rcases part_sp (rowAt op).ka a with e | ⟨r, e⟩
  · rw [e]; exact part_sp (rowAt op).kb b
  · rw [e]; exact .inr ⟨_, rfl⟩
/-- What is guessed of an instruction's text is that instruction. -/
theorem guess_hit {op a b : Int} (h : okI op a b = true) : gA op (Lib.cut (textI op a b) [32]).2.1 = a ∧ gB op (Lib.cut (textI op a b) [32]).2.1 = b := by
  obtain ⟨ho, hA, hB⟩ := ok_op h
  have hk := kinds_ok op
  have hn := kinds_none op
  rw [text_cut.2]
  unfold gA gB
  by_cases h0 : (rowAt op).ka = 0
  · have h1 := hn h0
    rw [if_pos h0, if_pos h1]
    rw [h0] at hA
    rw [h1] at hB
    exact ⟨((in_bounds hA).2.2 rfl).symm, ((in_bounds hB).2.2 rfl).symm⟩
  · rw [if_neg h0]
    have e1 : partL (rowAt op).ka a = 32 :: word (rowAt op).ka a := by unfold partL; rw [if_neg h0]
    rw [e1, List.cons_append, List.drop_succ_cons, List.drop_zero]
    have hc := cut_word (word_no (rowAt op).ka a) (part_sp (rowAt op).kb b)
    rw [hc.1, hc.2]
    refine ⟨gK_word ⟨hk.1, hk.2.1⟩ h0 hA, ?_⟩
    by_cases h1 : (rowAt op).kb = 0
    · rw [if_pos h1]
      rw [h1] at hB
      exact ((in_bounds hB).2.2 rfl).symm
    · rw [if_neg h1]
      have e2 : partL (rowAt op).kb b = 32 :: word (rowAt op).kb b := by unfold partL; rw [if_neg h1]
      rw [e2, List.drop_succ_cons, List.drop_zero]
      exact gK_word ⟨hk.2.2.1, hk.2.2.2⟩ h1 hB

/-- What reading a text answers: the instruction that has it; that there is none. -/
def ReadV (s : List UInt8) (v : Value) : Prop :=
  (∃ op a b, okI op a b = true ∧ textI op a b = s ∧ v = .tuple #[instV op a b, .int .i64 0]) ∨ ((∀ op a b, okI op a b = true → textI op a b ≠ s) ∧ v = .tuple #[instV 0 0 0, .int .i64 40])
/-- No name: no instruction. -/
theorem read_nameless {s : List UInt8} (h : findI (str (Lib.cut s [32]).1) < 0) : ReadV s (.tuple #[instV 0 0 0, .int .i64 40]) := by
  refine .inr ⟨fun op a b hok e => ?_, rfl⟩
  subst e
  rw [text_cut.1, findI_of (ok_op hok).1] at h
  have := isOp_yes (ok_op hok).1
  omega
/-- What is guessed has the text: it is the one. -/
theorem read_yes {s : List UInt8} {op a b : Int} (hop : isOp op = true) (hn : str (rowAt op).name = str (Lib.cut s [32]).1) (h : showI op a b = s) : ReadV s (.tuple #[instV op a b, .int .i64 0]) := by
  cases hok : okI op a b
  · unfold showI at h
    rw [if_neg (by rw [hok]; decide)] at h
    subst h
    exact absurd (str_inj hn) (name_ne op hop)
  · unfold showI at h
    rw [if_pos hok] at h
    exact .inl ⟨op, a, b, hok, h, rfl⟩
/-- What is guessed has another text: none has this one. -/
theorem read_no {s : List UInt8} (op a b : Int) (hop : op = findI (str (Lib.cut s [32]).1)) (h : ∀ x y, okI op x y = true → textI op x y = s → a = x ∧ b = y) (hs : showI op a b ≠ s) :
    ReadV s (.tuple #[instV 0 0 0, .int .i64 40]) := by
  refine .inr ⟨fun op' x y hok e => ?_, rfl⟩
  have he := e
  subst e
  rw [text_cut.1, findI_of (ok_op hok).1] at hop
  subst hop
  obtain ⟨rfl, rfl⟩ := h x y hok rfl
  unfold showI at hs
  rw [if_pos hok] at hs
  exact hs rfl
theorem read_miss {s : List UInt8} {op : Int} (hop : findI (str (Lib.cut s [32]).1) = op) (hs : showI op (gA op (Lib.cut s [32]).2.1) (gB op (Lib.cut s [32]).2.1) ≠ s) : ReadV s (.tuple #[instV 0 0 0, .int .i64 40]) := by
  refine read_no op _ _ hop.symm (fun x y hok e => ?_) hs
  subst e
  exact guess_hit hok

end Go.Proofs.YtifobiajjhknbaaGreatDoor.O

namespace Go.Proofs.YtifobiajjhknbaaGreatDoor.W
open Go.RowKit


set_option maxRecDepth 100000 in
set_option maxHeartbeats 4000000 in
theorem types_any (S : ByteArray) (s : List UInt8) (w : World) (hL : LetAt w) (hs : Hid (S.data.toList = s)) (h1 : S.size ≤ 9223372036854775807) :
    Calls Tryz.prog 165 #[.string S] w (TypesR w s) := by
  have HSZ := Lib.hid (size_of hs.out)
  by_cases hlong : 1024 < S.size
  · have HU : Hid (untxt s = none) := untxt_none (by rw [← HSZ.out]; omega)
    go_enter Tryz.func165, Tryz.ntmps165
    go_wp2
    go_ret2
    exact types_none HU.out (Keep.refl _ _)
  · obtain ⟨i0, hi, hz0, hz1, hz2⟩ := info_parts int_info
    go_enter Tryz.func165, Tryz.ntmps165
    go_wp2_with (at_make; refine wpList_make_own _ rfl _ _ 30 rfl w.heap.size 3 i0 _ 1 Tryz.underlying30 hi hz0 hz1 _ _ _ S.size rfl rfl rfl (by rw [hz2]; omega) (by unfold maxLen; omega) (Nat.le_refl _) ?_; intro w1 hrow1 hg1)
    have hO1 : Own w1 3 1 (Fresh w) (.slice (some ⟨w.heap.size, 0, none⟩) 0 S.size) 0 (ivs ((s.take 0).map unlet)) := Own.of_row hrow1 (fun _ h => h)
    have hK1 : Keep NoB w w1 := (Keep.refl NoB w).grown hg1 (fun g e _ => by cases e)
    have hsz1 : w.heap.size ≤ w1.heap.size := hK1.size
    clear hrow1 hg1
    have hk0 : (w1.iter S 0).heap[w1.heap.size]? = some (.stringIter S 0) := World.iter_heap w1 S 0
    have hO0 : Own (w1.iter S 0) 3 1 (Fresh w) (.slice (some ⟨w.heap.size, 0, none⟩) 0 S.size) 0 (ivs ((s.take 0).map unlet)) := hO1.keepN ((Keep.refl NoB w1).alloc _)
    have hK0 : Keep NoB w (w1.iter S 0) := hK1.alloc _
    go_loopw [4] (fun v wr => ∃ k : Nat, k ≤ S.size ∧ wr.heap[w1.heap.size]? = some (.stringIter S k) ∧ (∃ B d, v = .slice B k d ∧ Own wr 3 1 (Fresh w) (.slice B k d) k (ivs ((s.take k).map unlet))) ∧ Hid (((s.take k).all fun c => decide (unlet c ≠ 0)) = true) ∧ Keep NoB w wr)
      (fun _ wr => S.size - wr.iterPos w1.heap.size)
    case atStart => exact ⟨0, Nat.zero_le _, hk0, ⟨_, _, rfl, hO0⟩, rfl, hK0⟩
    case round =>
      obtain ⟨k, hk, hit, ⟨B, d, rfl, hO⟩, hall, hK⟩ := hrel
      clear hO0 hK0 hk0 hO1 hK1
      have hmu : Hid (wr.iterPos w1.heap.size = k) := by show _ = _; simp [World.iterPos, hit]
      by_cases hlt : k < S.size
      · have hks : k < s.length := by rw [← HSZ.out]; exact hlt
        have HT := Lib.hid (show s.take (k + 1) = s.take k ++ [s[k]] from List.take_succ_eq_append_getElem hks)
        have HM := Lib.hid (List.getElem_mem hks)
        have hbt := byte_at hs.out k hlt hks
        by_cases hb : (S[k]'hlt).toNat < 128
        · have hnext : ∀ ty, (Instr.next (.pointer (some ⟨w1.heap.size, 0, none⟩)) true ty).run Tryz.prog wr = _ := fun ty => Lib.run_next_ascii_at wr w1.heap.size S k ty hit hlt hb
          rw [hbt] at hnext hb
          have HB := Lib.hid (unletZ_byte s[k])
          generalize s[k] = c at hnext hb HT HM HB
          have hO2 := hO.iterAt hit (k + 1)
          have hit2 := Lib.iterAt_heap wr w1.heap.size S k (k + 1) hit
          have hK2 := hK.iterAt hsz1 S (k + 1)
          generalize wr.iterAt w1.heap.size S (k + 1) = w2 at hnext hO2 hit2 hK2
          have hL2 := hL.keep hK2
          clear hbt hO hK hit
          by_cases hc : unlet c = 0
          · have HU : Hid (untxt s = none) := untxt_none (fun h => by have := (List.all_eq_true.1 h.2) c HM.out; simp [hc] at this)
            have e0 : unletZ (c.toNat : Int) = 0 := HB.out.trans hc
            have HLT : Hid (Calls Tryz.prog 214 #[.int .i32 (c.toNat : Int)] w2 fun e w' => e = .returned (.tuple #[.int .i64 0, .bool false]) ∧ w2 = w') := by
              have := lettered_any (c.toNat : Int) w2 hL2
              rw [e0] at this
              exact this
            clear HB hc e0
            go_wp2_with (go_at_call 214; refine HLT.out.mono ?_; rintro e w' ⟨rfl, rfl⟩)
            go_ret2
            exact types_none HU.out hK2
          · have e0 : unletZ (c.toNat : Int) = unlet c := HB.out
            have HLT : Hid (Calls Tryz.prog 214 #[.int .i32 (c.toNat : Int)] w2 fun e w' => e = .returned (.tuple #[.int .i64 (unlet c), .bool true]) ∧ w2 = w') := by
              have := lettered_any (c.toNat : Int) w2 hL2
              rw [e0, show decide (unlet c ≠ 0) = true by simpa using hc] at this
              exact this
            have hall2 : Hid (((s.take (k + 1)).all fun c => decide (unlet c ≠ 0)) = true) := by show _ = _; rw [HT.out, List.all_append, hall.out]; simp [hc]
            have HZ : Hid (ivs ((s.take (k + 1)).map unlet) = ivs ((s.take k).map unlet) ++ [.int .i64 (unlet c)]) := by show _ = _; rw [HT.out]; simp
            clear HB hc e0 HT hall HM
            go_wp2_with (first
              | (go_at_call 214; refine HLT.out.mono ?_; rintro e w' ⟨rfl, rfl⟩)
              | (at_builtin; refine wpList_append_rd _ rfl (.tmp 27) (.tmp 29) _ rfl 3 1 8 i0 _ Tryz.underlying30 hi hz0 hz1 hz2 rfl (by decide) _ k _ _ 1 _ [.int .i64 (unlet c)] rfl (hO2.1.alloc _) rfl (rd_made rfl rfl) rfl (by simp [Value.oneCell']) (by unfold maxLen; omega) (by omega) ?_; intro B2 d2 w3 hrow3 hg3 hv3; rw [← HZ.out] at hrow3; have hit3 := (hg3.block w1.heap.size (by have := (Array.getElem?_eq_some_iff.1 hit2).1; simp; omega) (fun e => own_iter hO2 hit2 e.symm)).trans ((Below.heap_alloc w2 _ w1.heap.size (Array.getElem?_eq_some_iff.1 hit2).1).trans hit2); obtain ⟨hO3, hK3⟩ := own_after hO2.2 (hK2.alloc _) hg3 hv3 hrow3; clear hrow3 hg3 hv3))
            go_roundw
            case rel => exact ⟨k + 1, by omega, hit3, ⟨B2, d2, rfl, hO3⟩, hall2, hK3⟩
            case measure =>
              have hmu2 : w3.iterPos w1.heap.size = k + 1 := by simp [World.iterPos, hit3]
              rw [hmu.out, hmu2]
              omega
        · have hnext : ∀ ty, (Instr.next (.pointer (some ⟨w1.heap.size, 0, none⟩)) true ty).run Tryz.prog wr = _ := fun ty => Lib.run_next_any_at wr w1.heap.size S k ty hit hlt
          have hbig := decode_big S k (by rw [get_at k hlt]; omega)
          have HB : Hid (unletZ ((Utf8.decode S k).1 : Int) = 0) := unletZ_big (by omega)
          have hc : unlet s[k] = 0 := by
            have := unletZ_byte s[k]
            rw [unletZ_big (by rw [← hbt]; omega)] at this
            exact this.symm
          have HU : Hid (untxt s = none) := untxt_none (fun h => by have := (List.all_eq_true.1 h.2) s[k] HM.out; simp [hc] at this)
          have hK2 := hK.iterAt hsz1 S (k + (Utf8.decode S k).2)
          generalize wr.iterAt w1.heap.size S (k + (Utf8.decode S k).2) = w2 at hnext hK2
          generalize (Utf8.decode S k).1 = r at hnext HB hbig
          have hL2 := hL.keep hK2
          have HLT : Hid (Calls Tryz.prog 214 #[.int .i32 (r : Int)] w2 fun e w' => e = .returned (.tuple #[.int .i64 0, .bool false]) ∧ w2 = w') := by
            have := lettered_any (r : Int) w2 hL2
            rw [HB.out] at this
            exact this
          clear hbt hO hK hit HT HM hc hb
          go_wp2_with (go_at_call 214; refine HLT.out.mono ?_; rintro e w' ⟨rfl, rfl⟩)
          go_ret2
          exact types_none HU.out hK2
      · obtain hkn : k = s.length := by rw [← HSZ.out]; omega
        have hnext : ∀ ty, (Instr.next (.pointer (some ⟨w1.heap.size, 0, none⟩)) true ty).run Tryz.prog wr = _ := fun ty => Lib.run_next_end_at wr w1.heap.size S k ty hit hlt
        subst hkn
        rw [List.take_length] at hO hall
        have HU : Hid (untxt s = some (s.map unlet)) := untxt_some (by rw [← HSZ.out]; omega) hall.out
        go_wp2
        go_ret2
        exact types_some HU.out hO hK

end Go.Proofs.YtifobiajjhknbaaGreatDoor.W

namespace Go.Proofs.YtifobiajjhknbaaGreatDoor.W
open Go.RowKit

/-! ### guess, Read -/

/-- strconv.ParseInt at base 10, 64 bits: the number, whatever the error. -/
theorem parse_any (S : ByteArray) (s : List UInt8) (w : World) (hs : S.data.toList = s) (hl : S.size ≤ 281474976710656) (h : Laid w) :
    Calls Tryz.prog 208 #[.string S, .int .i64 10, .int .i64 64] w fun e w' => ∃ er, e = .returned (.tuple #[.int .i64 (pI s), er]) ∧ Keep NoB w w' := by
  have e64 : Lib.parseIntB 64 S.data.toList = Lib.atoiAll s := by rw [Lib.parseIntB_64, hs]
  unfold pI
  rcases ha : Lib.atoiAll s with v | _ | _
  · rw [ha] at e64
    refine (Tryz.strconv_ParseInt_10_at64_ok S (by omega) v e64 w).mono ?_
    rintro e w' ⟨rfl, hw⟩
    refine ⟨_, rfl, ?_⟩
    rcases hw with rfl | ⟨t, rfl⟩
    · exact Keep.refl _ _
    · exact Keep.of_below (Lib.bytesWorld_below _ _ _)
  · rw [ha] at e64
    obtain ⟨tp, p, hv⟩ := h.syn
    refine (Tryz.strconv_ParseInt_10_at64_syntax_var S hl e64 tp p w hv).mono ?_
    rintro e w' ⟨N, rfl, _, _, hb⟩
    exact ⟨_, rfl, Keep.of_below hb⟩
  · rw [ha] at e64
    obtain ⟨tp, p, hv⟩ := h.rng
    refine (Tryz.strconv_ParseInt_10_at64_range_var S hl e64 tp p w hv).mono ?_
    rintro e w' ⟨N, rfl, _, _, hb⟩
    rw [Lib.intSat_64, hs]
    exact ⟨_, rfl, Keep.of_below hb⟩

end Go.Proofs.YtifobiajjhknbaaGreatDoor.W

namespace Go.Proofs.YtifobiajjhknbaaGreatDoor.O
open Go.RowKit

/-- What strings.Cut reads besides its text. -/
def CutAt (w : World) : Prop := ∃ m, w.cell? ⟨3, 0, none⟩ = some (.int .i64 m)
theorem CutAt.keep {w w' : World} (h : CutAt w) (hk : Keep NoB w w') : CutAt w' := by
  obtain ⟨m, hm⟩ := h
  exact ⟨m, hk.cell hm id⟩
theorem cut_any (S : ByteArray) (s : List UInt8) (w : World) (hs : S.data.toList = s) (hl : S.size ≤ 200000) (h : CutAt w) :
    Calls Tryz.prog 216 #[.string S, .string ⟨#[32]⟩] w fun e w' => ∃ b, e = .returned (.tuple #[.string (str (Lib.cut s [32]).1), .string (str (Lib.cut s [32]).2.1), .bool b]) ∧ Keep NoB w w' := by
  obtain ⟨m, hm⟩ := h
  refine (Tryz.strings_Cut S ⟨#[32]⟩ m w (by omega) hm).mono ?_
  rintro e w' ⟨rfl, n, rfl⟩
  rw [hs]
  exact ⟨_, rfl, (Keep.refl NoB w).drewN n⟩
theorem str_list (s : List UInt8) : (str s).data.toList = s := by simp
theorem str_size (s : List UInt8) : (str s).size = s.length := _root_.Go.Proofs.YtifobiajjhknbaaGreatDoor.W.size_of (str_list s)

set_option maxHeartbeats 1000000 in
theorem guess_dig (k : Int) (S : ByteArray) (s : List UInt8) (w : World) (hk : digK k = true) (hs : S.data.toList = s) (hl : S.size ≤ 200000) (h : LaidO w) :
    Calls Tryz.prog 207 #[.string S] w fun e w' => e = .returned (.int .i64 (gK k s)) ∧ Keep NoB w w' := by
  have HX : Hid (gK k s = W.pI s) := by show _ = _; unfold gK; rw [if_pos hk]
  have HF := Lib.hid (W.parse_any S s w hs (by omega) h.lib)
  clear h hk hs hl
  go_enter Tryz.func207, Tryz.ntmps207
  go_wp2_with fail
  refine HF.out.mono ?_
  rintro e w1 ⟨er, rfl, k1⟩
  go_wp2
  go_ret
  exact ⟨by rw [HX.out]; rfl, k1⟩

theorem own_first {w1 w : World} {B : Option Addr} {d : Nat} {x : Int} (h : Own w1 3 1 (Fresh w) (.slice B 1 d) 1 (ivs [x])) : ∃ g, B = some ⟨g, 0, none⟩ ∧ w1.cell? ⟨g, 0, none⟩ = some (.int .i64 x) := by
  obtain ⟨A, c, e, _, _, hr, ha⟩ := h.form
  injection e with e1 _ e2
  subst e1
  obtain ⟨g, off, e3, hc⟩ := hr (by simp)
  have h0 := (ha _ e3).2
  injection h0 with _ h0 _
  subst h0
  exact ⟨g, e3, hc 0 _ (by simp)⟩
/-- The error of a text that is no letter. -/
def letE (s : List UInt8) : Int := if W.tE s = 0 ∧ W.tN s = 1 then 0 else 40
theorem tE_tN (s : List UInt8) : W.tE s = 0 ∨ (W.tE s = 20 ∧ W.tN s = 0) := by
  unfold W.tE W.tN
  split
  · exact .inl rfl
  · exact .inr ⟨rfl, rfl⟩
set_option maxHeartbeats 1000000 in
theorem lettered_any (S : ByteArray) (s : List UInt8) (w : World) (hs : S.data.toList = s) (hl : S.size ≤ 200000) (h : LaidO w) :
    Calls Tryz.prog 154 #[.string S] w fun e w' => e = .returned (.tuple #[.int .i64 (ltrI s), .int .i64 (letE s)]) ∧ Keep NoB w w' := by
  have HF := Lib.hid (W.types_any S s w h.lets hs (by omega))
  have hlen := W.tL_length s
  clear h hs hl
  by_cases h0 : W.tE s = 0
  · by_cases h1 : W.tN s = 1
    · have HX : Hid (ltrI s = (W.tL s).getD 0 0 ∧ letE s = 0) := ⟨by unfold ltrI; rw [if_pos ⟨h0, h1⟩], by unfold letE; rw [if_pos ⟨h0, h1⟩]⟩
      obtain ⟨x, hx⟩ : ∃ x, W.tL s = [x] := by
        rw [h1] at hlen
        exact List.length_eq_one_iff.1 hlen
      rw [hx] at HX
      unfold W.TypesR at HF
      rw [h0, h1, hx] at HF
      clear h0 h1 hx hlen
      go_enter Tryz.func154, Tryz.ntmps154
      go_wp2_with fail
      refine HF.out.mono ?_
      rintro e w1 ⟨B, d, rfl, hO, k1⟩
      obtain ⟨ad, rfl, hc⟩ : ∃ ad, B = some ad ∧ w1.cell? ad = some (.int .i64 x) := by
        obtain ⟨g, rfl, hcell⟩ := own_first hO
        exact ⟨_, rfl, hcell⟩
      go_wp2
      go_ret2
      rw [HX.out.1, HX.out.2]
      exact ⟨rfl, k1⟩
    · have HX : Hid (ltrI s = 0 ∧ letE s = 40) := ⟨by unfold ltrI; rw [if_neg (fun h => h1 h.2)], by unfold letE; rw [if_neg (fun h => h1 h.2)]⟩
      unfold W.TypesR at HF
      rw [h0] at HF
      clear h0 hlen
      have hq : ((W.tN s : Int) != 1) = true := by rw [bne_iff_ne]; omega
      generalize W.tN s = n at HF hq
      clear h1
      go_enter Tryz.func154, Tryz.ntmps154
      go_wp2_with fail
      refine HF.out.mono ?_
      rintro e w1 ⟨B, d, rfl, hO, k1⟩
      go_wp2
      go_ret2
      rw [HX.out.1, HX.out.2]
      exact ⟨rfl, k1⟩
  · have HX : Hid (ltrI s = 0 ∧ letE s = 40) := ⟨by unfold ltrI; rw [if_neg (fun h => h0 h.1)], by unfold letE; rw [if_neg (fun h => h0 h.1)]⟩
    obtain ⟨h20, hn0⟩ := (tE_tN s).resolve_left h0
    unfold W.TypesR at HF
    rw [h20, hn0] at HF
    clear h0 h20 hn0 hlen
    go_enter Tryz.func154, Tryz.ntmps154
    go_wp2_with fail
    refine HF.out.mono ?_
    rintro e w1 ⟨B, d, rfl, hO, k1⟩
    go_wp2
    go_ret2
    rw [HX.out.1, HX.out.2]
    exact ⟨rfl, k1⟩

set_option maxHeartbeats 1000000 in
theorem guess_word (k : Int) (S : ByteArray) (s : List UInt8) (c : Nat) (w : World) (hk : wordK k = true) (hs : S.data.toList = s) (hl : S.size ≤ 200000) (h : LaidO w) (hc : w.cell? ⟨c, 0, none⟩ = some (fnV (readF k))) :
    Calls Tryz.prog 210 #[.string S, .pointer (some ⟨c, 0, none⟩)] w fun e w' => e = .returned (.int .i64 (gK k s)) ∧ Keep NoB w w' := by
  have hk := of_decide_eq_true hk
  have hkc : k = 8 ∨ k = 9 ∨ (k = 2 ∨ k = 3) := by omega
  clear hk
  rcases hkc with rfl | rfl | hk
  · have HF := Lib.hid (A.binOf_all S s w h.names hs)
    have HX : Hid (gK 8 s = A.ofI A.binNs s) := rfl
    have hc' : w.cell? ⟨c, 0, none⟩ = some (fnV 156) := hc
    clear h hs hl hc
    go_enter Tryz.func210, Tryz.ntmps210
    go_wp2_with fail
    refine HF.out.mono ?_
    rintro e w1 ⟨rfl, k1⟩
    go_wp2
    go_ret
    exact ⟨by rw [HX.out]; rfl, k1⟩
  · have HF := Lib.hid (A.unOf_all S s w h.names hs)
    have HX : Hid (gK 9 s = A.ofI A.unNs s) := rfl
    have hc' : w.cell? ⟨c, 0, none⟩ = some (fnV 158) := hc
    clear h hs hl hc
    go_enter Tryz.func210, Tryz.ntmps210
    go_wp2_with fail
    refine HF.out.mono ?_
    rintro e w1 ⟨rfl, k1⟩
    go_wp2
    go_ret
    exact ⟨by rw [HX.out]; rfl, k1⟩
  · have HF := Lib.hid (lettered_any S s w hs hl h)
    have HX : Hid (gK k s = ltrI s) := by rcases hk with rfl | rfl <;> rfl
    have hc' : w.cell? ⟨c, 0, none⟩ = some (fnV 154) := by rw [hc]; rcases hk with rfl | rfl <;> rfl
    clear h hs hl hc hk
    go_enter Tryz.func210, Tryz.ntmps210
    go_wp2_with fail
    refine HF.out.mono ?_
    rintro e w1 ⟨rfl, k1⟩
    go_wp2
    go_ret
    exact ⟨by rw [HX.out]; rfl, k1⟩

theorem kb_cases (op : Int) : (rowAt op).kb = 0 ∨ (rowAt op).kb = 3 := by
  have := rowAt_all (p := fun r => decide (r.kb = 0 ∨ r.kb = 3)) (by decide) (by decide) op
  simpa using this

theorem run_field_gu (k l m : Int) (sh gu : Value) (w : World) : (Instr.field 134 (.agg #[.int .i64 k, .int .i64 l, .int .i64 m, sh, gu]) 4).run Tryz.prog w = .ok gu w := by kernel_rfl

/-! ### guess -/
theorem dig_word {k : Int} (h : wordK k = true) : ¬ digK k = true := by
  have h := of_decide_eq_true h
  intro h2
  have h2 := of_decide_eq_true h2
  omega
theorem word_dig_no {k : Int} (h : wordK k = true) : ¬ digK k = true := dig_word h

set_option maxRecDepth 100000 in
set_option maxHeartbeats 4000000 in
theorem guess_00 (op ka kb A B : Int) (S : ByteArray) (s : List UInt8) (w : World) (hs : Hid (S.data.toList = s)) (hl : Hid (S.size ≤ 200000)) (_hL : Hid (LaidO w)) (hC : Hid (CutAt w)) (HKn : Hid (∀ w, Calls Tryz.prog 219 #[.int .i64 op] w fun e w' => e = .returned (.tuple #[.int .i64 ka, .int .i64 kb]) ∧ Keep NoB w w'))
    (hA : Hid (A = 0)) (hB : Hid (B = 0)) (h0 : ka = 0) (h1 : kb = 0) :
    Calls Tryz.prog 218 #[.int .i64 op, .string S] w fun e w' => e = .returned (instV op A B) ∧ Keep NoB w w' := by
  have HCt := Lib.hid (fun w hw => cut_any S s w hs.out hl.out hw)
  have hcl := Lib.hid (cut_len s)
  have hsz : Hid (S.size = s.length) := Lib.hid (_root_.Go.Proofs.YtifobiajjhknbaaGreatDoor.W.size_of hs.out)
  subst h0
  subst h1
  have gK := ((Keep.refl NoB w).alloc (.cells #[.int .i64 0, .int .i64 0, .int .i64 0] 37)).alloc (.cells #[.int .i64 op, .int .i64 0, .int .i64 0] 37)
  have bo := (Blk.new w 37 #[.int .i64 0, .int .i64 0, .int .i64 0]).alloc (.cells #[.int .i64 op, .int .i64 0, .int .i64 0] 37)
  have bx := Blk.new (w.alloc (.cells #[.int .i64 0, .int .i64 0, .int .i64 0] 37)) 37 #[.int .i64 op, .int .i64 0, .int .i64 0]
  rw [World.size_alloc] at bx
  generalize (Lib.cut s [32]).1 = s1 at *
  generalize (Lib.cut s [32]).2.1 = s2 at *
  go_enter Tryz.func218, Tryz.ntmps218
  go_wp2_with fail
  refine (HCt.out _ (hC.out.keep gK)).mono ?_
  rintro e w1 ⟨bb, rfl, k1⟩
  replace bo := bo.keep k1 id
  replace bx := bx.keep k1 id
  replace gK := keepN gK k1
  clear k1
  go_wp2_with fail
  refine (HKn.out _).mono ?_
  rintro e w2 ⟨rfl, k1⟩
  replace bo := bo.keep k1 id
  replace bx := bx.keep k1 id
  replace gK := keepN gK k1
  clear k1
  have hz := bx.lt
  have hzo := bo.lt
  have fx := fun i => bx.frozen i
  have fo := fun i => bo.frozen i
  obtain ⟨c0, c1, c2⟩ := blk_inst bx
  obtain ⟨o0, o1, o2⟩ := blk_inst bo
  go_wp2
  refine bodyPost_ret (v := instV op 0 0) (by simp [results, Tryz.results218, go_sem, o0, o1, o2]) rfl ⟨by rw [hA.out, hB.out], ?_⟩
  repeat' first | exact gK | refine Keep.setCell ?_ (fun h => absurd h (by simp)) _


set_option maxRecDepth 100000 in
set_option maxHeartbeats 4000000 in
theorem guess_d0 (op ka kb A B : Int) (S : ByteArray) (s : List UInt8) (w : World) (hs : Hid (S.data.toList = s)) (hl : Hid (S.size ≤ 200000)) (hL : Hid (LaidO w)) (hC : Hid (CutAt w)) (HKn : Hid (∀ w, Calls Tryz.prog 219 #[.int .i64 op] w fun e w' => e = .returned (.tuple #[.int .i64 ka, .int .i64 kb]) ∧ Keep NoB w w'))
    (hA : Hid (A = gK ka (Lib.cut s [32]).1)) (hB : Hid (B = 0)) (h0 : ka ≠ 0) (h1 : kb = 0) (hk0 : Hid (digK ka = true ∧ 0 ≤ ka ∧ ka ≤ 10)) :
    Calls Tryz.prog 218 #[.int .i64 op, .string S] w fun e w' => e = .returned (instV op A B) ∧ Keep NoB w w' := by
  have HCt := Lib.hid (fun w hw => cut_any S s w hs.out hl.out hw)
  have hcl := Lib.hid (cut_len s)
  have hsz : Hid (S.size = s.length) := Lib.hid (_root_.Go.Proofs.YtifobiajjhknbaaGreatDoor.W.size_of hs.out)
  have q0 : (ka != 0) = true := by rw [bne_iff_ne]; exact h0
  subst h1
  have gK := ((Keep.refl NoB w).alloc (.cells #[.int .i64 0, .int .i64 0, .int .i64 0] 37)).alloc (.cells #[.int .i64 op, .int .i64 0, .int .i64 0] 37)
  have bo := (Blk.new w 37 #[.int .i64 0, .int .i64 0, .int .i64 0]).alloc (.cells #[.int .i64 op, .int .i64 0, .int .i64 0] 37)
  have bx := Blk.new (w.alloc (.cells #[.int .i64 0, .int .i64 0, .int .i64 0] 37)) 37 #[.int .i64 op, .int .i64 0, .int .i64 0]
  rw [World.size_alloc] at bx
  generalize (Lib.cut s [32]).1 = s1 at *
  generalize (Lib.cut s [32]).2.1 = s2 at *
  go_enter Tryz.func218, Tryz.ntmps218
  go_wp2_with fail
  refine (HCt.out _ (hC.out.keep gK)).mono ?_
  rintro e w1 ⟨bb, rfl, k1⟩
  replace bo := bo.keep k1 id
  replace bx := bx.keep k1 id
  replace gK := keepN gK k1
  clear k1
  go_wp2_with fail
  refine (HKn.out _).mono ?_
  rintro e w2 ⟨rfl, k1⟩
  replace bo := bo.keep k1 id
  replace bx := bx.keep k1 id
  replace gK := keepN gK k1
  clear k1
  have HO := Lib.hid (fun w => operandOf_any ka ⟨hk0.out.2.1, hk0.out.2.2⟩ w)
  go_wp2_with fail
  refine (HO.out _).mono ?_
  rintro e w3 ⟨sh, gu, rfl, hF, k1⟩
  replace bo := bo.keep k1 id
  replace bx := bx.keep k1 id
  replace gK := keepN gK k1
  clear k1
  obtain ⟨rfl, rfl⟩ : sh = fnV 205 ∧ gu = fnV 207 := by
    rcases hF with ⟨h, _⟩ | ⟨_, h⟩ | ⟨h, _⟩
    · exact absurd h h0
    · exact h
    · exact absurd hk0.out.1 (dig_word h)
  clear hF
  dsimp only [opV]
  have hfd := fun w => run_field_gu ka (lo ka) (hi ka) (fnV 205) (fnV 207) w
  go_wp2_with fail
  refine (guess_dig ka (str s1) s1 _ hk0.out.1 (str_list _) (by rw [str_size]; have := hcl.out; have := hsz.out; have := hl.out; omega) (hL.out.keep gK)).mono ?_
  rintro e w4 ⟨rfl, k1⟩
  replace bo := bo.keep k1 id
  replace bx := bx.keep k1 id
  replace gK := keepN gK k1
  clear k1
  clear hfd
  rw [← hA.out]
  have hz := bx.lt
  have hzo := bo.lt
  have fx := fun i => bx.frozen i
  have fo := fun i => bo.frozen i
  obtain ⟨c0, c1, c2⟩ := blk_inst bx
  obtain ⟨o0, o1, o2⟩ := blk_inst bo
  go_wp2
  refine bodyPost_ret (v := instV op A 0) (by simp [results, Tryz.results218, go_sem, o0, o1, o2]) rfl ⟨by rw [hB.out], ?_⟩
  repeat' first | exact gK | refine Keep.setCell ?_ (fun h => absurd h (by simp)) _


set_option maxRecDepth 100000 in
set_option maxHeartbeats 4000000 in
theorem guess_w0 (op ka kb A B : Int) (S : ByteArray) (s : List UInt8) (w : World) (hs : Hid (S.data.toList = s)) (hl : Hid (S.size ≤ 200000)) (hL : Hid (LaidO w)) (hC : Hid (CutAt w)) (HKn : Hid (∀ w, Calls Tryz.prog 219 #[.int .i64 op] w fun e w' => e = .returned (.tuple #[.int .i64 ka, .int .i64 kb]) ∧ Keep NoB w w'))
    (hA : Hid (A = gK ka (Lib.cut s [32]).1)) (hB : Hid (B = 0)) (h0 : ka ≠ 0) (h1 : kb = 0) (hk0 : Hid (wordK ka = true ∧ 0 ≤ ka ∧ ka ≤ 10)) :
    Calls Tryz.prog 218 #[.int .i64 op, .string S] w fun e w' => e = .returned (instV op A B) ∧ Keep NoB w w' := by
  have HCt := Lib.hid (fun w hw => cut_any S s w hs.out hl.out hw)
  have hcl := Lib.hid (cut_len s)
  have hsz : Hid (S.size = s.length) := Lib.hid (_root_.Go.Proofs.YtifobiajjhknbaaGreatDoor.W.size_of hs.out)
  have q0 : (ka != 0) = true := by rw [bne_iff_ne]; exact h0
  subst h1
  have gK := ((Keep.refl NoB w).alloc (.cells #[.int .i64 0, .int .i64 0, .int .i64 0] 37)).alloc (.cells #[.int .i64 op, .int .i64 0, .int .i64 0] 37)
  have bo := (Blk.new w 37 #[.int .i64 0, .int .i64 0, .int .i64 0]).alloc (.cells #[.int .i64 op, .int .i64 0, .int .i64 0] 37)
  have bx := Blk.new (w.alloc (.cells #[.int .i64 0, .int .i64 0, .int .i64 0] 37)) 37 #[.int .i64 op, .int .i64 0, .int .i64 0]
  rw [World.size_alloc] at bx
  generalize (Lib.cut s [32]).1 = s1 at *
  generalize (Lib.cut s [32]).2.1 = s2 at *
  go_enter Tryz.func218, Tryz.ntmps218
  go_wp2_with fail
  refine (HCt.out _ (hC.out.keep gK)).mono ?_
  rintro e w1 ⟨bb, rfl, k1⟩
  replace bo := bo.keep k1 id
  replace bx := bx.keep k1 id
  replace gK := keepN gK k1
  clear k1
  go_wp2_with fail
  refine (HKn.out _).mono ?_
  rintro e w2 ⟨rfl, k1⟩
  replace bo := bo.keep k1 id
  replace bx := bx.keep k1 id
  replace gK := keepN gK k1
  clear k1
  have HO := Lib.hid (fun w => operandOf_any ka ⟨hk0.out.2.1, hk0.out.2.2⟩ w)
  go_wp2_with fail
  refine (HO.out _).mono ?_
  rintro e w3 ⟨sh, gu, rfl, hF, k1⟩
  replace bo := bo.keep k1 id
  replace bx := bx.keep k1 id
  replace gK := keepN gK k1
  clear k1
  obtain ⟨bb, cc, rfl, rfl, hcc⟩ : ∃ b c, sh = boxV 209 b ∧ gu = boxV 210 c ∧ w3.cell? ⟨c, 0, none⟩ = some (fnV (readF ka)) := by
    rcases hF with ⟨h, _⟩ | ⟨h, _⟩ | ⟨_, b, c, h1, h2, _, h4⟩
    · exact absurd h h0
    · exact absurd h (word_dig_no hk0.out.1)
    · exact ⟨b, c, h1, h2, h4⟩
  have hcc := Lib.hid hcc
  clear hF
  dsimp only [opV]
  have hfd := fun w => run_field_gu ka (lo ka) (hi ka) (boxV 209 bb) (boxV 210 cc) w
  go_wp2_with fail
  refine (guess_word ka (str s1) s1 cc _ hk0.out.1 (str_list _) (by rw [str_size]; have := hcl.out; have := hsz.out; have := hl.out; omega) (hL.out.keep gK) hcc.out).mono ?_
  rintro e w4 ⟨rfl, k1⟩
  replace bo := bo.keep k1 id
  replace bx := bx.keep k1 id
  replace gK := keepN gK k1
  clear k1
  clear hfd
  rw [← hA.out]
  have hz := bx.lt
  have hzo := bo.lt
  have fx := fun i => bx.frozen i
  have fo := fun i => bo.frozen i
  obtain ⟨c0, c1, c2⟩ := blk_inst bx
  obtain ⟨o0, o1, o2⟩ := blk_inst bo
  go_wp2
  refine bodyPost_ret (v := instV op A 0) (by simp [results, Tryz.results218, go_sem, o0, o1, o2]) rfl ⟨by rw [hB.out], ?_⟩
  repeat' first | exact gK | refine Keep.setCell ?_ (fun h => absurd h (by simp)) _


set_option maxRecDepth 100000 in
set_option maxHeartbeats 4000000 in
theorem guess_dw (op ka kb A B : Int) (S : ByteArray) (s : List UInt8) (w : World) (hs : Hid (S.data.toList = s)) (hl : Hid (S.size ≤ 200000)) (hL : Hid (LaidO w)) (hC : Hid (CutAt w)) (HKn : Hid (∀ w, Calls Tryz.prog 219 #[.int .i64 op] w fun e w' => e = .returned (.tuple #[.int .i64 ka, .int .i64 kb]) ∧ Keep NoB w w'))
    (hA : Hid (A = gK ka (Lib.cut s [32]).1)) (hB : Hid (B = gK kb (Lib.cut s [32]).2.1)) (h0 : ka ≠ 0) (h1 : kb ≠ 0) (hk0 : Hid (digK ka = true ∧ 0 ≤ ka ∧ ka ≤ 10)) (hk1 : Hid (wordK kb = true ∧ 0 ≤ kb ∧ kb ≤ 10)) :
    Calls Tryz.prog 218 #[.int .i64 op, .string S] w fun e w' => e = .returned (instV op A B) ∧ Keep NoB w w' := by
  have HCt := Lib.hid (fun w hw => cut_any S s w hs.out hl.out hw)
  have hcl := Lib.hid (cut_len s)
  have hsz : Hid (S.size = s.length) := Lib.hid (_root_.Go.Proofs.YtifobiajjhknbaaGreatDoor.W.size_of hs.out)
  have q0 : (ka != 0) = true := by rw [bne_iff_ne]; exact h0
  have q1 : (kb != 0) = true := by rw [bne_iff_ne]; exact h1
  have gK := ((Keep.refl NoB w).alloc (.cells #[.int .i64 0, .int .i64 0, .int .i64 0] 37)).alloc (.cells #[.int .i64 op, .int .i64 0, .int .i64 0] 37)
  have bo := (Blk.new w 37 #[.int .i64 0, .int .i64 0, .int .i64 0]).alloc (.cells #[.int .i64 op, .int .i64 0, .int .i64 0] 37)
  have bx := Blk.new (w.alloc (.cells #[.int .i64 0, .int .i64 0, .int .i64 0] 37)) 37 #[.int .i64 op, .int .i64 0, .int .i64 0]
  rw [World.size_alloc] at bx
  generalize (Lib.cut s [32]).1 = s1 at *
  generalize (Lib.cut s [32]).2.1 = s2 at *
  go_enter Tryz.func218, Tryz.ntmps218
  go_wp2_with fail
  refine (HCt.out _ (hC.out.keep gK)).mono ?_
  rintro e w1 ⟨bb, rfl, k1⟩
  replace bo := bo.keep k1 id
  replace bx := bx.keep k1 id
  replace gK := keepN gK k1
  clear k1
  go_wp2_with fail
  refine (HKn.out _).mono ?_
  rintro e w2 ⟨rfl, k1⟩
  replace bo := bo.keep k1 id
  replace bx := bx.keep k1 id
  replace gK := keepN gK k1
  clear k1
  have HO := Lib.hid (fun w => operandOf_any ka ⟨hk0.out.2.1, hk0.out.2.2⟩ w)
  go_wp2_with fail
  refine (HO.out _).mono ?_
  rintro e w3 ⟨sh, gu, rfl, hF, k1⟩
  replace bo := bo.keep k1 id
  replace bx := bx.keep k1 id
  replace gK := keepN gK k1
  clear k1
  obtain ⟨rfl, rfl⟩ : sh = fnV 205 ∧ gu = fnV 207 := by
    rcases hF with ⟨h, _⟩ | ⟨_, h⟩ | ⟨h, _⟩
    · exact absurd h h0
    · exact h
    · exact absurd hk0.out.1 (dig_word h)
  clear hF
  dsimp only [opV]
  have hfd := fun w => run_field_gu ka (lo ka) (hi ka) (fnV 205) (fnV 207) w
  go_wp2_with fail
  refine (guess_dig ka (str s1) s1 _ hk0.out.1 (str_list _) (by rw [str_size]; have := hcl.out; have := hsz.out; have := hl.out; omega) (hL.out.keep gK)).mono ?_
  rintro e w4 ⟨rfl, k1⟩
  replace bo := bo.keep k1 id
  replace bx := bx.keep k1 id
  replace gK := keepN gK k1
  clear k1
  clear hfd
  rw [← hA.out]
  have bo2 := bo
  have hz := bx.lt
  have fx := fun i => bx.frozen i
  have c0 := bx.cell 0
  have c1 := bx.cell 1
  have c2 := bx.cell 2
  have bx2 := bx.put 1 (.int .i64 A)
  have bo3 := bo.far (p := ⟨w.heap.size + 1, 1, none⟩) (by simp) (.int .i64 A)
  have gK2 : Keep NoB w (w4.setCell ⟨w.heap.size + 1, 1, none⟩ (.int .i64 A)) := gK.setCell (fun h => by have : w.heap.size + 1 < w.heap.size := h; omega) _
  have HO := Lib.hid (fun w => operandOf_any kb ⟨hk1.out.2.1, hk1.out.2.2⟩ w)
  go_wp2_with fail
  refine (HO.out _).mono ?_
  rintro e w5 ⟨sh, gu, rfl, hF, k1⟩
  clear bx bo gK hz fx c0 c1 c2 bo2
  have bx := bx2.keep k1 id
  have bo := bo3.keep k1 id
  have gK := keepN gK2 k1
  clear k1 bx2 bo3 gK2
  obtain ⟨bb, cc, rfl, rfl, hcc⟩ : ∃ b c, sh = boxV 209 b ∧ gu = boxV 210 c ∧ w5.cell? ⟨c, 0, none⟩ = some (fnV (readF kb)) := by
    rcases hF with ⟨h, _⟩ | ⟨h, _⟩ | ⟨_, b, c, h1, h2, _, h4⟩
    · exact absurd h h1
    · exact absurd h (word_dig_no hk1.out.1)
    · exact ⟨b, c, h1, h2, h4⟩
  have hcc := Lib.hid hcc
  clear hF
  dsimp only [opV]
  have hfd := fun w => run_field_gu kb (lo kb) (hi kb) (boxV 209 bb) (boxV 210 cc) w
  go_wp2_with fail
  refine (guess_word kb (str s2) s2 cc _ hk1.out.1 (str_list _) (by rw [str_size]; have := hcl.out; have := hsz.out; have := hl.out; omega) (hL.out.keep gK) hcc.out).mono ?_
  rintro e w6 ⟨rfl, k1⟩
  replace bo := bo.keep k1 id
  replace bx := bx.keep k1 id
  replace gK := keepN gK k1
  clear k1
  rw [← hB.out]
  have hz := bx.lt
  have hzo := bo.lt
  have fx := fun i => bx.frozen i
  have fo := fun i => bo.frozen i
  obtain ⟨c0, c1, c2⟩ := blk_inst bx
  obtain ⟨o0, o1, o2⟩ := blk_inst bo
  go_wp2
  refine bodyPost_ret (v := instV op A B) (by simp [results, Tryz.results218, go_sem, o0, o1, o2]) rfl ⟨rfl, ?_⟩
  repeat' first | exact gK | refine Keep.setCell ?_ (fun h => absurd h (by simp)) _

end Go.Proofs.YtifobiajjhknbaaGreatDoor.O

namespace Go.Proofs.YtifobiajjhknbaaGreatDoor.V
open Go.ChangeShapes Go.WideShapes Go.ChangeAt Go.RowKit

section
variable {H : Type} {enc : TypeId × Value → H} {w : World} {base b0 : Nat} {spare : Nat → Bool} {held : Bool} {r : Reach} {v : Value} {d : DataW H} {p : List MemPlace}
end

end Go.Proofs.YtifobiajjhknbaaGreatDoor.V

namespace Go.Proofs.YtifobiajjhknbaaGreatDoor.O
open Go.ChangeShapes Go.WideShapes Go.ChangeAt Go.RowKit

theorem handed_and {H : Type} {enc : TypeId × Value → H} {a : Assume} {C : Checked} {os : Os} {f : FuncId} {fn : Func} {s : ChangeSpec} {conds : List PathCond} {apart fresh handsOn again : Bool} {X : World → Array Value → Prop}
    (hX : ∀ (w w' : World) (args : Array Value), w.heap = w'.heap → X w args → X w' args) (own : ownKnob C.prog.godebug = none) (started : os.Started) (noInit : C.prog.inits.idxOf? f = none) (hfn : C.prog.funcs[f]? = some fn)
    (witness : ∃ (w : World) (tape : Tape) (i : Input), w.os = os ∧ (w.forCall tape i).Shaped C.prog ∧ i.vars = [] ∧ Input.okWide C.prog (w.forCall tape i) .any w.heap.size f i ∧
      ((s.pre enc C.prog fn conds apart (w.forCall tape i).memory i.args ∧ X (w.forCall tape i).memory i.args) ∧ sizedMet enc C.prog fn (OpenSpec.ofChange s) apart (w.forCall tape i).memory i.args) ∧ a.holds C.prog (lone (Frame.enter C.prog f i.args .normal) [] (w.forCall tape i)))
    (contract : ∀ (W : World) (base : Nat) (args : Array Value) (ds gs : List (DataW H)) (before : List MemPlace),
      (∀ (j : Nat) t v, fn.params[j]? = some t → args[j]? = some v → Value.okWide C.prog W .any base t v) → DataW.Whole enc C.prog fn.params.toList s.vars apart W args.toList ds gs before →
      W.ShapedOpen C.prog → X W args → Calls C.prog f args W fun e W' => ∃ v, e = .returned v ∧ s.post enc C.prog fn apart fresh handsOn again W args v W') :
    ReturnsInHanded a C os f .any (fun w args => (s.pre enc C.prog fn conds apart w args ∧ X w args) ∧ sizedMet enc C.prog fn (OpenSpec.ofChange s) apart w args) (s.post enc C.prog fn apart fresh handsOn again) := by
  refine returnsInHanded_of_calls own started noInit witness ?_
  intro w tape i _ hsh _ hok hpre _
  obtain ⟨_, _, _, fn', hfn', _, _, _, _, hval⟩ := hok
  obtain rfl : fn' = fn := Option.some.inj (hfn'.symm.trans hfn)
  obtain ⟨⟨⟨ds, gs, before, hw, _⟩, hx⟩, _⟩ := hpre
  refine (contract (w.forCall tape i) w.heap.size i.args ds gs before hval (DataW.Whole.of_heap (w' := w.forCall tape i) (by rfl) hw) hsh (hX _ _ _ (by rfl) hx)).mono fun e W' ⟨v, he, hp⟩ => ?_
  subst he
  exact ChangeSpec.post_blind hp

/-- Function 218 asks for it. -/
theorem cutAt_of {w : World} (h : w.ShapedOpen Tryz.prog) : CutAt w :=
  cell_of_shapedOpen_int (t := 3) (zero := #[.int .i64 0]) h (by decide +kernel) (by kernel_rfl) rfl (by kernel_rfl) (by kernel_rfl) Tryz.underlying3

end Go.Proofs.YtifobiajjhknbaaGreatDoor.O

namespace Go.Proofs.YtifobiajjhknbaaGreatDoor.M

abbrev Bs := List UInt8
abbrev Ln := Nat × List Bs

/-- Does the byte part words; does it end a line's words? -/
def gapB (c : UInt8) : Bool := decide (c = 32 ∨ c = 9)
def endB (c : UInt8) : Bool := decide (c = 10 ∨ c = 59)
/-- A word that ends here, if there is one. -/
def fl (cur : Bs) : List Bs := if cur = [] then [] else [cur]
/-- The words of what is left, when so much of a word was met. -/
def wgo (cur : Bs) : Bs → List Bs
  | [] => fl cur
  | c :: r => if endB c = true then fl cur else if gapB c = true then fl cur ++ wgo [] r else wgo (cur ++ [c]) r
def wordsL (s : Bs) : List Bs := wgo [] s
/-- A line, if it has words. -/
def one (n : Nat) (cur : Bs) : List Ln := if wordsL cur = [] then [] else [(n, wordsL cur)]
/-- The lines of what is left, when so much of a line was met. -/
def lgo (n : Nat) (cur : Bs) : Bs → List Ln
  | [] => one n cur
  | c :: r => if c = 10 then one n cur ++ lgo (n + 1) [] r else lgo n (cur ++ [c]) r
def linesL (s : Bs) : List Ln := lgo 1 [] s
/-- Words, parted by one blank. -/
def joinW : List Bs → Bs
  | [] => []
  | [w] => w
  | w :: v :: ws => w ++ 32 :: joinW (v :: ws)
/-- A text's normal one. -/
def flat (l : List (List Bs)) : Bs := l.flatMap fun w => joinW w ++ [10]
def normL (s : Bs) : Bs := flat ((linesL s).map Prod.snd)

theorem fl_nil : fl [] = [] := if_pos rfl
theorem fl_some {w : Bs} (h : w ≠ []) : fl w = [w] := if_neg h
theorem wgo_end {cur : Bs} {c : UInt8} (h : endB c = true) (r : Bs) : wgo cur (c :: r) = fl cur := by rw [wgo, if_pos h]
theorem wgo_gap {cur : Bs} {c : UInt8} (h : endB c = false) (hg : gapB c = true) (r : Bs) : wgo cur (c :: r) = fl cur ++ wgo [] r := by rw [wgo, if_neg (by rw [h]; decide), if_pos hg]
theorem wgo_byte {cur : Bs} {c : UInt8} (h : endB c = false) (hg : gapB c = false) (r : Bs) : wgo cur (c :: r) = wgo (cur ++ [c]) r := by rw [wgo, if_neg (by rw [h]; decide), if_neg (by rw [hg]; decide)]
theorem one_none {n : Nat} {s : Bs} (h : wordsL s = []) : one n s = [] := if_pos h
theorem one_some {n : Nat} {s : Bs} (h : wordsL s ≠ []) : one n s = [(n, wordsL s)] := if_neg h
theorem lgo_lf (n : Nat) (cur r : Bs) : lgo n cur (10 :: r) = one n cur ++ lgo (n + 1) [] r := by rw [lgo, if_pos rfl]
theorem lgo_byte {c : UInt8} (h : c ≠ 10) (n : Nat) (cur r : Bs) : lgo n cur (c :: r) = lgo n (cur ++ [c]) r := by rw [lgo, if_neg h]

/-- A byte of a word; a word. -/
def inW (c : UInt8) : Bool := !endB c && !gapB c
def cleanB (w : Bs) : Bool := !w.isEmpty && w.all inW
theorem inW_iff (c : UInt8) : inW c = true ↔ endB c = false ∧ gapB c = false := by unfold inW; rw [Bool.and_eq_true, Bool.not_eq_true', Bool.not_eq_true']
theorem inW_iff2 (c : UInt8) : inW c = true ↔ c ≠ 10 ∧ c ≠ 59 ∧ c ≠ 32 ∧ c ≠ 9 := by
  rw [inW_iff]; unfold endB gapB; rw [decide_eq_false_iff_not, decide_eq_false_iff_not]
  constructor
  · rintro ⟨h1, h2⟩; exact ⟨fun h => h1 (.inl h), fun h => h1 (.inr h), fun h => h2 (.inl h), fun h => h2 (.inr h)⟩
  · rintro ⟨h1, h2, h3, h4⟩; exact ⟨fun h => h.elim h1 h2, fun h => h.elim h3 h4⟩
theorem clean_iff (w : Bs) : cleanB w = true ↔ w ≠ [] ∧ w.all inW = true := by
  unfold cleanB; cases w <;> simp

theorem wgo_word {w : Bs} (h : w.all inW = true) (cur r : Bs) : wgo cur (w ++ r) = wgo (cur ++ w) r := by
  induction w generalizing cur with
  | nil => simp
  | cons c w ih =>
    rw [List.all_cons, Bool.and_eq_true, inW_iff] at h
    rw [List.cons_append, wgo_byte h.1.1 h.1.2, ih h.2, List.append_assoc]
    rfl
def cleanW (l : List Bs) : Bool := !l.isEmpty && l.all cleanB
theorem cleanW_iff (l : List Bs) : cleanW l = true ↔ l ≠ [] ∧ ∀ w ∈ l, cleanB w = true := by
  unfold cleanW; cases l <;> simp
/-- Words that are joined are met again. -/
theorem wgo_join : ∀ (l : List Bs) (t : Bs), (∀ w ∈ l, cleanB w = true) → (t = [] ∨ ∃ c r, t = c :: r ∧ endB c = true) → wgo [] (joinW l ++ t) = l
  | [], t, _, ht => by
    rcases ht with rfl | ⟨c, r, rfl, hc⟩
    · rfl
    · exact wgo_end hc r
  | [w], t, h, ht => by
    obtain ⟨h1, h2⟩ := (clean_iff w).1 (h w (by simp))
    rw [joinW, wgo_word h2, List.nil_append]
    rcases ht with rfl | ⟨c, r, rfl, hc⟩
    · exact fl_some h1
    · rw [wgo_end hc r]; exact fl_some h1
  | w :: v :: ws, t, h, ht => by
    obtain ⟨h1, h2⟩ := (clean_iff w).1 (h w (by simp))
    have ih := wgo_join (v :: ws) t (fun x hx => h x (by simp only [List.mem_cons] at hx ⊢; exact .inr hx)) ht
    rw [joinW, List.append_assoc, wgo_word h2, List.nil_append, List.cons_append, wgo_gap (by decide) (by decide), ih, fl_some h1]
    rfl
theorem words_join {l : List Bs} (h : ∀ w ∈ l, cleanB w = true) : wordsL (joinW l) = l := by
  have := wgo_join l [] h (.inl rfl)
  rwa [List.append_nil] at this

/-! ### Lines -/

def noLF (s : Bs) : Bool := s.all fun c => decide (c ≠ 10)
theorem lgo_line {s : Bs} (h : noLF s = true) (n : Nat) (cur r : Bs) : lgo n cur (s ++ r) = lgo n (cur ++ s) r := by
  induction s generalizing cur with
  | nil => simp
  | cons c s ih =>
    unfold noLF at h
    rw [List.all_cons, Bool.and_eq_true, decide_eq_true_iff] at h
    rw [List.cons_append, lgo_byte h.1, ih h.2, List.append_assoc]
    rfl
theorem lgo_full {s : Bs} (h : noLF s = true) (n : Nat) (r : Bs) : lgo n [] (s ++ 10 :: r) = one n s ++ lgo (n + 1) [] r := by rw [lgo_line h, lgo_lf, List.nil_append]
/-- Lines with numbers from one on. -/
def num (n : Nat) : List (List Bs) → List Ln
  | [] => []
  | w :: r => (n, w) :: num (n + 1) r
theorem num_append : ∀ (n : Nat) (a b : List (List Bs)), num n (a ++ b) = num n a ++ num (n + a.length) b
  | _, [], _ => rfl
  | n, w :: r, b => by rw [List.cons_append, num, num, num_append (n + 1) r b, List.length_cons, Nat.add_assoc, Nat.add_comm 1, List.cons_append]
theorem join_in {l : List Bs} (h : ∀ w ∈ l, cleanB w = true) : ∀ c ∈ joinW l, c = 32 ∨ inW c = true := by
  induction l with
  | nil => intro c hc; cases hc
  | cons w l ih =>
    have hw := ((clean_iff w).1 (h w (by simp))).2
    have hw2 : ∀ c ∈ w, inW c = true := fun c hc => List.all_eq_true.1 hw c hc
    cases l with
    | nil => intro c hc; exact .inr (hw2 c hc)
    | cons v ws =>
      intro c hc
      rw [joinW, List.mem_append, List.mem_cons] at hc
      rcases hc with hc | hc | hc
      · exact .inr (hw2 c hc)
      · exact .inl hc
      · exact ih (fun x hx => h x (List.mem_cons_of_mem _ hx)) c hc
theorem join_noLF {l : List Bs} (h : ∀ w ∈ l, cleanB w = true) : noLF (joinW l) = true := by
  unfold noLF
  rw [List.all_eq_true]
  intro c hc
  rw [decide_eq_true_iff]
  rcases join_in h c hc with rfl | h1
  · decide
  · exact ((inW_iff2 c).1 h1).1
theorem flat_cons (w : List Bs) (l : List (List Bs)) : flat (w :: l) = joinW w ++ 10 :: flat l := by unfold flat; rw [List.flatMap_cons, List.append_assoc]; rfl
theorem flat_append (a b : List (List Bs)) : flat (a ++ b) = flat a ++ flat b := by unfold flat; rw [List.flatMap_append]
theorem lgo_flat : ∀ (l : List (List Bs)) (n : Nat), (∀ w ∈ l, cleanW w = true) → lgo n [] (flat l) = num n l
  | [], n, _ => rfl
  | w :: l, n, h => by
    have hw := (cleanW_iff w).1 (h w (by simp))
    have ih := lgo_flat l (n + 1) (fun x hx => h x (by simp [hx]))
    rw [flat_cons, lgo_full (join_noLF hw.2), ih, one_some (by rw [words_join hw.2]; exact hw.1), words_join hw.2]
    rfl
theorem lines_flat {l : List (List Bs)} (h : ∀ w ∈ l, cleanW w = true) : linesL (flat l) = num 1 l := lgo_flat l 1 h
/-- Words are no longer than what they stand in. -/
theorem join_len : ∀ l : List Bs, (joinW l).length + 1 = (l.map fun w => w.length + 1).sum ∨ l = []
  | [] => .inr rfl
  | [w] => .inl (by simp [joinW])
  | w :: v :: ws => .inl (by
    have := (join_len (v :: ws)).resolve_right (by simp)
    rw [joinW, List.length_append, List.length_cons, List.map_cons, List.sum_cons]
    omega)
def wsum (l : List Bs) : Nat := (l.map fun w => w.length + 1).sum
theorem wsum_append (a b : List Bs) : wsum (a ++ b) = wsum a + wsum b := by unfold wsum; rw [List.map_append, List.sum_append_nat]
theorem wsum_fl (cur : Bs) : wsum (fl cur) ≤ cur.length + 1 ∧ (cur = [] → wsum (fl cur) = 0) := by
  by_cases h : cur = []
  · subst h; rw [fl_nil]; simp [wsum]
  · rw [fl_some h]; simp [wsum, h]
theorem wsum_go : ∀ (s cur : Bs), wsum (wgo cur s) ≤ cur.length + s.length + 1
  | [], cur => by have := (wsum_fl cur).1; rw [wgo]; simp; exact this
  | c :: s, cur => by
    have h0 := (wsum_fl cur).1
    cases he : endB c with
    | true => rw [wgo_end he]; simp; omega
    | false =>
      cases hg : gapB c with
      | true =>
        have ih := wsum_go s []
        rw [wgo_gap he hg, wsum_append]
        simp at ih ⊢; omega
      | false =>
        have ih := wsum_go s (cur ++ [c])
        rw [wgo_byte he hg]
        simp at ih ⊢; omega
theorem join_le (s : Bs) : (joinW (wordsL s)).length ≤ s.length := by
  have h := wsum_go s []
  rcases join_len (wordsL s) with e | e
  · have e2 : wsum (wordsL s) = (joinW (wordsL s)).length + 1 := e.symm
    unfold wordsL at e2 ⊢
    simp at h; omega
  · rw [e]; exact Nat.zero_le _
theorem one_len (n : Nat) (s : Bs) : (flat ((one n s).map Prod.snd)).length ≤ s.length + 1 := by
  by_cases h : wordsL s = []
  · rw [one_none h]; simp [flat]
  · rw [one_some h]
    have := join_le s
    simp [flat]; exact this
theorem lgo_len : ∀ (s : Bs) (n : Nat) (cur : Bs), (flat ((lgo n cur s).map Prod.snd)).length ≤ cur.length + s.length + 1
  | [], n, cur => one_len n cur
  | c :: s, n, cur => by
    by_cases hc : c = 10
    · subst hc
      have ih := lgo_len s (n + 1) []
      have h1 := one_len n cur
      rw [lgo_lf, List.map_append, flat_append, List.length_append]
      simp at ih h1 ⊢; omega
    · have ih := lgo_len s n (cur ++ [c])
      rw [lgo_byte hc]
      simp at ih ⊢; omega
theorem norm_len (s : Bs) : (normL s).length ≤ s.length + 1 := by have := lgo_len s 1 []; rw [List.length_nil, Nat.zero_add] at this; exact this

/-! ### What stands in a normal text -/

/-! ### Notes put in -/

/-- The lines of a text, each without its line feed. -/
def sgo (cur : Bs) : Bs → List Bs
  | [] => fl cur
  | c :: r => if c = 10 then cur :: sgo [] r else sgo (cur ++ [c]) r
def segs (s : Bs) : List Bs := sgo [] s
def ones (n : Nat) : List Bs → List Ln
  | [] => []
  | s :: r => one n s ++ ones (n + 1) r
theorem lgo_segs : ∀ (s : Bs) (n : Nat) (cur : Bs), lgo n cur s = ones n (sgo cur s)
  | [], n, cur => by
    rw [lgo, sgo]
    by_cases h : cur = []
    · subst h; rw [fl_nil]; rfl
    · rw [fl_some h, ones, ones, List.append_nil]
  | c :: r, n, cur => by
    by_cases hc : c = 10
    · subst hc
      rw [lgo_lf, sgo, if_pos rfl, ones, lgo_segs r (n + 1) []]
    · rw [lgo_byte hc, sgo, if_neg hc, lgo_segs r n _]
end Go.Proofs.YtifobiajjhknbaaGreatDoor.M

namespace Go.Proofs.YtifobiajjhknbaaGreatDoor.M
open Go

end Go.Proofs.YtifobiajjhknbaaGreatDoor.M

namespace Go.Proofs.YtifobiajjhknbaaGreatDoor.M
open Go

theorem lines_segs (s : Bs) : linesL s = ones 1 (segs s) := lgo_segs s 1 []
end Go.Proofs.YtifobiajjhknbaaGreatDoor.M

namespace Go.Proofs.YtifobiajjhknbaaGreatDoor.M
open Go.RowKit W

abbrev sv (l : List Bs) : List Value := l.map fun s => .string (str s)
theorem sv_len (l : List Bs) : (sv l).length = l.length := by simp
theorem rd_one {w : World} {T : TypeId} {v : Value} : Rd (w.alloc (.cells #[v] T)) (some ⟨w.heap.size, 0, none⟩) [v] := fun _ =>
  ⟨_, 0, rfl, fun j u hu => by rw [Nat.zero_add, (Blk.new w T #[v]).cell j, ← hu]; simp⟩
theorem sv_at {w : World} {A : Option Addr} {l : List Bs} (h : Rd w A (sv l)) (h0 : 0 < l.length) : ∃ g off, A = some ⟨g, off, none⟩ ∧ ∀ (i : Nat) (hi : i < l.length), w.cell? ⟨g, off + i, none⟩ = some (.string (str l[i])) := by
  obtain ⟨g, off, e, hc⟩ := h (by simpa using h0)
  exact ⟨g, off, e, fun i hi => hc i _ (by simp [hi])⟩
theorem extract_of {S : ByteArray} {s : Bs} (hs : S.data.toList = s) (f k : Nat) : S.extract f k = str ((s.drop f).take (k - f)) := by
  apply ByteArray.ext
  rw [ByteArray.data_extract]
  apply Array.ext'
  rw [Array.toList_extract, hs, List.extract_eq_take_drop]
theorem str_add (a b : Bs) : str a ++ str b = str (a ++ b) := by
  apply ByteArray.ext
  simp [ByteArray.data_append]
theorem str_eq (a b : Bs) : ((str a).toList == (str b).toList) = decide (a = b) := by
  rw [ByteArray.toList_eq, ByteArray.toList_eq, Bool.eq_iff_iff, beq_iff_eq, decide_eq_true_iff]
theorem str_of {S : ByteArray} {s : Bs} (h : S.data.toList = s) : S = str s := by
  subst h
  apply ByteArray.ext
  rfl

end Go.Proofs.YtifobiajjhknbaaGreatDoor.M

namespace Go.Proofs.YtifobiajjhknbaaGreatDoor.M
open Go.RowKit W

theorem bldAt_keep {T e : TypeId} {B b : Nat} {p : Value} {bs : List Value} {w w' : World} (h : Lib.BuilderAtF T e B b p bs w) (hk : Keep NoB w w') : Lib.BuilderAtF T e B b p bs w' := by
  obtain ⟨h1, v, h2, ⟨h3, h4⟩, h5⟩ := h
  have hb := hk.block b (Array.getElem?_eq_some_iff.1 h2).1 id
  refine ⟨h1, v, hb.trans h2, ⟨h3, ?_⟩, h5⟩
  rcases h4 with h4 | ⟨g, cap, cur, fz, e1, e2, e3, e4⟩
  · exact .inl h4
  · exact .inr ⟨g, cap, cur, fz, e1, e2, (hk.block g (Array.getElem?_eq_some_iff.1 e3).1 id).trans e3, e4⟩
theorem bld_keep {T e : TypeId} {B b : Nat} {bs : List Value} {w w' : World} (h : Lib.IsBuilderF T e B b bs w) (hk : Keep NoB w w') : Lib.IsBuilderF T e B b bs w' :=
  h.elim (fun h => .inl (bldAt_keep h hk)) (fun h => .inr (bldAt_keep h hk))
theorem str_cells (l : Bs) : Lib.strCells (str l) = Lib.byteCells l := by rw [Lib.strCells_eq]
/-- The builder of this call: its block, and all that was there when it was made. -/
abbrev Bld (b : Nat) (s : Bs) (w : World) : Prop := Lib.IsBuilderF 52 5 b b (Lib.byteCells s) w
theorem bld_new (w : World) : Bld w.heap.size [] (w.alloc (.cells #[.pointer none, .slice none 0 0] 52)) := Lib.IsBuilderF.of (Lib.fresh_isBuilder 52 5 w)
/-- More is written. -/
theorem write_any (b : Nat) (s t : Bs) (S : ByteArray) (w : World) (h : Bld b s w) (hS : S = str t) (hl : s.length + t.length ≤ 140737488355328) (hb : b ≤ w.heap.size) :
    Calls Tryz.prog 19 #[.pointer (some ⟨b, 0, none⟩), .string S] w fun e w' => (∃ u v, e = .returned (.tuple #[u, v])) ∧ Bld b (s ++ t) w' ∧ Below b w w' ∧ Lib.OthersKept 5 (some b) w w' := by
  subst hS
  have hsz : (str t).size = t.length := size_of (by simp)
  refine (Tryz.Builder_WriteString_k b b (Lib.byteCells s) (str t) w h (by rw [Lib.byteCells_length, hsz]; exact hl) hb).mono ?_
  rintro e w' ⟨rfl, h1, h2, h3⟩
  rw [str_cells, ← Lib.byteCells_append] at h1
  exact ⟨⟨_, _, rfl⟩, .inr h1, h2, h3⟩
theorem string_any (b : Nat) (s : Bs) (w : World) (h : Bld b s w) (hb : b ≤ w.heap.size) :
    Calls Tryz.prog 29 #[.pointer (some ⟨b, 0, none⟩)] w fun e w' => e = .returned (.string (str s)) ∧ Bld b s w' ∧ Below b w w' ∧ Lib.OthersKept 5 (some b) w w' :=
  (Tryz.Builder_String_any_k b b s w h hb).mono (by rintro e w' ⟨rfl, h1, h2, h3⟩; exact ⟨rfl, h1, h2, h3⟩)
/-- A block of another type than bytes, and another one than the builder's, stays. -/
theorem blk_others {b g : Nat} {w w' : World} {T : TypeId} {cs : Array Value} (h : Blk w g T cs) (ho : Lib.OthersKept 5 (some b) w w') (hg : g ≠ b) (hT : T ≠ 5) : Blk w' g T cs := by
  have h1 := ho g _ h (by simpa using hg) (fun c fz e => by cases e; exact hT rfl)
  exact h1

end Go.Proofs.YtifobiajjhknbaaGreatDoor.M

namespace Go.Proofs.YtifobiajjhknbaaGreatDoor.V
open Go.RowKit

theorem keepN {w w1 w2 : World} (h : Keep NoB w w1) (h' : Keep NoB w1 w2) : Keep NoB w w2 := h.trans h' (fun _ hf _ => hf.elim)

end Go.Proofs.YtifobiajjhknbaaGreatDoor.V

namespace Go.Proofs.YtifobiajjhknbaaGreatDoor.V
open Go.RowKit

end Go.Proofs.YtifobiajjhknbaaGreatDoor.V

namespace Go.Proofs.YtifobiajjhknbaaGreatDoor.V
open Go.RowKit

/-- A part of the bytes that a slice reads as. -/
theorem Rd.part {w : World} {A : Option Addr} {l : List UInt8} {c k m : Nat} (h : Rd w A l) (hc : l.length ≤ c) : Rd w (if c = k then A else A.map (·.add k)) ((l.drop k).take m) := fun h0 => by
  have h0' : k < l.length ∧ 0 < m := by simp at h0; omega
  obtain ⟨ad, rfl, hcell⟩ := h (by omega)
  rw [if_neg (by omega)]
  refine ⟨ad.add k, rfl, fun j u hu => ?_⟩
  rw [add_add]
  have hj : j < ((l.drop k).take m).length := by
    have := List.getElem?_eq_some_iff.1 hu
    obtain ⟨h1, _⟩ := this
    simpa using h1
  have hjl : k + j < l.length := by simp at hj; omega
  apply hcell
  rw [← hu]
  simp at hj
  simp [hj]
  exact ⟨_, List.getElem?_eq_getElem hjl, rfl⟩

/-- The address of a part is in the same block. -/
theorem part_block {A : Option Addr} {c k : Nat} {ad : Addr} (h : (if c = k then A else A.map (·.add k)) = some ad) : ∃ ad', A = some ad' ∧ ad.block = ad'.block := by
  split at h
  · exact ⟨ad, h, rfl⟩
  · cases A with
    | none => simp at h
    | some a => simp at h; exact ⟨a, rfl, by rw [← h, block_add]⟩

theorem add_at (w : World) (sb n0 : Nat) (A : Option Addr) (b : List UInt8) (c n : Nat) (hn : n = b.length) (hs : Blk w sb 344 #[.int .u64 n0]) (hr : Rd w A b) (hA : ∀ ad, A = some ad → ad.block ≠ sb) (hlen : b.length ≤ 140737488355328) :
    Calls Tryz.prog 251 #[.pointer (some ⟨sb, 0, none⟩), .slice A n c] w fun e w' => e = .returned (.tuple #[]) ∧ Blk w' sb 344 #[.int .u64 (acc n0 b)] ∧ Keep (fun k => k = sb) w w' := by
  subst hn; exact add_any w sb n0 A b c hs hr hA hlen
/-- What look leaves: too few bytes; or they were handed on. -/
def Looked (w : World) (l : List UInt8) (fr : Nat) (S : Int) (Q : List UInt8 → World → Prop) (e : Ending) (w' : World) : Prop :=
  ((l.length : Int) - fr < S ∧ e = .returned (.int .i64 10) ∧ Keep NoB w w') ∨
  (S ≤ (l.length : Int) - fr ∧ e = .returned (.int .i64 0) ∧ Q ((l.drop fr).take S.toNat) w')
/-- The sum holds the bytes; nothing else has turned. -/
def Summed (w : World) (sb n0 : Nat) (b : List UInt8) (w' : World) : Prop := Blk w' sb 344 #[.int .u64 (acc n0 b)] ∧ Keep (fun k => k = sb) w w'
set_option maxRecDepth 100000 in
set_option maxHeartbeats 1000000 in
theorem look_add (w : World) (br sb n0 at_ fr : Nat) (S : Int) (A : Option Addr) (l : List UInt8) (c : Nat) (hb : Blk w br 306 #[.slice A l.length c, .int .i64 at_]) (hr : Rd w A l) (hc : l.length ≤ c) (hA : ∀ ad, A = some ad → ad.block ≠ sb)
    (hs : Blk w sb 344 #[.int .u64 n0]) (hlen : l.length ≤ 140737488355328) (hcm : c ≤ 9223372036854775807) (hfr : fr ≤ l.length) (hS0 : 0 ≤ S) (hS1 : S ≤ 9223372036854775807) :
    Calls Tryz.prog 239 #[.pointer (some ⟨br, 0, none⟩), .int .i64 fr, .agg #[.int .i64 S, .func (.func 251) #[.pointer (some ⟨sb, 0, none⟩)] #[]]] w (Looked w l fr S (Summed w sb n0)) := by
  have c0 := hb.cell 0
  have c1 := hb.cell 1
  have hlt := hb.lt
  simp at c0 c1
  by_cases hsh : (l.length : Int) - fr < S
  · go_enter Tryz.func239, Tryz.ntmps239
    go_wp2
    go_quiet (fail)
    go_wp2
    go_ret
    exact .inl ⟨hsh, rfl, ((Keep.refl NoB w).alloc _).drewN _⟩
  · obtain ⟨s, rfl⟩ := Int.eq_ofNat_of_zero_le hS0
    have hle : (s : Int) ≤ (l.length : Int) - fr := by omega
    go_enter Tryz.func239, Tryz.ntmps239
    go_wp2
    go_quiet (fail)
    go_wp2
    obtain ⟨wq, hwq⟩ : ∃ wq, (w.alloc (.cells #[.int .i64 s, .func (.func 251) #[.pointer (some ⟨sb, 0, none⟩)] #[]] 330)).drewN nq = wq := ⟨_, rfl⟩
    rw [hwq]
    have hkq : Keep NoB w wq := hwq ▸ ((Keep.refl NoB w).alloc _).drewN nq
    have hbx : Blk wq w.heap.size 330 #[.int .i64 s, .func (.func 251) #[.pointer (some ⟨sb, 0, none⟩)] #[]] := hwq ▸ Blk.new w _ _
    clear hwq
    have hbq := hb.keep hkq id
    have hsq := hs.keep hkq id
    have hrq := (hr.keep hkq (fun _ _ _ => id)).part (c := c) (k := fr) (m := s) hc
    have q0 := hbq.cell 0
    have q1 := hbx.cell 0
    have q2 := hbx.cell 1
    simp at q0 q1 q2
    have hpl : ((l.drop fr).take s).length = s := by simp; omega
    have hA2 : ∀ ad, (if c = fr then A else A.map (·.add fr)) = some ad → ad.block ≠ sb := fun ad e => by
      obtain ⟨ad', e1, e2⟩ := part_block e
      rw [e2]; exact hA ad' e1
    have hcs : (c : Int) ≤ 9223372036854775807 := by omega
    have hs0 : (0 : Int) ≤ (fr : Int) + s := by omega
    have hs1 : (fr : Int) + s ≤ c := by omega
    have hs2 : ((fr : Int) + s).toNat = fr + s := by omega
    have hs3 : IntKind.i64.wrap ((fr : Int) + s) = (fr : Int) + s := IntWalk.i64_in _ (by omega)
    go_still_tail 12, (by kernel_rfl)
    change wpList _ _ _ _ _ wq.drew
    go_wp2_with (go_at_call 251; refine (add_at wq.drew sb n0 _ ((l.drop fr).take s) _ s hpl.symm hsq hrq hA2 (by omega)).mono ?_; rintro e w2 ⟨rfl, hs2, hk2⟩)
    all_goals go_ret
    all_goals exact .inr ⟨hle, rfl, hs2, ((hkq.mono (fun _ hf _ => hf.elim)).drew).trans hk2 (fun _ h _ => h)⟩

end Go.Proofs.YtifobiajjhknbaaGreatDoor.V

namespace Go.Proofs.YtifobiajjhknbaaGreatDoor.V
open Go.RowKit

/-- A Reel at block br that has the bytes l and the place p; all its blocks are of O. -/
def ReelAt (w : World) (br : Nat) (O : Nat → Prop) (l : List UInt8) (p : Nat) : Prop :=
  O br ∧ p ≤ l.length ∧ ∃ A c, Blk w br 306 #[.slice A l.length c, .int .i64 p] ∧ Rd w A l ∧ l.length ≤ c ∧ c ≤ maxLen ∧ ∀ ad, A = some ad → O ad.block ∧ ad.block < w.heap.size

theorem ReelAt.keep {w w' : World} {br p : Nat} {O O' : Nat → Prop} {l : List UInt8} (h : ReelAt w br O l p) (hk : Keep O' w w') (hn : ∀ k, O k → ¬ O' k) : ReelAt w' br O l p := by
  obtain ⟨h1, h2, A, c, hb, hr, hc, hm, hA⟩ := h
  exact ⟨h1, h2, A, c, hb.keep hk (hn _ h1), hr.keep hk (fun ad e _ => hn _ (hA ad e).1), hc, hm, fun ad e => ⟨(hA ad e).1, Nat.lt_of_lt_of_le (hA ad e).2 hk.size⟩⟩
theorem ReelAt.mono {w : World} {br p : Nat} {O O' : Nat → Prop} {l : List UInt8} (h : ReelAt w br O l p) (hO : ∀ k, O k → k < w.heap.size → O' k) : ReelAt w br O' l p := by
  obtain ⟨h1, h2, A, c, hb, hr, hc, hm, hA⟩ := h
  exact ⟨hO _ h1 hb.lt, h2, A, c, hb, hr, hc, hm, fun ad e => ⟨hO _ (hA ad e).1 (hA ad e).2, (hA ad e).2⟩⟩

/-- What next hands back. -/
def NxR (r : Nat × Nat × Nat) : Ending := .returned (.tuple #[.int .u64 r.1, .int .i64 r.2.1, .int .i64 r.2.2])

theorem drop_cons {l : List UInt8} {p : Nat} (h : p < l.length) : l.drop p = l[p] :: l.drop (p + 1) := List.drop_eq_getElem_cons h

set_option maxRecDepth 100000 in
set_option maxHeartbeats 1000000 in
theorem next_any (w : World) (br : Nat) (O : Nat → Prop) (l : List UInt8) (p : Nat) (h : ReelAt w br O l p) (hlen : l.length ≤ 140737488355328) :
    Calls Tryz.prog 238 #[.pointer (some ⟨br, 0, none⟩)] w fun e w' => e = NxR (nx (l.drop p)) ∧ Keep NoB w w' := by
  obtain ⟨_, hp, A, c, hb, hr, hc, hm, hA⟩ := h
  unfold maxLen at hm
  have hlt := hb.lt
  have q0 := hb.cell 0
  have q1 := hb.cell 1
  simp at q0 q1
  have hA1 : ∀ ad, A = some ad → ad.block ≠ w.heap.size := fun ad e => by have := (hA ad e).2; omega
  have hA2 : ∀ ad, A = some ad → ad.block ≠ w.heap.size + 1 := fun ad e => by have := (hA ad e).2; omega
  have hk0 : Keep NoB w ((w.alloc (.cells #[.int .u64 0] 344)).alloc (.cells #[.int .u64 0] 344)) := ((Keep.refl NoB w).alloc _).alloc _
  have hb0 := hb.keep hk0 id
  have hr0 := hr.keep hk0 (fun _ _ _ => id)
  have hs0 := (Blk.new w 344 #[.int .u64 0]).alloc (.cells #[.int .u64 0] 344)
  have hs1 := Blk.new (w.alloc (.cells #[.int .u64 0] 344)) 344 #[.int .u64 0]
  rw [World.size_alloc] at hs1
  go_enter Tryz.func238, Tryz.ntmps238
  go_wp2_with fail
  refine (look_add _ br w.heap.size 0 p p 1 A l c hb0 hr0 hc hA1 hs0 hlen hm hp (by omega) (by omega)).mono ?_
  rintro e w1 (⟨hsh, rfl, hk1⟩ | ⟨hle, rfl, hsum1, hk1⟩)
  · have hd : l.drop p = [] := List.drop_eq_nil_of_le (by omega)
    go_wp2
    go_ret3
    exact ⟨by rw [hd]; rfl, hk0.trans hk1 (fun _ hf _ => hf.elim)⟩
  · have hpl : p < l.length := by omega
    obtain ⟨b, hbd⟩ : ∃ b, b = l[p] := ⟨_, rfl⟩
    have hdc := drop_cons hpl
    rw [← hbd] at hdc
    have hb256 := b.toNat_lt
    have hsb : Blk w1 w.heap.size 344 #[.int .u64 (b.toNat : Nat)] := by
      have e : acc 0 (List.take (Int.toNat 1) (l.drop p)) = b.toNat := by rw [hdc]; simp [acc]
      rw [e] at hsum1; exact hsum1
    have hne : ¬ br = w.heap.size := by omega
    have hb1 := hb0.keep hk1 hne
    have hr1 := hr0.keep hk1 (fun ad e _ => hA1 ad e)
    have hs2 := hs1.keep hk1 (by omega)
    have hk01 := hk0.trans hk1 (fun k e hk => by omega)
    obtain ⟨m, hm'⟩ : ∃ m, w.heap.size = m := ⟨_, rfl⟩
    rw [hm'] at hsb hs2 hA2 ⊢
    have hmw : w.heap.size ≤ m := by omega
    clear hsum1 hk1 hb0 hr0 hs0 hs1 hk0 hA1 hb hr hA q0 q1 hbd hm'
    have q0 := hb1.cell 0
    have q1 := hb1.cell 1
    have q2 := hsb.cell 0
    simp at q0 q1 q2
    go_wp2_with fail
    refine (told_any b.toNat _ (by omega)).mono ?_
    rintro e w2 ⟨rfl, rfl⟩
    obtain ⟨t1, t9, _⟩ := td_rng b.toNat (by omega)
    go_wp2_with fail
    refine (look_add _ br (m + 1) 0 p p (td b.toNat) A l c hb1 hr1 hc hA2 hs2 hlen hm hp (by omega) (by omega)).mono ?_
    rintro e w2 (⟨hsh, rfl, hk2⟩ | ⟨hle2, rfl, hsum2, hk2⟩)
    · go_wp2
      go_ret3
      refine ⟨?_, (hk01.trans hk2 (fun _ hf _ => hf.elim))⟩
      have hx : nx (l.drop p) = (0, 0, 10) := by
        rw [hdc, nx_cons, if_pos (by rw [List.length_drop]; omega)]
      rw [hx]; rfl
    · have q3 := hsum2.cell 0
      simp at q3
      have hkk := hk01.trans hk2 (O := NoB) (fun k e hk => by omega)
      go_wp2_with fail
      have hmk := mk_lt (td b.toNat)
      have hq := fun (n : Nat) => Calls.quiet_of_same ((mark_any (td b.toNat) (w2.drewN n) t1 t9).mono fun e w' h => (⟨h.1, h.2.symm⟩ : e = .returned (.int .u8 (mk (td b.toNat))) ∧ w' = w2.drewN n))
      obtain ⟨t, ht⟩ : ∃ t, td b.toNat = t := ⟨_, rfl⟩
      rw [ht] at t1 t9 hmk hq hsum2 q3 hle2 ⊢
      have HT := Lib.hid ht
      clear ht
      have htl : t ≤ (l.drop (p + 1)).length + 1 := by rw [List.length_drop]; omega
      have HF := Lib.hid (nx_form b (l.drop (p + 1)) t HT.out htl)
      have e1 : IntKind.i64.wrap ((t : Int) - 1) = (t : Int) - 1 := IntWalk.i64_in _ (by omega)
      have e2 : IntKind.i64.wrap (8 * ((t : Int) - 1)) = 8 * ((t : Int) - 1) := IntWalk.i64_in _ (by omega)
      have e3 : (0 : Int) ≤ 8 * ((t : Int) - 1) := by omega
      have e4 : (8 * ((t : Int) - 1)).toNat = 8 * (t - 1) := by omega
      have e5 : IntKind.u64.wrap ((mk t : Nat) : Int) = ((mk t : Nat) : Int) := by rw [IntKind.wrap_u64]; omega
      go_quiet ((go_at_call 237; exact hq _))
      clear e1 e2 e3 e4 e5 hq
      rw [HF.out]
      generalize hD : dc t ((b :: l.drop (p + 1)).take t) = D at *
      have HD := Lib.hid hD
      clear hD
      have hnx : Hid (nx (l.drop p) = if wd D < t then (0, 0, 11) else (D, t, 0)) := by
        show nx (l.drop p) = _
        rw [hdc, nx_cons, HT.out, HD.out, if_neg (by omega)]
      go_wp2_with fail
      refine (width_any D _).mono ?_
      rintro e w3 ⟨rfl, rfl⟩
      by_cases hwd : wd D < t
      · go_wp2
        go_ret3
        exact ⟨by rw [hnx.out, if_pos hwd]; rfl, hkk.drewN _⟩
      · go_wp2
        go_ret3
        exact ⟨by rw [hnx.out, if_neg hwd]; rfl, hkk.drewN _⟩

end Go.Proofs.YtifobiajjhknbaaGreatDoor.V

namespace Go.Proofs.YtifobiajjhknbaaGreatDoor.V
open Go.RowKit

/-- The number that comes next, if it is at most so great. -/
def bnd (r : Nat × Nat × Nat) (most : Nat) : Nat × Nat × Nat := if r.2.2 ≠ 0 then (0, 0, r.2.2) else if most < r.1 then (0, 0, 12) else r

theorem nx_width (l : List UInt8) : (nx l).2.1 ≤ l.length ∧ (nx l).2.1 ≤ 9 ∧ (nx l).2.2 ≤ 11 ∧ (nx l).1 < 18446744073709551616 := by
  rcases l with _ | ⟨b, r⟩
  · simp [nx]
  · rw [nx_cons]
    have hb := b.toNat_lt
    have h9 := (td_rng b.toNat (by simpa using hb))
    split
    · simp
    · rename_i hl
      split
      · simp
      · obtain ⟨k, hk⟩ : ∃ k, td b.toNat = k + 1 := ⟨td b.toNat - 1, by omega⟩
        have h2 := (vl_split b (r.take k) (td b.toNat) rfl (by simp; omega)).2.1
        rw [hk] at h2 hl h9 ⊢
        rw [List.take_succ_cons]
        simp only [List.length_cons]
        exact ⟨by omega, by omega, by omega, h2⟩
theorem bnd_width (l : List UInt8) (most : Nat) : (bnd (nx l) most).2.1 ≤ l.length ∧ (bnd (nx l) most).2.1 ≤ 9 ∧ (bnd (nx l) most).1 < 18446744073709551616 ∧ (bnd (nx l) most).2.2 ≤ 12 := by
  have h := nx_width l
  unfold bnd
  split
  · simp; omega
  · split
    · simp
    · omega

set_option maxRecDepth 100000 in
set_option maxHeartbeats 1000000 in
theorem bounded_any (w : World) (br : Nat) (O : Nat → Prop) (l : List UInt8) (p most : Nat) (h : ReelAt w br O l p) (hlen : l.length ≤ 140737488355328) :
    Calls Tryz.prog 223 #[.pointer (some ⟨br, 0, none⟩), .int .u64 most] w fun e w' => e = NxR (bnd (nx (l.drop p)) most) ∧ Keep NoB w w' := by
  have hx := nx_width (l.drop p)
  go_enter Tryz.func223, Tryz.ntmps223
  go_wp2_with fail
  refine (next_any w br O l p h hlen).mono ?_
  rintro e w1 ⟨he, hk1⟩
  obtain ⟨⟨n, d, r⟩, hn⟩ : ∃ t, nx (l.drop p) = t := ⟨_, rfl⟩
  rw [hn] at he hx
  have HN := Lib.hid hn
  clear hn
  unfold NxR at he
  subst he
  by_cases hr : r = 0
  · have hr1 : ((r : Int) != 0) = false := by rw [bne_eq_false_iff_eq]; omega
    by_cases hm : most < n
    · go_wp2
      go_ret3
      exact ⟨by rw [HN.out]; unfold bnd NxR; simp [hr, hm], hk1⟩
    · go_wp2
      go_ret3
      exact ⟨by rw [HN.out]; unfold bnd NxR; simp [hr, hm], hk1⟩
  · have hr1 : ((r : Int) != 0) = true := by rw [bne_iff_ne]; omega
    go_wp2
    go_ret3
    exact ⟨by rw [HN.out]; unfold bnd NxR; simp [hr], hk1⟩

end Go.Proofs.YtifobiajjhknbaaGreatDoor.V

namespace Go.Proofs.YtifobiajjhknbaaGreatDoor.V
open Go.RowKit

/-- The Reel stands at another place; nothing else has turned. -/
theorem ReelAt.moved {w w1 : World} {br p : Nat} {O : Nat → Prop} {l : List UInt8} {q : Nat} {Q : Int} (h : ReelAt w br O l p) (hk : Keep NoB w w1) (hq : q ≤ l.length) (hQ : Q = q) :
    ReelAt (w1.setCell ⟨br, 1, none⟩ (.int .i64 Q)) br O l q ∧ Keep (fun k => k = br) w (w1.setCell ⟨br, 1, none⟩ (.int .i64 Q)) := by
  subst hQ
  obtain ⟨h1, h2, A, c, hb, hr, hc, hm, hA⟩ := h
  have hb1 := hb.keep hk id
  have hk2 : Keep (fun k => k = br) w (w1.setCell ⟨br, 1, none⟩ (.int .i64 q)) := (hk.mono (O' := fun k => k = br) (fun _ hf _ => hf.elim)).setCell (p := ⟨br, 1, none⟩) (fun _ => rfl) _
  refine ⟨⟨h1, hq, A, c, hb1.put 1 _, ?_, hc, hm, fun ad e => ⟨(hA ad e).1, Nat.lt_of_lt_of_le (hA ad e).2 hk2.size⟩⟩, hk2⟩
  intro h0
  obtain ⟨ad, e, hcell⟩ := hr h0
  refine ⟨ad, e, fun j u hu => ?_⟩
  have hcu := hk.cell (hcell j u hu) id
  have hne : (⟨br, 1, none⟩ : Addr) ≠ ad.add j := by
    intro e'
    rw [← e'] at hcu
    have hb2 := hb1.cell 1
    rw [hb2] at hcu
    simp at hcu
    subst hcu
    have := (List.getElem?_eq_some_iff.1 hu)
    obtain ⟨hj, hju⟩ := this
    simp at hju
  exact (World.cell?_setCell_other _ _ _ _ hne).trans hcu

/-- What Number answers, and the place behind it. -/
def NumR (l : List UInt8) (p most : Nat) : Nat × Nat × Nat := ((bnd (nx (l.drop p)) most).1, (bnd (nx (l.drop p)) most).2.2, p + (bnd (nx (l.drop p)) most).2.1)

/-- A reading method's end. -/
def Reads (w : World) (br : Nat) (O : Nat → Prop) (l : List UInt8) (q : Nat) (v : Value) (er : Nat) (e : Ending) (w' : World) : Prop :=
  e = .returned (.tuple #[v, .int .i64 er]) ∧ ReelAt w' br O l q ∧ Keep (fun k => k = br) w w'

theorem bnd_zero (l : List UInt8) (most : Nat) (h : (bnd (nx l) most).2.2 ≠ 0) : (bnd (nx l) most).1 = 0 ∧ (bnd (nx l) most).2.1 = 0 := by
  unfold bnd at h ⊢
  split
  · exact ⟨rfl, rfl⟩
  · rename_i h1
    split
    · exact ⟨rfl, rfl⟩
    · rename_i h2
      rw [if_neg h1, if_neg h2] at h
      exact absurd h h1

theorem ReelAt.cells {w : World} {br p : Nat} {O : Nat → Prop} {l : List UInt8} (h : ReelAt w br O l p) : ∃ A c, Blk w br 306 #[.slice A l.length c, .int .i64 p] ∧ Rd w A l ∧ l.length ≤ c ∧ c ≤ maxLen ∧ ∀ ad, A = some ad → O ad.block ∧ ad.block < w.heap.size := h.2.2

set_option maxRecDepth 100000 in
set_option maxHeartbeats 1000000 in
theorem rnumber_any (w : World) (br : Nat) (O : Nat → Prop) (l : List UInt8) (p most : Nat) (h : ReelAt w br O l p) (hlen : l.length ≤ 140737488355328) :
    Calls Tryz.prog 174 #[.pointer (some ⟨br, 0, none⟩), .int .u64 most] w (Reads w br O l (NumR l p most).2.2 (.int .u64 (NumR l p most).1) (NumR l p most).2.1) := by
  have hx := bnd_width (l.drop p) most
  have hz := bnd_zero (l.drop p) most
  have hp := h.2.1
  rw [List.length_drop] at hx
  have hbd := bounded_any w br O l p most h hlen
  unfold NumR
  obtain ⟨⟨n, d, r⟩, hn⟩ : ∃ t, bnd (nx (l.drop p)) most = t := ⟨_, rfl⟩
  rw [hn] at hx hz hbd ⊢
  clear hn
  dsimp only at hx hz ⊢
  unfold NxR at hbd
  dsimp only at hbd
  have HB := Lib.hid hbd
  clear hbd
  by_cases hr : r = 0
  · subst hr
    clear hz
    go_enter Tryz.func174, Tryz.ntmps174
    go_wp2_with fail
    refine HB.out.mono ?_
    rintro e w1 ⟨rfl, hk1⟩
    have h1 := h.keep hk1 (fun _ _ => id)
    obtain ⟨A, c, hb1, _⟩ := h1.cells
    have q1 := hb1.cell 1
    have f1 := hb1.frozen 1
    simp at q1
    go_wp2
    go_ret2
    exact ⟨rfl, h.moved hk1 (by omega) (by omega)⟩
  · have hr1 : ((r : Int) != 0) = true := by rw [bne_iff_ne]; omega
    obtain ⟨rfl, rfl⟩ := hz hr
    clear hz
    go_enter Tryz.func174, Tryz.ntmps174
    go_wp2_with fail
    refine HB.out.mono ?_
    rintro e w1 ⟨rfl, hk1⟩
    go_wp2
    go_ret2
    exact ⟨rfl, h.keep hk1 (fun _ _ => id), hk1.mono (fun _ hf _ => hf.elim)⟩

/-- What Signed answers, and the place behind it. -/
def SigR (l : List UInt8) (p : Nat) (lo hi : Int) : Int × Nat × Nat :=
  if (nx (l.drop p)).2.2 ≠ 0 then (0, (nx (l.drop p)).2.2, p) else if zag (nx (l.drop p)).1 < lo ∨ hi < zag (nx (l.drop p)).1 then (0, 12, p) else (zag (nx (l.drop p)).1, 0, p + (nx (l.drop p)).2.1)

set_option maxRecDepth 100000 in
set_option maxHeartbeats 1000000 in
theorem rsigned_any (w : World) (br : Nat) (O : Nat → Prop) (l : List UInt8) (p : Nat) (lo hi : Int) (h : ReelAt w br O l p) (hlen : l.length ≤ 140737488355328) :
    Calls Tryz.prog 243 #[.pointer (some ⟨br, 0, none⟩), .int .i64 lo, .int .i64 hi] w (Reads w br O l (SigR l p lo hi).2.2 (.int .i64 (SigR l p lo hi).1) (SigR l p lo hi).2.1) := by
  have hx := nx_width (l.drop p)
  have hp := h.2.1
  rw [List.length_drop] at hx
  have hnx := next_any w br O l p h hlen
  unfold SigR
  obtain ⟨⟨n, d, r⟩, hn⟩ : ∃ t, nx (l.drop p) = t := ⟨_, rfl⟩
  rw [hn] at hx hnx ⊢
  clear hn
  dsimp only at hx ⊢
  unfold NxR at hnx
  dsimp only at hnx
  have HB := Lib.hid hnx
  clear hnx
  by_cases hr : r = 0
  · subst hr
    obtain ⟨hx1, hx2, _, hn64⟩ := hx
    have hz1 := zag_ge n hn64
    have hz2 := zag_le n hn64
    have HZ := Lib.hid (fun w => zag_any n w hn64)
    clear hn64
    rw [if_neg (by simp)]
    by_cases hlo : zag n < lo
    · rw [if_pos (.inl hlo)]
      go_enter Tryz.func243, Tryz.ntmps243
      go_wp2_with fail
      refine HB.out.mono ?_
      rintro e w1 ⟨rfl, hk1⟩
      go_wp2_with fail
      refine (HZ.out _).mono ?_
      rintro e w2 ⟨rfl, rfl⟩
      go_wp2
      go_ret2
      exact ⟨rfl, h.keep hk1 (fun _ _ => id), hk1.mono (fun _ hf _ => hf.elim)⟩
    · by_cases hhi : hi < zag n
      · rw [if_pos (.inr hhi)]
        go_enter Tryz.func243, Tryz.ntmps243
        go_wp2_with fail
        refine HB.out.mono ?_
        rintro e w1 ⟨rfl, hk1⟩
        go_wp2_with fail
        refine (HZ.out _).mono ?_
        rintro e w2 ⟨rfl, rfl⟩
        go_wp2
        go_ret2
        exact ⟨rfl, h.keep hk1 (fun _ _ => id), hk1.mono (fun _ hf _ => hf.elim)⟩
      · rw [if_neg (by omega)]
        go_enter Tryz.func243, Tryz.ntmps243
        go_wp2_with fail
        refine HB.out.mono ?_
        rintro e w1 ⟨rfl, hk1⟩
        have h1 := h.keep hk1 (fun _ _ => id)
        obtain ⟨A, c, hb1, _⟩ := h1.cells
        have q1 := hb1.cell 1
        have f1 := hb1.frozen 1
        simp at q1
        go_wp2_with fail
        refine (HZ.out _).mono ?_
        rintro e w2 ⟨rfl, rfl⟩
        go_wp2
        go_ret2
        exact ⟨rfl, h.moved hk1 (by omega) (by omega)⟩
  · have hr1 : ((r : Int) != 0) = true := by rw [bne_iff_ne]; omega
    rw [if_pos hr]
    go_enter Tryz.func243, Tryz.ntmps243
    go_wp2_with fail
    refine HB.out.mono ?_
    rintro e w1 ⟨rfl, hk1⟩
    go_wp2
    go_ret2
    exact ⟨rfl, h.keep hk1 (fun _ _ => id), hk1.mono (fun _ hf _ => hf.elim)⟩

end Go.Proofs.YtifobiajjhknbaaGreatDoor.V

namespace Go.Proofs.YtifobiajjhknbaaGreatDoor.V
open Go.RowKit

/-- Bytes were taken, or there were too few of them. -/
def Taken (w : World) (br : Nat) (O : Nat → Prop) (l : List UInt8) (p fr : Nat) (S : Int) (e : Ending) (w' : World) : Prop :=
  ((l.length : Int) - fr < S ∧ e = .returned (.tuple #[.slice none 0 0, .int .i64 10]) ∧ ReelAt w' br O l p ∧ Keep NoB w w') ∨
  (S ≤ (l.length : Int) - fr ∧ ∃ A c, e = .returned (.tuple #[.slice A S.toNat c, .int .i64 0]) ∧ OwnB w' (Fresh w) (.slice A S.toNat c) ((l.drop fr).take S.toNat) ∧ ReelAt w' br O l (fr + S.toNat) ∧ Keep (fun k => k = br) w w')

theorem Taken.from {w w1 w' : World} {br : Nat} {O : Nat → Prop} {l : List UInt8} {p fr : Nat} {S : Int} {e : Ending} (hk : Keep NoB w w1) (h : Taken w1 br O l p fr S e w') : Taken w br O l p fr S e w' := by
  rcases h with ⟨h1, h2, h3, h4⟩ | ⟨h1, A, c, h2, h3, h4, h5⟩
  · exact .inl ⟨h1, h2, h3, keepN hk h4⟩
  · exact .inr ⟨h1, A, c, h2, h3.mono (fun k hk' _ => Nat.le_trans hk.size hk'), h4, hk.mono (O' := fun k => k = br) (fun _ hf _ => hf.elim) |>.trans h5 (fun k e _ => e)⟩

end Go.Proofs.YtifobiajjhknbaaGreatDoor.V

namespace Go.Proofs.YtifobiajjhknbaaGreatDoor.V
open Go.RowKit

end Go.Proofs.YtifobiajjhknbaaGreatDoor.V

namespace Go.Proofs.YtifobiajjhknbaaGreatDoor.V
open Go.RowKit

end Go.Proofs.YtifobiajjhknbaaGreatDoor.V

namespace Go.Proofs.YtifobiajjhknbaaGreatDoor.V
open Go.RowKit

end Go.Proofs.YtifobiajjhknbaaGreatDoor.V

namespace Go.Proofs.YtifobiajjhknbaaGreatDoor.S
open Go.RowKit

theorem own_rdI {w : World} {O : Nat → Prop} {v : Value} {n : Nat} {xs : List Value} (h : Own w 3 1 O v n xs) : ∃ A c, v = .slice A n c ∧ Rd w A xs := by
  obtain ⟨A, c, e, _, _, hr, _⟩ := h.form
  exact ⟨A, c, e, hr⟩

end Go.Proofs.YtifobiajjhknbaaGreatDoor.S

namespace Go.Proofs.YtifobiajjhknbaaGreatDoor.S
open Go.RowKit W

/-- A type that cells and results may have. -/
def heldB (t : Int) : Bool := decide (1 ≤ t ∧ t ≤ 3)
theorem held_iff (t : Int) : heldB t = true ↔ 1 ≤ t ∧ t ≤ 3 := by simp [heldB]
theorem held_not (t : Int) : heldB t = false ↔ ¬ (1 ≤ t ∧ t ≤ 3) := by unfold heldB; rw [decide_eq_false_iff_not]
theorem held_known {t : Int} (h : heldB t = true) : knownB t = true := by rw [held_iff] at h; rw [known_iff]; omega
theorem all_known {l : List Int} (h : l.all heldB = true) : l.all knownB = true := by
  rw [List.all_eq_true] at h ⊢
  exact fun x hx => held_known (h x hx)
/-- A shape that may be; a signature that may be. -/
def okS (l : List Int) : Bool := decide (1 ≤ l.length ∧ l.length ≤ 16) && l.all heldB
def okG (a r : List Int) : Bool := decide (a.length + r.length ≤ 64) && (a.all knownB && r.all heldB)
def chkS (l : List Int) : Int := if okS l = true then 0 else 60
def chkG (a r : List Int) : Int := if okG a r = true then 0 else 61
theorem okS_iff (l : List Int) : okS l = true ↔ (1 ≤ l.length ∧ l.length ≤ 16) ∧ l.all heldB = true := by unfold okS; rw [Bool.and_eq_true, decide_eq_true_iff]
theorem okG_iff (a r : List Int) : okG a r = true ↔ a.length + r.length ≤ 64 ∧ a.all knownB = true ∧ r.all heldB = true := by unfold okG; rw [Bool.and_eq_true, Bool.and_eq_true, decide_eq_true_iff]
theorem chkS_ok {l : List Int} (h : okS l = true) : chkS l = 0 := if_pos h
theorem chkS_no {l : List Int} (h : okS l = false) : chkS l = 60 := if_neg (by rw [h]; decide)
theorem chkG_ok {a r : List Int} (h : okG a r = true) : chkG a r = 0 := if_pos h
theorem chkG_no {a r : List Int} (h : okG a r = false) : chkG a r = 61 := if_neg (by rw [h]; decide)
/-- How many bytes so many types are laid into. -/
def sz (n : Nat) : Nat := (n + 3) / 4
/-- The two bits that stand at a place of bytes; the types that so many places are. -/
def pc (b : List UInt8) (i : Nat) : Nat := ((b[i / 4]?.map UInt8.toNat).getD 0) / 4 ^ (i % 4) % 4
def unp (b : List UInt8) (n : Nat) : List Int := (List.range n).map fun i => (pc b i : Int) + 1
/-- Nothing stands behind so many. -/
def clean (b : List UInt8) (n : Nat) : Bool := (List.range (4 * b.length)).all fun i => decide (i < n ∨ pc b i = 0)
/-- The types that stand at a place, at most so many, and the place behind them. -/
def rdT (l : List UInt8) (p most : Nat) : Option (List Int × Nat) :=
  if (V.NumR l p most).2.1 ≠ 0 then none
  else if l.length < (V.NumR l p most).2.2 + sz (V.NumR l p most).1 then none
  else if clean ((l.drop (V.NumR l p most).2.2).take (sz (V.NumR l p most).1)) (V.NumR l p most).1 = true then
    some (unp ((l.drop (V.NumR l p most).2.2).take (sz (V.NumR l p most).1)) (V.NumR l p most).1, (V.NumR l p most).2.2 + sz (V.NumR l p most).1)
  else none
def decG (l : List UInt8) (p : Nat) : Option ((List Int × List Int) × Nat) := match rdT l p 64 with
  | none => none
  | some x => match rdT l x.2 64 with
    | none => none
    | some y => if okG x.1 y.1 = true then some ((x.1, y.1), y.2) else none
/-- The text of a shape; of a signature; what is ahead of a text's first arrow, and behind it. -/
def shS (l : List Int) : List UInt8 := if okS l = true then txt l else []
def shG (a r : List Int) : List UInt8 := if okG a r = true then txt a ++ 62 :: txt r else []
def arr (s : List UInt8) : Nat := s.findIdx fun c => c == 62
def rdS (s : List UInt8) : Option (List Int) := match untxt s with
  | none => none
  | some x => if okS x = true then some x else none
def rdG (s : List UInt8) : Option (List Int × List Int) := if arr s < s.length then
    (match untxt (s.take (arr s)), untxt (s.drop (arr s + 1)) with
    | some a, some r => if okG a r = true then some (a, r) else none
    | _, _ => none)
  else none
theorem okS_txt {l : List Int} (h : okS l = true) : l.length ≤ 1024 ∧ l.all knownB = true := by
  obtain ⟨h1, h2⟩ := (okS_iff l).1 h
  exact ⟨by omega, all_known h2⟩
theorem okG_txt {a r : List Int} (h : okG a r = true) : (a.length ≤ 1024 ∧ a.all knownB = true) ∧ r.length ≤ 1024 ∧ r.all knownB = true := by
  obtain ⟨h1, h2, h3⟩ := (okG_iff a r).1 h
  exact ⟨⟨by omega, h2⟩, by omega, all_known h3⟩
theorem rdS_sh {l : List Int} (h : okS l = true) : rdS (shS l) = some l := by
  obtain ⟨h1, h2⟩ := okS_txt h
  unfold rdS shS
  rw [if_pos h, untxt_txt h1 h2]
  exact if_pos h
theorem txt_no62 (l : List Int) : ∀ c ∈ txt l, c ≠ 62 := by
  intro c hc
  unfold txt at hc
  split at hc
  · obtain ⟨t, _, ht⟩ := List.mem_flatMap.1 hc
    unfold letC at ht
    repeat' split at ht
    all_goals first | (rw [List.mem_singleton.1 ht]; decide) | (simp at ht)
  · simp at hc
theorem arr_mid {a b : List UInt8} (h : ∀ c ∈ a, c ≠ 62) : arr (a ++ 62 :: b) = a.length := by
  unfold arr
  rw [List.findIdx_append]
  have e : a.findIdx (fun c => c == 62) = a.length := List.findIdx_eq_length.2 fun c hc => by simpa using h c hc
  rw [e]
  simp [List.findIdx_cons]
theorem rdG_sh {a r : List Int} (h : okG a r = true) : rdG (shG a r) = some (a, r) := by
  obtain ⟨⟨h1, h2⟩, h3, h4⟩ := okG_txt h
  unfold rdG shG
  rw [if_pos h, arr_mid (txt_no62 a), if_pos (by simp)]
  rw [List.take_left' rfl, show (txt a ++ 62 :: txt r).drop ((txt a).length + 1) = txt r by rw [← List.drop_drop, List.drop_left' rfl]; rfl, untxt_txt h1 h2, untxt_txt h3 h4]
  exact if_pos h
end Go.Proofs.YtifobiajjhknbaaGreatDoor.S
