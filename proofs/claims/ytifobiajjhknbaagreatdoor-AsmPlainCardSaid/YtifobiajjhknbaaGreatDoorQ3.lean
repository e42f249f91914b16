/-
  What the functions in an operand's fields tell: an operand's text. Conditions: the listed package-level variables hold what their initialisers lay.
  What the rows of opcode share: the condition on the listed package-level variables, opened; an instruction as an argument. No conditions.
  Words for memory that the walks of vary share: what a step keeps (Keep), a slice of bytes that reads as a list (Rd), one that the call owns (OwnB), and append of the one onto the other. No conditions.
  The Tape: write, Number, Signed, Bytes, All, over a Tape in memory that holds the bytes l; and slices.Clone, Twin. Conditions: no more than 2^47 bytes in all.
  Tape.Number, Signed, Bytes over a Tape in memory; the law's own number: a number's bytes as a string. Conditions: no more than 2^47 bytes in all.
  Plain mathematics of a number's bytes: big-endian digits, their order, what a first byte tells. No program's run is named here. No conditions.
  The keepers of a Reel's look: sum.add gathers bytes as one number, taken.set keeps a copy; told tells a width. Conditions: no more than 2^47 bytes.
  Plain mathematics of reading: what bytes say as a number, and when they are a number's bytes. No program's run is named here. No conditions.
  An instruction's bytes, and its text, tell it: plain mathematics. No program, no conditions.
  What rowOf and has answer. Conditions: none but that a kind's operand is one.
-/
import Derived.BigQuiet
import Derived.Deep.AppendLies
import Derived.Deep.Draws
import Derived.Deep.QuietTactic
import Derived.Deep.RegionHeld3
import Derived.Deep.RegionLaw
import Derived.LaidLaws
import Derived.LaidMore
import Derived.Lib.Hide
import Derived.Lib.LaidTab
import Derived.Lib.SmallJoins
import Derived.Lib.Strings
import Derived.Maps.AppendAt
import Derived.OpenShut
import Derived.ProofKit
import Derived.SizedLaws
import Derived.StillTailTactics
import Derived.Stop.LaidErr
import Derived.Test.YtifobiajjhknbaaGreatDoorQ2
import Derived.Test.YtifobiajjhknbaaGreatDoorRows
import Derived.Test.YtifobiajjhknbaaGreatDoorQ1
namespace Go.Proofs.YtifobiajjhknbaaGreatDoor.O
open Go.RowKit

/-- What the texts of operands are made with stands. -/
structure LaidO (w : World) : Prop where
  lets : W.LetAt w
  names : A.NamesAt w
  lib : W.Laid w
theorem LaidO.keep {w w' : World} (h : LaidO w) (hk : Keep NoB w w') : LaidO w' := ⟨h.lets.keep hk, A.NamesAt.keep _ _ h.names hk, h.lib.keep hk⟩
def I64 (n : Int) : Prop := -9223372036854775808 ≤ n ∧ n ≤ 9223372036854775807

theorem word_dig {k n : Int} (h : digK k = true) : word k n = Lib.itoa n := by
  have h := of_decide_eq_true h
  unfold word
  rw [if_neg (by omega), if_neg (by omega), if_neg (by omega)]
theorem dig_0 {k : Int} (h : digK k = true) : k ≠ 0 := by have h := of_decide_eq_true h; omega
theorem word_0 {k : Int} (h : wordK k = true) : k ≠ 0 := by have h := of_decide_eq_true h; omega

theorem nameAt_len {l : List (List UInt8)} {m : Nat} (h : l.all (fun s => decide (s.length ≤ m)) = true) (n : Int) : (A.nameAt l n).length ≤ m := by
  unfold A.nameAt
  split
  · rcases Nat.lt_or_ge n.toNat l.length with hlt | hge
    · rw [A.getD_at hlt]
      exact of_decide_eq_true (List.all_eq_true.1 h _ (List.getElem_mem hlt))
    · rw [A.getD_past hge]; exact Nat.zero_le _
  · exact Nat.zero_le _
theorem word_len (k n : Int) (hn : I64 n) : (word k n).length ≤ 21 := by
  unfold word
  split
  · unfold W.letC
    repeat' split
    all_goals simp
  · split
    · exact Nat.le_trans (nameAt_len (m := 6) (by decide) n) (by omega)
    · split
      · exact Nat.le_trans (nameAt_len (m := 6) (by decide) n) (by omega)
      · exact Lib.itoa_length_le n hn.1 hn.2

set_option maxHeartbeats 1000000 in
theorem show_dig (k n : Int) (w : World) (hk : digK k = true) (hn : I64 n) (h : LaidO w) :
    Calls Tryz.prog 205 #[.int .i64 n] w fun e w' => ∃ d, e = .returned (.string d) ∧ Hid (d = str (word k n)) ∧ Keep NoB w w' := by
  have HW := Lib.hid (word_dig (n := n) hk)
  have HF := Lib.hid (W.format_any n w hn.1 hn.2 h.lib)
  clear h hk hn
  go_enter Tryz.func205, Tryz.ntmps205
  go_wp2_with fail
  refine HF.out.mono ?_
  rintro e w1 ⟨d, rfl, _, hd, k1⟩
  go_wp2
  go_ret
  exact ⟨d, rfl, by show _ = _; rw [hd.out, HW.out], k1⟩

set_option maxHeartbeats 1000000 in
theorem show_word (k n : Int) (b : Nat) (w : World) (hk : wordK k = true) (hn : I64 n) (h : LaidO w) (hb : w.cell? ⟨b, 0, none⟩ = some (fnV (wordF k))) :
    Calls Tryz.prog 209 #[.int .i64 n, .pointer (some ⟨b, 0, none⟩)] w fun e w' => ∃ d, e = .returned (.string d) ∧ Hid (d = str (word k n)) ∧ Keep NoB w w' := by
  have hk := of_decide_eq_true hk
  have hc : k = 8 ∨ k = 9 ∨ (k = 2 ∨ k = 3) := by omega
  clear hk
  rcases hc with rfl | rfl | hk
  · have HF := Lib.hid (A.binName_any n w h.names hn)
    have hb' : w.cell? ⟨b, 0, none⟩ = some (fnV 155) := hb
    clear h hn hb
    go_enter Tryz.func209, Tryz.ntmps209
    go_wp2_with fail
    refine HF.out.mono ?_
    rintro e w1 ⟨rfl, rfl⟩
    go_wp2
    go_ret
    exact ⟨_, rfl, rfl, Keep.refl _ _⟩
  · have HF := Lib.hid (A.unName_any n w h.names hn)
    have hb' : w.cell? ⟨b, 0, none⟩ = some (fnV 157) := hb
    clear h hn hb
    go_enter Tryz.func209, Tryz.ntmps209
    go_wp2_with fail
    refine HF.out.mono ?_
    rintro e w1 ⟨rfl, rfl⟩
    go_wp2
    go_ret
    exact ⟨_, rfl, rfl, Keep.refl _ _⟩
  · have HF := Lib.hid (W.letter_any n w h.lets)
    have hb' : w.cell? ⟨b, 0, none⟩ = some (fnV 153) := by rw [hb]; unfold wordF; rw [if_neg (by omega), if_neg (by omega)]
    have HW : Hid (word k n = W.letC n) := by show _ = _; unfold word; rw [if_pos (by omega)]
    clear h hn hb hk
    go_enter Tryz.func209, Tryz.ntmps209
    go_wp2_with fail
    refine HF.out.mono ?_
    rintro e w1 ⟨rfl, rfl⟩
    go_wp2
    go_ret
    exact ⟨_, rfl, by show _ = _; rw [HW.out], Keep.refl _ _⟩

end Go.Proofs.YtifobiajjhknbaaGreatDoor.O

namespace Go.Proofs.YtifobiajjhknbaaGreatDoor.O
open Go.ChangeShapes Go.WideShapes Go.ChangeAt Go.RowKit

theorem seatOwn : ownKnob Tryz.prog.godebug = none := by kernel_rfl
theorem seatLaidOut : laidOutB Tryz.prog = true := by kernel_rfl
theorem tLet : (Tryz.prog.globals[0]?).map (·.type) = some 120 := by kernel_rfl
theorem tPow : (Tryz.prog.globals[4]?).map (·.type) = some 280 := by kernel_rfl
theorem tSyn : (Tryz.prog.globals[9]?).map (·.type) = some 55 := by kernel_rfl
theorem tRng : (Tryz.prog.globals[10]?).map (·.type) = some 55 := by kernel_rfl
theorem tBin : (Tryz.prog.globals[5]?).map (·.type) = some 287 := by kernel_rfl
theorem tUn : (Tryz.prog.globals[6]?).map (·.type) = some 289 := by kernel_rfl
theorem errStar : "*" ++ "errors.errorString" = "*errors.errorString" := by decide
theorem errRow (u : TypeId) (h : Tryz.prog.typeName? 3 u = some "*errors.errorString") : u = 354 :=
  typeName_ptr_named (nm := "errors.errorString") (by rw [errStar]; kernel_rfl) (by kernel_rfl) (by decide) u (by rw [errStar]; exact h)

set_option maxRecDepth 100000 in
theorem laidO_of {W0 : World} {x y : String × DataW Unit}
    (h : laidMet Tryz.prog [("backstay/alu.binNames", Rows.laid_backstay_alu_binNames), ("backstay/alu.unNames", Rows.laid_backstay_alu_unNames), x, y, ("internal/strconv.uint64pow10", Rows.laid_internal_strconv_uint64pow10), ("strconv.ErrRange", Rows.laid_strconv_ErrRange), ("strconv.ErrSyntax", Rows.laid_strconv_ErrSyntax), ("backstay/value.letters", Rows.laid_backstay_value_letters)] W0) : LaidO W0 := by
  have h4 := h.tail.tail.tail.tail
  have h5 := h4.tail
  have h6 := h5.tail
  refine ⟨Lib.tabIs_of_head (zs := [0, 73, 82, 70, 80]) (k := .i32) _root_.Go.Proofs.YtifobiajjhknbaaGreatDoor.W.gLet tLet Tryz.underlying120 Tryz.underlying21 (by kernel_rfl) (by kernel_rfl) h6.tail,
    ⟨A.strs_of_head (l := A.binNs) A.gBin tBin Tryz.underlying287 Tryz.underlying9 (by kernel_rfl) (by kernel_rfl) h,
     A.strs_of_head (l := A.unNs) A.gUn tUn Tryz.underlying289 Tryz.underlying9 (by kernel_rfl) (by kernel_rfl) h.tail⟩,
    Lib.tabIs_of_head (zs := Lib.pow10Tab) (k := .u64) _root_.Go.Proofs.YtifobiajjhknbaaGreatDoor.W.gPow tPow Tryz.underlying280 Tryz.underlying144 (by kernel_rfl) (by kernel_rfl) h4, ?_, ?_⟩
  · obtain ⟨a, s, hv, _⟩ := laid_sentinel h6 _root_.Go.Proofs.YtifobiajjhknbaaGreatDoor.W.gSyn tSyn Tryz.underlying55 errRow Tryz.underlying354 Tryz.underlying356 rfl rfl Tryz.underlying9 (by kernel_rfl) (by kernel_rfl)
    exact ⟨_, _, hv⟩
  · obtain ⟨a, s, hv, _⟩ := laid_sentinel h5 _root_.Go.Proofs.YtifobiajjhknbaaGreatDoor.W.gRng tRng Tryz.underlying55 errRow Tryz.underlying354 Tryz.underlying356 rfl rfl Tryz.underlying9 (by kernel_rfl) (by kernel_rfl)
    exact ⟨_, _, hv⟩

section
variable {H : Type} {enc : TypeId × Value → H} {w : World} {base b0 : Nat} {spare : Nat → Bool} {held : Bool} {r : Reach} {v : Value} {d : DataW H} {p : List MemPlace}
end

end Go.Proofs.YtifobiajjhknbaaGreatDoor.O

namespace Go.Proofs.YtifobiajjhknbaaGreatDoor.V
open Go.RowKit

/-- A slice's address, from which the bytes l stand. -/
def Rd (w : World) (A : Option Addr) (l : List UInt8) : Prop :=
  0 < l.length → ∃ ad, A = some ad ∧ ∀ j u, (bvs l)[j]? = some u → w.cell? (ad.add j) = some u
theorem block_add (a : Addr) (n : Nat) : (a.add n).block = a.block := by unfold Addr.add; split <;> rfl
theorem add_add (a : Addr) (i j : Nat) : (a.add i).add j = a.add (i + j) := by
  unfold Addr.add
  by_cases hi : i = 0 <;> by_cases hj : j = 0 <;> simp [hi, hj, Nat.add_assoc]
theorem Rd.none_ (w : World) (A : Option Addr) : Rd w A [] := fun h => by simp at h
theorem Rd.keep {O : Nat → Prop} {w w' : World} {A : Option Addr} {l : List UInt8} (h : Rd w A l) (hk : Keep O w w') (hA : ∀ ad, A = some ad → 0 < l.length → ¬ O ad.block) : Rd w' A l := fun h0 => by
  obtain ⟨ad, e, hc⟩ := h h0
  exact ⟨ad, e, fun j u hu => hk.cell (hc j u hu) (by rw [block_add]; exact hA ad e h0)⟩
theorem Rd.lt {w : World} {A : Option Addr} {l : List UInt8} (h : Rd w A l) {ad : Addr} (e : A = some ad) (h0 : 0 < l.length) : ad.block < w.heap.size := by
  obtain ⟨ad', e', hc⟩ := h h0
  rw [e] at e'; cases e'
  have := World.block_lt_of_cell? w _ (hc 0 (bv l[0]) (by simp [h0]))
  rwa [block_add] at this

/-- The slice v of bytes l is the call's own, in a block of O. -/
def OwnB (w : World) (O : Nat → Prop) (v : Value) (l : List UInt8) : Prop :=
  w.ownsRow 0 5 1 v l.length (bvs l) ∧ ∀ g, v.ownBlock = some g → O g
section
variable {w w' : World} {O O' : Nat → Prop} {v : Value} {l : List UInt8}
theorem OwnB.nil (w : World) (O : Nat → Prop) : OwnB w O (.slice none 0 0) [] := ⟨World.ownsRow_nil _ _ _ _, by simp [Value.ownBlock]⟩
theorem OwnB.mono (h : OwnB w O v l) (hO : ∀ k, O k → k < w.heap.size → O' k) : OwnB w O' v l := ⟨h.1, fun g e => hO g (h.2 g e) (h.1.lt g e).2⟩
theorem ownsRow_keep {base n : Nat} {xs : List Value} (h : w.ownsRow base 5 1 v n xs) (hk : Keep O w w') (hn : ∀ g, v.ownBlock = some g → ¬ O g) : w'.ownsRow base 5 1 v n xs := by
  refine ⟨h.1, ?_⟩
  rcases h.2 with h2 | ⟨g, cap, cur, rfl, hb, hh, r⟩
  · exact .inl h2
  · exact .inr ⟨g, cap, cur, rfl, hb, (hk.block g (Array.getElem?_eq_some_iff.1 hh).1 (hn g rfl)).trans hh, r⟩
theorem OwnB.keep (h : OwnB w O v l) (hk : Keep O' w w') (hn : ∀ k, O k → ¬ O' k) : OwnB w' O v l := ⟨ownsRow_keep h.1 hk (fun g e => hn g (h.2 g e)), h.2⟩
theorem OwnB.form (h : OwnB w O v l) : ∃ A c, v = .slice A l.length c ∧ l.length ≤ c ∧ Rd w A l ∧ (∀ ad, A = some ad → O ad.block ∧ ad = ⟨ad.block, 0, none⟩) ∧ c ≤ maxLen := by
  rcases h.1.2 with ⟨rfl, hn⟩ | ⟨g, cap, cur, rfl, _, hh, hc, hm, _⟩
  · have : l = [] := List.length_eq_zero_iff.1 hn
    subst this
    exact ⟨none, 0, rfl, Nat.le_refl _, Rd.none_ _ _, by simp, by simp⟩
  · refine ⟨_, cap, rfl, hc, fun _ => ⟨_, rfl, h.1.cells (g := g) rfl⟩, ?_, hm⟩
    intro ad e
    cases e
    exact ⟨h.2 g rfl, rfl⟩
theorem OwnB.not_blk {g : Nat} {t : TypeId} {cs : Array Value} (h : OwnB w O v l) (hb : Blk w g t cs) (ht : t ≠ 5) : v.ownBlock ≠ some g := by
  rcases h.1.2 with ⟨rfl, _⟩ | ⟨g', cap, cur, rfl, _, hh, _⟩
  · simp [Value.ownBlock]
  · intro e
    obtain rfl : g' = g := by simpa [Value.ownBlock] using e
    exact Blk.ne hb (t' := 5) hh ht rfl
end

theorem bvs_one (l : List UInt8) : ∀ u ∈ bvs l, u.oneCell' = true := by
  intro u hu
  obtain ⟨b, _, rfl⟩ := List.mem_map.1 hu
  rfl

/-- append of bytes that are read onto bytes that are owned. -/
theorem run_append_rd (w : World) (v : Value) (xs l : List UInt8) (A : Option Addr) (c : Nat) (ty : TypeId)
    (hown : w.ownsRow 0 5 1 v xs.length (bvs xs)) (hr : Rd w A l) (hb : xs.length + l.length ≤ 140737488355328) :
    ∃ v' w', (Builtin.append_ #[50, 50] ty #[v, .slice A l.length c]).run Tryz.prog w = .ok v' w' ∧ w'.ownsRow 0 5 1 v' (xs ++ l).length (bvs (xs ++ l)) ∧ w.grownBy w' v.ownBlock ∧
      (v'.ownBlock = v.ownBlock ∨ v'.ownBlock = some w.heap.size) ∧ (v = .slice none 0 0 → 0 < l.length → v'.ownBlock = some w.heap.size) := by
  obtain ⟨i0, hi, hz0, hz1, hz2⟩ := info_parts u8_info
  rcases A with _ | ad
  · have hl : l = [] := by
      rcases Nat.eq_zero_or_pos l.length with h0 | h0
      · exact List.length_eq_zero_iff.1 h0
      · obtain ⟨ad, e, _⟩ := hr h0; cases e
    subst hl
    refine ⟨v, w, ?_, by simpa using hown, World.grownBy.refl w _, .inl rfl, fun _ h => by simp at h⟩
    rcases hown.2 with ⟨rfl, h0⟩ | ⟨g, cap, cur, rfl, _, _, hnc, _⟩
    · simp [Builtin.append_, run_underlying Tryz.underlying50, sizeOf, typeInfo, hi, Builtin.lenOf, Builtin.firstCells]
    · simp [Builtin.append_, run_underlying Tryz.underlying50, sizeOf, typeInfo, hi, Builtin.lenOf, Builtin.firstCells, hnc, storeCells]
  · have hcells : ∀ j u, (bvs l)[j]? = some u → w.cell? (ad.add j) = some u := by
      intro j u hu
      rcases Nat.eq_zero_or_pos l.length with h0 | h0
      · have : l = [] := List.length_eq_zero_iff.1 h0
        subst this; simp at hu
      · obtain ⟨ad', e, hc⟩ := hr h0
        cases e; exact hc j u hu
    obtain ⟨v', w', hrun, h2, h3, h4, h5⟩ := run_append_own_at (P := Tryz.prog) w 0 50 ty 5 i0 (.int .u8 0) 1 1 Tryz.underlying50 hi hz0 hz1 hz2 rfl (by decide) v xs.length (bvs xs) hown ad l.length c (bvs l) (by simp) hcells (bvs_one l) (by unfold maxLen; omega) (by omega) (Nat.zero_le _)
    refine ⟨v', w', hrun, by simpa using h2, h3, h5, fun e h0 => ?_⟩
    subst e
    rcases h5 with h5 | h5
    · exfalso
      have : v' ≠ .slice none 0 0 := fun e => by have := (h4.1 e).2; omega
      rcases h2.2 with ⟨e, _⟩ | ⟨g, cap, cur, e, _⟩
      · exact this e
      · rw [e] at h5; simp [Value.ownBlock] at h5
    · exact h5

theorem wp_append_rd {o : Oper} {a : Act} {K : Act → World → Prop} {Q : Exit → Act → World → Prop} (w : World) (s x : Operand)
    (ho : o.op = .call { callee := .builtin .append, args := #[s, x], argTypes := #[50, 50] })
    (v : Value) (xs l : List UInt8) (A : Option Addr) (c : Nat) (hs : a.eval s = v) (hown : w.ownsRow 0 5 1 v xs.length (bvs xs)) (hx : a.eval x = .slice A l.length c) (hr : Rd w A l)
    (hb : xs.length + l.length ≤ 140737488355328)
    (h : ∀ v' w', w'.ownsRow 0 5 1 v' (xs ++ l).length (bvs (xs ++ l)) → w.grownBy w' v.ownBlock → (v'.ownBlock = v.ownBlock ∨ v'.ownBlock = some w.heap.size) → K (a.put o.dst v') w') : o.wp Tryz.prog a w K Q := by
  obtain ⟨v', w', hrun, h2, h3, h4, _⟩ := run_append_rd w v xs l A c o.type hown hr hb
  unfold Oper.wp execOp
  simp only [ho, resolve, invoke, builtin, Sem.run_bind, Sem.run_pure, Result.andThen_ok, List.map_toArray, List.map_cons, List.map_nil, hs, hx, hrun]
  exact h v' w' h2 h3 h4

theorem wpList_append_rd {ops : Array Oper} {rest : List Oper} {o : Oper} {a : Act} {Q : Exit → Act → World → Prop} (w : World) (hgd : o.guard = none) (s x : Operand)
    (ho : o.op = .call { callee := .builtin .append, args := #[s, x], argTypes := #[50, 50] })
    (v : Value) (xs l : List UInt8) (A : Option Addr) (c : Nat) (hs : a.eval s = v) (hown : w.ownsRow 0 5 1 v xs.length (bvs xs)) (hx : a.eval x = .slice A l.length c) (hr : Rd w A l)
    (hb : xs.length + l.length ≤ 140737488355328)
    (h : ∀ v' w', w'.ownsRow 0 5 1 v' (xs ++ l).length (bvs (xs ++ l)) → w.grownBy w' v.ownBlock → (v'.ownBlock = v.ownBlock ∨ v'.ownBlock = some w.heap.size) → wpList Tryz.prog ops Q rest (a.put o.dst v') w') :
    wpList Tryz.prog ops Q (o :: rest) a w :=
  wpList_plain hgd fun _ hK => wp_append_rd w s x ho v xs l A c hs hown hx hr hb fun v' w' h2 h3 h4 => hK _ _ (h v' w' h2 h3 h4)

theorem own_form {w : World} {base n : Nat} {v : Value} {xs : List Value} (h : w.ownsRow base 5 1 v n xs) : ∃ A c, v = .slice A n c := by
  rcases h.2 with ⟨rfl, rfl⟩ | ⟨g, cap, cur, rfl, _⟩
  · exact ⟨_, _, rfl⟩
  · exact ⟨_, _, rfl⟩

/-- The same as one step of a region that draws its order; the new slice is written out. -/
theorem step_append_rd {ops : Array Oper} {o : Oper} {a : Act} {K : Act → World → Prop} {Q : Exit → Act → World → Prop} {E : Prop} (w : World) (hgd : o.guard = none) (s x : Operand)
    (ho : o.op = .call { callee := .builtin .append, args := #[s, x], argTypes := #[50, 50] })
    (v : Value) (xs l : List UInt8) (A : Option Addr) (c : Nat) (hs : a.eval s = v) (hown : w.ownsRow 0 5 1 v xs.length (bvs xs)) (hx : a.eval x = .slice A l.length c) (hr : Rd w A l)
    (hb : xs.length + l.length ≤ 140737488355328)
    (h : ∀ A' c' w', w'.ownsRow 0 5 1 (.slice A' (xs ++ l).length c') (xs ++ l).length (bvs (xs ++ l)) → w.grownBy w' v.ownBlock → ((Value.slice A' (xs ++ l).length c').ownBlock = v.ownBlock ∨ (Value.slice A' (xs ++ l).length c').ownBlock = some w.heap.size) → K (a.put o.dst (.slice A' (xs ++ l).length c')) w') :
    if Region.wanted o (yielded ops a.tmps) = true then Oper.wp Tryz.prog o a w K Q else E := by
  have hw : Region.wanted o (yielded ops a.tmps) = true := by simp [Region.wanted, hgd]
  rw [if_pos hw]
  refine wp_append_rd w s x ho v xs l A c hs hown hx hr hb fun v' w' h2 h3 h4 => ?_
  obtain ⟨A', c', rfl⟩ := own_form h2
  exact h A' c' w' h2 h3 h4

end Go.Proofs.YtifobiajjhknbaaGreatDoor.V

namespace Go.Proofs.YtifobiajjhknbaaGreatDoor.V
open Go.RowKit


set_option maxHeartbeats 400000 in
theorem clone_any (w : World) (A : Option Addr) (l : List UInt8) (c : Nat) (hr : Rd w A l) (hb : l.length ≤ 140737488355328) :
    Calls Tryz.prog 222 #[.slice A l.length c] w fun e w' => ∃ v, e = .returned v ∧ OwnB w' (Fresh w) v l ∧ Keep NoB w w' := by
  have qT : ∀ (w : World) (a : Option Addr) (n c n' c' : Nat), (binOp .eql 50 (.slice a n c) (.slice none n' c')).run Tryz.prog w = .ok (.bool a.isNone) w := fun w a n c n' c' => Lib.run_eql_slice_nil w _ _ a n c n' c' Tryz.underlying50
  rcases A with _ | ad
  · have hl : l = [] := by
      rcases Nat.eq_zero_or_pos l.length with h0 | h0
      · exact List.length_eq_zero_iff.1 h0
      · obtain ⟨ad, e, _⟩ := hr h0; cases e
    subst hl
    go_enter Tryz.func222, Tryz.ntmps222
    go_wp2
    go_ret
    exact ⟨_, rfl, OwnB.nil _ _, Keep.refl _ _⟩
  · have hm := World.ownsRow_made (e := 5) (size := 1) (base := 0) w #[] 0 (Nat.zero_le _) (Nat.zero_le _) rfl
    have hr' : Rd (w.alloc (.cells #[] 5)) (some ad) l := hr.keep ((Keep.refl NoB w).alloc _) (fun _ _ _ => id)
    go_enter Tryz.func222, Tryz.ntmps222
    go_wp2_with (at_builtin; refine wpList_append_rd _ rfl _ _ rfl (.slice (some ⟨w.heap.size, 0, none⟩) 0 0) [] l (some ad) c rfl hm rfl hr' (by simpa using hb) ?_; intro v' w1 hown' hg hat)
    go_ret
    refine ⟨v', rfl, ⟨by simpa using hown', fun g e => ?_⟩, ?_⟩
    · rcases hat with h | h <;> rw [h] at e <;> simp [Value.ownBlock] at e <;> subst e <;> simp [Fresh]
    · exact ((Keep.refl NoB w).alloc _).grown hg (fun g e hlt => by simp [Value.ownBlock] at e; omega)

/-- A Tape at block bt that holds l; all its blocks are of O. -/
def TapeAt (w : World) (bt : Nat) (O : Nat → Prop) (l : List UInt8) : Prop :=
  O bt ∧ ((Blk w bt 256 #[.pointer none, .int .i64 0] ∧ l = []) ∨
    ∃ bs v, O bs ∧ Blk w bt 256 #[.pointer (some ⟨bs, 0, none⟩), .int .i64 l.length] ∧ Blk w bs 302 #[v] ∧ OwnB w O v l)

theorem TapeAt.keep {w w' : World} {bt : Nat} {O O' : Nat → Prop} {l : List UInt8} (h : TapeAt w bt O l) (hk : Keep O' w w') (hn : ∀ k, O k → ¬ O' k) : TapeAt w' bt O l := by
  refine ⟨h.1, ?_⟩
  rcases h.2 with ⟨hb, rfl⟩ | ⟨bs, v, ho, hb, hs, hv⟩
  · exact .inl ⟨hb.keep hk (hn _ h.1), rfl⟩
  · exact .inr ⟨bs, v, ho, hb.keep hk (hn _ h.1), hs.keep hk (hn _ ho), hv.keep hk hn⟩
theorem TapeAt.mono {w : World} {bt : Nat} {O O' : Nat → Prop} {l : List UInt8} (h : TapeAt w bt O l) (hO : ∀ k, O k → k < w.heap.size → O' k) : TapeAt w bt O' l := by
  rcases h.2 with ⟨hb, rfl⟩ | ⟨bs, v, ho, hb, hs, hv⟩
  · exact ⟨hO _ h.1 hb.lt, .inl ⟨hb, rfl⟩⟩
  · exact ⟨hO _ h.1 hb.lt, .inr ⟨bs, v, hO _ ho hs.lt, hb, hs, hv.mono hO⟩⟩

theorem OwnB.le {w : World} {O : Nat → Prop} {v : Value} {l : List UInt8} (h : OwnB w O v l) : l.length ≤ maxLen := by
  obtain ⟨A, c, _, h1, _, _, h2⟩ := h.form
  omega

set_option maxRecDepth 100000 in
set_option maxHeartbeats 1000000 in
theorem all_any (w : World) (bt : Nat) (O : Nat → Prop) (l : List UInt8) (h : TapeAt w bt O l) (hb : l.length ≤ 140737488355328) :
    Calls Tryz.prog 172 #[.pointer (some ⟨bt, 0, none⟩)] w fun e w' => ∃ v, e = .returned v ∧ OwnB w' (Fresh w) v l ∧ Keep NoB w w' := by
  rcases h.2 with ⟨hbt, rfl⟩ | ⟨bs, v, _, hbt, hbs, hv⟩
  · have c0 := hbt.cell 0
    have c1 := hbt.cell 1
    simp at c0 c1
    go_enter Tryz.func172, Tryz.ntmps172
    go_wp2
    go_ret
    exact ⟨_, rfl, OwnB.nil _ _, Keep.refl _ _⟩
  · obtain ⟨A, c, rfl, hc, hr, hA, hm⟩ := hv.form
    have c0 := hbt.cell 0
    have c1 := hbt.cell 1
    have c2 := hbs.cell 0
    simp at c0 c1 c2
    unfold maxLen at hm
    go_enter Tryz.func172, Tryz.ntmps172
    go_wp2
    go_still_tail 12, (by kernel_rfl)
    change wpList _ _ _ _ _ w.drew
    go_wp2_with (go_at_call 222; refine (clone_any w.drew A l c hr hb).mono ?_; rintro e w' ⟨v', rfl, hown', hk'⟩)
    go_ret
    exact ⟨v', rfl, hown', ⟨hk'.os, hk'.tape, hk'.output, hk'.size, hk'.block⟩⟩

/-- The blocks that a Tape has when it has been written on: its own, and new ones. -/
def More (O : Nat → Prop) (w w' : World) : Nat → Prop := fun k => O k ∨ (w.heap.size ≤ k ∧ k < w'.heap.size)

/-- What write leaves: the longer row in the strip, its length in the Tape. -/
theorem write_done {w wq w1 : World} {bt bs m c1 : Nat} {O : Nat → Prop} {v : Value} {A1 : Option Addr} {xs : List UInt8}
    (hk : Keep O w wq) (hbs : Blk wq bs 302 #[v]) (hbt : Blk wq bt 256 #[.pointer (some ⟨bs, 0, none⟩), .int .i64 m])
    (nb1 : v.ownBlock ≠ some bs) (nb2 : v.ownBlock ≠ some bt) (hO1 : O bs ∨ w.heap.size ≤ bs) (hO2 : O bt) (hO3 : ∀ g, v.ownBlock = some g → O g ∨ w.heap.size ≤ g)
    (hown : w1.ownsRow 0 5 1 (.slice A1 xs.length c1) xs.length (bvs xs)) (hgrow : wq.grownBy w1 v.ownBlock)
    (hat : (Value.slice A1 xs.length c1).ownBlock = v.ownBlock ∨ (Value.slice A1 xs.length c1).ownBlock = some wq.heap.size) :
    TapeAt ((w1.setCell ⟨bs, 0, none⟩ (.slice A1 xs.length c1)).setCell ⟨bt, 1, none⟩ (.int .i64 xs.length)) bt
      (More O w ((w1.setCell ⟨bs, 0, none⟩ (.slice A1 xs.length c1)).setCell ⟨bt, 1, none⟩ (.int .i64 xs.length))) xs ∧
    Keep O w ((w1.setCell ⟨bs, 0, none⟩ (.slice A1 xs.length c1)).setCell ⟨bt, 1, none⟩ (.int .i64 xs.length)) := by
  have hs1 := hbs.grown hgrow (Ne.symm nb1)
  have ht1 := hbt.grown hgrow (Ne.symm nb2)
  have hne : bs ≠ bt := Blk.ne hbs hbt (by decide)
  have hs2 := (hs1.put 0 (.slice A1 xs.length c1)).far (p := ⟨bt, 1, none⟩) hne (.int .i64 xs.length)
  have ht2 := (ht1.far (p := ⟨bs, 0, none⟩) (Ne.symm hne) (.slice A1 xs.length c1)).put 1 (.int .i64 xs.length)
  have hk1 : Keep O w w1 := hk.grown hgrow (fun g e hlt => (hO3 g e).resolve_right (by omega))
  have hk2 := (hk1.setCell (p := ⟨bs, 0, none⟩) (fun hlt => hO1.resolve_right (by simp at hlt ⊢; omega)) (.slice A1 xs.length c1)).setCell (p := ⟨bt, 1, none⟩) (fun _ => hO2) (.int .i64 xs.length)
  have hsz : ((w1.setCell ⟨bs, 0, none⟩ (.slice A1 xs.length c1)).setCell ⟨bt, 1, none⟩ (.int .i64 xs.length)).heap.size = w1.heap.size := by simp [World.setCell]
  have hrow : (Value.slice A1 xs.length c1).ownBlock ≠ some bs ∧ (Value.slice A1 xs.length c1).ownBlock ≠ some bt := by
    rcases hat with e | e
    · rw [e]; exact ⟨nb1, nb2⟩
    · rw [e]
      have h1 := hbs.lt
      have h2 := hbt.lt
      exact ⟨fun e => by injection e; omega, fun e => by injection e; omega⟩
  refine ⟨⟨.inl hO2, .inr ⟨bs, _, ?_, ht2, hs2, ?_, ?_⟩⟩, hk2⟩
  · rcases hO1 with h | h
    · exact .inl h
    · refine .inr ⟨h, ?_⟩
      rw [hsz]; exact hs1.lt
  · refine hown.kept (w' := w1.setCell ⟨bs, 0, none⟩ (.slice A1 xs.length c1)) (row := some bs) ⟨rfl, rfl, rfl, by simp [World.setCell], fun k _ hn => Below.heap_setCell _ _ _ _ (fun e => hn (by rw [e]))⟩ (.inr hrow.1) |>.kept (row := some bt) ⟨rfl, rfl, rfl, by simp [World.setCell], fun k _ hn => Below.heap_setCell _ _ _ _ (fun e => hn (by rw [e]))⟩ (.inr hrow.2)
  · intro g e
    have hlt := (hown.lt g e).2
    rcases hat with e' | e'
    · rw [e'] at e
      rcases hO3 g e with h | h
      · exact .inl h
      · exact .inr ⟨h, by rw [hsz]; exact hlt⟩
    · rw [e'] at e
      injection e with e
      refine .inr ⟨?_, by rw [hsz]; exact hlt⟩
      rw [← e]; exact hk.size

theorem write_end {w wq w1 : World} {bt bs m c1 n : Nat} {N : Int} {O : Nat → Prop} {v : Value} {A1 : Option Addr} {xs : List UInt8}
    (hk : Keep O w wq) (hbs : Blk wq bs 302 #[v]) (hbt : Blk wq bt 256 #[.pointer (some ⟨bs, 0, none⟩), .int .i64 m])
    (nb1 : v.ownBlock ≠ some bs) (nb2 : v.ownBlock ≠ some bt) (hO1 : O bs ∨ w.heap.size ≤ bs) (hO2 : O bt) (hO3 : ∀ g, v.ownBlock = some g → O g ∨ w.heap.size ≤ g)
    (hown : w1.ownsRow 0 5 1 (.slice A1 xs.length c1) xs.length (bvs xs)) (hgrow : wq.grownBy w1 v.ownBlock)
    (hat : (Value.slice A1 xs.length c1).ownBlock = v.ownBlock ∨ (Value.slice A1 xs.length c1).ownBlock = some wq.heap.size) (hn : n = xs.length) (hN : N = xs.length) :
    TapeAt ((w1.setCell ⟨bs, 0, none⟩ (.slice A1 n c1)).setCell ⟨bt, 1, none⟩ (.int .i64 N)) bt
      (More O w ((w1.setCell ⟨bs, 0, none⟩ (.slice A1 n c1)).setCell ⟨bt, 1, none⟩ (.int .i64 N))) xs ∧
    Keep O w ((w1.setCell ⟨bs, 0, none⟩ (.slice A1 n c1)).setCell ⟨bt, 1, none⟩ (.int .i64 N)) := by
  subst hn hN
  exact write_done hk hbs hbt nb1 nb2 hO1 hO2 hO3 hown hgrow hat

set_option maxRecDepth 100000 in
set_option maxHeartbeats 2000000 in
theorem write_any (w : World) (bt : Nat) (O : Nat → Prop) (l b : List UInt8) (A : Option Addr) (c : Nat) (h : TapeAt w bt O l) (hr : Rd w A b) (hA : ∀ ad, A = some ad → ¬ O ad.block)
    (hb : l.length + b.length ≤ 140737488355328) :
    Calls Tryz.prog 220 #[.pointer (some ⟨bt, 0, none⟩), .slice A b.length c] w fun e w' => e = .returned (.pointer (some ⟨bt, 0, none⟩)) ∧ TapeAt w' bt (More O w w') (l ++ b) ∧ Keep O w w' := by
  rcases h.2 with ⟨hbt, rfl⟩ | ⟨bs, v, hO, hbt, hbs, hv⟩
  · have c0' := hbt.cell 0
    have c1' := hbt.cell 1
    have f0' := hbt.frozen 0
    simp at c0' c1'
    go_enter Tryz.func220, Tryz.ntmps220
    go_wp2
    go_quiet (fail)
    obtain ⟨wq, hwq⟩ : ∃ wq, w.drewN nq = wq := ⟨_, rfl⟩
    rw [hwq]
    have hkq : Keep NoB w wq := hwq ▸ (Keep.refl NoB w).drewN nq
    have htq : TapeAt wq bt O [] := h.keep hkq (fun _ _ => id)
    clear hwq
    have hbq : Blk wq bt 256 #[.pointer none, .int .i64 0] := hbt.keep hkq id
    have hrq : Rd wq A b := hr.keep hkq (fun _ _ _ => id)
    have hkq' : Keep O w wq := hkq.mono (fun _ hf _ => hf.elim)
    clear hkq
    go_wp2_with (go_at_call 172; refine (all_any wq bt O [] htq (by simp)).mono ?_; rintro e w1 ⟨v, rfl, hv1, hk1⟩; obtain ⟨A0, c0, rfl, hA0⟩ := hv1.form; have hb1 : Blk w1 bt 256 #[.pointer none, .int .i64 0] := hbq.keep hk1 id; have ht1 := hb1.cell 0; have ht2 := hb1.frozen 0; have hlt := hb1.lt; simp at ht1)
    have e3 : (w1.setCell ⟨bt, 0, none⟩ (.pointer (some ⟨w1.heap.size, 0, none⟩))).heap.size = w1.heap.size := by simp [World.setCell]
    have hs3 := Blk.new (w1.setCell ⟨bt, 0, none⟩ (.pointer (some ⟨w1.heap.size, 0, none⟩))) 302 #[.slice A0 0 c0]
    rw [e3] at hs3
    have hb3 := (hb1.put 0 (.pointer (some ⟨w1.heap.size, 0, none⟩))).alloc (.cells #[.slice A0 0 c0] 302)
    have hrow3 := World.ownsRow.alloc (ownsRow_keep (O := fun k => k = bt) hv1.1 ((Keep.refl (fun k => k = bt) _).setCell (p := ⟨bt, 0, none⟩) (fun _ => rfl) (.pointer (some ⟨w1.heap.size, 0, none⟩))) (fun g e hg => hv1.not_blk hb1 (by decide) (hg ▸ e))) (.cells #[.slice A0 0 c0] 302)
    have hk3 : Keep O w ((w1.setCell ⟨bt, 0, none⟩ (.pointer (some ⟨w1.heap.size, 0, none⟩))).alloc (.cells #[.slice A0 0 c0] 302)) :=
      ((hkq'.trans hk1 (fun _ hf _ => hf.elim)).setCell (p := ⟨bt, 0, none⟩) (fun _ => h.1) _).alloc _
    have hr3 : Rd ((w1.setCell ⟨bt, 0, none⟩ (.pointer (some ⟨w1.heap.size, 0, none⟩))).alloc (.cells #[.slice A0 0 c0] 302)) A b := hr.keep hk3 (fun ad e _ => hA ad e)
    have hsz : w.heap.size ≤ w1.heap.size := Nat.le_trans hkq'.size hk1.size
    have hO3 : ∀ g, (Value.slice A0 0 c0).ownBlock = some g → O g ∨ w.heap.size ≤ g := fun g e => .inr (Nat.le_trans hkq'.size (hv1.2 g e))
    have nb2 := hv1.not_blk hb1 (by decide)
    have nb1 : (Value.slice A0 0 c0).ownBlock ≠ some w1.heap.size := fun e => by have := (hv1.1.lt _ e).2; omega
    obtain ⟨bs, hbs⟩ : ∃ bs, w1.heap.size = bs := ⟨_, rfl⟩
    obtain ⟨W, hW⟩ : ∃ W, ((w1.setCell ⟨bt, 0, none⟩ (.pointer (some ⟨w1.heap.size, 0, none⟩))).alloc (.cells #[.slice A0 0 c0] 302)) = W := ⟨_, rfl⟩
    rw [hbs] at hW hs3 hb3 hrow3 hk3 hr3 hsz nb1 ⊢
    rw [hW] at hs3 hb3 hrow3 hk3 hr3 ⊢
    clear hW hbs e3 ht1 ht2 hlt hb1 hk1 hv1 hA0 hkq' hbq hrq htq
    have cs3 := hs3.cell 0
    have fs3 := hs3.frozen 0
    have ct3 := hb3.cell 0
    simp at cs3 ct3
    have hbb : (⟨bs, 0, none⟩ : Addr) ≠ ⟨bt, 0, none⟩ := fun e => by
      have : bs = bt := by injection e
      exact Blk.ne hs3 hb3 (by decide) this
    go_region_law ((refine step_append_rd _ (by rfl) _ _ (by rfl) (.slice A0 0 c0) [] b A c (by rfl) (by exact hrow3) (by rfl) (by exact hr3) hb ?_; intro A1 c1 w1 hown1 hgrow hat; have hs1 := Blk.grown (w' := w1) (by exact hs3) hgrow (Ne.symm nb1); have ht1 := Blk.grown (w' := w1) (by exact hb3) hgrow (Ne.symm nb2); have cs1 := hs1.cell 0; have fs1 := hs1.frozen 0; have ct1 := ht1.cell 0; have ct2 := ht1.cell 1; have ft1 := ht1.frozen 1; simp at cs1 ct1 ct2))
    all_goals go_wp2
    all_goals go_ret
    all_goals exact ⟨rfl, write_end (m := 0) (v := .slice A0 0 c0) (xs := [] ++ b) hk3.drew (by exact hs3) (by exact hb3) nb1 nb2 (.inr hsz) h.1 hO3 hown1 hgrow hat (by simp) (by simp)⟩
  · obtain ⟨A0, c0, rfl, hc, hr0, hA0, hm⟩ := hv.form
    have c0' := hbt.cell 0
    have c1' := hbt.cell 1
    have c2' := hbs.cell 0
    simp at c0' c1' c2'
    unfold maxLen at hm
    have hne : ((l.length : Int) != (l.length : Int)) = false := by simp
    go_enter Tryz.func220, Tryz.ntmps220
    go_wp2
    go_quiet (fail)
    go_wp2
    have hrow := hv.1
    have nb1 := hv.not_blk hbs (by decide)
    have nb2 := hv.not_blk hbt (by decide)
    have hbb : (⟨bs, 0, none⟩ : Addr) ≠ ⟨bt, 0, none⟩ := fun e => by
      have : bs = bt := by injection e
      exact Blk.ne hbs hbt (by decide) this
    go_region_law ((refine step_append_rd _ (by rfl) _ _ (by rfl) (.slice A0 l.length c0) l b A c (by rfl) (by exact hrow) (by rfl) (by exact hr) hb ?_; intro A1 c1 w1 hown1 hgrow hat; have hs1 := Blk.grown (w' := w1) (by exact hbs) hgrow (Ne.symm nb1); have ht1 := Blk.grown (w' := w1) (by exact hbt) hgrow (Ne.symm nb2); have cs1 := hs1.cell 0; have fs1 := hs1.frozen 0; have ct1 := ht1.cell 0; have ct2 := ht1.cell 1; have ft1 := ht1.frozen 1; simp at cs1 ct1 ct2))
    all_goals go_wp2
    all_goals go_ret
    all_goals exact ⟨rfl, write_end (m := l.length) (v := .slice A0 l.length c0) (xs := l ++ b) ((Keep.refl O w).drewN _) (by exact hbs) (by exact hbt) nb1 nb2 (.inl hO) h.1 (fun g e => .inl (hv.2 g e)) hown1 hgrow hat (by simp) (by simp)⟩

end Go.Proofs.YtifobiajjhknbaaGreatDoor.V

namespace Go.Proofs.YtifobiajjhknbaaGreatDoor.V
open Go.RowKit

theorem encL_len (n : Nat) : (encL n).length ≤ 9 := by
  unfold encL; have := encF_len n (down 9); simpa [down] using this

theorem More.trans {O : Nat → Prop} {w w1 w2 : World} (h : w.heap.size ≤ w1.heap.size) : ∀ k, More O w1 w2 k → k < w2.heap.size → More O w w2 k := by
  rintro k (h1 | ⟨h1, h2⟩) _
  · exact .inl h1
  · exact .inr ⟨by omega, h2⟩

theorem encode_own (n : Nat) (w : World) :
    Calls Tryz.prog 221 #[.int .u64 n] w fun e w' => ∃ v, e = .returned v ∧ OwnB w' (Fresh w) v (encL n) ∧ Keep NoB w w' := by
  refine (encode_any n w).mono ?_
  rintro e w' ⟨v, he, hrow, hb⟩
  refine ⟨v, he, ⟨⟨hrow.1, ?_⟩, fun g hg => (hrow.lt g hg).1⟩, Keep.of_below hb⟩
  rcases hrow.2 with h | ⟨g, cap, cur, h1, _, h2⟩
  · exact .inl h
  · exact .inr ⟨g, cap, cur, h1, Nat.zero_le _, h2⟩

/-- What a Tape's writing method leaves: the Tape itself, with so much more; nothing else has turned. -/
def Wrote (w : World) (bt : Nat) (O : Nat → Prop) (xs : List UInt8) (e : Ending) (w' : World) : Prop :=
  e = .returned (.pointer (some ⟨bt, 0, none⟩)) ∧ TapeAt w' bt (More O w w') xs ∧ Keep O w w'

theorem wrote_from {w w1 w' : World} {bt : Nat} {O : Nat → Prop} {xs : List UInt8} (hk : Keep O w w1) (h : TapeAt w' bt (More O w1 w') xs ∧ Keep O w1 w') :
    TapeAt w' bt (More O w w') xs ∧ Keep O w w' :=
  ⟨h.1.mono (More.trans hk.size), hk.trans h.2 (fun _ ho _ => ho)⟩

set_option maxHeartbeats 400000 in
theorem tnumber_any (w : World) (bt : Nat) (O : Nat → Prop) (l : List UInt8) (n : Nat) (h : TapeAt w bt O l) (hO : ∀ k, O k → k < w.heap.size) (hb : l.length + 9 ≤ 140737488355328) :
    Calls Tryz.prog 171 #[.pointer (some ⟨bt, 0, none⟩), .int .u64 n] w (Wrote w bt O (l ++ encL n)) := by
  have hl := encL_len n
  go_enter Tryz.func171, Tryz.ntmps171
  go_wp2_with (first | (go_at_call 221; refine (encode_own n w).mono ?_; rintro e w1 ⟨v, rfl, hv1, hk1⟩; obtain ⟨A, c, rfl, _, hr1, hA1, _⟩ := hv1.form; have h1 : TapeAt w1 bt O l := h.keep hk1 (fun _ _ => id)) | (go_at_call 220; refine (write_any w1 bt O l (encL n) A c h1 hr1 (fun ad e ho => by have := hO _ ho; have := (hA1 ad e).1; unfold Fresh at this; omega) (by omega)).mono ?_; rintro e w2 ⟨rfl, h2⟩))
  go_ret
  exact ⟨rfl, wrote_from (hk1.mono (fun _ hf _ => hf.elim)) h2⟩

set_option maxHeartbeats 400000 in
theorem tsigned_any (w : World) (bt : Nat) (O : Nat → Prop) (l : List UInt8) (n : Int) (h1 : -9223372036854775808 ≤ n) (h2 : n ≤ 9223372036854775807) (h : TapeAt w bt O l) (hO : ∀ k, O k → k < w.heap.size) (hb : l.length + 9 ≤ 140737488355328) :
    Calls Tryz.prog 242 #[.pointer (some ⟨bt, 0, none⟩), .int .i64 n] w (Wrote w bt O (l ++ encL (zig n))) := by
  go_enter Tryz.func242, Tryz.ntmps242
  go_wp2_with (first | (go_at_call 253; refine (zig_any n _ h1 h2).mono ?_; rintro e w1 ⟨rfl, rfl⟩) | (go_at_call 171; refine (tnumber_any w bt O l (zig n) h hO hb).mono ?_; rintro e w2 ⟨rfl, h3⟩))
  go_ret
  exact ⟨rfl, h3⟩

/-- Bytes as a string. -/
abbrev str (l : List UInt8) : ByteArray := ⟨l.toArray⟩

theorem TapeAt.new (w : World) : TapeAt (w.alloc (.cells #[.pointer none, .int .i64 0] 256)) w.heap.size (fun k => k = w.heap.size) [] :=
  ⟨rfl, .inl ⟨Blk.new _ _ _, rfl⟩⟩

end Go.Proofs.YtifobiajjhknbaaGreatDoor.V

namespace Go.Proofs.YtifobiajjhknbaaGreatDoor.V
open Go.RowKit

/-- The k lowest digits, the highest first. -/
def be : Nat → Nat → List UInt8
  | 0, _ => []
  | k + 1, m => UInt8.ofNat (m / 256 ^ k) :: be k m

theorem be_len : ∀ k m, (be k m).length = k
  | 0, _ => rfl
  | k + 1, m => by simp [be, be_len k m]

theorem u8_eq {x y : Nat} (h : x % 256 = y % 256) : UInt8.ofNat x = UInt8.ofNat y := by
  apply UInt8.toNat_inj.1
  rw [UInt8.toNat_ofNat', UInt8.toNat_ofNat']
  exact h

theorem be_add : ∀ k m c, be k (m + c * 256 ^ k) = be k m
  | 0, _, _ => rfl
  | k + 1, m, c => by
    have e : m + c * 256 ^ (k + 1) = m + (c * 256) * 256 ^ k := by rw [Nat.pow_succ]; ac_rfl
    simp only [be]
    rw [e, be_add k m (c * 256), Nat.add_mul_div_right _ _ (Nat.pow_pos (by omega))]
    congr 1
    exact u8_eq (by omega)
/-- A number with its mark. -/
def nb (n : Nat) : Nat := mk (wd n) * 256 ^ (wd n - 1) + n

theorem or_add (i x y : Nat) (hx : x < 2 ^ i) (hy : y % 2 ^ i = 0) : x ||| y = y + x := by
  rw [Nat.or_comm]; exact nat_join i y x hy hx

theorem head_eq (x y m i : Nat) (hx : x < 2 ^ i) (hm : m % 2 ^ i = 0) (hs : m + x < 256) (hy : y % 256 = m + x) : UInt8.ofNat x ||| UInt8.ofNat m = UInt8.ofNat y := by
  apply UInt8.toNat_inj.1
  rw [UInt8.toNat_or, UInt8.toNat_ofNat', UInt8.toNat_ofNat', UInt8.toNat_ofNat', Nat.mod_eq_of_lt (show x < 2 ^ 8 by omega), Nat.mod_eq_of_lt (show m < 2 ^ 8 by omega), or_add i x m hx hm]
  exact hy.symm

theorem mk_vals : mk 1 = 0 ∧ mk 2 = 128 ∧ mk 3 = 192 ∧ mk 4 = 224 ∧ mk 5 = 240 ∧ mk 6 = 248 ∧ mk 7 = 252 ∧ mk 8 = 254 ∧ mk 9 = 255 := by decide

theorem encL_be (n : Nat) (hn : n < 18446744073709551616) : encL n = be (wd n) (nb n) := by
  obtain ⟨m1, m2, m3, m4, m5, m6, m7, m8, m9⟩ := mk_vals
  have hw1 := wd_pos n
  have hw9 := wd_le n
  have hlt := wd_lt n
  have hc : wd n = 1 ∨ wd n = 2 ∨ wd n = 3 ∨ wd n = 4 ∨ wd n = 5 ∨ wd n = 6 ∨ wd n = 7 ∨ wd n = 8 ∨ wd n = 9 := by omega
  have ed : down 9 = [8, 7, 6, 5, 4, 3, 2, 1, 0] := by decide
  unfold encL encF nb
  rw [ed]
  rcases hc with h | h | h | h | h | h | h | h | h
  all_goals
    rw [h] at hlt
    simp [encB, dgt, be, h, m1, m2, m3, m4, m5, m6, m7, m8, m9]
  · exact u8_eq (by omega)
  all_goals
    repeat' apply And.intro
  all_goals first
    | exact u8_eq (by omega)
    | exact head_eq _ _ 128 6 (by omega) (by decide) (by omega) (by omega)
    | exact head_eq _ _ 192 5 (by omega) (by decide) (by omega) (by omega)
    | exact head_eq _ _ 224 4 (by omega) (by decide) (by omega) (by omega)
    | exact head_eq _ _ 240 3 (by omega) (by decide) (by omega) (by omega)
    | exact head_eq _ _ 248 2 (by omega) (by decide) (by omega) (by omega)
    | exact head_eq _ _ 252 1 (by omega) (by decide) (by omega) (by omega)
    | exact head_eq _ _ 254 0 (by omega) (by decide) (by omega) (by omega)
    | exact head_eq _ _ 255 0 (by omega) (by decide) (by omega) (by omega)

theorem encL_length (n : Nat) (hn : n < 18446744073709551616) : (encL n).length = wd n := by rw [encL_be n hn, be_len]

/-- The first byte, as a number. -/
def hd (n : Nat) : Nat := mk (wd n) + n / 256 ^ (wd n - 1)

end Go.Proofs.YtifobiajjhknbaaGreatDoor.V

namespace Go.Proofs.YtifobiajjhknbaaGreatDoor.V
open Go.RowKit

/-- Bytes gathered onto a number, as add does. -/
def acc (s : Nat) (l : List UInt8) : Nat := l.foldl (fun s d => s * 256 % 18446744073709551616 + d.toNat) s
theorem acc_snoc (s : Nat) (l : List UInt8) (d : UInt8) : acc s (l ++ [d]) = acc s l * 256 % 18446744073709551616 + d.toNat := by simp [acc]
theorem add_form (s d : Nat) (hd : d < 256) :
    bits .or .u64 (IntKind.u64.wrap ((s : Int) * 256)) (d : Int) = ((s * 256 % 18446744073709551616 + d : Nat) : Int) := by
  have e : IntKind.u64.wrap ((s : Int) * 256) = ((s * 256 % 18446744073709551616 : Nat) : Int) := by rw [IntKind.wrap_u64]; omega
  rw [e, u64_or_nat _ _ (by omega) (by omega), nat_join 8 _ _ (by omega) (by omega)]

set_option maxRecDepth 100000 in
set_option maxHeartbeats 1000000 in
theorem add_any (w : World) (sb n0 : Nat) (A : Option Addr) (b : List UInt8) (c : Nat) (hs : Blk w sb 344 #[.int .u64 n0]) (hr : Rd w A b) (hA : ∀ ad, A = some ad → ad.block ≠ sb) (hlen : b.length ≤ 140737488355328) :
    Calls Tryz.prog 251 #[.pointer (some ⟨sb, 0, none⟩), .slice A b.length c] w fun e w' => e = .returned (.tuple #[]) ∧ Blk w' sb 344 #[.int .u64 (acc n0 b)] ∧ Keep (fun k => k = sb) w w' := by
  go_enter Tryz.func251, Tryz.ntmps251
  go_wp2
  go_loopw [8] (fun i wr => ∃ k : Nat, k ≤ b.length ∧ i = .int .i64 k ∧ Blk wr sb 344 #[.int .u64 (acc n0 (b.take k))] ∧ Keep (fun k => k = sb) w wr) (fun i _ => b.length - (intOf i).toNat)
  case atStart => exact ⟨0, Nat.zero_le _, rfl, by simpa [acc] using hs, Keep.refl _ _⟩
  case round =>
    obtain ⟨k, hk, rfl, hsr, hkr⟩ := hrel
    by_cases hlt : k < b.length
    · obtain ⟨ad, rfl, hc⟩ := hr (by omega)
      have hcell : wr.cell? (ad.add k) = some (.int .u8 ((b[k]).toNat : Int)) := hkr.cell (hc k _ (by simp [hlt])) (by rw [block_add]; exact hA ad rfl)
      have cs := hsr.cell 0
      have fs := hsr.frozen 0
      simp at cs
      have hd : (b[k]).toNat < 256 := (b[k]).toNat_lt
      have HF := Lib.hid (add_form (acc n0 (b.take k)) (b[k]).toNat hd)
      have HT : Hid (acc n0 (b.take (k + 1)) = acc n0 (b.take k) * 256 % 18446744073709551616 + (b[k]).toNat) := by
        show acc n0 (b.take (k + 1)) = _
        rw [List.take_succ_eq_append_getElem hlt, acc_snoc]
      generalize acc n0 (b.take k) = s at *
      generalize hdd : (b[k]).toNat = d at *
      clear hdd
      go_wp2
      go_roundw
      case rel =>
        refine ⟨k + 1, by omega, by go_num, ?_, hkr.setCell (p := ⟨sb, 0, none⟩) (fun _ => rfl) _⟩
        rw [HT.out, ← HF.out]
        exact hsr.put 0 _
      case measure => simp [intOf]; omega
    · obtain rfl : k = b.length := by omega
      go_wp2
      go_end0
      exact ⟨rfl, by simpa using hsr, hkr⟩

/-- The width that a first byte tells. -/
def td (b : Nat) : Nat := if b < 128 then 1 else if b < 192 then 2 else if b < 224 then 3 else if b < 240 then 4 else if b < 248 then 5 else if b < 252 then 6 else if b < 254 then 7 else if b < 255 then 8 else 9

theorem td_form (b : Nat) (h : b < 256) : 8 - (Lib.bitLen (255 - b) : Int) + 1 = (td b : Int) := by
  have : ∀ b : Fin 256, 8 - (Lib.bitLen (255 - b.1) : Int) + 1 = (td b.1 : Int) := by decide +kernel
  exact this ⟨b, h⟩

theorem not_form (b : Nat) (h : b < 256) : bits .xor .u8 IntKind.u8.max (b : Int) = ((255 - b : Nat) : Int) := by
  have e : IntKind.u8.max = ((255 : Nat) : Int) := by decide
  rw [e, u8_xor_nat 255 b (by omega) h]
  have h2 : ∀ b : Fin 256, 255 ^^^ b.1 = 255 - b.1 := by decide +kernel
  exact congrArg _ (h2 ⟨b, h⟩)

theorem told_any (b : Nat) (w : World) (h : b < 256) :
    Calls Tryz.prog 252 #[.int .u8 b] w fun e w' => e = .returned (.int .i64 (td b)) ∧ w = w' := by
  have hf := Lib.hid (td_form b h)
  have hsg : IntKind.u8.signed = false := rfl
  have hx := Lib.hid (not_form b h)
  go_enter Tryz.func252, Tryz.ntmps252
  go_wp2_with fail
  rw [hx.out]
  refine (Tryz.bits_LeadingZeros8 _ _ (by omega) (by omega)).mono ?_
  rintro e w1 ⟨rfl, rfl⟩
  rw [Int.toNat_natCast]
  have hb1 : (Lib.bitLen (255 - b) : Int) ≤ 8 := by
    have h1 := hf.out
    have h2 : 1 ≤ td b := by unfold td; repeat' split
                             all_goals omega
    omega
  go_wp2
  go_ret
  exact ⟨ret_int hf.out, rfl⟩

end Go.Proofs.YtifobiajjhknbaaGreatDoor.V

namespace Go.Proofs.YtifobiajjhknbaaGreatDoor.V
open Go.RowKit

/-- Bytes as a number, the highest first. -/
def vl (l : List UInt8) : Nat := l.foldl (fun s d => s * 256 + d.toNat) 0
theorem foldl_add (l : List UInt8) : ∀ s, l.foldl (fun s d => s * 256 + d.toNat) s = s * 256 ^ l.length + vl l := by
  induction l with
  | nil => intro s; simp [vl]
  | cons d l ih =>
    intro s
    have h0 := ih (s * 256 + d.toNat)
    have h1 : vl (d :: l) = d.toNat * 256 ^ l.length + vl l := by
      have := ih (0 * 256 + d.toNat)
      simpa [vl] using this
    simp only [List.foldl_cons, List.length_cons]
    rw [h0, h1, Nat.pow_succ, Nat.add_mul]
    have e : s * 256 * 256 ^ l.length = s * (256 ^ l.length * 256) := by ac_rfl
    rw [e, Nat.add_assoc]
theorem vl_cons (d : UInt8) (l : List UInt8) : vl (d :: l) = d.toNat * 256 ^ l.length + vl l := by
  have := foldl_add l d.toNat
  simpa [vl] using this
theorem vl_lt (l : List UInt8) : vl l < 256 ^ l.length := by
  induction l with
  | nil => simp [vl]
  | cons d l ih =>
    rw [vl_cons, List.length_cons, Nat.pow_succ]
    have hd := d.toNat_lt
    have : d.toNat * 256 ^ l.length + 256 ^ l.length ≤ 256 ^ l.length * 256 := by
      have h : (d.toNat + 1) * 256 ^ l.length ≤ 256 * 256 ^ l.length := Nat.mul_le_mul_right _ (by omega)
      rw [Nat.add_mul] at h
      omega
    omega
theorem mod_step (K s t d : Nat) (hK : 0 < K) (hd : d < 256) (h : s = t % (K * 256)) : s * 256 % (K * 256) + d = (t * 256 + d) % (K * 256) := by
  have e1 : s * 256 % (K * 256) = (s % K) * 256 := Nat.mul_mod_mul_right 256 s K
  have e3 : s % K = t % K := by rw [h, Nat.mod_mul_right_mod]
  have hr := Nat.mod_lt t hK
  have e2 : t * 256 + d = ((t % K) * 256 + d) + (t / K) * (K * 256) := by
    have := Nat.mod_add_div' t K
    have e : (t / K) * (K * 256) = (t / K * K) * 256 := by ac_rfl
    rw [e]
    generalize t / K * K = q at *
    omega
  have hlt : (t % K) * 256 + d < K * 256 := by
    have : (t % K + 1) * 256 ≤ K * 256 := Nat.mul_le_mul_right _ hr
    omega
  rw [e1, e3, e2, Nat.add_mul_mod_self_right, Nat.mod_eq_of_lt hlt]
theorem acc_fold (l : List UInt8) : ∀ s t, s = t % 18446744073709551616 → l.foldl (fun s d => s * 256 % 18446744073709551616 + d.toNat) s = l.foldl (fun s d => s * 256 + d.toNat) t % 18446744073709551616 := by
  induction l with
  | nil => intro s t h; exact h
  | cons d l ih =>
    intro s t h
    exact ih _ _ (mod_step 72057594037927936 s t d.toNat (by omega) (by simpa using d.toNat_lt) h)
theorem acc_vl (l : List UInt8) : acc 0 l = vl l % 18446744073709551616 := acc_fold l 0 0 rfl

theorem be_vl (l : List UInt8) : be l.length (vl l) = l := by
  induction l with
  | nil => rfl
  | cons d l ih =>
    have hlt := vl_lt l
    simp only [List.length_cons, be]
    rw [vl_cons, Nat.add_comm, Nat.add_mul_div_right _ _ (Nat.pow_pos (by omega)), Nat.div_eq_of_lt hlt, be_add, ih, Nat.zero_add]
    simp
/-- The number that w bytes tell, the mark taken off. -/
def dc (w : Nat) (l : List UInt8) : Nat := vl l - mk w * 256 ^ (w - 1)

theorem td_rng (b : Nat) (h : b < 256) : 1 ≤ td b ∧ td b ≤ 9 ∧ mk (td b) ≤ b ∧ b - mk (td b) < 2 ^ (8 - td b) ∧ (b - mk (td b)) % 2 ^ (8 - td b) = b - mk (td b) ∧ mk (td b) % 2 ^ (8 - td b) = 0 := by
  have : ∀ b : Fin 256, 1 ≤ td b.1 ∧ td b.1 ≤ 9 ∧ mk (td b.1) ≤ b.1 ∧ b.1 - mk (td b.1) < 2 ^ (8 - td b.1) ∧ (b.1 - mk (td b.1)) % 2 ^ (8 - td b.1) = b.1 - mk (td b.1) ∧ mk (td b.1) % 2 ^ (8 - td b.1) = 0 := by decide +kernel
  exact this ⟨b, h⟩

/-- w bytes whose first one tells w. -/
theorem vl_split (b : UInt8) (l : List UInt8) (w : Nat) (hw : w = td b.toNat) (hl : l.length + 1 = w) : vl (b :: l) = mk w * 256 ^ (w - 1) + dc w (b :: l) ∧ dc w (b :: l) < 18446744073709551616 ∧ (w < 9 → dc w (b :: l) < 2 ^ (7 * w)) := by
  have hb := b.toNat_lt
  obtain ⟨h1, h9, hm, hr, _, _⟩ := td_rng b.toNat (by simpa using hb)
  rw [← hw] at h1 h9 hm hr
  have hlt := vl_lt l
  have hlen : l.length = w - 1 := by omega
  rw [hlen] at hlt
  have hge : mk w * 256 ^ (w - 1) ≤ vl (b :: l) := by
    rw [vl_cons, hlen]
    exact Nat.le_trans (Nat.mul_le_mul_right _ hm) (Nat.le_add_right _ _)
  have hsub : dc w (b :: l) = (b.toNat - mk w) * 256 ^ (w - 1) + vl l := by
    unfold dc
    rw [vl_cons, hlen, Nat.sub_mul]
    have := Nat.mul_le_mul_right (256 ^ (w - 1)) hm
    omega
  refine ⟨by unfold dc; omega, ?_, ?_⟩
  · rw [hsub]
    obtain ⟨r, hr'⟩ : ∃ r, r = b.toNat - mk w := ⟨_, rfl⟩
    rw [← hr'] at hr ⊢
    have hc : w = 1 ∨ w = 2 ∨ w = 3 ∨ w = 4 ∨ w = 5 ∨ w = 6 ∨ w = 7 ∨ w = 8 ∨ w = 9 := by omega
    clear hsub hge hw hl hlen hm
    rcases hc with rfl | rfl | rfl | rfl | rfl | rfl | rfl | rfl | rfl <;> simp only [Nat.reduceSub, Nat.reducePow] at hr hlt ⊢ <;> omega
  · intro hw9
    rw [hsub]
    obtain ⟨r, hr'⟩ : ∃ r, r = b.toNat - mk w := ⟨_, rfl⟩
    rw [← hr'] at hr ⊢
    have hc : w = 1 ∨ w = 2 ∨ w = 3 ∨ w = 4 ∨ w = 5 ∨ w = 6 ∨ w = 7 ∨ w = 8 := by omega
    clear hsub hge hw hl hlen hm
    rcases hc with rfl | rfl | rfl | rfl | rfl | rfl | rfl | rfl <;> simp only [Nat.reduceSub, Nat.reducePow, Nat.reduceMul] at hr hlt ⊢ <;> omega

/-- The width of what w bytes tell is w at most; it is w just if they are that number's bytes. -/
theorem dc_width (b : UInt8) (l : List UInt8) (w : Nat) (hw : w = td b.toNat) (hl : l.length + 1 = w) : wd (dc w (b :: l)) ≤ w ∧ (wd (dc w (b :: l)) = w ↔ encL (dc w (b :: l)) = b :: l) := by
  obtain ⟨h1, h2, h3⟩ := vl_split b l w hw hl
  have hb := b.toNat_lt
  have h9 := (td_rng b.toNat (by simpa using hb)).2.1
  rw [← hw] at h9
  have hle : wd (dc w (b :: l)) ≤ w := by
    rcases Nat.lt_or_ge w 9 with h | h
    · rcases Nat.lt_or_ge w (wd (dc w (b :: l))) with h' | h'
      · have := wd_min _ w h' (by omega)
        have := h3 h
        omega
      · exact h'
    · have := wd_le (dc w (b :: l)); omega
  refine ⟨hle, fun h => ?_, fun h => ?_⟩
  · rw [encL_be _ h2]
    unfold nb
    rw [h, ← h1]
    have := be_vl (b :: l)
    rw [List.length_cons, hl] at this
    exact this
  · have := encL_length _ h2
    rw [h, List.length_cons] at this
    omega

/-- What comes next: the number, its width, the error. -/
def nx (l : List UInt8) : Nat × Nat × Nat :=
  match l with
  | [] => (0, 0, 10)
  | b :: r => if r.length + 1 < td b.toNat then (0, 0, 10) else
      if wd (dc (td b.toNat) ((b :: r).take (td b.toNat))) < td b.toNat then (0, 0, 11) else (dc (td b.toNat) ((b :: r).take (td b.toNat)), td b.toNat, 0)

theorem nx_cons (b : UInt8) (r : List UInt8) : nx (b :: r) = if r.length + 1 < td b.toNat then (0, 0, 10) else
      if wd (dc (td b.toNat) ((b :: r).take (td b.toNat))) < td b.toNat then (0, 0, 11) else (dc (td b.toNat) ((b :: r).take (td b.toNat)), td b.toNat, 0) := rfl

theorem andnot_disj (M D k : Nat) (hD : D < 2 ^ k) (hM : M % 2 ^ k = 0) (h64 : M < 2 ^ 64) (hk : k ≤ 64) : (M + D) &&& (2 ^ 64 - (M + 1)) = D := by
  rw [← or_add k D M hD hM]
  apply Nat.eq_of_testBit_eq
  intro i
  rw [Nat.testBit_and, Nat.testBit_or, Nat.testBit_two_pow_sub_succ h64]
  obtain ⟨q, hq⟩ : ∃ q, M = 2 ^ k * q := ⟨M / 2 ^ k, by have := Nat.div_add_mod M (2 ^ k); omega⟩
  by_cases hi : i < k
  · have h1 : M.testBit i = false := by rw [hq, Nat.testBit_two_pow_mul]; simp; omega
    rw [h1]
    simp; omega
  · have h2 : D.testBit i = false := Nat.testBit_lt_two_pow (Nat.lt_of_lt_of_le hD (Nat.pow_le_pow_right (by omega) (by omega)))
    rw [h2]
    cases M.testBit i <;> simp

theorem p256 (k : Nat) : (256 : Nat) ^ k = 2 ^ (8 * k) := by rw [Nat.pow_mul]

theorem mk_mult (t : Nat) (h1 : 1 ≤ t) (h9 : t < 9) : mk t * 2 ^ (8 * (t - 1)) % 2 ^ (7 * t) = 0 ∧ mk t * 2 ^ (8 * (t - 1)) < 2 ^ 64 := by
  have : ∀ t : Fin 9, 1 ≤ t.1 → mk t.1 * 2 ^ (8 * (t.1 - 1)) % 2 ^ (7 * t.1) = 0 ∧ mk t.1 * 2 ^ (8 * (t.1 - 1)) < 2 ^ 64 := by decide +kernel
  exact this ⟨t, h9⟩ h1

theorem nx_form (b : UInt8) (r : List UInt8) (t : Nat) (hw : td b.toNat = t) (hl : t ≤ r.length + 1) :
    bits .andNot .u64 ((acc 0 ((b :: r).take t) : Nat) : Int) (IntKind.u64.wrap ((mk t : Int) * 2 ^ (8 * (t - 1)))) = ((dc t ((b :: r).take t) : Nat) : Int) := by
  have hb := b.toNat_lt
  obtain ⟨h1, h9, _⟩ := td_rng b.toNat (by simpa using hb)
  rw [hw] at h1 h9
  obtain ⟨k, rfl⟩ : ∃ k, t = k + 1 := ⟨t - 1, by omega⟩
  rw [List.take_succ_cons]
  have hlen : (r.take k).length + 1 = k + 1 := by simp; omega
  obtain ⟨e1, e2, e3⟩ := vl_split b (r.take k) (k + 1) hw.symm hlen
  rw [acc_vl]
  generalize dc (k + 1) (b :: r.take k) = D at *
  generalize vl (b :: r.take k) = V at *
  rw [p256] at e1
  rcases Nat.lt_or_ge (k + 1) 9 with h | h
  · obtain ⟨m1, m2⟩ := mk_mult (k + 1) h1 h
    have hD := e3 h
    generalize hM : mk (k + 1) * 2 ^ (8 * (k + 1 - 1)) = M at *
    have hc : ((mk (k + 1) : Nat) : Int) * 2 ^ (8 * (k + 1 - 1)) = (M : Int) := by rw [← hM]; push_cast; rfl
    rw [hc]
    have hw64 : IntKind.u64.wrap (M : Int) = (M : Int) := by rw [IntKind.wrap_u64]; omega
    have hV : V < 18446744073709551616 := by
      have hp : 2 ^ (7 * (k + 1)) ≤ 2 ^ 56 := Nat.pow_le_pow_right (by omega) (by omega)
      have hx : M ≤ 2 ^ 64 - 2 ^ 56 := by
        rw [← hM]
        have : ∀ t : Fin 9, 1 ≤ t.1 → mk t.1 * 2 ^ (8 * (t.1 - 1)) ≤ 2 ^ 64 - 2 ^ 56 := by decide +kernel
        exact this ⟨k + 1, h⟩ h1
      omega
    rw [hw64, Nat.mod_eq_of_lt hV, u64_andNot_nat _ _ hV (by omega), e1]
    congr 1
    rw [show 18446744073709551615 - M = 2 ^ 64 - (M + 1) by omega]
    exact andnot_disj M D (7 * (k + 1)) hD m1 m2 (by omega)
  · obtain rfl : k = 8 := by omega
    have m9 : mk 9 = 255 := mk_vals.2.2.2.2.2.2.2.2
    have hw64 : IntKind.u64.wrap (((mk (8 + 1) : Nat) : Int) * 2 ^ (8 * (8 + 1 - 1))) = ((0 : Nat) : Int) := by
      show IntKind.u64.wrap (((mk 9 : Nat) : Int) * 2 ^ 64) = _
      rw [m9, IntKind.wrap_u64]; omega
    rw [hw64, u64_andNot_nat _ _ (Nat.mod_lt _ (by omega)) (by omega)]
    congr 1
    have e4 : V % 18446744073709551616 = D := by
      rw [e1]
      show (mk 9 * 2 ^ 64 + D) % 18446744073709551616 = D
      rw [m9]; omega
    rw [e4]
    have := andnot_disj 0 D 64 e2 (by omega) (by omega) (Nat.le_refl _)
    simpa using this

end Go.Proofs.YtifobiajjhknbaaGreatDoor.V

namespace Go.Proofs.YtifobiajjhknbaaGreatDoor.O

theorem in_bounds {k n : Int} (h : inK k n = true) : (-9223372036854775808 ≤ n ∧ n ≤ 9223372036854775807) ∧ (k ≠ 1 → 0 ≤ n ∧ n ≤ 511) ∧ (k = 0 → n = 0) := by
  have h := of_decide_eq_true h
  unfold lo hi at h
  repeat' split at h
  all_goals omega

/-- A text up to its first blank. -/
def upto (l : List UInt8) : List UInt8 := l.takeWhile (fun c => decide (c ≠ 32))
theorem upto_of {s r : List UInt8} (hs : ∀ c ∈ s, c ≠ 32) (hr : r = [] ∨ ∃ r', r = 32 :: r') : upto (s ++ r) = s := by
  unfold upto
  rw [List.takeWhile_append_of_pos (by intro c hc; simpa using hs c hc)]
  rcases hr with rfl | ⟨r', rfl⟩
  · simp
  · simp
theorem split_at {s t r q : List UInt8} (hs : ∀ c ∈ s, c ≠ 32) (ht : ∀ c ∈ t, c ≠ 32) (hr : r = [] ∨ ∃ r', r = 32 :: r') (hq : q = [] ∨ ∃ q', q = 32 :: q') (h : s ++ r = t ++ q) : s = t ∧ r = q := by
  have e := congrArg upto h
  rw [upto_of hs hr, upto_of ht hq] at e
  subst e
  exact ⟨rfl, List.append_cancel_left h⟩

theorem itoa_no (n : Int) : ∀ c ∈ Lib.itoa n, c ≠ 32 := by
  have hd : ∀ u, ∀ c ∈ Lib.decDigits u, c ≠ 32 := fun u c hc e => by
    have := W.dec_digits u c hc
    rw [e] at this
    exact absurd this (by decide)
  intro c hc
  rcases Int.lt_or_le n 0 with h | h
  · rw [W.itoa_minus h] at hc
    rcases List.mem_cons.1 hc with rfl | hc
    · decide
    · exact hd _ c hc
  · rw [W.itoa_pos h] at hc
    exact hd _ c hc
theorem nameAt_all {l : List (List UInt8)} {p : List UInt8 → Bool} (h : l.all p = true) (h0 : p [] = true) (n : Int) : p (A.nameAt l n) = true := by
  unfold A.nameAt
  split
  · rcases Nat.lt_or_ge n.toNat l.length with hlt | hge
    · rw [A.getD_at hlt]
      exact List.all_eq_true.1 h _ (List.getElem_mem hlt)
    · rw [A.getD_past hge]; exact h0
  · exact h0
def noSp (s : List UInt8) : Bool := s.all fun c => decide (c ≠ 32)
theorem noSp_mem {s : List UInt8} (h : noSp s = true) : ∀ c ∈ s, c ≠ 32 := fun c hc => by simpa using List.all_eq_true.1 h c hc
theorem word_no (k n : Int) : ∀ c ∈ word k n, c ≠ 32 := by
  unfold word
  split
  · apply noSp_mem
    unfold W.letC
    repeat' split
    all_goals decide
  · split
    · exact noSp_mem (nameAt_all (p := noSp) (by decide) (by decide) n)
    · split
      · exact noSp_mem (nameAt_all (p := noSp) (by decide) (by decide) n)
      · exact itoa_no n
theorem name_no (op : Int) : ∀ c ∈ (rowAt op).name, c ≠ 32 := noSp_mem (rowAt_all (p := fun r => noSp r.name) (by decide) (by decide) op)
theorem part_sp (k n : Int) : partL k n = [] ∨ ∃ r, partL k n = 32 :: r := by
  unfold partL
  split
  · exact .inl rfl
  · exact .inr ⟨_, rfl⟩
theorem rowsN_nodup : (List.range 30).all (fun i => (List.range 30).all fun j => decide ((rowsL.getD i row0).name = (rowsL.getD j row0).name → i = j)) = true := by decide +kernel
theorem name_inj {op op' : Int} (h1 : isOp op = true) (h2 : isOp op' = true) (h : (rowAt op).name = (rowAt op').name) : op = op' := by
  have x1 := isOp_yes h1
  have x2 := isOp_yes h2
  unfold rowAt at h
  rw [if_pos h1, if_pos h2] at h
  have e1 := List.all_eq_true.1 rowsN_nodup op.toNat (List.mem_range.2 (by omega))
  have e2 := List.all_eq_true.1 e1 op'.toNat (List.mem_range.2 (by omega))
  have := of_decide_eq_true e2 h
  omega
end Go.Proofs.YtifobiajjhknbaaGreatDoor.O

namespace Go.Proofs.YtifobiajjhknbaaGreatDoor.O
open Go.RowKit

/-- A row as a value. -/
abbrev rowV (r : Row) : Value := .agg #[.string (str r.name), .int .i64 r.ka, .int .i64 r.kb, .int .i64 r.ta, .int .i64 r.tb, .int .i64 r.la, .int .i64 r.lb, .bool r.hop, .bool r.fin]
abbrev rowZ : Array Value := #[.string ⟨#[]⟩, .int .i64 0, .int .i64 0, .int .i64 0, .int .i64 0, .int .i64 0, .int .i64 0, .bool false, .bool false]
theorem blk9 {w : World} {g : Nat} {t : TypeId} {a0 a1 a2 a3 a4 a5 a6 a7 a8 : Value} (h : Blk w g t #[a0, a1, a2, a3, a4, a5, a6, a7, a8]) :
    w.cell? ⟨g, 0, none⟩ = some a0 ∧ w.cell? ⟨g, 1, none⟩ = some a1 ∧ w.cell? ⟨g, 2, none⟩ = some a2 ∧ w.cell? ⟨g, 3, none⟩ = some a3 ∧ w.cell? ⟨g, 4, none⟩ = some a4 ∧ w.cell? ⟨g, 5, none⟩ = some a5 ∧
      w.cell? ⟨g, 6, none⟩ = some a6 ∧ w.cell? ⟨g, 7, none⟩ = some a7 ∧ w.cell? ⟨g, 8, none⟩ = some a8 := ⟨h.cell 0, h.cell 1, h.cell 2, h.cell 3, h.cell 4, h.cell 5, h.cell 6, h.cell 7, h.cell 8⟩
theorem keep9 {w w1 : World} {g : Nat} (h : Keep NoB w w1) (hg : w.heap.size ≤ g) (u0 u1 u2 u3 u4 u5 u6 u7 u8 : Value) :
    Keep NoB w (((((((((w1.setCell ⟨g, 0, none⟩ u0).setCell ⟨g, 1, none⟩ u1).setCell ⟨g, 2, none⟩ u2).setCell ⟨g, 3, none⟩ u3).setCell ⟨g, 4, none⟩ u4).setCell ⟨g, 5, none⟩ u5).setCell ⟨g, 6, none⟩ u6).setCell ⟨g, 7, none⟩ u7).setCell ⟨g, 8, none⟩ u8) := by
  have hn : ∀ i, (⟨g, i, none⟩ : Addr).block < w.heap.size → NoB (⟨g, i, none⟩ : Addr).block := fun i hl => by have : g < w.heap.size := hl; omega
  exact ((((((((h.setCell (hn 0) _).setCell (hn 1) _).setCell (hn 2) _).setCell (hn 3) _).setCell (hn 4) _).setCell (hn 5) _).setCell (hn 6) _).setCell (hn 7) _).setCell (hn 8) _

set_option maxRecDepth 100000 in
set_option maxHeartbeats 4000000 in
theorem rowOf_any (op : Int) (r : Row) (w : World) (hr : Hid (rowAt op = r)) :
    Calls Tryz.prog 99 #[.int .i64 op] w fun e w' => e = .returned (.tuple #[rowV r, .bool (isOp op)]) ∧ Keep NoB w w' := by
  have hK := (Keep.refl NoB w).alloc (.cells rowZ 125)
  cases ho : isOp op
  · have hb := isOp_no ho
    have hr0 := hr.out
    rw [rowAt_no ho] at hr0
    subst hr0
    clear ho hr
    by_cases h0 : op < 0
    · clear hb
      go_enter Tryz.func99, Tryz.ntmps99
      go_wp2
      exact bodyPost_ret (v := .tuple #[rowV row0, .bool false]) (by simp [results, Tryz.results99, go_sem, row0]) rfl ⟨rfl, hK⟩
    · have h0' : decide (op < 0) = false := by simpa using h0
      have h1 : 30 ≤ op := by omega
      clear hb
      go_enter Tryz.func99, Tryz.ntmps99
      go_wp2
      exact bodyPost_ret (v := .tuple #[rowV row0, .bool false]) (by simp [results, Tryz.results99, go_sem, row0]) rfl ⟨rfl, hK⟩
  · obtain ⟨h0, h1⟩ := isOp_yes ho
    have hix : ∀ w, (Instr.index 235 (.agg tableC) (.int .i64 op)).run Tryz.prog w = .ok (rowV r) w := fun w => by
      have := run_index_row op ho w
      rw [hr.out] at this
      exact this
    clear ho hr
    have h0' : decide (op < 0) = false := by simpa using h0
    have h1' : decide (30 ≤ op) = false := by simpa using h1
    go_enter Tryz.func99, Tryz.ntmps99
    go_wp2_with fail
    refine (table_any _).mono ?_
    rintro e w1 ⟨rfl, k1⟩
    have b1 := (Blk.new w 125 rowZ).keep k1 id
    have f0 := fun i => b1.frozen i
    obtain ⟨c0, c1, c2, c3, c4, c5, c6, c7, c8⟩ := blk9 b1
    have hz := b1.lt
    go_wp2
    exact bodyPost_ret (v := .tuple #[rowV r, .bool true]) (by simp [results, Tryz.results99, go_sem, c0, c1, c2, c3, c4, c5, c6, c7, c8]) rfl ⟨rfl, keep9 (keepN hK k1) (Nat.le_refl _) _ _ _ _ _ _ _ _ _⟩

set_option maxHeartbeats 1000000 in
theorem has_any (k n : Int) (v : Value) (w : World) (hv : ∃ sh gu, v = opV k sh gu) :
    Calls Tryz.prog 101 #[v, .int .i64 n] w fun e w' => e = .returned (.bool (inK k n)) ∧ Keep NoB w w' := by
  obtain ⟨sh, gu, rfl⟩ := hv
  unfold opV
  by_cases h1 : lo k ≤ n
  · by_cases h2 : n ≤ hi k
    · have HX : Hid (inK k n = true) := decide_eq_true ⟨h1, h2⟩
      go_enter Tryz.func101, Tryz.ntmps101
      go_wp2
      go_ret
      exact ⟨by rw [HX.out]; rfl, (Keep.refl NoB w).alloc _⟩
    · have HX : Hid (inK k n = false) := decide_eq_false fun h => h2 h.2
      have h2' : decide (n ≤ hi k) = false := by simpa using h2
      clear h2
      go_enter Tryz.func101, Tryz.ntmps101
      go_wp2
      go_ret
      exact ⟨by rw [HX.out]; rfl, (Keep.refl NoB w).alloc _⟩
  · have HX : Hid (inK k n = false) := decide_eq_false fun h => h1 h.1
    have h1' : decide (lo k ≤ n) = false := by simpa using h1
    clear h1
    go_enter Tryz.func101, Tryz.ntmps101
    go_wp2
    go_ret
    exact ⟨by rw [HX.out]; rfl, (Keep.refl NoB w).alloc _⟩

end Go.Proofs.YtifobiajjhknbaaGreatDoor.O
