/-
  The document's Ends and Goes. Conditions: none but that numbers fit an int64.
  The document's names and Name. No conditions.
  The document's find and Of. No conditions.
  The plain mathematics of Read, the code's and the document's: which value a text could be, and that both read just the texts of values. No program, no conditions.
  What Text answers, the code's and the document's. Conditions: the list lies in memory, the letters stand.
  What lettered and Types answer, the code's and the document's. Conditions: the letters stand; no more than 4096 bytes.
  The plain mathematics of reading an instruction from text: what is guessed of a text, and that it is the instruction whose text it is, if there is one. No program, no conditions.
  What Types answers. Conditions: the letters stand.
  What Show answers, the code's and the document's, of any value; the document's digits. Conditions: the variables that it reads hold what their initialisers lay; the value's number fits an int64.
-/
import Derived.Lib.AtoiBound
import Derived.Lib.DecodeN
import Derived.Lib.IndexBytes
import Derived.Lib.IndexMore
import Derived.Lib.OthersKept
import Derived.Lib.Strings
import Derived.Test.YtpkcjokkadfhcaaGreatDoorQ4
import Derived.Test.YtpkcjokkadfhcaaGreatDoorQ2
import Derived.Test.YtpkcjokkadfhcaaGreatDoorQ3
import Derived.Test.YtpkcjokkadfhcaaGreatDoorQ7
import Derived.Test.YtpkcjokkadfhcaaGreatDoorQ5
namespace Go.Proofs.YtpkcjokkadfhcaaGreatDoor.O
open Go.RowKit

theorem op_cases {op : Int} (h : isOp op = true) : op = 0 ∨ op = 1 ∨ op = 2 ∨ op = 3 ∨ op = 4 ∨ op = 5 ∨ op = 6 ∨ op = 7 ∨ op = 8 ∨ op = 9 ∨ op = 10 ∨ op = 11 ∨ op = 12 ∨ op = 13 ∨ op = 14 ∨ op = 15 ∨ op = 16 ∨ op = 17 ∨ op = 18 ∨ op = 19 ∨ op = 20 ∨ op = 21 ∨ op = 22 ∨ op = 23 ∨ op = 24 ∨ op = 25 ∨ op = 26 ∨ op = 27 ∨ op = 28 ∨ op = 29 := by
  have := isOp_yes h
  omega
theorem fin_at {op : Int} (h : isOp op = true) : (rowAt op).fin = ((op == 18) || ((op == 24) || ((op == 25) || (op == 27)))) := by
  rcases op_cases h with rfl | rfl | rfl | rfl | rfl | rfl | rfl | rfl | rfl | rfl | rfl | rfl | rfl | rfl | rfl | rfl | rfl | rfl | rfl | rfl | rfl | rfl | rfl | rfl | rfl | rfl | rfl | rfl | rfl | rfl <;> rfl
theorem ten_at {op : Int} (h : isOp op = true) : decide ((rowAt op).ka = 10) = ((op == 18) || (op == 19)) := by
  rcases op_cases h with rfl | rfl | rfl | rfl | rfl | rfl | rfl | rfl | rfl | rfl | rfl | rfl | rfl | rfl | rfl | rfl | rfl | rfl | rfl | rfl | rfl | rfl | rfl | rfl | rfl | rfl | rfl | rfl | rfl | rfl <;> rfl
theorem rcheck_gen (op a b c : Int) (w : World) (h : chk op a b = c) (ha : I64 a) (hb : I64 b) :
    Calls Tryz.prog 15 #[instV op a b] w fun e w' => e = .returned (.int .i64 c) ∧ Keep NoB w w' := by subst h; exact rcheck_any op a b w ha hb

set_option maxHeartbeats 2000000 in
theorem rends_any (op a b : Int) (w : World) (ha : I64 a) (hb : I64 b) :
    Calls Tryz.prog 30 #[instV op a b] w fun e w' => e = .returned (.bool (endsI op a b)) ∧ Keep NoB w w' := by
  have bx0 := Blk.new w 23 #[.int .i64 op, .int .i64 a, .int .i64 b]
  have gK := (Keep.refl NoB w).alloc (.cells #[.int .i64 op, .int .i64 a, .int .i64 b] 23)
  cases hok : okI op a b
  · have HC := Lib.hid (fun w => rcheck_gen op a b 40 w (by unfold chk; rw [hok]; rfl) ha hb)
    have HX : Hid (endsI op a b = false) := by show _ = _; unfold endsI; rw [rowR_no hok]; rfl
    clear hok ha hb
    go_enter Tryz.func30, Tryz.ntmps30
    go_wp2_with fail
    refine (HC.out _).mono ?_
    rintro e w1 ⟨rfl, k1⟩
    go_wp2
    go_ret
    exact ⟨by rw [HX.out]; rfl, keepN gK k1⟩
  · have HC := Lib.hid (fun w => rcheck_gen op a b 0 w (by unfold chk; rw [hok]; rfl) ha hb)
    have HX : Hid (endsI op a b = ((op == 18) || ((op == 24) || ((op == 25) || (op == 27))))) := by show _ = _; unfold endsI; rw [rowR_ok hok, fin_at (ok_op hok).1]
    clear hok ha hb
    cases e1 : op == 18
    · cases e2 : op == 24
      · cases e3 : op == 25
        · cases e4 : op == 27
          · rw [e1, e2, e3, e4] at HX
            go_enter Tryz.func30, Tryz.ntmps30
            go_wp2_with fail
            refine (HC.out _).mono ?_
            rintro e w1 ⟨rfl, k1⟩
            have bx := bx0.keep k1 id
            obtain ⟨x0, x1, x2⟩ := blk_inst bx
            go_wp2
            go_ret
            exact ⟨by rw [HX.out]; rfl, keepN gK k1⟩
          · rw [e1, e2, e3, e4] at HX
            go_enter Tryz.func30, Tryz.ntmps30
            go_wp2_with fail
            refine (HC.out _).mono ?_
            rintro e w1 ⟨rfl, k1⟩
            have bx := bx0.keep k1 id
            obtain ⟨x0, x1, x2⟩ := blk_inst bx
            go_wp2
            go_ret
            exact ⟨by rw [HX.out]; rfl, keepN gK k1⟩
        · rw [e1, e2, e3] at HX
          go_enter Tryz.func30, Tryz.ntmps30
          go_wp2_with fail
          refine (HC.out _).mono ?_
          rintro e w1 ⟨rfl, k1⟩
          have bx := bx0.keep k1 id
          obtain ⟨x0, x1, x2⟩ := blk_inst bx
          go_wp2
          go_ret
          exact ⟨by rw [HX.out]; rfl, keepN gK k1⟩
      · rw [e1, e2] at HX
        go_enter Tryz.func30, Tryz.ntmps30
        go_wp2_with fail
        refine (HC.out _).mono ?_
        rintro e w1 ⟨rfl, k1⟩
        have bx := bx0.keep k1 id
        obtain ⟨x0, x1, x2⟩ := blk_inst bx
        go_wp2
        go_ret
        exact ⟨by rw [HX.out]; rfl, keepN gK k1⟩
    · rw [e1] at HX
      go_enter Tryz.func30, Tryz.ntmps30
      go_wp2_with fail
      refine (HC.out _).mono ?_
      rintro e w1 ⟨rfl, k1⟩
      have bx := bx0.keep k1 id
      obtain ⟨x0, x1, x2⟩ := blk_inst bx
      go_wp2
      go_ret
      exact ⟨by rw [HX.out]; rfl, keepN gK k1⟩

set_option maxHeartbeats 2000000 in
theorem rgoes_any (op a b : Int) (w : World) (ha : I64 a) (hb : I64 b) :
    Calls Tryz.prog 23 #[instV op a b] w fun e w' => e = .returned (.tuple #[.int .i64 (goesN op a b), .bool (goesI op a b)]) ∧ Keep NoB w w' := by
  have bx0 := Blk.new w 23 #[.int .i64 op, .int .i64 a, .int .i64 b]
  have gK := (Keep.refl NoB w).alloc (.cells #[.int .i64 op, .int .i64 a, .int .i64 b] 23)
  cases hok : okI op a b
  · have HC := Lib.hid (fun w => rcheck_gen op a b 40 w (by unfold chk; rw [hok]; rfl) ha hb)
    have h1 : goesI op a b = false := by unfold goesI; rw [rowR_no hok]; rfl
    have HX : Hid (goesN op a b = 0 ∧ goesI op a b = false) := ⟨by unfold goesN; rw [if_neg (by rw [h1]; decide)], h1⟩
    clear hok ha hb h1
    go_enter Tryz.func23, Tryz.ntmps23
    go_wp2_with fail
    refine (HC.out _).mono ?_
    rintro e w1 ⟨rfl, k1⟩
    go_wp2
    go_ret2
    exact ⟨pr2 HX.out.1.symm HX.out.2.symm, keepN gK k1⟩
  · have HC := Lib.hid (fun w => rcheck_gen op a b 0 w (by unfold chk; rw [hok]; rfl) ha hb)
    have h0 : goesI op a b = ((op == 18) || (op == 19)) := by unfold goesI; rw [rowR_ok hok, ten_at (ok_op hok).1]
    clear hok ha hb
    by_cases u1 : op = 18
    · have e1 : (op != 18) = false := by simp [u1]
      have h1 : goesI op a b = true := by rw [h0, u1]; rfl
      have HX : Hid (goesN op a b = a ∧ goesI op a b = true) := ⟨by unfold goesN; rw [if_pos h1], h1⟩
      clear h0 h1 u1
      go_enter Tryz.func23, Tryz.ntmps23
      go_wp2_with fail
      refine (HC.out _).mono ?_
      rintro e w1 ⟨rfl, k1⟩
      have bx := bx0.keep k1 id
      obtain ⟨x0, x1, x2⟩ := blk_inst bx
      go_wp2
      go_ret2
      exact ⟨pr2 HX.out.1.symm HX.out.2.symm, keepN gK k1⟩
    · have e1 : (op != 18) = true := by simp [u1]
      by_cases u2 : op = 19
      · have e2 : (op != 19) = false := by simp [u2]
        have h1 : goesI op a b = true := by rw [h0, u2]; rfl
        have HX : Hid (goesN op a b = a ∧ goesI op a b = true) := ⟨by unfold goesN; rw [if_pos h1], h1⟩
        clear h0 h1 u1 u2
        go_enter Tryz.func23, Tryz.ntmps23
        go_wp2_with fail
        refine (HC.out _).mono ?_
        rintro e w1 ⟨rfl, k1⟩
        have bx := bx0.keep k1 id
        obtain ⟨x0, x1, x2⟩ := blk_inst bx
        go_wp2
        go_ret2
        exact ⟨pr2 HX.out.1.symm HX.out.2.symm, keepN gK k1⟩
      · have e2 : (op != 19) = true := by simp [u2]
        have h1 : goesI op a b = false := by rw [h0]; simp [u1, u2]
        have HX : Hid (goesN op a b = 0 ∧ goesI op a b = false) := ⟨by unfold goesN; rw [if_neg (by rw [h1]; decide)], h1⟩
        clear h0 h1 u1 u2
        go_enter Tryz.func23, Tryz.ntmps23
        go_wp2_with fail
        refine (HC.out _).mono ?_
        rintro e w1 ⟨rfl, k1⟩
        have bx := bx0.keep k1 id
        obtain ⟨x0, x1, x2⟩ := blk_inst bx
        go_wp2
        go_ret2
        exact ⟨pr2 HX.out.1.symm HX.out.2.symm, keepN gK k1⟩

end Go.Proofs.YtpkcjokkadfhcaaGreatDoor.O

namespace Go.Proofs.YtpkcjokkadfhcaaGreatDoor.O
open Go.RowKit

def namesC : Array Value := (rowsL.map fun r => Value.string (str r.name)).toArray
theorem namesC_at (k : Nat) (hk : k < 30) : namesC[k]? = some (.string (str (rowAt (k : Int)).name)) := by
  have h : isOp (k : Int) = true := decide_eq_true ⟨by omega, by omega⟩
  obtain ⟨h2, e⟩ := rowAt_yes h
  have hkl : k < rowsL.length := by rw [rows_length]; exact hk
  have e2 : rowAt (k : Int) = rowsL[k] := by rw [e]; rfl
  rw [e2]
  unfold namesC
  simp [hkl]

set_option maxRecDepth 100000 in
set_option maxHeartbeats 2000000 in
theorem rnames_any (w : World) :
    Calls Tryz.prog 53 #[] w fun e w' => e = .returned (.slice (some ⟨w.heap.size, 0, none⟩) 30 30) ∧ w' = w.alloc (.cells namesC 9) := by
  go_enter Tryz.func53, Tryz.ntmps53
  go_wp2
  go_ret
  exact ⟨rfl, by kernel_rfl⟩

set_option maxHeartbeats 2000000 in
theorem rname_any (op : Int) (w : World) :
    Calls Tryz.prog 28 #[.int .i64 op] w fun e w' => e = .returned (.string (str (rowAt op).name)) ∧ Keep NoB w w' := by
  cases ho : isOp op
  · have hn := isOp_no ho
    rw [rowAt_no ho]
    by_cases h0 : op < 0
    · have d0 : decide (op < 0) = true := by simpa using h0
      clear hn ho h0
      go_enter Tryz.func28, Tryz.ntmps28
      go_wp2
      go_ret
      exact ⟨rfl, Keep.refl _ _⟩
    · have d0 : decide (op < 0) = false := by simpa using h0
      have d1 : decide (30 ≤ op) = true := by rw [decide_eq_true_iff]; omega
      clear hn ho h0
      go_enter Tryz.func28, Tryz.ntmps28
      go_wp2
      go_ret
      exact ⟨rfl, Keep.refl _ _⟩
  · have hb := isOp_yes ho
    obtain ⟨k, rfl⟩ : ∃ k : Nat, op = (k : Int) := ⟨op.toNat, by omega⟩
    have hk : k < 30 := by omega
    have hcell : (w.alloc (.cells namesC 9)).cell? ⟨w.heap.size, k, none⟩ = some (.string (str (rowAt (k : Int)).name)) := by
      rw [World.cell?_alloc_at _ _ _ _ rfl]
      exact namesC_at k hk
    have d0 : decide ((k : Int) < 0) = false := by rw [decide_eq_false_iff_not]; omega
    have d1 : decide (30 ≤ (k : Int)) = false := by rw [decide_eq_false_iff_not]; omega
    clear ho hb
    generalize str (rowAt (k : Int)).name = s at hcell ⊢
    go_enter Tryz.func28, Tryz.ntmps28
    go_wp2_with fail
    refine (rnames_any _).mono ?_
    rintro e w1 ⟨rfl, rfl⟩
    go_wp2
    go_ret
    exact ⟨rfl, (Keep.refl NoB w).alloc _⟩

end Go.Proofs.YtpkcjokkadfhcaaGreatDoor.O

namespace Go.Proofs.YtpkcjokkadfhcaaGreatDoor.O
open Go.RowKit

/-- The name of a number, as the program holds it. -/
def nm (k : Nat) : ByteArray := str (rowAt (k : Int)).name
/-- The first number from k on, of n, that has the name; -1, if none has it. -/
def findFrom (S : ByteArray) : Nat → Nat → Int
  | 0, _ => -1
  | n + 1, k => if nm k = S then (k : Int) else findFrom S n (k + 1)
def findI (S : ByteArray) : Int := findFrom S 30 0
theorem find_yes {S : ByteArray} {k : Nat} (hk : k < 30) (h : nm k = S) : findFrom S (30 - k) k = k := by
  obtain ⟨n, hn⟩ : ∃ n, 30 - k = n + 1 := ⟨29 - k, by omega⟩
  rw [hn, findFrom, if_pos h]
theorem find_no {S : ByteArray} {k : Nat} (hk : k < 30) (h : nm k ≠ S) : findFrom S (30 - k) k = findFrom S (30 - (k + 1)) (k + 1) := by
  obtain ⟨n, hn⟩ : ∃ n, 30 - k = n + 1 := ⟨29 - k, by omega⟩
  have h2 : 30 - (k + 1) = n := by omega
  rw [hn, h2, findFrom, if_neg h]

set_option maxHeartbeats 2000000 in
theorem rfind_any (b : Nat) (S : ByteArray) (w : World) (hc : Hid (∀ k : Nat, k < 30 → w.cell? ⟨b, k, none⟩ = some (.string (nm k)))) :
    Calls Tryz.prog 52 #[.slice (some ⟨b, 0, none⟩) 30 30, .string S] w fun e w' => e = .returned (.int .i64 (findI S)) ∧ Keep NoB w w' := by
  go_enter Tryz.func52, Tryz.ntmps52
  go_wp2
  go_loopw [5] (fun i wr => ∃ k : Nat, k ≤ 30 ∧ i = .int .i64 (k : Int) ∧ Hid (findI S = findFrom S (30 - k) k) ∧ Keep NoB w wr) (fun i _ => 30 - (intOf i).toNat)
  case atStart => exact ⟨0, by omega, rfl, rfl, Keep.refl _ _⟩
  case round =>
    obtain ⟨k, hk, rfl, hf, hK⟩ := hrel
    by_cases hlt : k < 30
    · have ca := hK.cell (hc.out k hlt) id
      by_cases he : nm k = S
      · have HF : Hid (findI S = (k : Int)) := by show _ = _; rw [hf.out]; exact find_yes hlt he
        have hq : ((nm k).toList == S.toList) = true := by rw [he]; simp
        clear he hf
        generalize nm k = T at ca hq
        go_wp2
        go_ret
        exact ⟨by rw [HF.out]; rfl, hK⟩
      · have HF : Hid (findI S = findFrom S (30 - (k + 1)) (k + 1)) := by show _ = _; rw [hf.out]; exact find_no hlt he
        have hq : ((nm k).toList == S.toList) = false := by
          rw [beq_eq_false_iff_ne]
          intro h
          rw [ByteArray.toList_eq, ByteArray.toList_eq] at h
          exact he (by cases hx : nm k; cases S; rw [hx] at h; simp at h; rw [h])
        clear he hf
        generalize nm k = T at ca hq
        go_wp2
        go_roundw
        case rel => exact ⟨k + 1, by omega, by go_num, HF, hK⟩
        case measure => simp [intOf]; omega
    · obtain rfl : k = 30 := by omega
      go_wp2
      go_ret
      exact ⟨by rw [hf.out]; rfl, hK⟩

/-- What Of answers. -/
def ofN (S : ByteArray) : Int := if findI S < 0 then 0 else findI S
def ofE (S : ByteArray) : Int := if findI S < 0 then 40 else 0

set_option maxHeartbeats 2000000 in
theorem rof_any (S : ByteArray) (w : World) :
    Calls Tryz.prog 17 #[.string S] w fun e w' => e = .returned (.tuple #[.int .i64 (ofN S), .int .i64 (ofE S)]) ∧ Keep NoB w w' := by
  have hc : Hid (∀ k : Nat, k < 30 → (w.alloc (.cells namesC 9)).cell? ⟨w.heap.size, k, none⟩ = some (.string (nm k))) := fun k hk => by
    rw [World.cell?_alloc_at _ _ _ _ rfl]; exact namesC_at k hk
  have HF := Lib.hid (rfind_any w.heap.size S _ hc)
  clear hc
  by_cases h0 : findI S < 0
  · have HX : Hid (ofN S = 0 ∧ ofE S = 40) := ⟨by unfold ofN; rw [if_pos h0], by unfold ofE; rw [if_pos h0]⟩
    have d0 : decide (findI S < 0) = true := by simpa using h0
    clear h0
    generalize findI S = x at HF d0
    go_enter Tryz.func17, Tryz.ntmps17
    go_wp2_with fail
    refine (rnames_any _).mono ?_
    rintro e w1 ⟨rfl, rfl⟩
    go_wp2_with fail
    refine HF.out.mono ?_
    rintro e w2 ⟨rfl, k2⟩
    go_wp2
    go_ret2
    exact ⟨pr_ii HX.out.1.symm HX.out.2.symm, keepN ((Keep.refl NoB w).alloc _) k2⟩
  · have HX : Hid (ofN S = findI S ∧ ofE S = 0) := ⟨by unfold ofN; rw [if_neg h0], by unfold ofE; rw [if_neg h0]⟩
    have d0 : decide (findI S < 0) = false := by simpa using h0
    clear h0
    generalize findI S = x at HF d0 HX
    go_enter Tryz.func17, Tryz.ntmps17
    go_wp2_with fail
    refine (rnames_any _).mono ?_
    rintro e w1 ⟨rfl, rfl⟩
    go_wp2_with fail
    refine HF.out.mono ?_
    rintro e w2 ⟨rfl, k2⟩
    go_wp2
    go_ret2
    exact ⟨pr_ii HX.out.1.symm HX.out.2.symm, keepN ((Keep.refl NoB w).alloc _) k2⟩

end Go.Proofs.YtpkcjokkadfhcaaGreatDoor.O

namespace Go.Proofs.YtpkcjokkadfhcaaGreatDoor.W
open Go.Lib

/-- The number that ParseInt hands back, whatever the error. -/
def pI (l : List UInt8) : Int := match atoiAll l with | .ok v => v | .range => atoiSat l | _ => 0
/-- A number's place in an int64. -/
def w64 (n : Int) : Int := (n + 9223372036854775808) % 18446744073709551616 - 9223372036854775808
theorem w64_in {n : Int} (h0 : -9223372036854775808 ≤ n) (h1 : n ≤ 9223372036854775807) : w64 n = n := by unfold w64; omega
theorem w64_bounds (n : Int) : -9223372036854775808 ≤ w64 n ∧ w64 n ≤ 9223372036854775807 := by unfold w64; omega
/-- The number that the code guesses of a text. -/
def gN (t : Int) (s : List UInt8) : Int := if s = [110, 105, 108] then 0 else w64 (pI (trimPrefix s (sgn t)) + off t)
/-- Read: the number of the value, if the text is that of one. -/
def rd (t : Int) (s : List UInt8) : Option Int := if showL t (gN t s) = s then some (gN t s) else none

theorem pI_bounds (l : List UInt8) : -9223372036854775808 ≤ pI l ∧ pI l ≤ 9223372036854775807 := by
  unfold pI
  rcases h : atoiAll l with v | _ | _
  · obtain ⟨b1, b2⟩ := Lib.atoiAll_bounds h
    simp only
    omega
  · simp
  · simp only [atoiSat]; split <;> omega
theorem gN_bounds (t : Int) (s : List UInt8) : -9223372036854775808 ≤ gN t s ∧ gN t s ≤ 9223372036854775807 := by
  unfold gN; split
  · omega
  · exact w64_bounds _

theorem trim_sign (x s : List UInt8) : trimPrefix (x ++ s) x = s := by
  unfold trimPrefix hasPrefix
  simp
theorem itoa_not_nil (n : Int) (r : List UInt8) : itoa n ++ r ≠ [110, 105, 108] := by
  obtain ⟨c, q, h, hc⟩ := itoa_cons n
  rw [h]
  intro e
  rw [List.cons_append] at e
  injection e with e _
  subst e
  rcases hc with hc | hc
  · cases hc
  · exact absurd hc (by decide)

/-- Numbers that int64 has. -/
def I64 (n : Int) : Prop := -9223372036854775808 ≤ n ∧ n ≤ 9223372036854775807

/-- The text of a value, not `&`, is guessed. -/
theorem guess_show {t n : Int} (hn : I64 n) (ho : okB t n = true) (h4 : t = 4 → n = 0) : gN t (showL t n) = n := by
  obtain ⟨hn0, hn1⟩ := hn
  cases hz : nilB t n
  · have ht : t ≠ 4 := by
      rintro rfl
      rw [nil_not] at hz; have := h4 rfl; omega
    rw [show_num ho hz ht]
    have ho' := (ok_iff t n).1 ho
    rw [nil_not] at hz
    have hoff : I64 (n - off t) := by
      unfold I64 off
      split <;> omega
    have hne : sgn t ++ itoa (n - off t) ≠ [110, 105, 108] := by
      rcases known_cases (ok_known ho) with rfl | rfl | rfl | rfl
      · have := itoa_not_nil (n - off 1) []; rw [List.append_nil] at this; exact this
      · intro e; injection e with e _; exact absurd e (by decide)
      · intro e; injection e with e _; exact absurd e (by decide)
      · exact absurd rfl ht
    unfold gN
    rw [if_neg hne, trim_sign]
    unfold pI
    rw [atoi_itoa _ hoff.1 hoff.2]
    simp only
    rw [w64_in (by omega) (by omega)]; omega
  · rw [show_nil hz]
    unfold gN
    rw [if_pos rfl, ((nil_iff t n).1 hz).2]

theorem rd_show {t n : Int} (hn : I64 n) (ho : okB t n = true) (h4 : t = 4 → n = 0) : rd t (showL t n) = some n := by
  unfold rd; rw [guess_show hn ho h4, if_pos rfl]

theorem guess_empty (t : Int) : gN t [] = off t := by
  have : trimPrefix [] (sgn t) = [] := by unfold trimPrefix; split <;> simp
  unfold gN
  rw [if_neg (by simp), this]
  show w64 (0 + off t) = off t
  rw [Int.zero_add, w64_in] <;> unfold off <;> split <;> omega
theorem guess_amp : gN 4 [38] = 0 := by decide +kernel

theorem show_ne {t n : Int} (h : okB t n = true) : showL t n ≠ [] := by
  cases hz : nilB t n
  · by_cases h4 : t = 4
    · subst h4
      rw [show_ptr (by rw [nil_not] at hz; rw [ok_iff] at h; omega)]; simp
    · rw [show_num h hz h4]
      obtain ⟨c, r, hc, _⟩ := itoa_cons (n - off t)
      rw [hc]; simp
  · rw [show_nil hz]; simp

/-- What is read of a text has just this, may be, and is no pointer but nil. -/
theorem rd_some {t : Int} {s : List UInt8} {n : Int} (ht : knownB t = true) (h : rd t s = some n) : showL t n = s ∧ okB t n = true ∧ I64 n ∧ (t = 4 → n = 0) := by
  unfold rd at h
  split at h
  · rename_i hs
    injection h with h
    subst h
    have hok : okB t (gN t s) = true := by
      cases ho : okB t (gN t s)
      · rw [show_bad ho] at hs
        subst hs
        rw [guess_empty] at ho
        rw [ok_not] at ho
        have := (known_iff t).1 ht
        unfold off at ho
        split at ho <;> omega
      · rfl
    refine ⟨hs, hok, gN_bounds t s, ?_⟩
    rintro rfl
    rcases Nat.eq_zero_or_pos (gN 4 s).toNat with h0 | h0
    · have := (ok_iff _ _).1 hok; omega
    · exfalso
      rw [show_ptr (by omega)] at hs
      subst hs
      rw [guess_amp] at h0
      simp at h0
  · cases h
/-- Two values of one type that is not P have the same text just if they are the same. -/
theorem show_inj {t a b : Int} (ha : I64 a) (hb : I64 b) (hoa : okB t a = true) (hob : okB t b = true) (h4 : t ≠ 4) (h : showL t a = showL t b) : a = b := by
  have h1 := rd_show ha hoa (fun e => absurd e h4)
  rw [h, rd_show hb hob (fun e => absurd e h4)] at h1
  injection h1 with h1
  exact h1.symm

/-! ### The document's own way of reading -/

/-- The number whose digits a text has, of 1 to 19 of them. -/
def num19 (s : List UInt8) : Option Nat := if 1 ≤ s.length ∧ s.length ≤ 19 ∧ (s.all fun c => decide (48 ≤ c.toNat ∧ c.toNat ≤ 57)) = true then some (spell 0 s) else none
/-- number: 0 and false, or the number and true. -/
def numR (s : List UInt8) : Int × Bool :=
  match s with
  | [] => (0, false)
  | c :: r => if c = 45 then (match num19 r with | some m => (w64 (-(m : Int)), true) | none => (0, false)) else (match num19 s with | some m => (w64 m, true) | none => (0, false))
/-- The digits that it looks at. -/
def digs (t : Int) (s : List UInt8) : List UInt8 := if 1 < t then s.drop 1 else s
/-- The number of the value that it could be. -/
def gR (t : Int) (s : List UInt8) : Int :=
  if (numR (digs t s)).2 = true ∧ t < 4 ∧ s ≠ [110, 105, 108] then (if t = 3 ∧ (numR (digs t s)).1 < 9223372036854775807 then (numR (digs t s)).1 + 1 else (numR (digs t s)).1) else 0
def rdR (t : Int) (s : List UInt8) : Option Int := if s = [] ∨ s = [38] ∨ showL t (gR t s) ≠ s then none else some (gR t s)

theorem spell_lt : ∀ (l : List UInt8) (acc : Nat), (∀ c ∈ l, 48 ≤ c.toNat ∧ c.toNat ≤ 57) → spell acc l < (acc + 1) * 10 ^ l.length
  | [], acc, _ => by simp [spell]
  | c :: r, acc, h => by
    have hc := h c (List.mem_cons_self ..)
    have := spell_lt r (acc * 10 + (c.toNat - 48)) (fun c h' => h c (List.mem_cons_of_mem _ h'))
    have he : spell acc (c :: r) = spell (acc * 10 + (c.toNat - 48)) r := rfl
    rw [he, List.length_cons, Nat.pow_succ]
    have h2 : (acc * 10 + (c.toNat - 48) + 1) * 10 ^ r.length ≤ (acc + 1) * (10 ^ r.length * 10) := by
      rw [Nat.mul_comm (10 ^ r.length) 10, ← Nat.mul_assoc]
      exact Nat.mul_le_mul_right _ (by omega)
    omega

theorem num19_lt {s : List UInt8} {m : Nat} (h : num19 s = some m) : m < 10000000000000000000 := by
  unfold num19 at h
  split at h
  · rename_i hc
    injection h with h
    subst h
    have hd : ∀ c ∈ s, 48 ≤ c.toNat ∧ c.toNat ≤ 57 := fun c hm => by simpa using List.all_eq_true.1 hc.2.2 c hm
    have h1 := spell_lt s 0 hd
    have h2 : 10 ^ s.length ≤ 10 ^ 19 := Nat.pow_le_pow_right (by omega) hc.2.1
    have h3 : (10 : Nat) ^ 19 = 10000000000000000000 := by decide
    omega
  · cases h
theorem numR_bounds (s : List UInt8) : I64 (numR s).1 := by
  unfold I64 numR
  split
  · exact ⟨by simp, by simp⟩
  · split
    · split
      · exact w64_bounds _
      · exact ⟨by simp, by simp⟩
    · split
      · exact w64_bounds _
      · exact ⟨by simp, by simp⟩
theorem gR_bounds (t : Int) (s : List UInt8) : I64 (gR t s) := by
  have h := numR_bounds (digs t s)
  unfold I64 at h ⊢
  unfold gR
  split
  · split <;> omega
  · omega

theorem dec_len (u : Nat) (h : u < 10000000000000000000) : (decDigits u).length ≤ 19 := by
  rw [decDigits_length]
  rcases Nat.lt_or_ge 19 (nDigits u) with h1 | h1
  · exfalso
    obtain ⟨k, hk⟩ : ∃ k, nDigits u = k + 1 := ⟨nDigits u - 1, by omega⟩
    have hlo : ∀ u k, nDigits u = k + 1 → 1 ≤ k → 10 ^ k ≤ u := by
      intro u
      induction u using Nat.strongRecOn with
      | _ u ih =>
        intro k hk h1
        by_cases hs : u < 10
        · rw [nDigits_small hs] at hk; omega
        · rw [nDigits_big hs] at hk
          obtain ⟨j, rfl⟩ : ∃ j, k = j + 1 := ⟨k - 1, by omega⟩
          rw [Nat.pow_succ]
          rcases Nat.eq_zero_or_pos j with rfl | hj
          · simp; omega
          · have := ih (u / 10) (by omega) j (by omega) hj
            omega
    have h2 := hlo u k hk (by omega)
    have h3 : 10 ^ 19 ≤ 10 ^ k := Nat.pow_le_pow_right (by omega) (by omega)
    have h4 : (10 : Nat) ^ 19 = 10000000000000000000 := by decide
    omega
  · exact h1
theorem num19_dec (u : Nat) (h : u < 10000000000000000000) : num19 (decDigits u) = some u := by
  obtain ⟨c, r, hc, _⟩ := dec_cons u
  have hl := dec_len u h
  have hd : ((decDigits u).all fun c => decide (48 ≤ c.toNat ∧ c.toNat ≤ 57)) = true := by
    rw [List.all_eq_true]; intro c hc; simpa using dec_digits u c hc
  unfold num19
  rw [if_pos ⟨by rw [hc]; simp, hl, hd⟩, spell_dec]
theorem numR_itoa (n : Int) (hn : I64 n) : numR (itoa n) = (n, true) := by
  obtain ⟨h0, h1⟩ := hn
  by_cases h : n < 0
  · rw [itoa_minus h]
    unfold numR
    dsimp only
    rw [if_pos rfl, num19_dec _ (by omega)]
    simp only [Prod.mk.injEq, and_true]
    unfold w64; omega
  · obtain ⟨c, r, hc, hd⟩ := dec_cons n.toNat
    have hm := num19_dec n.toNat (by omega)
    rw [itoa_pos (by omega)]
    rw [hc] at hm ⊢
    unfold numR
    have e2 : ¬ c = 45 := by rintro rfl; exact absurd hd (by decide)
    dsimp only
    rw [if_neg e2, hm]
    simp only [Prod.mk.injEq, and_true]
    unfold w64; omega

theorem guessR_show {t n : Int} (hn : I64 n) (ho : okB t n = true) (h4 : t = 4 → n = 0) : gR t (showL t n) = n := by
  cases hz : nilB t n
  · have ht : t ≠ 4 := by
      rintro rfl
      rw [nil_not] at hz; have := h4 rfl; omega
    rw [show_num ho hz ht]
    have ho' := (ok_iff t n).1 ho
    rw [nil_not] at hz
    have hoff : I64 (n - off t) := by
      unfold I64 off at *
      split <;> omega
    have hne : sgn t ++ itoa (n - off t) ≠ [110, 105, 108] := by
      rcases known_cases (ok_known ho) with rfl | rfl | rfl | rfl
      · have := itoa_not_nil (n - off 1) []; rw [List.append_nil] at this; exact this
      · intro e; injection e with e _; exact absurd e (by decide)
      · intro e; injection e with e _; exact absurd e (by decide)
      · exact absurd rfl ht
    have hdg : digs t (sgn t ++ itoa (n - off t)) = itoa (n - off t) := by
      rcases known_cases (ok_known ho) with rfl | rfl | rfl | rfl
      · rfl
      · rfl
      · rfl
      · exact absurd rfl ht
    unfold gR
    rw [hdg, numR_itoa _ hoff, if_pos ⟨rfl, by omega, hne⟩]
    simp only
    unfold I64 at hn hoff
    by_cases h3 : t = 3
    · subst h3
      have e : off 3 = 1 := rfl
      rw [e] at hoff ⊢
      rw [if_pos ⟨rfl, by omega⟩]; omega
    · have e : off t = 0 := by unfold off; rw [if_neg h3]
      rw [if_neg (fun h => h3 h.1), e]; omega
  · rw [show_nil hz]
    unfold gR
    rw [if_neg (fun h => h.2.2 rfl), ((nil_iff t n).1 hz).2]

theorem rdR_show {t n : Int} (hn : I64 n) (ho : okB t n = true) (h4 : t = 4 → n = 0) : rdR t (showL t n) = some n := by
  have h1 := guessR_show hn ho h4
  have h2 := show_ne ho
  have h3 : showL t n ≠ [38] := by
    cases hz : nilB t n
    · have ht : t ≠ 4 := by
        rintro rfl
        rw [nil_not] at hz; have := h4 rfl; omega
      rw [show_num ho hz ht]
      rcases known_cases (ok_known ho) with rfl | rfl | rfl | rfl
      · obtain ⟨c, r, hc, hd⟩ := itoa_cons (n - off 1)
        rw [hc]
        intro e
        injection e with e _
        subst e
        exact absurd hd (by decide)
      · intro e; injection e with e _; exact absurd e (by decide)
      · intro e; injection e with e _; exact absurd e (by decide)
      · exact absurd rfl ht
    · rw [show_nil hz]; decide
  unfold rdR
  rw [h1, if_neg (by simp [h2, h3])]
theorem rdR_some {t : Int} {s : List UInt8} {n : Int} (h : rdR t s = some n) : showL t n = s ∧ okB t n = true ∧ I64 n ∧ (t = 4 → n = 0) := by
  unfold rdR at h
  split at h
  · cases h
  · rename_i hc
    injection h with h
    subst h
    simp only [not_or, ne_eq, Decidable.not_not] at hc
    obtain ⟨h1, h2, h3⟩ := hc
    have hok : okB t (gR t s) = true := by
      cases ho : okB t (gR t s)
      · rw [show_bad ho] at h3; exact absurd h3.symm h1
      · rfl
    refine ⟨h3, hok, gR_bounds t s, ?_⟩
    rintro rfl
    rcases Nat.eq_zero_or_pos (gR 4 s).toNat with h0 | h0
    · have := (ok_iff _ _).1 hok; omega
    · exfalso
      rw [show_ptr (by omega)] at h3
      exact h2 h3.symm
/-- Both read the same. -/
theorem rdR_eq {t : Int} (ht : knownB t = true) (s : List UInt8) : rdR t s = rd t s := by
  cases h : rd t s with
  | some n =>
    obtain ⟨h1, h2, h3, h4⟩ := rd_some ht h
    rw [← h1]; exact rdR_show h3 h2 h4
  | none =>
    cases h' : rdR t s with
    | none => rfl
    | some n =>
      obtain ⟨h1, h2, h3, h4⟩ := rdR_some h'
      have := rd_show h3 h2 h4
      rw [h1, h] at this
      cases this

end Go.Proofs.YtpkcjokkadfhcaaGreatDoor.W

namespace Go.Proofs.YtpkcjokkadfhcaaGreatDoor.W
open Go.RowKit

theorem rune_let {t : Int} (h : knownB t = true) : ∃ r : Int, letV[t.toNat]? = some (.int .i32 r) ∧ 0 ≤ t ∧ t ≤ 4 ∧ -2147483648 ≤ r ∧ r ≤ 2147483647 ∧ Lib.runeCells r = Lib.byteCells (letC t) := by
  rcases known_cases h with rfl | rfl | rfl | rfl
  · exact ⟨73, rfl, by decide, by decide, by decide, by decide, rfl⟩
  · exact ⟨82, rfl, by decide, by decide, by decide, by decide, rfl⟩
  · exact ⟨70, rfl, by decide, by decide, by decide, by decide, rfl⟩
  · exact ⟨80, rfl, by decide, by decide, by decide, by decide, rfl⟩

theorem bc_append (a b : List UInt8) : Lib.byteCells a ++ Lib.byteCells b = Lib.byteCells (a ++ b) := by simp [Lib.byteCells]

set_option maxRecDepth 100000 in
set_option maxHeartbeats 4000000 in
theorem text_any (A : Option Addr) (l : List Int) (n c : Nat) (w : World) (hL : LetAt w) (ha : Rd w A (ivs l)) (hn : Hid (l.length = n)) (h1 : n ≤ 9223372036854775807) :
    Calls Tryz.prog 64 #[.slice A n c] w fun e w' => e = .returned (.string (str (txt l))) ∧ Keep NoB w w' := by
  by_cases hlong : 1024 < n
  · have HT := Lib.hid (txt_long (l := l) (by rw [hn.out]; exact hlong))
    go_enter Tryz.func64, Tryz.ntmps64
    go_wp2
    go_ret
    exact ⟨by rw [HT.out]; rfl, Keep.refl _ _⟩
  · go_enter Tryz.func64, Tryz.ntmps64
    go_wp2
    have hI0 : Lib.IsBuilderF 117 5 w.heap.size w.heap.size (Lib.byteCells ((l.take 0).flatMap letC)) (w.alloc (.cells #[.pointer none, .slice none 0 0] 117)) := Lib.IsBuilderF.of (Lib.fresh_isBuilder 117 5 w)
    have hb0 : Below w.heap.size w (w.alloc (.cells #[.pointer none, .slice none 0 0] 117)) := (Below.refl _ w).alloc (Nat.le_refl _) _
    go_loopw [11] (fun i wr => ∃ k : Nat, k ≤ n ∧ i = .int .i64 k ∧ Lib.IsBuilderF 117 5 w.heap.size w.heap.size (Lib.byteCells ((l.take k).flatMap letC)) wr ∧ Hid ((l.take k).all knownB = true) ∧ Below w.heap.size w wr) (fun i _ => n - (intOf i).toNat)
    case atStart => exact ⟨0, Nat.zero_le _, rfl, hI0, rfl, hb0⟩
    case round =>
      obtain ⟨k, hk, rfl, hI, hall, hB⟩ := hrel
      clear hI0 hb0
      by_cases hlt : k < n
      · have hka : k < l.length := by rw [hn.out]; exact hlt
        obtain ⟨g, off, rfl, hc⟩ := rdI_at ha (by omega)
        have hKr : Keep NoB w wr := Keep.of_below hB
        have ca := hKr.cell (hc k hka) id
        have hLr := hL.keep hKr
        clear hc
        have HT := Lib.hid (show l.take (k + 1) = l.take k ++ [l[k]] from List.take_succ_eq_append_getElem hka)
        have HM := Lib.hid (List.getElem_mem hka)
        generalize l[k] = t at ca HT HM
        cases hkn : knownB t
        · have HX : Hid (txt l = []) := txt_bad (by rw [List.all_eq_false]; exact ⟨t, HM.out, by simp [hkn]⟩)
          go_wp2_with (go_at_call 96; refine (known_any _ _).mono ?_; rintro e w' ⟨rfl, rfl⟩)
          go_ret
          exact ⟨by rw [HX.out]; rfl, hKr⟩
        · have hall2 : Hid ((l.take (k + 1)).all knownB = true) := by show _ = _; rw [HT.out, List.all_append, hall.out]; simp [hkn]
          obtain ⟨r, hr, ht0, ht4, hr0, hr1, hrc⟩ := rune_let hkn
          have HRC := Lib.hid hrc
          have HFM : Hid (Lib.byteCells ((l.take (k + 1)).flatMap letC) = Lib.byteCells ((l.take k).flatMap letC) ++ Lib.runeCells r) := by show _ = _; rw [HT.out, HRC.out, bc_append]; simp
          have hlen : (Lib.byteCells ((l.take k).flatMap letC)).length + 4 ≤ 140737488355328 := by
            rw [Lib.byteCells_length, flat_let_length _ hall.out, List.length_take]; omega
          obtain ⟨tn, rfl⟩ := Int.eq_ofNat_of_zero_le ht0
          have cl : wr.cell? ⟨0, tn, none⟩ = some (.int .i32 r) := (hLr.cell tn).trans (by simpa using hr)
          clear hrc hr HT HM hall HRC ha
          go_wp2_with (first
            | (go_at_call 96; refine (known_any _ _).mono ?_; rintro e w' ⟨rfl, rfl⟩)
            | (go_at_call 97; refine (Tryz.Builder_WriteRune_k w.heap.size w.heap.size _ r hr0 hr1 wr hI hlen hB.size).mono ?_; rintro e w2 ⟨rfl, hI2, hb2, -⟩))
          go_roundw
          case rel => exact ⟨k + 1, by omega, by go_num, by rw [HFM.out]; exact .inr hI2, hall2, hB.trans hb2⟩
          case measure => simp [intOf]; omega
      · obtain rfl : k = n := by omega
        rw [List.take_of_length_le (by rw [hn.out]; omega)] at hI hall
        have HX : Hid (l.flatMap letC = txt l) := by show _ = _; unfold txt; rw [if_pos ⟨by rw [hn.out]; omega, hall.out⟩]
        have hall' := hall.out
        have H := Lib.hid hall'
        clear hall hall'
        rw [HX.out] at hI
        go_wp2_with (go_at_call 63; refine (Tryz.Builder_String_any_k w.heap.size w.heap.size (txt l) wr hI hB.size).mono ?_; rintro e w2 ⟨rfl, -, hb2, -⟩)
        go_ret
        exact ⟨rfl, Keep.of_below (hB.trans hb2)⟩

theorem str_snoc (s : List UInt8) (c : UInt8) : str s ++ ⟨#[c]⟩ = str (s ++ [c]) := by
  apply ByteArray.ext
  simp [ByteArray.data_append]

end Go.Proofs.YtpkcjokkadfhcaaGreatDoor.W

namespace Go.Proofs.YtpkcjokkadfhcaaGreatDoor.W
open Go.RowKit

/-- A letter's number. -/
def letZ (k : Nat) : Int := if k = 1 then 73 else if k = 2 then 82 else if k = 3 then 70 else if k = 4 then 80 else 0
/-- The type of a rune; 0: none has it. -/
def unletZ (r : Int) : Int := if r = 73 then 1 else if r = 82 then 2 else if r = 70 then 3 else if r = 80 then 4 else 0
theorem unletZ_byte (c : UInt8) : unletZ (c.toNat : Int) = unlet c := by
  have e : ∀ d : UInt8, ((c.toNat : Int) = (d.toNat : Int)) ↔ c = d := fun d => ⟨fun h => UInt8.toNat_inj.1 (by omega), fun h => by rw [h]⟩
  unfold unletZ unlet
  have h1 := e 73; have h2 := e 82; have h3 := e 70; have h4 := e 80
  simp only [show ((73 : UInt8).toNat : Int) = 73 from rfl, show ((82 : UInt8).toNat : Int) = 82 from rfl, show ((70 : UInt8).toNat : Int) = 70 from rfl, show ((80 : UInt8).toNat : Int) = 80 from rfl] at h1 h2 h3 h4
  simp only [h1, h2, h3, h4]
theorem unletZ_big {r : Int} (h : 128 ≤ r) : unletZ r = 0 := by unfold unletZ; rw [if_neg (by omega), if_neg (by omega), if_neg (by omega), if_neg (by omega)]
theorem unletZ_hit {k : Nat} {r : Int} (h1 : 1 ≤ k) (h2 : k < 5) (h : letZ k = r) : unletZ r = k := by
  subst h
  obtain rfl | rfl | rfl | rfl : k = 1 ∨ k = 2 ∨ k = 3 ∨ k = 4 := by omega
  all_goals rfl
theorem unletZ_miss {r : Int} (h : ∀ j, 1 ≤ j → j < 5 → letZ j ≠ r) : unletZ r = 0 := by
  have h1 := h 1 (by omega) (by omega)
  have h2 := h 2 (by omega) (by omega)
  have h3 := h 3 (by omega) (by omega)
  have h4 := h 4 (by omega) (by omega)
  have e1 : letZ 1 = 73 := rfl
  have e2 : letZ 2 = 82 := rfl
  have e3 : letZ 3 = 70 := rfl
  have e4 : letZ 4 = 80 := rfl
  unfold unletZ
  rw [if_neg (by omega), if_neg (by omega), if_neg (by omega), if_neg (by omega)]
theorem letZ_cell {w : World} (h : LetAt w) {k : Nat} (h1 : 1 ≤ k) (h2 : k < 5) : w.cell? ⟨0, k, none⟩ = some (.int .i32 (letZ k)) := by
  rw [h.cell k]
  obtain rfl | rfl | rfl | rfl : k = 1 ∨ k = 2 ∨ k = 3 ∨ k = 4 := by omega
  all_goals rfl

set_option maxHeartbeats 1000000 in
theorem lettered_any (r : Int) (w : World) (h : LetAt w) :
    Calls Tryz.prog 128 #[.int .i32 r] w fun e w' => e = .returned (.tuple #[.int .i64 (unletZ r), .bool (decide (unletZ r ≠ 0))]) ∧ w = w' := by
  go_enter Tryz.func128, Tryz.ntmps128
  go_wp2
  go_loop [4] (fun i => ∃ k : Nat, 1 ≤ k ∧ k ≤ 5 ∧ i = .int .i64 k ∧ Hid (∀ j, 1 ≤ j → j < k → letZ j ≠ r)) (fun i => 5 - (intOf i).toNat)
  case atStart => exact ⟨1, by omega, by omega, rfl, fun j h1 h2 => by omega⟩
  case round =>
    obtain ⟨k, hk1, hk5, rfl, hm⟩ := hrel
    by_cases hlt : k < 5
    · have c := letZ_cell h hk1 hlt
      by_cases he : letZ k = r
      · have HU := Lib.hid (unletZ_hit hk1 hlt he)
        have he' : (letZ k == r) = true := by rw [beq_iff_eq]; exact he
        clear he
        go_wp2
        go_ret2
        exact ⟨by rw [HU.out]; congr 3; simp; omega, rfl⟩
      · have he' : (letZ k == r) = false := by rw [beq_eq_false_iff_ne]; exact he
        have hm2 : Hid (∀ j, 1 ≤ j → j < k + 1 → letZ j ≠ r) := fun j h1 h2 => by
          rcases Nat.lt_or_ge j k with h3 | h3
          · exact hm.out j h1 h3
          · obtain rfl : j = k := by omega
            exact he
        clear he
        go_wp2
        go_round
        case rel => exact ⟨k + 1, by omega, by omega, by go_num, hm2⟩
        case measure => simp [intOf]; omega
    · obtain rfl : k = 5 := by omega
      have HU := Lib.hid (unletZ_miss hm.out)
      go_wp2
      go_ret2
      exact ⟨by rw [HU.out]; rfl, rfl⟩

/-- What is decoded of a byte that is no ASCII is none either. -/
theorem decode_big (s : ByteArray) (i : Nat) (h : 128 ≤ (s.get! i).toNat) : 128 ≤ (Utf8.decode s i).1 := by
  rw [Lib.decode_at]
  have hb : (s.get! i).toNat < 256 := (s.get! i).toNat_lt
  generalize (s.get! i).toNat = b0 at h hb
  unfold Lib.decodeN
  repeat' split
  all_goals first | omega | (simp only; omega)

theorem own_iter {w : World} {E size n : Nat} {O : Nat → Prop} {v : Value} {xs : List Value} (h : Own w E size O v n xs) {k pos : Nat} {s : ByteArray} (hk : w.heap[k]? = some (.stringIter s pos)) : v.ownBlock ≠ some k := by
  rcases h.1.2 with ⟨rfl, _⟩ | ⟨g, cap, cur, rfl, _, hg, _⟩
  · simp [Value.ownBlock]
  · intro e
    have : g = k := by simpa [Value.ownBlock] using e
    subst this
    rw [hk] at hg; cases hg
theorem _root_.Go.Proofs.YtpkcjokkadfhcaaGreatDoor.Own.iterAt {w : World} {E size n : Nat} {O : Nat → Prop} {v : Value} {xs : List Value} (h : Own w E size O v n xs) {k pos : Nat} {s : ByteArray} (hk : w.heap[k]? = some (.stringIter s pos)) (pos' : Nat) : Own (w.iterAt k s pos') E size O v n xs := by
  have hne := own_iter h hk
  refine ⟨⟨h.1.1, ?_⟩, h.2⟩
  rcases h.1.2 with h2 | ⟨g, cap, cur, rfl, hb, hh, r⟩
  · exact .inl h2
  · exact .inr ⟨g, cap, cur, rfl, hb, (Lib.iterAt_other w k g s pos' (fun e => hne (by rw [e]; rfl))).trans hh, r⟩
theorem _root_.Go.Proofs.YtpkcjokkadfhcaaGreatDoor.Keep.iterAt {w w' : World} (h : Keep NoB w w') {k : Nat} (hk : w.heap.size ≤ k) (s : ByteArray) (pos : Nat) : Keep NoB w (w'.iterAt k s pos) := Keep.of_below (Lib.below_iterAt h.toBelow hk s pos)

/-- What Types answers, in one form. -/
def tN (s : List UInt8) : Nat := if (untxt s).isSome = true then s.length else 0
def tL (s : List UInt8) : List Int := (untxt s).getD []
def tE (s : List UInt8) : Int := if (untxt s).isSome = true then 0 else 20
theorem untxt_none {s : List UInt8} (h : ¬ (s.length ≤ 1024 ∧ (s.all fun c => decide (unlet c ≠ 0)) = true)) : untxt s = none := by unfold untxt; rw [if_neg h]
theorem untxt_some {s : List UInt8} (h1 : s.length ≤ 1024) (h2 : (s.all fun c => decide (unlet c ≠ 0)) = true) : untxt s = some (s.map unlet) := by unfold untxt; rw [if_pos ⟨h1, h2⟩]
theorem tL_length (s : List UInt8) : (tL s).length = tN s := by
  unfold tL tN
  by_cases h : s.length ≤ 1024 ∧ (s.all fun c => decide (unlet c ≠ 0)) = true
  · rw [untxt_some h.1 h.2]; simp
  · rw [untxt_none h]; simp
/-- What it hands back, and that it keeps all. -/
def TypesR (w : World) (s : List UInt8) (e : Ending) (w' : World) : Prop :=
  ∃ B d, e = .returned (.tuple #[.slice B (tN s) d, .int .i64 (tE s)]) ∧ Own w' 3 1 (Fresh w) (.slice B (tN s) d) (tN s) (ivs (tL s)) ∧ Keep NoB w w'
theorem types_none {w w' : World} {s : List UInt8} (h : untxt s = none) (hK : Keep NoB w w') : TypesR w s (.returned (.tuple #[.slice none 0 0, .int .i64 20])) w' := by
  have e1 : tN s = 0 := by unfold tN; rw [h]; rfl
  have e2 : tL s = [] := by unfold tL; rw [h]; rfl
  have e3 : tE s = 20 := by unfold tE; rw [h]; rfl
  unfold TypesR
  rw [e1, e2, e3]
  exact ⟨none, 0, rfl, Own.nil _ _ _ _, hK⟩
theorem types_some {w w' : World} {s : List UInt8} {B : Option Addr} {d : Nat} (h : untxt s = some (s.map unlet)) (hO : Own w' 3 1 (Fresh w) (.slice B s.length d) s.length (ivs (s.map unlet))) (hK : Keep NoB w w') :
    TypesR w s (.returned (.tuple #[.slice B s.length d, .int .i64 0])) w' := by
  have e1 : tN s = s.length := by unfold tN; rw [h]; rfl
  have e2 : tL s = s.map unlet := by unfold tL; rw [h]; rfl
  have e3 : tE s = 0 := by unfold tE; rw [h]; rfl
  unfold TypesR
  rw [e1, e2, e3]
  exact ⟨B, d, rfl, hO, hK⟩

end Go.Proofs.YtpkcjokkadfhcaaGreatDoor.W

namespace Go.Proofs.YtpkcjokkadfhcaaGreatDoor.O

theorem byte_at {r : List UInt8} : ∀ {s : List UInt8}, (∀ c ∈ s, c ≠ 32) → Lib.indexByte (s ++ 32 :: r) 32 = (s.length : Int)
  | [], _ => by simp [Lib.indexByte]
  | b :: s, h => by
    have ih := byte_at (r := r) (s := s) (fun c hc => h c (by simp [hc]))
    have hb : (b == 32) = false := by rw [beq_eq_false_iff_ne]; exact h b (by simp)
    have hn : (((s.length : Nat) : Int) == -1) = false := by rw [beq_eq_false_iff_ne]; omega
    rw [List.cons_append, Lib.indexByte, hb, ih, hn]
    simp
theorem byte_none : ∀ {s : List UInt8}, (∀ c ∈ s, c ≠ 32) → Lib.indexByte s 32 = -1
  | [], _ => rfl
  | b :: s, h => by
    have ih := byte_none (s := s) (fun c hc => h c (by simp [hc]))
    have hb : (b == 32) = false := by rw [beq_eq_false_iff_ne]; exact h b (by simp)
    rw [Lib.indexByte, hb, ih]
    simp
theorem cut_at {s r : List UInt8} (h : ∀ c ∈ s, c ≠ 32) : Lib.cut (s ++ 32 :: r) [32] = (s, r, true) := by
  have e : Lib.index (s ++ 32 :: r) [32] = (s.length : Int) := by rw [Lib.index_one, byte_at h]
  have e2 : s ++ 32 :: r = (s ++ [32]) ++ r := by simp
  unfold Lib.cut
  rw [e, if_pos (by omega), Int.toNat_natCast, List.take_left]
  have e3 : (s ++ 32 :: r).drop (s.length + [(32 : UInt8)].length) = r := by
    rw [e2]
    have : s.length + [(32 : UInt8)].length = (s ++ [32]).length := by simp
    rw [this, List.drop_left]
  rw [e3]
theorem cut_none {s : List UInt8} (h : ∀ c ∈ s, c ≠ 32) : Lib.cut s [32] = (s, [], false) := by
  unfold Lib.cut
  rw [Lib.index_one, byte_none h]
  rfl
/-- A word, and what stands behind it. -/
theorem cut_word {s r : List UInt8} (h : ∀ c ∈ s, c ≠ 32) (hr : r = [] ∨ ∃ r', r = 32 :: r') : (Lib.cut (s ++ r) [32]).1 = s ∧ (Lib.cut (s ++ r) [32]).2.1 = r.drop 1 := by
  rcases hr with rfl | ⟨r', rfl⟩
  · rw [List.append_nil, cut_none h]; exact ⟨rfl, rfl⟩
  · rw [cut_at h]; exact ⟨rfl, rfl⟩
theorem cut_len (s : List UInt8) : (Lib.cut s [32]).1.length ≤ s.length ∧ (Lib.cut s [32]).2.1.length ≤ s.length := by
  unfold Lib.cut
  split
  · simp; omega
  · simp

/-! ### Names -/

theorem str_inj {s t : List UInt8} (h : str s = str t) : s = t := by
  have := congrArg (fun x : ByteArray => x.data.toList) h
  simpa using this
theorem find_spec (S : ByteArray) : ∀ n k, (findFrom S n k = -1 ∧ ∀ j, k ≤ j → j < k + n → nm j ≠ S) ∨ (∃ j : Nat, k ≤ j ∧ j < k + n ∧ findFrom S n k = (j : Int) ∧ nm j = S)
  | 0, k => .inl ⟨rfl, fun j h1 h2 => by omega⟩
  | n + 1, k => by
    by_cases h : nm k = S
    · exact .inr ⟨k, Nat.le_refl _, by omega, by rw [findFrom, if_pos h], h⟩
    · rw [findFrom, if_neg h]
      rcases find_spec S n (k + 1) with ⟨h1, h2⟩ | ⟨j, h1, h2, h3, h4⟩
      · refine .inl ⟨h1, fun j h3 h4 => ?_⟩
        by_cases e : j = k
        · rw [e]; exact h
        · exact h2 j (by omega) (by omega)
      · exact .inr ⟨j, by omega, by omega, h3, h4⟩
theorem findI_spec (S : ByteArray) : (findI S = -1 ∧ ∀ op : Int, isOp op = true → str (rowAt op).name ≠ S) ∨ (isOp (findI S) = true ∧ str (rowAt (findI S)).name = S) := by
  rcases find_spec S 30 0 with ⟨h1, h2⟩ | ⟨j, _, h2, h3, h4⟩
  · refine .inl ⟨h1, fun op ho e => ?_⟩
    have hb := isOp_yes ho
    refine h2 op.toNat (Nat.zero_le _) (by omega) ?_
    unfold nm
    rw [show ((op.toNat : Nat) : Int) = op by omega]
    exact e
  · refine .inr ?_
    have e : findI S = (j : Int) := h3
    rw [e]
    exact ⟨decide_eq_true (by omega), h4⟩
theorem findI_of {op : Int} (h : isOp op = true) : findI (str (rowAt op).name) = op := by
  rcases findI_spec (str (rowAt op).name) with ⟨_, h2⟩ | ⟨h1, h2⟩
  · exact absurd rfl (h2 op h)
  · exact name_inj h1 h (str_inj h2)
theorem name_ne (op : Int) (h : isOp op = true) : (rowAt op).name ≠ [] := by
  obtain ⟨hk, e⟩ := rowAt_yes h
  rw [e]
  have := List.all_eq_true.1 (show rowsL.all (fun r => decide (r.name ≠ [])) = true by decide) _ (List.getElem_mem hk)
  exact of_decide_eq_true this

/-! ### Operands -/

/-- The number that a text is guessed to be. -/
def ltrI (s : List UInt8) : Int := if W.tE s = 0 ∧ W.tN s = 1 then (W.tL s).getD 0 0 else 0
def gK (k : Int) (s : List UInt8) : Int := if digK k = true then W.pI s else if k = 8 then A.ofI A.binNs s else if k = 9 then A.ofI A.unNs s else if k = 2 ∨ k = 3 then ltrI s else 0
theorem gK_word {k n : Int} (hk : 0 ≤ k ∧ k ≤ 10) (h0 : k ≠ 0) (hn : inK k n = true) : gK k (word k n) = n := by
  have hb := in_bounds hn
  have hd := of_decide_eq_true hn
  cases h : digK k
  · have hc : k = 2 ∨ k = 3 ∨ k = 8 ∨ k = 9 := by have := of_decide_eq_false h; omega
    rcases hc with rfl | rfl | rfl | rfl
    · have e1 : lo 2 = 1 := rfl
      have e2 : hi 2 = 4 := rfl
      have hn : n = 1 ∨ n = 2 ∨ n = 3 ∨ n = 4 := by omega
      rcases hn with rfl | rfl | rfl | rfl <;> decide +kernel
    · have e1 : lo 3 = 1 := rfl
      have e2 : hi 3 = 3 := rfl
      have hn : n = 1 ∨ n = 2 ∨ n = 3 := by omega
      rcases hn with rfl | rfl | rfl <;> decide +kernel
    · have e1 : lo 8 = 0 := rfl
      have e2 : hi 8 = 13 := rfl
      have : ∀ j : Fin 14, gK 8 (word 8 (j.1 : Int)) = (j.1 : Int) := by decide +kernel
      have := this ⟨n.toNat, by omega⟩
      rw [show ((n.toNat : Nat) : Int) = n by omega] at this
      exact this
    · have e1 : lo 9 = 0 := rfl
      have e2 : hi 9 = 8 := rfl
      have : ∀ j : Fin 9, gK 9 (word 9 (j.1 : Int)) = (j.1 : Int) := by decide +kernel
      have := this ⟨n.toNat, by omega⟩
      rw [show ((n.toNat : Nat) : Int) = n by omega] at this
      exact this
  · unfold gK
    rw [if_pos h, word_dig h]
    unfold W.pI
    rw [W.atoi_itoa _ hb.1.1 hb.1.2]
theorem ofI_bounds (l : List (List UInt8)) (s : List UInt8) (hl : l.length ≤ 1000) : 0 ≤ A.ofI l s ∧ A.ofI l s ≤ 1000 := by
  unfold A.ofI
  split
  · rename_i h
    have := List.idxOf_lt_length_of_mem h
    omega
  · omega
theorem unlet_bounds (c : UInt8) : 0 ≤ W.unlet c ∧ W.unlet c ≤ 4 := by
  unfold W.unlet
  repeat' split
  all_goals omega
theorem ltrI_bounds (s : List UInt8) : 0 ≤ ltrI s ∧ ltrI s ≤ 4 := by
  unfold ltrI
  split
  · unfold W.tL W.untxt
    split
    · rcases s with _ | ⟨c, r⟩
      · simp
      · exact unlet_bounds c
    · simp
  · omega
theorem gK_bounds (k : Int) (s : List UInt8) : I64 (gK k s) := by
  unfold gK I64
  split
  · exact W.pI_bounds s
  · split
    · have := ofI_bounds A.binNs s (by decide); omega
    · split
      · have := ofI_bounds A.unNs s (by decide); omega
      · split
        · have := ltrI_bounds s; omega
        · omega

/-- The operands that are guessed of what stands behind the name. -/
def gA (op : Int) (t : List UInt8) : Int := if (rowAt op).ka = 0 then 0 else gK (rowAt op).ka (Lib.cut t [32]).1
def gB (op : Int) (t : List UInt8) : Int := if (rowAt op).kb = 0 then 0 else gK (rowAt op).kb (Lib.cut t [32]).2.1
theorem gA_bounds (op : Int) (t : List UInt8) : I64 (gA op t) := by
  unfold gA
  split
  · unfold I64; omega
  · exact gK_bounds _ _
theorem gB_bounds (op : Int) (t : List UInt8) : I64 (gB op t) := by
  unfold gB
  split
  · unfold I64; omega
  · exact gK_bounds _ _

theorem text_cut {op a b : Int} :
    (Lib.cut (textI op a b) [32]).1 = (rowAt op).name ∧ (Lib.cut (textI op a b) [32]).2.1 = (partL (rowAt op).ka a ++ partL (rowAt op).kb b).drop 1 := by
  unfold textI
  refine cut_word (name_no op) ?_
  rcases part_sp (rowAt op).ka a with e | ⟨r, e⟩
  · rw [e]; exact part_sp (rowAt op).kb b
  · rw [e]; exact .inr ⟨_, rfl⟩
/-- What is guessed of an instruction's text is that instruction. -/
theorem guess_hit {op a b : Int} (h : okI op a b = true) : gA op (Lib.cut (textI op a b) [32]).2.1 = a ∧ gB op (Lib.cut (textI op a b) [32]).2.1 = b := by
  obtain ⟨ho, hA, hB⟩ := ok_op h
  have hk := kinds_ok op
  have hn := kinds_none op
  rw [text_cut.2]
  unfold gA gB
  by_cases h0 : (rowAt op).ka = 0
  · have h1 := hn h0
    rw [if_pos h0, if_pos h1]
    rw [h0] at hA
    rw [h1] at hB
    exact ⟨((in_bounds hA).2.2 rfl).symm, ((in_bounds hB).2.2 rfl).symm⟩
  · rw [if_neg h0]
    have e1 : partL (rowAt op).ka a = 32 :: word (rowAt op).ka a := by unfold partL; rw [if_neg h0]
    rw [e1, List.cons_append, List.drop_succ_cons, List.drop_zero]
    have hc := cut_word (word_no (rowAt op).ka a) (part_sp (rowAt op).kb b)
    rw [hc.1, hc.2]
    refine ⟨gK_word ⟨hk.1, hk.2.1⟩ h0 hA, ?_⟩
    by_cases h1 : (rowAt op).kb = 0
    · rw [if_pos h1]
      rw [h1] at hB
      exact ((in_bounds hB).2.2 rfl).symm
    · rw [if_neg h1]
      have e2 : partL (rowAt op).kb b = 32 :: word (rowAt op).kb b := by unfold partL; rw [if_neg h1]
      rw [e2, List.drop_succ_cons, List.drop_zero]
      exact gK_word ⟨hk.2.2.1, hk.2.2.2⟩ h1 hB

/-- What reading a text answers: the instruction that has it; that there is none. -/
def ReadV (s : List UInt8) (v : Value) : Prop :=
  (∃ op a b, okI op a b = true ∧ textI op a b = s ∧ v = .tuple #[instV op a b, .int .i64 0]) ∨ ((∀ op a b, okI op a b = true → textI op a b ≠ s) ∧ v = .tuple #[instV 0 0 0, .int .i64 40])
theorem readV_one {s : List UInt8} {u v : Value} (h1 : ReadV s u) (h2 : ReadV s v) : u = v := by
  rcases h1 with ⟨op, a, b, h1, e1, rfl⟩ | ⟨h1, rfl⟩
  · rcases h2 with ⟨op', a', b', h2, e2, rfl⟩ | ⟨h2, rfl⟩
    · obtain ⟨rfl, rfl, rfl⟩ := text_inj h1 h2 (e1.trans e2.symm); rfl
    · exact absurd e1 (h2 op a b h1)
  · rcases h2 with ⟨op', a', b', h2, e2, rfl⟩ | ⟨h2, rfl⟩
    · exact absurd e2 (h1 op' a' b' h2)
    · rfl
/-- No name: no instruction. -/
theorem read_nameless {s : List UInt8} (h : findI (str (Lib.cut s [32]).1) < 0) : ReadV s (.tuple #[instV 0 0 0, .int .i64 40]) := by
  refine .inr ⟨fun op a b hok e => ?_, rfl⟩
  subst e
  rw [text_cut.1, findI_of (ok_op hok).1] at h
  have := isOp_yes (ok_op hok).1
  omega
/-- What is guessed has the text: it is the one. -/
theorem read_yes {s : List UInt8} {op a b : Int} (hop : isOp op = true) (hn : str (rowAt op).name = str (Lib.cut s [32]).1) (h : showI op a b = s) : ReadV s (.tuple #[instV op a b, .int .i64 0]) := by
  cases hok : okI op a b
  · unfold showI at h
    rw [if_neg (by rw [hok]; decide)] at h
    subst h
    exact absurd (str_inj hn) (name_ne op hop)
  · unfold showI at h
    rw [if_pos hok] at h
    exact .inl ⟨op, a, b, hok, h, rfl⟩
/-- What is guessed has another text: none has this one. -/
theorem read_no {s : List UInt8} (op a b : Int) (hop : op = findI (str (Lib.cut s [32]).1)) (h : ∀ x y, okI op x y = true → textI op x y = s → a = x ∧ b = y) (hs : showI op a b ≠ s) :
    ReadV s (.tuple #[instV 0 0 0, .int .i64 40]) := by
  refine .inr ⟨fun op' x y hok e => ?_, rfl⟩
  have he := e
  subst e
  rw [text_cut.1, findI_of (ok_op hok).1] at hop
  subst hop
  obtain ⟨rfl, rfl⟩ := h x y hok rfl
  unfold showI at hs
  rw [if_pos hok] at hs
  exact hs rfl
theorem read_miss {s : List UInt8} {op : Int} (hop : findI (str (Lib.cut s [32]).1) = op) (hs : showI op (gA op (Lib.cut s [32]).2.1) (gB op (Lib.cut s [32]).2.1) ≠ s) : ReadV s (.tuple #[instV 0 0 0, .int .i64 40]) := by
  refine read_no op _ _ hop.symm (fun x y hok e => ?_) hs
  subst e
  exact guess_hit hok

end Go.Proofs.YtpkcjokkadfhcaaGreatDoor.O

namespace Go.Proofs.YtpkcjokkadfhcaaGreatDoor.W
open Go.RowKit


set_option maxRecDepth 100000 in
set_option maxHeartbeats 4000000 in
theorem types_any (S : ByteArray) (s : List UInt8) (w : World) (hL : LetAt w) (hs : Hid (S.data.toList = s)) (h1 : S.size ≤ 9223372036854775807) :
    Calls Tryz.prog 110 #[.string S] w (TypesR w s) := by
  have HSZ := Lib.hid (size_of hs.out)
  by_cases hlong : 1024 < S.size
  · have HU : Hid (untxt s = none) := untxt_none (by rw [← HSZ.out]; omega)
    go_enter Tryz.func110, Tryz.ntmps110
    go_wp2
    go_ret2
    exact types_none HU.out (Keep.refl _ _)
  · obtain ⟨i0, hi, hz0, hz1, hz2⟩ := info_parts int_info
    go_enter Tryz.func110, Tryz.ntmps110
    go_wp2_with (at_make; refine wpList_make_own _ rfl _ _ 49 rfl w.heap.size 3 i0 _ 1 Tryz.underlying49 hi hz0 hz1 _ _ _ S.size rfl rfl rfl (by rw [hz2]; omega) (by unfold maxLen; omega) (Nat.le_refl _) ?_; intro w1 hrow1 hg1)
    have hO1 : Own w1 3 1 (Fresh w) (.slice (some ⟨w.heap.size, 0, none⟩) 0 S.size) 0 (ivs ((s.take 0).map unlet)) := Own.of_row hrow1 (fun _ h => h)
    have hK1 : Keep NoB w w1 := (Keep.refl NoB w).grown hg1 (fun g e _ => by cases e)
    have hsz1 : w.heap.size ≤ w1.heap.size := hK1.size
    clear hrow1 hg1
    have hk0 : (w1.iter S 0).heap[w1.heap.size]? = some (.stringIter S 0) := World.iter_heap w1 S 0
    have hO0 : Own (w1.iter S 0) 3 1 (Fresh w) (.slice (some ⟨w.heap.size, 0, none⟩) 0 S.size) 0 (ivs ((s.take 0).map unlet)) := hO1.keepN ((Keep.refl NoB w1).alloc _)
    have hK0 : Keep NoB w (w1.iter S 0) := hK1.alloc _
    go_loopw [4] (fun v wr => ∃ k : Nat, k ≤ S.size ∧ wr.heap[w1.heap.size]? = some (.stringIter S k) ∧ (∃ B d, v = .slice B k d ∧ Own wr 3 1 (Fresh w) (.slice B k d) k (ivs ((s.take k).map unlet))) ∧ Hid (((s.take k).all fun c => decide (unlet c ≠ 0)) = true) ∧ Keep NoB w wr)
      (fun _ wr => S.size - wr.iterPos w1.heap.size)
    case atStart => exact ⟨0, Nat.zero_le _, hk0, ⟨_, _, rfl, hO0⟩, rfl, hK0⟩
    case round =>
      obtain ⟨k, hk, hit, ⟨B, d, rfl, hO⟩, hall, hK⟩ := hrel
      clear hO0 hK0 hk0 hO1 hK1
      have hmu : Hid (wr.iterPos w1.heap.size = k) := by show _ = _; simp [World.iterPos, hit]
      by_cases hlt : k < S.size
      · have hks : k < s.length := by rw [← HSZ.out]; exact hlt
        have HT := Lib.hid (show s.take (k + 1) = s.take k ++ [s[k]] from List.take_succ_eq_append_getElem hks)
        have HM := Lib.hid (List.getElem_mem hks)
        have hbt := byte_at hs.out k hlt hks
        by_cases hb : (S[k]'hlt).toNat < 128
        · have hnext : ∀ ty, (Instr.next (.pointer (some ⟨w1.heap.size, 0, none⟩)) true ty).run Tryz.prog wr = _ := fun ty => Lib.run_next_ascii_at wr w1.heap.size S k ty hit hlt hb
          rw [hbt] at hnext hb
          have HB := Lib.hid (unletZ_byte s[k])
          generalize s[k] = c at hnext hb HT HM HB
          have hO2 := hO.iterAt hit (k + 1)
          have hit2 := Lib.iterAt_heap wr w1.heap.size S k (k + 1) hit
          have hK2 := hK.iterAt hsz1 S (k + 1)
          generalize wr.iterAt w1.heap.size S (k + 1) = w2 at hnext hO2 hit2 hK2
          have hL2 := hL.keep hK2
          clear hbt hO hK hit
          by_cases hc : unlet c = 0
          · have HU : Hid (untxt s = none) := untxt_none (fun h => by have := (List.all_eq_true.1 h.2) c HM.out; simp [hc] at this)
            have e0 : unletZ (c.toNat : Int) = 0 := HB.out.trans hc
            have HLT : Hid (Calls Tryz.prog 128 #[.int .i32 (c.toNat : Int)] w2 fun e w' => e = .returned (.tuple #[.int .i64 0, .bool false]) ∧ w2 = w') := by
              have := lettered_any (c.toNat : Int) w2 hL2
              rw [e0] at this
              exact this
            clear HB hc e0
            go_wp2_with (go_at_call 128; refine HLT.out.mono ?_; rintro e w' ⟨rfl, rfl⟩)
            go_ret2
            exact types_none HU.out hK2
          · have e0 : unletZ (c.toNat : Int) = unlet c := HB.out
            have HLT : Hid (Calls Tryz.prog 128 #[.int .i32 (c.toNat : Int)] w2 fun e w' => e = .returned (.tuple #[.int .i64 (unlet c), .bool true]) ∧ w2 = w') := by
              have := lettered_any (c.toNat : Int) w2 hL2
              rw [e0, show decide (unlet c ≠ 0) = true by simpa using hc] at this
              exact this
            have hall2 : Hid (((s.take (k + 1)).all fun c => decide (unlet c ≠ 0)) = true) := by show _ = _; rw [HT.out, List.all_append, hall.out]; simp [hc]
            have HZ : Hid (ivs ((s.take (k + 1)).map unlet) = ivs ((s.take k).map unlet) ++ [.int .i64 (unlet c)]) := by show _ = _; rw [HT.out]; simp
            clear HB hc e0 HT hall HM
            go_wp2_with (first
              | (go_at_call 128; refine HLT.out.mono ?_; rintro e w' ⟨rfl, rfl⟩)
              | (at_builtin; refine wpList_append_rd _ rfl (.tmp 27) (.tmp 29) _ rfl 3 1 8 i0 _ Tryz.underlying49 hi hz0 hz1 hz2 rfl (by decide) _ k _ _ 1 _ [.int .i64 (unlet c)] rfl (hO2.1.alloc _) rfl (rd_made rfl rfl) rfl (by simp [Value.oneCell']) (by unfold maxLen; omega) (by omega) ?_; intro B2 d2 w3 hrow3 hg3 hv3; rw [← HZ.out] at hrow3; have hit3 := (hg3.block w1.heap.size (by have := (Array.getElem?_eq_some_iff.1 hit2).1; simp; omega) (fun e => own_iter hO2 hit2 e.symm)).trans ((Below.heap_alloc w2 _ w1.heap.size (Array.getElem?_eq_some_iff.1 hit2).1).trans hit2); obtain ⟨hO3, hK3⟩ := own_after hO2.2 (hK2.alloc _) hg3 hv3 hrow3; clear hrow3 hg3 hv3))
            go_roundw
            case rel => exact ⟨k + 1, by omega, hit3, ⟨B2, d2, rfl, hO3⟩, hall2, hK3⟩
            case measure =>
              have hmu2 : w3.iterPos w1.heap.size = k + 1 := by simp [World.iterPos, hit3]
              rw [hmu.out, hmu2]
              omega
        · have hnext : ∀ ty, (Instr.next (.pointer (some ⟨w1.heap.size, 0, none⟩)) true ty).run Tryz.prog wr = _ := fun ty => Lib.run_next_any_at wr w1.heap.size S k ty hit hlt
          have hbig := decode_big S k (by rw [get_at k hlt]; omega)
          have HB : Hid (unletZ ((Utf8.decode S k).1 : Int) = 0) := unletZ_big (by omega)
          have hc : unlet s[k] = 0 := by
            have := unletZ_byte s[k]
            rw [unletZ_big (by rw [← hbt]; omega)] at this
            exact this.symm
          have HU : Hid (untxt s = none) := untxt_none (fun h => by have := (List.all_eq_true.1 h.2) s[k] HM.out; simp [hc] at this)
          have hK2 := hK.iterAt hsz1 S (k + (Utf8.decode S k).2)
          generalize wr.iterAt w1.heap.size S (k + (Utf8.decode S k).2) = w2 at hnext hK2
          generalize (Utf8.decode S k).1 = r at hnext HB hbig
          have hL2 := hL.keep hK2
          have HLT : Hid (Calls Tryz.prog 128 #[.int .i32 (r : Int)] w2 fun e w' => e = .returned (.tuple #[.int .i64 0, .bool false]) ∧ w2 = w') := by
            have := lettered_any (r : Int) w2 hL2
            rw [HB.out] at this
            exact this
          clear hbt hO hK hit HT HM hc hb
          go_wp2_with (go_at_call 128; refine HLT.out.mono ?_; rintro e w' ⟨rfl, rfl⟩)
          go_ret2
          exact types_none HU.out hK2
      · obtain hkn : k = s.length := by rw [← HSZ.out]; omega
        have hnext : ∀ ty, (Instr.next (.pointer (some ⟨w1.heap.size, 0, none⟩)) true ty).run Tryz.prog wr = _ := fun ty => Lib.run_next_end_at wr w1.heap.size S k ty hit hlt
        subst hkn
        rw [List.take_length] at hO hall
        have HU : Hid (untxt s = some (s.map unlet)) := untxt_some (by rw [← HSZ.out]; omega) hall.out
        go_wp2
        go_ret2
        exact types_some HU.out hO hK

end Go.Proofs.YtpkcjokkadfhcaaGreatDoor.W

namespace Go.Proofs.YtpkcjokkadfhcaaGreatDoor.W
open Go.RowKit

/-! ### guess, Read -/

/-- strconv.ParseInt at base 10, 64 bits: the number, whatever the error. -/
theorem parse_any (S : ByteArray) (s : List UInt8) (w : World) (hs : S.data.toList = s) (hl : S.size ≤ 281474976710656) (h : Laid w) :
    Calls Tryz.prog 107 #[.string S, .int .i64 10, .int .i64 64] w fun e w' => ∃ er, e = .returned (.tuple #[.int .i64 (pI s), er]) ∧ Keep NoB w w' := by
  have e64 : Lib.parseIntB 64 S.data.toList = Lib.atoiAll s := by rw [Lib.parseIntB_64, hs]
  unfold pI
  rcases ha : Lib.atoiAll s with v | _ | _
  · rw [ha] at e64
    refine (Tryz.strconv_ParseInt_10_at64_ok S (by omega) v e64 w).mono ?_
    rintro e w' ⟨rfl, hw⟩
    refine ⟨_, rfl, ?_⟩
    rcases hw with rfl | ⟨t, rfl⟩
    · exact Keep.refl _ _
    · exact Keep.of_below (Lib.bytesWorld_below _ _ _)
  · rw [ha] at e64
    obtain ⟨tp, p, hv⟩ := h.syn
    refine (Tryz.strconv_ParseInt_10_at64_syntax_var S hl e64 tp p w hv).mono ?_
    rintro e w' ⟨N, rfl, _, _, hb⟩
    exact ⟨_, rfl, Keep.of_below hb⟩
  · rw [ha] at e64
    obtain ⟨tp, p, hv⟩ := h.rng
    refine (Tryz.strconv_ParseInt_10_at64_range_var S hl e64 tp p w hv).mono ?_
    rintro e w' ⟨N, rfl, _, _, hb⟩
    rw [Lib.intSat_64, hs]
    exact ⟨_, rfl, Keep.of_below hb⟩

theorem w64_w (n : Int) : wrap64 n = w64 n := by unfold wrap64 w64; rfl

/-- What Read answers. -/
def rT (t : Int) (s : List UInt8) : Int := if knownB t = true ∧ (rd t s).isSome = true then t else 0
def rN (t : Int) (s : List UInt8) : Int := if knownB t = true ∧ (rd t s).isSome = true then (rd t s).getD 0 else 0
def rE (t : Int) (s : List UInt8) : Int := if knownB t = true then (if (rd t s).isSome = true then 0 else 21) else 20
theorem r_bad {t : Int} (s : List UInt8) (h : knownB t = false) : rT t s = 0 ∧ rN t s = 0 ∧ rE t s = 20 := by simp [rT, rN, rE, h]
theorem r_none {t : Int} {s : List UInt8} (h : knownB t = true) (hr : rd t s = none) : rT t s = 0 ∧ rN t s = 0 ∧ rE t s = 21 := by simp [rT, rN, rE, h, hr]
theorem r_some {t n : Int} {s : List UInt8} (h : knownB t = true) (hr : rd t s = some n) : rT t s = t ∧ rN t s = n ∧ rE t s = 0 := by simp [rT, rN, rE, h, hr]

end Go.Proofs.YtpkcjokkadfhcaaGreatDoor.W
