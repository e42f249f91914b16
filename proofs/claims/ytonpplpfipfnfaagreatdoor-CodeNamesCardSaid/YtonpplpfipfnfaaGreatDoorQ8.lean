/-
  What Decode of layer code answers, the program's and the document's: the body at a Reel's place, and the place behind it. Conditions: the Reel reads bytes in memory, no more than 2^47.
  What the document's Decode of layer code answers: the body at its Reel's place, and the place behind it. Conditions: the Reel reads bytes in memory, no more than 2^47.
  OpcodeForms' walk: an instruction's bytes, and the instruction of any bytes, are the document's. Conditions: numbers fit an int64; the bytes stand.
  CodeForms' walk: a list's bytes, and the body of any bytes, are the document's. Conditions: list and bytes lie in memory; numbers fit an int64.
  What the rows of opcode share: the condition on the listed package-level variables, opened; an instruction as an argument. No conditions.
  An argument that is a list of instructions, opened: an address from which its cells stand; its numbers fit. No conditions.
  The document's names and Name. No conditions.
  The document's find and Of. No conditions.
  The plain mathematics of Read, the code's and the document's: which value a text could be, and that both read just the texts of values. No program, no conditions.
  What Text answers, the code's and the document's. Conditions: the list lies in memory, the letters stand.
-/
import Derived.ChangeSame
import Derived.Deep.Fields
import Derived.Deep.Slices
import Derived.Deep.Strs
import Derived.LaidLaws
import Derived.LaidMore
import Derived.Lib.AtoiBound
import Derived.Lib.LaidTab
import Derived.Lib.OthersKept
import Derived.Lib.RuneBytes
import Derived.Lib.SmallJoins
import Derived.Lib.Strings
import Derived.OpenShut
import Derived.ProofKit
import Derived.SizedLaws
import Derived.Stop.LaidErr
import Derived.Test.YtonpplpfipfnfaaGreatDoorQ6
import Derived.Test.YtonpplpfipfnfaaGreatDoorQ7
import Derived.Test.YtonpplpfipfnfaaGreatDoorQ4
import Derived.Test.YtonpplpfipfnfaaGreatDoorQ5
import Derived.Test.YtonpplpfipfnfaaGreatDoorQ3
import Derived.Test.YtonpplpfipfnfaaGreatDoorRows
import Derived.Test.YtonpplpfipfnfaaGreatDoorQ2
namespace Go.Proofs.YtonpplpfipfnfaaGreatDoor.C
open Go.RowKit O

/-- What is read: the list, the error, the place. -/
def decL (l : List UInt8) (p : Nat) : List I3 := match decB l p with
  | none => []
  | some x => x.1
def decE (l : List UInt8) (p : Nat) : Int := match decB l p with
  | none => 50
  | some _ => 0
def decQ (l : List UInt8) (p : Nat) : Nat := match decB l p with
  | none => 0
  | some x => x.2
theorem dec_no {l : List UInt8} {p : Nat} (h : decB l p = none) : decL l p = [] ∧ decE l p = 50 := by unfold decL decE; rw [h]; exact ⟨rfl, rfl⟩
theorem dec_yes {l : List UInt8} {p q : Nat} {xs : List I3} (h : decB l p = some (xs, q)) : decL l p = xs ∧ decE l p = 0 ∧ decQ l p = q := by unfold decL decE decQ; rw [h]; exact ⟨rfl, rfl, rfl⟩
theorem decB_1 {l : List UInt8} {p n r q : Nat} (h : V.NumR l p 512 = (n, r, q)) (hr : r ≠ 0) : decB l p = none := by unfold decB; rw [h]; exact if_pos hr
theorem decB_2 {l : List UInt8} {p n q : Nat} (h : V.NumR l p 512 = (n, 0, q)) : decB l p = bodyOf (fwd l q n) := by unfold decB; rw [h]; exact if_neg (fun h => h rfl)
theorem body_ok {xs : List I3} {q : Nat} (h : okB xs = true) : bodyOf (some (xs, q)) = some (xs, q) := if_pos h
theorem body_no {xs : List I3} {q : Nat} (h : okB xs = false) : bodyOf (some (xs, q)) = none := if_neg (by rw [h]; decide)
/-- How Decode ends. -/
def BdyR (w : World) (br : Nat) (At : World → Nat → Prop) (xs : List I3) (E : Int) (Q : Nat) (e : Ending) (w' : World) : Prop :=
  ∃ v q, e = .returned (.tuple #[v, .int .i64 E]) ∧ Own w' 46 3 (Fresh w) v xs.length (iis xs) ∧ At w' q ∧ (E = 0 → q = Q) ∧ Keep (fun k => k = br) w w'
theorem bdy_none {w w' : World} {br Q q : Nat} {At : World → Nat → Prop} (h : At w' q) (hk : Keep (fun k => k = br) w w') : BdyR w br At [] 50 Q (.returned (.tuple #[.slice none 0 0, .int .i64 50])) w' :=
  ⟨_, q, rfl, Own.nil _ _ _ _, h, fun e => absurd e (by decide), hk⟩
/-- Three cells put at an element's place. -/
theorem wpList_put3 {ops : Array Oper} {rest : List Oper} {o : Oper} {a : Act} {w : World} {Q : Exit → Act → World → Prop} (hgd : o.guard = none) (x y : Operand) (ho : o.op = .store 46 x y)
    {g k : Nat} {xs : List I3} {u0 u1 u2 : Value} {r : List Value} (hB : Blk w g 46 (iis xs ++ u0 :: u1 :: u2 :: r).toArray) (hk : xs.length = k) (op av bv : Int)
    (hx : a.eval x = .pointer (some ⟨g, k * 3, none⟩)) (hy : a.eval y = instV op av bv)
    (h : ∀ w', Blk w' g 46 (iis (xs ++ [(op, av, bv)]) ++ r).toArray → Keep (fun b => b = g) w w' → wpList Tryz.prog ops Q rest (a.put o.dst undef) w') : wpList Tryz.prog ops Q (o :: rest) a w := by
  refine wpList_plain hgd fun K hK => ?_
  have hst := run_storeCells_at Tryz.prog g (k * 3) 46 [.int .i64 op, .int .i64 av, .int .i64 bv] 0 _ w hB (by rw [← hk]; simp [iis_length]) (by simp [Value.oneCell'])
  have e : (iis xs ++ u0 :: u1 :: u2 :: r).take (k * 3 + 0) ++ [.int .i64 op, .int .i64 av, .int .i64 bv] ++ (iis xs ++ u0 :: u1 :: u2 :: r).drop (k * 3 + 0 + 3) = iis (xs ++ [(op, av, bv)]) ++ r := by
    have hl : (iis xs).length = k * 3 := by rw [iis_length, hk]
    rw [Nat.add_zero, ← hl, List.take_left', List.drop_length_add_append, iis_append, iis_one] <;> rfl
  simp only [List.length_cons, List.length_nil, Nat.zero_add, Nat.reduceAdd] at hst
  rw [e] at hst
  obtain ⟨i0, hi, hz0, hz1, hz2⟩ := info_parts instr_info
  have hrun : (storeVar 46 ⟨g, k * 3, none⟩ (instV op av bv)).run Tryz.prog w = .ok () (w.setRow g (iis (xs ++ [(op, av, bv)]) ++ r).toArray) := by
    simp [storeVar, sizeOf, typeInfo, hi, hz1, Value.cells, hst]
  unfold Oper.wp execOp
  simp only [ho, hx, hy, Instr.storeAt, Instr.sureAddr, Sem.run_bind, Sem.run_pure, Result.andThen_ok, hrun]
  exact hK _ _ (h _ (setRow_heap w g _ _ _ _ hB) ⟨rfl, rfl, rfl, by simp, fun b _ hne => setRow_other w g b _ hne⟩)
theorem three {rest : List Value} {m : Nat} (h : rest.length = m * 3) (h0 : 0 < m) : ∃ u0 u1 u2 r, rest = u0 :: u1 :: u2 :: r ∧ r.length = (m - 1) * 3 := by
  match rest, h with
  | [], h => simp at h; omega
  | [_], h => simp at h; omega
  | [_, _], h => simp at h; omega
  | u0 :: u1 :: u2 :: r, h => exact ⟨u0, u1, u2, r, rfl, by simp at h; omega⟩
theorem made_blk {w w1 : World} {n : Nat} {zs : List Value} (hrow : w1.ownsRow 0 46 3 (.slice (some ⟨w.heap.size, 0, none⟩) n n) n zs) : ∃ rest : List Value, rest.length = n * 3 ∧ Blk w1 w.heap.size 46 (iis [] ++ rest).toArray := by
  obtain ⟨h3, h4⟩ := hrow
  rcases h4 with ⟨h4, _⟩ | ⟨g, cap, cur, h4, _, h6, _, _, h7, _⟩
  · cases h4
  · injection h4 with h4 _ h8
    injection h4 with h4
    injection h4 with h4 _ _
    subst h4 h8
    exact ⟨cur.toList, by simpa using h7, by rw [iis_nil, List.nil_append, Array.toArray_toList]; exact h6⟩

set_option maxRecDepth 100000 in
set_option maxHeartbeats 4000000 in
theorem cdecode_any (w : World) (br : Nat) (Ob : Nat → Prop) (l : List UInt8) (p : Nat) (hO : ∀ k, Ob k → k < w.heap.size) (h : V.ReelAt w br Ob l p) (hlen : l.length ≤ 140737488355328) :
    Calls Tryz.prog 13 #[.pointer (some ⟨br, 0, none⟩)] w (BdyR w br (fun w' q => V.ReelAt w' br Ob l q) (decL l p) (decE l p) (decQ l p)) := by
  have hbr := O.reel_lt h
  have HS := Lib.hid (V.rnumber_any w br Ob l p 512 h hlen)
  obtain ⟨n, r, q, hN, hN0, hN1⟩ := num_case l p 512
  rw [hN] at HS
  clear h
  by_cases hr : r = 0
  · subst hr
    obtain ⟨hn1, hn2⟩ := hN0 rfl
    have HD := Lib.hid (decB_2 hN)
    obtain ⟨i0, hi, hz0, hz1, hz2⟩ := info_parts instr_info
    have HO := Lib.hid hO
    clear hN0 hN1 hN hO
    go_enter Tryz.func13, Tryz.ntmps13
    go_wp2_with fail
    refine HS.out.mono ?_
    rintro e w1 ⟨rfl, h1, k1⟩
    have gs := k1.size
    go_wp2_with (at_make; refine wpList_make_full _ rfl _ _ 22 rfl 0 46 i0 _ 3 Tryz.underlying22 hi hz0 hz1 _ _ _ _ n rfl rfl rfl rfl (by rw [hz2]; omega) (by unfold maxLen; omega) (Nat.zero_le _) ?_; intro w2 hrow2 hg2; obtain ⟨rest, hrl, hB2⟩ := made_blk hrow2; have k2 : Keep NoB w1 w2 := (Keep.refl NoB w1).grown hg2 (fun g e _ => by cases e); clear hrow2 hg2)
    have h2 := h1.keep k2 (fun _ _ => id)
    have gK : Keep (fun k => k = br) w w2 := k1.trans (k2.mono (fun _ hf _ => hf.elim)) (fun _ ho _ => ho)
    clear h1 k1 k2
    go_loopw [19] (fun i wr => ∃ k : Nat, k ≤ n ∧ i = .int .i64 k ∧ ∃ xs qk rest, fwd l q k = some (xs, qk) ∧ rest.length = (n - k) * 3 ∧ Blk wr w1.heap.size 46 (iis xs ++ rest).toArray ∧ V.ReelAt wr br Ob l qk ∧ Keep (fun k => k = br) w wr) (fun i _ => n - (intOf i).toNat)
    case atStart => exact ⟨0, Nat.zero_le _, rfl, [], q, rest, rfl, hrl, hB2, h2, gK⟩
    case round =>
      clear hB2 h2 gK hrl
      obtain ⟨k, hk, rfl, xs, qk, rest, hf, hrl, hB, hA, hK⟩ := hrel
      obtain ⟨_, _, hxl, _⟩ := fwd_ok k hf
      by_cases hlt : k < n
      · obtain ⟨u0, u1, u2, r, rfl, hrl2⟩ := three hrl (by omega)
        have HE := Lib.hid (O.decode_any wr br Ob l qk (fun k h => Nat.lt_of_lt_of_le (HO.out k h) hK.size) hA hlen)
        have HF := Lib.hid (fun he => fwd_step hf he)
        have HG := Lib.hid (fun he => fwd_none (fwd_stop hf he) n (by omega))
        obtain ⟨y, hy⟩ : ∃ y, d3 l qk = y := ⟨_, rfl⟩
        have e0 : ∃ op a b er pl, decI l qk = ⟨op, a, b, er, pl⟩ := ⟨_, _, _, _, _, rfl⟩
        obtain ⟨op, a, b, er, pl, e0⟩ := e0
        have hy2 : d3 l qk = (op, a, b) := by unfold d3; rw [e0]
        rw [e0] at HE HG
        rw [e0, hy2] at HF
        dsimp only at HE HF HG
        clear hf hA hy hy2 e0
        go_wp2_with fail
        refine HE.out.mono ?_
        rintro e w4 ⟨rfl, h4, k4⟩
        dsimp only at h4
        have hB4 := hB.keep k4 (fun e => by omega)
        have hK4 := hK.trans k4 (fun _ ho _ => ho)
        clear hB hK k4
        have hgo : ∀ k, Ob k → ¬ (k = w1.heap.size) := fun k h e => by have := HO.out k h; omega
        have gs4 := hK4.size
        by_cases he : er = 0
        · subst he
          go_wp2_with (refine wpList_put3 rfl _ _ rfl hB4 hxl op a b rfl rfl ?_; intro w6 hB6 k6)
          go_roundw
          case rel => exact ⟨k + 1, by omega, by go_num, xs ++ [(op, a, b)], pl, r, HF.out (by first | rfl | trivial), by omega, hB6, h4.keep k6 hgo, hK4.trans k6 (fun b e hl => by omega)⟩
          case measure => simp [intOf]; omega
        · have hr3 : ((er : Int) != 0) = true := by rw [bne_iff_ne]; omega
          have HD2 := Lib.hid (dec_no (l := l) (p := p) (by rw [HD.out, HG.out he]; rfl))
          go_wp2_with (refine wpList_put3 rfl _ _ rfl hB4 hxl op a b rfl rfl ?_; intro w6 hB6 k6)
          go_ret2
          rw [HD2.out.1, HD2.out.2]
          exact bdy_none (h4.keep k6 hgo) (hK4.trans k6 (fun b e hl => by omega))
      · obtain rfl : k = n := by omega
        obtain rfl : rest = [] := List.length_eq_zero_iff.1 (by rw [hrl]; omega)
        rw [List.append_nil] at hB
        rw [hf] at HD
        have hxh := Lib.hid hxl
        have HI := Lib.hid (fun w h => ifBody_any (some ⟨w1.heap.size, 0, none⟩) xs k k w h hxh (by omega))
        have hown : Own wr 46 3 (Fresh w) (.slice (some ⟨w1.heap.size, 0, none⟩) k k) k (iis xs) := by
          have := row_take hB hxl (Nat.le_refl k) (by omega)
          rw [List.take_of_length_le (by omega)] at this
          exact ⟨this, fun g e => by cases e; exact gs⟩
        have hrd : Rd wr (some ⟨w1.heap.size, 0, none⟩) (iis xs) := by
          obtain ⟨A', c', e, _, _, hr, _⟩ := hown.form
          cases e; exact hr
        clear hf hrl hB hxl
        go_wp2_with (go_at_call 37; refine (HI.out _ hrd).mono ?_; rintro e w5 ⟨rfl, k5⟩)
        have hA5 := hA.keep k5 (fun _ _ => id)
        have hK5 : Keep (fun k => k = br) w w5 := hK.trans (k5.mono (fun _ hf _ => hf.elim)) (fun _ ho _ => ho)
        go_ret2
        cases ho : okB xs
        · obtain ⟨e1, e2⟩ := dec_no (l := l) (p := p) (by rw [HD.out, body_no ho])
          rw [e1, e2, ifV_no ho, chkB_no ho]
          exact bdy_none hA5 hK5
        · obtain ⟨e1, e2, e3⟩ := dec_yes (l := l) (p := p) (by rw [HD.out, body_ok ho])
          rw [e1, e2, e3, ifV_ok ho, chkB_ok ho]
          exact ⟨_, qk, rfl, by rw [hxh.out]; exact hown.keepN k5, hA5, fun _ => rfl, hK5⟩
  · obtain ⟨e1, e2⟩ := dec_no (decB_1 hN hr)
    rw [e1, e2]
    have hr3 : ((r : Int) != 0) = true := by rw [bne_iff_ne]; omega
    clear hN0 hN1 hN hr e1 e2
    go_enter Tryz.func13, Tryz.ntmps13
    go_wp2_with fail
    refine HS.out.mono ?_
    rintro e w1 ⟨rfl, h1, k1⟩
    go_wp2
    go_ret2
    exact bdy_none h1 k1

end Go.Proofs.YtonpplpfipfnfaaGreatDoor.C

namespace Go.Proofs.YtonpplpfipfnfaaGreatDoor.C
open Go.RowKit O

theorem own_afterB {w W W' : World} {E size n br : Nat} {v v' : Value} {xs : List Value} (ho : ∀ g, v.ownBlock = some g → Fresh w g) (hK : Keep (fun k => k = br) w W) (hg : W.grownBy W' v.ownBlock)
    (hv : v'.ownBlock = v.ownBlock ∨ v'.ownBlock = some W.heap.size) (hrow : W'.ownsRow 0 E size v' n xs) : Own W' E size (Fresh w) v' n xs ∧ Keep (fun k => k = br) w W' := by
  refine ⟨⟨hrow, fun g e => ?_⟩, hK.grown hg (fun g e h => by have := ho g e; unfold Fresh at this; omega)⟩
  rcases hv with h | h
  · exact ho g (h ▸ e)
  · rw [h] at e; cases e; exact hK.size
theorem ref_grown {w W W' : World} {br p : Nat} {Ob : Nat → Prop} {l : List UInt8} {v : Value} (h : V.RefAt W br Ob l p) (hO : ∀ k, Ob k → k < w.heap.size) (ho : ∀ g, v.ownBlock = some g → Fresh w g) (hg : W.grownBy W' v.ownBlock) : V.RefAt W' br Ob l p :=
  h.keep (O' := fun k => some k = v.ownBlock) ((Keep.refl _ W).grown hg (fun _ e _ => e.symm)) (fun k hk e => by have h1 := hO k hk; have h2 := ho k e.symm; unfold Fresh at h2; omega)
/-- The numbers of what is read fit. -/
theorem ok1_I {x : I3} (h : ok1 x = true) : O.I64 x.2.1 ∧ O.I64 x.2.2 := ⟨(in_bounds (ok_op h).2.1).1, (in_bounds (ok_op h).2.2).1⟩
theorem dec_I {l : List UInt8} {p : Nat} (h : (decI l p).er = 0) : O.I64 (d3 l p).2.1 ∧ O.I64 (d3 l p).2.2 := ok1_I (x := d3 l p) (decI_ok h).1
theorem fwd_I {l : List UInt8} {p : Nat} (k : Nat) {xs : List I3} {q : Nat} (h : fwd l p k = some (xs, q)) : AllI xs := fun x hx => ok1_I (List.all_eq_true.1 (fwd_ok k h).2.2.2 x hx)

set_option maxRecDepth 100000 in
set_option maxHeartbeats 4000000 in
theorem rcdecode_any (w : World) (br : Nat) (Ob : Nat → Prop) (l : List UInt8) (p : Nat) (hO : ∀ k, Ob k → k < w.heap.size) (h : V.RefAt w br Ob l p) (hlen : l.length ≤ 140737488355328) :
    Calls Tryz.prog 14 #[.pointer (some ⟨br, 0, none⟩)] w (BdyR w br (fun w' q => V.RefAt w' br Ob l q) (decL l p) (decE l p) (decQ l p)) := by
  have hbr := O.ref_lt h
  have HS := Lib.hid (V.refnumber_any w br Ob l p 512 h hlen)
  obtain ⟨n, r, q, hN, hN0, hN1⟩ := num_case l p 512
  rw [hN] at HS
  clear h
  by_cases hr : r = 0
  · subst hr
    obtain ⟨hn1, hn2⟩ := hN0 rfl
    have HD := Lib.hid (decB_2 hN)
    obtain ⟨i0, hi, hz0, hz1, hz2⟩ := info_parts instr_info
    have HO := Lib.hid hO
    clear hN0 hN1 hN hO
    go_enter Tryz.func14, Tryz.ntmps14
    go_wp2_with fail
    refine HS.out.mono ?_
    rintro e w1 ⟨rfl, h1, gK⟩
    go_wp2
    go_loopw [6, 7] (fun v i wr => ∃ k : Nat, k ≤ n ∧ i = .int .u64 k ∧ ∃ xs qk B d, fwd l q k = some (xs, qk) ∧ v = .slice B k d ∧ Own wr 46 3 (Fresh w) (.slice B k d) k (iis xs) ∧ V.RefAt wr br Ob l qk ∧ Keep (fun k => k = br) w wr) (fun _ i _ => n - (intOf i).toNat)
    case atStart => exact ⟨0, Nat.zero_le _, rfl, [], q, none, 0, rfl, rfl, Own.nil _ _ _ _, h1, gK⟩
    case round =>
      clear h1 gK
      obtain ⟨k, hk, rfl, xs, qk, B, d, hf, rfl, hO, hA, hK⟩ := hrel
      obtain ⟨_, _, hxl, _⟩ := fwd_ok k hf
      by_cases hlt : k < n
      · have hwk : IntKind.u64.wrap ((k : Int) + 1) = ((k + 1 : Nat) : Int) := by simp [IntKind.wrap, IntKind.bits, IntKind.signed]; omega
        have HE := Lib.hid (O.rdecode_any wr br Ob l qk (fun k h => Nat.lt_of_lt_of_le (HO.out k h) hK.size) hA hlen)
        have HF := Lib.hid (fun he => fwd_step hf he)
        have HG := Lib.hid (fun he => fwd_none (fwd_stop hf he) n (by omega))
        have e0 : ∃ op a b er pl, decI l qk = ⟨op, a, b, er, pl⟩ := ⟨_, _, _, _, _, rfl⟩
        obtain ⟨op, a, b, er, pl, e0⟩ := e0
        have hy2 : d3 l qk = (op, a, b) := by unfold d3; rw [e0]
        rw [e0] at HE HG
        rw [e0, hy2] at HF
        dsimp only at HE HF HG
        have HX : Hid (iis (xs ++ [(op, a, b)]) = iis xs ++ [.int .i64 op, .int .i64 a, .int .i64 b]) := iis_append _ _
        clear hf hA hy2 e0
        go_wp2_with fail
        refine HE.out.mono ?_
        rintro e w4 ⟨rfl, h4, k4⟩
        dsimp only at h4
        have hO4 := (hO.keep k4 (fun g hg e => by unfold Fresh at hg; omega)).keepN ((Keep.refl NoB w4).alloc (.cells #[.int .i64 op, .int .i64 a, .int .i64 b] 46))
        have hK4 := (hK.trans k4 (fun _ ho _ => ho)).alloc (.cells #[.int .i64 op, .int .i64 a, .int .i64 b] 46)
        have h5 := h4.keep ((Keep.refl NoB w4).alloc (.cells #[.int .i64 op, .int .i64 a, .int .i64 b] 46)) (fun _ _ => id)
        clear hO hK k4
        by_cases he : er = 0
        · subst he
          go_wp2_with (at_builtin; refine wpList_append_rd _ rfl (.tmp 29) (.tmp 31) _ rfl 46 3 24 i0 _ Tryz.underlying22 hi hz0 hz1 hz2 rfl (by decide) _ k _ _ 1 _ [.int .i64 op, .int .i64 a, .int .i64 b] rfl (hO4.1.alloc _) rfl (W.rd_made (by simp) rfl) rfl (by simp [Value.oneCell']) (by unfold maxLen; omega) (by omega) ?_; intro B5 d5 w5 hrow5 hg5 hv5; obtain ⟨hO5, hK5⟩ := own_afterB hO4.2 (hK4.alloc _) hg5 hv5 hrow5; have h6 := ref_grown (h5.keep ((Keep.refl NoB _).alloc _) (fun _ _ => id)) HO.out hO4.2 hg5; clear hrow5 hg5 hv5)
          go_roundw
          case rel => exact ⟨k + 1, by omega, by go_num, xs ++ [(op, a, b)], pl, B5, d5, HF.out (by first | rfl | trivial), rfl, by rw [HX.out]; exact hO5, h6, hK5⟩
          case measure => simp [intOf]; omega
        · have hr3 : ((er : Int) != 0) = true := by rw [bne_iff_ne]; omega
          have HD2 := Lib.hid (dec_no (l := l) (p := p) (by rw [HD.out, HG.out he]; rfl))
          go_wp2
          go_ret2
          rw [HD2.out.1, HD2.out.2]
          exact bdy_none h5 hK4
      · obtain rfl : k = n := by omega
        rw [hf] at HD
        have hxh := Lib.hid hxl
        have hxI := Lib.hid (fwd_I k hf)
        have hrd : Rd wr B (iis xs) := by
          obtain ⟨A', c', e, _, _, hr, _⟩ := hO.form
          cases e; exact hr
        clear hf hxl
        cases ho : okB xs
        · obtain ⟨e1, e2⟩ := dec_no (l := l) (p := p) (by rw [HD.out, body_no ho])
          have HI := Lib.hid (fun w h => rcchk_any B xs k d w h hxh hxI (by omega) 50 (chkB_no ho))
          have HE := Lib.hid (And.intro e1 e2)
          clear ho e1 e2
          go_wp2_with (go_at_call 18; refine (HI.out _ hrd).mono ?_; rintro e w5 ⟨rfl, k5⟩)
          go_ret2
          rw [HE.out.1, HE.out.2]
          exact bdy_none (hA.keep k5 (fun _ _ => id)) (hK.trans (k5.mono (fun _ hf _ => hf.elim)) (fun _ ho _ => ho))
        · obtain ⟨e1, e2, e3⟩ := dec_yes (l := l) (p := p) (by rw [HD.out, body_ok ho])
          have HI := Lib.hid (fun w h => rcchk_any B xs k d w h hxh hxI (by omega) 0 (chkB_ok ho))
          have HE := Lib.hid (And.intro e1 (And.intro e2 e3))
          clear ho e1 e2 e3
          go_wp2_with (go_at_call 18; refine (HI.out _ hrd).mono ?_; rintro e w5 ⟨rfl, k5⟩)
          go_ret2
          rw [HE.out.1, HE.out.2.1, HE.out.2.2]
          exact ⟨_, qk, rfl, by rw [hxh.out]; exact hO.keepN k5, hA.keep k5 (fun _ _ => id), fun _ => rfl, hK.trans (k5.mono (fun _ hf _ => hf.elim)) (fun _ ho _ => ho)⟩
  · obtain ⟨e1, e2⟩ := dec_no (decB_1 hN hr)
    rw [e1, e2]
    have hr3 : ((r : Int) != 0) = true := by rw [bne_iff_ne]; omega
    clear hN0 hN1 hN hr e1 e2
    go_enter Tryz.func14, Tryz.ntmps14
    go_wp2_with fail
    refine HS.out.mono ?_
    rintro e w1 ⟨rfl, h1, k1⟩
    go_wp2
    go_ret2
    exact bdy_none h1 k1

end Go.Proofs.YtonpplpfipfnfaaGreatDoor.C

namespace Go.Proofs.YtonpplpfipfnfaaGreatDoor.O
open Go.RowKit

theorem own_rd {w : World} {O : Nat → Prop} {v : Value} {l : List UInt8} (h : V.OwnB w O v l) : ∃ A c, v = .slice A l.length c ∧ V.Rd w A l ∧ (∀ ad, A = some ad → ad.block < w.heap.size) := by
  obtain ⟨A, c, rfl, _, hr, _, _⟩ := h.form
  exact ⟨A, c, rfl, hr, fun ad e => (h.1.lt ad.block (by rw [e]; rfl)).2⟩
theorem rd_br {w w' : World} {A : Option Addr} {l : List UInt8} {B br : Nat} (h : V.Rd w A l) (hb : ∀ ad, A = some ad → ad.block < B) (hbr : B ≤ br) (hk : Keep (fun k => k = br) w w') : V.Rd w' A l :=
  h.keep hk (fun ad e _ he => by have := hb ad e; omega)
theorem rd_n {w w' : World} {A : Option Addr} {l : List UInt8} (h : V.Rd w A l) (hk : Keep NoB w w') : V.Rd w' A l := h.keep hk (fun _ _ _ => id)
theorem check_genF (op a b c : Int) (w : World) (h : chk op a b = c) :
    Calls Tryz.prog 40 #[instV op a b] w fun e w' => e = .returned (.int .i64 c) ∧ Keep NoB w w' := by subst h; exact check_any op a b w
theorem at_gen {w w1 : World} {br p : Nat} {O : Nat → Prop} {l : List UInt8} (h : V.ReelAt w1 br O l p) (hk : Keep NoB w1 w) :
    Calls Tryz.prog 16 #[.pointer (some ⟨br, 0, none⟩)] w fun e w' => e = .returned (.int .i64 p) ∧ Keep NoB w w' :=
  (V.at_any w br O l p (h.keep hk (fun _ _ => id))).mono fun _ _ ⟨he, hw⟩ => ⟨he, by rw [← hw]; exact Keep.refl _ _⟩
theorem keep_br {w w1 w2 : World} {br : Nat} (h : Keep NoB w w1) (h2 : Keep (fun k => k = br) w1 w2) (hbr : w.heap.size ≤ br) : Keep NoB w w2 := h.trans h2 (fun k e hl => by subst e; omega)
theorem list_self (T : ByteArray) : (T.toList == T.toList) = true := by simp

theorem ref_place {w : World} {br p : Nat} {O : Nat → Prop} {l : List UInt8} (h : V.RefAt w br O l p) : w.cell? ⟨br, 1, none⟩ = some (.int .i64 (p : Int)) := by
  obtain ⟨A, c, hb, _⟩ := h.cells
  exact hb.cell 1

end Go.Proofs.YtonpplpfipfnfaaGreatDoor.O

namespace Go.Proofs.YtonpplpfipfnfaaGreatDoor.C
open Go.RowKit O

theorem own_none {W : World} {E : TypeId} {size b : Nat} (hb : b = W.heap.size) : (W.alloc (.cells #[] E)).ownsRow 0 E size (.slice (some ⟨b, 0, none⟩) 0 0) 0 [] := by
  subst hb; exact World.ownsRow_made W #[] 0 (Nat.zero_le _) (Nat.zero_le _) (by simp)
theorem own_rdI {w : World} {O : Nat → Prop} {v : Value} {n : Nat} {m : List I3} (h : Own w 46 3 O v n (iis m)) : ∃ A c, v = .slice A n c ∧ Rd w A (iis m) := by
  obtain ⟨A, c, e, _, _, hr, _⟩ := h.form
  exact ⟨A, c, e, hr⟩
theorem decL_len (l : List UInt8) (p : Nat) : (decL l p).length ≤ 512 := by
  cases h : decB l p with
  | none => rw [(dec_no h).1]; exact Nat.zero_le _
  | some x => rw [(dec_yes (xs := x.1) (q := x.2) h).1]; exact (okB_parts (decB_ok (xs := x.1) (q := x.2) h).1).2.1
theorem decL_I (l : List UInt8) (p : Nat) : AllI (decL l p) := by
  cases h : decB l p with
  | none => rw [(dec_no h).1]; intro x hx; cases hx
  | some x =>
    rw [(dec_yes (xs := x.1) (q := x.2) h).1]
    exact fun y hy => ok1_I (List.all_eq_true.1 (all_ok1 (decB_ok (xs := x.1) (q := x.2) h).1) y hy)

set_option maxRecDepth 100000 in
set_option maxHeartbeats 1000000 in
theorem cforms_big (A : Option Addr) (n c : Nat) (B : Option Addr) (m d : Nat) (w : World) (h : 600 < n ∨ 3000 < m) :
    Calls Tryz.prog 3 #[.slice A n c, .slice B m d] w fun e w' => e = .returned (.bool true) ∧ Keep NoB w w' := by
  by_cases h1 : 600 < n
  · have hq : decide ((600 : Int) < (n : Int)) = true := by rw [decide_eq_true_iff]; omega
    clear h h1
    go_enter Tryz.func3, Tryz.ntmps3
    go_wp2
    go_ret
    exact ⟨rfl, Keep.refl NoB w⟩
  · have hq : decide ((600 : Int) < (n : Int)) = false := by rw [decide_eq_false_iff_not]; omega
    have hq2 : decide ((3000 : Int) < (m : Int)) = true := by rw [decide_eq_true_iff]; omega
    clear h h1
    go_enter Tryz.func3, Tryz.ntmps3
    go_wp2
    go_ret
    exact ⟨rfl, Keep.refl NoB w⟩

set_option maxRecDepth 100000 in
set_option maxHeartbeats 8000000 in
theorem cforms_ok (A : Option Addr) (l : List I3) (n c : Nat) (B : Option Addr) (b : List UInt8) (d : Nat) (w : World) (hr : Hid (Rd w A (iis l))) (hn : Hid (l.length = n)) (hI : Hid (AllI l)) (hb : Hid (V.Rd w B b)) (h1 : n ≤ 600) (h2 : b.length ≤ 3000)
    (xs : List I3) (E : Int) (Q : Nat) (hx : decL b 0 = xs) (he : decE b 0 = E) (hq : decQ b 0 = Q) (her : E = 0) (k : Int) (hk : Hid (chkB l = k)) (S : ByteArray) (hS0 : Hid (V.str (encB l) = S)) (D : ByteArray) (hD : Hid (V.str b = D)) :
    Calls Tryz.prog 3 #[.slice A n c, .slice B b.length d] w fun e w' => e = .returned (.bool true) ∧ Keep NoB w w' := by
  have HL : Hid (b.length ≤ 140737488355328) := by show _ ≤ _; omega
  have hq1 : decide ((600 : Int) < (n : Int)) = false := by rw [decide_eq_false_iff_not]; omega
  have hq2 : decide ((3000 : Int) < (b.length : Int)) = false := by rw [decide_eq_false_iff_not]; omega
  have hm : n ≤ 9223372036854775807 := by omega
  have qS := list_self S
  have qD := list_self D
  obtain ⟨i0, hi, hz0, hz1, hz2⟩ := info_parts instr_info
  have HX := Lib.hid (fun A c w hr => cencode_any A l n c w hr hn hI hm)
  have HY := Lib.hid (fun w hr => rcencode_any A l n c w hr hn hI hm)
  have HC1 := Lib.hid (fun A c w hr => cchk_any A l n c w hr hn hm k hk.out)
  have HC2 := Lib.hid (fun w hr => rcchk_any A l n c w hr hn hI hm k hk)
  rw [hk.out] at HX HY
  have HD1 := Lib.hid (fun w br O hO h => cdecode_any w br O b 0 hO h HL.out)
  have HD2 := Lib.hid (fun w br O hO h => rcdecode_any w br O b 0 hO h HL.out)
  have HLL := Lib.hid (fun A1 c1 w h1 h2 => lists_any A1 A l l n n c1 c w h1 h2 hn hn hm hm true (by show _ = _; simp))
  have hxl := decL_len b 0
  rw [hx] at hxl
  rw [hx, he, hq] at HD1 HD2
  obtain ⟨mx, hmx⟩ : ∃ mx, xs.length = mx := ⟨_, rfl⟩
  rw [hmx] at hxl
  have HM := Lib.hid hmx
  have HLX := Lib.hid (fun A1 A2 c1 c2 w h1 h2 => lists_any A1 A2 xs xs mx mx c1 c2 w h1 h2 hmx hmx (by omega) (by omega) true (by show _ = _; simp))
  subst her
  clear hx he hq hmx hxl
  go_enter Tryz.func3, Tryz.ntmps3
  go_wp2_with (at_builtin; refine wpList_append_rd _ rfl (.tmp 25) (.tmp 26) _ rfl 46 3 24 i0 _ Tryz.underlying22 hi hz0 hz1 hz2 rfl (by decide) _ 0 [] A n c (iis l) rfl (own_none (by simp)) rfl (hr.out.keepN ((Keep.refl NoB _).alloc _)) (by rw [iis_length, hn.out]) (iis_cells l) (by unfold maxLen; omega) (by omega) ?_; intro A1 c1 w1 hrow hg1 hv1; obtain ⟨hO1, hK1⟩ := W.own_after (w := w) (fun g e => by cases e; unfold Fresh; simp) ((Keep.refl NoB _).alloc _) hg1 hv1 hrow; clear hrow hg1 hv1)
  simp only [Nat.zero_add, List.nil_append] at hO1 ⊢
  obtain ⟨A1', c1', e1, hro⟩ := own_rdI hO1
  cases e1
  clear hO1
  refine (V.twin_any _ B b d (rd_n hb.out hK1) HL.out).mono ?_
  rintro e w2 ⟨vo, rfl, ho, k1⟩
  obtain ⟨Ao, co, rfl, ro, _⟩ := own_rd ho
  have gK := keepN hK1 k1
  replace hro := hro.keepN k1
  clear ho k1 hK1
  go_wp2_with fail
  refine (HX.out _ _ _ hro).mono ?_
  rintro e w3 ⟨vu, rfl, hu, k1⟩
  obtain ⟨Au, cu, rfl, ru, _⟩ := own_rd hu
  replace gK := keepN gK k1
  replace hro := hro.keepN k1
  replace ro := rd_n ro k1
  clear hu k1
  go_wp2_with fail
  refine (HY.out _ (hr.out.keepN gK)).mono ?_
  rintro e w4 ⟨vv, rfl, hv, k1⟩
  obtain ⟨Av, cv, rfl, rv, _⟩ := own_rd hv
  replace gK := keepN gK k1
  replace hro := hro.keepN k1
  replace ro := rd_n ro k1
  replace ru := rd_n ru k1
  have hrl := hr.out.keepN gK
  have hrb := rd_n hb.out gK
  clear hv k1
  go_wp2_with fail
  refine (V.on_any _ Ao b co ro HL.out).mono ?_
  rintro e w5 ⟨br, rfl, hR, g4⟩
  have s4 := g4.size
  have hbr : w4.heap.size ≤ br := hR.1
  have hR := O.reel_new hR
  have hbr2 : br < w5.heap.size := O.reel_lt hR
  go_wp2_with fail
  refine (V.twin_any _ B b d (rd_n hrb g4) HL.out).mono ?_
  rintro e w6 ⟨vb, rfl, hbb, k1⟩
  obtain ⟨Ab, cb, rfl, hcb, rb, hAb, hmb⟩ := hbb.form
  have bb : ∀ ad, Ab = some ad → ad.block < w6.heap.size := fun ad e => (hbb.1.lt ad.block (by rw [e]; rfl)).2
  have s5 := k1.size
  replace k1 := k1.alloc (.cells #[.slice Ab b.length cb, .int .i64 0] 34)
  replace g4 := keepN g4 k1
  replace hR := hR.keep k1 (fun _ _ => id)
  have hS : V.RefAt (w6.alloc (.cells #[.slice Ab b.length cb, .int .i64 0] 34)) w6.heap.size (fun k => w5.heap.size ≤ k ∧ k < (w6.alloc (.cells #[.slice Ab b.length cb, .int .i64 0] 34)).heap.size) b 0 :=
    ⟨⟨s5, by simp⟩, Nat.zero_le _, Ab, cb, Blk.new _ _ _, rd_n rb ((Keep.refl NoB w6).alloc _), hcb, hmb, fun ad e => ⟨⟨(hAb ad e).1, by have := bb ad e; simp; omega⟩, by have := bb ad e; simp; omega⟩⟩
  clear k1 hbb rb hAb hcb hmb bb
  have s6 : (w6.alloc (.cells #[.slice Ab b.length cb, .int .i64 0] 34)).heap.size = w6.heap.size + 1 := by simp
  go_wp2_with fail
  refine (HD1.out _ br _ (fun k hk => by omega) hR).mono ?_
  rintro e w7 ⟨vx, qx, rfl, hOx, hR, hQx, k1⟩
  rw [HM.out] at hOx
  have s7 := k1.size
  replace hS := hS.keep k1 (fun k ho e => by omega)
  replace g4 := keep_br g4 k1 hbr
  clear k1
  go_wp2_with fail
  refine (HD2.out _ w6.heap.size _ (fun k hk => by omega) hS).mono ?_
  rintro e w8 ⟨vy, qy, rfl, hOy, hS, hQy, k1⟩
  rw [HM.out] at hOy
  replace hOx := hOx.keep k1 (fun k ho e => by unfold Fresh at ho; omega)
  obtain ⟨Ax, cx, rfl, rx⟩ := own_rdI hOx
  obtain ⟨Ay, cy, rfl, ry⟩ := own_rdI hOy
  replace hR := hR.keep k1 (fun k ho e => by omega)
  replace g4 := keep_br g4 k1 (by omega)
  clear k1 hOx hOy
  rw [hQx (by first | rfl | trivial)] at hR
  rw [hQy (by first | rfl | trivial)] at hS
  clear hQx hQy
  replace hro := hro.keepN g4
  replace hrl := hrl.keepN g4
  replace hrb := rd_n hrb g4
  replace ro := rd_n ro g4
  replace ru := rd_n ru g4
  replace rv := rd_n rv g4
  replace gK := keepN gK g4
  clear g4
  go_wp2_with fail
  refine wp_region_sh ((0, false) :: (1, false) :: (2, false) :: (3, false) :: (4, false) :: (5, false) :: (6, false) :: (7, false) :: (8, false) :: (9, false) :: (10, false) :: (11, false) :: (12, false) :: (13, false) :: (14, false) :: (15, false) :: (16, false) :: (17, false) :: (18, false) :: (19, false) :: (20, false) :: (21, false) :: (22, false) :: (23, false) :: (24, false) :: (25, false) :: (26, false) :: (27, false) :: (28, false) :: (29, false) :: (30, false) :: (31, false) :: (32, false) :: (33, false) :: (34, false) :: (35, false) :: (36, false) :: (37, false) :: (38, false) :: (39, false) :: (40, false) :: (41, false) :: (42, false) :: (43, false) :: (44, false) :: (45, false) :: (46, false) :: (47, false) :: (48, false) :: (49, false) :: (50, false) :: (51, false) :: (52, false) :: []) (fun w' => Keep NoB w8 w') (by kernel_rfl) (by kernel_rfl) (by rfl) (by kernel_rfl) (stable_keep w8) (Keep.refl NoB w8).drew ?_
  refine shM_step rfl rfl rfl (by rfl) (by rfl) ?_
  apply Exists.intro
  refine ⟨fun n K hK => ?_, ?_, ?_⟩
  · go_big_quiet_op
    exact hK _ rfl
  · kernel_rfl
  refine shM_step rfl rfl rfl (by rfl) (by rfl) ?_
  apply Exists.intro
  refine ⟨fun n K hK => ?_, ?_, ?_⟩
  · have cu_ : ∀ m : KW n.w, (convert 23 9 (.slice Au (encB l).length cu)).run Tryz.prog m.w = .ok (.string S) m.w := fun m => by have := V.conv_rd (c := cu) (rd_n ru (keepN n.has m.keep)); rw [show V.str (encB l) = S from hS0.out] at this; exact this
    go_big_quiet_op
    exact hK _ rfl
  · kernel_rfl
  refine shM_step rfl rfl rfl (by rfl) (by rfl) ?_
  apply Exists.intro
  refine ⟨fun n K hK => ?_, ?_, ?_⟩
  · go_big_quiet_op
    exact hK _ rfl
  · kernel_rfl
  refine shM_step rfl rfl rfl (by rfl) (by rfl) ?_
  apply Exists.intro
  refine ⟨fun n K hK => ?_, ?_, ?_⟩
  · have cv_ : ∀ m : KW n.w, (convert 23 9 (.slice Av (encB l).length cv)).run Tryz.prog m.w = .ok (.string S) m.w := fun m => by have := V.conv_rd (c := cv) (rd_n rv (keepN n.has m.keep)); rw [show V.str (encB l) = S from hS0.out] at this; exact this
    go_big_quiet_op
    exact hK _ rfl
  · kernel_rfl
  refine shM_step rfl rfl rfl (by rfl) (by rfl) ?_
  apply Exists.intro
  refine ⟨fun n K hK => ?_, ?_, ?_⟩
  · go_big_quiet_op
    exact hK _ rfl
  · kernel_rfl
  refine shM_step rfl rfl rfl (by rfl) (by rfl) ?_
  apply Exists.intro
  refine ⟨fun n K hK => ?_, ?_, ?_⟩
  · go_big_quiet_op
    exact hK _ rfl
  · kernel_rfl
  refine shM_step rfl rfl rfl (by rfl) (by rfl) ?_
  apply Exists.intro
  refine ⟨fun n K hK => ?_, ?_, ?_⟩
  · go_big_quiet_op
    exact hK _ rfl
  · kernel_rfl
  refine shM_step rfl rfl rfl (by rfl) (by rfl) ?_
  apply Exists.intro
  refine ⟨fun n K hK => ?_, ?_, ?_⟩
  · go_big_quiet_op
    exact hK _ rfl
  · kernel_rfl
  refine shM_step rfl rfl rfl (by rfl) (by rfl) ?_
  apply Exists.intro
  refine ⟨fun n K hK => ?_, ?_, ?_⟩
  · go_big_quiet_op
    exact hK _ rfl
  · kernel_rfl
  refine shM_step rfl rfl rfl (by rfl) (by rfl) ?_
  apply Exists.intro
  refine ⟨fun n K hK => ?_, ?_, ?_⟩
  · go_big_quiet_op
    exact hK _ rfl
  · kernel_rfl
  refine shM_step rfl rfl rfl (by rfl) (by rfl) ?_
  apply Exists.intro
  refine ⟨fun n K hK => ?_, ?_, ?_⟩
  · go_big_quiet_op
    exact hK _ rfl
  · kernel_rfl
  refine shM_step rfl rfl rfl (by rfl) (by rfl) ?_
  apply Exists.intro
  refine ⟨fun n K hK => ?_, ?_, ?_⟩
  · go_big_quiet_op
    exact hK _ rfl
  · kernel_rfl
  refine shM_step rfl rfl rfl (by rfl) (by rfl) ?_
  apply Exists.intro
  refine ⟨fun n K hK => ?_, ?_, ?_⟩
  · go_big_quiet_op
    exact hK _ rfl
  · kernel_rfl
  refine shM_step rfl rfl rfl (by rfl) (by rfl) ?_
  apply Exists.intro
  refine ⟨fun n K hK => ?_, ?_, ?_⟩
  · go_big_quiet_op
    apply Exists.intro
    refine ⟨fun m => ?_, ?_⟩
    · go_at_call 15
      exact kept_of (HLX.out _ _ _ _ _ (rx.keepN (keepN n.has m.keep)) (ry.keepN (keepN n.has m.keep)))
    · exact hK _ rfl
  · kernel_rfl
  refine shM_step rfl rfl rfl (by rfl) (by rfl) ?_
  apply Exists.intro
  refine ⟨fun n K hK => ?_, ?_, ?_⟩
  · go_big_quiet_op
    exact hK _ rfl
  · kernel_rfl
  refine shM_step rfl rfl rfl (by rfl) (by rfl) ?_
  apply Exists.intro
  refine ⟨fun n K hK => ?_, ?_, ?_⟩
  · go_big_quiet_op
    exact hK _ rfl
  · kernel_rfl
  refine shM_step rfl rfl rfl (by rfl) (by rfl) ?_
  apply Exists.intro
  refine ⟨fun n K hK => ?_, ?_, ?_⟩
  · go_big_quiet_op
    exact hK _ rfl
  · kernel_rfl
  refine shM_step rfl rfl rfl (by rfl) (by rfl) ?_
  apply Exists.intro
  refine ⟨fun n K hK => ?_, ?_, ?_⟩
  · go_big_quiet_op
    exact hK _ rfl
  · kernel_rfl
  refine shM_step rfl rfl rfl (by rfl) (by rfl) ?_
  apply Exists.intro
  refine ⟨fun n K hK => ?_, ?_, ?_⟩
  · go_big_quiet_op
    exact hK _ rfl
  · kernel_rfl
  refine shM_step rfl rfl rfl (by rfl) (by rfl) ?_
  apply Exists.intro
  refine ⟨fun n K hK => ?_, ?_, ?_⟩
  · go_big_quiet_op
    exact hK _ rfl
  · kernel_rfl
  refine shM_step rfl rfl rfl (by rfl) (by rfl) ?_
  apply Exists.intro
  refine ⟨fun n K hK => ?_, ?_, ?_⟩
  · go_big_quiet_op
    exact hK _ rfl
  · kernel_rfl
  refine shM_step rfl rfl rfl (by rfl) (by rfl) ?_
  apply Exists.intro
  refine ⟨fun n K hK => ?_, ?_, ?_⟩
  · go_big_quiet_op
    exact hK _ rfl
  · kernel_rfl
  refine shM_step rfl rfl rfl (by rfl) (by rfl) ?_
  apply Exists.intro
  refine ⟨fun n K hK => ?_, ?_, ?_⟩
  · go_big_quiet_op
    exact hK _ rfl
  · kernel_rfl
  refine shM_step rfl rfl rfl (by rfl) (by rfl) ?_
  apply Exists.intro
  refine ⟨fun n K hK => ?_, ?_, ?_⟩
  · go_big_quiet_op
    exact hK _ rfl
  · kernel_rfl
  refine shM_step rfl rfl rfl (by rfl) (by rfl) ?_
  apply Exists.intro
  refine ⟨fun n K hK => ?_, ?_, ?_⟩
  · go_big_quiet_op
    exact hK _ rfl
  · kernel_rfl
  refine shM_step rfl rfl rfl (by rfl) (by rfl) ?_
  apply Exists.intro
  refine ⟨fun n K hK => ?_, ?_, ?_⟩
  · go_big_quiet_op
    apply Exists.intro
    refine ⟨fun m => ?_, ?_⟩
    · go_at_call 16
      exact kept_of (at_gen hR (keepN n.has m.keep))
    · exact hK _ rfl
  · kernel_rfl
  refine shM_step rfl rfl rfl (by rfl) (by rfl) ?_
  apply Exists.intro
  refine ⟨fun n K hK => ?_, ?_, ?_⟩
  · go_big_quiet_op
    exact hK _ rfl
  · kernel_rfl
  refine shM_step rfl rfl rfl (by rfl) (by rfl) ?_
  apply Exists.intro
  refine ⟨fun n K hK => ?_, ?_, ?_⟩
  · go_big_quiet_op
    exact hK _ rfl
  · kernel_rfl
  refine shM_step rfl rfl rfl (by rfl) (by rfl) ?_
  apply Exists.intro
  refine ⟨fun n K hK => ?_, ?_, ?_⟩
  · go_big_quiet_op
    exact hK _ rfl
  · kernel_rfl
  refine shM_step rfl rfl rfl (by rfl) (by rfl) ?_
  apply Exists.intro
  refine ⟨fun n K hK => ?_, ?_, ?_⟩
  · have sp : ∀ m : KW n.w, m.w.cell? ⟨w6.heap.size, 1, none⟩ = some (.int .i64 (Q : Int)) := fun m => ref_place (hS.keep (keepN n.has m.keep) (fun _ _ => id))
    go_big_quiet_op
    exact hK _ rfl
  · kernel_rfl
  refine shM_step rfl rfl rfl (by rfl) (by rfl) ?_
  apply Exists.intro
  refine ⟨fun n K hK => ?_, ?_, ?_⟩
  · go_big_quiet_op
    exact hK _ rfl
  · kernel_rfl
  refine shM_step rfl rfl rfl (by rfl) (by rfl) ?_
  apply Exists.intro
  refine ⟨fun n K hK => ?_, ?_, ?_⟩
  · go_big_quiet_op
    exact hK _ rfl
  · kernel_rfl
  refine shM_step rfl rfl rfl (by rfl) (by rfl) ?_
  apply Exists.intro
  refine ⟨fun n K hK => ?_, ?_, ?_⟩
  · go_big_quiet_op
    exact hK _ rfl
  · kernel_rfl
  refine shM_step rfl rfl rfl (by rfl) (by rfl) ?_
  apply Exists.intro
  refine ⟨fun n K hK => ?_, ?_, ?_⟩
  · go_big_quiet_op
    exact hK _ rfl
  · kernel_rfl
  refine shM_step rfl rfl rfl (by rfl) (by rfl) ?_
  apply Exists.intro
  refine ⟨fun n K hK => ?_, ?_, ?_⟩
  · go_big_quiet_op
    exact hK _ rfl
  · kernel_rfl
  refine shM_step rfl rfl rfl (by rfl) (by rfl) ?_
  apply Exists.intro
  refine ⟨fun n K hK => ?_, ?_, ?_⟩
  · go_big_quiet_op
    apply Exists.intro
    refine ⟨fun m => ?_, ?_⟩
    · go_at_call 17
      exact kept_of (HC1.out _ _ _ (hro.keepN (keepN n.has m.keep)))
    · exact hK _ rfl
  · kernel_rfl
  refine shM_step rfl rfl rfl (by rfl) (by rfl) ?_
  apply Exists.intro
  refine ⟨fun n K hK => ?_, ?_, ?_⟩
  · go_big_quiet_op
    exact hK _ rfl
  · kernel_rfl
  refine shM_step rfl rfl rfl (by rfl) (by rfl) ?_
  apply Exists.intro
  refine ⟨fun n K hK => ?_, ?_, ?_⟩
  · go_big_quiet_op
    apply Exists.intro
    refine ⟨fun m => ?_, ?_⟩
    · go_at_call 18
      exact kept_of (HC2.out _ (hrl.keepN (keepN n.has m.keep)))
    · exact hK _ rfl
  · kernel_rfl
  refine shM_step rfl rfl rfl (by rfl) (by rfl) ?_
  apply Exists.intro
  refine ⟨fun n K hK => ?_, ?_, ?_⟩
  · go_big_quiet_op
    exact hK _ rfl
  · kernel_rfl
  refine shM_step rfl rfl rfl (by rfl) (by rfl) ?_
  apply Exists.intro
  refine ⟨fun n K hK => ?_, ?_, ?_⟩
  · go_big_quiet_op
    exact hK _ rfl
  · kernel_rfl
  refine shM_step rfl rfl rfl (by rfl) (by rfl) ?_
  apply Exists.intro
  refine ⟨fun n K hK => ?_, ?_, ?_⟩
  · go_big_quiet_op
    exact hK _ rfl
  · kernel_rfl
  refine shM_step rfl rfl rfl (by rfl) (by rfl) ?_
  apply Exists.intro
  refine ⟨fun n K hK => ?_, ?_, ?_⟩
  · go_big_quiet_op
    exact hK _ rfl
  · kernel_rfl
  refine shM_step rfl rfl rfl (by rfl) (by rfl) ?_
  apply Exists.intro
  refine ⟨fun n K hK => ?_, ?_, ?_⟩
  · go_big_quiet_op
    exact hK _ rfl
  · kernel_rfl
  refine shM_step rfl rfl rfl (by rfl) (by rfl) ?_
  apply Exists.intro
  refine ⟨fun n K hK => ?_, ?_, ?_⟩
  · go_big_quiet_op
    apply Exists.intro
    refine ⟨fun m => ?_, ?_⟩
    · go_at_call 15
      exact kept_of (HLL.out _ _ _ (hro.keepN (keepN n.has m.keep)) (hrl.keepN (keepN n.has m.keep)))
    · exact hK _ rfl
  · kernel_rfl
  refine shM_step rfl rfl rfl (by rfl) (by rfl) ?_
  apply Exists.intro
  refine ⟨fun n K hK => ?_, ?_, ?_⟩
  · go_big_quiet_op
    exact hK _ rfl
  · kernel_rfl
  refine shM_step rfl rfl rfl (by rfl) (by rfl) ?_
  apply Exists.intro
  refine ⟨fun n K hK => ?_, ?_, ?_⟩
  · go_big_quiet_op
    exact hK _ rfl
  · kernel_rfl
  refine shM_step rfl rfl rfl (by rfl) (by rfl) ?_
  apply Exists.intro
  refine ⟨fun n K hK => ?_, ?_, ?_⟩
  · go_big_quiet_op
    exact hK _ rfl
  · kernel_rfl
  refine shM_step rfl rfl rfl (by rfl) (by rfl) ?_
  apply Exists.intro
  refine ⟨fun n K hK => ?_, ?_, ?_⟩
  · have co_ : ∀ m : KW n.w, (convert 23 9 (.slice Ao b.length co)).run Tryz.prog m.w = .ok (.string D) m.w := fun m => by have := V.conv_rd (c := co) (rd_n ro (keepN n.has m.keep)); rw [show V.str b = D from hD.out] at this; exact this
    go_big_quiet_op
    exact hK _ rfl
  · kernel_rfl
  refine shM_step rfl rfl rfl (by rfl) (by rfl) ?_
  apply Exists.intro
  refine ⟨fun n K hK => ?_, ?_, ?_⟩
  · go_big_quiet_op
    exact hK _ rfl
  · kernel_rfl
  refine shM_step rfl rfl rfl (by rfl) (by rfl) ?_
  apply Exists.intro
  refine ⟨fun n K hK => ?_, ?_, ?_⟩
  · have cb_ : ∀ m : KW n.w, (convert 23 9 (.slice B b.length d)).run Tryz.prog m.w = .ok (.string D) m.w := fun m => by have := V.conv_rd (c := d) (rd_n hrb (keepN n.has m.keep)); rw [show V.str b = D from hD.out] at this; exact this
    go_big_quiet_op
    exact hK _ rfl
  · kernel_rfl
  refine shM_step rfl rfl rfl (by rfl) (by rfl) ?_
  apply Exists.intro
  refine ⟨fun n K hK => ?_, ?_, ?_⟩
  · go_big_quiet_op
    exact hK _ rfl
  · kernel_rfl
  refine shM_step rfl rfl rfl (by rfl) (by rfl) ?_
  apply Exists.intro
  refine ⟨fun n K hK => ?_, ?_, ?_⟩
  · go_big_quiet_op
    exact hK _ rfl
  · kernel_rfl
  refine shM_step rfl rfl rfl (by rfl) (by rfl) ?_
  apply Exists.intro
  refine ⟨fun n K hK => ?_, ?_, ?_⟩
  · go_big_quiet_op
    exact hK _ rfl
  · kernel_rfl
  refine shM_nil (fun n => ?_)
  have k5 := n.has
  generalize n.w = w10 at k5 ⊢
  go_wp2
  go_ret
  exact ⟨rfl, keepN gK k5⟩

set_option maxRecDepth 100000 in
set_option maxHeartbeats 8000000 in
theorem cforms_no (A : Option Addr) (l : List I3) (n c : Nat) (B : Option Addr) (b : List UInt8) (d : Nat) (w : World) (hr : Hid (Rd w A (iis l))) (hn : Hid (l.length = n)) (hI : Hid (AllI l)) (hb : Hid (V.Rd w B b)) (h1 : n ≤ 600) (h2 : b.length ≤ 3000)
    (xs : List I3) (E : Int) (Q : Nat) (hx : decL b 0 = xs) (he : decE b 0 = E) (hq : decQ b 0 = Q) (her : E ≠ 0) (k : Int) (hk : Hid (chkB l = k)) (S : ByteArray) (hS0 : Hid (V.str (encB l) = S)) (D : ByteArray) (hD : Hid (V.str b = D)) :
    Calls Tryz.prog 3 #[.slice A n c, .slice B b.length d] w fun e w' => e = .returned (.bool true) ∧ Keep NoB w w' := by
  have HL : Hid (b.length ≤ 140737488355328) := by show _ ≤ _; omega
  have hq1 : decide ((600 : Int) < (n : Int)) = false := by rw [decide_eq_false_iff_not]; omega
  have hq2 : decide ((3000 : Int) < (b.length : Int)) = false := by rw [decide_eq_false_iff_not]; omega
  have hm : n ≤ 9223372036854775807 := by omega
  have qS := list_self S
  have qD := list_self D
  obtain ⟨i0, hi, hz0, hz1, hz2⟩ := info_parts instr_info
  have HX := Lib.hid (fun A c w hr => cencode_any A l n c w hr hn hI hm)
  have HY := Lib.hid (fun w hr => rcencode_any A l n c w hr hn hI hm)
  have HC1 := Lib.hid (fun A c w hr => cchk_any A l n c w hr hn hm k hk.out)
  have HC2 := Lib.hid (fun w hr => rcchk_any A l n c w hr hn hI hm k hk)
  rw [hk.out] at HX HY
  have HD1 := Lib.hid (fun w br O hO h => cdecode_any w br O b 0 hO h HL.out)
  have HD2 := Lib.hid (fun w br O hO h => rcdecode_any w br O b 0 hO h HL.out)
  have HLL := Lib.hid (fun A1 c1 w h1 h2 => lists_any A1 A l l n n c1 c w h1 h2 hn hn hm hm true (by show _ = _; simp))
  have hxl := decL_len b 0
  rw [hx] at hxl
  rw [hx, he, hq] at HD1 HD2
  obtain ⟨mx, hmx⟩ : ∃ mx, xs.length = mx := ⟨_, rfl⟩
  rw [hmx] at hxl
  have HM := Lib.hid hmx
  have HLX := Lib.hid (fun A1 A2 c1 c2 w h1 h2 => lists_any A1 A2 xs xs mx mx c1 c2 w h1 h2 hmx hmx (by omega) (by omega) true (by show _ = _; simp))
  have qe : (E != 0) = true := by rw [bne_iff_ne]; exact her
  clear her
  clear hx he hq hmx hxl
  go_enter Tryz.func3, Tryz.ntmps3
  go_wp2_with (at_builtin; refine wpList_append_rd _ rfl (.tmp 25) (.tmp 26) _ rfl 46 3 24 i0 _ Tryz.underlying22 hi hz0 hz1 hz2 rfl (by decide) _ 0 [] A n c (iis l) rfl (own_none (by simp)) rfl (hr.out.keepN ((Keep.refl NoB _).alloc _)) (by rw [iis_length, hn.out]) (iis_cells l) (by unfold maxLen; omega) (by omega) ?_; intro A1 c1 w1 hrow hg1 hv1; obtain ⟨hO1, hK1⟩ := W.own_after (w := w) (fun g e => by cases e; unfold Fresh; simp) ((Keep.refl NoB _).alloc _) hg1 hv1 hrow; clear hrow hg1 hv1)
  simp only [Nat.zero_add, List.nil_append] at hO1 ⊢
  obtain ⟨A1', c1', e1, hro⟩ := own_rdI hO1
  cases e1
  clear hO1
  refine (V.twin_any _ B b d (rd_n hb.out hK1) HL.out).mono ?_
  rintro e w2 ⟨vo, rfl, ho, k1⟩
  obtain ⟨Ao, co, rfl, ro, _⟩ := own_rd ho
  have gK := keepN hK1 k1
  replace hro := hro.keepN k1
  clear ho k1 hK1
  go_wp2_with fail
  refine (HX.out _ _ _ hro).mono ?_
  rintro e w3 ⟨vu, rfl, hu, k1⟩
  obtain ⟨Au, cu, rfl, ru, _⟩ := own_rd hu
  replace gK := keepN gK k1
  replace hro := hro.keepN k1
  replace ro := rd_n ro k1
  clear hu k1
  go_wp2_with fail
  refine (HY.out _ (hr.out.keepN gK)).mono ?_
  rintro e w4 ⟨vv, rfl, hv, k1⟩
  obtain ⟨Av, cv, rfl, rv, _⟩ := own_rd hv
  replace gK := keepN gK k1
  replace hro := hro.keepN k1
  replace ro := rd_n ro k1
  replace ru := rd_n ru k1
  have hrl := hr.out.keepN gK
  have hrb := rd_n hb.out gK
  clear hv k1
  go_wp2_with fail
  refine (V.on_any _ Ao b co ro HL.out).mono ?_
  rintro e w5 ⟨br, rfl, hR, g4⟩
  have s4 := g4.size
  have hbr : w4.heap.size ≤ br := hR.1
  have hR := O.reel_new hR
  have hbr2 : br < w5.heap.size := O.reel_lt hR
  go_wp2_with fail
  refine (V.twin_any _ B b d (rd_n hrb g4) HL.out).mono ?_
  rintro e w6 ⟨vb, rfl, hbb, k1⟩
  obtain ⟨Ab, cb, rfl, hcb, rb, hAb, hmb⟩ := hbb.form
  have bb : ∀ ad, Ab = some ad → ad.block < w6.heap.size := fun ad e => (hbb.1.lt ad.block (by rw [e]; rfl)).2
  have s5 := k1.size
  replace k1 := k1.alloc (.cells #[.slice Ab b.length cb, .int .i64 0] 34)
  replace g4 := keepN g4 k1
  replace hR := hR.keep k1 (fun _ _ => id)
  have hS : V.RefAt (w6.alloc (.cells #[.slice Ab b.length cb, .int .i64 0] 34)) w6.heap.size (fun k => w5.heap.size ≤ k ∧ k < (w6.alloc (.cells #[.slice Ab b.length cb, .int .i64 0] 34)).heap.size) b 0 :=
    ⟨⟨s5, by simp⟩, Nat.zero_le _, Ab, cb, Blk.new _ _ _, rd_n rb ((Keep.refl NoB w6).alloc _), hcb, hmb, fun ad e => ⟨⟨(hAb ad e).1, by have := bb ad e; simp; omega⟩, by have := bb ad e; simp; omega⟩⟩
  clear k1 hbb rb hAb hcb hmb bb
  have s6 : (w6.alloc (.cells #[.slice Ab b.length cb, .int .i64 0] 34)).heap.size = w6.heap.size + 1 := by simp
  go_wp2_with fail
  refine (HD1.out _ br _ (fun k hk => by omega) hR).mono ?_
  rintro e w7 ⟨vx, qx, rfl, hOx, hR, hQx, k1⟩
  rw [HM.out] at hOx
  have s7 := k1.size
  replace hS := hS.keep k1 (fun k ho e => by omega)
  replace g4 := keep_br g4 k1 hbr
  clear k1
  go_wp2_with fail
  refine (HD2.out _ w6.heap.size _ (fun k hk => by omega) hS).mono ?_
  rintro e w8 ⟨vy, qy, rfl, hOy, hS, hQy, k1⟩
  rw [HM.out] at hOy
  replace hOx := hOx.keep k1 (fun k ho e => by unfold Fresh at ho; omega)
  obtain ⟨Ax, cx, rfl, rx⟩ := own_rdI hOx
  obtain ⟨Ay, cy, rfl, ry⟩ := own_rdI hOy
  replace hR := hR.keep k1 (fun k ho e => by omega)
  replace g4 := keep_br g4 k1 (by omega)
  clear k1 hOx hOy
  clear hQx hQy
  replace hro := hro.keepN g4
  replace hrl := hrl.keepN g4
  replace hrb := rd_n hrb g4
  replace ro := rd_n ro g4
  replace ru := rd_n ru g4
  replace rv := rd_n rv g4
  replace gK := keepN gK g4
  clear g4
  go_wp2_with fail
  refine wp_region_sh ((0, false) :: (1, false) :: (2, false) :: (3, false) :: (4, false) :: (5, false) :: (6, false) :: (7, false) :: (8, false) :: (9, false) :: (10, false) :: (11, false) :: (12, false) :: (13, false) :: (14, false) :: (15, false) :: (16, false) :: (17, false) :: (18, false) :: (19, false) :: (20, false) :: (21, false) :: (22, false) :: (23, false) :: (24, false) :: (25, false) :: (26, false) :: (27, false) :: (28, false) :: (29, false) :: (30, false) :: (31, false) :: (32, false) :: (33, false) :: (34, false) :: (35, false) :: (36, false) :: (37, false) :: (38, false) :: (39, false) :: (40, false) :: (41, false) :: (42, false) :: (43, false) :: (44, false) :: (45, false) :: (46, false) :: (47, false) :: (48, false) :: (49, false) :: (50, false) :: (51, false) :: (52, false) :: []) (fun w' => Keep NoB w8 w') (by kernel_rfl) (by kernel_rfl) (by rfl) (by kernel_rfl) (stable_keep w8) (Keep.refl NoB w8).drew ?_
  refine shM_step rfl rfl rfl (by rfl) (by rfl) ?_
  apply Exists.intro
  refine ⟨fun n K hK => ?_, ?_, ?_⟩
  · go_big_quiet_op
    exact hK _ rfl
  · kernel_rfl
  refine shM_step rfl rfl rfl (by rfl) (by rfl) ?_
  apply Exists.intro
  refine ⟨fun n K hK => ?_, ?_, ?_⟩
  · have cu_ : ∀ m : KW n.w, (convert 23 9 (.slice Au (encB l).length cu)).run Tryz.prog m.w = .ok (.string S) m.w := fun m => by have := V.conv_rd (c := cu) (rd_n ru (keepN n.has m.keep)); rw [show V.str (encB l) = S from hS0.out] at this; exact this
    go_big_quiet_op
    exact hK _ rfl
  · kernel_rfl
  refine shM_step rfl rfl rfl (by rfl) (by rfl) ?_
  apply Exists.intro
  refine ⟨fun n K hK => ?_, ?_, ?_⟩
  · go_big_quiet_op
    exact hK _ rfl
  · kernel_rfl
  refine shM_step rfl rfl rfl (by rfl) (by rfl) ?_
  apply Exists.intro
  refine ⟨fun n K hK => ?_, ?_, ?_⟩
  · have cv_ : ∀ m : KW n.w, (convert 23 9 (.slice Av (encB l).length cv)).run Tryz.prog m.w = .ok (.string S) m.w := fun m => by have := V.conv_rd (c := cv) (rd_n rv (keepN n.has m.keep)); rw [show V.str (encB l) = S from hS0.out] at this; exact this
    go_big_quiet_op
    exact hK _ rfl
  · kernel_rfl
  refine shM_step rfl rfl rfl (by rfl) (by rfl) ?_
  apply Exists.intro
  refine ⟨fun n K hK => ?_, ?_, ?_⟩
  · go_big_quiet_op
    exact hK _ rfl
  · kernel_rfl
  refine shM_step rfl rfl rfl (by rfl) (by rfl) ?_
  apply Exists.intro
  refine ⟨fun n K hK => ?_, ?_, ?_⟩
  · go_big_quiet_op
    exact hK _ rfl
  · kernel_rfl
  refine shM_step rfl rfl rfl (by rfl) (by rfl) ?_
  apply Exists.intro
  refine ⟨fun n K hK => ?_, ?_, ?_⟩
  · go_big_quiet_op
    exact hK _ rfl
  · kernel_rfl
  refine shM_step rfl rfl rfl (by rfl) (by rfl) ?_
  apply Exists.intro
  refine ⟨fun n K hK => ?_, ?_, ?_⟩
  · go_big_quiet_op
    exact hK _ rfl
  · kernel_rfl
  refine shM_step rfl rfl rfl (by rfl) (by rfl) ?_
  apply Exists.intro
  refine ⟨fun n K hK => ?_, ?_, ?_⟩
  · go_big_quiet_op
    exact hK _ rfl
  · kernel_rfl
  refine shM_step rfl rfl rfl (by rfl) (by rfl) ?_
  apply Exists.intro
  refine ⟨fun n K hK => ?_, ?_, ?_⟩
  · go_big_quiet_op
    exact hK _ rfl
  · kernel_rfl
  refine shM_step rfl rfl rfl (by rfl) (by rfl) ?_
  apply Exists.intro
  refine ⟨fun n K hK => ?_, ?_, ?_⟩
  · go_big_quiet_op
    exact hK _ rfl
  · kernel_rfl
  refine shM_step rfl rfl rfl (by rfl) (by rfl) ?_
  apply Exists.intro
  refine ⟨fun n K hK => ?_, ?_, ?_⟩
  · go_big_quiet_op
    exact hK _ rfl
  · kernel_rfl
  refine shM_step rfl rfl rfl (by rfl) (by rfl) ?_
  apply Exists.intro
  refine ⟨fun n K hK => ?_, ?_, ?_⟩
  · go_big_quiet_op
    exact hK _ rfl
  · kernel_rfl
  refine shM_step rfl rfl rfl (by rfl) (by rfl) ?_
  apply Exists.intro
  refine ⟨fun n K hK => ?_, ?_, ?_⟩
  · go_big_quiet_op
    apply Exists.intro
    refine ⟨fun m => ?_, ?_⟩
    · go_at_call 15
      exact kept_of (HLX.out _ _ _ _ _ (rx.keepN (keepN n.has m.keep)) (ry.keepN (keepN n.has m.keep)))
    · exact hK _ rfl
  · kernel_rfl
  refine shM_step rfl rfl rfl (by rfl) (by rfl) ?_
  apply Exists.intro
  refine ⟨fun n K hK => ?_, ?_, ?_⟩
  · go_big_quiet_op
    exact hK _ rfl
  · kernel_rfl
  refine shM_step rfl rfl rfl (by rfl) (by rfl) ?_
  apply Exists.intro
  refine ⟨fun n K hK => ?_, ?_, ?_⟩
  · go_big_quiet_op
    exact hK _ rfl
  · kernel_rfl
  refine shM_step rfl rfl rfl (by rfl) (by rfl) ?_
  apply Exists.intro
  refine ⟨fun n K hK => ?_, ?_, ?_⟩
  · go_big_quiet_op
    exact hK _ rfl
  · kernel_rfl
  refine shM_step rfl rfl rfl (by rfl) (by rfl) ?_
  apply Exists.intro
  refine ⟨fun n K hK => ?_, ?_, ?_⟩
  · go_big_quiet_op
    exact hK _ rfl
  · kernel_rfl
  refine shM_step rfl rfl rfl (by rfl) (by rfl) ?_
  apply Exists.intro
  refine ⟨fun n K hK => ?_, ?_, ?_⟩
  · go_big_quiet_op
    exact hK _ rfl
  · kernel_rfl
  refine shM_step rfl rfl rfl (by rfl) (by rfl) ?_
  apply Exists.intro
  refine ⟨fun n K hK => ?_, ?_, ?_⟩
  · go_big_quiet_op
    exact hK _ rfl
  · kernel_rfl
  refine shM_step rfl rfl rfl (by rfl) (by rfl) ?_
  apply Exists.intro
  refine ⟨fun n K hK => ?_, ?_, ?_⟩
  · go_big_quiet_op
    exact hK _ rfl
  · kernel_rfl
  refine shM_step rfl rfl rfl (by rfl) (by rfl) ?_
  apply Exists.intro
  refine ⟨fun n K hK => ?_, ?_, ?_⟩
  · go_big_quiet_op
    exact hK _ rfl
  · kernel_rfl
  refine shM_step rfl rfl rfl (by rfl) (by rfl) ?_
  apply Exists.intro
  refine ⟨fun n K hK => ?_, ?_, ?_⟩
  · go_big_quiet_op
    exact hK _ rfl
  · kernel_rfl
  refine shM_step rfl rfl rfl (by rfl) (by rfl) ?_
  apply Exists.intro
  refine ⟨fun n K hK => ?_, ?_, ?_⟩
  · go_big_quiet_op
    exact hK _ rfl
  · kernel_rfl
  refine shM_skip rfl (by kernel_rfl) (by kernel_rfl) ?_
  refine shM_skip rfl (by kernel_rfl) (by kernel_rfl) ?_
  refine shM_skip rfl (by kernel_rfl) (by kernel_rfl) ?_
  refine shM_skip rfl (by kernel_rfl) (by kernel_rfl) ?_
  refine shM_skip rfl (by kernel_rfl) (by kernel_rfl) ?_
  refine shM_skip rfl (by kernel_rfl) (by kernel_rfl) ?_
  refine shM_skip rfl (by kernel_rfl) (by kernel_rfl) ?_
  refine shM_step rfl rfl rfl (by rfl) (by rfl) ?_
  apply Exists.intro
  refine ⟨fun n K hK => ?_, ?_, ?_⟩
  · go_big_quiet_op
    exact hK _ rfl
  · kernel_rfl
  refine shM_step rfl rfl rfl (by rfl) (by rfl) ?_
  apply Exists.intro
  refine ⟨fun n K hK => ?_, ?_, ?_⟩
  · go_big_quiet_op
    exact hK _ rfl
  · kernel_rfl
  refine shM_step rfl rfl rfl (by rfl) (by rfl) ?_
  apply Exists.intro
  refine ⟨fun n K hK => ?_, ?_, ?_⟩
  · go_big_quiet_op
    exact hK _ rfl
  · kernel_rfl
  refine shM_step rfl rfl rfl (by rfl) (by rfl) ?_
  apply Exists.intro
  refine ⟨fun n K hK => ?_, ?_, ?_⟩
  · go_big_quiet_op
    exact hK _ rfl
  · kernel_rfl
  refine shM_step rfl rfl rfl (by rfl) (by rfl) ?_
  apply Exists.intro
  refine ⟨fun n K hK => ?_, ?_, ?_⟩
  · go_big_quiet_op
    apply Exists.intro
    refine ⟨fun m => ?_, ?_⟩
    · go_at_call 17
      exact kept_of (HC1.out _ _ _ (hro.keepN (keepN n.has m.keep)))
    · exact hK _ rfl
  · kernel_rfl
  refine shM_step rfl rfl rfl (by rfl) (by rfl) ?_
  apply Exists.intro
  refine ⟨fun n K hK => ?_, ?_, ?_⟩
  · go_big_quiet_op
    exact hK _ rfl
  · kernel_rfl
  refine shM_step rfl rfl rfl (by rfl) (by rfl) ?_
  apply Exists.intro
  refine ⟨fun n K hK => ?_, ?_, ?_⟩
  · go_big_quiet_op
    apply Exists.intro
    refine ⟨fun m => ?_, ?_⟩
    · go_at_call 18
      exact kept_of (HC2.out _ (hrl.keepN (keepN n.has m.keep)))
    · exact hK _ rfl
  · kernel_rfl
  refine shM_step rfl rfl rfl (by rfl) (by rfl) ?_
  apply Exists.intro
  refine ⟨fun n K hK => ?_, ?_, ?_⟩
  · go_big_quiet_op
    exact hK _ rfl
  · kernel_rfl
  refine shM_step rfl rfl rfl (by rfl) (by rfl) ?_
  apply Exists.intro
  refine ⟨fun n K hK => ?_, ?_, ?_⟩
  · go_big_quiet_op
    exact hK _ rfl
  · kernel_rfl
  refine shM_step rfl rfl rfl (by rfl) (by rfl) ?_
  apply Exists.intro
  refine ⟨fun n K hK => ?_, ?_, ?_⟩
  · go_big_quiet_op
    exact hK _ rfl
  · kernel_rfl
  refine shM_step rfl rfl rfl (by rfl) (by rfl) ?_
  apply Exists.intro
  refine ⟨fun n K hK => ?_, ?_, ?_⟩
  · go_big_quiet_op
    exact hK _ rfl
  · kernel_rfl
  refine shM_step rfl rfl rfl (by rfl) (by rfl) ?_
  apply Exists.intro
  refine ⟨fun n K hK => ?_, ?_, ?_⟩
  · go_big_quiet_op
    exact hK _ rfl
  · kernel_rfl
  refine shM_step rfl rfl rfl (by rfl) (by rfl) ?_
  apply Exists.intro
  refine ⟨fun n K hK => ?_, ?_, ?_⟩
  · go_big_quiet_op
    apply Exists.intro
    refine ⟨fun m => ?_, ?_⟩
    · go_at_call 15
      exact kept_of (HLL.out _ _ _ (hro.keepN (keepN n.has m.keep)) (hrl.keepN (keepN n.has m.keep)))
    · exact hK _ rfl
  · kernel_rfl
  refine shM_step rfl rfl rfl (by rfl) (by rfl) ?_
  apply Exists.intro
  refine ⟨fun n K hK => ?_, ?_, ?_⟩
  · go_big_quiet_op
    exact hK _ rfl
  · kernel_rfl
  refine shM_step rfl rfl rfl (by rfl) (by rfl) ?_
  apply Exists.intro
  refine ⟨fun n K hK => ?_, ?_, ?_⟩
  · go_big_quiet_op
    exact hK _ rfl
  · kernel_rfl
  refine shM_step rfl rfl rfl (by rfl) (by rfl) ?_
  apply Exists.intro
  refine ⟨fun n K hK => ?_, ?_, ?_⟩
  · go_big_quiet_op
    exact hK _ rfl
  · kernel_rfl
  refine shM_step rfl rfl rfl (by rfl) (by rfl) ?_
  apply Exists.intro
  refine ⟨fun n K hK => ?_, ?_, ?_⟩
  · have co_ : ∀ m : KW n.w, (convert 23 9 (.slice Ao b.length co)).run Tryz.prog m.w = .ok (.string D) m.w := fun m => by have := V.conv_rd (c := co) (rd_n ro (keepN n.has m.keep)); rw [show V.str b = D from hD.out] at this; exact this
    go_big_quiet_op
    exact hK _ rfl
  · kernel_rfl
  refine shM_step rfl rfl rfl (by rfl) (by rfl) ?_
  apply Exists.intro
  refine ⟨fun n K hK => ?_, ?_, ?_⟩
  · go_big_quiet_op
    exact hK _ rfl
  · kernel_rfl
  refine shM_step rfl rfl rfl (by rfl) (by rfl) ?_
  apply Exists.intro
  refine ⟨fun n K hK => ?_, ?_, ?_⟩
  · have cb_ : ∀ m : KW n.w, (convert 23 9 (.slice B b.length d)).run Tryz.prog m.w = .ok (.string D) m.w := fun m => by have := V.conv_rd (c := d) (rd_n hrb (keepN n.has m.keep)); rw [show V.str b = D from hD.out] at this; exact this
    go_big_quiet_op
    exact hK _ rfl
  · kernel_rfl
  refine shM_step rfl rfl rfl (by rfl) (by rfl) ?_
  apply Exists.intro
  refine ⟨fun n K hK => ?_, ?_, ?_⟩
  · go_big_quiet_op
    exact hK _ rfl
  · kernel_rfl
  refine shM_step rfl rfl rfl (by rfl) (by rfl) ?_
  apply Exists.intro
  refine ⟨fun n K hK => ?_, ?_, ?_⟩
  · go_big_quiet_op
    exact hK _ rfl
  · kernel_rfl
  refine shM_step rfl rfl rfl (by rfl) (by rfl) ?_
  apply Exists.intro
  refine ⟨fun n K hK => ?_, ?_, ?_⟩
  · go_big_quiet_op
    exact hK _ rfl
  · kernel_rfl
  refine shM_nil (fun n => ?_)
  have k5 := n.has
  generalize n.w = w10 at k5 ⊢
  go_wp2
  go_ret
  exact ⟨rfl, keepN gK k5⟩

theorem cforms_all (A : Option Addr) (l : List I3) (c : Nat) (B : Option Addr) (b : List UInt8) (d : Nat) (w : World) (hr : Rd w A (iis l)) (hI : AllI l) (hb : V.Rd w B b) :
    Calls Tryz.prog 3 #[.slice A l.length c, .slice B b.length d] w fun e w' => e = .returned (.bool true) ∧ Keep NoB w w' := by
  by_cases h : 600 < l.length ∨ 3000 < b.length
  · exact cforms_big A l.length c B b.length d w h
  · by_cases he : decE b 0 = 0
    · exact cforms_ok A l l.length c B b d w hr rfl hI hb (by omega) (by omega) _ _ _ rfl rfl rfl he _ rfl _ rfl _ rfl
    · exact cforms_no A l l.length c B b d w hr rfl hI hb (by omega) (by omega) _ _ _ rfl rfl rfl he _ rfl _ rfl _ rfl

end Go.Proofs.YtonpplpfipfnfaaGreatDoor.C

namespace Go.Proofs.YtonpplpfipfnfaaGreatDoor.O
open Go.ChangeShapes Go.WideShapes Go.ChangeAt Go.RowKit

theorem seatOwn : ownKnob Tryz.prog.godebug = none := by kernel_rfl
theorem seatLaidOut : laidOutB Tryz.prog = true := by kernel_rfl
theorem i64_of_wf {n : Int} (h : (Lit.int .i64 n).wf = true) : I64 n := by
  have hmin : IntKind.i64.min = -9223372036854775808 := rfl
  have hmax : IntKind.i64.max = 9223372036854775807 := rfl
  simp only [Lit.wf, Bool.and_eq_true, decide_eq_true_eq] at h
  unfold I64; omega
theorem tLet : (Tryz.prog.globals[0]?).map (·.type) = some 170 := by kernel_rfl
theorem tPow : (Tryz.prog.globals[4]?).map (·.type) = some 199 := by kernel_rfl
theorem tSyn : (Tryz.prog.globals[5]?).map (·.type) = some 167 := by kernel_rfl
theorem tRng : (Tryz.prog.globals[6]?).map (·.type) = some 167 := by kernel_rfl
theorem tBin : (Tryz.prog.globals[1]?).map (·.type) = some 173 := by kernel_rfl
theorem tUn : (Tryz.prog.globals[2]?).map (·.type) = some 175 := by kernel_rfl
theorem errStar : "*" ++ "errors.errorString" = "*errors.errorString" := by decide
theorem errRow (u : TypeId) (h : Tryz.prog.typeName? 3 u = some "*errors.errorString") : u = 210 :=
  typeName_ptr_named (nm := "errors.errorString") (by rw [errStar]; kernel_rfl) (by kernel_rfl) (by decide) u (by rw [errStar]; exact h)

set_option maxRecDepth 100000 in
theorem laidO_of {W0 : World} {x y : String × DataW Unit}
    (h : laidMet Tryz.prog [("backstay/alu.binNames", Rows.laid_backstay_alu_binNames), ("backstay/alu.unNames", Rows.laid_backstay_alu_unNames), x, y, ("internal/strconv.uint64pow10", Rows.laid_internal_strconv_uint64pow10), ("strconv.ErrRange", Rows.laid_strconv_ErrRange), ("strconv.ErrSyntax", Rows.laid_strconv_ErrSyntax), ("backstay/value.letters", Rows.laid_backstay_value_letters)] W0) : LaidO W0 := by
  have h4 := h.tail.tail.tail.tail
  have h5 := h4.tail
  have h6 := h5.tail
  refine ⟨Lib.tabIs_of_head (zs := [0, 73, 82, 70, 80]) (k := .i32) _root_.Go.Proofs.YtonpplpfipfnfaaGreatDoor.W.gLet tLet Tryz.underlying170 Tryz.underlying21 (by kernel_rfl) (by kernel_rfl) h6.tail,
    ⟨A.strs_of_head (l := A.binNs) A.gBin tBin Tryz.underlying173 Tryz.underlying9 (by kernel_rfl) (by kernel_rfl) h,
     A.strs_of_head (l := A.unNs) A.gUn tUn Tryz.underlying175 Tryz.underlying9 (by kernel_rfl) (by kernel_rfl) h.tail⟩,
    Lib.tabIs_of_head (zs := Lib.pow10Tab) (k := .u64) _root_.Go.Proofs.YtonpplpfipfnfaaGreatDoor.W.gPow tPow Tryz.underlying199 Tryz.underlying70 (by kernel_rfl) (by kernel_rfl) h4, ?_, ?_⟩
  · obtain ⟨a, s, hv, _⟩ := laid_sentinel h6 _root_.Go.Proofs.YtonpplpfipfnfaaGreatDoor.W.gSyn tSyn Tryz.underlying167 errRow Tryz.underlying210 Tryz.underlying212 rfl rfl Tryz.underlying9 (by kernel_rfl) (by kernel_rfl)
    exact ⟨_, _, hv⟩
  · obtain ⟨a, s, hv, _⟩ := laid_sentinel h5 _root_.Go.Proofs.YtonpplpfipfnfaaGreatDoor.W.gRng tRng Tryz.underlying167 errRow Tryz.underlying210 Tryz.underlying212 rfl rfl Tryz.underlying9 (by kernel_rfl) (by kernel_rfl)
    exact ⟨_, _, hv⟩

section
variable {H : Type} {enc : TypeId × Value → H} {w : World} {base b0 : Nat} {spare : Nat → Bool} {held : Bool} {r : Reach} {v : Value} {d : DataW H} {p : List MemPlace}
set_option maxRecDepth 100000 in
theorem open_inst (hv : Value.okWide Tryz.prog w r b0 46 v) (h : DataW.Trod enc Tryz.prog w base spare held 46 v d p) :
    ∃ op a b, v = .agg #[.int .i64 op, .int .i64 a, .int .i64 b] ∧ d = .agg [.lit (.int .i64 op), .lit (.int .i64 a), .lit (.int .i64 b)] ∧ p = [] ∧ I64 op ∧ I64 a ∧ I64 b := by
  obtain ⟨v0, v1, v2, y0, y1, y2, n, rfl, rfl, rfl, h0, h1, h2⟩ := Joins.open_agg3 Tryz.underlying46 (by kernel_rfl) (by kernel_rfl) hv h
  obtain ⟨a, e0, rfl, w0⟩ := DataW.trod_int Tryz.underlying3 h0
  obtain ⟨b, e1, rfl, w1⟩ := DataW.trod_int Tryz.underlying2 h1
  obtain ⟨c, e2, rfl, w2⟩ := DataW.trod_int Tryz.underlying2 h2
  injection e0 with e0 _
  injection e1 with e1 _
  injection e2 with e2 _
  subst e0 e1 e2
  exact ⟨a, b, c, rfl, rfl, rfl, i64_of_wf w0, i64_of_wf w1, i64_of_wf w2⟩
end

end Go.Proofs.YtonpplpfipfnfaaGreatDoor.O

namespace Go.Proofs.YtonpplpfipfnfaaGreatDoor.C
open Go.ChangeShapes Go.WideShapes Go.ChangeAt Go.RowKit Go.Deep O

theorem addr_of_cell {w : World} {a : Addr} {v : Value} (h : w.cell? a = some v) : a = ⟨a.block, a.off, none⟩ := by
  obtain ⟨b, o, s⟩ := a
  cases s with
  | none => rfl
  | some s => unfold World.cell? at h; split at h <;> simp at h
theorem add_of (b o k : Nat) : (⟨b, o, none⟩ : Addr).add k = ⟨b, o + k, none⟩ := by unfold Addr.add; by_cases hk : k = 0 <;> simp [hk]

section
variable {H : Type} {enc : TypeId × Value → H} {W : World} {base : Nat} {spare : Nat → Bool} {held : Bool} {fuel : Nat} {cs : List Value} {x : DataW H × List MemPlace}
set_option maxRecDepth 100000 in
theorem read_insts (h : DataW.trod enc Tryz.prog W base spare held fuel 22 cs = some x) : ∃ A l c, cs = [.slice A l.length c] ∧ Rd W A (iis l) ∧ l.length ≤ c ∧ c ≤ maxLen ∧ AllI l := by
  rcases open_slice Tryz.underlying22 h with ⟨hcs, _⟩ | ⟨a, len, cap, m, n, D, Pl, hcs, _, hl, hm, hmm, _, hi⟩
  · exact ⟨none, [], 0, hcs, Rd.none_ _ _, Nat.le_refl _, Nat.zero_le _, fun _ h => by simp at h⟩
  · have hlm : len ≤ m := by rw [hmm]; split <;> omega
    have cI : Tryz.prog.cellsOf 46 = 3 := by kernel_rfl
    have c3 : Tryz.prog.cellsOf 3 = 1 := by kernel_rfl
    have c2 : Tryz.prog.cellsOf 2 = 1 := by kernel_rfl
    have each : ∀ i : Nat, ∃ v : I3, i < len → W.cell? (a.add (i * 3)) = some (.int .i64 v.1) ∧ W.cell? ((a.add (i * 3)).add 1) = some (.int .i64 v.2.1) ∧ W.cell? ((a.add (i * 3)).add 2) = some (.int .i64 v.2.2) ∧ O.I64 v.2.1 ∧ O.I64 v.2.2 := by
      intro i
      by_cases hlt : i < len
      · obtain ⟨cs', hc, ht'⟩ := hi i (by omega)
        rw [cI] at hc
        obtain ⟨y0, y1, y2, k, _, hlen, h0, h1, h2⟩ := trod_struct3 Tryz.underlying46 ht'
        obtain ⟨_, hcl, hat⟩ := World.cells?_some hc
        match cs', hcl with
        | [u0, u1, u2], _ =>
          have g0 := hat 0 (by omega)
          have g1 := hat 1 (by omega)
          have g2 := hat 2 (by omega)
          obtain ⟨z0, e0, _, w0⟩ := DataW.trod_int Tryz.underlying3 h0
          obtain ⟨z1, e1, _, w1⟩ := DataW.trod_int Tryz.underlying2 h1
          obtain ⟨z2, e2, _, w2⟩ := DataW.trod_int Tryz.underlying2 h2
          simp [c3] at e0
          simp [c2] at e1
          simp [c2] at e2
          subst e0 e1 e2
          exact ⟨(z0, z1, z2), fun _ => ⟨by simpa [Addr.add] using g0, by simpa using g1, by simpa using g2, i64_of_wf w1, i64_of_wf w2⟩⟩
      · exact ⟨(0, 0, 0), fun h => absurd h hlt⟩
    obtain ⟨f, hf⟩ := Classical.axiomOfChoice each
    have hlen : ((List.range len).map f).length = len := by simp
    refine ⟨some a, (List.range len).map f, cap, by rw [hlen]; exact hcs, fun h0 => ?_, by rw [hlen]; exact hl, hm, fun v hv => ?_⟩
    · have h0' : 0 < len := by rw [iis_length, hlen] at h0; omega
      have ea := addr_of_cell (hf 0 h0').1
      have ea' : a = ⟨a.block, a.off, none⟩ := by simpa [Addr.add] using ea
      refine ⟨a.block, a.off, by rw [← ea'], fun j u hu => ?_⟩
      have hj : j < len * 3 := by have := (List.getElem?_eq_some_iff.1 hu).1; rw [iis_length, hlen] at this; exact this
      have hd : j / 3 < len := by omega
      obtain ⟨k0, k1, k2, _⟩ := hf (j / 3) hd
      obtain ⟨q0, q1, q2⟩ := iis_at ((List.range len).map f) (j / 3) (by rw [hlen]; exact hd)
      rw [ea', add_of] at k0 k1 k2
      rw [add_of] at k1 k2
      simp only [List.getElem_map, List.getElem_range] at q0 q1 q2
      have hm3 : j % 3 = 0 ∨ j % 3 = 1 ∨ j % 3 = 2 := by omega
      rcases hm3 with hr | hr | hr
      · have ej : j = j / 3 * 3 := by omega
        rw [ej, q0] at hu
        rw [ej, k0]; exact hu
      · have ej : j = j / 3 * 3 + 1 := by omega
        rw [ej, q1] at hu
        rw [ej, ← Nat.add_assoc, k1]; exact hu
      · have ej : j = j / 3 * 3 + 2 := by omega
        rw [ej, q2] at hu
        rw [ej, ← Nat.add_assoc, k2]; exact hu
    · obtain ⟨i, hi', rfl⟩ := List.mem_map.1 hv
      exact ⟨(hf i (List.mem_range.1 hi')).2.2.2.1, (hf i (List.mem_range.1 hi')).2.2.2.2⟩
end
section
variable {H : Type} {enc : TypeId × Value → H} {w : World} {base b0 : Nat} {spare : Nat → Bool} {held : Bool} {r : Reach} {v : Value} {d : DataW H} {p : List MemPlace}
set_option maxRecDepth 100000 in
theorem open_insts (hv : Value.okWide Tryz.prog w r b0 22 v) (h : DataW.Trod enc Tryz.prog w base spare held 22 v d p) : ∃ A l c, v = .slice A l.length c ∧ Rd w A (iis l) ∧ l.length ≤ c ∧ c ≤ maxLen ∧ AllI l := by
  obtain ⟨a0, len, cap, rfl⟩ := okWide_slice Tryz.underlying22 hv
  obtain ⟨fuel, hf⟩ := h
  obtain ⟨A, l, c, hcs, hr, hc, hm, hI⟩ := read_insts hf
  simp only [Value.cells, List.cons.injEq, Value.slice.injEq, and_true] at hcs
  obtain ⟨rfl, rfl, rfl⟩ := hcs
  exact ⟨_, l, _, rfl, hr, hc, hm, hI⟩
end

end Go.Proofs.YtonpplpfipfnfaaGreatDoor.C

namespace Go.Proofs.YtonpplpfipfnfaaGreatDoor.O
open Go.RowKit

def namesC : Array Value := (rowsL.map fun r => Value.string (str r.name)).toArray
theorem namesC_at (k : Nat) (hk : k < 30) : namesC[k]? = some (.string (str (rowAt (k : Int)).name)) := by
  have h : isOp (k : Int) = true := decide_eq_true ⟨by omega, by omega⟩
  obtain ⟨h2, e⟩ := rowAt_yes h
  have hkl : k < rowsL.length := by rw [rows_length]; exact hk
  have e2 : rowAt (k : Int) = rowsL[k] := by rw [e]; rfl
  rw [e2]
  unfold namesC
  simp [hkl]

end Go.Proofs.YtonpplpfipfnfaaGreatDoor.O

namespace Go.Proofs.YtonpplpfipfnfaaGreatDoor.O
open Go.RowKit

/-- The name of a number, as the program holds it. -/
def nm (k : Nat) : ByteArray := str (rowAt (k : Int)).name
/-- The first number from k on, of n, that has the name; -1, if none has it. -/
def findFrom (S : ByteArray) : Nat → Nat → Int
  | 0, _ => -1
  | n + 1, k => if nm k = S then (k : Int) else findFrom S n (k + 1)
def findI (S : ByteArray) : Int := findFrom S 30 0
theorem find_yes {S : ByteArray} {k : Nat} (hk : k < 30) (h : nm k = S) : findFrom S (30 - k) k = k := by
  obtain ⟨n, hn⟩ : ∃ n, 30 - k = n + 1 := ⟨29 - k, by omega⟩
  rw [hn, findFrom, if_pos h]
theorem find_no {S : ByteArray} {k : Nat} (hk : k < 30) (h : nm k ≠ S) : findFrom S (30 - k) k = findFrom S (30 - (k + 1)) (k + 1) := by
  obtain ⟨n, hn⟩ : ∃ n, 30 - k = n + 1 := ⟨29 - k, by omega⟩
  have h2 : 30 - (k + 1) = n := by omega
  rw [hn, h2, findFrom, if_neg h]

/-- What Of answers. -/
def ofN (S : ByteArray) : Int := if findI S < 0 then 0 else findI S
def ofE (S : ByteArray) : Int := if findI S < 0 then 40 else 0

end Go.Proofs.YtonpplpfipfnfaaGreatDoor.O

namespace Go.Proofs.YtonpplpfipfnfaaGreatDoor.W
open Go.Lib

/-- The number that ParseInt hands back, whatever the error. -/
def pI (l : List UInt8) : Int := match atoiAll l with | .ok v => v | .range => atoiSat l | _ => 0
/-- A number's place in an int64. -/
def w64 (n : Int) : Int := (n + 9223372036854775808) % 18446744073709551616 - 9223372036854775808
theorem w64_in {n : Int} (h0 : -9223372036854775808 ≤ n) (h1 : n ≤ 9223372036854775807) : w64 n = n := by unfold w64; omega
theorem w64_bounds (n : Int) : -9223372036854775808 ≤ w64 n ∧ w64 n ≤ 9223372036854775807 := by unfold w64; omega
/-- The number that the code guesses of a text. -/
def gN (t : Int) (s : List UInt8) : Int := if s = [110, 105, 108] then 0 else w64 (pI (trimPrefix s (sgn t)) + off t)
/-- Read: the number of the value, if the text is that of one. -/
def rd (t : Int) (s : List UInt8) : Option Int := if showL t (gN t s) = s then some (gN t s) else none

theorem pI_bounds (l : List UInt8) : -9223372036854775808 ≤ pI l ∧ pI l ≤ 9223372036854775807 := by
  unfold pI
  rcases h : atoiAll l with v | _ | _
  · obtain ⟨b1, b2⟩ := Lib.atoiAll_bounds h
    simp only
    omega
  · simp
  · simp only [atoiSat]; split <;> omega
theorem gN_bounds (t : Int) (s : List UInt8) : -9223372036854775808 ≤ gN t s ∧ gN t s ≤ 9223372036854775807 := by
  unfold gN; split
  · omega
  · exact w64_bounds _

theorem trim_sign (x s : List UInt8) : trimPrefix (x ++ s) x = s := by
  unfold trimPrefix hasPrefix
  simp
theorem itoa_not_nil (n : Int) (r : List UInt8) : itoa n ++ r ≠ [110, 105, 108] := by
  obtain ⟨c, q, h, hc⟩ := itoa_cons n
  rw [h]
  intro e
  rw [List.cons_append] at e
  injection e with e _
  subst e
  rcases hc with hc | hc
  · cases hc
  · exact absurd hc (by decide)

/-- Numbers that int64 has. -/
def I64 (n : Int) : Prop := -9223372036854775808 ≤ n ∧ n ≤ 9223372036854775807

/-- The text of a value, not `&`, is guessed. -/
theorem guess_show {t n : Int} (hn : I64 n) (ho : okB t n = true) (h4 : t = 4 → n = 0) : gN t (showL t n) = n := by
  obtain ⟨hn0, hn1⟩ := hn
  cases hz : nilB t n
  · have ht : t ≠ 4 := by
      rintro rfl
      rw [nil_not] at hz; have := h4 rfl; omega
    rw [show_num ho hz ht]
    have ho' := (ok_iff t n).1 ho
    rw [nil_not] at hz
    have hoff : I64 (n - off t) := by
      unfold I64 off
      split <;> omega
    have hne : sgn t ++ itoa (n - off t) ≠ [110, 105, 108] := by
      rcases known_cases (ok_known ho) with rfl | rfl | rfl | rfl
      · have := itoa_not_nil (n - off 1) []; rw [List.append_nil] at this; exact this
      · intro e; injection e with e _; exact absurd e (by decide)
      · intro e; injection e with e _; exact absurd e (by decide)
      · exact absurd rfl ht
    unfold gN
    rw [if_neg hne, trim_sign]
    unfold pI
    rw [atoi_itoa _ hoff.1 hoff.2]
    simp only
    rw [w64_in (by omega) (by omega)]; omega
  · rw [show_nil hz]
    unfold gN
    rw [if_pos rfl, ((nil_iff t n).1 hz).2]

theorem rd_show {t n : Int} (hn : I64 n) (ho : okB t n = true) (h4 : t = 4 → n = 0) : rd t (showL t n) = some n := by
  unfold rd; rw [guess_show hn ho h4, if_pos rfl]

theorem guess_empty (t : Int) : gN t [] = off t := by
  have : trimPrefix [] (sgn t) = [] := by unfold trimPrefix; split <;> simp
  unfold gN
  rw [if_neg (by simp), this]
  show w64 (0 + off t) = off t
  rw [Int.zero_add, w64_in] <;> unfold off <;> split <;> omega
theorem guess_amp : gN 4 [38] = 0 := by decide +kernel

theorem show_ne {t n : Int} (h : okB t n = true) : showL t n ≠ [] := by
  cases hz : nilB t n
  · by_cases h4 : t = 4
    · subst h4
      rw [show_ptr (by rw [nil_not] at hz; rw [ok_iff] at h; omega)]; simp
    · rw [show_num h hz h4]
      obtain ⟨c, r, hc, _⟩ := itoa_cons (n - off t)
      rw [hc]; simp
  · rw [show_nil hz]; simp

/-- What is read of a text has just this, may be, and is no pointer but nil. -/
theorem rd_some {t : Int} {s : List UInt8} {n : Int} (ht : knownB t = true) (h : rd t s = some n) : showL t n = s ∧ okB t n = true ∧ I64 n ∧ (t = 4 → n = 0) := by
  unfold rd at h
  split at h
  · rename_i hs
    injection h with h
    subst h
    have hok : okB t (gN t s) = true := by
      cases ho : okB t (gN t s)
      · rw [show_bad ho] at hs
        subst hs
        rw [guess_empty] at ho
        rw [ok_not] at ho
        have := (known_iff t).1 ht
        unfold off at ho
        split at ho <;> omega
      · rfl
    refine ⟨hs, hok, gN_bounds t s, ?_⟩
    rintro rfl
    rcases Nat.eq_zero_or_pos (gN 4 s).toNat with h0 | h0
    · have := (ok_iff _ _).1 hok; omega
    · exfalso
      rw [show_ptr (by omega)] at hs
      subst hs
      rw [guess_amp] at h0
      simp at h0
  · cases h
/-- Two values of one type that is not P have the same text just if they are the same. -/
theorem show_inj {t a b : Int} (ha : I64 a) (hb : I64 b) (hoa : okB t a = true) (hob : okB t b = true) (h4 : t ≠ 4) (h : showL t a = showL t b) : a = b := by
  have h1 := rd_show ha hoa (fun e => absurd e h4)
  rw [h, rd_show hb hob (fun e => absurd e h4)] at h1
  injection h1 with h1
  exact h1.symm

/-! ### The document's own way of reading -/

/-- The number whose digits a text has, of 1 to 19 of them. -/
def num19 (s : List UInt8) : Option Nat := if 1 ≤ s.length ∧ s.length ≤ 19 ∧ (s.all fun c => decide (48 ≤ c.toNat ∧ c.toNat ≤ 57)) = true then some (spell 0 s) else none
/-- number: 0 and false, or the number and true. -/
def numR (s : List UInt8) : Int × Bool :=
  match s with
  | [] => (0, false)
  | c :: r => if c = 45 then (match num19 r with | some m => (w64 (-(m : Int)), true) | none => (0, false)) else (match num19 s with | some m => (w64 m, true) | none => (0, false))
/-- The digits that it looks at. -/
def digs (t : Int) (s : List UInt8) : List UInt8 := if 1 < t then s.drop 1 else s
/-- The number of the value that it could be. -/
def gR (t : Int) (s : List UInt8) : Int :=
  if (numR (digs t s)).2 = true ∧ t < 4 ∧ s ≠ [110, 105, 108] then (if t = 3 ∧ (numR (digs t s)).1 < 9223372036854775807 then (numR (digs t s)).1 + 1 else (numR (digs t s)).1) else 0
def rdR (t : Int) (s : List UInt8) : Option Int := if s = [] ∨ s = [38] ∨ showL t (gR t s) ≠ s then none else some (gR t s)

theorem spell_lt : ∀ (l : List UInt8) (acc : Nat), (∀ c ∈ l, 48 ≤ c.toNat ∧ c.toNat ≤ 57) → spell acc l < (acc + 1) * 10 ^ l.length
  | [], acc, _ => by simp [spell]
  | c :: r, acc, h => by
    have hc := h c (List.mem_cons_self ..)
    have := spell_lt r (acc * 10 + (c.toNat - 48)) (fun c h' => h c (List.mem_cons_of_mem _ h'))
    have he : spell acc (c :: r) = spell (acc * 10 + (c.toNat - 48)) r := rfl
    rw [he, List.length_cons, Nat.pow_succ]
    have h2 : (acc * 10 + (c.toNat - 48) + 1) * 10 ^ r.length ≤ (acc + 1) * (10 ^ r.length * 10) := by
      rw [Nat.mul_comm (10 ^ r.length) 10, ← Nat.mul_assoc]
      exact Nat.mul_le_mul_right _ (by omega)
    omega

theorem num19_lt {s : List UInt8} {m : Nat} (h : num19 s = some m) : m < 10000000000000000000 := by
  unfold num19 at h
  split at h
  · rename_i hc
    injection h with h
    subst h
    have hd : ∀ c ∈ s, 48 ≤ c.toNat ∧ c.toNat ≤ 57 := fun c hm => by simpa using List.all_eq_true.1 hc.2.2 c hm
    have h1 := spell_lt s 0 hd
    have h2 : 10 ^ s.length ≤ 10 ^ 19 := Nat.pow_le_pow_right (by omega) hc.2.1
    have h3 : (10 : Nat) ^ 19 = 10000000000000000000 := by decide
    omega
  · cases h
theorem numR_bounds (s : List UInt8) : I64 (numR s).1 := by
  unfold I64 numR
  split
  · exact ⟨by simp, by simp⟩
  · split
    · split
      · exact w64_bounds _
      · exact ⟨by simp, by simp⟩
    · split
      · exact w64_bounds _
      · exact ⟨by simp, by simp⟩
theorem gR_bounds (t : Int) (s : List UInt8) : I64 (gR t s) := by
  have h := numR_bounds (digs t s)
  unfold I64 at h ⊢
  unfold gR
  split
  · split <;> omega
  · omega

theorem dec_len (u : Nat) (h : u < 10000000000000000000) : (decDigits u).length ≤ 19 := by
  rw [decDigits_length]
  rcases Nat.lt_or_ge 19 (nDigits u) with h1 | h1
  · exfalso
    obtain ⟨k, hk⟩ : ∃ k, nDigits u = k + 1 := ⟨nDigits u - 1, by omega⟩
    have hlo : ∀ u k, nDigits u = k + 1 → 1 ≤ k → 10 ^ k ≤ u := by
      intro u
      induction u using Nat.strongRecOn with
      | _ u ih =>
        intro k hk h1
        by_cases hs : u < 10
        · rw [nDigits_small hs] at hk; omega
        · rw [nDigits_big hs] at hk
          obtain ⟨j, rfl⟩ : ∃ j, k = j + 1 := ⟨k - 1, by omega⟩
          rw [Nat.pow_succ]
          rcases Nat.eq_zero_or_pos j with rfl | hj
          · simp; omega
          · have := ih (u / 10) (by omega) j (by omega) hj
            omega
    have h2 := hlo u k hk (by omega)
    have h3 : 10 ^ 19 ≤ 10 ^ k := Nat.pow_le_pow_right (by omega) (by omega)
    have h4 : (10 : Nat) ^ 19 = 10000000000000000000 := by decide
    omega
  · exact h1
theorem num19_dec (u : Nat) (h : u < 10000000000000000000) : num19 (decDigits u) = some u := by
  obtain ⟨c, r, hc, _⟩ := dec_cons u
  have hl := dec_len u h
  have hd : ((decDigits u).all fun c => decide (48 ≤ c.toNat ∧ c.toNat ≤ 57)) = true := by
    rw [List.all_eq_true]; intro c hc; simpa using dec_digits u c hc
  unfold num19
  rw [if_pos ⟨by rw [hc]; simp, hl, hd⟩, spell_dec]
theorem numR_itoa (n : Int) (hn : I64 n) : numR (itoa n) = (n, true) := by
  obtain ⟨h0, h1⟩ := hn
  by_cases h : n < 0
  · rw [itoa_minus h]
    unfold numR
    dsimp only
    rw [if_pos rfl, num19_dec _ (by omega)]
    simp only [Prod.mk.injEq, and_true]
    unfold w64; omega
  · obtain ⟨c, r, hc, hd⟩ := dec_cons n.toNat
    have hm := num19_dec n.toNat (by omega)
    rw [itoa_pos (by omega)]
    rw [hc] at hm ⊢
    unfold numR
    have e2 : ¬ c = 45 := by rintro rfl; exact absurd hd (by decide)
    dsimp only
    rw [if_neg e2, hm]
    simp only [Prod.mk.injEq, and_true]
    unfold w64; omega

theorem guessR_show {t n : Int} (hn : I64 n) (ho : okB t n = true) (h4 : t = 4 → n = 0) : gR t (showL t n) = n := by
  cases hz : nilB t n
  · have ht : t ≠ 4 := by
      rintro rfl
      rw [nil_not] at hz; have := h4 rfl; omega
    rw [show_num ho hz ht]
    have ho' := (ok_iff t n).1 ho
    rw [nil_not] at hz
    have hoff : I64 (n - off t) := by
      unfold I64 off at *
      split <;> omega
    have hne : sgn t ++ itoa (n - off t) ≠ [110, 105, 108] := by
      rcases known_cases (ok_known ho) with rfl | rfl | rfl | rfl
      · have := itoa_not_nil (n - off 1) []; rw [List.append_nil] at this; exact this
      · intro e; injection e with e _; exact absurd e (by decide)
      · intro e; injection e with e _; exact absurd e (by decide)
      · exact absurd rfl ht
    have hdg : digs t (sgn t ++ itoa (n - off t)) = itoa (n - off t) := by
      rcases known_cases (ok_known ho) with rfl | rfl | rfl | rfl
      · rfl
      · rfl
      · rfl
      · exact absurd rfl ht
    unfold gR
    rw [hdg, numR_itoa _ hoff, if_pos ⟨rfl, by omega, hne⟩]
    simp only
    unfold I64 at hn hoff
    by_cases h3 : t = 3
    · subst h3
      have e : off 3 = 1 := rfl
      rw [e] at hoff ⊢
      rw [if_pos ⟨rfl, by omega⟩]; omega
    · have e : off t = 0 := by unfold off; rw [if_neg h3]
      rw [if_neg (fun h => h3 h.1), e]; omega
  · rw [show_nil hz]
    unfold gR
    rw [if_neg (fun h => h.2.2 rfl), ((nil_iff t n).1 hz).2]

theorem rdR_show {t n : Int} (hn : I64 n) (ho : okB t n = true) (h4 : t = 4 → n = 0) : rdR t (showL t n) = some n := by
  have h1 := guessR_show hn ho h4
  have h2 := show_ne ho
  have h3 : showL t n ≠ [38] := by
    cases hz : nilB t n
    · have ht : t ≠ 4 := by
        rintro rfl
        rw [nil_not] at hz; have := h4 rfl; omega
      rw [show_num ho hz ht]
      rcases known_cases (ok_known ho) with rfl | rfl | rfl | rfl
      · obtain ⟨c, r, hc, hd⟩ := itoa_cons (n - off 1)
        rw [hc]
        intro e
        injection e with e _
        subst e
        exact absurd hd (by decide)
      · intro e; injection e with e _; exact absurd e (by decide)
      · intro e; injection e with e _; exact absurd e (by decide)
      · exact absurd rfl ht
    · rw [show_nil hz]; decide
  unfold rdR
  rw [h1, if_neg (by simp [h2, h3])]
theorem rdR_some {t : Int} {s : List UInt8} {n : Int} (h : rdR t s = some n) : showL t n = s ∧ okB t n = true ∧ I64 n ∧ (t = 4 → n = 0) := by
  unfold rdR at h
  split at h
  · cases h
  · rename_i hc
    injection h with h
    subst h
    simp only [not_or, ne_eq, Decidable.not_not] at hc
    obtain ⟨h1, h2, h3⟩ := hc
    have hok : okB t (gR t s) = true := by
      cases ho : okB t (gR t s)
      · rw [show_bad ho] at h3; exact absurd h3.symm h1
      · rfl
    refine ⟨h3, hok, gR_bounds t s, ?_⟩
    rintro rfl
    rcases Nat.eq_zero_or_pos (gR 4 s).toNat with h0 | h0
    · have := (ok_iff _ _).1 hok; omega
    · exfalso
      rw [show_ptr (by omega)] at h3
      exact h2 h3.symm
/-- Both read the same. -/
theorem rdR_eq {t : Int} (ht : knownB t = true) (s : List UInt8) : rdR t s = rd t s := by
  cases h : rd t s with
  | some n =>
    obtain ⟨h1, h2, h3, h4⟩ := rd_some ht h
    rw [← h1]; exact rdR_show h3 h2 h4
  | none =>
    cases h' : rdR t s with
    | none => rfl
    | some n =>
      obtain ⟨h1, h2, h3, h4⟩ := rdR_some h'
      have := rd_show h3 h2 h4
      rw [h1, h] at this
      cases this

end Go.Proofs.YtonpplpfipfnfaaGreatDoor.W

namespace Go.Proofs.YtonpplpfipfnfaaGreatDoor.W
open Go.RowKit

theorem rune_let {t : Int} (h : knownB t = true) : ∃ r : Int, letV[t.toNat]? = some (.int .i32 r) ∧ 0 ≤ t ∧ t ≤ 4 ∧ -2147483648 ≤ r ∧ r ≤ 2147483647 ∧ Lib.runeCells r = Lib.byteCells (letC t) := by
  rcases known_cases h with rfl | rfl | rfl | rfl
  · exact ⟨73, rfl, by decide, by decide, by decide, by decide, rfl⟩
  · exact ⟨82, rfl, by decide, by decide, by decide, by decide, rfl⟩
  · exact ⟨70, rfl, by decide, by decide, by decide, by decide, rfl⟩
  · exact ⟨80, rfl, by decide, by decide, by decide, by decide, rfl⟩

theorem bc_append (a b : List UInt8) : Lib.byteCells a ++ Lib.byteCells b = Lib.byteCells (a ++ b) := by simp [Lib.byteCells]

theorem str_snoc (s : List UInt8) (c : UInt8) : str s ++ ⟨#[c]⟩ = str (s ++ [c]) := by
  apply ByteArray.ext
  simp [ByteArray.data_append]

end Go.Proofs.YtonpplpfipfnfaaGreatDoor.W
