/-
  What Decode of layer code answers, the program's and the document's: the body at a Reel's place, and the place behind it. Conditions: the Reel reads bytes in memory, no more than 2^47.
  What the document's Decode of layer code answers: the body at its Reel's place, and the place behind it. Conditions: the Reel reads bytes in memory, no more than 2^47.
  Functions at a Reel's place: what Decode answers. Conditions: the Reel reads bytes in memory, no more than 2^47.
  What Decode of layer function answers: the function at a Reel's place, and the place behind it. Conditions: the Reel reads bytes in memory, no more than 2^47.
  An argument that is a slice of bytes, opened: an address from which a list of bytes stands. No conditions.
  Functions that are no greater than statements go through; small facts that the laws share. No conditions.
  An image in memory: its value, its cells, what it reads as; an image that is owned. No conditions.
  Which functions may be, however great: what Check of layer function answers. Conditions: the function's lists lie in memory, each of them below 2^47.
  What the laws ask ahead: whether an image is more than statements go through. Conditions: the image's lists lie in memory, each below 2^47.
-/
import Derived.OpenShut
import Derived.ProofKit
import Derived.SizedLaws
import Derived.Test.YtgifflfjhockaaaGreatDoorQ8
import Derived.Test.YtgifflfjhockaaaGreatDoorQ5
import Derived.Test.YtgifflfjhockaaaGreatDoorQ7
import Derived.Test.YtgifflfjhockaaaGreatDoorQ2
namespace Go.Proofs.YtgifflfjhockaaaGreatDoor.C
open Go.RowKit O

/-- What is read: the list, the error, the place. -/
def decL (l : List UInt8) (p : Nat) : List I3 := match decB l p with
  | none => []
  | some x => x.1
def decE (l : List UInt8) (p : Nat) : Int := match decB l p with
  | none => 50
  | some _ => 0
def decQ (l : List UInt8) (p : Nat) : Nat := match decB l p with
  | none => 0
  | some x => x.2
theorem dec_no {l : List UInt8} {p : Nat} (h : decB l p = none) : decL l p = [] ∧ decE l p = 50 := by unfold decL decE; rw [h]; exact ⟨rfl, rfl⟩
theorem dec_yes {l : List UInt8} {p q : Nat} {xs : List I3} (h : decB l p = some (xs, q)) : decL l p = xs ∧ decE l p = 0 ∧ decQ l p = q := by unfold decL decE decQ; rw [h]; exact ⟨rfl, rfl, rfl⟩
theorem decB_1 {l : List UInt8} {p n r q : Nat} (h : V.NumR l p 512 = (n, r, q)) (hr : r ≠ 0) : decB l p = none := by unfold decB; rw [h]; exact if_pos hr
theorem decB_2 {l : List UInt8} {p n q : Nat} (h : V.NumR l p 512 = (n, 0, q)) : decB l p = bodyOf (fwd l q n) := by unfold decB; rw [h]; exact if_neg (fun h => h rfl)
theorem body_ok {xs : List I3} {q : Nat} (h : okB xs = true) : bodyOf (some (xs, q)) = some (xs, q) := if_pos h
theorem body_no {xs : List I3} {q : Nat} (h : okB xs = false) : bodyOf (some (xs, q)) = none := if_neg (by rw [h]; decide)
/-- How Decode ends. -/
def BdyR (w : World) (br : Nat) (At : World → Nat → Prop) (xs : List I3) (E : Int) (Q : Nat) (e : Ending) (w' : World) : Prop :=
  ∃ v q, e = .returned (.tuple #[v, .int .i64 E]) ∧ Own w' 63 3 (Fresh w) v xs.length (iis xs) ∧ At w' q ∧ (E = 0 → q = Q) ∧ Keep (fun k => k = br) w w'
theorem bdy_none {w w' : World} {br Q q : Nat} {At : World → Nat → Prop} (h : At w' q) (hk : Keep (fun k => k = br) w w') : BdyR w br At [] 50 Q (.returned (.tuple #[.slice none 0 0, .int .i64 50])) w' :=
  ⟨_, q, rfl, Own.nil _ _ _ _, h, fun e => absurd e (by decide), hk⟩
/-- Three cells put at an element's place. -/
theorem wpList_put3 {ops : Array Oper} {rest : List Oper} {o : Oper} {a : Act} {w : World} {Q : Exit → Act → World → Prop} (hgd : o.guard = none) (x y : Operand) (ho : o.op = .store 63 x y)
    {g k : Nat} {xs : List I3} {u0 u1 u2 : Value} {r : List Value} (hB : Blk w g 63 (iis xs ++ u0 :: u1 :: u2 :: r).toArray) (hk : xs.length = k) (op av bv : Int)
    (hx : a.eval x = .pointer (some ⟨g, k * 3, none⟩)) (hy : a.eval y = instV op av bv)
    (h : ∀ w', Blk w' g 63 (iis (xs ++ [(op, av, bv)]) ++ r).toArray → Keep (fun b => b = g) w w' → wpList Tryz.prog ops Q rest (a.put o.dst undef) w') : wpList Tryz.prog ops Q (o :: rest) a w := by
  refine wpList_plain hgd fun K hK => ?_
  have hst := run_storeCells_at Tryz.prog g (k * 3) 63 [.int .i64 op, .int .i64 av, .int .i64 bv] 0 _ w hB (by rw [← hk]; simp [iis_length]) (by simp [Value.oneCell'])
  have e : (iis xs ++ u0 :: u1 :: u2 :: r).take (k * 3 + 0) ++ [.int .i64 op, .int .i64 av, .int .i64 bv] ++ (iis xs ++ u0 :: u1 :: u2 :: r).drop (k * 3 + 0 + 3) = iis (xs ++ [(op, av, bv)]) ++ r := by
    have hl : (iis xs).length = k * 3 := by rw [iis_length, hk]
    rw [Nat.add_zero, ← hl, List.take_left', List.drop_length_add_append, iis_append, iis_one] <;> rfl
  simp only [List.length_cons, List.length_nil, Nat.zero_add, Nat.reduceAdd] at hst
  rw [e] at hst
  obtain ⟨i0, hi, hz0, hz1, hz2⟩ := info_parts instr_info
  have hrun : (storeVar 63 ⟨g, k * 3, none⟩ (instV op av bv)).run Tryz.prog w = .ok () (w.setRow g (iis (xs ++ [(op, av, bv)]) ++ r).toArray) := by
    simp [storeVar, sizeOf, typeInfo, hi, hz1, Value.cells, hst]
  unfold Oper.wp execOp
  simp only [ho, hx, hy, Instr.storeAt, Instr.sureAddr, Sem.run_bind, Sem.run_pure, Result.andThen_ok, hrun]
  exact hK _ _ (h _ (setRow_heap w g _ _ _ _ hB) ⟨rfl, rfl, rfl, by simp, fun b _ hne => setRow_other w g b _ hne⟩)
theorem three {rest : List Value} {m : Nat} (h : rest.length = m * 3) (h0 : 0 < m) : ∃ u0 u1 u2 r, rest = u0 :: u1 :: u2 :: r ∧ r.length = (m - 1) * 3 := by
  match rest, h with
  | [], h => simp at h; omega
  | [_], h => simp at h; omega
  | [_, _], h => simp at h; omega
  | u0 :: u1 :: u2 :: r, h => exact ⟨u0, u1, u2, r, rfl, by simp at h; omega⟩
theorem made_blk {w w1 : World} {n : Nat} {zs : List Value} (hrow : w1.ownsRow 0 63 3 (.slice (some ⟨w.heap.size, 0, none⟩) n n) n zs) : ∃ rest : List Value, rest.length = n * 3 ∧ Blk w1 w.heap.size 63 (iis [] ++ rest).toArray := by
  obtain ⟨h3, h4⟩ := hrow
  rcases h4 with ⟨h4, _⟩ | ⟨g, cap, cur, h4, _, h6, _, _, h7, _⟩
  · cases h4
  · injection h4 with h4 _ h8
    injection h4 with h4
    injection h4 with h4 _ _
    subst h4 h8
    exact ⟨cur.toList, by simpa using h7, by rw [iis_nil, List.nil_append, Array.toArray_toList]; exact h6⟩

set_option maxRecDepth 100000 in
set_option maxHeartbeats 4000000 in
theorem cdecode_any (w : World) (br : Nat) (Ob : Nat → Prop) (l : List UInt8) (p : Nat) (hO : ∀ k, Ob k → k < w.heap.size) (h : V.ReelAt w br Ob l p) (hlen : l.length ≤ 140737488355328) :
    Calls Tryz.prog 139 #[.pointer (some ⟨br, 0, none⟩)] w (BdyR w br (fun w' q => V.ReelAt w' br Ob l q) (decL l p) (decE l p) (decQ l p)) := by
  have hbr := O.reel_lt h
  have HS := Lib.hid (V.rnumber_any w br Ob l p 512 h hlen)
  obtain ⟨n, r, q, hN, hN0, hN1⟩ := num_case l p 512
  rw [hN] at HS
  clear h
  by_cases hr : r = 0
  · subst hr
    obtain ⟨hn1, hn2⟩ := hN0 rfl
    have HD := Lib.hid (decB_2 hN)
    obtain ⟨i0, hi, hz0, hz1, hz2⟩ := info_parts instr_info
    have HO := Lib.hid hO
    clear hN0 hN1 hN hO
    go_enter Tryz.func139, Tryz.ntmps139
    go_wp2_with fail
    refine HS.out.mono ?_
    rintro e w1 ⟨rfl, h1, k1⟩
    have gs := k1.size
    go_wp2_with (at_make; refine wpList_make_full _ rfl _ _ 59 rfl 0 63 i0 _ 3 Tryz.underlying59 hi hz0 hz1 _ _ _ _ n rfl rfl rfl rfl (by rw [hz2]; omega) (by unfold maxLen; omega) (Nat.zero_le _) ?_; intro w2 hrow2 hg2; obtain ⟨rest, hrl, hB2⟩ := made_blk hrow2; have k2 : Keep NoB w1 w2 := (Keep.refl NoB w1).grown hg2 (fun g e _ => by cases e); clear hrow2 hg2)
    have h2 := h1.keep k2 (fun _ _ => id)
    have gK : Keep (fun k => k = br) w w2 := k1.trans (k2.mono (fun _ hf _ => hf.elim)) (fun _ ho _ => ho)
    clear h1 k1 k2
    go_loopw [19] (fun i wr => ∃ k : Nat, k ≤ n ∧ i = .int .i64 k ∧ ∃ xs qk rest, fwd l q k = some (xs, qk) ∧ rest.length = (n - k) * 3 ∧ Blk wr w1.heap.size 63 (iis xs ++ rest).toArray ∧ V.ReelAt wr br Ob l qk ∧ Keep (fun k => k = br) w wr) (fun i _ => n - (intOf i).toNat)
    case atStart => exact ⟨0, Nat.zero_le _, rfl, [], q, rest, rfl, hrl, hB2, h2, gK⟩
    case round =>
      clear hB2 h2 gK hrl
      obtain ⟨k, hk, rfl, xs, qk, rest, hf, hrl, hB, hA, hK⟩ := hrel
      obtain ⟨_, _, hxl, _⟩ := fwd_ok k hf
      by_cases hlt : k < n
      · obtain ⟨u0, u1, u2, r, rfl, hrl2⟩ := three hrl (by omega)
        have HE := Lib.hid (O.decode_any wr br Ob l qk (fun k h => Nat.lt_of_lt_of_le (HO.out k h) hK.size) hA hlen)
        have HF := Lib.hid (fun he => fwd_step hf he)
        have HG := Lib.hid (fun he => fwd_none (fwd_stop hf he) n (by omega))
        obtain ⟨y, hy⟩ : ∃ y, d3 l qk = y := ⟨_, rfl⟩
        have e0 : ∃ op a b er pl, decI l qk = ⟨op, a, b, er, pl⟩ := ⟨_, _, _, _, _, rfl⟩
        obtain ⟨op, a, b, er, pl, e0⟩ := e0
        have hy2 : d3 l qk = (op, a, b) := by unfold d3; rw [e0]
        rw [e0] at HE HG
        rw [e0, hy2] at HF
        dsimp only at HE HF HG
        clear hf hA hy hy2 e0
        go_wp2_with fail
        refine HE.out.mono ?_
        rintro e w4 ⟨rfl, h4, k4⟩
        dsimp only at h4
        have hB4 := hB.keep k4 (fun e => by omega)
        have hK4 := hK.trans k4 (fun _ ho _ => ho)
        clear hB hK k4
        have hgo : ∀ k, Ob k → ¬ (k = w1.heap.size) := fun k h e => by have := HO.out k h; omega
        have gs4 := hK4.size
        by_cases he : er = 0
        · subst he
          go_wp2_with (refine wpList_put3 rfl _ _ rfl hB4 hxl op a b rfl rfl ?_; intro w6 hB6 k6)
          go_roundw
          case rel => exact ⟨k + 1, by omega, by go_num, xs ++ [(op, a, b)], pl, r, HF.out (by first | rfl | trivial), by omega, hB6, h4.keep k6 hgo, hK4.trans k6 (fun b e hl => by omega)⟩
          case measure => simp [intOf]; omega
        · have hr3 : ((er : Int) != 0) = true := by rw [bne_iff_ne]; omega
          have HD2 := Lib.hid (dec_no (l := l) (p := p) (by rw [HD.out, HG.out he]; rfl))
          go_wp2_with (refine wpList_put3 rfl _ _ rfl hB4 hxl op a b rfl rfl ?_; intro w6 hB6 k6)
          go_ret2
          rw [HD2.out.1, HD2.out.2]
          exact bdy_none (h4.keep k6 hgo) (hK4.trans k6 (fun b e hl => by omega))
      · obtain rfl : k = n := by omega
        obtain rfl : rest = [] := List.length_eq_zero_iff.1 (by rw [hrl]; omega)
        rw [List.append_nil] at hB
        rw [hf] at HD
        have hxh := Lib.hid hxl
        have HI := Lib.hid (fun w h => ifBody_any (some ⟨w1.heap.size, 0, none⟩) xs k k w h hxh (by omega))
        have hown : Own wr 63 3 (Fresh w) (.slice (some ⟨w1.heap.size, 0, none⟩) k k) k (iis xs) := by
          have := row_take hB hxl (Nat.le_refl k) (by omega)
          rw [List.take_of_length_le (by omega)] at this
          exact ⟨this, fun g e => by cases e; exact gs⟩
        have hrd : Rd wr (some ⟨w1.heap.size, 0, none⟩) (iis xs) := by
          obtain ⟨A', c', e, _, _, hr, _⟩ := hown.form
          cases e; exact hr
        clear hf hrl hB hxl
        go_wp2_with (go_at_call 184; refine (HI.out _ hrd).mono ?_; rintro e w5 ⟨rfl, k5⟩)
        have hA5 := hA.keep k5 (fun _ _ => id)
        have hK5 : Keep (fun k => k = br) w w5 := hK.trans (k5.mono (fun _ hf _ => hf.elim)) (fun _ ho _ => ho)
        go_ret2
        cases ho : okB xs
        · obtain ⟨e1, e2⟩ := dec_no (l := l) (p := p) (by rw [HD.out, body_no ho])
          rw [e1, e2, ifV_no ho, chkB_no ho]
          exact bdy_none hA5 hK5
        · obtain ⟨e1, e2, e3⟩ := dec_yes (l := l) (p := p) (by rw [HD.out, body_ok ho])
          rw [e1, e2, e3, ifV_ok ho, chkB_ok ho]
          exact ⟨_, qk, rfl, by rw [hxh.out]; exact hown.keepN k5, hA5, fun _ => rfl, hK5⟩
  · obtain ⟨e1, e2⟩ := dec_no (decB_1 hN hr)
    rw [e1, e2]
    have hr3 : ((r : Int) != 0) = true := by rw [bne_iff_ne]; omega
    clear hN0 hN1 hN hr e1 e2
    go_enter Tryz.func139, Tryz.ntmps139
    go_wp2_with fail
    refine HS.out.mono ?_
    rintro e w1 ⟨rfl, h1, k1⟩
    go_wp2
    go_ret2
    exact bdy_none h1 k1

end Go.Proofs.YtgifflfjhockaaaGreatDoor.C

namespace Go.Proofs.YtgifflfjhockaaaGreatDoor.C
open Go.RowKit O

theorem own_afterB {w W W' : World} {E size n br : Nat} {v v' : Value} {xs : List Value} (ho : ∀ g, v.ownBlock = some g → Fresh w g) (hK : Keep (fun k => k = br) w W) (hg : W.grownBy W' v.ownBlock)
    (hv : v'.ownBlock = v.ownBlock ∨ v'.ownBlock = some W.heap.size) (hrow : W'.ownsRow 0 E size v' n xs) : Own W' E size (Fresh w) v' n xs ∧ Keep (fun k => k = br) w W' := by
  refine ⟨⟨hrow, fun g e => ?_⟩, hK.grown hg (fun g e h => by have := ho g e; unfold Fresh at this; omega)⟩
  rcases hv with h | h
  · exact ho g (h ▸ e)
  · rw [h] at e; cases e; exact hK.size
theorem ref_grown {w W W' : World} {br p : Nat} {Ob : Nat → Prop} {l : List UInt8} {v : Value} (h : V.RefAt W br Ob l p) (hO : ∀ k, Ob k → k < w.heap.size) (ho : ∀ g, v.ownBlock = some g → Fresh w g) (hg : W.grownBy W' v.ownBlock) : V.RefAt W' br Ob l p :=
  h.keep (O' := fun k => some k = v.ownBlock) ((Keep.refl _ W).grown hg (fun _ e _ => e.symm)) (fun k hk e => by have h1 := hO k hk; have h2 := ho k e.symm; unfold Fresh at h2; omega)
/-- The numbers of what is read fit. -/
theorem ok1_I {x : I3} (h : ok1 x = true) : O.I64 x.2.1 ∧ O.I64 x.2.2 := ⟨(in_bounds (ok_op h).2.1).1, (in_bounds (ok_op h).2.2).1⟩
theorem fwd_I {l : List UInt8} {p : Nat} (k : Nat) {xs : List I3} {q : Nat} (h : fwd l p k = some (xs, q)) : AllI xs := fun x hx => ok1_I (List.all_eq_true.1 (fwd_ok k h).2.2.2 x hx)

set_option maxRecDepth 100000 in
set_option maxHeartbeats 4000000 in
theorem rcdecode_any (w : World) (br : Nat) (Ob : Nat → Prop) (l : List UInt8) (p : Nat) (hO : ∀ k, Ob k → k < w.heap.size) (h : V.RefAt w br Ob l p) (hlen : l.length ≤ 140737488355328) :
    Calls Tryz.prog 92 #[.pointer (some ⟨br, 0, none⟩)] w (BdyR w br (fun w' q => V.RefAt w' br Ob l q) (decL l p) (decE l p) (decQ l p)) := by
  have hbr := O.ref_lt h
  have HS := Lib.hid (V.refnumber_any w br Ob l p 512 h hlen)
  obtain ⟨n, r, q, hN, hN0, hN1⟩ := num_case l p 512
  rw [hN] at HS
  clear h
  by_cases hr : r = 0
  · subst hr
    obtain ⟨hn1, hn2⟩ := hN0 rfl
    have HD := Lib.hid (decB_2 hN)
    obtain ⟨i0, hi, hz0, hz1, hz2⟩ := info_parts instr_info
    have HO := Lib.hid hO
    clear hN0 hN1 hN hO
    go_enter Tryz.func92, Tryz.ntmps92
    go_wp2_with fail
    refine HS.out.mono ?_
    rintro e w1 ⟨rfl, h1, gK⟩
    go_wp2
    go_loopw [6, 7] (fun v i wr => ∃ k : Nat, k ≤ n ∧ i = .int .u64 k ∧ ∃ xs qk B d, fwd l q k = some (xs, qk) ∧ v = .slice B k d ∧ Own wr 63 3 (Fresh w) (.slice B k d) k (iis xs) ∧ V.RefAt wr br Ob l qk ∧ Keep (fun k => k = br) w wr) (fun _ i _ => n - (intOf i).toNat)
    case atStart => exact ⟨0, Nat.zero_le _, rfl, [], q, none, 0, rfl, rfl, Own.nil _ _ _ _, h1, gK⟩
    case round =>
      clear h1 gK
      obtain ⟨k, hk, rfl, xs, qk, B, d, hf, rfl, hO, hA, hK⟩ := hrel
      obtain ⟨_, _, hxl, _⟩ := fwd_ok k hf
      by_cases hlt : k < n
      · have hwk : IntKind.u64.wrap ((k : Int) + 1) = ((k + 1 : Nat) : Int) := by simp [IntKind.wrap, IntKind.bits, IntKind.signed]; omega
        have HE := Lib.hid (O.rdecode_any wr br Ob l qk (fun k h => Nat.lt_of_lt_of_le (HO.out k h) hK.size) hA hlen)
        have HF := Lib.hid (fun he => fwd_step hf he)
        have HG := Lib.hid (fun he => fwd_none (fwd_stop hf he) n (by omega))
        have e0 : ∃ op a b er pl, decI l qk = ⟨op, a, b, er, pl⟩ := ⟨_, _, _, _, _, rfl⟩
        obtain ⟨op, a, b, er, pl, e0⟩ := e0
        have hy2 : d3 l qk = (op, a, b) := by unfold d3; rw [e0]
        rw [e0] at HE HG
        rw [e0, hy2] at HF
        dsimp only at HE HF HG
        have HX : Hid (iis (xs ++ [(op, a, b)]) = iis xs ++ [.int .i64 op, .int .i64 a, .int .i64 b]) := iis_append _ _
        clear hf hA hy2 e0
        go_wp2_with fail
        refine HE.out.mono ?_
        rintro e w4 ⟨rfl, h4, k4⟩
        dsimp only at h4
        have hO4 := (hO.keep k4 (fun g hg e => by unfold Fresh at hg; omega)).keepN ((Keep.refl NoB w4).alloc (.cells #[.int .i64 op, .int .i64 a, .int .i64 b] 63))
        have hK4 := (hK.trans k4 (fun _ ho _ => ho)).alloc (.cells #[.int .i64 op, .int .i64 a, .int .i64 b] 63)
        have h5 := h4.keep ((Keep.refl NoB w4).alloc (.cells #[.int .i64 op, .int .i64 a, .int .i64 b] 63)) (fun _ _ => id)
        clear hO hK k4
        by_cases he : er = 0
        · subst he
          go_wp2_with (at_builtin; refine wpList_append_rd _ rfl (.tmp 29) (.tmp 31) _ rfl 63 3 24 i0 _ Tryz.underlying59 hi hz0 hz1 hz2 rfl (by decide) _ k _ _ 1 _ [.int .i64 op, .int .i64 a, .int .i64 b] rfl (hO4.1.alloc _) rfl (W.rd_made (by simp) rfl) rfl (by simp [Value.oneCell']) (by unfold maxLen; omega) (by omega) ?_; intro B5 d5 w5 hrow5 hg5 hv5; obtain ⟨hO5, hK5⟩ := own_afterB hO4.2 (hK4.alloc _) hg5 hv5 hrow5; have h6 := ref_grown (h5.keep ((Keep.refl NoB _).alloc _) (fun _ _ => id)) HO.out hO4.2 hg5; clear hrow5 hg5 hv5)
          go_roundw
          case rel => exact ⟨k + 1, by omega, by go_num, xs ++ [(op, a, b)], pl, B5, d5, HF.out (by first | rfl | trivial), rfl, by rw [HX.out]; exact hO5, h6, hK5⟩
          case measure => simp [intOf]; omega
        · have hr3 : ((er : Int) != 0) = true := by rw [bne_iff_ne]; omega
          have HD2 := Lib.hid (dec_no (l := l) (p := p) (by rw [HD.out, HG.out he]; rfl))
          go_wp2
          go_ret2
          rw [HD2.out.1, HD2.out.2]
          exact bdy_none h5 hK4
      · obtain rfl : k = n := by omega
        rw [hf] at HD
        have hxh := Lib.hid hxl
        have hxI := Lib.hid (fwd_I k hf)
        have hrd : Rd wr B (iis xs) := by
          obtain ⟨A', c', e, _, _, hr, _⟩ := hO.form
          cases e; exact hr
        clear hf hxl
        cases ho : okB xs
        · obtain ⟨e1, e2⟩ := dec_no (l := l) (p := p) (by rw [HD.out, body_no ho])
          have HI := Lib.hid (fun w h => rcchk_any B xs k d w h hxh hxI (by omega) 50 (chkB_no ho))
          have HE := Lib.hid (And.intro e1 e2)
          clear ho e1 e2
          go_wp2_with (go_at_call 101; refine (HI.out _ hrd).mono ?_; rintro e w5 ⟨rfl, k5⟩)
          go_ret2
          rw [HE.out.1, HE.out.2]
          exact bdy_none (hA.keep k5 (fun _ _ => id)) (hK.trans (k5.mono (fun _ hf _ => hf.elim)) (fun _ ho _ => ho))
        · obtain ⟨e1, e2, e3⟩ := dec_yes (l := l) (p := p) (by rw [HD.out, body_ok ho])
          have HI := Lib.hid (fun w h => rcchk_any B xs k d w h hxh hxI (by omega) 0 (chkB_ok ho))
          have HE := Lib.hid (And.intro e1 (And.intro e2 e3))
          clear ho e1 e2 e3
          go_wp2_with (go_at_call 101; refine (HI.out _ hrd).mono ?_; rintro e w5 ⟨rfl, k5⟩)
          go_ret2
          rw [HE.out.1, HE.out.2.1, HE.out.2.2]
          exact ⟨_, qk, rfl, by rw [hxh.out]; exact hO.keepN k5, hA.keep k5 (fun _ _ => id), fun _ => rfl, hK.trans (k5.mono (fun _ hf _ => hf.elim)) (fun _ ho _ => ho)⟩
  · obtain ⟨e1, e2⟩ := dec_no (decB_1 hN hr)
    rw [e1, e2]
    have hr3 : ((r : Int) != 0) = true := by rw [bne_iff_ne]; omega
    clear hN0 hN1 hN hr e1 e2
    go_enter Tryz.func92, Tryz.ntmps92
    go_wp2_with fail
    refine HS.out.mono ?_
    rintro e w1 ⟨rfl, h1, k1⟩
    go_wp2
    go_ret2
    exact bdy_none h1 k1

end Go.Proofs.YtgifflfjhockaaaGreatDoor.C

namespace Go.Proofs.YtgifflfjhockaaaGreatDoor.F
open Go.RowKit W

/-- A function whose lists are owned: each lies in a block of P. -/
structure OwnF (W : World) (P : Nat → Prop) (v : FV) (f : Fu) : Prop where
  nm : v.S.data.toList = f.nm
  oa : Own W 3 1 P (.slice v.A v.na v.ca) v.na (ivs f.ar)
  ob : Own W 3 1 P (.slice v.B v.nb v.cb) v.nb (ivs f.rs)
  ol : Own W 3 1 P (.slice v.L v.nl v.cl) v.nl (ivs f.lc)
  od : Own W 63 3 P (.slice v.D v.nd v.cd) v.nd (C.iis f.bd)
  hI : C.AllI f.bd
theorem OwnF.keep {W W' : World} {P O : Nat → Prop} {v : FV} {f : Fu} (h : OwnF W P v f) (hk : Keep O W W') (hn : ∀ k, P k → ¬ O k) : OwnF W' P v f :=
  ⟨h.nm, h.oa.keep hk hn, h.ob.keep hk hn, h.ol.keep hk hn, h.od.keep hk hn, h.hI⟩
theorem OwnF.keepN {W W' : World} {P : Nat → Prop} {v : FV} {f : Fu} (h : OwnF W P v f) (hk : Keep NoB W W') : OwnF W' P v f := h.keep hk (fun _ _ => id)
theorem OwnF.mono {W : World} {P P' : Nat → Prop} {v : FV} {f : Fu} (h : OwnF W P v f) (hP : ∀ k, P k → k < W.heap.size → P' k) : OwnF W P' v f :=
  ⟨h.nm, h.oa.mono hP, h.ob.mono hP, h.ol.mono hP, h.od.mono hP, h.hI⟩
theorem own_rdS {w : World} {E size n : Nat} {P : Nat → Prop} {A : Option Addr} {c : Nat} {xs : List Value} (h : Own w E size P (.slice A n c) n xs) : Rd w A xs := by
  obtain ⟨A', c', e, _, _, hr, _⟩ := h.form
  injection e with e1 e2 e3
  subst e1; exact hr
theorem own_lenD {w : World} {O : Nat → Prop} {v : Value} {l : List C.I3} {n : Nat} (h : Own w 63 3 O v n (C.iis l)) : l.length = n := by have := h.1.1; rw [C.iis_length] at this; omega
theorem OwnF.fn {W : World} {P : Nat → Prop} {v : FV} {f : Fu} (h : OwnF W P v f) : FnAt W v f :=
  ⟨h.nm, own_rdS h.oa, own_rdS h.ob, own_rdS h.ol, own_rdS h.od, own_len h.oa, own_len h.ob, own_len h.ol, own_lenD h.od, h.hI⟩
/-- What has been read so far. -/
structure Prt (w0 : World) (F : Nat) (O : Nat → Prop) (At : World → Nat → Prop) (f : Fu) (q : Nat) (v : FV) (W : World) : Prop where
  blk : Blk W F 61 v.cells
  own : OwnF W (Fresh w0) v f
  at_ : At W q
  keep : Keep (fun k => k = F ∨ O k) w0 W
theorem Prt.put {w0 W w1 W' : World} {F q q' : Nat} {O : Nat → Prop} {At : World → Nat → Prop} {f f' : Fu} {v v' : FV} (h : Prt w0 F O At f q v W) (hF : F < w0.heap.size)
    (hAt : ∀ w w' q, At w q → Keep (fun k => k = F) w w' → At w' q) (k1 : Keep O W w1) (hv : OwnF w1 (Fresh w0) v' f') (hat : At w1 q') (k2 : Keep (fun k => k = F) w1 W') (hb : Blk W' F 61 v'.cells) : Prt w0 F O At f' q' v' W' :=
  ⟨hb, hv.keep k2 (fun k hk e => by subst e; unfold Fresh at hk; omega), hAt _ _ _ hat k2, (h.keep.trans k1 (fun k ho _ => .inr ho)).trans k2 (fun k e _ => .inl e)⟩

/-- The function so far, part by part. -/
def stN (l : List UInt8) (x : Fu × Nat) : Option (Fu × Nat) := (nmR l x.2).map fun a => ({ x.1 with nm := a.1 }, a.2)
def stG (l : List UInt8) (x : Fu × Nat) : Option (Fu × Nat) := (S.decG l x.2).map fun g => ({ x.1 with ar := g.1.1, rs := g.1.2 }, g.2)
def stL (l : List UInt8) (x : Fu × Nat) : Option (Fu × Nat) := (lcR l x.2).map fun c => ({ x.1 with lc := c.1 }, c.2)
def stB (l : List UInt8) (x : Fu × Nat) : Option (Fu × Nat) := (C.decB l x.2).map fun d => ({ x.1 with bd := d.1 }, d.2)
def st (l : List UInt8) (p : Nat) : Nat → Option (Fu × Nat)
  | 0 => some (nilF, p)
  | 1 => (some (nilF, p)).bind (stN l)
  | 2 => ((some (nilF, p)).bind (stN l)).bind (stG l)
  | 3 => (((some (nilF, p)).bind (stN l)).bind (stG l)).bind (stL l)
  | _ => ((((some (nilF, p)).bind (stN l)).bind (stG l)).bind (stL l)).bind (stB l)
theorem st_none {l : List UInt8} {p i : Nat} (hi : i < 4) (h : st l p (i + 1) = none) : st l p 4 = none := by
  have hi : i = 0 ∨ i = 1 ∨ i = 2 ∨ i = 3 := by omega
  rcases hi with rfl | rfl | rfl | rfl
  · show ((((some (nilF, p)).bind (stN l)).bind (stG l)).bind (stL l)).bind (stB l) = none
    rw [show (some (nilF, p)).bind (stN l) = none from h]; rfl
  · show ((((some (nilF, p)).bind (stN l)).bind (stG l)).bind (stL l)).bind (stB l) = none
    rw [show ((some (nilF, p)).bind (stN l)).bind (stG l) = none from h]; rfl
  · show ((((some (nilF, p)).bind (stN l)).bind (stG l)).bind (stL l)).bind (stB l) = none
    rw [show (((some (nilF, p)).bind (stN l)).bind (stG l)).bind (stL l) = none from h]; rfl
  · exact h
theorem decF_st (l : List UInt8) (p : Nat) : decF l p = (st l p 4).bind fun x => ifF x.1 x.2 := by
  show decF l p = (((((some (nilF, p)).bind (stN l)).bind (stG l)).bind (stL l)).bind (stB l)).bind fun x => ifF x.1 x.2
  simp only [Option.bind_some, stN]
  cases h1 : nmR l p with
  | none => rw [decF_1 h1]; rfl
  | some a =>
    simp only [Option.map_some, Option.bind_some, stG]
    cases h2 : S.decG l a.2 with
    | none => rw [decF_2 h1 h2]; rfl
    | some g =>
      simp only [Option.map_some, Option.bind_some, stL]
      cases h3 : lcR l g.2 with
      | none => rw [decF_3 h1 h2 h3]; rfl
      | some c =>
        simp only [Option.map_some, Option.bind_some, stB]
        cases h4 : C.decB l c.2 with
        | none => rw [decF_4 h1 h2 h3 h4]; rfl
        | some d => rw [decF_5 h1 h2 h3 h4]; rfl
theorem st_small {l : List UInt8} {p q : Nat} {f : Fu} (h : st l p 4 = some (f, q)) : f.nm.length ≤ 32 ∧ f.ar.length ≤ 64 ∧ f.rs.length ≤ 64 ∧ f.lc.length ≤ 64 ∧ f.bd.length ≤ 512 := by
  replace h : ((((some (nilF, p)).bind (stN l)).bind (stG l)).bind (stL l)).bind (stB l) = some (f, q) := h
  simp only [Option.bind_some, stN] at h
  cases h1 : nmR l p with
  | none => rw [h1] at h; cases h
  | some a =>
    rw [h1] at h
    simp only [Option.map_some, Option.bind_some, stG] at h
    cases h2 : S.decG l a.2 with
    | none => rw [h2] at h; cases h
    | some g =>
      rw [h2] at h
      simp only [Option.map_some, Option.bind_some, stL] at h
      cases h3 : lcR l g.2 with
      | none => rw [h3] at h; cases h
      | some c =>
        rw [h3] at h
        simp only [Option.map_some, Option.bind_some, stB] at h
        cases h4 : C.decB l c.2 with
        | none => rw [h4] at h; cases h
        | some d =>
          rw [h4] at h
          simp only [Option.map_some] at h
          injection h with h
          injection h with e1 e2
          subst e1
          obtain ⟨a, qa⟩ := a
          obtain ⟨⟨ga, gr⟩, qg⟩ := g
          obtain ⟨c, qc⟩ := c
          obtain ⟨d, qd⟩ := d
          obtain ⟨_, _, n1, _⟩ := nmR_ok h1
          have g1 := ((S.okG_iff _ _).1 (S.decG_ok h2).1).1
          have c1 := ((S.okG_iff _ _).1 (S.decG_ok (lcR_ok h3)).1).1
          have d1 := (C.okB_parts (C.decB_ok h4).1).2.1
          dsimp only
          rw [List.length_nil] at c1
          exact ⟨n1, by omega, by omega, by omega, d1⟩

/-- What DecodeSignature and code.Decode answer, in the readers' words. -/
def SgG (w : World) (At : World → Nat → Prop) (R : Option ((List Int × List Int) × Nat)) (A : Option Addr) (n c : Nat) (B : Option Addr) (m d : Nat) (E : Int) (w' : World) : Prop :=
  (R = none ∧ E ≠ 0 ∧ ∃ q, At w' q) ∨ (∃ a r q, R = some ((a, r), q) ∧ E = 0 ∧ Own w' 3 1 (Fresh w) (.slice A n c) n (ivs a) ∧ Own w' 3 1 (Fresh w) (.slice B m d) m (ivs r) ∧ At w' q)
theorem sgG_of {w w' : World} {br : Nat} {At : World → Nat → Prop} {R : Option ((List Int × List Int) × Nat)} {e : Ending} (h : S.SigR w br At R e w') :
    ∃ A n c B m d E, e = .returned (.tuple #[.agg #[.slice A n c, .slice B m d], .int .i64 E]) ∧ SgG w At R A n c B m d E w' ∧ Keep (fun k => k = br) w w' := by
  obtain ⟨v1, v2, q, rfl, h1, h2, h3, h4, hk⟩ := h
  obtain ⟨A1, c1, rfl, _⟩ := h1.form
  obtain ⟨A2, c2, rfl, _⟩ := h2.form
  cases R with
  | none => exact ⟨_, _, _, _, _, _, _, rfl, .inl ⟨rfl, (by decide : (61 : Int) ≠ 0), q, h3⟩, hk⟩
  | some x =>
    obtain ⟨⟨a, r⟩, y⟩ := x
    obtain rfl := h4 _ rfl
    exact ⟨_, _, _, _, _, _, _, rfl, .inr ⟨a, r, _, rfl, rfl, h1, h2, h3⟩, hk⟩
def BdG (w : World) (At : World → Nat → Prop) (R : Option (List C.I3 × Nat)) (A : Option Addr) (n c : Nat) (E : Int) (w' : World) : Prop :=
  (R = none ∧ E ≠ 0 ∧ ∃ q, At w' q) ∨ (∃ xs q, R = some (xs, q) ∧ E = 0 ∧ Own w' 63 3 (Fresh w) (.slice A n c) n (C.iis xs) ∧ C.AllI xs ∧ At w' q)
theorem bdG_of {w w' : World} {br : Nat} {At : World → Nat → Prop} {l : List UInt8} {p : Nat} {e : Ending} (h : C.BdyR w br At (C.decL l p) (C.decE l p) (C.decQ l p) e w') :
    ∃ A n c E, e = .returned (.tuple #[.slice A n c, .int .i64 E]) ∧ BdG w At (C.decB l p) A n c E w' ∧ Keep (fun k => k = br) w w' := by
  obtain ⟨v, q, rfl, h1, h3, h4, hk⟩ := h
  obtain ⟨A1, c1, rfl, _⟩ := h1.form
  cases hd : C.decB l p with
  | none => exact ⟨_, _, _, _, rfl, .inl ⟨rfl, by rw [(C.dec_no hd).2]; decide, q, h3⟩, hk⟩
  | some x =>
    obtain ⟨xs, y⟩ := x
    obtain ⟨e1, e2, e3⟩ := C.dec_yes hd
    obtain rfl : q = y := (h4 e2).trans e3
    rw [e1] at h1 ⊢
    exact ⟨_, _, _, _, rfl, .inr ⟨xs, _, rfl, e2, h1, fun y hy => C.ok1_I (List.all_eq_true.1 (C.all_ok1 (C.decB_ok hd).1) y hy), h3⟩, hk⟩

/-- Not all could be read. -/
def Bad (w0 : World) (F : Nat) (O : Nat → Prop) (At : World → Nat → Prop) (W : World) : Prop := (∃ q, At W q) ∧ Keep (fun k => k = F ∨ O k) w0 W
theorem ne0 {E : Int} (h : E ≠ 0) : (E == 0) = false := beq_eq_false_iff_ne.2 h
theorem keep_one (W : World) (F i : Nat) (u : Value) : Keep (fun k => k = F) W (W.setCell ⟨F, i, none⟩ u) := (Keep.refl (fun k => k = F) W).setCell (p := ⟨F, i, none⟩) (fun _ => rfl) u

set_option maxRecDepth 100000 in
set_option maxHeartbeats 4000000 in
theorem reading_any (w : World) (F br : Nat) (Ob : Nat → Prop) (l : List UInt8) (p : Nat) (v0 : FV) (hbr : Blk w F 61 v0.cells) (hv0 : OwnF w (Fresh w) v0 nilF) (hat : V.ReelAt w br Ob l p) (hO : ∀ k, Ob k → k < w.heap.size ∧ k ≠ F) (hlen : l.length ≤ 140737488355328)
    (g : Nat) (u0 u1 u2 u3 : Value) (hb : Blk w g 69 #[u0, u1, u2, u3])
    (a0 : RdV 176 195 196 (fnV 133) (some ⟨br, 0, none⟩) ⟨F, 0, none⟩ u0 w)
    (a1 : RdV 178 198 199 (fnV 135) (some ⟨br, 0, none⟩) ⟨F, 1, none⟩ u1 w)
    (a2 : RdV 181 201 202 (fnV 137) (some ⟨br, 0, none⟩) ⟨F, 3, none⟩ u2 w)
    (a3 : RdV 182 204 205 (fnV 139) (some ⟨br, 0, none⟩) ⟨F, 4, none⟩ u3 w) :
    Calls Tryz.prog 116 #[.slice (some ⟨g, 0, none⟩) 4 4] w fun e w' =>
      (e = .returned (.bool true) ∧ ∃ f q v, st l p 4 = some (f, q) ∧ Prt w F (fun k => k = br) (fun w' q => V.ReelAt w' br Ob l q) f q v w') ∨ (e = .returned (.bool false) ∧ st l p 4 = none ∧ Bad w F (fun k => k = br) (fun w' q => V.ReelAt w' br Ob l q) w') := by
  obtain ⟨c0, r0, q0, rfl, x0, y0, z0⟩ := a0
  obtain ⟨c1, r1, q1, rfl, x1, y1, z1⟩ := a1
  obtain ⟨c2, r2, q2, rfl, x2, y2, z2⟩ := a2
  obtain ⟨c3, r3, q3, rfl, x3, y3, z3⟩ := a3
  have hFl := hbr.lt
  have hOb := (hO br hat.1)
  obtain ⟨A0, C0, hrb, _⟩ := hat.cells
  have hAt : ∀ (w w' : World) (q : Nat), V.ReelAt w br Ob l q → Keep (fun k => k = F) w w' → V.ReelAt w' br Ob l q := fun w w' q h hk => h.keep hk (fun k h2 e => (hO k h2).2 e)
  have xF0 : c0 ≠ F := x0.ne hbr (by decide)
  have xR0 : c0 ≠ br := x0.ne hrb (by decide)
  have yF0 : r0 ≠ F := y0.ne hbr (by decide)
  have yR0 : r0 ≠ br := y0.ne hrb (by decide)
  have zF0 : q0 ≠ F := z0.ne hbr (by decide)
  have zR0 : q0 ≠ br := z0.ne hrb (by decide)
  have xF1 : c1 ≠ F := x1.ne hbr (by decide)
  have xR1 : c1 ≠ br := x1.ne hrb (by decide)
  have yF1 : r1 ≠ F := y1.ne hbr (by decide)
  have yR1 : r1 ≠ br := y1.ne hrb (by decide)
  have zF1 : q1 ≠ F := z1.ne hbr (by decide)
  have zR1 : q1 ≠ br := z1.ne hrb (by decide)
  have xF2 : c2 ≠ F := x2.ne hbr (by decide)
  have xR2 : c2 ≠ br := x2.ne hrb (by decide)
  have yF2 : r2 ≠ F := y2.ne hbr (by decide)
  have yR2 : r2 ≠ br := y2.ne hrb (by decide)
  have zF2 : q2 ≠ F := z2.ne hbr (by decide)
  have zR2 : q2 ≠ br := z2.ne hrb (by decide)
  have xF3 : c3 ≠ F := x3.ne hbr (by decide)
  have xR3 : c3 ≠ br := x3.ne hrb (by decide)
  have yF3 : r3 ≠ F := y3.ne hbr (by decide)
  have yR3 : r3 ≠ br := y3.ne hrb (by decide)
  have zF3 : q3 ≠ F := z3.ne hbr (by decide)
  have zR3 : q3 ≠ br := z3.ne hrb (by decide)
  have gF : g ≠ F := hb.ne hbr (by decide)
  have gR : g ≠ br := hb.ne hrb (by decide)
  have K0 : Prt w F (fun k => k = br) (fun w' q => V.ReelAt w' br Ob l q) nilF p v0 w := ⟨hbr, hv0, hat, Keep.refl _ _⟩
  refine (every_any (some ⟨g, 0, none⟩) [(176, #[.pointer (some ⟨c0, 0, none⟩), .pointer (some ⟨r0, 0, none⟩), .pointer (some ⟨q0, 0, none⟩)]), (178, #[.pointer (some ⟨c1, 0, none⟩), .pointer (some ⟨r1, 0, none⟩), .pointer (some ⟨q1, 0, none⟩)]), (181, #[.pointer (some ⟨c2, 0, none⟩), .pointer (some ⟨r2, 0, none⟩), .pointer (some ⟨q2, 0, none⟩)]), (182, #[.pointer (some ⟨c3, 0, none⟩), .pointer (some ⟨r3, 0, none⟩), .pointer (some ⟨q3, 0, none⟩)])] 4 4 w rfl (by decide) (fun i => (st l p (i + 1)).isSome)
    (fun i W => ∃ f q v, st l p i = some (f, q) ∧ Prt w F (fun k => k = br) (fun w' q => V.ReelAt w' br Ob l q) f q v W) (fun W => Bad w F (fun k => k = br) (fun w' q => V.ReelAt w' br Ob l q) W) ?hcf ?hr ?hq ⟨_, _, _, rfl, K0⟩).mono ?_
  case hcf =>
    intro q hq
    simp only [List.mem_cons, List.not_mem_nil, or_false] at hq
    rcases hq with rfl | rfl | rfl | rfl
    · exact enters_of Tryz.func176 (by kernel_rfl) rfl
    · exact enters_of Tryz.func178 (by kernel_rfl) rfl
    · exact enters_of Tryz.func181 (by kernel_rfl) rfl
    · exact enters_of Tryz.func182 (by kernel_rfl) rfl
  case hr =>
    rintro i W ⟨f, q, v, _, hP⟩ _
    refine ⟨g, 0, rfl, fun j u hu => ?_⟩
    rw [Nat.zero_add, (hb.keep hP.keep (fun e => e.elim gF gR)).cell j]
    simpa using hu
  case hq =>
    rintro i hi W ⟨f, q, v, hst, hP⟩
    have hOW : ∀ k, Ob k → k < W.heap.size := fun k hk => Nat.lt_of_lt_of_le (hO k hk).1 hP.keep.size
    have hfr : ∀ (w1 : World), Keep (fun k => k = br) W w1 → OwnF w1 (Fresh w) v f := fun w1 k1 => hP.own.keep k1 (fun k hk e => by unfold Fresh at hk; have := hOb.1; omega)
    have hfw : ∀ k, Fresh W k → Fresh w k := fun k hk => Nat.le_trans hP.keep.size hk
    have hi : i = 0 ∨ i = 1 ∨ i = 2 ∨ i = 3 := by simp at hi; omega
    rcases hi with rfl | rfl | rfl | rfl
    · have hst1 : st l p 1 = stN l (f, q) := by
        show (st l p 0).bind (stN l) = _
        rw [hst]; rfl
      refine (readStr_any 133 (enters_of Tryz.func133 (by kernel_rfl) rfl) (fun k => k = br) (some ⟨br, 0, none⟩) c0 r0 q0 F v W (x0.keep hP.keep (fun e => e.elim xF0 xR0)) (y0.keep hP.keep (fun e => e.elim yF0 yR0)) (z0.keep hP.keep (fun e => e.elim zF0 zR0)) hP.blk zR0 (fun e => hOb.2 e.symm)
        (NmG (fun w' q => V.ReelAt w' br Ob l q) (nmR l q)) (decName_any W br Ob l q hP.at_ hlen)).mono ?_
      rintro e W' ⟨x, E, w1, rfl, hG, k1, rfl⟩
      have hw1 := hfr w1 k1
      have hbk := hP.blk.keep k1 (fun e => hOb.2 e.symm)
      have k2 := keep_one w1 F 0 (.string x)
      have hb2 := hbk.put 0 (.string x)
      rcases hG with ⟨hn, hE, q1, h1⟩ | ⟨s, q1, hs, rfl, hS, h1⟩
      · have hs1 : st l p 1 = none := by rw [hst1]; unfold stN; dsimp only; rw [hn]; rfl
        refine ⟨by rw [ne0 hE, show (st l p (0 + 1)).isSome = false by rw [show 0 + 1 = 1 from rfl, hs1]; rfl], fun h => ?_, fun _ => ?_⟩
        · rw [show (st l p (0 + 1)).isSome = false by rw [show 0 + 1 = 1 from rfl, hs1]; rfl] at h; cases h
        · exact ⟨⟨q1, hAt _ _ _ h1 k2⟩, (hP.keep.trans k1 (fun k ho _ => .inr ho)).trans k2 (fun k e _ => .inl e)⟩
      · have hs1 : st l p 1 = some ({ f with nm := s }, q1) := by rw [hst1]; unfold stN; dsimp only; rw [hs]; rfl
        refine ⟨by rw [show (st l p (0 + 1)).isSome = true by rw [show 0 + 1 = 1 from rfl, hs1]; rfl]; rfl, fun _ => ?_, fun h => ?_⟩
        · exact ⟨_, _, { v with S := x }, hs1, hP.put hFl hAt k1 (v' := { v with S := x }) (f' := { f with nm := s }) ⟨hS, hw1.oa, hw1.ob, hw1.ol, hw1.od, hw1.hI⟩ h1 k2 (by simpa [FV.cells] using hb2)⟩
        · rw [show (st l p (0 + 1)).isSome = true by rw [show 0 + 1 = 1 from rfl, hs1]; rfl] at h; cases h
    · have hst1 : st l p 2 = stG l (f, q) := by
        show (st l p 1).bind (stG l) = _
        rw [hst]; rfl
      refine (readSig_any 135 (enters_of Tryz.func135 (by kernel_rfl) rfl) (fun k => k = br) (some ⟨br, 0, none⟩) c1 r1 q1 F v W (x1.keep hP.keep (fun e => e.elim xF1 xR1)) (y1.keep hP.keep (fun e => e.elim yF1 yR1)) (z1.keep hP.keep (fun e => e.elim zF1 zR1)) hP.blk zR1 (fun e => hOb.2 e.symm)
        (SgG W (fun w' q => V.ReelAt w' br Ob l q) (S.decG l q)) ((S.decodeG_any W br Ob l q hOW hP.at_ hlen).mono fun e w1 h => sgG_of h)).mono ?_
      rintro e W' ⟨A, n, c, B, m, d, E, w1, rfl, hG, k1, rfl⟩
      have hw1 := hfr w1 k1
      have hbk := hP.blk.keep k1 (fun e => hOb.2 e.symm)
      have ka : Keep NoB w1 (w1.alloc (.cells #[.slice A n c, .slice B m d] 57)) := (Keep.refl NoB w1).alloc _
      have k2 := (keep_one (w1.alloc (.cells #[.slice A n c, .slice B m d] 57)) F 1 (.slice A n c)).trans (keep_one _ F 2 (.slice B m d)) (fun _ h _ => h)
      have hb2 := ((hbk.alloc (.cells #[.slice A n c, .slice B m d] 57)).put 1 (.slice A n c)).put 2 (.slice B m d)
      rcases hG with ⟨hn, hE, q1, h1⟩ | ⟨a, r, q1, hs, rfl, hA, hB, h1⟩
      · have hs1 : st l p 2 = none := by rw [hst1]; unfold stG; dsimp only; rw [hn]; rfl
        refine ⟨by rw [ne0 hE, show (st l p (1 + 1)).isSome = false by rw [show 1 + 1 = 2 from rfl, hs1]; rfl], fun h => ?_, fun _ => ?_⟩
        · rw [show (st l p (1 + 1)).isSome = false by rw [show 1 + 1 = 2 from rfl, hs1]; rfl] at h; cases h
        · exact ⟨⟨q1, hAt _ _ _ (h1.keep ka (fun _ _ => id)) k2⟩, (hP.keep.trans (k1.trans ka (fun _ hf _ => hf.elim)) (fun k ho _ => .inr ho)).trans k2 (fun k e _ => .inl e)⟩
      · have hs1 : st l p 2 = some ({ f with ar := a, rs := r }, q1) := by rw [hst1]; unfold stG; dsimp only; rw [hs]; rfl
        refine ⟨by rw [show (st l p (1 + 1)).isSome = true by rw [show 1 + 1 = 2 from rfl, hs1]; rfl]; rfl, fun _ => ?_, fun h => ?_⟩
        · exact ⟨_, _, { v with A := A, na := n, ca := c, B := B, nb := m, cb := d }, hs1, hP.put hFl hAt (k1.trans ka (fun _ hf _ => hf.elim)) (v' := { v with A := A, na := n, ca := c, B := B, nb := m, cb := d }) (f' := { f with ar := a, rs := r }) (OwnF.keepN (v := { v with A := A, na := n, ca := c, B := B, nb := m, cb := d }) (f := { f with ar := a, rs := r }) ⟨hw1.nm, hA.mono (fun k hk _ => hfw k hk), hB.mono (fun k hk _ => hfw k hk), hw1.ol, hw1.od, hw1.hI⟩ ka) (h1.keep ka (fun _ _ => id)) k2 (by simpa [FV.cells] using hb2)⟩
        · rw [show (st l p (1 + 1)).isSome = true by rw [show 1 + 1 = 2 from rfl, hs1]; rfl] at h; cases h
    · have hst1 : st l p 3 = stL l (f, q) := by
        show (st l p 2).bind (stL l) = _
        rw [hst]; rfl
      refine (readLoc_any 137 (enters_of Tryz.func137 (by kernel_rfl) rfl) (fun k => k = br) (some ⟨br, 0, none⟩) c2 r2 q2 F v W (x2.keep hP.keep (fun e => e.elim xF2 xR2)) (y2.keep hP.keep (fun e => e.elim yF2 yR2)) (z2.keep hP.keep (fun e => e.elim zF2 zR2)) hP.blk zR2 (fun e => hOb.2 e.symm)
        (LcG W (fun w' q => V.ReelAt w' br Ob l q) (lcR l q)) (decLoc_any W br Ob l q hOW hP.at_ hlen)).mono ?_
      rintro e W' ⟨A, n, c, E, w1, rfl, hG, k1, rfl⟩
      have hw1 := hfr w1 k1
      have hbk := hP.blk.keep k1 (fun e => hOb.2 e.symm)
      have k2 := keep_one w1 F 3 (.slice A n c)
      have hb2 := hbk.put 3 (.slice A n c)
      rcases hG with ⟨hn, hE, q1, h1⟩ | ⟨a, q1, hs, rfl, hA, _, h1⟩
      · have hs1 : st l p 3 = none := by rw [hst1]; unfold stL; dsimp only; rw [hn]; rfl
        refine ⟨by rw [ne0 hE, show (st l p (2 + 1)).isSome = false by rw [show 2 + 1 = 3 from rfl, hs1]; rfl], fun h => ?_, fun _ => ?_⟩
        · rw [show (st l p (2 + 1)).isSome = false by rw [show 2 + 1 = 3 from rfl, hs1]; rfl] at h; cases h
        · exact ⟨⟨q1, hAt _ _ _ h1 k2⟩, (hP.keep.trans k1 (fun k ho _ => .inr ho)).trans k2 (fun k e _ => .inl e)⟩
      · have hs1 : st l p 3 = some ({ f with lc := a }, q1) := by rw [hst1]; unfold stL; dsimp only; rw [hs]; rfl
        refine ⟨by rw [show (st l p (2 + 1)).isSome = true by rw [show 2 + 1 = 3 from rfl, hs1]; rfl]; rfl, fun _ => ?_, fun h => ?_⟩
        · exact ⟨_, _, { v with L := A, nl := n, cl := c }, hs1, hP.put hFl hAt k1 (v' := { v with L := A, nl := n, cl := c }) (f' := { f with lc := a }) ⟨hw1.nm, hw1.oa, hw1.ob, hA.mono (fun k hk _ => hfw k hk), hw1.od, hw1.hI⟩ h1 k2 (by simpa [FV.cells] using hb2)⟩
        · rw [show (st l p (2 + 1)).isSome = true by rw [show 2 + 1 = 3 from rfl, hs1]; rfl] at h; cases h
    · have hst1 : st l p 4 = stB l (f, q) := by
        show (st l p 3).bind (stB l) = _
        rw [hst]; rfl
      refine (readBod_any 139 (enters_of Tryz.func139 (by kernel_rfl) rfl) (fun k => k = br) (some ⟨br, 0, none⟩) c3 r3 q3 F v W (x3.keep hP.keep (fun e => e.elim xF3 xR3)) (y3.keep hP.keep (fun e => e.elim yF3 yR3)) (z3.keep hP.keep (fun e => e.elim zF3 zR3)) hP.blk zR3 (fun e => hOb.2 e.symm)
        (BdG W (fun w' q => V.ReelAt w' br Ob l q) (C.decB l q)) ((C.cdecode_any W br Ob l q hOW hP.at_ hlen).mono fun e w1 h => bdG_of h)).mono ?_
      rintro e W' ⟨A, n, c, E, w1, rfl, hG, k1, rfl⟩
      have hw1 := hfr w1 k1
      have hbk := hP.blk.keep k1 (fun e => hOb.2 e.symm)
      have k2 := keep_one w1 F 4 (.slice A n c)
      have hb2 := hbk.put 4 (.slice A n c)
      rcases hG with ⟨hn, hE, q1, h1⟩ | ⟨xs, q1, hs, rfl, hA, hI, h1⟩
      · have hs1 : st l p 4 = none := by rw [hst1]; unfold stB; dsimp only; rw [hn]; rfl
        refine ⟨by rw [ne0 hE, show (st l p (3 + 1)).isSome = false by rw [show 3 + 1 = 4 from rfl, hs1]; rfl], fun h => ?_, fun _ => ?_⟩
        · rw [show (st l p (3 + 1)).isSome = false by rw [show 3 + 1 = 4 from rfl, hs1]; rfl] at h; cases h
        · exact ⟨⟨q1, hAt _ _ _ h1 k2⟩, (hP.keep.trans k1 (fun k ho _ => .inr ho)).trans k2 (fun k e _ => .inl e)⟩
      · have hs1 : st l p 4 = some ({ f with bd := xs }, q1) := by rw [hst1]; unfold stB; dsimp only; rw [hs]; rfl
        refine ⟨by rw [show (st l p (3 + 1)).isSome = true by rw [show 3 + 1 = 4 from rfl, hs1]; rfl]; rfl, fun _ => ?_, fun h => ?_⟩
        · exact ⟨_, _, { v with D := A, nd := n, cd := c }, hs1, hP.put hFl hAt k1 (v' := { v with D := A, nd := n, cd := c }) (f' := { f with bd := xs }) ⟨hw1.nm, hw1.oa, hw1.ob, hw1.ol, hA.mono (fun k hk _ => hfw k hk), hI⟩ h1 k2 (by simpa [FV.cells] using hb2)⟩
        · rw [show (st l p (3 + 1)).isSome = true by rw [show 3 + 1 = 4 from rfl, hs1]; rfl] at h; cases h
  rintro e w' (⟨rfl, hall, f, q, v, hs, hP⟩ | ⟨rfl, ⟨i, hi, hn⟩, hB⟩)
  · exact .inl ⟨rfl, f, q, v, hs, hP⟩
  · refine .inr ⟨rfl, st_none hi ?_, hB⟩
    cases h : st l p (i + 1) with
    | none => rfl
    | some x => rw [h] at hn; cases hn

end Go.Proofs.YtgifflfjhockaaaGreatDoor.F

namespace Go.Proofs.YtgifflfjhockaaaGreatDoor.F
open Go.RowKit W

def nilV : FV := ⟨⟨#[]⟩, none, 0, 0, none, 0, 0, none, 0, 0, none, 0, 0⟩
theorem nilV_own (W : World) (P : Nat → Prop) : OwnF W P nilV nilF := ⟨rfl, Own.nil _ _ _ _, Own.nil _ _ _ _, Own.nil _ _ _ _, Own.nil _ _ _ _, fun x hx => by cases hx⟩
/-- How Decode ends. -/
def FunR (w : World) (O : Nat → Prop) (At : World → Nat → Prop) (R : Option (Fu × Nat)) (e : Ending) (w' : World) : Prop :=
  (R = none ∧ e = .returned (.tuple #[nilV.val, .int .i64 70]) ∧ (∃ q, At w' q) ∧ Keep O w w') ∨ (∃ f q v, R = some (f, q) ∧ e = .returned (.tuple #[v.val, .int .i64 0]) ∧ OwnF w' (Fresh w) v f ∧ At w' q ∧ Keep O w w')
def put5 (W : World) (g : Nat) (v : FV) : World :=
  let W1 := W.setCell ⟨g, 0, none⟩ (.string v.S)
  let W2 := W1.setCell ⟨g, 1, none⟩ (.slice v.A v.na v.ca)
  let W3 := W2.setCell ⟨g, 2, none⟩ (.slice v.B v.nb v.cb)
  let W4 := W3.setCell ⟨g, 3, none⟩ (.slice v.L v.nl v.cl)
  W4.setCell ⟨g, 4, none⟩ (.slice v.D v.nd v.cd)
theorem blk_put5 {W : World} {g : Nat} {a b c d e : Value} (h : Blk W g 61 #[a, b, c, d, e]) (v : FV) : Blk (put5 W g v) g 61 v.cells := by
  have h0 := h.put 0 (.string v.S)
  have h1 := h0.put 1 (.slice v.A v.na v.ca)
  have h2 := h1.put 2 (.slice v.B v.nb v.cb)
  have h3 := h2.put 3 (.slice v.L v.nl v.cl)
  have h4 := h3.put 4 (.slice v.D v.nd v.cd)
  clear h h0 h1 h2 h3
  simp only [List.setIfInBounds_toArray, List.set_cons_zero, List.set_cons_succ] at h4
  exact h4
theorem keep_at5 (W : World) (g : Nat) (v : FV) : Keep (fun k => k = g) W (put5 W g v) := by
  have h0 := keep_one W g 0 (.string v.S)
  have h1 := h0.trans (keep_one _ g 1 (.slice v.A v.na v.ca)) (fun _ h _ => h)
  have h2 := h1.trans (keep_one _ g 2 (.slice v.B v.nb v.cb)) (fun _ h _ => h)
  have h3 := h2.trans (keep_one _ g 3 (.slice v.L v.nl v.cl)) (fun _ h _ => h)
  exact h3.trans (keep_one _ g 4 (.slice v.D v.nd v.cd)) (fun _ h _ => h)
theorem ret_funE {fn : Func} {tmps : Array Value} {w : World} {g : Nat} {v : FV} {e : Value} (h : fn.results = #[.cell 2 61, .tmp 3]) (hp : tmps.getD 2 undef = .pointer (some ⟨g, 0, none⟩)) (hb : Blk w g 61 v.cells) (he : tmps.getD 3 undef = e) :
    (results fn tmps).run Tryz.prog w = .ok (.tuple #[v.val, e]) w := by
  rw [results_cell_tmp h, hp, he]
  simp only [asAddr, Sem.run_pure, Result.andThen_ok]
  rw [run_loadVar_row w g 61 61 v.cells (0, 0) _ hb Tryz.underlying61 rfl fun_size]
  rfl
theorem smF_of {l : List UInt8} {p q : Nat} {f : Fu} {v : FV} {W : World} {P : Nat → Prop} (h : st l p 4 = some (f, q)) (ho : OwnF W P v f) : SmF v := by
  obtain ⟨h1, h2, h3, h4, h5⟩ := st_small h
  have hf := ho.fn
  have e0 := sz_len hf.nm
  have e1 := hf.la
  have e2 := hf.lb
  have e3 := hf.ll
  have e4 := hf.ld
  exact ⟨by omega, by omega, by omega, by omega, by omega⟩

set_option maxRecDepth 100000 in
set_option maxHeartbeats 8000000 in
theorem decodeF_any (w : World) (br : Nat) (Ob : Nat → Prop) (l : List UInt8) (p : Nat) (hO : ∀ k, Ob k → k < w.heap.size) (h : V.ReelAt w br Ob l p) (hlen : l.length ≤ 140737488355328) :
    Calls Tryz.prog 78 #[.pointer (some ⟨br, 0, none⟩)] w (FunR w (fun k => k = br) (fun w' q => V.ReelAt w' br Ob l q) (decF l p)) := by
  have hbr := S.reel_lt h
  have hD := decF_st l p
  have bz := (Blk.new w 61 nilV.cells).alloc (.cells nilV.cells 61)
  have bf := Blk.new (w.alloc (.cells nilV.cells 61)) 61 nilV.cells
  have k0 := ((Keep.refl NoB w).alloc (.cells nilV.cells 61)).alloc (.cells nilV.cells 61)
  rw [World.size_alloc] at bf
  unfold nilV FV.cells at bz bf k0
  generalize hw0 : (w.alloc (.cells #[.string ⟨#[]⟩, .slice none 0 0, .slice none 0 0, .slice none 0 0, .slice none 0 0] 61)).alloc (.cells #[.string ⟨#[]⟩, .slice none 0 0, .slice none 0 0, .slice none 0 0, .slice none 0 0] 61) = w0 at bz bf k0
  have hsz : w0.heap.size = w.heap.size + 2 := by rw [← hw0]; simp
  have HZ := Lib.hid bz
  have HF := Lib.hid bf
  have HK := Lib.hid k0
  have HR := Lib.hid (h.keep k0 (fun _ _ => id))
  have HOb := Lib.hid hO
  have HD := Lib.hid hD
  clear bz bf k0 h hO hD
  go_enter Tryz.func78, Tryz.ntmps78
  go_wp2_with fail
  clear hw0
  refine (readsStr_any 133 (w.heap.size + 1) 0 (some ⟨br, 0, none⟩) w0).mono ?_
  rintro e w1 ⟨u0, rfl, ⟨c0, r0, q0, rfl, x0, y0, z0⟩, k1⟩
  have gK := keepN HK.out k1
  have gs := k1.size
  have A0 : Hid (RdV 176 195 196 (fnV 133) (some ⟨br, 0, none⟩) ⟨w.heap.size + 1, 0, none⟩ (askV 176 #[.pointer (some ⟨c0, 0, none⟩), .pointer (some ⟨r0, 0, none⟩), .pointer (some ⟨q0, 0, none⟩)]) w1) := ⟨c0, r0, q0, rfl, x0, y0, z0⟩
  replace HZ := Lib.hid (HZ.out.keep k1 id)
  replace HF := Lib.hid (HF.out.keep k1 id)
  replace HR := Lib.hid (HR.out.keep k1 (fun _ _ => id))
  clear x0 y0 z0 k1 HK
  unfold askV
  go_wp2_with fail
  refine (readsSig_any 135 (w.heap.size + 1) 1 (some ⟨br, 0, none⟩) w1).mono ?_
  rintro e w2 ⟨u1, rfl, ⟨c1, r1, q1, rfl, x1, y1, z1⟩, k1⟩
  replace gK := keepN gK k1
  replace gs := Nat.le_trans gs k1.size
  replace A0 := Lib.hid (RdV.keep A0.out k1)
  have A1 : Hid (RdV 178 198 199 (fnV 135) (some ⟨br, 0, none⟩) ⟨w.heap.size + 1, 1, none⟩ (askV 178 #[.pointer (some ⟨c1, 0, none⟩), .pointer (some ⟨r1, 0, none⟩), .pointer (some ⟨q1, 0, none⟩)]) w2) := ⟨c1, r1, q1, rfl, x1, y1, z1⟩
  replace HZ := Lib.hid (HZ.out.keep k1 id)
  replace HF := Lib.hid (HF.out.keep k1 id)
  replace HR := Lib.hid (HR.out.keep k1 (fun _ _ => id))
  clear x1 y1 z1 k1
  unfold askV
  go_wp2_with fail
  refine (readsLoc_any 137 (w.heap.size + 1) 3 (some ⟨br, 0, none⟩) w2).mono ?_
  rintro e w3 ⟨u2, rfl, ⟨c2, r2, q2, rfl, x2, y2, z2⟩, k1⟩
  replace gK := keepN gK k1
  replace gs := Nat.le_trans gs k1.size
  replace A0 := Lib.hid (RdV.keep A0.out k1)
  replace A1 := Lib.hid (RdV.keep A1.out k1)
  have A2 : Hid (RdV 181 201 202 (fnV 137) (some ⟨br, 0, none⟩) ⟨w.heap.size + 1, 3, none⟩ (askV 181 #[.pointer (some ⟨c2, 0, none⟩), .pointer (some ⟨r2, 0, none⟩), .pointer (some ⟨q2, 0, none⟩)]) w3) := ⟨c2, r2, q2, rfl, x2, y2, z2⟩
  replace HZ := Lib.hid (HZ.out.keep k1 id)
  replace HF := Lib.hid (HF.out.keep k1 id)
  replace HR := Lib.hid (HR.out.keep k1 (fun _ _ => id))
  clear x2 y2 z2 k1
  unfold askV
  go_wp2_with fail
  refine (readsBod_any 139 (w.heap.size + 1) 4 (some ⟨br, 0, none⟩) w3).mono ?_
  rintro e w4 ⟨u3, rfl, ⟨c3, r3, q3, rfl, x3, y3, z3⟩, k1⟩
  replace gK := keepN gK k1
  replace gs := Nat.le_trans gs k1.size
  have kb := (Keep.refl NoB w4).alloc (.cells #[askV 176 #[.pointer (some ⟨c0, 0, none⟩), .pointer (some ⟨r0, 0, none⟩), .pointer (some ⟨q0, 0, none⟩)], askV 178 #[.pointer (some ⟨c1, 0, none⟩), .pointer (some ⟨r1, 0, none⟩), .pointer (some ⟨q1, 0, none⟩)], askV 181 #[.pointer (some ⟨c2, 0, none⟩), .pointer (some ⟨r2, 0, none⟩), .pointer (some ⟨q2, 0, none⟩)], askV 182 #[.pointer (some ⟨c3, 0, none⟩), .pointer (some ⟨r3, 0, none⟩), .pointer (some ⟨q3, 0, none⟩)]] 69)
  have bb := Blk.new w4 69 #[askV 176 #[.pointer (some ⟨c0, 0, none⟩), .pointer (some ⟨r0, 0, none⟩), .pointer (some ⟨q0, 0, none⟩)], askV 178 #[.pointer (some ⟨c1, 0, none⟩), .pointer (some ⟨r1, 0, none⟩), .pointer (some ⟨q1, 0, none⟩)], askV 181 #[.pointer (some ⟨c2, 0, none⟩), .pointer (some ⟨r2, 0, none⟩), .pointer (some ⟨q2, 0, none⟩)], askV 182 #[.pointer (some ⟨c3, 0, none⟩), .pointer (some ⟨r3, 0, none⟩), .pointer (some ⟨q3, 0, none⟩)]]
  have A3 : RdV 182 204 205 (fnV 139) (some ⟨br, 0, none⟩) ⟨w.heap.size + 1, 4, none⟩ (askV 182 #[.pointer (some ⟨c3, 0, none⟩), .pointer (some ⟨r3, 0, none⟩), .pointer (some ⟨q3, 0, none⟩)]) w4 := ⟨c3, r3, q3, rfl, x3, y3, z3⟩
  have kc := k1.trans kb (fun _ h _ => h)
  have HE := Lib.hid (reading_any _ (w.heap.size + 1) br Ob l p nilV (HF.out.keep kc id) (nilV_own _ _) (HR.out.keep kc (fun _ _ => id)) (fun k hk => ⟨by have := HOb.out k hk; have := kb.size; omega, by have := HOb.out k hk; omega⟩) hlen w4.heap.size _ _ _ _ bb (RdV.keep A0.out kc) (RdV.keep A1.out kc) (RdV.keep A2.out kc) (RdV.keep A3 kb))
  replace HZ := Lib.hid (HZ.out.keep kc id)
  replace gK := Lib.hid (keepN gK kb)
  replace gs := Nat.le_trans gs kb.size
  clear x3 y3 z3 k1 kb kc bb A0 A1 A2 A3 HF HR
  unfold askV at *
  go_wp2_with fail
  refine HE.out.mono ?_
  rintro e w5 (⟨rfl, f, q, v, hst, hP⟩ | ⟨rfl, hst, ⟨q, hq⟩, hB⟩)
  · rw [hst] at HD
    have hsm := smF_of hst hP.own
    have HC := Lib.hid (check_any v f w5 hP.own.fn hsm _ rfl)
    have kk := (gK.out.mono (O' := fun k => k = br) (fun _ hf _ => hf.elim)).trans hP.keep (fun k e hk => e.elim (fun e => by omega) id)
    have bz5 := HZ.out.keep hP.keep (fun e => e.elim (fun e => by omega) (fun e => by omega))
    have hO5 := hP.own.mono (P' := fun k => w.heap.size < k) (fun k hk _ => by unfold Fresh at hk; have := gs; omega)
    have hat5 := hP.at_
    have hF5 := hP.blk
    have hpl : ∀ (k : Nat), Ob k → ¬ k = w.heap.size := fun k hk e => by have := HOb.out k hk; omega
    obtain ⟨d0, d1, d2, d3, d4⟩ := blk5 hF5
    have HX := Lib.hid (And.intro kk (And.intro bz5 (And.intro hO5 (And.intro hat5 hF5))))
    have HPL := Lib.hid hpl
    clear HE hst hP hsm kk bz5 hO5 hat5 hF5 gK HZ HOb gs hsz hbr hpl
    obtain ⟨S, A, na, ca, B, nb, cb, L, nl, cl, D, nd, cd⟩ := v
    unfold FV.val FV.cells at *
    dsimp only at *
    cases ho : okF f
    · rw [chkF_no ho] at HC
      have HM : Hid (decF l p = none) := HD.out.trans (ifF_no ho)
      clear HD ho
      go_wp2_with fail
      refine HC.out.mono ?_
      rintro e w6 ⟨rfl, k6⟩
      obtain ⟨kk, bz5, hO5, hat5, hF5⟩ := HX.out
      have bz6 := bz5.keep k6 id
      have kk6 := kk.trans k6 (fun _ h _ => h.elim)
      have hat6 := hat5.keep k6 (fun _ _ => id)
      obtain ⟨z0, z1, z2, z3, z4⟩ := blk5 (v := nilV) bz6
      have fz := fun i => bz6.frozen i
      have HB := Lib.hid (blk_put5 bz6 nilV)
      have HK6 := Lib.hid (kk6.trans (keep_at5 w6 w.heap.size nilV) (fun k e hk => by omega))
      have HA6 := Lib.hid (hat6.keep (keep_at5 w6 w.heap.size nilV) HPL.out)
      unfold nilV at z0 z1 z2 z3 z4
      dsimp only at z0 z1 z2 z3 z4
      clear kk bz5 hO5 hat5 hF5 bz6 kk6 hat6 k6 HX HC d0 d1 d2 d3 d4 HPL
      go_wp2
      refine bodyPost_ret (ret_funE (v := nilV) rfl rfl HB.out rfl) rfl ?_
      exact .inl ⟨HM.out, rfl, ⟨_, HA6.out⟩, HK6.out⟩
    · rw [chkF_ok ho] at HC
      have HM : Hid (decF l p = some (f, q)) := HD.out.trans (ifF_ok ho)
      clear HD ho
      go_wp2_with fail
      refine HC.out.mono ?_
      rintro e w6 ⟨rfl, k6⟩
      obtain ⟨kk, bz5, hO5, hat5, hF5⟩ := HX.out
      have bz6 := bz5.keep k6 id
      have hF6 := hF5.keep k6 id
      have kk6 := kk.trans k6 (fun _ h _ => h.elim)
      have hat6 := hat5.keep k6 (fun _ _ => id)
      have hO6 := hO5.keepN k6
      clear d0 d1 d2 d3 d4
      obtain ⟨z0, z1, z2, z3, z4⟩ := blk5 (v := nilV) bz6
      obtain ⟨d0, d1, d2, d3, d4⟩ := blk5 (v := ⟨S, A, na, ca, B, nb, cb, L, nl, cl, D, nd, cd⟩) hF6
      have fz := fun i => bz6.frozen i
      have HB := Lib.hid (blk_put5 bz6 ⟨S, A, na, ca, B, nb, cb, L, nl, cl, D, nd, cd⟩)
      have HK6 := Lib.hid (kk6.trans (keep_at5 w6 w.heap.size ⟨S, A, na, ca, B, nb, cb, L, nl, cl, D, nd, cd⟩) (fun k e hk => by omega))
      have HA6 := Lib.hid (hat6.keep (keep_at5 w6 w.heap.size ⟨S, A, na, ca, B, nb, cb, L, nl, cl, D, nd, cd⟩) HPL.out)
      have HO6 : Hid (OwnF (put5 w6 w.heap.size ⟨S, A, na, ca, B, nb, cb, L, nl, cl, D, nd, cd⟩) (Fresh w) ⟨S, A, na, ca, B, nb, cb, L, nl, cl, D, nd, cd⟩ f) := (hO6.keep (keep_at5 w6 w.heap.size ⟨S, A, na, ca, B, nb, cb, L, nl, cl, D, nd, cd⟩) (fun k hk e => by omega)).mono (fun k hk _ => by unfold Fresh; omega)
      unfold nilV at z0 z1 z2 z3 z4
      dsimp only at z0 z1 z2 z3 z4 d0 d1 d2 d3 d4
      clear kk bz5 hO5 hat5 hF5 bz6 kk6 hat6 k6 HX HC HPL hO6 hF6
      go_wp2
      refine bodyPost_ret (ret_funE (v := ⟨S, A, na, ca, B, nb, cb, L, nl, cl, D, nd, cd⟩) rfl rfl HB.out rfl) rfl ?_
      exact .inr ⟨f, q, _, HM.out, rfl, HO6.out, HA6.out, HK6.out⟩
  · rw [hst] at HD
    have kk := (gK.out.mono (O' := fun k => k = br) (fun _ hf _ => hf.elim)).trans hB (fun k e hk => e.elim (fun e => by omega) id)
    have bz6 := HZ.out.keep hB (fun e => e.elim (fun e => by omega) (fun e => by omega))
    have HM : Hid (decF l p = none) := HD.out
    obtain ⟨z0, z1, z2, z3, z4⟩ := blk5 (v := nilV) bz6
    have fz := fun i => bz6.frozen i
    have HB := Lib.hid (blk_put5 bz6 nilV)
    have HK6 := Lib.hid (kk.trans (keep_at5 w5 w.heap.size nilV) (fun k e hk => by omega))
    have HA6 := Lib.hid (hq.keep (keep_at5 w5 w.heap.size nilV) (fun k hk e => by have := HOb.out k hk; omega))
    unfold nilV at z0 z1 z2 z3 z4
    dsimp only at z0 z1 z2 z3 z4
    clear kk bz6 HD HE hst hq hB gK HZ HOb gs hsz hbr
    go_wp2
    refine bodyPost_ret (ret_funE (v := nilV) rfl rfl HB.out rfl) rfl ?_
    exact .inl ⟨HM.out, rfl, ⟨_, HA6.out⟩, HK6.out⟩

end Go.Proofs.YtgifflfjhockaaaGreatDoor.F

namespace Go.Proofs.YtgifflfjhockaaaGreatDoor.V
open Go.ChangeShapes Go.WideShapes Go.ChangeAt Go.RowKit

theorem cellsU8 : Tryz.prog.cellsOf 5 = 1 := by kernel_rfl

theorem u8_bounds {n : Int} (h : (Lit.int .u8 n).wf = true) : 0 ≤ n ∧ n < 256 := by
  have hmin : IntKind.u8.min = 0 := rfl
  have hmax : IntKind.u8.max = 255 := rfl
  simp only [Lit.wf, Bool.and_eq_true, decide_eq_true_eq] at h
  omega

/-- The bytes of a list of numbers that fit bytes. -/
def toU8 (zs : List Int) : List UInt8 := zs.map fun z => UInt8.ofNat z.toNat
theorem bvs_toU8 (zs : List Int) (h : ∀ n ∈ zs, (Lit.int .u8 n).wf = true) : bvs (toU8 zs) = zs.map (Value.int .u8) := by
  unfold bvs toU8
  rw [List.map_map]
  apply List.map_congr_left
  intro z hz
  obtain ⟨h0, h1⟩ := u8_bounds (h z hz)
  show Value.int .u8 (((UInt8.ofNat z.toNat).toNat : Nat) : Int) = _
  rw [UInt8.toNat_ofNat', Nat.mod_eq_of_lt (show z.toNat < 2 ^ 8 by omega)]
  congr 1
  omega

set_option maxRecDepth 100000 in
theorem read_bytes {H : Type} {enc : TypeId × Value → H} {W : World} {base : Nat} {spare : Nat → Bool} {held : Bool} {fuel : Nat} {cs : List Value} {x : DataW H × List MemPlace}
    (h : DataW.trod enc Tryz.prog W base spare held fuel 26 cs = some x) : ∃ A l c, cs = [.slice A l.length c] ∧ Rd W A l ∧ l.length ≤ c ∧ c ≤ maxLen := by
  rcases open_ints Tryz.underlying26 Tryz.underlying5 cellsU8 h with ⟨hcs, _⟩ | ⟨a, len, cap, zs, hcs, _, hl, hm, hz, _, hcell, hwz⟩
  · exact ⟨none, [], 0, hcs, Rd.none_ _ _, Nat.le_refl _, Nat.zero_le _⟩
  · have hzl : len ≤ zs.length := by rw [hz]; split <;> omega
    have hlen : (toU8 (zs.take len)).length = len := by simp [toU8]; omega
    refine ⟨some a, toU8 (zs.take len), cap, by rw [hlen]; exact hcs, fun _ => ⟨a, rfl, fun j u hu => ?_⟩, by rw [hlen]; exact hl, hm⟩
    rw [bvs_toU8 _ (fun n hn => hwz n (List.mem_of_mem_take hn))] at hu
    obtain ⟨hj, hju⟩ := List.getElem?_eq_some_iff.1 hu
    have hj' : j < len := by simp at hj; omega
    have hc := hcell j (by omega)
    rw [hc]
    simp at hju
    rw [← hju]
    simp [List.getD, List.getElem?_eq_getElem (show j < zs.length by omega)]

section
variable {H : Type} {enc : TypeId × Value → H} {w : World} {base b0 : Nat} {spare : Nat → Bool} {held : Bool} {r : Reach} {v : Value} {d : DataW H} {p : List MemPlace}
set_option maxRecDepth 100000 in
theorem open_bytes (hv : Value.okWide Tryz.prog w r b0 26 v) (h : DataW.Trod enc Tryz.prog w base spare held 26 v d p) : ∃ A l c, v = .slice A l.length c ∧ Rd w A l ∧ l.length ≤ c ∧ c ≤ maxLen := by
  obtain ⟨a0, len, cap, rfl⟩ := okWide_slice Tryz.underlying26 hv
  obtain ⟨fuel, hf⟩ := h
  obtain ⟨A, l, c, hcs, hr, hc, hm⟩ := read_bytes hf
  simp only [Value.cells, List.cons.injEq, Value.slice.injEq, and_true] at hcs
  obtain ⟨rfl, rfl, rfl⟩ := hcs
  exact ⟨_, l, _, rfl, hr, hc, hm⟩
end

end Go.Proofs.YtgifflfjhockaaaGreatDoor.V

namespace Go.Proofs.YtgifflfjhockaaaGreatDoor.F
open Go.RowKit Go.ChangeShapes Go.WideShapes W

theorem own_rdB {w : World} {O : Nat → Prop} {v : Value} {l : List UInt8} (h : V.OwnB w O v l) : ∃ A c, v = .slice A l.length c ∧ V.Rd w A l ∧ (∀ ad, A = some ad → ad.block < w.heap.size) := S.own_rd h

set_option maxRecDepth 100000 in
/-- An argument's slice lies in a block that there is. -/
theorem slice_block {W : World} {b0 len cap : Nat} {A : Option Addr} (hv : Value.okWide Tryz.prog W .any b0 26 (.slice A len cap)) : ∀ ad, A = some ad → ad.block < W.heap.size := by
  rintro ad rfl
  simp only [Value.okWide, Tryz.underlying26, Cell.okWide, Cell.ok] at hv
  obtain ⟨_, _, _, _, row, cells, hs, _⟩ := hv
  unfold World.shape? at hs
  rcases Nat.lt_or_ge ad.block W.heap.size with h | h
  · exact h
  · rw [Array.getElem?_eq_none h] at hs; cases hs

end Go.Proofs.YtgifflfjhockaaaGreatDoor.F

namespace Go.Proofs.YtgifflfjhockaaaGreatDoor.I
open Go.RowKit W

/-- A shape's value. -/
structure SV where
  A : Option Addr
  n : Nat
  c : Nat
def SV.val (s : SV) : Value := .slice s.A s.n s.c
def ShAt (w : World) (s : SV) (l : List Int) : Prop := Rd w s.A (ivs l) ∧ l.length = s.n
theorem ShAt.keep {O : Nat → Prop} {w w' : World} {s : SV} {l : List Int} (h : ShAt w s l) (hk : Keep O w w') (hO : ∀ k, k < w.heap.size → ¬ O k) : ShAt w' s l :=
  ⟨h.1.keepN (hk.mono (fun k ho hl => absurd ho (hO k hl))), h.2⟩
/-- An image's value: where its lists lie. -/
structure IV where
  X : Option Addr
  nx : Nat
  cx : Nat
  Y : Option Addr
  ny : Nat
  cy : Nat
def IV.cells (v : IV) : Array Value := #[.slice v.X v.nx v.cx, .slice v.Y v.ny v.cy]
def IV.val (v : IV) : Value := .agg v.cells
abbrev SE := SV × List Int
abbrev FE := F.FV × F.Fu
def svs (es : List SE) : List Value := es.map fun e => e.1.val
def fvs (fs : List FE) : List Value := fs.flatMap fun e => e.1.cells.toList
def imOf (es : List SE) (fs : List FE) : Im := ⟨es.map fun e => e.2, fs.map fun e => e.2⟩
theorem cells_len (v : F.FV) : v.cells.toList.length = 5 := rfl
theorem fvs_length (fs : List FE) : (fvs fs).length = fs.length * 5 := by
  induction fs with
  | nil => rfl
  | cons v l ih =>
    unfold fvs at ih ⊢
    rw [List.flatMap_cons, List.length_append, ih, cells_len, List.length_cons]; omega
theorem svs_length (es : List SE) : (svs es).length = es.length := by simp [svs]
theorem fvs_append (l r : List FE) : fvs (l ++ r) = fvs l ++ fvs r := by simp [fvs]
theorem svs_append (l r : List SE) : svs (l ++ r) = svs l ++ svs r := by simp [svs]
theorem fvs_at : ∀ (fs : List FE) (i j : Nat) (h : i < fs.length), j < 5 → (fvs fs)[i * 5 + j]? = fs[i].1.cells.toList[j]?
  | v :: l, 0, j, _, hj => by
    unfold fvs
    rw [List.flatMap_cons, Nat.zero_mul, Nat.zero_add, List.getElem?_append_left (by rw [cells_len]; exact hj)]; rfl
  | v :: l, i + 1, j, h, hj => by
    have := fvs_at l i j (by simpa using h) hj
    unfold fvs at this ⊢
    rw [List.flatMap_cons, show (i + 1) * 5 + j = 5 + (i * 5 + j) by omega, List.getElem?_append_right (by rw [cells_len]; omega), cells_len, Nat.add_sub_cancel_left]
    exact this
theorem svs_at (es : List SE) (i : Nat) (h : i < es.length) : (svs es)[i]? = some es[i].1.val := by simp [svs, h]

/-- What an image's lists hold, wherever the value itself lies. -/
structure ImAt (w : World) (v : IV) (es : List SE) (fs : List FE) : Prop where
  rx : Rd w v.X (svs es)
  ry : Rd w v.Y (fvs fs)
  lx : es.length = v.nx
  ly : fs.length = v.ny
  hs : ∀ e ∈ es, ShAt w e.1 e.2
  hf : ∀ e ∈ fs, F.FnAt w e.1 e.2
theorem ImAt.keep {O : Nat → Prop} {w w' : World} {v : IV} {es : List SE} {fs : List FE} (h : ImAt w v es fs) (hk : Keep O w w') (hO : ∀ k, k < w.heap.size → ¬ O k) : ImAt w' v es fs :=
  have h2 : Keep NoB w w' := hk.mono (fun k ho hl => absurd ho (hO k hl))
  ⟨h.rx.keepN h2, h.ry.keepN h2, h.lx, h.ly, fun e he => (h.hs e he).keep h2 (fun _ _ => id), fun e he => (h.hf e he).keepN h2⟩
theorem ImAt.keepN {w w' : World} {v : IV} {es : List SE} {fs : List FE} (h : ImAt w v es fs) (hk : Keep NoB w w') : ImAt w' v es fs := h.keep hk (fun _ _ => id)
/-- It is no greater than statements go through. -/
structure SmI (es : List SE) (fs : List FE) : Prop where
  ns : es.length ≤ 70
  nf : fs.length ≤ 70
  sh : ∀ e ∈ es, e.1.n ≤ 100
  fn : ∀ e ∈ fs, F.SmF e.1
/-- Shape i, and function i, in memory. -/
theorem shape_at {w : World} {X : Option Addr} {es : List SE} (h : Rd w X (svs es)) {i : Nat} (hi : i < es.length) : ∃ g off, X = some ⟨g, off, none⟩ ∧ w.cell? ⟨g, off + i, none⟩ = some (.slice es[i].1.A es[i].1.n es[i].1.c) := by
  obtain ⟨g, off, e, hc⟩ := h (by rw [svs_length]; omega)
  exact ⟨g, off, e, hc i _ (svs_at es i hi)⟩
theorem fun_at {w : World} {Y : Option Addr} {fs : List FE} (h : Rd w Y (fvs fs)) {i : Nat} (hi : i < fs.length) : ∃ g off, Y = some ⟨g, off, none⟩ ∧ w.cell? ⟨g, off + i * 5, none⟩ = some (.string fs[i].1.S) ∧ w.cell? ⟨g, off + i * 5 + 1, none⟩ = some (.slice fs[i].1.A fs[i].1.na fs[i].1.ca) ∧
    w.cell? ⟨g, off + i * 5 + 2, none⟩ = some (.slice fs[i].1.B fs[i].1.nb fs[i].1.cb) ∧ w.cell? ⟨g, off + i * 5 + 3, none⟩ = some (.slice fs[i].1.L fs[i].1.nl fs[i].1.cl) ∧ w.cell? ⟨g, off + i * 5 + 4, none⟩ = some (.slice fs[i].1.D fs[i].1.nd fs[i].1.cd) := by
  obtain ⟨g, off, e, hc⟩ := h (by rw [fvs_length]; omega)
  exact ⟨g, off, e, hc _ _ (fvs_at fs i 0 hi (by omega)), hc _ _ (fvs_at fs i 1 hi (by omega)), hc _ _ (fvs_at fs i 2 hi (by omega)), hc _ _ (fvs_at fs i 3 hi (by omega)), hc _ _ (fvs_at fs i 4 hi (by omega))⟩

/-- An image whose lists are owned: each lies in a block of P. -/
structure OwnIm (W : World) (P : Nat → Prop) (v : IV) (es : List SE) (fs : List FE) : Prop where
  ox : Own W 58 1 P (.slice v.X v.nx v.cx) v.nx (svs es)
  oy : Own W 61 5 P (.slice v.Y v.ny v.cy) v.ny (fvs fs)
  hs : ∀ e ∈ es, Own W 3 1 P (.slice e.1.A e.1.n e.1.c) e.1.n (ivs e.2)
  hf : ∀ e ∈ fs, F.OwnF W P e.1 e.2
theorem OwnIm.keep {W W' : World} {P O : Nat → Prop} {v : IV} {es : List SE} {fs : List FE} (h : OwnIm W P v es fs) (hk : Keep O W W') (hn : ∀ k, P k → ¬ O k) : OwnIm W' P v es fs :=
  ⟨h.ox.keep hk hn, h.oy.keep hk hn, fun e he => (h.hs e he).keep hk hn, fun e he => (h.hf e he).keep hk hn⟩
theorem OwnIm.keepN {W W' : World} {P : Nat → Prop} {v : IV} {es : List SE} {fs : List FE} (h : OwnIm W P v es fs) (hk : Keep NoB W W') : OwnIm W' P v es fs := h.keep hk (fun _ _ => id)
theorem OwnIm.mono {W : World} {P P' : Nat → Prop} {v : IV} {es : List SE} {fs : List FE} (h : OwnIm W P v es fs) (hP : ∀ k, P k → k < W.heap.size → P' k) : OwnIm W P' v es fs :=
  ⟨h.ox.mono hP, h.oy.mono hP, fun e he => (h.hs e he).mono hP, fun e he => (h.hf e he).mono hP⟩
theorem OwnIm.im {W : World} {P : Nat → Prop} {v : IV} {es : List SE} {fs : List FE} (h : OwnIm W P v es fs) : ImAt W v es fs :=
  ⟨F.own_rdS h.ox, F.own_rdS h.oy, by have := h.ox.1.1; rw [svs_length] at this; omega, by have := h.oy.1.1; rw [fvs_length] at this; omega,
    fun e he => ⟨F.own_rdS (h.hs e he), F.own_len (h.hs e he)⟩, fun e he => (h.hf e he).fn⟩
def nilW : IV := ⟨none, 0, 0, none, 0, 0⟩
theorem nil_own (W : World) (P : Nat → Prop) : OwnIm W P nilW [] [] := ⟨Own.nil _ _ _ _, Own.nil _ _ _ _, (fun _ h => nomatch h), (fun _ h => nomatch h)⟩
end Go.Proofs.YtgifflfjhockaaaGreatDoor.I

namespace Go.Proofs.YtgifflfjhockaaaGreatDoor.F
open Go.RowKit W

/-- A function whose lists a machine holds. -/
structure LgF (v : FV) : Prop where
  sz : v.S.size ≤ 140737488355328
  na : v.na ≤ 140737488355328
  nb : v.nb ≤ 140737488355328
  nl : v.nl ≤ 140737488355328
  nd : v.nd ≤ 140737488355328
theorem SmF.lg {v : FV} (h : SmF v) : LgF v := ⟨by have := h.sz; omega, by have := h.na; omega, by have := h.nb; omega, by have := h.nl; omega, by have := h.nd; omega⟩

set_option maxRecDepth 100000 in
set_option maxHeartbeats 2000000 in
theorem fewL_any (v : FV) (w : World) (h : LgF v) (R : Int) (hR : Hid ((if v.na + v.nb + v.nl ≤ 64 then (0 : Int) else 70) = R)) :
    Calls Tryz.prog 118 #[v.val] w fun e w' => e = .returned (.int .i64 R) ∧ Keep NoB w w' := by
  obtain ⟨S, A, na, ca, B, nb, cb, L, nl, cl, D, nd, cd⟩ := v
  obtain ⟨_, q1, q2, q3, _⟩ := h
  dsimp only at q1 q2 q3 hR
  have bx := Blk.new w 61 (FV.cells ⟨S, A, na, ca, B, nb, cb, L, nl, cl, D, nd, cd⟩)
  have k0 := (Keep.refl NoB w).alloc (.cells (FV.cells ⟨S, A, na, ca, B, nb, cb, L, nl, cl, D, nd, cd⟩) 61)
  dsimp only [FV.val, FV.cells] at bx k0 ⊢
  by_cases h1 : na + nb + nl ≤ 64
  · obtain rfl : 0 = R := by rw [← hR.out, if_pos h1]
    clear hR
    go_enter Tryz.func118, Tryz.ntmps118
    go_wp2
    go_ret
    exact ⟨rfl, k0⟩
  · obtain rfl : 70 = R := by rw [← hR.out, if_neg h1]
    have h2 : (64 : Int) < (na : Int) + (nb : Int) + (nl : Int) := by omega
    clear hR h1
    go_enter Tryz.func118, Tryz.ntmps118
    go_wp2
    go_ret
    exact ⟨rfl, k0⟩

set_option maxRecDepth 100000 in
set_option maxHeartbeats 4000000 in
theorem checksL_any (v : FV) (f : Fu) (w : World) (h : FnAt w v f) (hs : LgF v) (g : Nat) (u0 u1 u2 u3 u4 : Value) (hb : Blk w g 69 #[u0, u1, u2, u3, u4])
    (a0 : AskV 160 89 61 (fnV 118) (v.cells) u0 w)
    (a1 : AskV 161 181 9 (fnV 120) (#[.string v.S]) u1 w)
    (a2 : AskV 164 183 57 (fnV 122) (#[.slice v.A v.na v.ca, .slice v.B v.nb v.cb]) u2 w)
    (a3 : AskV 164 183 57 (fnV 122) (#[.slice v.L v.nl v.cl, .slice none 0 0]) u3 w)
    (a4 : AskV 166 186 59 (fnV 125) (#[.slice v.D v.nd v.cd]) u4 w) :
    Calls Tryz.prog 116 #[.slice (some ⟨g, 0, none⟩) 5 5] w fun e w' => e = .returned (.bool (okF f)) ∧ Keep NoB w w' := by
  obtain ⟨c0, p0, rfl, a0, b0⟩ := a0
  obtain ⟨c1, p1, rfl, a1, b1⟩ := a1
  obtain ⟨c2, p2, rfl, a2, b2⟩ := a2
  obtain ⟨c3, p3, rfl, a3, b3⟩ := a3
  obtain ⟨c4, p4, rfl, a4, b4⟩ := a4
  refine (every_any (some ⟨g, 0, none⟩) [(160, #[.pointer (some ⟨c0, 0, none⟩), .pointer (some ⟨p0, 0, none⟩)]), (161, #[.pointer (some ⟨c1, 0, none⟩), .pointer (some ⟨p1, 0, none⟩)]), (164, #[.pointer (some ⟨c2, 0, none⟩), .pointer (some ⟨p2, 0, none⟩)]), (164, #[.pointer (some ⟨c3, 0, none⟩), .pointer (some ⟨p3, 0, none⟩)]), (166, #[.pointer (some ⟨c4, 0, none⟩), .pointer (some ⟨p4, 0, none⟩)])] 5 5 w rfl (by decide) (bsF v f) (fun _ W => Keep NoB w W) (fun W => Keep NoB w W) ?hcf ?hr ?hq (Keep.refl _ _)).mono ?_
  case hcf =>
    intro q hq
    simp only [List.mem_cons, List.not_mem_nil, or_false] at hq
    rcases hq with rfl | rfl | rfl | rfl | rfl
    · exact enters_of Tryz.func160 (by kernel_rfl) rfl
    · exact enters_of Tryz.func161 (by kernel_rfl) rfl
    · exact enters_of Tryz.func164 (by kernel_rfl) rfl
    · exact enters_of Tryz.func164 (by kernel_rfl) rfl
    · exact enters_of Tryz.func166 (by kernel_rfl) rfl
  case hr =>
    intro i W hK _
    refine ⟨g, 0, rfl, fun j u hu => ?_⟩
    rw [Nat.zero_add, (hb.keep hK id).cell j]
    simpa using hu
  case hq =>
    intro i hi W hK
    have hf := h.keepN hK
    have hi : i = 0 ∨ i = 1 ∨ i = 2 ∨ i = 3 ∨ i = 4 := by simp at hi; omega
    rcases hi with rfl | rfl | rfl | rfl | rfl
    · refine (askedFun_any 118 (enters_of Tryz.func118 (by kernel_rfl) rfl) v c0 p0 W (a0.keep hK id) (b0.keep hK id) _ (bsF v f 0) (few_eq v f) (fewL_any v W hs _ rfl)).mono ?_
      rintro e W' ⟨rfl, hk⟩
      exact ⟨rfl, fun _ => keepN hK hk, fun _ => keepN hK hk⟩
    · refine (askedStr_any 120 (enters_of Tryz.func120 (by kernel_rfl) rfl) v.S c1 p1 W (a1.keep hK id) (b1.keep hK id) (chkN f.nm) (bsF v f 1) (chkN_eq _) ?_).mono ?_
      · refine (named_any v.S f.nm W hf.nm (by have := hs.sz; omega) _ rfl).mono ?_
        rintro e W' ⟨rfl, rfl⟩
        exact ⟨rfl, Keep.refl _ _⟩
      rintro e W' ⟨rfl, hk⟩
      exact ⟨rfl, fun _ => keepN hK hk, fun _ => keepN hK hk⟩
    · refine (askedSig_any 122 (enters_of Tryz.func122 (by kernel_rfl) rfl) _ _ c2 p2 W (a2.keep hK id) (b2.keep hK id) (S.chkG f.ar f.rs) (bsF v f 2) (chkG_eq _ _) (S.chkG_any v.A f.ar v.na v.ca v.B f.rs v.nb v.cb W hf.ra hf.rb hf.la hf.lb (by have := hs.na; omega) (by have := hs.nb; omega) _ rfl)).mono ?_
      rintro e W' ⟨rfl, hk⟩
      exact ⟨rfl, fun _ => keepN hK hk, fun _ => keepN hK hk⟩
    · refine (askedSig_any 122 (enters_of Tryz.func122 (by kernel_rfl) rfl) _ _ c3 p3 W (a3.keep hK id) (b3.keep hK id) (S.chkG f.lc []) (bsF v f 3) (chkG_eq _ _) (S.chkG_any v.L f.lc v.nl v.cl none [] 0 0 W hf.rl (Rd.none_ _ _) hf.ll rfl (by have := hs.nl; omega) (by omega) _ rfl)).mono ?_
      rintro e W' ⟨rfl, hk⟩
      exact ⟨rfl, fun _ => keepN hK hk, fun _ => keepN hK hk⟩
    · refine (askedBod_any 125 (enters_of Tryz.func125 (by kernel_rfl) rfl) v.D v.nd v.cd c4 p4 W (a4.keep hK id) (b4.keep hK id) (C.chkB f.bd) (bsF v f 4) (chkB_eq _) (C.cchk_any v.D f.bd v.nd v.cd W hf.rd hf.ld (by have := hs.nd; omega) _ rfl)).mono ?_
      rintro e W' ⟨rfl, hk⟩
      exact ⟨rfl, fun _ => keepN hK hk, fun _ => keepN hK hk⟩
  rintro e w' (⟨rfl, hb, hk⟩ | ⟨rfl, hb, hk⟩)
  · exact ⟨by rw [bsF_all h hb], hk⟩
  · exact ⟨by rw [bsF_not h hb], hk⟩

set_option maxRecDepth 100000 in
set_option maxHeartbeats 8000000 in
theorem checkL_any (v : FV) (f : Fu) (w : World) (h : FnAt w v f) (hs : LgF v) (R : Int) (hR : Hid (chkF f = R)) :
    Calls Tryz.prog 76 #[v.val] w fun e w' => e = .returned (.int .i64 R) ∧ Keep NoB w w' := by
  have bx := Blk.new w 61 v.cells
  have k0 := (Keep.refl NoB w).alloc (.cells v.cells 61)
  have HF := Lib.hid (h.keepN k0)
  obtain ⟨S, A, na, ca, B, nb, cb, L, nl, cl, D, nd, cd⟩ := v
  have HE := Lib.hid (fun W hf g u0 u1 u2 u3 u4 hb a0 a1 a2 a3 a4 => checksL_any _ f W hf hs g u0 u1 u2 u3 u4 hb a0 a1 a2 a3 a4)
  obtain ⟨q0, q1, q2, q3, q4⟩ := blk5 bx
  dsimp only [FV.val, FV.cells] at bx k0 HF q0 q1 q2 q3 q4 ⊢
  have HX := Lib.hid bx
  clear h hs bx
  generalize hw1 : w.alloc (.cells #[.string S, .slice A na ca, .slice B nb cb, .slice L nl cl, .slice D nd cd] 61) = w1 at k0 HF q0 q1 q2 q3 q4 HX
  go_enter Tryz.func76, Tryz.ntmps76
  go_wp2_with fail
  clear hw1
  refine wp_region_props2 3 99 (NoB) (by kernel_rfl) (by kernel_rfl) (SC ⟨S, A, na, ca, B, nb, cb, L, nl, cl, D, nd, cd⟩ f w.heap.size) (fun i u x y _ h hk => SC_stable _ _ _ i u x y h hk) (of_decide_eq_true rfl) ?step ?spec ?fin
  case step =>
    intro i o a w' ho hic hF hK hA
    have hi : i < 18 := by simpa using (Array.getElem?_eq_some_iff.1 ho).1
    by_cases h0 : i = 0
    · subst h0
      simp only [List.getElem?_toArray, List.getElem?_cons_zero, Option.some.injEq] at ho
      subst ho
      have e1 : a.tmps.getD 1 undef = .pointer (some ⟨w.heap.size, 0, none⟩) := hF.2.2 1 (.inl (by decide))
      have c0 := Keep.cell hK q0 id
      have c1 := Keep.cell hK q1 id
      have c2 := Keep.cell hK q2 id
      have c3 := Keep.cell hK q3 id
      have c4 := Keep.cell hK q4 id
      refine Does.plain rfl ?_
      unfold yieldsK
      go_simp
      exact ⟨rfl, Keep.refl _ _⟩
    by_cases h1 : i = 1
    · subst h1
      simp only [List.getElem?_toArray, List.getElem?_cons_zero, List.getElem?_cons_succ, Option.some.injEq] at ho
      subst ho
      have e3 : a.tmps.getD 3 undef = .agg #[.string S, .slice A na ca, .slice B nb cb, .slice L nl cl, .slice D nd cd] := hA ⟨0, .data⟩ (by simp) rfl
      refine Does.plain rfl ?_
      unfold yieldsK
      go_simp
      refine (passesFun_any 118 ⟨S, A, na, ca, B, nb, cb, L, nl, cl, D, nd, cd⟩ w').mono ?_
      rintro e w2 ⟨u, rfl, h1, h2⟩
      exact ⟨_, rfl, h1, h2⟩
    by_cases h2 : i = 2
    · subst h2
      simp only [List.getElem?_toArray, List.getElem?_cons_zero, List.getElem?_cons_succ, Option.some.injEq] at ho
      subst ho
      have e1 : a.tmps.getD 1 undef = .pointer (some ⟨w.heap.size, 0, none⟩) := hF.2.2 1 (.inl (by decide))
      refine Does.plain rfl ?_
      unfold yieldsK
      go_simp
      exact ⟨rfl, Keep.refl _ _⟩
    by_cases h3 : i = 3
    · subst h3
      simp only [List.getElem?_toArray, List.getElem?_cons_zero, List.getElem?_cons_succ, Option.some.injEq] at ho
      subst ho
      have e5 : a.tmps.getD 5 undef = .pointer (some ⟨w.heap.size, 0, none⟩) := hA ⟨2, .data⟩ (by simp) rfl
      have c0 := Keep.cell hK q0 id
      refine Does.plain rfl ?_
      unfold yieldsK
      go_simp
      exact ⟨rfl, Keep.refl _ _⟩
    by_cases h4 : i = 4
    · subst h4
      simp only [List.getElem?_toArray, List.getElem?_cons_zero, List.getElem?_cons_succ, Option.some.injEq] at ho
      subst ho
      have e6 : a.tmps.getD 6 undef = .string S := hA ⟨3, .data⟩ (by simp) rfl
      refine Does.plain rfl ?_
      unfold yieldsK
      go_simp
      refine (passesStr_any 120 S w').mono ?_
      rintro e w2 ⟨u, rfl, h1, h2⟩
      exact ⟨_, rfl, h1, h2⟩
    by_cases h5 : i = 5
    · subst h5
      simp only [List.getElem?_toArray, List.getElem?_cons_zero, List.getElem?_cons_succ, Option.some.injEq] at ho
      subst ho
      have e1 : a.tmps.getD 1 undef = .pointer (some ⟨w.heap.size, 0, none⟩) := hF.2.2 1 (.inl (by decide))
      refine Does.plain rfl ?_
      unfold yieldsK
      go_simp
      exact ⟨rfl, Keep.refl _ _⟩
    by_cases h6 : i = 6
    · subst h6
      simp only [List.getElem?_toArray, List.getElem?_cons_zero, List.getElem?_cons_succ, Option.some.injEq] at ho
      subst ho
      have e8 : a.tmps.getD 8 undef = .pointer (some ⟨w.heap.size, 1, none⟩) := hA ⟨5, .data⟩ (by simp) rfl
      have c1 := Keep.cell hK q1 id
      have c2 := Keep.cell hK q2 id
      refine Does.plain rfl ?_
      unfold yieldsK
      go_simp
      exact ⟨rfl, Keep.refl _ _⟩
    by_cases h7 : i = 7
    · subst h7
      simp only [List.getElem?_toArray, List.getElem?_cons_zero, List.getElem?_cons_succ, Option.some.injEq] at ho
      subst ho
      have e9 : a.tmps.getD 9 undef = .agg #[.slice A na ca, .slice B nb cb] := hA ⟨6, .data⟩ (by simp) rfl
      refine Does.plain rfl ?_
      unfold yieldsK
      go_simp
      refine (passesSig_any 122 (.slice A na ca) (.slice B nb cb) w').mono ?_
      rintro e w2 ⟨u, rfl, h1, h2⟩
      exact ⟨_, rfl, h1, h2⟩
    by_cases h8 : i = 8
    · subst h8
      simp only [List.getElem?_toArray, List.getElem?_cons_zero, List.getElem?_cons_succ, Option.some.injEq] at ho
      subst ho
      have e1 : a.tmps.getD 1 undef = .pointer (some ⟨w.heap.size, 0, none⟩) := hF.2.2 1 (.inl (by decide))
      refine Does.plain rfl ?_
      unfold yieldsK
      go_simp
      exact ⟨rfl, Keep.refl _ _⟩
    by_cases h9 : i = 9
    · subst h9
      simp only [List.getElem?_toArray, List.getElem?_cons_zero, List.getElem?_cons_succ, Option.some.injEq] at ho
      subst ho
      have e11 : a.tmps.getD 11 undef = .pointer (some ⟨w.heap.size, 3, none⟩) := hA ⟨8, .data⟩ (by simp) rfl
      have c3 := Keep.cell hK q3 id
      refine Does.plain rfl ?_
      unfold yieldsK
      go_simp
      exact ⟨rfl, Keep.refl _ _⟩
    by_cases h10 : i = 10
    · subst h10
      simp only [List.getElem?_toArray, List.getElem?_cons_zero, List.getElem?_cons_succ, Option.some.injEq] at ho
      subst ho
      have e12 : a.tmps.getD 12 undef = .slice L nl cl := hA ⟨9, .data⟩ (by simp) rfl
      refine Does.plain rfl ?_
      unfold yieldsK
      go_simp
      refine (taking_any L nl cl w').mono ?_
      rintro e w2 ⟨rfl, h2⟩
      exact ⟨_, rfl, rfl, h2⟩
    by_cases h11 : i = 11
    · subst h11
      simp only [List.getElem?_toArray, List.getElem?_cons_zero, List.getElem?_cons_succ, Option.some.injEq] at ho
      subst ho
      have e13 : a.tmps.getD 13 undef = .agg #[.slice L nl cl, .slice none 0 0] := hA ⟨10, .data⟩ (by simp) rfl
      refine Does.plain rfl ?_
      unfold yieldsK
      go_simp
      refine (passesSig_any 122 (.slice L nl cl) (.slice none 0 0) w').mono ?_
      rintro e w2 ⟨u, rfl, h1, h2⟩
      exact ⟨_, rfl, h1, h2⟩
    by_cases h12 : i = 12
    · subst h12
      simp only [List.getElem?_toArray, List.getElem?_cons_zero, List.getElem?_cons_succ, Option.some.injEq] at ho
      subst ho
      have e1 : a.tmps.getD 1 undef = .pointer (some ⟨w.heap.size, 0, none⟩) := hF.2.2 1 (.inl (by decide))
      refine Does.plain rfl ?_
      unfold yieldsK
      go_simp
      exact ⟨rfl, Keep.refl _ _⟩
    by_cases h13 : i = 13
    · subst h13
      simp only [List.getElem?_toArray, List.getElem?_cons_zero, List.getElem?_cons_succ, Option.some.injEq] at ho
      subst ho
      have e15 : a.tmps.getD 15 undef = .pointer (some ⟨w.heap.size, 4, none⟩) := hA ⟨12, .data⟩ (by simp) rfl
      have c4 := Keep.cell hK q4 id
      refine Does.plain rfl ?_
      unfold yieldsK
      go_simp
      exact ⟨rfl, Keep.refl _ _⟩
    by_cases h14 : i = 14
    · subst h14
      simp only [List.getElem?_toArray, List.getElem?_cons_zero, List.getElem?_cons_succ, Option.some.injEq] at ho
      subst ho
      have e16 : a.tmps.getD 16 undef = .slice D nd cd := hA ⟨13, .data⟩ (by simp) rfl
      refine Does.plain rfl ?_
      unfold yieldsK
      go_simp
      refine (passesBod_any 125 D nd cd w').mono ?_
      rintro e w2 ⟨u, rfl, h1, h2⟩
      exact ⟨_, rfl, h1, h2⟩
    by_cases h15 : i = 15
    · subst h15
      simp only [List.getElem?_toArray, List.getElem?_cons_zero, List.getElem?_cons_succ, Option.some.injEq] at ho
      subst ho
      obtain ⟨c0, p0, e4, a0, b0⟩ := hA ⟨1, .data⟩ (by simp) rfl
      have e4 : a.tmps.getD 4 undef = askV 160 #[.pointer (some ⟨c0, 0, none⟩), .pointer (some ⟨p0, 0, none⟩)] := e4
      obtain ⟨c1, p1, e7, a1, b1⟩ := hA ⟨4, .data⟩ (by simp) rfl
      have e7 : a.tmps.getD 7 undef = askV 161 #[.pointer (some ⟨c1, 0, none⟩), .pointer (some ⟨p1, 0, none⟩)] := e7
      obtain ⟨c2, p2, e10, a2, b2⟩ := hA ⟨7, .data⟩ (by simp) rfl
      have e10 : a.tmps.getD 10 undef = askV 164 #[.pointer (some ⟨c2, 0, none⟩), .pointer (some ⟨p2, 0, none⟩)] := e10
      obtain ⟨c3, p3, e14, a3, b3⟩ := hA ⟨11, .data⟩ (by simp) rfl
      have e14 : a.tmps.getD 14 undef = askV 164 #[.pointer (some ⟨c3, 0, none⟩), .pointer (some ⟨p3, 0, none⟩)] := e14
      obtain ⟨c4, p4, e17, a4, b4⟩ := hA ⟨14, .data⟩ (by simp) rfl
      have e17 : a.tmps.getD 17 undef = askV 166 #[.pointer (some ⟨c4, 0, none⟩), .pointer (some ⟨p4, 0, none⟩)] := e17
      refine Does.plain rfl ?_
      unfold yieldsK
      unfold askV at *
      simp only [Array.getD_eq_getD_getElem?] at e4 e7 e10 e14 e17
      go_simp
      refine ⟨⟨w'.heap.size, _, _, _, _, _, rfl, Blk.new _ _ _, ⟨c0, p0, rfl, a0.alloc _, b0.alloc _⟩, ⟨c1, p1, rfl, a1.alloc _, b1.alloc _⟩, ⟨c2, p2, rfl, a2.alloc _, b2.alloc _⟩, ⟨c3, p3, rfl, a3.alloc _, b3.alloc _⟩, ⟨c4, p4, rfl, a4.alloc _, b4.alloc _⟩⟩, (Keep.refl _ _).alloc _⟩
    by_cases h16 : i = 16
    · subst h16
      simp only [List.getElem?_toArray, List.getElem?_cons_zero, List.getElem?_cons_succ, Option.some.injEq] at ho
      subst ho
      obtain ⟨g, u0, u1, u2, u3, u4, e18, hb, a0, a1, a2, a3, a4⟩ := hA ⟨15, .data⟩ (by simp) rfl
      have e18 : a.tmps.getD 18 undef = .slice (some ⟨g, 0, none⟩) 5 5 := e18
      refine Does.plain rfl ?_
      unfold yieldsK
      go_simp
      refine (HE.out w' (HF.out.keepN hK) g u0 u1 u2 u3 u4 hb a0 a1 a2 a3 a4).mono ?_
      rintro e w2 ⟨rfl, h2⟩
      exact ⟨_, rfl, rfl, h2⟩
    by_cases h17 : i = 17
    · subst h17
      simp only [List.getElem?_toArray, List.getElem?_cons_zero, List.getElem?_cons_succ, Option.some.injEq] at ho
      subst ho
      have e19 : a.tmps.getD 19 undef = .bool (okF f) := hA ⟨16, .data⟩ (by simp) rfl
      refine Does.plain rfl ?_
      unfold yieldsK
      go_simp
      exact ⟨rfl, Keep.refl _ _⟩
    omega
  case spec =>
    intro o a w' ho
    simp at ho
  case fin =>
    intro a w' hF gK hA
    have e20 : a.tmps.getD (3 + 17) undef = .bool (!okF f) := hA 17 (by decide)
    have ha := frame_fill (n := 18) hF (of_decide_eq_true rfl)
    rw [ha]
    rw [show List.range 18 = [0, 1, 2, 3, 4, 5, 6, 7, 8, 9, 10, 11, 12, 13, 14, 15, 16, 17] from rfl]
    simp only [List.map_cons, List.map_nil, e20]
    generalize a.tmps.getD (3 + 0) undef = u0
    generalize a.tmps.getD (3 + 1) undef = u1
    generalize a.tmps.getD (3 + 2) undef = u2
    generalize a.tmps.getD (3 + 3) undef = u3
    generalize a.tmps.getD (3 + 4) undef = u4
    generalize a.tmps.getD (3 + 5) undef = u5
    generalize a.tmps.getD (3 + 6) undef = u6
    generalize a.tmps.getD (3 + 7) undef = u7
    generalize a.tmps.getD (3 + 8) undef = u8
    generalize a.tmps.getD (3 + 9) undef = u9
    generalize a.tmps.getD (3 + 10) undef = u10
    generalize a.tmps.getD (3 + 11) undef = u11
    generalize a.tmps.getD (3 + 12) undef = u12
    generalize a.tmps.getD (3 + 13) undef = u13
    generalize a.tmps.getD (3 + 14) undef = u14
    generalize a.tmps.getD (3 + 15) undef = u15
    generalize a.tmps.getD (3 + 16) undef = u16
    simp only [fillT, List.setIfInBounds_toArray, List.set_cons_zero, List.set_cons_succ]
    have HR := Lib.hid (keepN k0 gK)
    clear gK k0 hA hF ha e20 HE HF HX q0 q1 q2 q3 q4
    cases ho : okF f
    · obtain rfl : 70 = R := by rw [← hR.out]; exact (chkF_no ho).symm
      clear hR ho
      go_wp2
      go_ret
      exact ⟨rfl, HR.out⟩
    · obtain rfl : 0 = R := by rw [← hR.out]; exact (chkF_ok ho).symm
      clear hR ho
      go_wp2
      go_ret
      exact ⟨rfl, HR.out⟩

end Go.Proofs.YtgifflfjhockaaaGreatDoor.F

namespace Go.Proofs.YtgifflfjhockaaaGreatDoor.I
open Go.RowKit W

/-- How many instructions there are. -/
def ndS (fs : List FE) : Nat := (fs.map fun e => e.1.nd).sum
theorem ndS_take {fs : List FE} {k : Nat} (h : k < fs.length) : ndS (fs.take (k + 1)) = ndS (fs.take k) + fs[k].1.nd := by
  unfold ndS; rw [List.take_succ_eq_append_getElem h, List.map_append, List.sum_append]; rfl
theorem blk2 {w : World} {g : Nat} {v : IV} (h : Blk w g 25 v.cells) : w.cell? ⟨g, 0, none⟩ = some (.slice v.X v.nx v.cx) ∧ w.cell? ⟨g, 1, none⟩ = some (.slice v.Y v.ny v.cy) := ⟨h.cell 0, h.cell 1⟩
/-- An image whose lists a machine holds. -/
structure LgI (v : IV) (es : List SE) (fs : List FE) : Prop where
  nx : v.nx ≤ 140737488355328
  ny : v.ny ≤ 140737488355328
  sh : ∀ e ∈ es, e.1.n ≤ 140737488355328
  fn : ∀ e ∈ fs, F.LgF e.1

set_option maxRecDepth 100000 in
set_option maxHeartbeats 4000000 in
theorem great_any (v : IV) (es : List SE) (fs : List FE) (w : World) (h : ImAt w v es fs) (hl : LgI v es fs) :
    Calls Tryz.prog 10 #[v.val] w fun e w' => ((e = .returned (.int .i64 0) ∧ SmI es fs ∧ ndS fs ≤ 5000) ∨ e = .returned (.int .i64 1)) ∧ Keep NoB w w' := by
  have bx := Blk.new w 25 v.cells
  have k0 := (Keep.refl NoB w).alloc (.cells v.cells 25)
  have HI := Lib.hid (h.keepN k0)
  obtain ⟨q0, q1⟩ := blk2 bx
  have hlx := h.lx
  have hly := h.ly
  have hx := hl.nx
  have hy := hl.ny
  have HS := Lib.hid hl.sh
  have HF := Lib.hid hl.fn
  have HB := Lib.hid bx
  obtain ⟨X, nx, cx, Y, ny, cy⟩ := v
  dsimp only [IV.val, IV.cells] at *
  clear h hl bx
  by_cases hg : nx ≤ 70
  · by_cases hg2 : ny ≤ 70
    · go_enter Tryz.func10, Tryz.ntmps10
      go_wp2
      go_loop [3] (fun i => ∃ k : Nat, k ≤ nx ∧ i = .int .i64 k ∧ Hid (∀ e ∈ es.take k, e.1.n ≤ 100)) (fun i => nx - (intOf i).toNat)
      case atStart => exact ⟨0, Nat.zero_le _, rfl, fun e h => by simp at h⟩
      case round =>
        obtain ⟨k, hk, rfl, hT⟩ := hrel
        by_cases hlt : k < nx
        · have hke : k < es.length := by omega
          obtain ⟨g, off, rfl, c0⟩ := shape_at HI.out.rx hke
          have hL := HS.out _ (List.getElem_mem hke)
          have HT : Hid (es[k].1.n ≤ 100 → ∀ e ∈ es.take (k + 1), e.1.n ≤ 100) := fun h e he => by
            rw [List.take_succ_eq_append_getElem hke] at he
            rcases List.mem_append.1 he with he | he
            · exact hT.out e he
            · rw [List.mem_singleton.1 he]; exact h
          clear hT
          generalize es[k] = e at c0 hL HT
          obtain ⟨⟨A1, n1, d1⟩, l⟩ := e
          dsimp only [SV.val] at c0 hL HT
          by_cases h1 : n1 ≤ 100
          · have HV := Lib.hid (HT.out h1)
            clear HT
            go_wp2
            go_round
            case rel => exact ⟨k + 1, by omega, by go_num, HV⟩
            case measure => simp [intOf]; omega
          · clear HT
            go_wp2
            go_ret
            exact ⟨.inr rfl, k0⟩
        · obtain rfl : k = nx := by omega
          have HV : Hid (∀ e ∈ es, e.1.n ≤ 100) := by show ∀ e ∈ es, e.1.n ≤ 100; rw [← List.take_of_length_le (l := es) (i := k) (by omega)]; exact hT.out
          clear hT hlt
          have hF := fun e he => HF.out e he
          go_wp2
          go_loopw [4, 5] (fun s i wr => ∃ j : Nat, j ≤ ny ∧ i = .int .i64 j ∧ s = .int .i64 (ndS (fs.take j) : Nat) ∧ ndS (fs.take j) ≤ 5000 ∧ Hid (∀ e ∈ fs.take j, F.SmF e.1) ∧ Keep NoB (w.alloc (.cells #[.slice X k cx, .slice Y ny cy] 25)) wr) (fun _ i _ => ny - (intOf i).toNat)
          case atStart => exact ⟨0, Nat.zero_le _, rfl, rfl, Nat.zero_le _, fun e h => by simp at h, Keep.refl _ _⟩
          case round =>
            obtain ⟨j, hj, rfl, rfl, hs5, hT, hK⟩ := hrel
            replace q1 := hK.cell q1 id
            by_cases hlt : j < ny
            · have hje : j < fs.length := by omega
              obtain ⟨g, off, rfl, c0, c1, c2, c3, c4⟩ := fun_at (HI.out.keepN hK).ry hje
              have hL := hF _ (List.getElem_mem hje)
              have hnd := ndS_take hje
              have HT : Hid (F.SmF fs[j].1 → ∀ e ∈ fs.take (j + 1), F.SmF e.1) := fun h e he => by
                rw [List.take_succ_eq_append_getElem hje] at he
                rcases List.mem_append.1 he with he | he
                · exact hT.out e he
                · rw [List.mem_singleton.1 he]; exact h
              clear hT
              generalize fs[j] = e at c0 c1 c2 c3 c4 hL HT hnd
              obtain ⟨fv, f⟩ := e
              dsimp only at c0 c1 c2 c3 c4 hL HT hnd
              have hL4 := hL.nd
              clear hF HF HS hL
              generalize ndS (fs.take j) = N at *
              by_cases h1 : F.SmF fv
              · have HG := Lib.hid (fun w => F.great_no fv w h1)
                have HV := Lib.hid (HT.out h1)
                clear HT h1
                obtain ⟨S1, A1, na1, ca1, B1, nb1, cb1, L1, nl1, cl1, D1, nd1, cd1⟩ := fv
                dsimp only [F.FV.val, F.FV.cells] at *
                by_cases h5 : N + nd1 ≤ 5000
                · go_wp2_with fail
                  refine (HG.out _).mono ?_
                  rintro e w1 ⟨rfl, k1⟩
                  have hK1 := keepN hK k1
                  go_wp2
                  go_roundw
                  case rel => exact ⟨j + 1, by omega, by go_num, by rw [hnd]; go_num, by omega, HV, hK1⟩
                  case measure => simp [intOf]; omega
                · have h6 : (5000 : Int) < (N : Int) + (nd1 : Int) := by omega
                  go_wp2_with fail
                  refine (HG.out _).mono ?_
                  rintro e w1 ⟨rfl, k1⟩
                  have hK1 := keepN hK k1
                  go_wp2
                  go_ret
                  exact ⟨.inr rfl, keepN k0 hK1⟩
              · have HG := Lib.hid (fun w => F.great_yes fv w h1)
                clear HT h1
                obtain ⟨S1, A1, na1, ca1, B1, nb1, cb1, L1, nl1, cl1, D1, nd1, cd1⟩ := fv
                dsimp only [F.FV.val, F.FV.cells] at *
                go_wp2_with fail
                refine (HG.out _).mono ?_
                rintro e w1 ⟨rfl, k1⟩
                have hK1 := keepN hK k1
                go_wp2
                go_ret
                exact ⟨.inr rfl, keepN k0 hK1⟩
            · obtain rfl : j = ny := by omega
              have hall : fs.take j = fs := List.take_of_length_le (by omega)
              rw [hall] at hs5 hT
              have HR : Hid (SmI es fs ∧ ndS fs ≤ 5000) := ⟨⟨by omega, by omega, HV.out, hT.out⟩, hs5⟩
              clear hF HF HS HV hT hs5
              go_wp2
              go_ret
              exact ⟨.inl ⟨rfl, HR.out.1, HR.out.2⟩, keepN k0 hK⟩
    · have hd : decide ((70 : Int) < (ny : Int)) = true := by rw [decide_eq_true_iff]; omega
      go_enter Tryz.func10, Tryz.ntmps10
      go_wp2
      go_ret
      exact ⟨.inr rfl, k0⟩
  · have hd : decide ((70 : Int) < (nx : Int)) = true := by rw [decide_eq_true_iff]; omega
    go_enter Tryz.func10, Tryz.ntmps10
    go_wp2
    go_ret
    exact ⟨.inr rfl, k0⟩

end Go.Proofs.YtgifflfjhockaaaGreatDoor.I
