/-
  What Insert of layer code answers: a new body with one more, or ErrCode. Conditions: the list lies in memory.
  What Delete of layer code answers: a new body without one, or ErrCode. Conditions: the list lies in memory.
  What the program's Decode answers. Conditions: a Reel stands on the bytes; they are not too many.
  What the document's Decode answers. Conditions: its Reel stands on the bytes; they are not too many.
  What Decode of layer code answers, the program's and the document's: the body at a Reel's place, and the place behind it. Conditions: the Reel reads bytes in memory, no more than 2^47.
  What the document's Decode of layer code answers: the body at its Reel's place, and the place behind it. Conditions: the Reel reads bytes in memory, no more than 2^47.
  Functions at a Reel's place: what Decode answers. Conditions: the Reel reads bytes in memory, no more than 2^47.
  What Decode of layer function answers: the function at a Reel's place, and the place behind it. Conditions: the Reel reads bytes in memory, no more than 2^47.
-/
import Derived.IntWalk
import Derived.Test.YtbnekeomdhljhaaGreatDoorQ9
import Derived.Test.YtbnekeomdhljhaaGreatDoorQ7
import Derived.Test.YtbnekeomdhljhaaGreatDoorQ5
import Derived.Test.YtbnekeomdhljhaaGreatDoorQ6
import Derived.Test.YtbnekeomdhljhaaGreatDoorQ3
import Derived.Test.YtbnekeomdhljhaaGreatDoorQ8
namespace Go.Proofs.YtbnekeomdhljhaaGreatDoor.C
open Go.RowKit O

/-- What is answered: the list, and the error. -/
def insG (l : List I3) (p : Int) (x : I3) : List I3 := if hasB l p = true ∧ okB (insL l p.toNat x) = true then insL l p.toNat x else []
def insE (l : List I3) (p : Int) (x : I3) : Int := if hasB l p = true ∧ okB (insL l p.toNat x) = true then 0 else 50
def LstR (w : World) (m : List I3) (E : Int) (e : Ending) (w' : World) : Prop := ∃ v, e = .returned (.tuple #[v, .int .i64 E]) ∧ Own w' 74 3 (Fresh w) v m.length (iis m) ∧ Keep NoB w w'
theorem lstR_none {w w' : World} {E : Int} (h : Keep NoB w w') : LstR w [] E (.returned (.tuple #[.slice none 0 0, .int .i64 E])) w' := ⟨_, rfl, Own.nil _ _ _ _, h⟩

/-- An append, as it yields. -/
theorem yields_append {P : Program} {o : Oper} {a : Act} {w w' : World} {R : Value → World → Prop} (s x : Operand) (S : TypeId) (ho : o.op = .call { callee := .builtin .append, args := #[s, x], argTypes := #[S, S] }) {v u v' : Value}
    (hs : a.eval s = v) (hx : a.eval x = u) (hrun : (Builtin.append_ #[S, S] o.type #[v, u]).run P w = .ok v' w') (h : R v' w') : yieldsK P o a w R := by
  unfold yieldsK execOp
  simp only [ho, resolve, invoke, builtin, Sem.run_bind, Sem.run_pure, Result.andThen_ok, List.map_toArray, List.map_cons, List.map_nil, hs, hx, hrun]
  exact h

/-- A new row that has the cells. -/
def RowV (w0 : World) (k : Nat) (ys : List Value) (v : Value) (w : World) : Prop := Own w 74 3 (Fresh w0) v k ys
theorem RowV.stable (w0 : World) (k : Nat) (ys : List Value) (v : Value) : StableI (RowV w0 k ys v) := fun _ _ h hk => Own.keepN h hk

/-- The first append of Insert: onto what is ahead, which has no room. -/
theorem first_append {w0 w : World} {g k : Nat} {cs : List I3} {x : I3} {bx : Nat} (ty : TypeId) (hK : w0.heap.size ≤ w.heap.size) (hm : Blk w g 74 (iis cs).toArray) (hk : k ≤ cs.length) (hk5 : k ≤ 512) (hb : Blk w bx 74 (iis [x]).toArray) :
    ∃ v' w', (Builtin.append_ #[25, 25] ty #[.slice (some ⟨g, 0, none⟩) k k, .slice (some ⟨bx, 0, none⟩) 1 1]).run Tryz.prog w = .ok v' w' ∧ RowV w0 (k + 1) (iis (cs.take k ++ [x])) v' w' ∧ Keep NoB w w' := by
  obtain ⟨i0, hi, hz0, hz1, hz2⟩ := info_parts instr_info
  have e : ∀ (b j : Nat), (⟨b, 0, none⟩ : Addr).add j = ⟨b, j, none⟩ := fun b j => by unfold Addr.add; by_cases hj : j = 0 <;> simp [hj]
  obtain ⟨v', w', h1, h2, h3⟩ := run_append_arg_grows (P := Tryz.prog) w 25 ty 74 i0 _ 3 24 Tryz.underlying25 hi hz0 hz1 hz2 rfl (by decide) ⟨g, 0, none⟩ k k (iis (cs.take k)) (by rw [iis_length, List.length_take]; omega)
    (fun j u hu => by
      rw [e, hm.cell]
      rw [← iis_take] at hu
      obtain ⟨hj, hju⟩ := List.getElem?_eq_some_iff.1 hu
      rw [List.getElem_take] at hju
      simp only [List.getElem?_toArray]
      rw [List.getElem?_eq_getElem (by simp at hj; omega), hju])
    ⟨bx, 0, none⟩ 1 1 (iis [x]) (by rw [iis_length]; rfl) (fun j u hu => by rw [e, hb.cell]; simpa using hu) (by omega) (by unfold maxLen; omega) (by omega)
  refine ⟨v', w', h1, ?_, (Keep.refl NoB w).grown h3 (fun g e _ => by cases e)⟩
  rw [← iis_append] at h2
  exact Own.of_row h2 (fun j hj => Nat.le_trans hK hj)

/-- The list, if it is a body; none, if it is not. -/
def pickL (m : List I3) : List I3 := if okB m = true then m else []
theorem pickL_ok {m : List I3} (h : okB m = true) : pickL m = m := if_pos h
theorem pickL_no {m : List I3} (h : okB m = false) : pickL m = [] := if_neg (by rw [h]; decide)
theorem rd_drop {w : World} {g : Nat} {t : TypeId} {cs : List I3} (h : Blk w g t (iis cs).toArray) (k : Nat) : Rd w (some ⟨g, k * 3, none⟩) (iis (cs.drop k)) := fun _ =>
  ⟨g, k * 3, rfl, fun j u hu => by
    rw [← iis_drop, List.getElem?_drop] at hu
    rw [h.cell]; simpa using hu⟩
/-- What comes of a row that was made, if it is a body. -/
theorem pick_own {w0 w w' : World} {m : List I3} {n c : Nat} {A : Option Addr} (hml : m.length = n) (ho : Own w 74 3 (Fresh w0) (.slice A n c) n (iis m)) (hk : Keep NoB w w') (hK : Keep NoB w0 w') :
    LstR w0 (pickL m) (chkB m) (.returned (.tuple #[ifV m (.slice A n c), .int .i64 (chkB m)])) w' := by
  refine ⟨_, rfl, ?_, hK⟩
  cases h : okB m
  · rw [pickL_no h, ifV_no h]; exact Own.nil _ _ _ _
  · rw [pickL_ok h, ifV_ok h, hml]; exact ho.keepN hk
theorem insert_pick {l : List I3} {p : Int} {x : I3} {m : List I3} (hb : hasB l p = true) (hm : insL l p.toNat x = m) : insG l p x = pickL m ∧ insE l p x = chkB m := by
  unfold insG insE chkB pickL
  rw [hm, hb]
  simp

end Go.Proofs.YtbnekeomdhljhaaGreatDoor.C

namespace Go.Proofs.YtbnekeomdhljhaaGreatDoor.C
open Go.RowKit O

/-- What is answered: the list, and the error. -/
def delG (l : List I3) (p : Int) : List I3 := if hasB l p = true ∧ okB (delL l p.toNat) = true then delL l p.toNat else []
def delE (l : List I3) (p : Int) : Int := if hasB l p = true ∧ okB (delL l p.toNat) = true then 0 else 50
theorem delete_pick {l : List I3} {p : Int} {m : List I3} (hb : hasB l p = true) (hm : delL l p.toNat = m) : delG l p = pickL m ∧ delE l p = chkB m := by
  unfold delG delE chkB pickL
  rw [hm, hb]
  simp
/-- The first ones of a block that is known whole, as a row with room. -/
theorem row_take {w : World} {g n k : Nat} {cs : List I3} (h : Blk w g 74 (iis cs).toArray) (hn : cs.length = n) (hk : k ≤ n) (h5 : n ≤ 512) : w.ownsRow 0 74 3 (.slice (some ⟨g, 0, none⟩) k n) k (iis (cs.take k)) := by
  refine ⟨by rw [iis_length, List.length_take]; omega, .inr ⟨g, n, (iis cs).toArray, rfl, Nat.zero_le _, h, hk, by unfold maxLen; omega, by simp [iis_length, hn], ?_⟩⟩
  show (iis cs).take (k * 3) = _
  exact iis_take cs k

end Go.Proofs.YtbnekeomdhljhaaGreatDoor.C

namespace Go.Proofs.YtbnekeomdhljhaaGreatDoor.O
open Go.RowKit

theorem num_case (l : List UInt8) (p M : Nat) : ∃ n r q : Nat, V.NumR l p M = (n, r, q) ∧ (r = 0 → n ≤ M ∧ n < 18446744073709551616) ∧ (r ≠ 0 → n = 0) := by
  refine ⟨_, _, _, rfl, fun h => ?_, fun h => ?_⟩
  · have := num_ok (l := l) (p := p) (m := M) h; exact ⟨this.2.1, this.2.2.1⟩
  · exact (V.bnd_zero (l.drop p) M h).1
theorem hi_nat {k : Int} (h1 : k ≠ 1) : ∃ M : Nat, hi k = (M : Int) ∧ M ≤ 511 := by
  refine ⟨(hi k).toNat, ?_, ?_⟩ <;> unfold hi <;> rw [if_neg h1] <;> repeat' split
  all_goals simp
theorem keepBr {w w1 w2 : World} {br : Nat} (h : Keep NoB w w1) (h2 : Keep (fun k => k = br) w1 w2) : Keep (fun k => k = br) w w2 := (h.mono (fun _ hf _ => hf.elim)).trans h2 (fun _ ho _ => ho)
theorem reads_ret {w w' : World} {br : Nat} {O : Nat → Prop} {l : List UInt8} {q er q' er' : Nat} {a a' : Int} (h1 : a = a') (h2 : er = er') (h3 : q = q') (h : V.ReelAt w' br O l q) (hk : Keep (fun k => k = br) w w') :
    V.Reads w br O l q' (.int .i64 a') er' (.returned (.tuple #[.int .i64 a, .int .i64 er])) w' := by subst h1 h2 h3; exact ⟨rfl, h, hk⟩
theorem blk5 {w : World} {g : Nat} {t : TypeId} {a0 a1 a2 a3 a4 : Value} (h : Blk w g t #[a0, a1, a2, a3, a4]) :
    w.cell? ⟨g, 0, none⟩ = some a0 ∧ w.cell? ⟨g, 1, none⟩ = some a1 ∧ w.cell? ⟨g, 2, none⟩ = some a2 ∧ w.cell? ⟨g, 3, none⟩ = some a3 ∧ w.cell? ⟨g, 4, none⟩ = some a4 := ⟨h.cell 0, h.cell 1, h.cell 2, h.cell 3, h.cell 4⟩
theorem reel_lt {w : World} {br p : Nat} {O : Nat → Prop} {l : List UInt8} (h : V.ReelAt w br O l p) : br < w.heap.size := by
  obtain ⟨A, c, hb, _⟩ := h.cells
  exact hb.lt

set_option maxHeartbeats 2000000 in
theorem read_any (k : Int) (sh gu : Value) (w : World) (br : Nat) (O : Nat → Prop) (l : List UInt8) (p : Nat) (h : V.ReelAt w br O l p) (hlen : l.length ≤ 140737488355328) :
    Calls Tryz.prog 157 #[opV k sh gu, .pointer (some ⟨br, 0, none⟩)] w (V.Reads w br O l (decP k l p).2.2 (.int .i64 (decP k l p).1) (decP k l p).2.1) := by
  have hK := (Keep.refl NoB w).alloc (.cells #[.int .i64 k, .int .i64 (lo k), .int .i64 (hi k), sh, gu] 209)
  have h1 := h.keep hK (fun _ _ => id)
  have hb0 := Blk.new w 209 #[.int .i64 k, .int .i64 (lo k), .int .i64 (hi k), sh, gu]
  have hbr := reel_lt h
  unfold opV
  by_cases h0 : k = 0
  · subst h0
    have HX : Hid (decP 0 l p = (0, 0, p)) := rfl
    clear hb0 hbr
    go_enter Tryz.func157, Tryz.ntmps157
    go_wp2
    go_ret2
    rw [HX.out]
    exact ⟨rfl, h1, hK.mono (fun _ hf _ => hf.elim)⟩
  · have q0 : (k == 0) = false := by rw [beq_eq_false_iff_ne]; exact h0
    by_cases h1k : k = 1
    · subst h1k
      have HS := Lib.hid (V.rsigned_any _ br O l p (lo 1) (hi 1) h1 hlen)
      have HX : Hid (decP 1 l p = V.SigR l p (lo 1) (hi 1)) := rfl
      rw [HX.out]
      generalize V.SigR l p (lo 1) (hi 1) = x at HS ⊢
      clear HX h h1 hb0 hbr
      go_enter Tryz.func157, Tryz.ntmps157
      go_wp2_with fail
      refine HS.out.mono ?_
      rintro e w1 ⟨rfl, h2, k2⟩
      go_wp2
      go_ret2
      exact ⟨rfl, h2, keepBr hK k2⟩
    · have q1 : (k == 1) = false := by rw [beq_eq_false_iff_ne]; exact h1k
      obtain ⟨M, hM, hM5⟩ := hi_nat h1k
      have hw : IntKind.u64.wrap (M : Int) = (M : Int) := by simp [IntKind.wrap, IntKind.bits, IntKind.signed]; omega
      have HS := Lib.hid (V.rnumber_any _ br O l p M h1 hlen)
      obtain ⟨n, r, q, hN, hN0, hN1⟩ := num_case l p M
      have HX : Hid (decP k l p = if r ≠ 0 then (0, r, q) else if inK k n = true then ((n : Int), 0, q) else (0, 40, q)) := by
        show _ = _
        unfold decP
        rw [if_neg h0, if_neg h1k, show (hi k).toNat = M by omega, hN]
      rw [hN] at HS
      have HG := Lib.hid (fun w t ht => has_gen k (n : Int) (opV k sh gu) t w ht ⟨sh, gu, rfl⟩)
      unfold opV at HG
      rw [hM] at hb0 HG HS ⊢
      have hK' : Keep NoB w (w.alloc (.cells #[.int .i64 k, .int .i64 (lo k), .int .i64 (M : Int), sh, gu] 209)) := (Keep.refl NoB w).alloc _
      clear h h1 hK hN hM
      by_cases hr : r = 0
      · subst hr
        obtain ⟨hn1, hn2⟩ := hN0 rfl
        have hwn : IntKind.i64.wrap (n : Int) = (n : Int) := by simp [IntKind.wrap, IntKind.bits, IntKind.signed]; omega
        clear hN0 hN1
        cases hin : inK k (n : Int)
        · have HX2 : Hid (decP k l p = (0, 40, q)) := by show _ = _; rw [HX.out, hin]; simp
          have HH := Lib.hid (fun w => HG.out w false hin)
          clear HX HG hin
          go_enter Tryz.func157, Tryz.ntmps157
          go_wp2_with fail
          refine HS.out.mono ?_
          rintro e w1 ⟨rfl, h2, k2⟩
          have b1 := hb0.keep k2 (fun e => by omega)
          obtain ⟨c0, c1, c2, c3, c4⟩ := blk5 b1
          go_wp2_with fail
          refine (HH.out _).mono ?_
          rintro e w2 ⟨rfl, k3⟩
          go_wp2
          go_ret2
          rw [HX2.out]
          exact ⟨rfl, h2.keep k3 (fun _ _ => id), (keepBr hK' k2).trans (k3.mono (fun _ hf _ => hf.elim)) (fun _ ho _ => ho)⟩
        · have HX2 : Hid (decP k l p = ((n : Int), 0, q)) := by show _ = _; rw [HX.out, hin]; simp
          have HH := Lib.hid (fun w => HG.out w true hin)
          clear HX HG hin
          go_enter Tryz.func157, Tryz.ntmps157
          go_wp2_with fail
          refine HS.out.mono ?_
          rintro e w1 ⟨rfl, h2, k2⟩
          have b1 := hb0.keep k2 (fun e => by omega)
          obtain ⟨c0, c1, c2, c3, c4⟩ := blk5 b1
          go_wp2_with fail
          refine (HH.out _).mono ?_
          rintro e w2 ⟨rfl, k3⟩
          go_wp2
          go_ret2
          rw [HX2.out]
          exact ⟨rfl, h2.keep k3 (fun _ _ => id), (keepBr hK' k2).trans (k3.mono (fun _ hf _ => hf.elim)) (fun _ ho _ => ho)⟩
      · have hr1 : ((r : Int) != 0) = true := by rw [bne_iff_ne]; omega
        have HX2 : Hid (decP k l p = (0, r, q)) := by show _ = _; rw [HX.out, if_pos hr]
        clear HX HG hN0 hN1 hr
        go_enter Tryz.func157, Tryz.ntmps157
        go_wp2_with fail
        refine HS.out.mono ?_
        rintro e w1 ⟨rfl, h2, k2⟩
        have b1 := hb0.keep k2 (fun e => by omega)
        obtain ⟨c0, c1, c2, c3, c4⟩ := blk5 b1
        go_wp2
        go_ret2
        rw [HX2.out]
        exact ⟨rfl, h2, keepBr hK' k2⟩

/-! ### Decode -/

/-- What Decode leaves. -/
def DecR (w : World) (br : Nat) (O : Nat → Prop) (l : List UInt8) (d : Dec) (e : Ending) (w' : World) : Prop :=
  e = .returned (.tuple #[instV d.op d.a d.b, .int .i64 d.er]) ∧ V.ReelAt w' br O l d.pl ∧ Keep (fun k => k = br) w w'
theorem dec_case (k : Int) (l : List UInt8) (p : Nat) : ∃ (a : Int) (r q : Nat), decP k l p = (a, r, q) := ⟨_, _, _, rfl⟩
theorem read_at (k : Int) (v : Value) (w : World) (br : Nat) (O : Nat → Prop) (l : List UInt8) (p : Nat) (a : Int) (r q : Nat) (hd : decP k l p = (a, r, q)) (hv : ∃ sh gu, v = opV k sh gu) (h : V.ReelAt w br O l p) (hlen : l.length ≤ 140737488355328) :
    Calls Tryz.prog 157 #[v, .pointer (some ⟨br, 0, none⟩)] w (V.Reads w br O l q (.int .i64 a) r) := by
  obtain ⟨sh, gu, rfl⟩ := hv
  have := read_any k sh gu w br O l p h hlen
  rw [hd] at this
  exact this
theorem out3 {w w1 : World} {br B : Nat} (hk : Keep (fun k => k = br) w w1) (hB : w.heap.size ≤ B) (u0 u1 u2 : Value) : Keep (fun k => k = br) w (((w1.setCell ⟨B, 0, none⟩ u0).setCell ⟨B, 1, none⟩ u1).setCell ⟨B, 2, none⟩ u2) := by
  have hn : ∀ i, (⟨B, i, none⟩ : Addr).block < w.heap.size → (⟨B, i, none⟩ : Addr).block = br := fun i hl => by have : B < w.heap.size := hl; omega
  exact ((hk.setCell (hn 0) _).setCell (hn 1) _).setCell (hn 2) _
theorem reel3 {w : World} {br B p : Nat} {O : Nat → Prop} {l : List UInt8} (h : V.ReelAt w br O l p) (hB : ¬ O B) (u0 u1 u2 : Value) : V.ReelAt (((w.setCell ⟨B, 0, none⟩ u0).setCell ⟨B, 1, none⟩ u1).setCell ⟨B, 2, none⟩ u2) br O l p := by
  have hs : ∀ (w : World) i u, V.ReelAt w br O l p → V.ReelAt (w.setCell ⟨B, i, none⟩ u) br O l p := fun w i u h =>
    h.keep (O' := fun k => k = B) (Keep.setCell (O := fun k => k = B) (p := ⟨B, i, none⟩) (Keep.refl _ w) (fun _ => rfl) u) (fun k ho e => hB (e ▸ ho))
  exact hs _ 2 u2 (hs _ 1 u1 (hs _ 0 u0 h))
theorem reel_new {w : World} {br p : Nat} {O : Nat → Prop} {l : List UInt8} (h : V.ReelAt w br O l p) : V.ReelAt w br (fun k => O k ∧ k < w.heap.size) l p := h.mono fun _ ho hk => ⟨ho, hk⟩

set_option maxHeartbeats 2000000 in
theorem decode_any (w : World) (br : Nat) (O : Nat → Prop) (l : List UInt8) (p : Nat) (hO : ∀ k, O k → k < w.heap.size) (h : V.ReelAt w br O l p) (hlen : l.length ≤ 140737488355328) :
    Calls Tryz.prog 114 #[.pointer (some ⟨br, 0, none⟩)] w (DecR w br O l (decI l p)) := by
  have hK := (Keep.refl NoB w).alloc (.cells #[.int .i64 0, .int .i64 0, .int .i64 0] 74)
  have h1 := h.keep hK (fun _ _ => id)
  have hb0 := Blk.new w 74 #[.int .i64 0, .int .i64 0, .int .i64 0]
  have hnB : ¬ O w.heap.size := fun ho => by have := hO _ ho; omega
  have hbr := reel_lt h
  have HS := Lib.hid (V.rnumber_any _ br O l p 29 h1 hlen)
  obtain ⟨n, r, q, hN, hN0, hN1⟩ := num_case l p 29
  rw [hN] at HS
  clear h h1 hO
  by_cases hr : r = 0
  · subst hr
    obtain ⟨hn1, hn2⟩ := hN0 rfl
    have hwn : IntKind.i64.wrap (n : Int) = (n : Int) := by simp [IntKind.wrap, IntKind.bits, IntKind.signed]; omega
    have hkk := kinds_ok (n : Int)
    have HKn := Lib.hid (fun w => kinds_any (n : Int) w)
    obtain ⟨a, r1, q1, hA⟩ := dec_case (rowAt n).ka l q
    have HOA := Lib.hid (fun w => op_gen (rowAt n).ka ⟨hkk.1, hkk.2.1⟩ w)
    have HRA := Lib.hid (fun v hv w h => read_at (rowAt n).ka v w br O l q a r1 q1 hA hv h hlen)
    have HOB := Lib.hid (fun w => op_gen (rowAt n).kb ⟨hkk.2.2.1, hkk.2.2.2⟩ w)
    have HDB := Lib.hid (fun p => dec_case (rowAt n).kb l p)
    have HRB := Lib.hid (fun p b r2 q2 hB v hv w h => read_at (rowAt n).kb v w br O l p b r2 q2 hB hv h hlen)
    have HD2 := Lib.hid (fun hr => decI_2 (l := l) (p := p) hN hA hr)
    have HD3 := Lib.hid (fun (hr : r1 = 0) b r2 q2 hB hr2 => decI_3 (l := l) (p := p) (b := b) (r2 := r2) (q2 := q2) hN (by rw [hA, hr]) hB hr2)
    have HD4 := Lib.hid (fun (hr : r1 = 0) b q2 hB => decI_4 (l := l) (p := p) (b := b) (q2 := q2) hN (by rw [hA, hr]) hB)
    clear hN0 hN1 hkk hA hN
    generalize (rowAt (n : Int)).ka = ka at *
    generalize (rowAt (n : Int)).kb = kb at *
    go_enter Tryz.func114, Tryz.ntmps114
    go_wp2_with fail
    refine HS.out.mono ?_
    rintro e w1 ⟨rfl, h2, k2⟩
    replace hb0 := hb0.keep k2 (fun e => by omega)
    replace hK := keepBr hK k2
    clear k2
    go_wp2_with fail
    refine (HKn.out _).mono ?_
    rintro e w2 ⟨rfl, k2⟩
    replace hb0 := hb0.keep k2 id
    replace hK := hK.trans (k2.mono (fun _ hf _ => hf.elim)) (fun _ ho _ => ho)
    replace h2 := h2.keep k2 (fun _ _ => id)
    clear k2
    go_wp2_with fail
    refine (HOA.out _).mono ?_
    rintro e w3 ⟨u, rfl, hu, k2⟩
    replace hb0 := hb0.keep k2 id
    replace hK := hK.trans (k2.mono (fun _ hf _ => hf.elim)) (fun _ ho _ => ho)
    replace h2 := h2.keep k2 (fun _ _ => id)
    clear k2
    go_wp2_with fail
    refine (HRA.out u hu _ h2).mono ?_
    rintro e w4 ⟨rfl, h3, k2⟩
    replace hb0 := hb0.keep k2 (fun e => by omega)
    replace hK := hK.trans k2 (fun _ ho _ => ho)
    clear k2 h2 hu
    by_cases hr1 : r1 = 0
    · subst hr1
      obtain ⟨b, r2, q2, hB⟩ := HDB.out q1
      have HRB2 := Lib.hid (HRB.out q1 b r2 q2 hB)
      go_wp2_with fail
      refine (HOB.out _).mono ?_
      rintro e w5 ⟨u2, rfl, hu2, k2⟩
      replace hb0 := hb0.keep k2 id
      replace hK := hK.trans (k2.mono (fun _ hf _ => hf.elim)) (fun _ ho _ => ho)
      replace h3 := h3.keep k2 (fun _ _ => id)
      clear k2
      go_wp2_with fail
      refine (HRB2.out u2 hu2 _ h3).mono ?_
      rintro e w6 ⟨rfl, h4, k2⟩
      replace hb0 := hb0.keep k2 (fun e => by omega)
      replace hK := hK.trans k2 (fun _ ho _ => ho)
      clear k2 h3 hu2 HRB2 HRB
      have hz := hb0.lt
      have f0 := fun i => hb0.frozen i
      by_cases hr2 : r2 = 0
      · subst hr2
        have HX := Lib.hid (HD4.out (by first | rfl | trivial) b q2 hB)
        clear HD2 HD3 HD4 hB
        obtain ⟨x0, x1, x2⟩ := blk_inst hb0
        go_wp2
        refine bodyPost_ret (v := .tuple #[instV n a b, .int .i64 0]) (by simp [results, Tryz.results114, go_sem, x0, x1, x2]) rfl ?_
        rw [HX.out]
        exact ⟨rfl, reel3 h4 hnB _ _ _, out3 hK (Nat.le_refl _) _ _ _⟩
      · have HX := Lib.hid (HD3.out (by first | rfl | trivial) b r2 q2 hB hr2)
        have hr3 : ((r2 : Int) != 0) = true := by rw [bne_iff_ne]; omega
        clear HD2 HD3 HD4 hB hr2
        obtain ⟨x0, x1, x2⟩ := blk_inst hb0
        go_wp2
        refine bodyPost_ret (v := .tuple #[instV 0 0 0, .int .i64 r2]) (by simp [results, Tryz.results114, go_sem, x0, x1, x2]) rfl ?_
        rw [HX.out]
        exact ⟨rfl, reel3 h4 hnB _ _ _, out3 hK (Nat.le_refl _) _ _ _⟩
    · have HX := Lib.hid (HD2.out hr1)
      have hr3 : ((r1 : Int) != 0) = true := by rw [bne_iff_ne]; omega
      clear HD2 HD3 HD4 hr1 HOB HRB HDB HRA HOA
      have hz := hb0.lt
      have f0 := fun i => hb0.frozen i
      obtain ⟨x0, x1, x2⟩ := blk_inst hb0
      go_wp2
      refine bodyPost_ret (v := .tuple #[instV 0 0 0, .int .i64 r1]) (by simp [results, Tryz.results114, go_sem, x0, x1, x2]) rfl ?_
      rw [HX.out]
      exact ⟨rfl, reel3 h3 hnB _ _ _, out3 hK (Nat.le_refl _) _ _ _⟩
  · have HX := Lib.hid (decI_1 hN hr)
    have hr3 : ((r : Int) != 0) = true := by rw [bne_iff_ne]; omega
    clear hN0 hN1 hN hr
    go_enter Tryz.func114, Tryz.ntmps114
    go_wp2_with fail
    refine HS.out.mono ?_
    rintro e w1 ⟨rfl, h2, k2⟩
    replace hb0 := hb0.keep k2 (fun e => by omega)
    replace hK := keepBr hK k2
    clear k2
    have hz := hb0.lt
    have f0 := fun i => hb0.frozen i
    obtain ⟨x0, x1, x2⟩ := blk_inst hb0
    go_wp2
    refine bodyPost_ret (v := .tuple #[instV 0 0 0, .int .i64 r]) (by simp [results, Tryz.results114, go_sem, x0, x1, x2]) rfl ?_
    rw [HX.out]
    exact ⟨rfl, reel3 h2 hnB _ _ _, out3 hK (Nat.le_refl _) _ _ _⟩

end Go.Proofs.YtbnekeomdhljhaaGreatDoor.O

namespace Go.Proofs.YtbnekeomdhljhaaGreatDoor.O
open Go.RowKit

theorem ref_lt {w : World} {br p : Nat} {O : Nat → Prop} {l : List UInt8} (h : V.RefAt w br O l p) : br < w.heap.size := by
  obtain ⟨A, c, hb, _⟩ := h.cells
  exact hb.lt
theorem ref3 {w : World} {br B p : Nat} {O : Nat → Prop} {l : List UInt8} (h : V.RefAt w br O l p) (hB : ¬ O B) (u0 u1 u2 : Value) : V.RefAt (((w.setCell ⟨B, 0, none⟩ u0).setCell ⟨B, 1, none⟩ u1).setCell ⟨B, 2, none⟩ u2) br O l p := by
  have hs : ∀ (w : World) i u, V.RefAt w br O l p → V.RefAt (w.setCell ⟨B, i, none⟩ u) br O l p := fun w i u h =>
    h.keep (O' := fun k => k = B) (Keep.setCell (O := fun k => k = B) (p := ⟨B, i, none⟩) (Keep.refl _ w) (fun _ => rfl) u) (fun k ho e => hB (e ▸ ho))
  exact hs _ 2 u2 (hs _ 1 u1 (hs _ 0 u0 h))

set_option maxHeartbeats 2000000 in
theorem rone_any (k : Int) (w : World) (br : Nat) (O : Nat → Prop) (l : List UInt8) (p : Nat) (hk : 0 ≤ k ∧ k ≤ 10) (h : V.RefAt w br O l p) (hlen : l.length ≤ 140737488355328) :
    Calls Tryz.prog 160 #[.pointer (some ⟨br, 0, none⟩), .int .i64 k] w (V.RReads w br O l (decP k l p).2.2 (.int .i64 (decP k l p).1) (decP k l p).2.1) := by
  by_cases h0 : k = 0
  · subst h0
    have HX : Hid (decP 0 l p = (0, 0, p)) := rfl
    go_enter Tryz.func160, Tryz.ntmps160
    go_wp2
    go_ret2
    rw [HX.out]
    exact ⟨rfl, h, Keep.refl _ _⟩
  · have q0 : (k == 0) = false := by rw [beq_eq_false_iff_ne]; exact h0
    by_cases h1k : k = 1
    · subst h1k
      have HS := Lib.hid (V.refsigned_any _ br O l p (-9223372036854775808) 9223372036854775807 h hlen)
      have HX : Hid (decP 1 l p = V.SigR l p (-9223372036854775808) 9223372036854775807) := rfl
      rw [HX.out]
      generalize V.SigR l p (-9223372036854775808) 9223372036854775807 = x at HS ⊢
      clear HX h
      go_enter Tryz.func160, Tryz.ntmps160
      go_wp2_with fail
      refine HS.out.mono ?_
      rintro e w1 ⟨rfl, h2, k2⟩
      go_wp2
      go_ret2
      exact ⟨rfl, h2, k2⟩
    · have q1 : (k == 1) = false := by rw [beq_eq_false_iff_ne]; exact h1k
      obtain ⟨M, hM, hM5⟩ := hi_nat h1k
      have hw : IntKind.u64.wrap (M : Int) = (M : Int) := by simp [IntKind.wrap, IntKind.bits, IntKind.signed]; omega
      have HM := Lib.hid (fun w => rmost_any k w hk.1 hk.2 h1k)
      have HL := Lib.hid (fun w => rleast_any k w hk.1 hk.2 h1k)
      have HS := Lib.hid (fun w h => V.refnumber_any w br O l p M h hlen)
      obtain ⟨n, r, q, hN, hN0, hN1⟩ := num_case l p M
      have HX : Hid (decP k l p = if r ≠ 0 then (0, r, q) else if inK k n = true then ((n : Int), 0, q) else (0, 40, q)) := by
        show _ = _
        unfold decP
        rw [if_neg h0, if_neg h1k, show (hi k).toNat = M by omega, hN]
      rw [hN] at HS
      rw [hM] at HM
      by_cases hr : r = 0
      · subst hr
        obtain ⟨hn1, hn2⟩ := hN0 rfl
        have hwn : IntKind.i64.wrap (n : Int) = (n : Int) := by simp [IntKind.wrap, IntKind.bits, IntKind.signed]; omega
        have hiff : inK k (n : Int) = decide (lo k ≤ (n : Int)) := by
          unfold inK
          rw [decide_eq_decide, hM]
          omega
        rw [hiff] at HX
        clear hN0 hN1 hiff hN hM hk h0 h1k
        generalize lo k = L at HL HX
        by_cases hL : (n : Int) < L
        · have HX2 : Hid (decP k l p = (0, 40, q)) := by show _ = _; rw [HX.out, if_neg (by simp), if_neg (by simp; omega)]
          clear HX
          go_enter Tryz.func160, Tryz.ntmps160
          go_wp2_with fail
          refine (HM.out _).mono ?_
          rintro e w1 ⟨rfl, k1⟩
          go_wp2_with fail
          refine (HS.out _ (h.keep k1 (fun _ _ => id))).mono ?_
          rintro e w2 ⟨rfl, h2, k2⟩
          go_wp2_with fail
          refine (HL.out _).mono ?_
          rintro e w3 ⟨rfl, rfl⟩
          go_wp2
          go_ret2
          rw [HX2.out]
          exact ⟨rfl, h2, keepBr k1 k2⟩
        · have HX2 : Hid (decP k l p = ((n : Int), 0, q)) := by show _ = _; rw [HX.out, if_neg (by simp), if_pos (by simp; omega)]
          have hL' : decide ((n : Int) < L) = false := by simpa using hL
          clear HX hL
          go_enter Tryz.func160, Tryz.ntmps160
          go_wp2_with fail
          refine (HM.out _).mono ?_
          rintro e w1 ⟨rfl, k1⟩
          go_wp2_with fail
          refine (HS.out _ (h.keep k1 (fun _ _ => id))).mono ?_
          rintro e w2 ⟨rfl, h2, k2⟩
          go_wp2_with fail
          refine (HL.out _).mono ?_
          rintro e w3 ⟨rfl, rfl⟩
          go_wp2
          go_ret2
          rw [HX2.out]
          exact ⟨rfl, h2, keepBr k1 k2⟩
      · have hr1 : ((r : Int) != 0) = true := by rw [bne_iff_ne]; omega
        have HX2 : Hid (decP k l p = (0, r, q)) := by show _ = _; rw [HX.out, if_pos hr]
        clear HX hN0 hN1 hr hN hM hk h0 h1k HL
        go_enter Tryz.func160, Tryz.ntmps160
        go_wp2_with fail
        refine (HM.out _).mono ?_
        rintro e w1 ⟨rfl, k1⟩
        go_wp2_with fail
        refine (HS.out _ (h.keep k1 (fun _ _ => id))).mono ?_
        rintro e w2 ⟨rfl, h2, k2⟩
        go_wp2
        go_ret2
        rw [HX2.out]
        exact ⟨rfl, h2, keepBr k1 k2⟩

/-- What the document's Decode leaves. -/
def RDecR (w : World) (br : Nat) (O : Nat → Prop) (l : List UInt8) (d : Dec) (e : Ending) (w' : World) : Prop :=
  e = .returned (.tuple #[instV d.op d.a d.b, .int .i64 d.er]) ∧ V.RefAt w' br O l d.pl ∧ Keep (fun k => k = br) w w'
theorem rone_at (k : Int) (w : World) (br : Nat) (O : Nat → Prop) (l : List UInt8) (p : Nat) (a : Int) (r q : Nat) (hd : decP k l p = (a, r, q)) (hk : 0 ≤ k ∧ k ≤ 10) (h : V.RefAt w br O l p) (hlen : l.length ≤ 140737488355328) :
    Calls Tryz.prog 160 #[.pointer (some ⟨br, 0, none⟩), .int .i64 k] w (V.RReads w br O l q (.int .i64 a) r) := by
  have := rone_any k w br O l p hk h hlen
  rw [hd] at this
  exact this

set_option maxHeartbeats 2000000 in
theorem rdecode_any (w : World) (br : Nat) (O : Nat → Prop) (l : List UInt8) (p : Nat) (hO : ∀ k, O k → k < w.heap.size) (h : V.RefAt w br O l p) (hlen : l.length ≤ 140737488355328) :
    Calls Tryz.prog 119 #[.pointer (some ⟨br, 0, none⟩)] w (RDecR w br O l (decI l p)) := by
  have hK := (Keep.refl NoB w).alloc (.cells #[.int .i64 0, .int .i64 0, .int .i64 0] 74)
  have h1 := h.keep hK (fun _ _ => id)
  have hb0 := Blk.new w 74 #[.int .i64 0, .int .i64 0, .int .i64 0]
  have hnB : ¬ O w.heap.size := fun ho => by have := hO _ ho; omega
  have hbr := ref_lt h
  have HS := Lib.hid (V.refnumber_any _ br O l p 29 h1 hlen)
  obtain ⟨n, r, q, hN, hN0, hN1⟩ := num_case l p 29
  rw [hN] at HS
  clear h h1 hO
  by_cases hr : r = 0
  · subst hr
    obtain ⟨hn1, hn2⟩ := hN0 rfl
    have hwn : IntKind.i64.wrap (n : Int) = (n : Int) := by simp [IntKind.wrap, IntKind.bits, IntKind.signed]; omega
    have hkk := kinds_ok (n : Int)
    have HKn := Lib.hid (fun w => rkinds_any (n : Int) w)
    obtain ⟨a, r1, q1, hA⟩ := dec_case (rowAt n).ka l q
    have HRA := Lib.hid (fun w h => rone_at (rowAt n).ka w br O l q a r1 q1 hA ⟨hkk.1, hkk.2.1⟩ h hlen)
    have HDB := Lib.hid (fun p => dec_case (rowAt n).kb l p)
    have HRB := Lib.hid (fun p b r2 q2 hB w h => rone_at (rowAt n).kb w br O l p b r2 q2 hB ⟨hkk.2.2.1, hkk.2.2.2⟩ h hlen)
    have HD2 := Lib.hid (fun hr => decI_2 (l := l) (p := p) hN hA hr)
    have HD3 := Lib.hid (fun (hr : r1 = 0) b r2 q2 hB hr2 => decI_3 (l := l) (p := p) (b := b) (r2 := r2) (q2 := q2) hN (by rw [hA, hr]) hB hr2)
    have HD4 := Lib.hid (fun (hr : r1 = 0) b q2 hB => decI_4 (l := l) (p := p) (b := b) (q2 := q2) hN (by rw [hA, hr]) hB)
    clear hN0 hN1 hkk hA hN
    generalize (rowAt (n : Int)).ka = ka at *
    generalize (rowAt (n : Int)).kb = kb at *
    go_enter Tryz.func119, Tryz.ntmps119
    go_wp2_with fail
    refine HS.out.mono ?_
    rintro e w1 ⟨rfl, h2, k2⟩
    replace hb0 := hb0.keep k2 (fun e => by omega)
    replace hK := keepBr hK k2
    clear k2
    go_wp2_with fail
    refine (HKn.out _).mono ?_
    rintro e w2 ⟨rfl, rfl⟩
    go_wp2_with fail
    refine (HRA.out _ h2).mono ?_
    rintro e w4 ⟨rfl, h3, k2⟩
    replace hb0 := hb0.keep k2 (fun e => by omega)
    replace hK := hK.trans k2 (fun _ ho _ => ho)
    clear k2 h2
    by_cases hr1 : r1 = 0
    · subst hr1
      obtain ⟨b, r2, q2, hB⟩ := HDB.out q1
      have HRB2 := Lib.hid (HRB.out q1 b r2 q2 hB)
      go_wp2_with fail
      refine (HRB2.out _ h3).mono ?_
      rintro e w6 ⟨rfl, h4, k2⟩
      replace hb0 := hb0.keep k2 (fun e => by omega)
      replace hK := hK.trans k2 (fun _ ho _ => ho)
      clear k2 h3 HRB2 HRB
      have hz := hb0.lt
      have f0 := fun i => hb0.frozen i
      by_cases hr2 : r2 = 0
      · subst hr2
        have HX := Lib.hid (HD4.out (by first | rfl | trivial) b q2 hB)
        clear HD2 HD3 HD4 hB
        obtain ⟨x0, x1, x2⟩ := blk_inst hb0
        go_wp2
        refine bodyPost_ret (v := .tuple #[instV n a b, .int .i64 0]) (by simp [results, Tryz.results119, go_sem, x0, x1, x2]) rfl ?_
        rw [HX.out]
        exact ⟨rfl, ref3 h4 hnB _ _ _, out3 hK (Nat.le_refl _) _ _ _⟩
      · have HX := Lib.hid (HD3.out (by first | rfl | trivial) b r2 q2 hB hr2)
        have hr3 : ((r2 : Int) != 0) = true := by rw [bne_iff_ne]; omega
        clear HD2 HD3 HD4 hB hr2
        obtain ⟨x0, x1, x2⟩ := blk_inst hb0
        go_wp2
        refine bodyPost_ret (v := .tuple #[instV 0 0 0, .int .i64 r2]) (by simp [results, Tryz.results119, go_sem, x0, x1, x2]) rfl ?_
        rw [HX.out]
        exact ⟨rfl, ref3 h4 hnB _ _ _, out3 hK (Nat.le_refl _) _ _ _⟩
    · have HX := Lib.hid (HD2.out hr1)
      have hr3 : ((r1 : Int) != 0) = true := by rw [bne_iff_ne]; omega
      clear HD2 HD3 HD4 hr1 HRB HDB HRA
      have hz := hb0.lt
      have f0 := fun i => hb0.frozen i
      obtain ⟨x0, x1, x2⟩ := blk_inst hb0
      go_wp2
      refine bodyPost_ret (v := .tuple #[instV 0 0 0, .int .i64 r1]) (by simp [results, Tryz.results119, go_sem, x0, x1, x2]) rfl ?_
      rw [HX.out]
      exact ⟨rfl, ref3 h3 hnB _ _ _, out3 hK (Nat.le_refl _) _ _ _⟩
  · have HX := Lib.hid (decI_1 hN hr)
    have hr3 : ((r : Int) != 0) = true := by rw [bne_iff_ne]; omega
    clear hN0 hN1 hN hr
    go_enter Tryz.func119, Tryz.ntmps119
    go_wp2_with fail
    refine HS.out.mono ?_
    rintro e w1 ⟨rfl, h2, k2⟩
    replace hb0 := hb0.keep k2 (fun e => by omega)
    replace hK := keepBr hK k2
    clear k2
    have hz := hb0.lt
    have f0 := fun i => hb0.frozen i
    obtain ⟨x0, x1, x2⟩ := blk_inst hb0
    go_wp2
    refine bodyPost_ret (v := .tuple #[instV 0 0 0, .int .i64 r]) (by simp [results, Tryz.results119, go_sem, x0, x1, x2]) rfl ?_
    rw [HX.out]
    exact ⟨rfl, ref3 h2 hnB _ _ _, out3 hK (Nat.le_refl _) _ _ _⟩

end Go.Proofs.YtbnekeomdhljhaaGreatDoor.O

namespace Go.Proofs.YtbnekeomdhljhaaGreatDoor.C
open Go.RowKit O

/-- What is read: the list, the error, the place. -/
def decL (l : List UInt8) (p : Nat) : List I3 := match decB l p with
  | none => []
  | some x => x.1
def decE (l : List UInt8) (p : Nat) : Int := match decB l p with
  | none => 50
  | some _ => 0
def decQ (l : List UInt8) (p : Nat) : Nat := match decB l p with
  | none => 0
  | some x => x.2
theorem dec_no {l : List UInt8} {p : Nat} (h : decB l p = none) : decL l p = [] ∧ decE l p = 50 := by unfold decL decE; rw [h]; exact ⟨rfl, rfl⟩
theorem dec_yes {l : List UInt8} {p q : Nat} {xs : List I3} (h : decB l p = some (xs, q)) : decL l p = xs ∧ decE l p = 0 ∧ decQ l p = q := by unfold decL decE decQ; rw [h]; exact ⟨rfl, rfl, rfl⟩
theorem decB_1 {l : List UInt8} {p n r q : Nat} (h : V.NumR l p 512 = (n, r, q)) (hr : r ≠ 0) : decB l p = none := by unfold decB; rw [h]; exact if_pos hr
theorem decB_2 {l : List UInt8} {p n q : Nat} (h : V.NumR l p 512 = (n, 0, q)) : decB l p = bodyOf (fwd l q n) := by unfold decB; rw [h]; exact if_neg (fun h => h rfl)
theorem body_ok {xs : List I3} {q : Nat} (h : okB xs = true) : bodyOf (some (xs, q)) = some (xs, q) := if_pos h
theorem body_no {xs : List I3} {q : Nat} (h : okB xs = false) : bodyOf (some (xs, q)) = none := if_neg (by rw [h]; decide)
/-- How Decode ends. -/
def BdyR (w : World) (br : Nat) (At : World → Nat → Prop) (xs : List I3) (E : Int) (Q : Nat) (e : Ending) (w' : World) : Prop :=
  ∃ v q, e = .returned (.tuple #[v, .int .i64 E]) ∧ Own w' 74 3 (Fresh w) v xs.length (iis xs) ∧ At w' q ∧ (E = 0 → q = Q) ∧ Keep (fun k => k = br) w w'
theorem bdy_none {w w' : World} {br Q q : Nat} {At : World → Nat → Prop} (h : At w' q) (hk : Keep (fun k => k = br) w w') : BdyR w br At [] 50 Q (.returned (.tuple #[.slice none 0 0, .int .i64 50])) w' :=
  ⟨_, q, rfl, Own.nil _ _ _ _, h, fun e => absurd e (by decide), hk⟩
/-- Three cells put at an element's place. -/
theorem wpList_put3 {ops : Array Oper} {rest : List Oper} {o : Oper} {a : Act} {w : World} {Q : Exit → Act → World → Prop} (hgd : o.guard = none) (x y : Operand) (ho : o.op = .store 74 x y)
    {g k : Nat} {xs : List I3} {u0 u1 u2 : Value} {r : List Value} (hB : Blk w g 74 (iis xs ++ u0 :: u1 :: u2 :: r).toArray) (hk : xs.length = k) (op av bv : Int)
    (hx : a.eval x = .pointer (some ⟨g, k * 3, none⟩)) (hy : a.eval y = instV op av bv)
    (h : ∀ w', Blk w' g 74 (iis (xs ++ [(op, av, bv)]) ++ r).toArray → Keep (fun b => b = g) w w' → wpList Tryz.prog ops Q rest (a.put o.dst undef) w') : wpList Tryz.prog ops Q (o :: rest) a w := by
  refine wpList_plain hgd fun K hK => ?_
  have hst := run_storeCells_at Tryz.prog g (k * 3) 74 [.int .i64 op, .int .i64 av, .int .i64 bv] 0 _ w hB (by rw [← hk]; simp [iis_length]) (by simp [Value.oneCell'])
  have e : (iis xs ++ u0 :: u1 :: u2 :: r).take (k * 3 + 0) ++ [.int .i64 op, .int .i64 av, .int .i64 bv] ++ (iis xs ++ u0 :: u1 :: u2 :: r).drop (k * 3 + 0 + 3) = iis (xs ++ [(op, av, bv)]) ++ r := by
    have hl : (iis xs).length = k * 3 := by rw [iis_length, hk]
    rw [Nat.add_zero, ← hl, List.take_left', List.drop_length_add_append, iis_append, iis_one] <;> rfl
  simp only [List.length_cons, List.length_nil, Nat.zero_add, Nat.reduceAdd] at hst
  rw [e] at hst
  obtain ⟨i0, hi, hz0, hz1, hz2⟩ := info_parts instr_info
  have hrun : (storeVar 74 ⟨g, k * 3, none⟩ (instV op av bv)).run Tryz.prog w = .ok () (w.setRow g (iis (xs ++ [(op, av, bv)]) ++ r).toArray) := by
    simp [storeVar, sizeOf, typeInfo, hi, hz1, Value.cells, hst]
  unfold Oper.wp execOp
  simp only [ho, hx, hy, Instr.storeAt, Instr.sureAddr, Sem.run_bind, Sem.run_pure, Result.andThen_ok, hrun]
  exact hK _ _ (h _ (setRow_heap w g _ _ _ _ hB) ⟨rfl, rfl, rfl, by simp, fun b _ hne => setRow_other w g b _ hne⟩)
theorem three {rest : List Value} {m : Nat} (h : rest.length = m * 3) (h0 : 0 < m) : ∃ u0 u1 u2 r, rest = u0 :: u1 :: u2 :: r ∧ r.length = (m - 1) * 3 := by
  match rest, h with
  | [], h => simp at h; omega
  | [_], h => simp at h; omega
  | [_, _], h => simp at h; omega
  | u0 :: u1 :: u2 :: r, h => exact ⟨u0, u1, u2, r, rfl, by simp at h; omega⟩
theorem made_blk {w w1 : World} {n : Nat} {zs : List Value} (hrow : w1.ownsRow 0 74 3 (.slice (some ⟨w.heap.size, 0, none⟩) n n) n zs) : ∃ rest : List Value, rest.length = n * 3 ∧ Blk w1 w.heap.size 74 (iis [] ++ rest).toArray := by
  obtain ⟨h3, h4⟩ := hrow
  rcases h4 with ⟨h4, _⟩ | ⟨g, cap, cur, h4, _, h6, _, _, h7, _⟩
  · cases h4
  · injection h4 with h4 _ h8
    injection h4 with h4
    injection h4 with h4 _ _
    subst h4 h8
    exact ⟨cur.toList, by simpa using h7, by rw [iis_nil, List.nil_append, Array.toArray_toList]; exact h6⟩

set_option maxRecDepth 100000 in
set_option maxHeartbeats 4000000 in
theorem cdecode_any (w : World) (br : Nat) (Ob : Nat → Prop) (l : List UInt8) (p : Nat) (hO : ∀ k, Ob k → k < w.heap.size) (h : V.ReelAt w br Ob l p) (hlen : l.length ≤ 140737488355328) :
    Calls Tryz.prog 58 #[.pointer (some ⟨br, 0, none⟩)] w (BdyR w br (fun w' q => V.ReelAt w' br Ob l q) (decL l p) (decE l p) (decQ l p)) := by
  have hbr := O.reel_lt h
  have HS := Lib.hid (V.rnumber_any w br Ob l p 512 h hlen)
  obtain ⟨n, r, q, hN, hN0, hN1⟩ := num_case l p 512
  rw [hN] at HS
  clear h
  by_cases hr : r = 0
  · subst hr
    obtain ⟨hn1, hn2⟩ := hN0 rfl
    have HD := Lib.hid (decB_2 hN)
    obtain ⟨i0, hi, hz0, hz1, hz2⟩ := info_parts instr_info
    have HO := Lib.hid hO
    clear hN0 hN1 hN hO
    go_enter Tryz.func58, Tryz.ntmps58
    go_wp2_with fail
    refine HS.out.mono ?_
    rintro e w1 ⟨rfl, h1, k1⟩
    have gs := k1.size
    go_wp2_with (at_make; refine wpList_make_full _ rfl _ _ 25 rfl 0 74 i0 _ 3 Tryz.underlying25 hi hz0 hz1 _ _ _ _ n rfl rfl rfl rfl (by rw [hz2]; omega) (by unfold maxLen; omega) (Nat.zero_le _) ?_; intro w2 hrow2 hg2; obtain ⟨rest, hrl, hB2⟩ := made_blk hrow2; have k2 : Keep NoB w1 w2 := (Keep.refl NoB w1).grown hg2 (fun g e _ => by cases e); clear hrow2 hg2)
    have h2 := h1.keep k2 (fun _ _ => id)
    have gK : Keep (fun k => k = br) w w2 := k1.trans (k2.mono (fun _ hf _ => hf.elim)) (fun _ ho _ => ho)
    clear h1 k1 k2
    go_loopw [19] (fun i wr => ∃ k : Nat, k ≤ n ∧ i = .int .i64 k ∧ ∃ xs qk rest, fwd l q k = some (xs, qk) ∧ rest.length = (n - k) * 3 ∧ Blk wr w1.heap.size 74 (iis xs ++ rest).toArray ∧ V.ReelAt wr br Ob l qk ∧ Keep (fun k => k = br) w wr) (fun i _ => n - (intOf i).toNat)
    case atStart => exact ⟨0, Nat.zero_le _, rfl, [], q, rest, rfl, hrl, hB2, h2, gK⟩
    case round =>
      clear hB2 h2 gK hrl
      obtain ⟨k, hk, rfl, xs, qk, rest, hf, hrl, hB, hA, hK⟩ := hrel
      obtain ⟨_, _, hxl, _⟩ := fwd_ok k hf
      by_cases hlt : k < n
      · obtain ⟨u0, u1, u2, r, rfl, hrl2⟩ := three hrl (by omega)
        have HE := Lib.hid (O.decode_any wr br Ob l qk (fun k h => Nat.lt_of_lt_of_le (HO.out k h) hK.size) hA hlen)
        have HF := Lib.hid (fun he => fwd_step hf he)
        have HG := Lib.hid (fun he => fwd_none (fwd_stop hf he) n (by omega))
        obtain ⟨y, hy⟩ : ∃ y, d3 l qk = y := ⟨_, rfl⟩
        have e0 : ∃ op a b er pl, decI l qk = ⟨op, a, b, er, pl⟩ := ⟨_, _, _, _, _, rfl⟩
        obtain ⟨op, a, b, er, pl, e0⟩ := e0
        have hy2 : d3 l qk = (op, a, b) := by unfold d3; rw [e0]
        rw [e0] at HE HG
        rw [e0, hy2] at HF
        dsimp only at HE HF HG
        clear hf hA hy hy2 e0
        go_wp2_with fail
        refine HE.out.mono ?_
        rintro e w4 ⟨rfl, h4, k4⟩
        dsimp only at h4
        have hB4 := hB.keep k4 (fun e => by omega)
        have hK4 := hK.trans k4 (fun _ ho _ => ho)
        clear hB hK k4
        have hgo : ∀ k, Ob k → ¬ (k = w1.heap.size) := fun k h e => by have := HO.out k h; omega
        have gs4 := hK4.size
        by_cases he : er = 0
        · subst he
          go_wp2_with (refine wpList_put3 rfl _ _ rfl hB4 hxl op a b rfl rfl ?_; intro w6 hB6 k6)
          go_roundw
          case rel => exact ⟨k + 1, by omega, by go_num, xs ++ [(op, a, b)], pl, r, HF.out (by first | rfl | trivial), by omega, hB6, h4.keep k6 hgo, hK4.trans k6 (fun b e hl => by omega)⟩
          case measure => simp [intOf]; omega
        · have hr3 : ((er : Int) != 0) = true := by rw [bne_iff_ne]; omega
          have HD2 := Lib.hid (dec_no (l := l) (p := p) (by rw [HD.out, HG.out he]; rfl))
          go_wp2_with (refine wpList_put3 rfl _ _ rfl hB4 hxl op a b rfl rfl ?_; intro w6 hB6 k6)
          go_ret2
          rw [HD2.out.1, HD2.out.2]
          exact bdy_none (h4.keep k6 hgo) (hK4.trans k6 (fun b e hl => by omega))
      · obtain rfl : k = n := by omega
        obtain rfl : rest = [] := List.length_eq_zero_iff.1 (by rw [hrl]; omega)
        rw [List.append_nil] at hB
        rw [hf] at HD
        have hxh := Lib.hid hxl
        have HI := Lib.hid (fun w h => ifBody_any (some ⟨w1.heap.size, 0, none⟩) xs k k w h hxh (by omega))
        have hown : Own wr 74 3 (Fresh w) (.slice (some ⟨w1.heap.size, 0, none⟩) k k) k (iis xs) := by
          have := row_take hB hxl (Nat.le_refl k) (by omega)
          rw [List.take_of_length_le (by omega)] at this
          exact ⟨this, fun g e => by cases e; exact gs⟩
        have hrd : Rd wr (some ⟨w1.heap.size, 0, none⟩) (iis xs) := by
          obtain ⟨A', c', e, _, _, hr, _⟩ := hown.form
          cases e; exact hr
        clear hf hrl hB hxl
        go_wp2_with (go_at_call 115; refine (HI.out _ hrd).mono ?_; rintro e w5 ⟨rfl, k5⟩)
        have hA5 := hA.keep k5 (fun _ _ => id)
        have hK5 : Keep (fun k => k = br) w w5 := hK.trans (k5.mono (fun _ hf _ => hf.elim)) (fun _ ho _ => ho)
        go_ret2
        cases ho : okB xs
        · obtain ⟨e1, e2⟩ := dec_no (l := l) (p := p) (by rw [HD.out, body_no ho])
          rw [e1, e2, ifV_no ho, chkB_no ho]
          exact bdy_none hA5 hK5
        · obtain ⟨e1, e2, e3⟩ := dec_yes (l := l) (p := p) (by rw [HD.out, body_ok ho])
          rw [e1, e2, e3, ifV_ok ho, chkB_ok ho]
          exact ⟨_, qk, rfl, by rw [hxh.out]; exact hown.keepN k5, hA5, fun _ => rfl, hK5⟩
  · obtain ⟨e1, e2⟩ := dec_no (decB_1 hN hr)
    rw [e1, e2]
    have hr3 : ((r : Int) != 0) = true := by rw [bne_iff_ne]; omega
    clear hN0 hN1 hN hr e1 e2
    go_enter Tryz.func58, Tryz.ntmps58
    go_wp2_with fail
    refine HS.out.mono ?_
    rintro e w1 ⟨rfl, h1, k1⟩
    go_wp2
    go_ret2
    exact bdy_none h1 k1

end Go.Proofs.YtbnekeomdhljhaaGreatDoor.C

namespace Go.Proofs.YtbnekeomdhljhaaGreatDoor.C
open Go.RowKit O

theorem own_afterB {w W W' : World} {E size n br : Nat} {v v' : Value} {xs : List Value} (ho : ∀ g, v.ownBlock = some g → Fresh w g) (hK : Keep (fun k => k = br) w W) (hg : W.grownBy W' v.ownBlock)
    (hv : v'.ownBlock = v.ownBlock ∨ v'.ownBlock = some W.heap.size) (hrow : W'.ownsRow 0 E size v' n xs) : Own W' E size (Fresh w) v' n xs ∧ Keep (fun k => k = br) w W' := by
  refine ⟨⟨hrow, fun g e => ?_⟩, hK.grown hg (fun g e h => by have := ho g e; unfold Fresh at this; omega)⟩
  rcases hv with h | h
  · exact ho g (h ▸ e)
  · rw [h] at e; cases e; exact hK.size
theorem ref_grown {w W W' : World} {br p : Nat} {Ob : Nat → Prop} {l : List UInt8} {v : Value} (h : V.RefAt W br Ob l p) (hO : ∀ k, Ob k → k < w.heap.size) (ho : ∀ g, v.ownBlock = some g → Fresh w g) (hg : W.grownBy W' v.ownBlock) : V.RefAt W' br Ob l p :=
  h.keep (O' := fun k => some k = v.ownBlock) ((Keep.refl _ W).grown hg (fun _ e _ => e.symm)) (fun k hk e => by have h1 := hO k hk; have h2 := ho k e.symm; unfold Fresh at h2; omega)
/-- The numbers of what is read fit. -/
theorem ok1_I {x : I3} (h : ok1 x = true) : O.I64 x.2.1 ∧ O.I64 x.2.2 := ⟨(in_bounds (ok_op h).2.1).1, (in_bounds (ok_op h).2.2).1⟩
theorem dec_I {l : List UInt8} {p : Nat} (h : (decI l p).er = 0) : O.I64 (d3 l p).2.1 ∧ O.I64 (d3 l p).2.2 := ok1_I (x := d3 l p) (decI_ok h).1
theorem fwd_I {l : List UInt8} {p : Nat} (k : Nat) {xs : List I3} {q : Nat} (h : fwd l p k = some (xs, q)) : AllI xs := fun x hx => ok1_I (List.all_eq_true.1 (fwd_ok k h).2.2.2 x hx)

set_option maxRecDepth 100000 in
set_option maxHeartbeats 4000000 in
theorem rcdecode_any (w : World) (br : Nat) (Ob : Nat → Prop) (l : List UInt8) (p : Nat) (hO : ∀ k, Ob k → k < w.heap.size) (h : V.RefAt w br Ob l p) (hlen : l.length ≤ 140737488355328) :
    Calls Tryz.prog 61 #[.pointer (some ⟨br, 0, none⟩)] w (BdyR w br (fun w' q => V.RefAt w' br Ob l q) (decL l p) (decE l p) (decQ l p)) := by
  have hbr := O.ref_lt h
  have HS := Lib.hid (V.refnumber_any w br Ob l p 512 h hlen)
  obtain ⟨n, r, q, hN, hN0, hN1⟩ := num_case l p 512
  rw [hN] at HS
  clear h
  by_cases hr : r = 0
  · subst hr
    obtain ⟨hn1, hn2⟩ := hN0 rfl
    have HD := Lib.hid (decB_2 hN)
    obtain ⟨i0, hi, hz0, hz1, hz2⟩ := info_parts instr_info
    have HO := Lib.hid hO
    clear hN0 hN1 hN hO
    go_enter Tryz.func61, Tryz.ntmps61
    go_wp2_with fail
    refine HS.out.mono ?_
    rintro e w1 ⟨rfl, h1, gK⟩
    go_wp2
    go_loopw [6, 7] (fun v i wr => ∃ k : Nat, k ≤ n ∧ i = .int .u64 k ∧ ∃ xs qk B d, fwd l q k = some (xs, qk) ∧ v = .slice B k d ∧ Own wr 74 3 (Fresh w) (.slice B k d) k (iis xs) ∧ V.RefAt wr br Ob l qk ∧ Keep (fun k => k = br) w wr) (fun _ i _ => n - (intOf i).toNat)
    case atStart => exact ⟨0, Nat.zero_le _, rfl, [], q, none, 0, rfl, rfl, Own.nil _ _ _ _, h1, gK⟩
    case round =>
      clear h1 gK
      obtain ⟨k, hk, rfl, xs, qk, B, d, hf, rfl, hO, hA, hK⟩ := hrel
      obtain ⟨_, _, hxl, _⟩ := fwd_ok k hf
      by_cases hlt : k < n
      · have hwk : IntKind.u64.wrap ((k : Int) + 1) = ((k + 1 : Nat) : Int) := by simp [IntKind.wrap, IntKind.bits, IntKind.signed]; omega
        have HE := Lib.hid (O.rdecode_any wr br Ob l qk (fun k h => Nat.lt_of_lt_of_le (HO.out k h) hK.size) hA hlen)
        have HF := Lib.hid (fun he => fwd_step hf he)
        have HG := Lib.hid (fun he => fwd_none (fwd_stop hf he) n (by omega))
        have e0 : ∃ op a b er pl, decI l qk = ⟨op, a, b, er, pl⟩ := ⟨_, _, _, _, _, rfl⟩
        obtain ⟨op, a, b, er, pl, e0⟩ := e0
        have hy2 : d3 l qk = (op, a, b) := by unfold d3; rw [e0]
        rw [e0] at HE HG
        rw [e0, hy2] at HF
        dsimp only at HE HF HG
        have HX : Hid (iis (xs ++ [(op, a, b)]) = iis xs ++ [.int .i64 op, .int .i64 a, .int .i64 b]) := iis_append _ _
        clear hf hA hy2 e0
        go_wp2_with fail
        refine HE.out.mono ?_
        rintro e w4 ⟨rfl, h4, k4⟩
        dsimp only at h4
        have hO4 := (hO.keep k4 (fun g hg e => by unfold Fresh at hg; omega)).keepN ((Keep.refl NoB w4).alloc (.cells #[.int .i64 op, .int .i64 a, .int .i64 b] 74))
        have hK4 := (hK.trans k4 (fun _ ho _ => ho)).alloc (.cells #[.int .i64 op, .int .i64 a, .int .i64 b] 74)
        have h5 := h4.keep ((Keep.refl NoB w4).alloc (.cells #[.int .i64 op, .int .i64 a, .int .i64 b] 74)) (fun _ _ => id)
        clear hO hK k4
        by_cases he : er = 0
        · subst he
          go_wp2_with (at_builtin; refine wpList_append_rd _ rfl (.tmp 29) (.tmp 31) _ rfl 74 3 24 i0 _ Tryz.underlying25 hi hz0 hz1 hz2 rfl (by decide) _ k _ _ 1 _ [.int .i64 op, .int .i64 a, .int .i64 b] rfl (hO4.1.alloc _) rfl (W.rd_made (by simp) rfl) rfl (by simp [Value.oneCell']) (by unfold maxLen; omega) (by omega) ?_; intro B5 d5 w5 hrow5 hg5 hv5; obtain ⟨hO5, hK5⟩ := own_afterB hO4.2 (hK4.alloc _) hg5 hv5 hrow5; have h6 := ref_grown (h5.keep ((Keep.refl NoB _).alloc _) (fun _ _ => id)) HO.out hO4.2 hg5; clear hrow5 hg5 hv5)
          go_roundw
          case rel => exact ⟨k + 1, by omega, by go_num, xs ++ [(op, a, b)], pl, B5, d5, HF.out (by first | rfl | trivial), rfl, by rw [HX.out]; exact hO5, h6, hK5⟩
          case measure => simp [intOf]; omega
        · have hr3 : ((er : Int) != 0) = true := by rw [bne_iff_ne]; omega
          have HD2 := Lib.hid (dec_no (l := l) (p := p) (by rw [HD.out, HG.out he]; rfl))
          go_wp2
          go_ret2
          rw [HD2.out.1, HD2.out.2]
          exact bdy_none h5 hK4
      · obtain rfl : k = n := by omega
        rw [hf] at HD
        have hxh := Lib.hid hxl
        have hxI := Lib.hid (fwd_I k hf)
        have hrd : Rd wr B (iis xs) := by
          obtain ⟨A', c', e, _, _, hr, _⟩ := hO.form
          cases e; exact hr
        clear hf hxl
        cases ho : okB xs
        · obtain ⟨e1, e2⟩ := dec_no (l := l) (p := p) (by rw [HD.out, body_no ho])
          have HI := Lib.hid (fun w h => rcchk_any B xs k d w h hxh hxI (by omega) 50 (chkB_no ho))
          have HE := Lib.hid (And.intro e1 e2)
          clear ho e1 e2
          go_wp2_with (go_at_call 75; refine (HI.out _ hrd).mono ?_; rintro e w5 ⟨rfl, k5⟩)
          go_ret2
          rw [HE.out.1, HE.out.2]
          exact bdy_none (hA.keep k5 (fun _ _ => id)) (hK.trans (k5.mono (fun _ hf _ => hf.elim)) (fun _ ho _ => ho))
        · obtain ⟨e1, e2, e3⟩ := dec_yes (l := l) (p := p) (by rw [HD.out, body_ok ho])
          have HI := Lib.hid (fun w h => rcchk_any B xs k d w h hxh hxI (by omega) 0 (chkB_ok ho))
          have HE := Lib.hid (And.intro e1 (And.intro e2 e3))
          clear ho e1 e2 e3
          go_wp2_with (go_at_call 75; refine (HI.out _ hrd).mono ?_; rintro e w5 ⟨rfl, k5⟩)
          go_ret2
          rw [HE.out.1, HE.out.2.1, HE.out.2.2]
          exact ⟨_, qk, rfl, by rw [hxh.out]; exact hO.keepN k5, hA.keep k5 (fun _ _ => id), fun _ => rfl, hK.trans (k5.mono (fun _ hf _ => hf.elim)) (fun _ ho _ => ho)⟩
  · obtain ⟨e1, e2⟩ := dec_no (decB_1 hN hr)
    rw [e1, e2]
    have hr3 : ((r : Int) != 0) = true := by rw [bne_iff_ne]; omega
    clear hN0 hN1 hN hr e1 e2
    go_enter Tryz.func61, Tryz.ntmps61
    go_wp2_with fail
    refine HS.out.mono ?_
    rintro e w1 ⟨rfl, h1, k1⟩
    go_wp2
    go_ret2
    exact bdy_none h1 k1

end Go.Proofs.YtbnekeomdhljhaaGreatDoor.C

namespace Go.Proofs.YtbnekeomdhljhaaGreatDoor.F
open Go.RowKit W

/-- A function whose lists are owned: each lies in a block of P. -/
structure OwnF (W : World) (P : Nat → Prop) (v : FV) (f : Fu) : Prop where
  nm : v.S.data.toList = f.nm
  oa : Own W 3 1 P (.slice v.A v.na v.ca) v.na (ivs f.ar)
  ob : Own W 3 1 P (.slice v.B v.nb v.cb) v.nb (ivs f.rs)
  ol : Own W 3 1 P (.slice v.L v.nl v.cl) v.nl (ivs f.lc)
  od : Own W 74 3 P (.slice v.D v.nd v.cd) v.nd (C.iis f.bd)
  hI : C.AllI f.bd
theorem OwnF.keep {W W' : World} {P O : Nat → Prop} {v : FV} {f : Fu} (h : OwnF W P v f) (hk : Keep O W W') (hn : ∀ k, P k → ¬ O k) : OwnF W' P v f :=
  ⟨h.nm, h.oa.keep hk hn, h.ob.keep hk hn, h.ol.keep hk hn, h.od.keep hk hn, h.hI⟩
theorem OwnF.keepN {W W' : World} {P : Nat → Prop} {v : FV} {f : Fu} (h : OwnF W P v f) (hk : Keep NoB W W') : OwnF W' P v f := h.keep hk (fun _ _ => id)
theorem OwnF.mono {W : World} {P P' : Nat → Prop} {v : FV} {f : Fu} (h : OwnF W P v f) (hP : ∀ k, P k → k < W.heap.size → P' k) : OwnF W P' v f :=
  ⟨h.nm, h.oa.mono hP, h.ob.mono hP, h.ol.mono hP, h.od.mono hP, h.hI⟩
theorem own_rdS {w : World} {E size n : Nat} {P : Nat → Prop} {A : Option Addr} {c : Nat} {xs : List Value} (h : Own w E size P (.slice A n c) n xs) : Rd w A xs := by
  obtain ⟨A', c', e, _, _, hr, _⟩ := h.form
  injection e with e1 e2 e3
  subst e1; exact hr
theorem own_lenD {w : World} {O : Nat → Prop} {v : Value} {l : List C.I3} {n : Nat} (h : Own w 74 3 O v n (C.iis l)) : l.length = n := by have := h.1.1; rw [C.iis_length] at this; omega
theorem OwnF.fn {W : World} {P : Nat → Prop} {v : FV} {f : Fu} (h : OwnF W P v f) : FnAt W v f :=
  ⟨h.nm, own_rdS h.oa, own_rdS h.ob, own_rdS h.ol, own_rdS h.od, own_len h.oa, own_len h.ob, own_len h.ol, own_lenD h.od, h.hI⟩
/-- What has been read so far. -/
structure Prt (w0 : World) (F : Nat) (O : Nat → Prop) (At : World → Nat → Prop) (f : Fu) (q : Nat) (v : FV) (W : World) : Prop where
  blk : Blk W F 27 v.cells
  own : OwnF W (Fresh w0) v f
  at_ : At W q
  keep : Keep (fun k => k = F ∨ O k) w0 W
theorem Prt.put {w0 W w1 W' : World} {F q q' : Nat} {O : Nat → Prop} {At : World → Nat → Prop} {f f' : Fu} {v v' : FV} (h : Prt w0 F O At f q v W) (hF : F < w0.heap.size)
    (hAt : ∀ w w' q, At w q → Keep (fun k => k = F) w w' → At w' q) (k1 : Keep O W w1) (hv : OwnF w1 (Fresh w0) v' f') (hat : At w1 q') (k2 : Keep (fun k => k = F) w1 W') (hb : Blk W' F 27 v'.cells) : Prt w0 F O At f' q' v' W' :=
  ⟨hb, hv.keep k2 (fun k hk e => by subst e; unfold Fresh at hk; omega), hAt _ _ _ hat k2, (h.keep.trans k1 (fun k ho _ => .inr ho)).trans k2 (fun k e _ => .inl e)⟩

/-- The function so far, part by part. -/
def stN (l : List UInt8) (x : Fu × Nat) : Option (Fu × Nat) := (nmR l x.2).map fun a => ({ x.1 with nm := a.1 }, a.2)
def stG (l : List UInt8) (x : Fu × Nat) : Option (Fu × Nat) := (S.decG l x.2).map fun g => ({ x.1 with ar := g.1.1, rs := g.1.2 }, g.2)
def stL (l : List UInt8) (x : Fu × Nat) : Option (Fu × Nat) := (lcR l x.2).map fun c => ({ x.1 with lc := c.1 }, c.2)
def stB (l : List UInt8) (x : Fu × Nat) : Option (Fu × Nat) := (C.decB l x.2).map fun d => ({ x.1 with bd := d.1 }, d.2)
def st (l : List UInt8) (p : Nat) : Nat → Option (Fu × Nat)
  | 0 => some (nilF, p)
  | 1 => (some (nilF, p)).bind (stN l)
  | 2 => ((some (nilF, p)).bind (stN l)).bind (stG l)
  | 3 => (((some (nilF, p)).bind (stN l)).bind (stG l)).bind (stL l)
  | _ => ((((some (nilF, p)).bind (stN l)).bind (stG l)).bind (stL l)).bind (stB l)
theorem st_none {l : List UInt8} {p i : Nat} (hi : i < 4) (h : st l p (i + 1) = none) : st l p 4 = none := by
  have hi : i = 0 ∨ i = 1 ∨ i = 2 ∨ i = 3 := by omega
  rcases hi with rfl | rfl | rfl | rfl
  · show ((((some (nilF, p)).bind (stN l)).bind (stG l)).bind (stL l)).bind (stB l) = none
    rw [show (some (nilF, p)).bind (stN l) = none from h]; rfl
  · show ((((some (nilF, p)).bind (stN l)).bind (stG l)).bind (stL l)).bind (stB l) = none
    rw [show ((some (nilF, p)).bind (stN l)).bind (stG l) = none from h]; rfl
  · show ((((some (nilF, p)).bind (stN l)).bind (stG l)).bind (stL l)).bind (stB l) = none
    rw [show (((some (nilF, p)).bind (stN l)).bind (stG l)).bind (stL l) = none from h]; rfl
  · exact h
theorem decF_st (l : List UInt8) (p : Nat) : decF l p = (st l p 4).bind fun x => ifF x.1 x.2 := by
  show decF l p = (((((some (nilF, p)).bind (stN l)).bind (stG l)).bind (stL l)).bind (stB l)).bind fun x => ifF x.1 x.2
  simp only [Option.bind_some, stN]
  cases h1 : nmR l p with
  | none => rw [decF_1 h1]; rfl
  | some a =>
    simp only [Option.map_some, Option.bind_some, stG]
    cases h2 : S.decG l a.2 with
    | none => rw [decF_2 h1 h2]; rfl
    | some g =>
      simp only [Option.map_some, Option.bind_some, stL]
      cases h3 : lcR l g.2 with
      | none => rw [decF_3 h1 h2 h3]; rfl
      | some c =>
        simp only [Option.map_some, Option.bind_some, stB]
        cases h4 : C.decB l c.2 with
        | none => rw [decF_4 h1 h2 h3 h4]; rfl
        | some d => rw [decF_5 h1 h2 h3 h4]; rfl
theorem st_small {l : List UInt8} {p q : Nat} {f : Fu} (h : st l p 4 = some (f, q)) : f.nm.length ≤ 32 ∧ f.ar.length ≤ 64 ∧ f.rs.length ≤ 64 ∧ f.lc.length ≤ 64 ∧ f.bd.length ≤ 512 := by
  replace h : ((((some (nilF, p)).bind (stN l)).bind (stG l)).bind (stL l)).bind (stB l) = some (f, q) := h
  simp only [Option.bind_some, stN] at h
  cases h1 : nmR l p with
  | none => rw [h1] at h; cases h
  | some a =>
    rw [h1] at h
    simp only [Option.map_some, Option.bind_some, stG] at h
    cases h2 : S.decG l a.2 with
    | none => rw [h2] at h; cases h
    | some g =>
      rw [h2] at h
      simp only [Option.map_some, Option.bind_some, stL] at h
      cases h3 : lcR l g.2 with
      | none => rw [h3] at h; cases h
      | some c =>
        rw [h3] at h
        simp only [Option.map_some, Option.bind_some, stB] at h
        cases h4 : C.decB l c.2 with
        | none => rw [h4] at h; cases h
        | some d =>
          rw [h4] at h
          simp only [Option.map_some] at h
          injection h with h
          injection h with e1 e2
          subst e1
          obtain ⟨a, qa⟩ := a
          obtain ⟨⟨ga, gr⟩, qg⟩ := g
          obtain ⟨c, qc⟩ := c
          obtain ⟨d, qd⟩ := d
          obtain ⟨_, _, n1, _⟩ := nmR_ok h1
          have g1 := ((S.okG_iff _ _).1 (S.decG_ok h2).1).1
          have c1 := ((S.okG_iff _ _).1 (S.decG_ok (lcR_ok h3)).1).1
          have d1 := (C.okB_parts (C.decB_ok h4).1).2.1
          dsimp only
          rw [List.length_nil] at c1
          exact ⟨n1, by omega, by omega, by omega, d1⟩

/-- What DecodeSignature and code.Decode answer, in the readers' words. -/
def SgG (w : World) (At : World → Nat → Prop) (R : Option ((List Int × List Int) × Nat)) (A : Option Addr) (n c : Nat) (B : Option Addr) (m d : Nat) (E : Int) (w' : World) : Prop :=
  (R = none ∧ E ≠ 0 ∧ ∃ q, At w' q) ∨ (∃ a r q, R = some ((a, r), q) ∧ E = 0 ∧ Own w' 3 1 (Fresh w) (.slice A n c) n (ivs a) ∧ Own w' 3 1 (Fresh w) (.slice B m d) m (ivs r) ∧ At w' q)
theorem sgG_of {w w' : World} {br : Nat} {At : World → Nat → Prop} {R : Option ((List Int × List Int) × Nat)} {e : Ending} (h : S.SigR w br At R e w') :
    ∃ A n c B m d E, e = .returned (.tuple #[.agg #[.slice A n c, .slice B m d], .int .i64 E]) ∧ SgG w At R A n c B m d E w' ∧ Keep (fun k => k = br) w w' := by
  obtain ⟨v1, v2, q, rfl, h1, h2, h3, h4, hk⟩ := h
  obtain ⟨A1, c1, rfl, _⟩ := h1.form
  obtain ⟨A2, c2, rfl, _⟩ := h2.form
  cases R with
  | none => exact ⟨_, _, _, _, _, _, _, rfl, .inl ⟨rfl, (by decide : (61 : Int) ≠ 0), q, h3⟩, hk⟩
  | some x =>
    obtain ⟨⟨a, r⟩, y⟩ := x
    obtain rfl := h4 _ rfl
    exact ⟨_, _, _, _, _, _, _, rfl, .inr ⟨a, r, _, rfl, rfl, h1, h2, h3⟩, hk⟩
def BdG (w : World) (At : World → Nat → Prop) (R : Option (List C.I3 × Nat)) (A : Option Addr) (n c : Nat) (E : Int) (w' : World) : Prop :=
  (R = none ∧ E ≠ 0 ∧ ∃ q, At w' q) ∨ (∃ xs q, R = some (xs, q) ∧ E = 0 ∧ Own w' 74 3 (Fresh w) (.slice A n c) n (C.iis xs) ∧ C.AllI xs ∧ At w' q)
theorem bdG_of {w w' : World} {br : Nat} {At : World → Nat → Prop} {l : List UInt8} {p : Nat} {e : Ending} (h : C.BdyR w br At (C.decL l p) (C.decE l p) (C.decQ l p) e w') :
    ∃ A n c E, e = .returned (.tuple #[.slice A n c, .int .i64 E]) ∧ BdG w At (C.decB l p) A n c E w' ∧ Keep (fun k => k = br) w w' := by
  obtain ⟨v, q, rfl, h1, h3, h4, hk⟩ := h
  obtain ⟨A1, c1, rfl, _⟩ := h1.form
  cases hd : C.decB l p with
  | none => exact ⟨_, _, _, _, rfl, .inl ⟨rfl, by rw [(C.dec_no hd).2]; decide, q, h3⟩, hk⟩
  | some x =>
    obtain ⟨xs, y⟩ := x
    obtain ⟨e1, e2, e3⟩ := C.dec_yes hd
    obtain rfl : q = y := (h4 e2).trans e3
    rw [e1] at h1 ⊢
    exact ⟨_, _, _, _, rfl, .inr ⟨xs, _, rfl, e2, h1, fun y hy => C.ok1_I (List.all_eq_true.1 (C.all_ok1 (C.decB_ok hd).1) y hy), h3⟩, hk⟩

/-- Not all could be read. -/
def Bad (w0 : World) (F : Nat) (O : Nat → Prop) (At : World → Nat → Prop) (W : World) : Prop := (∃ q, At W q) ∧ Keep (fun k => k = F ∨ O k) w0 W
theorem ne0 {E : Int} (h : E ≠ 0) : (E == 0) = false := beq_eq_false_iff_ne.2 h
theorem keep_one (W : World) (F i : Nat) (u : Value) : Keep (fun k => k = F) W (W.setCell ⟨F, i, none⟩ u) := (Keep.refl (fun k => k = F) W).setCell (p := ⟨F, i, none⟩) (fun _ => rfl) u

set_option maxRecDepth 100000 in
set_option maxHeartbeats 4000000 in
theorem reading_any (w : World) (F br : Nat) (Ob : Nat → Prop) (l : List UInt8) (p : Nat) (v0 : FV) (hbr : Blk w F 27 v0.cells) (hv0 : OwnF w (Fresh w) v0 nilF) (hat : V.ReelAt w br Ob l p) (hO : ∀ k, Ob k → k < w.heap.size ∧ k ≠ F) (hlen : l.length ≤ 140737488355328)
    (g : Nat) (u0 u1 u2 u3 : Value) (hb : Blk w g 75 #[u0, u1, u2, u3])
    (a0 : RdV 106 92 93 (fnV 52) (some ⟨br, 0, none⟩) ⟨F, 0, none⟩ u0 w)
    (a1 : RdV 108 95 96 (fnV 54) (some ⟨br, 0, none⟩) ⟨F, 1, none⟩ u1 w)
    (a2 : RdV 111 98 99 (fnV 56) (some ⟨br, 0, none⟩) ⟨F, 3, none⟩ u2 w)
    (a3 : RdV 112 101 102 (fnV 58) (some ⟨br, 0, none⟩) ⟨F, 4, none⟩ u3 w) :
    Calls Tryz.prog 41 #[.slice (some ⟨g, 0, none⟩) 4 4] w fun e w' =>
      (e = .returned (.bool true) ∧ ∃ f q v, st l p 4 = some (f, q) ∧ Prt w F (fun k => k = br) (fun w' q => V.ReelAt w' br Ob l q) f q v w') ∨ (e = .returned (.bool false) ∧ st l p 4 = none ∧ Bad w F (fun k => k = br) (fun w' q => V.ReelAt w' br Ob l q) w') := by
  obtain ⟨c0, r0, q0, rfl, x0, y0, z0⟩ := a0
  obtain ⟨c1, r1, q1, rfl, x1, y1, z1⟩ := a1
  obtain ⟨c2, r2, q2, rfl, x2, y2, z2⟩ := a2
  obtain ⟨c3, r3, q3, rfl, x3, y3, z3⟩ := a3
  have hFl := hbr.lt
  have hOb := (hO br hat.1)
  obtain ⟨A0, C0, hrb, _⟩ := hat.cells
  have hAt : ∀ (w w' : World) (q : Nat), V.ReelAt w br Ob l q → Keep (fun k => k = F) w w' → V.ReelAt w' br Ob l q := fun w w' q h hk => h.keep hk (fun k h2 e => (hO k h2).2 e)
  have xF0 : c0 ≠ F := x0.ne hbr (by decide)
  have xR0 : c0 ≠ br := x0.ne hrb (by decide)
  have yF0 : r0 ≠ F := y0.ne hbr (by decide)
  have yR0 : r0 ≠ br := y0.ne hrb (by decide)
  have zF0 : q0 ≠ F := z0.ne hbr (by decide)
  have zR0 : q0 ≠ br := z0.ne hrb (by decide)
  have xF1 : c1 ≠ F := x1.ne hbr (by decide)
  have xR1 : c1 ≠ br := x1.ne hrb (by decide)
  have yF1 : r1 ≠ F := y1.ne hbr (by decide)
  have yR1 : r1 ≠ br := y1.ne hrb (by decide)
  have zF1 : q1 ≠ F := z1.ne hbr (by decide)
  have zR1 : q1 ≠ br := z1.ne hrb (by decide)
  have xF2 : c2 ≠ F := x2.ne hbr (by decide)
  have xR2 : c2 ≠ br := x2.ne hrb (by decide)
  have yF2 : r2 ≠ F := y2.ne hbr (by decide)
  have yR2 : r2 ≠ br := y2.ne hrb (by decide)
  have zF2 : q2 ≠ F := z2.ne hbr (by decide)
  have zR2 : q2 ≠ br := z2.ne hrb (by decide)
  have xF3 : c3 ≠ F := x3.ne hbr (by decide)
  have xR3 : c3 ≠ br := x3.ne hrb (by decide)
  have yF3 : r3 ≠ F := y3.ne hbr (by decide)
  have yR3 : r3 ≠ br := y3.ne hrb (by decide)
  have zF3 : q3 ≠ F := z3.ne hbr (by decide)
  have zR3 : q3 ≠ br := z3.ne hrb (by decide)
  have gF : g ≠ F := hb.ne hbr (by decide)
  have gR : g ≠ br := hb.ne hrb (by decide)
  have K0 : Prt w F (fun k => k = br) (fun w' q => V.ReelAt w' br Ob l q) nilF p v0 w := ⟨hbr, hv0, hat, Keep.refl _ _⟩
  refine (every_any (some ⟨g, 0, none⟩) [(106, #[.pointer (some ⟨c0, 0, none⟩), .pointer (some ⟨r0, 0, none⟩), .pointer (some ⟨q0, 0, none⟩)]), (108, #[.pointer (some ⟨c1, 0, none⟩), .pointer (some ⟨r1, 0, none⟩), .pointer (some ⟨q1, 0, none⟩)]), (111, #[.pointer (some ⟨c2, 0, none⟩), .pointer (some ⟨r2, 0, none⟩), .pointer (some ⟨q2, 0, none⟩)]), (112, #[.pointer (some ⟨c3, 0, none⟩), .pointer (some ⟨r3, 0, none⟩), .pointer (some ⟨q3, 0, none⟩)])] 4 4 w rfl (by decide) (fun i => (st l p (i + 1)).isSome)
    (fun i W => ∃ f q v, st l p i = some (f, q) ∧ Prt w F (fun k => k = br) (fun w' q => V.ReelAt w' br Ob l q) f q v W) (fun W => Bad w F (fun k => k = br) (fun w' q => V.ReelAt w' br Ob l q) W) ?hcf ?hr ?hq ⟨_, _, _, rfl, K0⟩).mono ?_
  case hcf =>
    intro q hq
    simp only [List.mem_cons, List.not_mem_nil, or_false] at hq
    rcases hq with rfl | rfl | rfl | rfl
    · exact enters_of Tryz.func106 (by kernel_rfl) rfl
    · exact enters_of Tryz.func108 (by kernel_rfl) rfl
    · exact enters_of Tryz.func111 (by kernel_rfl) rfl
    · exact enters_of Tryz.func112 (by kernel_rfl) rfl
  case hr =>
    rintro i W ⟨f, q, v, _, hP⟩ _
    refine ⟨g, 0, rfl, fun j u hu => ?_⟩
    rw [Nat.zero_add, (hb.keep hP.keep (fun e => e.elim gF gR)).cell j]
    simpa using hu
  case hq =>
    rintro i hi W ⟨f, q, v, hst, hP⟩
    have hOW : ∀ k, Ob k → k < W.heap.size := fun k hk => Nat.lt_of_lt_of_le (hO k hk).1 hP.keep.size
    have hfr : ∀ (w1 : World), Keep (fun k => k = br) W w1 → OwnF w1 (Fresh w) v f := fun w1 k1 => hP.own.keep k1 (fun k hk e => by unfold Fresh at hk; have := hOb.1; omega)
    have hfw : ∀ k, Fresh W k → Fresh w k := fun k hk => Nat.le_trans hP.keep.size hk
    have hi : i = 0 ∨ i = 1 ∨ i = 2 ∨ i = 3 := by simp at hi; omega
    rcases hi with rfl | rfl | rfl | rfl
    · have hst1 : st l p 1 = stN l (f, q) := by
        show (st l p 0).bind (stN l) = _
        rw [hst]; rfl
      refine (readStr_any 52 (enters_of Tryz.func52 (by kernel_rfl) rfl) (fun k => k = br) (some ⟨br, 0, none⟩) c0 r0 q0 F v W (x0.keep hP.keep (fun e => e.elim xF0 xR0)) (y0.keep hP.keep (fun e => e.elim yF0 yR0)) (z0.keep hP.keep (fun e => e.elim zF0 zR0)) hP.blk zR0 (fun e => hOb.2 e.symm)
        (NmG (fun w' q => V.ReelAt w' br Ob l q) (nmR l q)) (decName_any W br Ob l q hP.at_ hlen)).mono ?_
      rintro e W' ⟨x, E, w1, rfl, hG, k1, rfl⟩
      have hw1 := hfr w1 k1
      have hbk := hP.blk.keep k1 (fun e => hOb.2 e.symm)
      have k2 := keep_one w1 F 0 (.string x)
      have hb2 := hbk.put 0 (.string x)
      rcases hG with ⟨hn, hE, q1, h1⟩ | ⟨s, q1, hs, rfl, hS, h1⟩
      · have hs1 : st l p 1 = none := by rw [hst1]; unfold stN; dsimp only; rw [hn]; rfl
        refine ⟨by rw [ne0 hE, show (st l p (0 + 1)).isSome = false by rw [show 0 + 1 = 1 from rfl, hs1]; rfl], fun h => ?_, fun _ => ?_⟩
        · rw [show (st l p (0 + 1)).isSome = false by rw [show 0 + 1 = 1 from rfl, hs1]; rfl] at h; cases h
        · exact ⟨⟨q1, hAt _ _ _ h1 k2⟩, (hP.keep.trans k1 (fun k ho _ => .inr ho)).trans k2 (fun k e _ => .inl e)⟩
      · have hs1 : st l p 1 = some ({ f with nm := s }, q1) := by rw [hst1]; unfold stN; dsimp only; rw [hs]; rfl
        refine ⟨by rw [show (st l p (0 + 1)).isSome = true by rw [show 0 + 1 = 1 from rfl, hs1]; rfl]; rfl, fun _ => ?_, fun h => ?_⟩
        · exact ⟨_, _, { v with S := x }, hs1, hP.put hFl hAt k1 (v' := { v with S := x }) (f' := { f with nm := s }) ⟨hS, hw1.oa, hw1.ob, hw1.ol, hw1.od, hw1.hI⟩ h1 k2 (by simpa [FV.cells] using hb2)⟩
        · rw [show (st l p (0 + 1)).isSome = true by rw [show 0 + 1 = 1 from rfl, hs1]; rfl] at h; cases h
    · have hst1 : st l p 2 = stG l (f, q) := by
        show (st l p 1).bind (stG l) = _
        rw [hst]; rfl
      refine (readSig_any 54 (enters_of Tryz.func54 (by kernel_rfl) rfl) (fun k => k = br) (some ⟨br, 0, none⟩) c1 r1 q1 F v W (x1.keep hP.keep (fun e => e.elim xF1 xR1)) (y1.keep hP.keep (fun e => e.elim yF1 yR1)) (z1.keep hP.keep (fun e => e.elim zF1 zR1)) hP.blk zR1 (fun e => hOb.2 e.symm)
        (SgG W (fun w' q => V.ReelAt w' br Ob l q) (S.decG l q)) ((S.decodeG_any W br Ob l q hOW hP.at_ hlen).mono fun e w1 h => sgG_of h)).mono ?_
      rintro e W' ⟨A, n, c, B, m, d, E, w1, rfl, hG, k1, rfl⟩
      have hw1 := hfr w1 k1
      have hbk := hP.blk.keep k1 (fun e => hOb.2 e.symm)
      have ka : Keep NoB w1 (w1.alloc (.cells #[.slice A n c, .slice B m d] 24)) := (Keep.refl NoB w1).alloc _
      have k2 := (keep_one (w1.alloc (.cells #[.slice A n c, .slice B m d] 24)) F 1 (.slice A n c)).trans (keep_one _ F 2 (.slice B m d)) (fun _ h _ => h)
      have hb2 := ((hbk.alloc (.cells #[.slice A n c, .slice B m d] 24)).put 1 (.slice A n c)).put 2 (.slice B m d)
      rcases hG with ⟨hn, hE, q1, h1⟩ | ⟨a, r, q1, hs, rfl, hA, hB, h1⟩
      · have hs1 : st l p 2 = none := by rw [hst1]; unfold stG; dsimp only; rw [hn]; rfl
        refine ⟨by rw [ne0 hE, show (st l p (1 + 1)).isSome = false by rw [show 1 + 1 = 2 from rfl, hs1]; rfl], fun h => ?_, fun _ => ?_⟩
        · rw [show (st l p (1 + 1)).isSome = false by rw [show 1 + 1 = 2 from rfl, hs1]; rfl] at h; cases h
        · exact ⟨⟨q1, hAt _ _ _ (h1.keep ka (fun _ _ => id)) k2⟩, (hP.keep.trans (k1.trans ka (fun _ hf _ => hf.elim)) (fun k ho _ => .inr ho)).trans k2 (fun k e _ => .inl e)⟩
      · have hs1 : st l p 2 = some ({ f with ar := a, rs := r }, q1) := by rw [hst1]; unfold stG; dsimp only; rw [hs]; rfl
        refine ⟨by rw [show (st l p (1 + 1)).isSome = true by rw [show 1 + 1 = 2 from rfl, hs1]; rfl]; rfl, fun _ => ?_, fun h => ?_⟩
        · exact ⟨_, _, { v with A := A, na := n, ca := c, B := B, nb := m, cb := d }, hs1, hP.put hFl hAt (k1.trans ka (fun _ hf _ => hf.elim)) (v' := { v with A := A, na := n, ca := c, B := B, nb := m, cb := d }) (f' := { f with ar := a, rs := r }) (OwnF.keepN (v := { v with A := A, na := n, ca := c, B := B, nb := m, cb := d }) (f := { f with ar := a, rs := r }) ⟨hw1.nm, hA.mono (fun k hk _ => hfw k hk), hB.mono (fun k hk _ => hfw k hk), hw1.ol, hw1.od, hw1.hI⟩ ka) (h1.keep ka (fun _ _ => id)) k2 (by simpa [FV.cells] using hb2)⟩
        · rw [show (st l p (1 + 1)).isSome = true by rw [show 1 + 1 = 2 from rfl, hs1]; rfl] at h; cases h
    · have hst1 : st l p 3 = stL l (f, q) := by
        show (st l p 2).bind (stL l) = _
        rw [hst]; rfl
      refine (readLoc_any 56 (enters_of Tryz.func56 (by kernel_rfl) rfl) (fun k => k = br) (some ⟨br, 0, none⟩) c2 r2 q2 F v W (x2.keep hP.keep (fun e => e.elim xF2 xR2)) (y2.keep hP.keep (fun e => e.elim yF2 yR2)) (z2.keep hP.keep (fun e => e.elim zF2 zR2)) hP.blk zR2 (fun e => hOb.2 e.symm)
        (LcG W (fun w' q => V.ReelAt w' br Ob l q) (lcR l q)) (decLoc_any W br Ob l q hOW hP.at_ hlen)).mono ?_
      rintro e W' ⟨A, n, c, E, w1, rfl, hG, k1, rfl⟩
      have hw1 := hfr w1 k1
      have hbk := hP.blk.keep k1 (fun e => hOb.2 e.symm)
      have k2 := keep_one w1 F 3 (.slice A n c)
      have hb2 := hbk.put 3 (.slice A n c)
      rcases hG with ⟨hn, hE, q1, h1⟩ | ⟨a, q1, hs, rfl, hA, _, h1⟩
      · have hs1 : st l p 3 = none := by rw [hst1]; unfold stL; dsimp only; rw [hn]; rfl
        refine ⟨by rw [ne0 hE, show (st l p (2 + 1)).isSome = false by rw [show 2 + 1 = 3 from rfl, hs1]; rfl], fun h => ?_, fun _ => ?_⟩
        · rw [show (st l p (2 + 1)).isSome = false by rw [show 2 + 1 = 3 from rfl, hs1]; rfl] at h; cases h
        · exact ⟨⟨q1, hAt _ _ _ h1 k2⟩, (hP.keep.trans k1 (fun k ho _ => .inr ho)).trans k2 (fun k e _ => .inl e)⟩
      · have hs1 : st l p 3 = some ({ f with lc := a }, q1) := by rw [hst1]; unfold stL; dsimp only; rw [hs]; rfl
        refine ⟨by rw [show (st l p (2 + 1)).isSome = true by rw [show 2 + 1 = 3 from rfl, hs1]; rfl]; rfl, fun _ => ?_, fun h => ?_⟩
        · exact ⟨_, _, { v with L := A, nl := n, cl := c }, hs1, hP.put hFl hAt k1 (v' := { v with L := A, nl := n, cl := c }) (f' := { f with lc := a }) ⟨hw1.nm, hw1.oa, hw1.ob, hA.mono (fun k hk _ => hfw k hk), hw1.od, hw1.hI⟩ h1 k2 (by simpa [FV.cells] using hb2)⟩
        · rw [show (st l p (2 + 1)).isSome = true by rw [show 2 + 1 = 3 from rfl, hs1]; rfl] at h; cases h
    · have hst1 : st l p 4 = stB l (f, q) := by
        show (st l p 3).bind (stB l) = _
        rw [hst]; rfl
      refine (readBod_any 58 (enters_of Tryz.func58 (by kernel_rfl) rfl) (fun k => k = br) (some ⟨br, 0, none⟩) c3 r3 q3 F v W (x3.keep hP.keep (fun e => e.elim xF3 xR3)) (y3.keep hP.keep (fun e => e.elim yF3 yR3)) (z3.keep hP.keep (fun e => e.elim zF3 zR3)) hP.blk zR3 (fun e => hOb.2 e.symm)
        (BdG W (fun w' q => V.ReelAt w' br Ob l q) (C.decB l q)) ((C.cdecode_any W br Ob l q hOW hP.at_ hlen).mono fun e w1 h => bdG_of h)).mono ?_
      rintro e W' ⟨A, n, c, E, w1, rfl, hG, k1, rfl⟩
      have hw1 := hfr w1 k1
      have hbk := hP.blk.keep k1 (fun e => hOb.2 e.symm)
      have k2 := keep_one w1 F 4 (.slice A n c)
      have hb2 := hbk.put 4 (.slice A n c)
      rcases hG with ⟨hn, hE, q1, h1⟩ | ⟨xs, q1, hs, rfl, hA, hI, h1⟩
      · have hs1 : st l p 4 = none := by rw [hst1]; unfold stB; dsimp only; rw [hn]; rfl
        refine ⟨by rw [ne0 hE, show (st l p (3 + 1)).isSome = false by rw [show 3 + 1 = 4 from rfl, hs1]; rfl], fun h => ?_, fun _ => ?_⟩
        · rw [show (st l p (3 + 1)).isSome = false by rw [show 3 + 1 = 4 from rfl, hs1]; rfl] at h; cases h
        · exact ⟨⟨q1, hAt _ _ _ h1 k2⟩, (hP.keep.trans k1 (fun k ho _ => .inr ho)).trans k2 (fun k e _ => .inl e)⟩
      · have hs1 : st l p 4 = some ({ f with bd := xs }, q1) := by rw [hst1]; unfold stB; dsimp only; rw [hs]; rfl
        refine ⟨by rw [show (st l p (3 + 1)).isSome = true by rw [show 3 + 1 = 4 from rfl, hs1]; rfl]; rfl, fun _ => ?_, fun h => ?_⟩
        · exact ⟨_, _, { v with D := A, nd := n, cd := c }, hs1, hP.put hFl hAt k1 (v' := { v with D := A, nd := n, cd := c }) (f' := { f with bd := xs }) ⟨hw1.nm, hw1.oa, hw1.ob, hw1.ol, hA.mono (fun k hk _ => hfw k hk), hI⟩ h1 k2 (by simpa [FV.cells] using hb2)⟩
        · rw [show (st l p (3 + 1)).isSome = true by rw [show 3 + 1 = 4 from rfl, hs1]; rfl] at h; cases h
  rintro e w' (⟨rfl, hall, f, q, v, hs, hP⟩ | ⟨rfl, ⟨i, hi, hn⟩, hB⟩)
  · exact .inl ⟨rfl, f, q, v, hs, hP⟩
  · refine .inr ⟨rfl, st_none hi ?_, hB⟩
    cases h : st l p (i + 1) with
    | none => rfl
    | some x => rw [h] at hn; cases hn

end Go.Proofs.YtbnekeomdhljhaaGreatDoor.F

namespace Go.Proofs.YtbnekeomdhljhaaGreatDoor.F
open Go.RowKit W

def nilV : FV := ⟨⟨#[]⟩, none, 0, 0, none, 0, 0, none, 0, 0, none, 0, 0⟩
theorem nilV_own (W : World) (P : Nat → Prop) : OwnF W P nilV nilF := ⟨rfl, Own.nil _ _ _ _, Own.nil _ _ _ _, Own.nil _ _ _ _, Own.nil _ _ _ _, fun x hx => by cases hx⟩
/-- How Decode ends. -/
def FunR (w : World) (O : Nat → Prop) (At : World → Nat → Prop) (R : Option (Fu × Nat)) (e : Ending) (w' : World) : Prop :=
  (R = none ∧ e = .returned (.tuple #[nilV.val, .int .i64 70]) ∧ (∃ q, At w' q) ∧ Keep O w w') ∨ (∃ f q v, R = some (f, q) ∧ e = .returned (.tuple #[v.val, .int .i64 0]) ∧ OwnF w' (Fresh w) v f ∧ At w' q ∧ Keep O w w')
def put5 (W : World) (g : Nat) (v : FV) : World :=
  let W1 := W.setCell ⟨g, 0, none⟩ (.string v.S)
  let W2 := W1.setCell ⟨g, 1, none⟩ (.slice v.A v.na v.ca)
  let W3 := W2.setCell ⟨g, 2, none⟩ (.slice v.B v.nb v.cb)
  let W4 := W3.setCell ⟨g, 3, none⟩ (.slice v.L v.nl v.cl)
  W4.setCell ⟨g, 4, none⟩ (.slice v.D v.nd v.cd)
theorem blk_put5 {W : World} {g : Nat} {a b c d e : Value} (h : Blk W g 27 #[a, b, c, d, e]) (v : FV) : Blk (put5 W g v) g 27 v.cells := by
  have h0 := h.put 0 (.string v.S)
  have h1 := h0.put 1 (.slice v.A v.na v.ca)
  have h2 := h1.put 2 (.slice v.B v.nb v.cb)
  have h3 := h2.put 3 (.slice v.L v.nl v.cl)
  have h4 := h3.put 4 (.slice v.D v.nd v.cd)
  clear h h0 h1 h2 h3
  simp only [List.setIfInBounds_toArray, List.set_cons_zero, List.set_cons_succ] at h4
  exact h4
theorem keep_at5 (W : World) (g : Nat) (v : FV) : Keep (fun k => k = g) W (put5 W g v) := by
  have h0 := keep_one W g 0 (.string v.S)
  have h1 := h0.trans (keep_one _ g 1 (.slice v.A v.na v.ca)) (fun _ h _ => h)
  have h2 := h1.trans (keep_one _ g 2 (.slice v.B v.nb v.cb)) (fun _ h _ => h)
  have h3 := h2.trans (keep_one _ g 3 (.slice v.L v.nl v.cl)) (fun _ h _ => h)
  exact h3.trans (keep_one _ g 4 (.slice v.D v.nd v.cd)) (fun _ h _ => h)
theorem ret_funE {fn : Func} {tmps : Array Value} {w : World} {g : Nat} {v : FV} {e : Value} (h : fn.results = #[.cell 2 27, .tmp 3]) (hp : tmps.getD 2 undef = .pointer (some ⟨g, 0, none⟩)) (hb : Blk w g 27 v.cells) (he : tmps.getD 3 undef = e) :
    (results fn tmps).run Tryz.prog w = .ok (.tuple #[v.val, e]) w := by
  rw [results_cell_tmp h, hp, he]
  simp only [asAddr, Sem.run_pure, Result.andThen_ok]
  rw [run_loadVar_row w g 27 27 v.cells (0, 0) _ hb Tryz.underlying27 rfl fun_size]
  rfl
theorem smF_of {l : List UInt8} {p q : Nat} {f : Fu} {v : FV} {W : World} {P : Nat → Prop} (h : st l p 4 = some (f, q)) (ho : OwnF W P v f) : SmF v := by
  obtain ⟨h1, h2, h3, h4, h5⟩ := st_small h
  have hf := ho.fn
  have e0 := sz_len hf.nm
  have e1 := hf.la
  have e2 := hf.lb
  have e3 := hf.ll
  have e4 := hf.ld
  exact ⟨by omega, by omega, by omega, by omega, by omega⟩

set_option maxRecDepth 100000 in
set_option maxHeartbeats 8000000 in
theorem decodeF_any (w : World) (br : Nat) (Ob : Nat → Prop) (l : List UInt8) (p : Nat) (hO : ∀ k, Ob k → k < w.heap.size) (h : V.ReelAt w br Ob l p) (hlen : l.length ≤ 140737488355328) :
    Calls Tryz.prog 13 #[.pointer (some ⟨br, 0, none⟩)] w (FunR w (fun k => k = br) (fun w' q => V.ReelAt w' br Ob l q) (decF l p)) := by
  have hbr := S.reel_lt h
  have hD := decF_st l p
  have bz := (Blk.new w 27 nilV.cells).alloc (.cells nilV.cells 27)
  have bf := Blk.new (w.alloc (.cells nilV.cells 27)) 27 nilV.cells
  have k0 := ((Keep.refl NoB w).alloc (.cells nilV.cells 27)).alloc (.cells nilV.cells 27)
  rw [World.size_alloc] at bf
  unfold nilV FV.cells at bz bf k0
  generalize hw0 : (w.alloc (.cells #[.string ⟨#[]⟩, .slice none 0 0, .slice none 0 0, .slice none 0 0, .slice none 0 0] 27)).alloc (.cells #[.string ⟨#[]⟩, .slice none 0 0, .slice none 0 0, .slice none 0 0, .slice none 0 0] 27) = w0 at bz bf k0
  have hsz : w0.heap.size = w.heap.size + 2 := by rw [← hw0]; simp
  have HZ := Lib.hid bz
  have HF := Lib.hid bf
  have HK := Lib.hid k0
  have HR := Lib.hid (h.keep k0 (fun _ _ => id))
  have HOb := Lib.hid hO
  have HD := Lib.hid hD
  clear bz bf k0 h hO hD
  go_enter Tryz.func13, Tryz.ntmps13
  go_wp2_with fail
  clear hw0
  refine (readsStr_any 52 (w.heap.size + 1) 0 (some ⟨br, 0, none⟩) w0).mono ?_
  rintro e w1 ⟨u0, rfl, ⟨c0, r0, q0, rfl, x0, y0, z0⟩, k1⟩
  have gK := keepN HK.out k1
  have gs := k1.size
  have A0 : Hid (RdV 106 92 93 (fnV 52) (some ⟨br, 0, none⟩) ⟨w.heap.size + 1, 0, none⟩ (askV 106 #[.pointer (some ⟨c0, 0, none⟩), .pointer (some ⟨r0, 0, none⟩), .pointer (some ⟨q0, 0, none⟩)]) w1) := ⟨c0, r0, q0, rfl, x0, y0, z0⟩
  replace HZ := Lib.hid (HZ.out.keep k1 id)
  replace HF := Lib.hid (HF.out.keep k1 id)
  replace HR := Lib.hid (HR.out.keep k1 (fun _ _ => id))
  clear x0 y0 z0 k1 HK
  unfold askV
  go_wp2_with fail
  refine (readsSig_any 54 (w.heap.size + 1) 1 (some ⟨br, 0, none⟩) w1).mono ?_
  rintro e w2 ⟨u1, rfl, ⟨c1, r1, q1, rfl, x1, y1, z1⟩, k1⟩
  replace gK := keepN gK k1
  replace gs := Nat.le_trans gs k1.size
  replace A0 := Lib.hid (RdV.keep A0.out k1)
  have A1 : Hid (RdV 108 95 96 (fnV 54) (some ⟨br, 0, none⟩) ⟨w.heap.size + 1, 1, none⟩ (askV 108 #[.pointer (some ⟨c1, 0, none⟩), .pointer (some ⟨r1, 0, none⟩), .pointer (some ⟨q1, 0, none⟩)]) w2) := ⟨c1, r1, q1, rfl, x1, y1, z1⟩
  replace HZ := Lib.hid (HZ.out.keep k1 id)
  replace HF := Lib.hid (HF.out.keep k1 id)
  replace HR := Lib.hid (HR.out.keep k1 (fun _ _ => id))
  clear x1 y1 z1 k1
  unfold askV
  go_wp2_with fail
  refine (readsLoc_any 56 (w.heap.size + 1) 3 (some ⟨br, 0, none⟩) w2).mono ?_
  rintro e w3 ⟨u2, rfl, ⟨c2, r2, q2, rfl, x2, y2, z2⟩, k1⟩
  replace gK := keepN gK k1
  replace gs := Nat.le_trans gs k1.size
  replace A0 := Lib.hid (RdV.keep A0.out k1)
  replace A1 := Lib.hid (RdV.keep A1.out k1)
  have A2 : Hid (RdV 111 98 99 (fnV 56) (some ⟨br, 0, none⟩) ⟨w.heap.size + 1, 3, none⟩ (askV 111 #[.pointer (some ⟨c2, 0, none⟩), .pointer (some ⟨r2, 0, none⟩), .pointer (some ⟨q2, 0, none⟩)]) w3) := ⟨c2, r2, q2, rfl, x2, y2, z2⟩
  replace HZ := Lib.hid (HZ.out.keep k1 id)
  replace HF := Lib.hid (HF.out.keep k1 id)
  replace HR := Lib.hid (HR.out.keep k1 (fun _ _ => id))
  clear x2 y2 z2 k1
  unfold askV
  go_wp2_with fail
  refine (readsBod_any 58 (w.heap.size + 1) 4 (some ⟨br, 0, none⟩) w3).mono ?_
  rintro e w4 ⟨u3, rfl, ⟨c3, r3, q3, rfl, x3, y3, z3⟩, k1⟩
  replace gK := keepN gK k1
  replace gs := Nat.le_trans gs k1.size
  have kb := (Keep.refl NoB w4).alloc (.cells #[askV 106 #[.pointer (some ⟨c0, 0, none⟩), .pointer (some ⟨r0, 0, none⟩), .pointer (some ⟨q0, 0, none⟩)], askV 108 #[.pointer (some ⟨c1, 0, none⟩), .pointer (some ⟨r1, 0, none⟩), .pointer (some ⟨q1, 0, none⟩)], askV 111 #[.pointer (some ⟨c2, 0, none⟩), .pointer (some ⟨r2, 0, none⟩), .pointer (some ⟨q2, 0, none⟩)], askV 112 #[.pointer (some ⟨c3, 0, none⟩), .pointer (some ⟨r3, 0, none⟩), .pointer (some ⟨q3, 0, none⟩)]] 75)
  have bb := Blk.new w4 75 #[askV 106 #[.pointer (some ⟨c0, 0, none⟩), .pointer (some ⟨r0, 0, none⟩), .pointer (some ⟨q0, 0, none⟩)], askV 108 #[.pointer (some ⟨c1, 0, none⟩), .pointer (some ⟨r1, 0, none⟩), .pointer (some ⟨q1, 0, none⟩)], askV 111 #[.pointer (some ⟨c2, 0, none⟩), .pointer (some ⟨r2, 0, none⟩), .pointer (some ⟨q2, 0, none⟩)], askV 112 #[.pointer (some ⟨c3, 0, none⟩), .pointer (some ⟨r3, 0, none⟩), .pointer (some ⟨q3, 0, none⟩)]]
  have A3 : RdV 112 101 102 (fnV 58) (some ⟨br, 0, none⟩) ⟨w.heap.size + 1, 4, none⟩ (askV 112 #[.pointer (some ⟨c3, 0, none⟩), .pointer (some ⟨r3, 0, none⟩), .pointer (some ⟨q3, 0, none⟩)]) w4 := ⟨c3, r3, q3, rfl, x3, y3, z3⟩
  have kc := k1.trans kb (fun _ h _ => h)
  have HE := Lib.hid (reading_any _ (w.heap.size + 1) br Ob l p nilV (HF.out.keep kc id) (nilV_own _ _) (HR.out.keep kc (fun _ _ => id)) (fun k hk => ⟨by have := HOb.out k hk; have := kb.size; omega, by have := HOb.out k hk; omega⟩) hlen w4.heap.size _ _ _ _ bb (RdV.keep A0.out kc) (RdV.keep A1.out kc) (RdV.keep A2.out kc) (RdV.keep A3 kb))
  replace HZ := Lib.hid (HZ.out.keep kc id)
  replace gK := Lib.hid (keepN gK kb)
  replace gs := Nat.le_trans gs kb.size
  clear x3 y3 z3 k1 kb kc bb A0 A1 A2 A3 HF HR
  unfold askV at *
  go_wp2_with fail
  refine HE.out.mono ?_
  rintro e w5 (⟨rfl, f, q, v, hst, hP⟩ | ⟨rfl, hst, ⟨q, hq⟩, hB⟩)
  · rw [hst] at HD
    have hsm := smF_of hst hP.own
    have HC := Lib.hid (check_any v f w5 hP.own.fn hsm _ rfl)
    have kk := (gK.out.mono (O' := fun k => k = br) (fun _ hf _ => hf.elim)).trans hP.keep (fun k e hk => e.elim (fun e => by omega) id)
    have bz5 := HZ.out.keep hP.keep (fun e => e.elim (fun e => by omega) (fun e => by omega))
    have hO5 := hP.own.mono (P' := fun k => w.heap.size < k) (fun k hk _ => by unfold Fresh at hk; have := gs; omega)
    have hat5 := hP.at_
    have hF5 := hP.blk
    have hpl : ∀ (k : Nat), Ob k → ¬ k = w.heap.size := fun k hk e => by have := HOb.out k hk; omega
    obtain ⟨d0, d1, d2, d3, d4⟩ := blk5 hF5
    have HX := Lib.hid (And.intro kk (And.intro bz5 (And.intro hO5 (And.intro hat5 hF5))))
    have HPL := Lib.hid hpl
    clear HE hst hP hsm kk bz5 hO5 hat5 hF5 gK HZ HOb gs hsz hbr hpl
    obtain ⟨S, A, na, ca, B, nb, cb, L, nl, cl, D, nd, cd⟩ := v
    unfold FV.val FV.cells at *
    dsimp only at *
    cases ho : okF f
    · rw [chkF_no ho] at HC
      have HM : Hid (decF l p = none) := HD.out.trans (ifF_no ho)
      clear HD ho
      go_wp2_with fail
      refine HC.out.mono ?_
      rintro e w6 ⟨rfl, k6⟩
      obtain ⟨kk, bz5, hO5, hat5, hF5⟩ := HX.out
      have bz6 := bz5.keep k6 id
      have kk6 := kk.trans k6 (fun _ h _ => h.elim)
      have hat6 := hat5.keep k6 (fun _ _ => id)
      obtain ⟨z0, z1, z2, z3, z4⟩ := blk5 (v := nilV) bz6
      have fz := fun i => bz6.frozen i
      have HB := Lib.hid (blk_put5 bz6 nilV)
      have HK6 := Lib.hid (kk6.trans (keep_at5 w6 w.heap.size nilV) (fun k e hk => by omega))
      have HA6 := Lib.hid (hat6.keep (keep_at5 w6 w.heap.size nilV) HPL.out)
      unfold nilV at z0 z1 z2 z3 z4
      dsimp only at z0 z1 z2 z3 z4
      clear kk bz5 hO5 hat5 hF5 bz6 kk6 hat6 k6 HX HC d0 d1 d2 d3 d4 HPL
      go_wp2
      refine bodyPost_ret (ret_funE (v := nilV) rfl rfl HB.out rfl) rfl ?_
      exact .inl ⟨HM.out, rfl, ⟨_, HA6.out⟩, HK6.out⟩
    · rw [chkF_ok ho] at HC
      have HM : Hid (decF l p = some (f, q)) := HD.out.trans (ifF_ok ho)
      clear HD ho
      go_wp2_with fail
      refine HC.out.mono ?_
      rintro e w6 ⟨rfl, k6⟩
      obtain ⟨kk, bz5, hO5, hat5, hF5⟩ := HX.out
      have bz6 := bz5.keep k6 id
      have hF6 := hF5.keep k6 id
      have kk6 := kk.trans k6 (fun _ h _ => h.elim)
      have hat6 := hat5.keep k6 (fun _ _ => id)
      have hO6 := hO5.keepN k6
      clear d0 d1 d2 d3 d4
      obtain ⟨z0, z1, z2, z3, z4⟩ := blk5 (v := nilV) bz6
      obtain ⟨d0, d1, d2, d3, d4⟩ := blk5 (v := ⟨S, A, na, ca, B, nb, cb, L, nl, cl, D, nd, cd⟩) hF6
      have fz := fun i => bz6.frozen i
      have HB := Lib.hid (blk_put5 bz6 ⟨S, A, na, ca, B, nb, cb, L, nl, cl, D, nd, cd⟩)
      have HK6 := Lib.hid (kk6.trans (keep_at5 w6 w.heap.size ⟨S, A, na, ca, B, nb, cb, L, nl, cl, D, nd, cd⟩) (fun k e hk => by omega))
      have HA6 := Lib.hid (hat6.keep (keep_at5 w6 w.heap.size ⟨S, A, na, ca, B, nb, cb, L, nl, cl, D, nd, cd⟩) HPL.out)
      have HO6 : Hid (OwnF (put5 w6 w.heap.size ⟨S, A, na, ca, B, nb, cb, L, nl, cl, D, nd, cd⟩) (Fresh w) ⟨S, A, na, ca, B, nb, cb, L, nl, cl, D, nd, cd⟩ f) := (hO6.keep (keep_at5 w6 w.heap.size ⟨S, A, na, ca, B, nb, cb, L, nl, cl, D, nd, cd⟩) (fun k hk e => by omega)).mono (fun k hk _ => by unfold Fresh; omega)
      unfold nilV at z0 z1 z2 z3 z4
      dsimp only at z0 z1 z2 z3 z4 d0 d1 d2 d3 d4
      clear kk bz5 hO5 hat5 hF5 bz6 kk6 hat6 k6 HX HC HPL hO6 hF6
      go_wp2
      refine bodyPost_ret (ret_funE (v := ⟨S, A, na, ca, B, nb, cb, L, nl, cl, D, nd, cd⟩) rfl rfl HB.out rfl) rfl ?_
      exact .inr ⟨f, q, _, HM.out, rfl, HO6.out, HA6.out, HK6.out⟩
  · rw [hst] at HD
    have kk := (gK.out.mono (O' := fun k => k = br) (fun _ hf _ => hf.elim)).trans hB (fun k e hk => e.elim (fun e => by omega) id)
    have bz6 := HZ.out.keep hB (fun e => e.elim (fun e => by omega) (fun e => by omega))
    have HM : Hid (decF l p = none) := HD.out
    obtain ⟨z0, z1, z2, z3, z4⟩ := blk5 (v := nilV) bz6
    have fz := fun i => bz6.frozen i
    have HB := Lib.hid (blk_put5 bz6 nilV)
    have HK6 := Lib.hid (kk.trans (keep_at5 w5 w.heap.size nilV) (fun k e hk => by omega))
    have HA6 := Lib.hid (hq.keep (keep_at5 w5 w.heap.size nilV) (fun k hk e => by have := HOb.out k hk; omega))
    unfold nilV at z0 z1 z2 z3 z4
    dsimp only at z0 z1 z2 z3 z4
    clear kk bz6 HD HE hst hq hB gK HZ HOb gs hsz hbr
    go_wp2
    refine bodyPost_ret (ret_funE (v := nilV) rfl rfl HB.out rfl) rfl ?_
    exact .inl ⟨HM.out, rfl, ⟨_, HA6.out⟩, HK6.out⟩

end Go.Proofs.YtbnekeomdhljhaaGreatDoor.F
