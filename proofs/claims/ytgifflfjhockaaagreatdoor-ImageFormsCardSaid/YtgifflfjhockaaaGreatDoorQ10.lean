/-
  The iterator of an instruction's operands: it brings each operand that there is, in order, with its functions as they lie in memory when it comes. Conditions: kinds are from 0 to 10.
  What Show answers. Conditions: the listed package-level variables hold what their initialisers lay; numbers fit an int64.
  The iterator of an image's functions, with their numbers; and Find, the program's and the document's. Conditions: the image's lists lie in memory; a round keeps them.
  A map from numbers to numbers that a call makes: what each key has. No program, no conditions.
  A map from texts to numbers that a call makes: what each key has. No program, no conditions.
  Are no two functions of one name: the program's apart, by the iterator and a map. Conditions: the image's lists lie in memory; no more than 1000 functions.
  A region that draws its order, by what each of its values is, where one operation, number c, writes what lay in the blocks of O, and the words of c and of those that stand behind it (late) may speak of these blocks. No program, no conditions.
  A region that draws its order, by what each of its values is, as in KProps4, but each operation writes a slot of its own, in no order (ds). No program, no conditions.
  A region that draws its order, whose last operations, from number m on, stand behind all that are ahead of them: the first ones are taken by what each of their values is, whatever the order (as in KProps5), the last ones in their order. No program, no conditions.
  A region that draws its order, by what each of its values is, as in KProps5; what binds in the text's order alone, or in the compiler's alone, is not asked about. No program, no conditions.
  A region that draws its order, in a round of a range over a function, by what each of its values is, as in KProps6. No program, no conditions.
  A region that draws its order, in a round of a range over a function, whose last operations stand behind all that are ahead of them, as in KTail. No program, no conditions.
  The builtin copy of whole elements onto the first ones of a slice that is owned; and slices.Clone of lists. No conditions.
  The document's copy of a signature. Conditions: its lists lie in memory, and have no more than 100 types.
-/
import Derived.Laws.CopyOwn
import Derived.Maps.Keyed
import Derived.Maps.Own
import Derived.Maps.OwnIn
import Derived.Maps.OwnOps
import Derived.Maps.OwnSet
import Derived.Maps.Views
import Derived.OrdersIn
import Derived.RangeFuncCalls
import Derived.RangeFuncNested
import Derived.WalkArith
import Derived.Test.YtgifflfjhockaaaGreatDoorQ4
import Derived.Test.YtgifflfjhockaaaGreatDoorQ6
import Derived.Test.YtgifflfjhockaaaGreatDoorQ5
import Derived.Test.YtgifflfjhockaaaGreatDoorQ9
import Derived.Test.YtgifflfjhockaaaGreatDoorQ2
import Derived.Test.YtgifflfjhockaaaGreatDoorQ3
import Derived.Test.YtgifflfjhockaaaGreatDoorQ8
import Derived.Test.YtgifflfjhockaaaGreatDoorQ7
namespace Go.Proofs.YtgifflfjhockaaaGreatDoor.O
open Go.RowKit Go.Shelf
attribute [local go_sem] Oper.semAt_some

/-- An operand that comes: its kind, its number, its functions. -/
structure Part where
  k : Int
  n : Int
  sh : Value
  gu : Value
def Part.key (x : Part) : Int × Int := (x.k, x.n)
abbrev partE (x : Part) : Array Value := #[opV x.k x.sh x.gu, .int .i64 x.n]
/-- The operands that there are. -/
def partsL (ka kb a b : Int) : List (Int × Int) := if ka = 0 then [] else if kb = 0 then [(ka, a)] else [(ka, a), (kb, b)]
/-- What is known of one that comes: its place, its functions. -/
def PartN (ka kb a b : Int) (pre : List Part) (x : Part) (W : World) : Prop := (∃ post, pre.map Part.key ++ x.key :: post = partsL ka kb a b) ∧ FnAt x.k x.sh x.gu W

theorem parts_0 {ka kb a b : Int} (h : ka = 0) : partsL ka kb a b = [] := by unfold partsL; rw [if_pos h]
theorem parts_1 {ka kb a b : Int} (h : ka ≠ 0) (h' : kb = 0) : partsL ka kb a b = [(ka, a)] := by unfold partsL; rw [if_neg h, if_pos h']
theorem parts_2 {ka kb a b : Int} (h : ka ≠ 0) (h' : kb ≠ 0) : partsL ka kb a b = [(ka, a), (kb, b)] := by unfold partsL; rw [if_neg h, if_neg h']

theorem run_index_nums (a b : Int) (w : World) : (Instr.index 287 (.agg #[.int .i64 a, .int .i64 b]) (.int .i64 0)).run Tryz.prog w = .ok (.int .i64 a) w ∧
    (Instr.index 287 (.agg #[.int .i64 a, .int .i64 b]) (.int .i64 1)).run Tryz.prog w = .ok (.int .i64 b) w := by
  have hs : (sizeOf 2).run Tryz.prog w = .ok 1 w := Tryz.sizeOf2 w
  unfold Instr.index
  constructor
  · simp [run_underlying Tryz.underlying287, asIntOf, hs, part]
  · simp [run_underlying Tryz.underlying287, asIntOf, hs, part]

set_option maxRecDepth 100000 in
set_option maxHeartbeats 4000000 in
theorem parts1_in (m : Nat) (q : Row) (op a b : Int) (Bx Br : Nat) (hka : 0 ≤ q.ka ∧ q.ka ≤ 10) (hkb : 0 ≤ q.kb ∧ q.kb ≤ 10) (I : List Part → World → Prop)
    (hbx : ∀ pre W, I pre W → Blk W Bx 63 #[.int .i64 op, .int .i64 a, .int .i64 b]) (hbr : ∀ pre W, I pre W → Blk W Br 259 (cells9 q)) :
    Brings Tryz.prog m (m + 1) 210 #[.pointer (some ⟨Bx, 0, none⟩), .pointer (some ⟨Br, 0, none⟩)] partE I (PartN q.ka q.kb a b) (fun xs => xs.map Part.key = partsL q.ka q.kb a b) := by
  intro L J hJk hJI hY W h0
  refine callsIn_of_wp Tryz.func210 rfl trivial ?_ rfl
  simp only [Tryz.ntmps210, List.size_toArray, List.length_cons, List.length_nil, Nat.reduceAdd, Nat.reduceSub, Array.replicate_succ, Array.replicate_zero, List.push_toArray, List.append_toArray, List.nil_append, List.cons_append]
  have x0 := hbx _ _ (hJI _ _ h0)
  have c1 : W.cell? ⟨Bx, 1, none⟩ = some (.int .i64 a) := x0.cell 1
  have c2 : W.cell? ⟨Bx, 2, none⟩ = some (.int .i64 b) := x0.cell 2
  clear x0
  gi_wp2
  gi_loopw [11] (fun i wr => ∃ (k : Nat) (pre : List Part), k ≤ 2 ∧ i = .int .i64 (k : Int) ∧ Hid (pre.map Part.key = [(q.ka, a), (q.kb, b)].take k ∧ (1 ≤ k → q.ka ≠ 0) ∧ (2 ≤ k → q.kb ≠ 0)) ∧ J pre wr)
    (fun i _ => 2 - (intOf i).toNat)
  case atStart => exact ⟨0, [], by omega, rfl, ⟨rfl, fun h => by omega, fun h => by omega⟩, h0⟩
  case round =>
    obtain ⟨k, pre, hk, rfl, HP, hJ⟩ := hrel
    have r0 := hbr _ _ (hJI _ _ hJ)
    have d1 : wr.cell? ⟨Br, 1, none⟩ = some (.int .i64 q.ka) := r0.cell 1
    have d2 : wr.cell? ⟨Br, 2, none⟩ = some (.int .i64 q.kb) := r0.cell 2
    clear r0 c1 c2
    have hix := fun w => run_index_nums a b w
    have hi0 := fun w => (hix w).1
    have hi1 := fun w => (hix w).2
    clear hix
    obtain rfl | rfl | rfl : k = 0 ∨ k = 1 ∨ k = 2 := by omega
    · by_cases hz : q.ka = 0
      · have hS : Hid (pre.map Part.key = partsL q.ka q.kb a b) := by show _ = _; rw [HP.out.1, parts_0 hz]; rfl
        have e0 : (q.ka == 0) = true := by rw [beq_iff_eq]; exact hz
        clear HP hz hka hkb
        rw [show ((0 : Nat) : Int) = 0 from rfl]
        gi_wp2
        refine ⟨trivial, ?_⟩
        gi_wp2
        refine ⟨fun _ h => (by cases h), ?_⟩
        gi_wp2
        refine bodyPost_ret (results_none rfl _ _ _) rfl ?_
        exact ⟨⟨_, rfl⟩, pre, hS.out, hJ⟩
      · have e0 : (q.ka == 0) = false := by rw [beq_eq_false_iff_ne]; exact hz
        have HN : Hid (pre.map Part.key ++ (q.ka, a) :: (if q.kb = 0 then [] else [(q.kb, b)]) = partsL q.ka q.kb a b) := by show _ = _; rw [HP.out.1]; unfold partsL; rw [if_neg hz]; split <;> rfl
        have HQ : Hid (∀ x : Part, x.key = (q.ka, a) → (pre ++ [x]).map Part.key = [(q.ka, a), (q.kb, b)].take 1) := by intro x hx; rw [List.map_append, HP.out.1]; simp [hx]
        have hp1 := HP.out.2.1
        have HZ : Hid ((1 ≤ 1 → q.ka ≠ 0) ∧ (2 ≤ 1 → q.kb ≠ 0)) := ⟨fun _ => hz, fun h => by omega⟩
        clear HP hz hp1
        rw [show ((0 : Nat) : Int) = 0 from rfl]
        gi_wp2_with (refine ⟨trivial, ?_⟩; gi_at_call 198; refine (callsIn_wide.2 (operandOf_any q.ka hka _)).mono ?_; rintro e w1 ⟨sh, gu, rfl, hF, k1⟩; have hJ1 := hJk _ _ _ hJ k1; obtain ⟨fn, tmps, assign, body, hy, hR⟩ := hY pre ⟨q.ka, a, sh, gu⟩ w1 hJ1 ⟨⟨_, HN.out⟩, hF⟩; dsimp only [partE] at hy)
        refine hR.mono ?_
        rintro e W3 ⟨rfl, hJ3⟩
        gi_wp2
        go_roundw
        case rel => exact ⟨1, pre ++ [_], by omega, rfl, ⟨HQ.out _ rfl, HZ.out⟩, hJ3⟩
        case measure => simp [intOf]
    · by_cases hz : q.kb = 0
      · have hS : Hid (pre.map Part.key = partsL q.ka q.kb a b) := by show _ = _; rw [HP.out.1, parts_1 (HP.out.2.1 (by omega)) hz]; rfl
        have e0 : (q.kb == 0) = true := by rw [beq_iff_eq]; exact hz
        clear HP hz hka hkb
        rw [show ((1 : Nat) : Int) = 1 from rfl]
        gi_wp2
        refine ⟨trivial, ?_⟩
        gi_wp2
        refine ⟨fun _ h => (by cases h), ?_⟩
        gi_wp2
        refine bodyPost_ret (results_none rfl _ _ _) rfl ?_
        exact ⟨⟨_, rfl⟩, pre, hS.out, hJ⟩
      · have e0 : (q.kb == 0) = false := by rw [beq_eq_false_iff_ne]; exact hz
        have HN : Hid (pre.map Part.key ++ (q.kb, b) :: [] = partsL q.ka q.kb a b) := by show _ = _; rw [HP.out.1, parts_2 (HP.out.2.1 (by omega)) hz]; rfl
        have HQ : Hid (∀ x : Part, x.key = (q.kb, b) → (pre ++ [x]).map Part.key = [(q.ka, a), (q.kb, b)].take 2) := by intro x hx; rw [List.map_append, HP.out.1]; simp [hx]
        have hp1 := HP.out.2.1
        have HZ : Hid ((1 ≤ 2 → q.ka ≠ 0) ∧ (2 ≤ 2 → q.kb ≠ 0)) := ⟨fun _ => hp1 (by omega), fun _ => hz⟩
        clear HP hz hp1
        rw [show ((1 : Nat) : Int) = 1 from rfl]
        gi_wp2_with (refine ⟨trivial, ?_⟩; gi_at_call 198; refine (callsIn_wide.2 (operandOf_any q.kb hkb _)).mono ?_; rintro e w1 ⟨sh, gu, rfl, hF, k1⟩; have hJ1 := hJk _ _ _ hJ k1; obtain ⟨fn, tmps, assign, body, hy, hR⟩ := hY pre ⟨q.kb, b, sh, gu⟩ w1 hJ1 ⟨⟨_, HN.out⟩, hF⟩; dsimp only [partE] at hy)
        refine hR.mono ?_
        rintro e W3 ⟨rfl, hJ3⟩
        gi_wp2
        go_roundw
        case rel => exact ⟨2, pre ++ [_], by omega, rfl, ⟨HQ.out _ rfl, HZ.out⟩, hJ3⟩
        case measure => simp [intOf]
    · have hS : Hid (pre.map Part.key = partsL q.ka q.kb a b) := by show _ = _; rw [HP.out.1, parts_2 (HP.out.2.1 (by omega)) (HP.out.2.2 (by omega))]; rfl
      clear HP hka hkb
      rw [show ((2 : Nat) : Int) = 2 from rfl]
      gi_wp2
      go_end0
      exact ⟨⟨_, rfl⟩, pre, hS.out, hJ⟩

end Go.Proofs.YtgifflfjhockaaaGreatDoor.O

namespace Go.Proofs.YtgifflfjhockaaaGreatDoor.O
open Go.RowKit Go.Shelf
attribute [local go_sem] Oper.semAt_some

theorem blk_own {β : Type} (B g : Nat) (t : TypeId) (cs : β → Array Value) : OwnFrom B (fun s W => Blk W g t (cs s)) := by
  intro s X Y row h hg hrow
  refine (hg.block g h.lt (fun e => ?_)).trans h
  obtain ⟨_, o, ho, hc⟩ := hrow g e.symm
  rw [show X.heap[g]? = _ from h] at ho
  cases ho; cases hc
theorem keep_own {β : Type} {B : Nat} {w0 : World} (O : Nat → Prop) (hB : w0.heap.size ≤ B) : OwnFrom B (fun (_ : β) W => Keep O w0 W) := by
  intro s X Y row h hg hrow
  exact h.grown hg (fun g e hl => by have := (hrow g e).1; omega)
set_option maxHeartbeats 1000000 in
theorem parts_any (q : Row) (op a b : Int) (w : World) : Calls Tryz.prog 194 #[rowV q, instV op a b] w fun e w' =>
    e = .returned (.func (.func 210) #[] #[.pointer (some ⟨w.heap.size + 1, 0, none⟩), .pointer (some ⟨w.heap.size, 0, none⟩)]) ∧ Blk w' w.heap.size 259 (cells9 q) ∧ Blk w' (w.heap.size + 1) 63 #[.int .i64 op, .int .i64 a, .int .i64 b] ∧ Keep NoB w w' := by
  go_enter Tryz.func194, Tryz.ntmps194
  go_wp2
  go_ret
  have h1 := Blk.new (w.alloc (.cells (cells9 q) 259)) 63 #[.int .i64 op, .int .i64 a, .int .i64 b]
  rw [World.size_alloc] at h1
  exact ⟨rfl, (Blk.new _ _ _).alloc _, h1, ((Keep.refl NoB w).alloc _).alloc _⟩

/-- The text of the operands that have come. -/
def textP (l : List (Int × Int)) : List UInt8 := l.flatMap fun x => 32 :: word x.1 x.2
theorem kinds_none (op : Int) : (rowAt op).ka = 0 → (rowAt op).kb = 0 := by
  have := rowAt_all (p := fun r => decide (r.ka = 0 → r.kb = 0)) (by decide) (by decide) op
  exact of_decide_eq_true this

theorem textP_len : ∀ (l : List (Int × Int)), (∀ x ∈ l, I64 x.2) → (textP l).length ≤ 22 * l.length
  | [], _ => Nat.zero_le _
  | x :: l, h => by
    have h1 := word_len x.1 x.2 (h x (by simp))
    have h2 := textP_len l (fun y hy => h y (by simp [hy]))
    have e : textP (x :: l) = (32 :: word x.1 x.2) ++ textP l := by unfold textP; simp
    rw [e]
    simp
    omega
theorem parts_mem {ka kb a b : Int} {x : Int × Int} (h : x ∈ partsL ka kb a b) : x.1 ≠ 0 ∧ (x.2 = a ∨ x.2 = b) := by
  unfold partsL at h
  split at h
  · cases h
  · split at h
    · rename_i h1 h2; simp at h; subst h; exact ⟨h1, .inl rfl⟩
    · rename_i h1 h2
      simp at h
      rcases h with rfl | rfl
      · exact ⟨h1, .inl rfl⟩
      · exact ⟨h2, .inr rfl⟩
theorem parts_len (ka kb a b : Int) : (partsL ka kb a b).length ≤ 2 := by unfold partsL; split <;> (try split) <;> simp
theorem part_facts {ka kb a b : Int} {pre : List Part} {x : Part} {W : World} (h : PartN ka kb a b pre x W) (ha : I64 a) (hb : I64 b) : x.k ≠ 0 ∧ I64 x.n ∧ (textP (pre.map Part.key)).length ≤ 44 := by
  obtain ⟨⟨post, hp⟩, _⟩ := h
  have h64 : ∀ y ∈ partsL ka kb a b, I64 y.2 := fun y hy => by rcases (parts_mem hy).2 with e | e <;> rw [e] <;> assumption
  have hx := parts_mem (x := x.key) (by rw [← hp]; simp)
  have hl := congrArg List.length hp
  have h2 := parts_len ka kb a b
  have hx64 := h64 x.key (by rw [← hp]; simp)
  have ht := textP_len (pre.map Part.key) (fun y hy => h64 y (by rw [← hp]; exact List.mem_append_left _ hy))
  simp at hl ht
  exact ⟨hx.1, hx64, by omega⟩
theorem Keep_putObj {O : Nat → Prop} {w W : World} {D : Nat} {o : Obj} (h : Keep O w W) (hD : w.heap.size ≤ D) : Keep O w (W.putObj D o) := h.grown (grownBy_putObj' W D o) (fun g e hl => by cases e; omega)
end Go.Proofs.YtgifflfjhockaaaGreatDoor.O

namespace Go.Proofs.YtgifflfjhockaaaGreatDoor.I
open Go.RowKit Go.Shelf W
attribute [local go_sem] Oper.semAt_some

/-- The function of a number, and what comes. -/
def fnI (fs : List FE) (x : Nat) : FE := fs[x]?.getD (F.nilV, F.nilF)
theorem fnI_at {fs : List FE} {x : Nat} (h : x < fs.length) : fnI fs x = fs[x] := by unfold fnI; rw [List.getElem?_eq_getElem h]; rfl
abbrev eaA (fs : List FE) (x : Nat) : Array Value := #[.int .i64 (x : Int), (fnI fs x).1.val]
/-- What a round keeps: the list of functions. -/
def FsK (Y : Option Addr) (fs : List FE) (W W' : World) : Prop := Rd W Y (fvs fs) → Rd W' Y (fvs fs)
theorem FsK.trans {Y : Option Addr} {fs : List FE} {A B C : World} (h : FsK Y fs A B) (h' : FsK Y fs B C) : FsK Y fs A C := fun hr => h' (h hr)
theorem rd_putObj {A : Option Addr} {xs : List Value} (W : World) (l : Nat) (o o' : Obj) (hl : W.heap[l]? = some o) (ho : o.isCells = false) (hr : Rd W A xs) : Rd (W.putObj l o') A xs := fun h0 => by
  obtain ⟨g, off, e, hc⟩ := hr h0
  refine ⟨g, off, e, fun j u hu => ?_⟩
  have h1 := hc j u hu
  have hne : g ≠ l := by
    intro e2
    unfold World.cell? at h1
    dsimp only at h1
    rw [e2, hl] at h1
    cases o with
    | cells cs t f => cases ho
    | _ => simp at h1
  exact (World.cell?_of_block (World.putObj_heap_other (show (⟨g, off + j, none⟩ : Addr).block ≠ l from hne))).trans h1
theorem FsK.putObj {Y : Option Addr} {fs : List FE} (W : World) (l : Nat) (o o' : Obj) (hl : W.heap[l]? = some o) (ho : o.isCells = false) : FsK Y fs W (W.putObj l o') := fun h => rd_putObj W l o o' hl ho h
set_option maxRecDepth 100000 in
set_option maxHeartbeats 4000000 in
theorem each1_in (m l : Nat) (hm : 1 ≤ m) (b : Nat) (v : IV) (fs : List FE) (hl : fs.length = v.ny) (hn : v.ny ≤ 1000) (J Jx : List Nat → World → Prop) (hJk : ∀ pre W W', J pre W → Keep NoB W W' → J pre W')
    (hY : ∀ pre x W, J pre W → pre.length < v.ny → YieldAt Fence.wide (m - 1) Tryz.prog l (eaA fs x) W fun e W' =>
      (e = .returned (.bool true) ∧ J (pre ++ [x]) W' ∧ FsK v.Y fs W W') ∨ (e = .returned (.bool false) ∧ Jx (pre ++ [x]) W'))
    (W : World) (hx : Blk W b 25 v.cells) (hr : Rd W v.Y (fvs fs)) (h0 : J [] W) :
    CallsIn Fence.wide m Tryz.prog 104 #[.func (.yield l) #[] #[], .pointer (some ⟨b, 0, none⟩)] W fun e W' => (∃ v, e = .returned v) ∧
      ((∃ ys : List Nat, ys = List.range v.ny ∧ J ys W') ∨ (∃ pre : List Nat, (∃ k, k ≤ v.ny ∧ pre = List.range k) ∧ Jx pre W')) := by
  obtain ⟨q0, q1⟩ := blk2 hx
  obtain ⟨X, nx, cx, Y, ny, cy⟩ := v
  dsimp only at *
  have HR := Lib.hid hr
  clear hr hx
  refine callsIn_of_wp Tryz.func104 rfl trivial ?_ rfl
  simp only [Tryz.ntmps104, List.size_toArray, List.length_cons, List.length_nil, Nat.reduceAdd, Nat.reduceSub, Array.replicate_succ, Array.replicate_zero, List.push_toArray, List.append_toArray, List.nil_append, List.cons_append]
  gi_wp2
  gi_loopw [8] (fun p wr => ∃ j : Nat, j ≤ ny ∧ p = .int .i64 (j : Int) ∧ J (List.range j) wr ∧ Hid (Rd wr Y (fvs fs))) (fun p _ => ny - (intOf p).toNat)
  case atStart => exact ⟨0, by omega, rfl, h0, HR.out⟩
  case round =>
    clear h0 HR q0 q1
    obtain ⟨j, hj, rfl, hJ, hL⟩ := hrel
    by_cases hlt : j < ny
    · have hje : j < fs.length := by omega
      obtain ⟨g, off, rfl, c0, c1, c2, c3, c4⟩ := fun_at hL.out hje
      have hk0 := (Keep.refl NoB wr).alloc (.cells (fnI fs j).1.cells 61)
      have HY := Lib.hid (hY (List.range j) j _ (hJk _ _ _ hJ hk0) (by simp; omega))
      have HL2 := Lib.hid (hL.out.keepN hk0)
      have HE : Hid (List.range j ++ [j] = List.range (j + 1)) := by show _ = _; rw [List.range_succ]
      have hfi := fnI_at hje
      dsimp only [eaA] at HY
      rw [hfi] at HY HL2
      clear hJ hk0 hfi
      generalize fs[j] = e at c0 c1 c2 c3 c4 HY HL2
      obtain ⟨⟨S1, A1, na1, ca1, B1, nb1, cb1, L1, nl1, cl1, D1, nd1, cd1⟩, f⟩ := e
      dsimp only [F.FV.val, F.FV.cells] at c0 c1 c2 c3 c4 HY HL2
      obtain ⟨fn, tmps, assign, body, hy, hRun⟩ := HY.out
      clear HY hY
      gi_wp2
      refine hRun.mono ?_
      rintro e W3 (⟨rfl, hJ3, hk3⟩ | ⟨rfl, hJx3⟩)
      · have hL3 := hk3 HL2.out
        rw [HE.out] at hJ3
        gi_wp2
        go_roundw
        case rel => exact ⟨j + 1, by omega, by go_num, hJ3, hL3⟩
        case measure => simp [intOf]; omega
      · rw [HE.out] at hJx3
        gi_wp2
        refine bodyPost_ret (results_none rfl _ _ _) rfl ?_
        exact ⟨⟨_, rfl⟩, .inr ⟨_, ⟨_, by omega, rfl⟩, hJx3⟩⟩
    · obtain rfl : j = ny := by omega
      gi_wp2
      go_end0
      exact ⟨⟨_, rfl⟩, .inl ⟨_, rfl, hJ⟩⟩

theorem each_abides {B : Nat} {J : List Nat → World → Prop} (h : AbidesFrom B J) : ∀ pre W W', J pre W → Keep NoB W W' → J pre W' := fun pre W W' hj hk => h pre W W' none hj hk.grows (fun r e => by cases e)
theorem each_stops (m : Nat) (hm : 1 ≤ m) (b : Nat) (v : IV) (fs : List FE) (hl : fs.length = v.ny) (hn : v.ny ≤ 1000) (w : World) (hx : Blk w b 25 v.cells) (hr : Rd w v.Y (fvs fs)) :
    SeqStopsK Fence.wide m Tryz.prog 104 #[.pointer (some ⟨b, 0, none⟩)] (eaA fs) (FsK v.Y fs) (fun ys : List Nat => ys = List.range v.ny) (fun pre : List Nat => ∃ k, k ≤ v.ny ∧ pre = List.range k) v.ny w := fun l J Jx W hb hJ _ hY h0 =>
  each1_in m l hm b v fs hl hn J Jx (each_abides hJ) hY W (Blk.keep hx (Keep.of_below (O := NoB) hb) id) (hr.keepN (Keep.of_below (O := NoB) hb)) h0

set_option maxRecDepth 100000 in
theorem each_any (m : Nat) (v : IV) (w : World) :
    CallsIn Fence.wide m Tryz.prog 57 #[v.val] w fun e w' => e = .returned (.func (.func 104) #[] #[.pointer (some ⟨w.heap.size, 0, none⟩)]) ∧ w' = w.alloc (.cells v.cells 25) := by
  obtain ⟨X, nx, cx, Y, ny, cy⟩ := v
  dsimp only [IV.val, IV.cells]
  refine callsIn_of_wp Tryz.func57 rfl trivial ?_ rfl
  simp only [Tryz.ntmps57, List.size_toArray, List.length_cons, List.length_nil, Nat.reduceAdd, Nat.reduceSub, Array.replicate_succ, Array.replicate_zero, List.push_toArray, List.append_toArray, List.nil_append, List.cons_append]
  gi_wp2
  go_ret
  exact ⟨rfl, rfl⟩

end Go.Proofs.YtgifflfjhockaaaGreatDoor.I

namespace Go.Proofs.YtgifflfjhockaaaGreatDoor
open Go.RowKit Go.Maps

/-- Block b is a map of at most n keys; each number has what f says. -/
def IMap (P : Program) (k e : TypeId) (b n : Nat) (f : Int → Nat) (w : World) : Prop :=
  ∃ D : DataW Unit, w.ownsMap P k (plainElem P e) b n D ∧ IsMap D ∧ ∀ h : Int, D.atKey (.int .i64 h) (.lit (.int .i64 0)) = .lit (.int .i64 (f h : Int))
section
variable {P : Program} {k e t : TypeId} {b n : Nat} {f : Int → Nat} {w w' : World}
theorem IMap.new (P : Program) (k e : TypeId) (w : World) : IMap P k e w.heap.size 0 (fun _ => 0) (w.alloc (.map #[] 0)) :=
  ⟨.map [], World.ownsMap_made w P k _, isMap_empty, fun _ => rfl⟩
theorem IMap.lt (h : IMap P k e b n f w) : b < w.heap.size := by obtain ⟨_, h, _⟩ := h; exact h.lt
theorem IMap.obj (h : IMap P k e b n f w) : ∃ es c, w.heap[b]? = some (.map es c) := by
  obtain ⟨_, ⟨es, c, hb, _⟩, _⟩ := h
  exact ⟨es, c, hb⟩
theorem IMap.grown {row : Option Nat} (h : IMap P k e b n f w) (hg : w.grownBy w' row) (hne : some b ≠ row) : IMap P k e b n f w' := by
  obtain ⟨D, h1, h2, h3⟩ := h
  exact ⟨D, h1.kept hg hne, h2, h3⟩
theorem IMap.keep {O : Nat → Prop} (h : IMap P k e b n f w) (hk : Keep O w w') (hb : ¬ O b) : IMap P k e b n f w' := by
  obtain ⟨D, ⟨es, c, h0, hr⟩, h2, h3⟩ := h
  exact ⟨D, ⟨es, c, (hk.block b (Array.getElem?_eq_some_iff.1 h0).1 hb).trans h0, hr⟩, h2, h3⟩
theorem IMap.mono {m : Nat} (h : IMap P k e b n f w) (hm : n ≤ m) : IMap P k e b m f w := by
  obtain ⟨D, h1, h2, h3⟩ := h
  exact ⟨D, h1.mono hm, h2, h3⟩
theorem IMap.congr {g : Int → Nat} (h : IMap P k e b n f w) (hg : ∀ x, g x = f x) : IMap P k e b n g w := by
  obtain ⟨D, h1, h2, h3⟩ := h
  exact ⟨D, h1, h2, fun x => by rw [hg]; exact h3 x⟩
/-- What a store of one makes of f. -/
def setF (f : Int → Nat) (x : Int) (v : Nat) : Int → Nat := fun y => if y = x then v else f y
theorem lit_inj {a b : Int} (h : (DataW.lit (.int .i64 a) : DataW Unit) = .lit (.int .i64 b)) : a = b := by injection h with h; injection h with _ h
theorem isMap_put {D : DataW Unit} {f : Int → Nat} {x : Int} {v : Nat} (hD : IsMap D) (h3 : ∀ h : Int, D.atKey (.int .i64 h) (.lit (.int .i64 0)) = .lit (.int .i64 (f h : Int))) :
    ∀ h : Int, (D.put (.int .i64 x) (.lit (.int .i64 (v : Int)))).atKey (.int .i64 h) (.lit (.int .i64 0)) = .lit (.int .i64 (setF f x v h : Int)) := by
  intro h
  unfold setF
  by_cases he : h = x
  · subst he; rw [if_pos rfl]; exact atKey_put_same hD (by unfold WideAt.IsKeyLit; trivial) _ _
  · rw [if_neg he, atKey_put_other (by intro e; injection e with _ e; exact he e)]; exact h3 h
/-- A store. -/
theorem IMap.update (h : IMap P k e b n f w) (ht : P.underlying t = some (.map k e)) (hk : P.underlying k = some (.int .i64)) (he : P.underlying e = some (.int .i64)) (hn : n < maxLen) (x : Int) (v : Nat) (hx : (Lit.int .i64 x).wf = true) (hv : (Lit.int .i64 (v : Int)).wf = true) :
    ∃ w', (Instr.mapUpdate t (.map (some b)) (.int .i64 x) (.int .i64 (v : Int))).run P w = .ok () w' ∧ IMap P k e b (n + 1) (setF f x v) w' ∧ w.grownBy w' (some b) := by
  obtain ⟨D, h1, h2, h3⟩ := h
  obtain ⟨w', hrun, r1, r2⟩ := h1.update (int_keyed hk) ht hn (keyOf_int_mk hk hx) (plainElem_int he hv)
  exact ⟨w', hrun, ⟨_, r1, h2.put _ _, isMap_put h2 h3⟩, r2⟩
/-- A look. -/
theorem IMap.look (h : IMap P k e b n f w) (ht : P.underlying t = some (.map k e)) (hk : P.underlying k = some (.int .i64)) (he : P.underlying e = some (.int .i64)) (hz : (zeroValue e).run P w = .ok (.int .i64 0) w) (x : Int) (hx : (Lit.int .i64 x).wf = true) :
    (Instr.lookup t (.map (some b)) (.int .i64 x) false).run P w = .ok (.int .i64 (f x : Int)) w := by
  obtain ⟨D, h1, h2, h3⟩ := h
  obtain ⟨c, hrun, hat, _⟩ := h1.lookup_int (int_keyed hk) ht he hz (keyOf_int_mk hk hx)
  rw [h3 x] at hat
  rw [lit_inj hat]
  exact hrun
end
end Go.Proofs.YtgifflfjhockaaaGreatDoor

namespace Go.Proofs.YtgifflfjhockaaaGreatDoor
open Go.RowKit Go.Maps

/-- Block b is a map of at most n keys; each text has what f says. -/
def SMap (P : Program) (k e : TypeId) (b n : Nat) (f : List UInt8 → Nat) (w : World) : Prop :=
  ∃ D : DataW Unit, w.ownsMap P k (plainElem P e) b n D ∧ IsMap D ∧ ∀ s : List UInt8, D.atKey (.string s) (.lit (.int .i64 0)) = .lit (.int .i64 (f s : Int))
section
variable {P : Program} {k e t : TypeId} {b n : Nat} {f : List UInt8 → Nat} {w w' : World}
theorem SMap.new (P : Program) (k e : TypeId) (w : World) : SMap P k e w.heap.size 0 (fun _ => 0) (w.alloc (.map #[] 0)) :=
  ⟨.map [], World.ownsMap_made w P k _, isMap_empty, fun _ => rfl⟩
theorem SMap.lt (h : SMap P k e b n f w) : b < w.heap.size := by obtain ⟨_, h, _⟩ := h; exact h.lt
theorem SMap.obj (h : SMap P k e b n f w) : ∃ es c, w.heap[b]? = some (.map es c) := by
  obtain ⟨_, ⟨es, c, hb, _⟩, _⟩ := h
  exact ⟨es, c, hb⟩
theorem SMap.grown {row : Option Nat} (h : SMap P k e b n f w) (hg : w.grownBy w' row) (hne : some b ≠ row) : SMap P k e b n f w' := by
  obtain ⟨D, h1, h2, h3⟩ := h
  exact ⟨D, h1.kept hg hne, h2, h3⟩
theorem SMap.keep {O : Nat → Prop} (h : SMap P k e b n f w) (hk : Keep O w w') (hb : ¬ O b) : SMap P k e b n f w' := by
  obtain ⟨D, ⟨es, c, h0, hr⟩, h2, h3⟩ := h
  exact ⟨D, ⟨es, c, (hk.block b (Array.getElem?_eq_some_iff.1 h0).1 hb).trans h0, hr⟩, h2, h3⟩
theorem SMap.mono {m : Nat} (h : SMap P k e b n f w) (hm : n ≤ m) : SMap P k e b m f w := by
  obtain ⟨D, h1, h2, h3⟩ := h
  exact ⟨D, h1.mono hm, h2, h3⟩
theorem SMap.congr {g : List UInt8 → Nat} (h : SMap P k e b n f w) (hg : ∀ x, g x = f x) : SMap P k e b n g w := by
  obtain ⟨D, h1, h2, h3⟩ := h
  exact ⟨D, h1, h2, fun x => by rw [hg]; exact h3 x⟩
/-- What a store makes of f. -/
def setS (f : List UInt8 → Nat) (x : List UInt8) (v : Nat) : List UInt8 → Nat := fun y => if y = x then v else f y
theorem isMap_putS {D : DataW Unit} {f : List UInt8 → Nat} {x : List UInt8} {v : Nat} (hD : IsMap D) (h3 : ∀ h : List UInt8, D.atKey (.string h) (.lit (.int .i64 0)) = .lit (.int .i64 (f h : Int))) :
    ∀ h : List UInt8, (D.put (.string x) (.lit (.int .i64 (v : Int)))).atKey (.string h) (.lit (.int .i64 0)) = .lit (.int .i64 (setS f x v h : Int)) := by
  intro h
  unfold setS
  by_cases he : h = x
  · subst he; rw [if_pos rfl]; exact atKey_put_same hD (by unfold WideAt.IsKeyLit; trivial) _ _
  · rw [if_neg he, atKey_put_other (by intro e; injection e with e; exact he e)]; exact h3 h
theorem keyOf_str {P : Program} {k : TypeId} (hk : P.underlying k = some .string) {S : ByteArray} (hs : S.size ≤ maxLen) : keyOf P k (.string S) = some (.string S.data.toList) := by
  simp [keyOf, hk, mapKey, hs]
/-- A store. -/
theorem SMap.update (h : SMap P k e b n f w) (ht : P.underlying t = some (.map k e)) (hk : P.underlying k = some .string) (he : P.underlying e = some (.int .i64)) (hn : n < maxLen) (S : ByteArray) (v : Nat) (hx : S.size ≤ maxLen) (hv : (Lit.int .i64 (v : Int)).wf = true) :
    ∃ w', (Instr.mapUpdate t (.map (some b)) (.string S) (.int .i64 (v : Int))).run P w = .ok () w' ∧ SMap P k e b (n + 1) (setS f S.data.toList v) w' ∧ w.grownBy w' (some b) := by
  obtain ⟨D, h1, h2, h3⟩ := h
  obtain ⟨w', hrun, r1, r2⟩ := h1.update (string_keyed hk) ht hn (keyOf_str hk hx) (plainElem_int he hv)
  exact ⟨w', hrun, ⟨_, r1, h2.put _ _, isMap_putS h2 h3⟩, r2⟩
/-- A look. -/
theorem SMap.look (h : SMap P k e b n f w) (ht : P.underlying t = some (.map k e)) (hk : P.underlying k = some .string) (he : P.underlying e = some (.int .i64)) (hz : (zeroValue e).run P w = .ok (.int .i64 0) w) (S : ByteArray) (hx : S.size ≤ maxLen) :
    (Instr.lookup t (.map (some b)) (.string S) false).run P w = .ok (.int .i64 (f S.data.toList : Int)) w := by
  obtain ⟨D, h1, h2, h3⟩ := h
  obtain ⟨c, hrun, hat, _⟩ := h1.lookup_int (string_keyed hk) ht he hz (keyOf_str hk hx)
  rw [h3 S.data.toList] at hat
  rw [lit_inj hat]
  exact hrun
end
end Go.Proofs.YtgifflfjhockaaaGreatDoor

namespace Go.Proofs.YtgifflfjhockaaaGreatDoor.I
open Go.RowKit Go.Shelf W
attribute [local go_sem] Oper.semAt_some

/-- The name of a number. -/
def nmx (fs : List FE) (x : Nat) : List UInt8 := (fnI fs x).1.S.data.toList
/-- How often a name has come, if none came twice. -/
def cntF (fs : List FE) (pre : List Nat) (s : List UInt8) : Nat := if s ∈ pre.map (nmx fs) then 1 else 0
theorem cntF_new {fs : List FE} {pre : List Nat} {x : Nat} : ∀ s, cntF fs (pre ++ [x]) s = setS (cntF fs pre) (nmx fs x) 1 s := by
  intro s
  unfold cntF setS
  by_cases e : s = nmx fs x
  · subst e; simp
  · rw [if_neg e]; simp [e]
theorem nodup_new {fs : List FE} {pre : List Nat} {x : Nat} (h : nmx fs x ∉ pre.map (nmx fs)) (hp : (pre.map (nmx fs)).Nodup) : ((pre ++ [x]).map (nmx fs)).Nodup := by
  rw [List.map_append, List.nodup_append]
  refine ⟨hp, by simp, ?_⟩
  intro a ha b hb
  simp at hb
  subst hb
  rintro rfl
  exact h ha
theorem names_range {fs : List FE} {n : Nat} (hn : fs.length = n) (hN : ∀ e ∈ fs, e.1.S.data.toList = e.2.nm) : (List.range n).map (nmx fs) = names (imOf [] fs) := by
  apply List.ext_getElem?
  intro i
  unfold names imOf nmx
  by_cases h : i < fs.length
  · rw [List.getElem?_map, List.getElem?_range (by omega)]
    simp [fnI_at h, h, hN _ (List.getElem_mem h)]
  · rw [List.getElem?_eq_none (by simp; omega), List.getElem?_eq_none (by simp; omega)]
theorem rd_grown {W W' : World} {A : Option Addr} {xs : List Value} {mb : Nat} {es : Array MapEntry} {c : Nat} (hg : W.grownBy W' (some mb)) (hm : W.heap[mb]? = some (.map es c)) (hr : Rd W A xs) : Rd W' A xs := fun h0 => by
  obtain ⟨g, off, e, hc⟩ := hr h0
  refine ⟨g, off, e, fun j u hu => ?_⟩
  have h1 := hc j u hu
  have hne : g ≠ mb := by
    rintro rfl
    unfold World.cell? at h1
    simp [hm] at h1
  exact (World.cell?_of_block (hg.block g (World.block_lt_of_cell? W _ h1) (by simp [hne]))).trans h1
theorem blk_grown_map {W W' : World} {mb g : Nat} {t : TypeId} {cs : Array Value} {es : Array MapEntry} {c : Nat} (hg : W.grownBy W' (some mb)) (hm : W.heap[mb]? = some (.map es c)) (h : Blk W g t cs) : Blk W' g t cs :=
  h.grown hg (fun e => by
    cases e
    unfold Blk at h
    rw [hm] at h; cases h)
/-- What the loop keeps. -/
def ApI (w : World) (b : Nat) (fs : List FE) (pre : List Nat) (W : World) : Prop :=
  (Blk W (b + 1) 4 #[.bool false] ∧ Blk W (b + 1 + 1 + 1) 75 #[.map (some (b + 1 + 1))]) ∧ SMap Tryz.prog 9 3 (b + 1 + 1) pre.length (cntF fs pre) W ∧ Keep NoB w W ∧ (pre.map (nmx fs)).Nodup
/-- Where it is left: a name came twice. -/
def ApX (w : World) (b : Nat) (fs : List FE) (c : Code) (pre : List Nat) (W : World) : Prop :=
  c = .ret ∧ Blk W (b + 1) 4 #[.bool false] ∧ Keep NoB w W ∧ ¬ (pre.map (nmx fs)).Nodup
def ApA (v : IV) (fs : List FE) (b : Nat) (x : Nat) (Bo : Nat) : Act :=
  { tmps := #[v.val, .pointer (some ⟨b, 0, none⟩), .pointer (some ⟨b + 1, 0, none⟩), .pointer (some ⟨b + 1 + 1 + 1, 0, none⟩), undef, .pointer (some ⟨Bo, 0, none⟩), .map (some (b + 1 + 1)), v.val, .func (.func 104) #[] #[.pointer (some ⟨b + 1 + 1 + 1 + 1, 0, none⟩)], .int .i64 (x : Int), (fnI fs x).1.val, undef, undef, undef, undef, undef, undef, undef, undef, undef, undef], defers := [] }
theorem apI_own {w : World} {b B : Nat} {fs : List FE} (hb : b + 4 ≤ B) (hB : w.heap.size ≤ B) : OwnFrom B (ApI w b fs) := by
  intro s X Y row ⟨⟨h1, h2⟩, h3, h4, h5⟩ hg hrow
  exact ⟨⟨O.blk_own (β := Unit) _ _ _ (fun _ => _) () _ _ _ h1 hg hrow, O.blk_own (β := Unit) _ _ _ (fun _ => _) () _ _ _ h2 hg hrow⟩, h3.grown hg (fun e => by have := (hrow _ e.symm).1; omega), O.keep_own (β := Unit) _ hB () _ _ _ h4 hg hrow, h5⟩
theorem apX_own {w : World} {b B : Nat} {fs : List FE} (hB : w.heap.size ≤ B) (c : Code) : OwnFrom B (fun (pre : List Nat) W => ApX w b fs c pre W) := by
  intro s X Y row ⟨h0, h1, h4, h5⟩ hg hrow
  exact ⟨h0, O.blk_own (β := Unit) _ _ _ (fun _ => _) () _ _ _ h1 hg hrow, O.keep_own (β := Unit) _ hB () _ _ _ h4 hg hrow, h5⟩
theorem met_zero (w : World) : (zeroValue 3).run Tryz.prog w = .ok (.int .i64 0) w := Tryz.zeroValue3 w
theorem not_nodup_range {fs : List FE} {k n : Nat} (hk : k ≤ n) (h : ¬ ((List.range k).map (nmx fs)).Nodup) : ¬ ((List.range n).map (nmx fs)).Nodup := by
  intro h2
  refine h (List.Nodup.sublist ?_ h2)
  exact (List.range_sublist.2 hk).map _
theorem blk_putObj {W : World} {g D : Nat} {t : TypeId} {cs : Array Value} {o o' : Obj} (h : Blk W g t cs) (hl : W.heap[D]? = some o) (ho : o.isCells = false) : Blk (W.putObj D o') g t cs := by
  have hne : g ≠ D := by
    rintro rfl
    unfold Blk at h
    rw [hl] at h; cases h; cases ho
  exact (World.putObj_heap_other hne).trans h
theorem run_bool {w : World} {g : Nat} {u : Bool} (h : Blk w g 4 #[.bool u]) : (loadVar 4 ⟨g, 0, none⟩).run Tryz.prog w = .ok (.bool u) w := by
  have ha : (isAgg 4).run Tryz.prog w = .ok false w := Tryz.isAgg4 w
  have hc : w.cell? ⟨g, 0, none⟩ = some (.bool u) := h.cell 0
  simp [loadVar, ha, hc]

set_option maxRecDepth 100000 in
set_option maxHeartbeats 4000000 in
theorem apart_any (v : IV) (es : List SE) (fs : List FE) (w : World) (h : ImAt w v es fs) (hn : v.ny ≤ 1000) (hf : ∀ e ∈ fs, e.1.S.size ≤ 140737488355328) (R : Bool) (hR : Hid (decide ((names (imOf [] fs)).Nodup) = R)) :
    Calls Tryz.prog 54 #[v.val] w fun e w' => e = .returned (.bool R) ∧ Keep NoB w w' := by
  have hly := h.ly
  have HR := Lib.hid (fun W (hk : Keep NoB w W) => h.ry.keepN hk)
  have HN := Lib.hid (names_range hly (fun e he => (h.hf e he).nm))
  have HSZ : Hid (∀ x, (fnI fs x).1.S.size ≤ maxLen) := fun x => by
    by_cases hx : x < fs.length
    · rw [fnI_at hx]; have := hf _ (List.getElem_mem hx); unfold maxLen; omega
    · unfold fnI; rw [List.getElem?_eq_none (by omega)]; exact Nat.zero_le _
  clear h hf
  refine (callsIn_wide (n := 4)).1 ?_
  refine callsIn_of_wp_marks Tryz.func54 rfl trivial ?_ rfl
  have hmm := @run_makeMap Tryz.prog
  have hst := Lib.hid (fun m hm b w hx hr => each_stops m hm b v fs hly hn w hx hr)
  have he1 := Lib.hid (fun m w => each_any m v w)
  have hkk := ((((Keep.refl NoB w).alloc (.cells v.cells 25)).alloc (.cells #[.bool false] 4)).alloc (.map #[] 0)).alloc (.cells #[.map (some (w.heap.size + 1 + 1))] 75)
  have hs := (((Blk.new (w.alloc (.cells v.cells 25)) 4 #[.bool false]).alloc (.map #[] 0)).alloc (.cells #[.map (some (w.heap.size + 1 + 1))] 75)).alloc (.cells v.cells 25)
  have hm0 := SMap.new Tryz.prog 9 3 ((w.alloc (.cells v.cells 25)).alloc (.cells #[.bool false] 4))
  simp only [World.size_alloc] at hm0
  have hm1 := hm0.keep (O := NoB) (((Keep.refl NoB _).alloc (.cells #[.map (some (w.heap.size + 1 + 1))] 75)).alloc (.cells v.cells 25)) id
  have hb3 := (Blk.new (((w.alloc (.cells v.cells 25)).alloc (.cells #[.bool false] 4)).alloc (.map #[] 0)) 75 #[.map (some (w.heap.size + 1 + 1))]).alloc (.cells v.cells 25)
  have hi5 := Blk.new ((((w.alloc (.cells v.cells 25)).alloc (.cells #[.bool false] 4)).alloc (.map #[] 0)).alloc (.cells #[.map (some (w.heap.size + 1 + 1))] 75)) 25 v.cells
  simp only [World.size_alloc] at hs hb3 hi5
  have hK := hkk.alloc (.cells v.cells 25)
  have hr5 := HR.out _ hK
  have hI0 : ApI w w.heap.size fs [] _ := ⟨⟨hs, hb3⟩, hm1.congr (fun x => by simp [cntF]), hK, by simp⟩
  have HI0 := Lib.hid hI0
  have HX5 := Lib.hid hi5
  have HR5 := Lib.hid hr5
  clear hs hm0 hm1 hb3 hi5 hkk hK hr5 hI0
  obtain ⟨X, nx, cx, Y, ny, cy⟩ := v
  dsimp only [IV.val, IV.cells] at *
  simp only [Tryz.ntmps54, List.size_toArray, List.length_cons, List.length_nil, Nat.reduceAdd, Nat.reduceSub, Array.replicate_succ, Array.replicate_zero, List.push_toArray, List.append_toArray, List.nil_append, List.cons_append]
  gi_wp2_with (refine ⟨trivial, ?_⟩; gi_at_call 57; refine (he1.out _ _).mono ?_; rintro e w1 ⟨rfl, rfl⟩)
  refine wpIn_rangeFunc_ownH rfl (by omega) (gf := 104) (lb := #[.pointer (some ⟨w.heap.size + 1 + 1 + 1 + 1, 0, none⟩)]) rfl trivial (enters_of Tryz.func104 (by kernel_rfl) rfl)
    (hst.out _ (by omega) _ _ HX5.out HR5.out) FsK.trans (fun W l o o' _ hl ho _ => FsK.putObj W l o o' hl ho) (Below.refl _ _) (fun _ => rfl)
    (ApI w w.heap.size fs) (fun c pre W => ApX w w.heap.size fs c pre W) (apI_own (by simp) (by simp; omega)) (fun c => apX_own (by simp; omega) c) HI0.out
    (fun x a' W => ∃ Bo, Blk W Bo 61 (fnI fs x).1.cells ∧ a' = ApA ⟨X, nx, cx, Y, ny, cy⟩ fs w.heap.size x Bo) ?hax ?assign ?body ?done ?stop
  case hax =>
    rintro x a' s X Y row ⟨Bo, h1, h2⟩ hg hrow
    exact ⟨Bo, O.blk_own (β := Unit) _ _ _ (fun _ => _) () _ _ _ h1 hg hrow, h2⟩
  case assign =>
    intro l pre x W K hi hK
    have HI := Lib.hid (fun W' hk => apI_own (w := w) (b := w.heap.size) (fs := fs) (B := w.heap.size + 4) (Nat.le_refl _) (by omega) pre W W' none hi (Keep.grows hk) (fun r e => by cases e))
    have HB1 := Lib.hid (Blk.new W 61 (fnI fs x).1.cells)
    have HK2 := Lib.hid (fun a' W' h1 h2 h3 h4 => hK a' W' h1 h2 h3 h4)
    unfold ApA at HK2
    dsimp only [eaA]
    clear hi
    generalize fnI fs x = e at *
    obtain ⟨⟨S1, A1, na1, ca1, B1, nb1, cb1, L1, nl1, cl1, D1, nd1, cd1⟩, f⟩ := e
    dsimp only [F.FV.val, F.FV.cells, IV.val, IV.cells] at *
    clear hK
    gi_wp2
    exact HK2.out _ _ (keepsFrom_keep ((Keep.refl NoB W).alloc _)) (fun h => h.keepN ((Keep.refl NoB W).alloc _)) (HI.out _ ((Keep.refl NoB W).alloc _)) ⟨_, HB1.out, rfl⟩
  case body =>
    rintro l pre x a' W hl _ ⟨⟨hs, hm3⟩, hM, hK, hnd⟩ ⟨Bo, hb, rfl⟩ hlt
    have cb : W.cell? ⟨Bo, 0, none⟩ = some (.string (fnI fs x).1.S) := hb.cell 0
    have cm : W.cell? ⟨w.heap.size + 1 + 1 + 1, 0, none⟩ = some (.map (some (w.heap.size + 1 + 1))) := hm3.cell 0
    have hsz := HSZ.out x
    obtain ⟨em, cmc, hobj⟩ := hM.obj
    dsimp only [ApA, IV.val, IV.cells]
    have hzs := hs.lt
    by_cases hx : nmx fs x ∈ pre.map (nmx fs)
    · have e1 : cntF fs pre (fnI fs x).1.S.data.toList = 1 := if_pos hx
      have hlk := hM.look (t := 75) Tryz.underlying75 Tryz.underlying9 Tryz.underlying3 (met_zero _) (fnI fs x).1.S hsz
      obtain ⟨w5, hup, hM5, hg5⟩ := hM.update (t := 75) Tryz.underlying75 Tryz.underlying9 Tryz.underlying3 (by unfold maxLen; omega) (fnI fs x).1.S 2 hsz (by decide)
      have hlk5 := hM5.look (t := 75) Tryz.underlying75 Tryz.underlying9 Tryz.underlying3 (met_zero _) (fnI fs x).1.S hsz
      have e2 : setS (cntF fs pre) (fnI fs x).1.S.data.toList 2 (fnI fs x).1.S.data.toList = 2 := if_pos rfl
      rw [e1, show ((1 : Nat) : Int) = 1 from rfl] at hlk
      rw [e2, show ((2 : Nat) : Int) = 2 from rfl] at hlk5
      rw [show ((2 : Nat) : Int) = 2 from rfl] at hup
      have cb5 := (blk_grown_map hg5 hobj hb).cell 0
      have cm5 := (blk_grown_map hg5 hobj hm3).cell 0
      have hs5 := blk_grown_map hg5 hobj hs
      have hs6 := hs5.put 0 (.bool false)
      have fz := fun i => hs5.frozen i
      have c5 := hs5.cell 0
      have hzs5 := hs5.lt
      have HX : Hid (ApX w w.heap.size fs .ret (pre ++ [x]) (w5.setCell ⟨w.heap.size + 1, 0, none⟩ (.bool false))) :=
        ⟨rfl, hs6, (hK.grown hg5 (fun g e hl => by cases e; omega)).setCell (fun h => absurd h (by simp)) _, fun h => by
          rw [List.map_append, List.nodup_append] at h
          exact h.2.2 _ hx _ (by simp) rfl⟩
      have HKF : Hid (KeepsFrom (w.heap.size + 1 + 1 + 1 + 1 + 1) W (w5.setCell ⟨w.heap.size + 1, 0, none⟩ (.bool false))) :=
        ⟨by have := hg5.size; simpa [World.setCell] using this, fun k o hk1 hk2 hk3 => (Below.heap_setCell _ _ _ _ (by show k ≠ w.heap.size + 1; omega)).trans ((hg5.block k (Array.getElem?_eq_some_iff.1 hk2).1 (by simp; omega)).trans hk2)⟩
      simp only [F.FV.cells, List.getElem?_toArray, List.getElem?_cons_zero] at cb5 cm5 c5
      clear hM hM5 hs hm3 hb hs5 hs6 hK hg5 hobj hnd e1 e2 hx
      generalize fnI fs x = e at *
      obtain ⟨⟨S1, A1, na1, ca1, B1, nb1, cb1, L1, nl1, cl1, D1, nd1, cd1⟩, f⟩ := e
      dsimp only [F.FV.val, F.FV.cells] at *
      gi_wp2
      exact ⟨by simpa using HKF.out, HX.out⟩
    · have e1 : cntF fs pre (fnI fs x).1.S.data.toList = 0 := if_neg hx
      have hlk := hM.look (t := 75) Tryz.underlying75 Tryz.underlying9 Tryz.underlying3 (met_zero _) (fnI fs x).1.S hsz
      obtain ⟨w5, hup, hM5, hg5⟩ := hM.update (t := 75) Tryz.underlying75 Tryz.underlying9 Tryz.underlying3 (by unfold maxLen; omega) (fnI fs x).1.S 1 hsz (by decide)
      have hlk5 := hM5.look (t := 75) Tryz.underlying75 Tryz.underlying9 Tryz.underlying3 (met_zero _) (fnI fs x).1.S hsz
      have e2 : setS (cntF fs pre) (fnI fs x).1.S.data.toList 1 (fnI fs x).1.S.data.toList = 1 := if_pos rfl
      rw [e1, show ((0 : Nat) : Int) = 0 from rfl] at hlk
      rw [e2, show ((1 : Nat) : Int) = 1 from rfl] at hlk5
      rw [show ((1 : Nat) : Int) = 1 from rfl] at hup
      have cb5 := (blk_grown_map hg5 hobj hb).cell 0
      have cm5 := (blk_grown_map hg5 hobj hm3).cell 0
      have HX : Hid (ApI w w.heap.size fs (pre ++ [x]) w5) :=
        ⟨⟨blk_grown_map hg5 hobj hs, blk_grown_map hg5 hobj hm3⟩, by
          have := hM5.congr (g := cntF fs (pre ++ [x])) cntF_new
          rwa [show pre.length + 1 = (pre ++ [x]).length by simp] at this, hK.grown hg5 (fun g e hl => by cases e; omega), nodup_new hx hnd⟩
      have HKF : Hid (KeepsFrom (w.heap.size + 1 + 1 + 1 + 1 + 1) W w5 ∧ FsK Y fs W w5) :=
        ⟨⟨hg5.size, fun k o hk1 hk2 hk3 => (hg5.block k (Array.getElem?_eq_some_iff.1 hk2).1 (by simp; omega)).trans hk2⟩, fun hr => rd_grown hg5 hobj hr⟩
      simp only [F.FV.cells, List.getElem?_toArray, List.getElem?_cons_zero] at cb5 cm5
      clear hM hM5 hs hm3 hb hK hg5 hobj hnd e1 e2 hx
      generalize fnI fs x = e at *
      obtain ⟨⟨S1, A1, na1, ca1, B1, nb1, cb1, L1, nl1, cl1, D1, nd1, cd1⟩, f⟩ := e
      dsimp only [F.FV.val, F.FV.cells] at *
      gi_wp2
      exact ⟨by simpa using HKF.out.1, HKF.out.2, HX.out⟩
  case done =>
    rintro D ys W hD rfl ⟨⟨hs, hm3⟩, hM, hK, hnd⟩ hDf
    rw [HN.out] at hnd
    obtain rfl : true = R := by rw [← hR.out, decide_eq_true hnd]
    have hs6 := hs.put 0 (.bool true)
    have fz := fun i => hs.frozen i
    have c5 : W.cell? ⟨w.heap.size + 1, 0, none⟩ = some (.bool false) := hs.cell 0
    have hK6 := hK.setCell (p := ⟨w.heap.size + 1, 0, none⟩) (fun h => absurd h (by simp)) (.bool true)
    have hDf6 := (Below.heap_setCell W ⟨w.heap.size + 1, 0, none⟩ (.bool true) D (by show D ≠ w.heap.size + 1; simp at hD; omega)).trans hDf
    have HS6 := Lib.hid hs6
    clear hs hm3 hM hnd hK hs6
    gi_wp2
    refine ⟨by simp, .inl ⟨_, _, rfl, run_takeDeferred hDf6, ?_⟩⟩
    exact ⟨_, O.results_cell rfl rfl (run_bool (blk_putObj HS6.out hDf6 rfl)), rfl, O.Keep_putObj hK6 (by simp at hD; omega)⟩
  case stop =>
    rintro D c pre W hD ⟨k, hk, rfl⟩ ⟨rfl, hs, hK, hnd⟩ hDf
    have hnd2 := not_nodup_range hk hnd
    rw [HN.out] at hnd2
    obtain rfl : false = R := by rw [← hR.out, decide_eq_false hnd2]
    gi_wp2
    refine ⟨by simp, .inl ⟨_, _, rfl, run_takeDeferred hDf, ?_⟩⟩
    exact ⟨_, O.results_cell rfl rfl (run_bool (blk_putObj hs hDf rfl)), rfl, O.Keep_putObj hK (by simp at hD; omega)⟩

end Go.Proofs.YtgifflfjhockaaaGreatDoor.I

namespace Go.Proofs.YtgifflfjhockaaaGreatDoor
open Go.RowKit
section
variable {P : Program} {md : Region.Mode} {ops : Array Oper}

/-- Each late number is c, or stands behind c or a late one. -/
def lateG (md : Region.Mode) (ops : Array Oper) (c : Nat) (late : Nat → Bool) : Bool := (List.range ops.size).all fun i => match ops[i]? with
  | none => false
  | some o => !late i || (i == c || o.after.any fun e => Region.binds md e && (e.on == c || late e.on))
theorem lateG_at {c : Nat} {late : Nat → Bool} (h : lateG md ops c late = true) {i : Nat} {o : Oper} (ho : ops[i]? = some o) (hl : late i = true) (hc : i ≠ c) : ∃ e ∈ o.after, Region.binds md e = true ∧ (e.on = c ∨ late e.on = true) := by
  have hi := (Array.getElem?_eq_some_iff.1 ho).1
  have h1 := List.all_eq_true.1 h i (List.mem_range.2 hi)
  simp only [ho, hl, Bool.not_true, Bool.false_or, Bool.or_eq_true, beq_iff_eq] at h1
  rcases h1 with h1 | h1
  · exact absurd h1 hc
  · obtain ⟨j, hj, h2⟩ := Array.any_eq_true.1 h1
    simp only [Bool.and_eq_true, Bool.or_eq_true, beq_iff_eq] at h2
    exact ⟨o.after[j], Array.getElem_mem hj, h2.1, h2.2⟩

theorem wpAny_props4 {Q : Exit → Act → World → Prop} (d0 c : Nat) (O : Nat → Prop) (late : Nat → Bool) (hB : propsG ops d0 c = true) (hLt : lateG md ops c late = true) (S : Nat → Value → World → Prop) (w0 : World) (a0 : Act) (hS1 : ∀ i v w w', i ≠ c → late i = false → Keep O w0 w → S i v w → Keep O w w' → S i v w') (hS2 : ∀ i v w w', Keep O w0 w → S i v w → Keep NoB w w' → S i v w') (hsz : d0 + ops.size ≤ a0.tmps.size)
    (hstep : ∀ i o (a : Act) (w : World), ops[i]? = some o → i ≠ c → FrameI a0 d0 ops.size a → Keep O w0 w → (∀ e ∈ o.after, Region.binds md e = true → S e.on (a.tmps.getD (d0 + e.on) undef) w) → Does P ops o a w fun u w' => S i u w' ∧ Keep NoB w w')
    (hspec : ∀ o (a : Act) (w : World), ops[c]? = some o → FrameI a0 d0 ops.size a → Keep NoB w0 w → (∀ e ∈ o.after, Region.binds md e = true → S e.on (a.tmps.getD (d0 + e.on) undef) w) → Does P ops o a w fun u w' => (∀ v, (o.dst.isSome = true → v = u) → S c v w') ∧ Keep O w w')
    (hend : ∀ (a : Act) (w : World), FrameI a0 d0 ops.size a → Keep O w0 w → (∀ i, i < ops.size → S i (a.tmps.getD (d0 + i) undef) w) → Q .normal a w) :
    ∀ (fuel : Nat) (listed : Array Bool) (a : Act) (w : World), listed.size = ops.size → (∃ L : List Nat, L.length ≤ fuel ∧ ∀ i, i < ops.size → listed.getD i true = false → i ∈ L) → FrameI a0 d0 ops.size a → Keep O w0 w → (listed.getD c true = false → Keep NoB w0 w) → (∀ i, i < ops.size → late i = true → listed.getD i true = true → listed.getD c true = true) →
      (∀ i, i < ops.size → listed.getD i true = true → S i (a.tmps.getD (d0 + i) undef) w) → wpAny P md ops Q fuel listed a w := by
  have hNO : ∀ {X Y : World}, Keep NoB X Y → Keep O X Y := fun h => h.mono (fun _ hf _ => hf.elim)
  intro fuel
  induction fuel with
  | zero =>
    intro listed a w hs ⟨L, hL, hin⟩ hF hK hC hLa hA
    obtain rfl : L = [] := List.length_eq_zero_iff.1 (by omega)
    have hall : ∀ i, i < ops.size → listed.getD i true = true := fun i hi => by
      cases h : listed.getD i true
      · cases hin i hi h
      · rfl
    refine ⟨?_, hend a w hF hK fun i hi => hA i hi (hall i hi)⟩
    rw [List.eq_nil_iff_forall_not_mem]
    intro i hi
    obtain ⟨h1, o, ho, _⟩ := mem_ready.1 hi
    rw [hall i (Array.getElem?_eq_some_iff.1 ho).1] at h1; cases h1
  | succ fuel ih =>
    intro listed a w hs ⟨L, hL, hin⟩ hF hK hC hLa hA
    refine ⟨fun h0 => hend a w hF hK fun i hi => hA i hi (no_readyG hB hs h0 i hi), fun i hi => ?_⟩
    obtain ⟨h1, o, ho, hall⟩ := mem_ready.1 hi
    have hi' := (Array.getElem?_eq_some_iff.1 ho).1
    obtain ⟨hd, hlt⟩ := propsG_at hB ho
    have hdeps : ∀ e ∈ o.after, Region.binds md e = true → S e.on (a.tmps.getD (d0 + e.on) undef) w := fun e he hb => by
      have h2 := hall e he hb
      have h3 := hlt e he
      refine hA e.on (by omega) ?_
      have h4 : e.on < listed.size := by omega
      simpa [h4] using h2
    have hKO : (if i = c then Keep NoB w0 w else True) := by
      split
      · rename_i e; subst e; exact hC h1
      · trivial
    have hdoes : Does P ops o a w fun u w' => (∀ v, (o.dst.isSome = true → v = u) → S i v w') ∧ Keep O w w' ∧ (i ≠ c → Keep NoB w w') := by
      by_cases e : i = c
      · subst e
        rw [if_pos rfl] at hKO
        rcases hspec o a w ho hF hKO hdeps with ⟨hw, hy⟩ | ⟨hw, h2, h3⟩
        · refine .inl ⟨hw, ?_⟩
          unfold yieldsK at hy ⊢
          exact yieldsR_mono (fun u w' ⟨h2, h3⟩ => ⟨h2, h3, fun h => absurd rfl h⟩) _ _ hy
        · exact .inr ⟨hw, h2, h3, fun h => absurd rfl h⟩
      · have hsome : o.dst.isSome = true := by
          rcases hd with h | ⟨_, h⟩
          · rw [h]; rfl
          · exact absurd h e
        rcases hstep i o a w ho e hF hK hdeps with ⟨hw, hy⟩ | ⟨hw, h2, h3⟩
        · refine .inl ⟨hw, ?_⟩
          unfold yieldsK at hy ⊢
          exact yieldsR_mono (fun u w' ⟨h2, h3⟩ => ⟨fun v hv => by rw [hv hsome]; exact h2, hNO h3, fun _ => h3⟩) _ _ hy
        · exact .inr ⟨hw, fun v hv => by rw [hv hsome]; exact h2, hNO h3, fun _ => h3⟩
    have hnext : ∀ u w', (∀ v, (o.dst.isSome = true → v = u) → S i v w') → Keep O w w' → (i ≠ c → Keep NoB w w') → wpAny P md ops Q fuel (listed.setIfInBounds i true) (a.put o.dst u) w' := by
      intro u w' hSu hk hkn
      have hfr : FrameI a0 d0 ops.size (a.put o.dst u) ∧ (∀ k, k < ops.size → k ≠ i → (a.put o.dst u).tmps.getD (d0 + k) undef = a.tmps.getD (d0 + k) undef) ∧ (o.dst.isSome = true → (a.put o.dst u).tmps.getD (d0 + i) undef = u) := by
        rcases hd with hd | ⟨hd, _⟩
        · rw [hd]
          have hds : d0 + i < a.tmps.size := by rw [hF.2.1]; omega
          have hget : ∀ s, (a.put (some (d0 + i)) u).tmps.getD s undef = if s = d0 + i then u else a.tmps.getD s undef := fun s => by
            unfold Act.put
            by_cases e : s = d0 + i
            · subst e; simp [hds]
            · rw [if_neg e]
              simp only [Array.getD_eq_getD_getElem?, Array.getElem?_setIfInBounds]
              rw [if_neg (fun h => e h.symm)]
          refine ⟨⟨hF.1, by unfold Act.put; simpa using hF.2.1, fun s hs' => ?_⟩, fun k hk' hki => ?_, fun _ => ?_⟩
          · rw [hget, if_neg (by omega)]; exact hF.2.2 s hs'
          · rw [hget, if_neg (by omega)]
          · rw [hget, if_pos rfl]
        · rw [hd]
          exact ⟨hF, fun _ _ _ => rfl, fun h => by cases h⟩
      obtain ⟨hF', hother, hself⟩ := hfr
      refine ih (listed.setIfInBounds i true) _ w' (by simpa using hs) ⟨L.erase i, ?_, fun k hk' hl => ?_⟩ hF' (hK.trans hk (fun _ h _ => h)) (fun hl => ?_) (fun k hk' hlk hl => ?_) fun k hk' hl => ?_
      · rw [List.length_erase_of_mem (hin i hi' h1)]; omega
      · have hki : k ≠ i := by
          rintro rfl
          have : k < listed.size := by omega
          simp [this] at hl
        have hl2 : listed.getD k true = false := by rw [getD_set_ne true (Ne.symm hki)] at hl; exact hl
        exact (List.mem_erase_of_ne hki).2 (hin k hk' hl2)
      · have hci : c ≠ i := by
          rintro rfl
          have : c < listed.size := by omega
          simp [this] at hl
        rw [getD_set_ne true (Ne.symm hci)] at hl
        exact keepN (hC hl) (hkn (Ne.symm hci))
      · have hcl : ∀ n, listed.getD n true = true → (listed.setIfInBounds i true).getD n true = true := fun n hn => by
          by_cases e : i = n
          · subst e
            have h5 : i < listed.size := by omega
            simp [h5]
          · rw [getD_set_ne true e]; exact hn
        by_cases e : k = i
        · subst e
          by_cases ec : k = c
          · rw [← ec]; exact hl
          · obtain ⟨x, hx, hb, h6⟩ := lateG_at hLt ho hlk ec
            have h7 := hall x hx hb
            have h8 := hlt x hx
            have h9 : x.on < listed.size := by omega
            have h10 : listed.getD x.on true = true := by simpa [h9] using h7
            refine hcl c ?_
            rcases h6 with h6 | h6
            · rw [← h6]; exact h10
            · exact hLa x.on (by omega) h6 h10
        · rw [getD_set_ne true (Ne.symm e)] at hl
          exact hcl c (hLa k hk' hlk hl)
      · by_cases e : k = i
        · subst e
          exact hSu _ hself
        · rw [hother k hk' e]
          rw [getD_set_ne true (Ne.symm e)] at hl
          by_cases ec : i = c
          · subst ec
            by_cases hlk : late k = true
            · have := hLa k hk' hlk hl
              rw [h1] at this; cases this
            · exact hS1 k _ _ _ e (by simpa using hlk) hK (hA k hk' hl) hk
          · exact hS2 k _ _ _ hK (hA k hk' hl) (hkn ec)
    unfold wpOp
    simp only [ho]
    rcases hdoes with ⟨hw, hy⟩ | ⟨hw, h2, h3, h4⟩
    · rw [if_pos hw]
      exact .inl (Oper.wp_of_yields hy fun u w' ⟨h2, h3, h4⟩ => hnext u w' h2 h3 h4)
    · rw [if_neg (by rw [hw]; decide)]
      exact hnext undef w h2 h3 h4
theorem wp_region_props4 {id : Nat} {Q : Exit → Act → World → Prop} {a0 : Act} {w : World} (d0 c : Nat) (O : Nat → Prop) (late : Nat → Bool) (hm : P.follows .mixedOrders = true) (hB : propsG ops d0 c = true) (hLt : lateG .any ops c late = true) (S : Nat → Value → World → Prop) (hS1 : ∀ i v w1 w', i ≠ c → late i = false → Keep O w w1 → S i v w1 → Keep O w1 w' → S i v w') (hS2 : ∀ i v w1 w', Keep O w w1 → S i v w1 → Keep NoB w1 w' → S i v w') (hsz : d0 + ops.size ≤ a0.tmps.size)
    (hstep : ∀ i o (a : Act) (w' : World), ops[i]? = some o → i ≠ c → FrameI a0 d0 ops.size a → Keep O w w' → (∀ e ∈ o.after, Region.binds .any e = true → S e.on (a.tmps.getD (d0 + e.on) undef) w') → Does P ops o a w' fun u w'' => S i u w'' ∧ Keep NoB w' w'')
    (hspec : ∀ o (a : Act) (w' : World), ops[c]? = some o → FrameI a0 d0 ops.size a → Keep NoB w w' → (∀ e ∈ o.after, Region.binds .any e = true → S e.on (a.tmps.getD (d0 + e.on) undef) w') → Does P ops o a w' fun u w'' => (∀ v, (o.dst.isSome = true → v = u) → S c v w'') ∧ Keep O w' w'')
    (hend : ∀ (a : Act) (w' : World), FrameI a0 d0 ops.size a → Keep O w w' → (∀ i, i < ops.size → S i (a.tmps.getD (d0 + i) undef) w') → Q .normal a w') : (Code.region id ops true).wp P Q a0 w :=
  wp_region_any hm (wpAny_props4 d0 c O late hB hLt S w a0 hS1 hS2 hsz hstep hspec hend _ _ a0 w.drew (by simp) ⟨List.range ops.size, by simp, fun i hi _ => List.mem_range.2 hi⟩ ⟨rfl, rfl, fun _ _ => rfl⟩ (Keep.refl O w).drew (fun _ => (Keep.refl NoB w).drew) (fun i hi _ hl => by simp [hi] at hl) fun i hi hl => by
    simp [hi] at hl)
end
end Go.Proofs.YtgifflfjhockaaaGreatDoor

namespace Go.Proofs.YtgifflfjhockaaaGreatDoor
open Go.RowKit
section
variable {P : Program} {md : Region.Mode} {ops : Array Oper}

/-- What lies in other slots stays. -/
def FrameD (a0 : Act) (ds : Nat → Nat) (n : Nat) (a : Act) : Prop := a.defers = a0.defers ∧ a.tmps.size = a0.tmps.size ∧ ∀ s, (∀ i, i < n → s ≠ ds i) → a.tmps.getD s undef = a0.tmps.getD s undef
def fitsD (ops : Array Oper) (ds : Nat → Nat) (n : Nat) : Bool := (List.range ops.size).all fun i => ((ops[i]?).bind (·.dst)).isNone || decide (ds i < n)
theorem fitsD_at {ds : Nat → Nat} {n : Nat} (h : fitsD ops ds n = true) {i : Nat} {o : Oper} (ho : ops[i]? = some o) {d : Nat} (hd : o.dst = some d) : ds i < n := by
  have hi := (Array.getElem?_eq_some_iff.1 ho).1
  have h1 := List.all_eq_true.1 h i (List.mem_range.2 hi)
  simpa [ho, hd] using h1
/-- The slots' values put one by one. -/
def fillD (t : Array Value) : List (Nat × Value) → Array Value
  | [] => t
  | x :: vs => fillD (t.setIfInBounds x.1 x.2) vs
theorem fillD_size : ∀ (vs : List (Nat × Value)) (t : Array Value), (fillD t vs).size = t.size
  | [], _ => rfl
  | x :: vs, t => by rw [fillD, fillD_size vs]; simp
theorem fillD_get : ∀ (vs : List (Nat × Value)) (t u : Array Value) (s : Nat), t.size = u.size → (∀ x ∈ vs, x.2 = u.getD x.1 undef) → ((∃ x ∈ vs, x.1 = s) ∨ t.getD s undef = u.getD s undef) → (fillD t vs).getD s undef = u.getD s undef
  | [], _, _, _, _, _, h => by
    rcases h with ⟨x, hx, _⟩ | h
    · cases hx
    · exact h
  | x :: vs, t, u, s, hz, hv, h => by
    rw [fillD]
    refine fillD_get vs _ u s (by simpa using hz) (fun y hy => hv y (List.mem_cons_of_mem _ hy)) ?_
    by_cases e : x.1 = s
    · refine .inr ?_
      have h1 := hv x List.mem_cons_self
      by_cases hs : s < t.size
      · rw [h1, e]
        have hs2 : s < u.size := by omega
        simp [hs]
      · have hs2 : ¬ s < u.size := by omega
        simp [hs, hs2]
    · rcases h with ⟨y, hy, hye⟩ | h
      · rcases List.mem_cons.1 hy with rfl | hy
        · exact absurd hye e
        · exact .inl ⟨y, hy, hye⟩
      · refine .inr ?_
        simp only [Array.getD_eq_getD_getElem?, Array.getElem?_setIfInBounds] at h ⊢
        rw [if_neg e]; exact h
theorem frameD_fill {a0 a : Act} {ds : Nat → Nat} {n : Nat} (h : FrameD a0 ds n a) : a = { tmps := fillD a0.tmps ((List.range n).map fun i => (ds i, a.tmps.getD (ds i) undef)), defers := a0.defers } := by
  obtain ⟨h1, h2, h3⟩ := h
  have e : a.tmps = fillD a0.tmps ((List.range n).map fun i => (ds i, a.tmps.getD (ds i) undef)) := by
    apply Array.ext
    · rw [fillD_size, h2]
    · intro s hs1 hs2
      have := fillD_get ((List.range n).map fun i => (ds i, a.tmps.getD (ds i) undef)) a0.tmps a.tmps s h2.symm (fun x hx => by
        obtain ⟨i, _, rfl⟩ := List.mem_map.1 hx; rfl) (by
        by_cases hc : ∃ i, i < n ∧ ds i = s
        · obtain ⟨i, hi, hie⟩ := hc
          exact .inl ⟨_, List.mem_map.2 ⟨i, List.mem_range.2 hi, rfl⟩, hie⟩
        · exact .inr (h3 s (fun i hi e => hc ⟨i, hi, e.symm⟩)).symm)
      rw [Array.getD_eq_getD_getElem?, Array.getD_eq_getD_getElem?, Array.getElem?_eq_getElem hs2, Array.getElem?_eq_getElem hs1] at this
      simpa using this.symm
  cases a
  simp only at h1 e
  rw [h1, ← e]

theorem frameD_list {a0 a : Act} {l : List Nat} {n : Nat} (hn : n = l.length) (h : FrameD a0 (fun i => l.getD i 0) n a) : a = { tmps := fillD a0.tmps (l.map fun d => (d, a.tmps.getD d undef)), defers := a0.defers } := by
  subst hn
  have h1 := frameD_fill h
  have e : ((List.range l.length).map fun i => (l.getD i 0, a.tmps.getD (l.getD i 0) undef)) = l.map fun d => (d, a.tmps.getD d undef) := by
    apply List.ext_getElem?
    intro i
    by_cases hi : i < l.length
    · rw [List.getElem?_map, List.getElem?_range hi, List.getElem?_map, List.getElem?_eq_getElem hi]
      simp [List.getD, List.getElem?_eq_getElem hi]
    · rw [List.getElem?_eq_none (by simp; omega), List.getElem?_eq_none (by simp; omega)]
  rw [e] at h1
  exact h1

end
end Go.Proofs.YtgifflfjhockaaaGreatDoor

namespace Go.Proofs.YtgifflfjhockaaaGreatDoor
open Go.RowKit
section
variable {P : Program} {md : Region.Mode} {ops : Array Oper}

/-- Each number ahead of j has one behind it, up to j. -/
def allBehind (md : Region.Mode) (ops : Array Oper) (j : Nat) : Bool := (List.range j).all fun i => (List.range (j + 1)).any fun k => decide (i < k) && match ops[k]? with
  | none => false
  | some o => o.after.any fun e => Region.binds md e && e.on == i
/-- So it is with all from m on. -/
def tailG (md : Region.Mode) (ops : Array Oper) (m : Nat) : Bool := (List.range ops.size).all fun j => decide (j < m) || allBehind md ops j
/-- The first m write each a slot of its own, and stand behind earlier ones alone. -/
def headG (ops : Array Oper) (ds : Nat → Nat) (m : Nat) : Bool := (List.range m).all fun i => match ops[i]? with
  | none => false
  | some o => o.dst == some (ds i) && ((o.after.all fun e => decide (e.on < i)) && (List.range m).all fun j => i == j || !(ds i == ds j))
def onlyB (ops : Array Oper) : Bool := (List.range ops.size).all fun i => match ops[i]? with
  | none => false
  | some o => o.after.all fun e => decide (e.on < i)
theorem onlyB_at (h : onlyB ops = true) {i : Nat} {o : Oper} (ho : ops[i]? = some o) : ∀ e ∈ o.after, e.on < i := by
  have hi := (Array.getElem?_eq_some_iff.1 ho).1
  have h1 := List.all_eq_true.1 h i (List.mem_range.2 hi)
  simp only [ho] at h1
  intro e he
  have := Array.all_eq_true_iff_forall_mem.1 h1 e he
  simpa using this
theorem headG_at {ds : Nat → Nat} {m : Nat} (h : headG ops ds m = true) {i : Nat} (hi : i < m) {o : Oper} (ho : ops[i]? = some o) : o.dst = some (ds i) ∧ ∀ j, j < m → j ≠ i → ds j ≠ ds i := by
  have h1 := List.all_eq_true.1 h i (List.mem_range.2 hi)
  simp only [ho, Bool.and_eq_true] at h1
  obtain ⟨h1, _, h4⟩ := h1
  refine ⟨by simpa using h1, fun j hj hne e => ?_⟩
  have h5 := List.all_eq_true.1 h4 j (List.mem_range.2 hj)
  rw [e] at h5
  simp at h5
  exact hne h5.symm
/-- What is listed has all listed that it stands behind. -/
def Closed (md : Region.Mode) (ops : Array Oper) (listed : Array Bool) : Prop := ∀ k o, ops[k]? = some o → listed.getD k true = true → ∀ e ∈ o.after, Region.binds md e = true → listed.getD e.on true = true
theorem behind_all {j : Nat} (h : allBehind md ops j = true) {listed : Array Bool} (hC : Closed md ops listed) {o : Oper} (ho : ops[j]? = some o) (hr : ∀ e ∈ o.after, Region.binds md e = true → listed.getD e.on true = true) : ∀ i, i < j → listed.getD i true = true := by
  have key : ∀ d i, i + d = j → 0 < d → listed.getD i true = true := by
    intro d
    induction d using Nat.strongRecOn with
    | ind d ih =>
      intro i hd h0
      have h1 := List.all_eq_true.1 h i (List.mem_range.2 (by omega))
      obtain ⟨k, hk, h2⟩ := List.any_eq_true.1 h1
      have hk' := List.mem_range.1 hk
      simp only [Bool.and_eq_true, decide_eq_true_eq] at h2
      obtain ⟨hik, h3⟩ := h2
      cases hok : ops[k]? with
      | none => rw [hok] at h3; cases h3
      | some q =>
        rw [hok] at h3
        obtain ⟨x, hx, h4⟩ := Array.any_eq_true.1 h3
        simp only [Bool.and_eq_true, beq_iff_eq] at h4
        obtain ⟨hb, hon⟩ := h4
        by_cases e : k = j
        · subst e
          rw [ho] at hok
          injection hok with hok
          subst hok
          have := hr _ (Array.getElem_mem hx) hb
          rw [hon] at this; exact this
        · have hk2 := ih (j - k) (by omega) k (by omega) (by omega)
          have := hC k q hok hk2 _ (Array.getElem_mem hx) hb
          rw [hon] at this; exact this
  intro i hi
  exact key (j - i) i (by omega) (by omega)
theorem getD_set_self {listed : Array Bool} {i : Nat} (h : i < listed.size) : (listed.setIfInBounds i true).getD i true = true := by simp [h]
theorem getD_set_up {listed : Array Bool} {i n : Nat} (h : listed.getD n true = true) : (listed.setIfInBounds i true).getD n true = true := by
  by_cases e : i = n
  · subst e
    by_cases h5 : i < listed.size
    · simp [h5]
    · simp [h5]
  · rw [getD_set_ne true e]; exact h
theorem closed_set {listed : Array Bool} (hC : Closed md ops listed) {i : Nat} {o : Oper} (ho : ops[i]? = some o) (hr : ∀ e ∈ o.after, Region.binds md e = true → listed.getD e.on true = true) : Closed md ops (listed.setIfInBounds i true) := by
  intro k q hq hl e he hb
  by_cases ek : k = i
  · subst ek
    rw [ho] at hq
    injection hq with hq
    subst hq
    exact getD_set_up (hr e he hb)
  · rw [getD_set_ne true (Ne.symm ek)] at hl
    exact getD_set_up (hC k q hq hl e he hb)
theorem ready_getD {listed : Array Bool} (hB : onlyB ops = true) (hs : listed.size = ops.size) {i : Nat} {o : Oper} (ho : ops[i]? = some o) (hall : ∀ e ∈ o.after, Region.binds md e = true → listed.getD e.on false = true) : ∀ e ∈ o.after, Region.binds md e = true → listed.getD e.on true = true := by
  intro e he hb
  have h2 := hall e he hb
  have h3 := onlyB_at hB ho e he
  have h5 := (Array.getElem?_eq_some_iff.1 ho).1
  have h4 : e.on < listed.size := by omega
  simpa [h4] using h2

/-- The last ones, in their order. -/
theorem wpAny_chain {Q : Exit → Act → World → Prop} {m : Nat} (hB : onlyB ops = true) (hT : tailG md ops m = true) : ∀ (fuel j : Nat) (listed : Array Bool) (a : Act) (w : World), m ≤ j → listed.size = ops.size → ops.size ≤ j + fuel → Closed md ops listed →
    (∀ i, i < j → listed.getD i true = true) → (∀ i, j ≤ i → i < ops.size → listed.getD i true = false) → wpList P ops Q (ops.toList.drop j) a w → wpAny P md ops Q fuel listed a w := by
  intro fuel
  induction fuel with
  | zero =>
    intro j listed a w hm hs hf hC h1 h2 h
    rw [List.drop_eq_nil_of_le (by simpa using hf)] at h
    refine ⟨?_, h⟩
    rw [List.eq_nil_iff_forall_not_mem]
    intro i hi
    obtain ⟨hl, o, ho, _⟩ := mem_ready.1 hi
    rw [h1 i (by have := (Array.getElem?_eq_some_iff.1 ho).1; omega)] at hl; cases hl
  | succ fuel ih =>
    intro j listed a w hm hs hf hC h1 h2 h
    refine ⟨fun h0 => ?_, fun i hi => ?_⟩
    · by_cases hj : j < ops.size
      · have ho : ops[j]? = some ops[j] := Array.getElem?_eq_getElem hj
        have : j ∈ Region.ready md ops listed := mem_ready.2 ⟨h2 j (Nat.le_refl _) hj, ops[j], ho, fun e he _ => by
          have h3 := onlyB_at hB ho e he
          have h4 := h1 e.on h3
          have h5 : e.on < listed.size := by omega
          simpa [h5] using h4⟩
        rw [h0] at this; cases this
      · rw [List.drop_eq_nil_of_le (by simpa using hj)] at h
        exact h
    · obtain ⟨hl, o, ho, hall⟩ := mem_ready.1 hi
      have hi' := (Array.getElem?_eq_some_iff.1 ho).1
      have hr := ready_getD (listed := listed) hB hs ho (fun e he hb => hall e he hb)
      have hji : j ≤ i := by
        rcases Nat.lt_or_ge i j with h5 | h5
        · rw [h1 i h5] at hl; cases hl
        · exact h5
      have hb := List.all_eq_true.1 hT i (List.mem_range.2 hi')
      simp only [Bool.or_eq_true, decide_eq_true_eq] at hb
      have hb : allBehind md ops i = true := hb.resolve_left (by omega)
      have hlt := behind_all hb hC ho hr
      obtain rfl : i = j := by
        rcases Nat.lt_or_eq_of_le hji with h5 | h5
        · have := hlt j h5
          rw [h2 j (Nat.le_refl _) (by omega)] at this; cases this
        · exact h5.symm
      have hd : ops.toList.drop i = o :: ops.toList.drop (i + 1) := by
        have hi2 : i < ops.toList.length := by simpa using hi'
        rw [List.drop_eq_getElem_cons hi2]
        congr 1
        have := (Array.getElem?_eq_some_iff.1 ho).2
        simpa using this
      rw [hd] at h
      have hK : ∀ (a' : Act) (w' : World), wpList P ops Q (ops.toList.drop (i + 1)) a' w' → wpAny P md ops Q fuel (listed.setIfInBounds i true) a' w' := fun a' w' h' =>
        ih (i + 1) _ a' w' (by omega) (by simpa using hs) (by omega) (closed_set hC ho hr) (fun k hk => by
          rcases Nat.lt_succ_iff_lt_or_eq.1 hk with h5 | rfl
          · exact getD_set_up (h1 k h5)
          · exact getD_set_self (by omega)) (fun k hk1 hk2 => by rw [getD_set_ne true (by omega)]; exact h2 k (by omega) hk2) h'
      unfold wpOp
      simp only [ho]
      unfold wpList at h
      split
      · rename_i hw
        rw [if_pos hw] at h
        rcases h with h | h
        · exact .inl (Oper.wp_mono hK h)
        · exact .inr h
      · rename_i hw
        rw [if_neg hw] at h
        exact hK _ _ h

theorem wpAny_tail {Q : Exit → Act → World → Prop} (ds : Nat → Nat) (m : Nat) (hm : m ≤ ops.size) (hO : onlyB ops = true) (hB : headG ops ds m = true) (hT : tailG md ops m = true) (S : Nat → Value → World → Prop) (hS : ∀ i v w w', S i v w → Keep NoB w w' → S i v w') (w0 : World) (a0 : Act) (hsz : fitsD ops ds a0.tmps.size = true)
    (hstep : ∀ i o (a : Act) (w : World), ops[i]? = some o → i < m → FrameD a0 ds m a → Keep NoB w0 w → (∀ e ∈ o.after, Region.binds md e = true → S e.on (a.tmps.getD (ds e.on) undef) w) → Does P ops o a w fun u w' => S i u w' ∧ Keep NoB w w')
    (hend : ∀ (a : Act) (w : World), FrameD a0 ds m a → Keep NoB w0 w → (∀ i, i < m → S i (a.tmps.getD (ds i) undef) w) → wpList P ops Q (ops.toList.drop m) a w) :
    ∀ (fuel : Nat) (listed : Array Bool) (a : Act) (w : World), listed.size = ops.size → (∃ L : List Nat, L.length + (ops.size - m) ≤ fuel ∧ ∀ i, i < m → listed.getD i true = false → i ∈ L) → Closed md ops listed → (∀ i, m ≤ i → i < ops.size → listed.getD i true = false) → FrameD a0 ds m a → Keep NoB w0 w →
      (∀ i, i < m → listed.getD i true = true → S i (a.tmps.getD (ds i) undef) w) → wpAny P md ops Q fuel listed a w := by
  intro fuel
  induction fuel with
  | zero =>
    intro listed a w hs ⟨L, hL, hin⟩ hC hN hF hK hA
    have hall : ∀ i, i < m → listed.getD i true = true := fun i hi => by
      cases h : listed.getD i true
      · have := hin i hi h
        rw [List.length_eq_zero_iff.1 (by omega : L.length = 0)] at this; cases this
      · rfl
    exact wpAny_chain hO hT 0 m listed a w (Nat.le_refl _) hs (by omega) hC hall hN (hend a w hF hK fun i hi => hA i hi (hall i hi))
  | succ fuel ih =>
    intro listed a w hs ⟨L, hL, hin⟩ hC hN hF hK hA
    by_cases hdone : ∀ i, i < m → listed.getD i true = true
    · exact wpAny_chain hO hT (fuel + 1) m listed a w (Nat.le_refl _) hs (by omega) hC hdone hN (hend a w hF hK fun i hi => hA i hi (hdone i hi))
    refine ⟨fun h0 => ?_, fun i hi => ?_⟩
    · refine absurd (fun i => ?_) hdone
      induction i using Nat.strongRecOn with
      | ind i ih2 =>
        intro hi
        cases hl : listed.getD i true
        · have hio : i < ops.size := by omega
          have ho : ops[i]? = some ops[i] := Array.getElem?_eq_getElem hio
          have : i ∈ Region.ready md ops listed := mem_ready.2 ⟨hl, ops[i], ho, fun e he _ => by
            have h3 := onlyB_at hO ho e he
            have h4 := ih2 e.on h3 (by omega)
            have h5 : e.on < listed.size := by omega
            simpa [h5] using h4⟩
          rw [h0] at this; cases this
        · rfl
    · obtain ⟨h1, o, ho, hall⟩ := mem_ready.1 hi
      have hi' := (Array.getElem?_eq_some_iff.1 ho).1
      have hr := ready_getD (listed := listed) hO hs ho (fun e he hb => hall e he hb)
      have him : i < m := by
        rcases Nat.lt_or_ge i m with h5 | h5
        · exact h5
        · have hb := List.all_eq_true.1 hT i (List.mem_range.2 hi')
          simp only [Bool.or_eq_true, decide_eq_true_eq] at hb
          have hb : allBehind md ops i = true := hb.resolve_left (by omega)
          exact absurd (fun k hk => behind_all hb hC ho hr k (by omega)) hdone
      obtain ⟨hd, hdis⟩ := headG_at hB him ho
      have hdoes := hstep i o a w ho him hF hK fun e he hb => hA e.on (by have := onlyB_at hO ho e he; omega) (hr e he hb)
      have hnext : ∀ u w', S i u w' → Keep NoB w w' → wpAny P md ops Q fuel (listed.setIfInBounds i true) (a.put o.dst u) w' := by
        intro u w' hSu hk
        rw [hd]
        have hds : ds i < a.tmps.size := by rw [hF.2.1]; exact fitsD_at hsz ho hd
        have hget : ∀ s, (a.put (some (ds i)) u).tmps.getD s undef = if s = ds i then u else a.tmps.getD s undef := fun s => by
          unfold Act.put
          by_cases e : s = ds i
          · subst e; simp [hds]
          · rw [if_neg e]
            simp only [Array.getD_eq_getD_getElem?, Array.getElem?_setIfInBounds]
            rw [if_neg (fun h => e h.symm)]
        refine ih (listed.setIfInBounds i true) _ w' (by simpa using hs) ⟨L.erase i, ?_, fun k hk' hl => ?_⟩ (closed_set hC ho hr) (fun k hk1 hk2 => by rw [getD_set_ne true (by omega)]; exact hN k hk1 hk2) ⟨hF.1, by unfold Act.put; simpa using hF.2.1, fun s hs' => by rw [hget, if_neg (hs' i him)]; exact hF.2.2 s hs'⟩ (keepN hK hk) fun k hk' hl => ?_
        · have hmem := hin i him h1
          have hpos := List.length_pos_of_mem hmem
          rw [List.length_erase_of_mem hmem]; omega
        · have hki : k ≠ i := by
            rintro rfl
            rw [getD_set_self (by omega)] at hl; cases hl
          rw [getD_set_ne true (Ne.symm hki)] at hl
          exact (List.mem_erase_of_ne hki).2 (hin k hk' hl)
        · by_cases e : k = i
          · subst e
            rw [hget, if_pos rfl]; exact hSu
          · rw [hget, if_neg (hdis k hk' e)]
            exact hS k _ _ _ (hA k hk' (by rw [getD_set_ne true (Ne.symm e)] at hl; exact hl)) hk
      unfold wpOp
      simp only [ho]
      rcases hdoes with ⟨hw, hy⟩ | ⟨hw, h2, h3⟩
      · rw [if_pos hw]
        exact .inl (Oper.wp_of_yields hy fun u w' ⟨h2, h3⟩ => hnext u w' h2 h3)
      · rw [if_neg (by rw [hw]; decide)]
        exact hnext undef w h2 h3
theorem wp_region_tail {id : Nat} {Q : Exit → Act → World → Prop} {a0 : Act} {w : World} (ds : Nat → Nat) (m : Nat) (hf : P.follows .mixedOrders = true) (hm : decide (m ≤ ops.size) = true) (hO : onlyB ops = true) (hB : headG ops ds m = true) (hT : tailG .any ops m = true) (S : Nat → Value → World → Prop) (hS : ∀ i v w1 w', S i v w1 → Keep NoB w1 w' → S i v w') (hsz : fitsD ops ds a0.tmps.size = true)
    (hstep : ∀ i o (a : Act) (w' : World), ops[i]? = some o → i < m → FrameD a0 ds m a → Keep NoB w w' → (∀ e ∈ o.after, Region.binds .any e = true → S e.on (a.tmps.getD (ds e.on) undef) w') → Does P ops o a w' fun u w'' => S i u w'' ∧ Keep NoB w' w'')
    (hend : ∀ (a : Act) (w' : World), FrameD a0 ds m a → Keep NoB w w' → (∀ i, i < m → S i (a.tmps.getD (ds i) undef) w') → wpList P ops Q (ops.toList.drop m) a w') : (Code.region id ops true).wp P Q a0 w :=
  have hm := of_decide_eq_true hm
  wp_region_any hf (wpAny_tail ds m hm hO hB hT S hS w a0 hsz hstep hend _ _ a0 w.drew (by simp) ⟨List.range m, by simp; omega, fun i hi _ => List.mem_range.2 hi⟩ (fun k o hk hl => by
    have := (Array.getElem?_eq_some_iff.1 hk).1
    simp [this] at hl) (fun i _ hi => by simp [hi]) ⟨rfl, rfl, fun _ _ => rfl⟩ (Keep.refl NoB w).drew fun i hi hl => by
    have : i < ops.size := by omega
    simp [this] at hl)
end
end Go.Proofs.YtgifflfjhockaaaGreatDoor

namespace Go.Proofs.YtgifflfjhockaaaGreatDoor
open Go.RowKit
section
variable {P : Program} {md : Region.Mode} {ops : Array Oper}

/-- Number i writes the slot ds i (number c may write none), and stands behind earlier ones alone; no two slots are one. -/
def propsD6 (md : Region.Mode) (ops : Array Oper) (ds : Nat → Nat) (c : Nat) : Bool := (List.range ops.size).all fun i => match ops[i]? with
  | none => false
  | some o => (match o.dst with
    | none => i == c
    | some d => d == ds i) && ((o.after.all fun e => !Region.binds md e || decide (e.on < i)) && (List.range ops.size).all fun j => i == j || !(ds i == ds j))
theorem propsD6_at {ds : Nat → Nat} {c : Nat} (h : propsD6 md ops ds c = true) {i : Nat} {o : Oper} (ho : ops[i]? = some o) : (o.dst = some (ds i) ∨ (o.dst = none ∧ i = c)) ∧ (∀ e ∈ o.after, Region.binds md e = true → e.on < i) ∧ ∀ j, j < ops.size → j ≠ i → ds j ≠ ds i := by
  have hi := (Array.getElem?_eq_some_iff.1 ho).1
  have h1 := List.all_eq_true.1 h i (List.mem_range.2 hi)
  simp only [ho, Bool.and_eq_true] at h1
  obtain ⟨h1, h3, h4⟩ := h1
  refine ⟨?_, fun e he hb => ?_, fun j hj hne e => ?_⟩
  · cases hd : o.dst with
    | none => rw [hd] at h1; exact .inr ⟨rfl, by simpa using h1⟩
    | some d => rw [hd] at h1; exact .inl (by simpa using h1)
  · have := Array.all_eq_true_iff_forall_mem.1 h3 e he
    simpa [hb] using this
  · have h5 := List.all_eq_true.1 h4 j (List.mem_range.2 hj)
    rw [e] at h5
    simp at h5
    exact hne h5.symm
theorem no_readyD6 {ds : Nat → Nat} {c : Nat} (hB : propsD6 md ops ds c = true) {listed : Array Bool} (hs : listed.size = ops.size) (hr : Region.ready md ops listed = []) : ∀ i, i < ops.size → listed.getD i true = true := by
  intro i
  induction i using Nat.strongRecOn with
  | ind i ih =>
    intro hi
    cases hl : listed.getD i true
    · have ho : ops[i]? = some ops[i] := Array.getElem?_eq_getElem hi
      have : i ∈ Region.ready md ops listed := mem_ready.2 ⟨hl, ops[i], ho, fun e he hb => by
        have he2 := (propsD6_at hB ho).2.1 e he hb
        have h1 := ih e.on he2 (by omega)
        have h2 : e.on < listed.size := by omega
        simpa [h2] using h1⟩
      rw [hr] at this; cases this
    · rfl
theorem wpAny_props6 {Q : Exit → Act → World → Prop} (ds : Nat → Nat) (c : Nat) (O : Nat → Prop) (late : Nat → Bool) (hB : propsD6 md ops ds c = true) (hLt : lateG md ops c late = true) (S : Nat → Value → World → Prop) (w0 : World) (a0 : Act) (hS1 : ∀ i v w w', i ≠ c → late i = false → Keep O w0 w → S i v w → Keep O w w' → S i v w') (hS2 : ∀ i v w w', Keep O w0 w → S i v w → Keep NoB w w' → S i v w') (hsz : fitsD ops ds a0.tmps.size = true)
    (hstep : ∀ i o (a : Act) (w : World), ops[i]? = some o → i ≠ c → FrameD a0 ds ops.size a → Keep O w0 w → (∀ e ∈ o.after, Region.binds md e = true → S e.on (a.tmps.getD (ds e.on) undef) w) → Does P ops o a w fun u w' => S i u w' ∧ Keep NoB w w')
    (hspec : ∀ o (a : Act) (w : World), ops[c]? = some o → FrameD a0 ds ops.size a → Keep NoB w0 w → (∀ e ∈ o.after, Region.binds md e = true → S e.on (a.tmps.getD (ds e.on) undef) w) → Does P ops o a w fun u w' => (∀ v, (o.dst.isSome = true → v = u) → S c v w') ∧ Keep O w w')
    (hend : ∀ (a : Act) (w : World), FrameD a0 ds ops.size a → Keep O w0 w → (∀ i, i < ops.size → S i (a.tmps.getD (ds i) undef) w) → Q .normal a w) :
    ∀ (fuel : Nat) (listed : Array Bool) (a : Act) (w : World), listed.size = ops.size → (∃ L : List Nat, L.length ≤ fuel ∧ ∀ i, i < ops.size → listed.getD i true = false → i ∈ L) → FrameD a0 ds ops.size a → Keep O w0 w → (listed.getD c true = false → Keep NoB w0 w) → (∀ i, i < ops.size → late i = true → listed.getD i true = true → listed.getD c true = true) →
      (∀ i, i < ops.size → listed.getD i true = true → S i (a.tmps.getD (ds i) undef) w) → wpAny P md ops Q fuel listed a w := by
  have hNO : ∀ {X Y : World}, Keep NoB X Y → Keep O X Y := fun h => h.mono (fun _ hf _ => hf.elim)
  intro fuel
  induction fuel with
  | zero =>
    intro listed a w hs ⟨L, hL, hin⟩ hF hK hC hLa hA
    obtain rfl : L = [] := List.length_eq_zero_iff.1 (by omega)
    have hall : ∀ i, i < ops.size → listed.getD i true = true := fun i hi => by
      cases h : listed.getD i true
      · cases hin i hi h
      · rfl
    refine ⟨?_, hend a w hF hK fun i hi => hA i hi (hall i hi)⟩
    rw [List.eq_nil_iff_forall_not_mem]
    intro i hi
    obtain ⟨h1, o, ho, _⟩ := mem_ready.1 hi
    rw [hall i (Array.getElem?_eq_some_iff.1 ho).1] at h1; cases h1
  | succ fuel ih =>
    intro listed a w hs ⟨L, hL, hin⟩ hF hK hC hLa hA
    refine ⟨fun h0 => hend a w hF hK fun i hi => hA i hi (no_readyD6 hB hs h0 i hi), fun i hi => ?_⟩
    obtain ⟨h1, o, ho, hall⟩ := mem_ready.1 hi
    have hi' := (Array.getElem?_eq_some_iff.1 ho).1
    obtain ⟨hd, hlt, hdis⟩ := propsD6_at hB ho
    have hdeps : ∀ e ∈ o.after, Region.binds md e = true → S e.on (a.tmps.getD (ds e.on) undef) w := fun e he hb => by
      have h2 := hall e he hb
      have h3 := hlt e he hb
      refine hA e.on (by omega) ?_
      have h4 : e.on < listed.size := by omega
      simpa [h4] using h2
    have hKO : (if i = c then Keep NoB w0 w else True) := by
      split
      · rename_i e; subst e; exact hC h1
      · trivial
    have hdoes : Does P ops o a w fun u w' => (∀ v, (o.dst.isSome = true → v = u) → S i v w') ∧ Keep O w w' ∧ (i ≠ c → Keep NoB w w') := by
      by_cases e : i = c
      · subst e
        rw [if_pos rfl] at hKO
        rcases hspec o a w ho hF hKO hdeps with ⟨hw, hy⟩ | ⟨hw, h2, h3⟩
        · refine .inl ⟨hw, ?_⟩
          unfold yieldsK at hy ⊢
          exact yieldsR_mono (fun u w' ⟨h2, h3⟩ => ⟨h2, h3, fun h => absurd rfl h⟩) _ _ hy
        · exact .inr ⟨hw, h2, h3, fun h => absurd rfl h⟩
      · have hsome : o.dst.isSome = true := by
          rcases hd with h | ⟨_, h⟩
          · rw [h]; rfl
          · exact absurd h e
        rcases hstep i o a w ho e hF hK hdeps with ⟨hw, hy⟩ | ⟨hw, h2, h3⟩
        · refine .inl ⟨hw, ?_⟩
          unfold yieldsK at hy ⊢
          exact yieldsR_mono (fun u w' ⟨h2, h3⟩ => ⟨fun v hv => by rw [hv hsome]; exact h2, hNO h3, fun _ => h3⟩) _ _ hy
        · exact .inr ⟨hw, fun v hv => by rw [hv hsome]; exact h2, hNO h3, fun _ => h3⟩
    have hnext : ∀ u w', (∀ v, (o.dst.isSome = true → v = u) → S i v w') → Keep O w w' → (i ≠ c → Keep NoB w w') → wpAny P md ops Q fuel (listed.setIfInBounds i true) (a.put o.dst u) w' := by
      intro u w' hSu hk hkn
      have hfr : FrameD a0 ds ops.size (a.put o.dst u) ∧ (∀ k, k < ops.size → k ≠ i → (a.put o.dst u).tmps.getD (ds k) undef = a.tmps.getD (ds k) undef) ∧ (o.dst.isSome = true → (a.put o.dst u).tmps.getD (ds i) undef = u) := by
        rcases hd with hd | ⟨hd, _⟩
        · rw [hd]
          have hds : ds i < a.tmps.size := by rw [hF.2.1]; exact fitsD_at hsz ho hd
          have hget : ∀ s, (a.put (some (ds i)) u).tmps.getD s undef = if s = ds i then u else a.tmps.getD s undef := fun s => by
            unfold Act.put
            by_cases e : s = ds i
            · subst e; simp [hds]
            · rw [if_neg e]
              simp only [Array.getD_eq_getD_getElem?, Array.getElem?_setIfInBounds]
              rw [if_neg (fun h => e h.symm)]
          refine ⟨⟨hF.1, by unfold Act.put; simpa using hF.2.1, fun s hs' => ?_⟩, fun k hk' hki => ?_, fun _ => ?_⟩
          · rw [hget, if_neg (hs' i hi')]; exact hF.2.2 s hs'
          · rw [hget, if_neg (hdis k hk' hki)]
          · rw [hget, if_pos rfl]
        · rw [hd]
          exact ⟨hF, fun _ _ _ => rfl, fun h => by cases h⟩
      obtain ⟨hF', hother, hself⟩ := hfr
      refine ih (listed.setIfInBounds i true) _ w' (by simpa using hs) ⟨L.erase i, ?_, fun k hk' hl => ?_⟩ hF' (hK.trans hk (fun _ h _ => h)) (fun hl => ?_) (fun k hk' hlk hl => ?_) fun k hk' hl => ?_
      · rw [List.length_erase_of_mem (hin i hi' h1)]; omega
      · have hki : k ≠ i := by
          rintro rfl
          have : k < listed.size := by omega
          simp [this] at hl
        have hl2 : listed.getD k true = false := by rw [getD_set_ne true (Ne.symm hki)] at hl; exact hl
        exact (List.mem_erase_of_ne hki).2 (hin k hk' hl2)
      · have hci : c ≠ i := by
          rintro rfl
          have : c < listed.size := by omega
          simp [this] at hl
        rw [getD_set_ne true (Ne.symm hci)] at hl
        exact keepN (hC hl) (hkn (Ne.symm hci))
      · have hcl : ∀ n, listed.getD n true = true → (listed.setIfInBounds i true).getD n true = true := fun n hn => by
          by_cases e : i = n
          · subst e
            have h5 : i < listed.size := by omega
            simp [h5]
          · rw [getD_set_ne true e]; exact hn
        by_cases e : k = i
        · subst e
          by_cases ec : k = c
          · rw [← ec]; exact hl
          · obtain ⟨x, hx, hb, h6⟩ := lateG_at hLt ho hlk ec
            have h7 := hall x hx hb
            have h8 := hlt x hx hb
            have h9 : x.on < listed.size := by omega
            have h10 : listed.getD x.on true = true := by simpa [h9] using h7
            refine hcl c ?_
            rcases h6 with h6 | h6
            · rw [← h6]; exact h10
            · exact hLa x.on (by omega) h6 h10
        · rw [getD_set_ne true (Ne.symm e)] at hl
          exact hcl c (hLa k hk' hlk hl)
      · by_cases e : k = i
        · subst e
          exact hSu _ hself
        · rw [hother k hk' e]
          rw [getD_set_ne true (Ne.symm e)] at hl
          by_cases ec : i = c
          · subst ec
            by_cases hlk : late k = true
            · have := hLa k hk' hlk hl
              rw [h1] at this; cases this
            · exact hS1 k _ _ _ e (by simpa using hlk) hK (hA k hk' hl) hk
          · exact hS2 k _ _ _ hK (hA k hk' hl) (hkn ec)
    unfold wpOp
    simp only [ho]
    rcases hdoes with ⟨hw, hy⟩ | ⟨hw, h2, h3, h4⟩
    · rw [if_pos hw]
      exact .inl (Oper.wp_of_yields hy fun u w' ⟨h2, h3, h4⟩ => hnext u w' h2 h3 h4)
    · rw [if_neg (by rw [hw]; decide)]
      exact hnext undef w h2 h3 h4
theorem wp_region_props6 {id : Nat} {Q : Exit → Act → World → Prop} {a0 : Act} {w : World} (ds : Nat → Nat) (c : Nat) (O : Nat → Prop) (late : Nat → Bool) (hm : P.follows .mixedOrders = true) (hB : propsD6 .any ops ds c = true) (hLt : lateG .any ops c late = true) (S : Nat → Value → World → Prop) (hS1 : ∀ i v w1 w', i ≠ c → late i = false → Keep O w w1 → S i v w1 → Keep O w1 w' → S i v w') (hS2 : ∀ i v w1 w', Keep O w w1 → S i v w1 → Keep NoB w1 w' → S i v w') (hsz : fitsD ops ds a0.tmps.size = true)
    (hstep : ∀ i o (a : Act) (w' : World), ops[i]? = some o → i ≠ c → FrameD a0 ds ops.size a → Keep O w w' → (∀ e ∈ o.after, Region.binds .any e = true → S e.on (a.tmps.getD (ds e.on) undef) w') → Does P ops o a w' fun u w'' => S i u w'' ∧ Keep NoB w' w'')
    (hspec : ∀ o (a : Act) (w' : World), ops[c]? = some o → FrameD a0 ds ops.size a → Keep NoB w w' → (∀ e ∈ o.after, Region.binds .any e = true → S e.on (a.tmps.getD (ds e.on) undef) w') → Does P ops o a w' fun u w'' => (∀ v, (o.dst.isSome = true → v = u) → S c v w'') ∧ Keep O w' w'')
    (hend : ∀ (a : Act) (w' : World), FrameD a0 ds ops.size a → Keep O w w' → (∀ i, i < ops.size → S i (a.tmps.getD (ds i) undef) w') → Q .normal a w') : (Code.region id ops true).wp P Q a0 w :=
  wp_region_any hm (wpAny_props6 ds c O late hB hLt S w a0 hS1 hS2 hsz hstep hspec hend _ _ a0 w.drew (by simp) ⟨List.range ops.size, by simp, fun i hi _ => List.mem_range.2 hi⟩ ⟨rfl, rfl, fun _ _ => rfl⟩ (Keep.refl O w).drew (fun _ => (Keep.refl NoB w).drew) (fun i hi _ hl => by simp [hi] at hl) fun i hi hl => by
    simp [hi] at hl)
end
end Go.Proofs.YtgifflfjhockaaaGreatDoor

namespace Go.Proofs.YtgifflfjhockaaaGreatDoor
open Go.RowKit
section
variable {P : Program} {md : Region.Mode} {ops : Array Oper}

end
end Go.Proofs.YtgifflfjhockaaaGreatDoor

namespace Go.Proofs.YtgifflfjhockaaaGreatDoor
open Go.RowKit
section
variable {P : Program} {md : Region.Mode} {ops : Array Oper}

end
end Go.Proofs.YtgifflfjhockaaaGreatDoor

namespace Go.Proofs.YtgifflfjhockaaaGreatDoor
open Go.RowKit

theorem inst_info : (Tryz.prog.info? 63).map (fun i => (i.zero, i.size, i.bytes)) = some (some (.agg #[.int .i64 0, .int .i64 0, .int .i64 0]), 3, 24) := by kernel_rfl

end Go.Proofs.YtgifflfjhockaaaGreatDoor

namespace Go.Proofs.YtgifflfjhockaaaGreatDoor.F
open Go.RowKit W

theorem ret_sigC {fn : Func} {p : Tmp} {tmps : Array Value} {w : World} {g : Nat} {u v : Value} (h : fn.results = #[.cell p 57]) (hp : tmps.getD p undef = .pointer (some ⟨g, 0, none⟩)) (hb : Blk w g 57 #[u, v]) :
    (results fn tmps).run Tryz.prog w = .ok (.agg #[u, v]) w :=
  results_cell_row h tmps w g 57 #[u, v] (0, 0) _ hp hb Tryz.underlying57 rfl S.sig_size
theorem blk_putA {W : World} {g : Nat} {x y : Value} (h : Blk W g 57 #[x, y]) (u : Value) : Blk (W.setCell ⟨g, 0, none⟩ u) g 57 #[u, y] := by
  have := h.put 0 u
  simpa using this
theorem own_freshC {w W : World} {g n : Nat} {v : Value} {xs : List Value} (h : Own W 3 1 (fun k => g < k) v n xs) (hg : w.heap.size ≤ g) : Own W 3 1 (Fresh w) v n xs := h.mono (fun k hk _ => by unfold Fresh; omega)

set_option maxRecDepth 100000 in
set_option maxHeartbeats 2000000 in
theorem rcopyG_any (A : Option Addr) (a : List Int) (na ca : Nat) (B : Option Addr) (r : List Int) (nb cb : Nat) (w : World) (ha : Rd w A (ivs a)) (hr : Rd w B (ivs r)) (hna : Hid (a.length = na)) (hnb : Hid (r.length = nb)) (hn6 : na ≤ 100) (hm6 : nb ≤ 100) :
    Calls Tryz.prog 62 #[.agg #[.slice A na ca, .slice B nb cb]] w fun e w' => ∃ v1 v2, e = .returned (.agg #[v1, v2]) ∧ Own w' 3 1 (Fresh w) v1 na (ivs a) ∧ Own w' 3 1 (Fresh w) v2 nb (ivs r) ∧ Keep NoB w w' := by
  obtain ⟨i0, hi, hz0, hz1, hz2⟩ := info_parts int_info
  have bx := ((Blk.new w 57 #[.slice A na ca, .slice B nb cb]).alloc (.cells #[.slice none 0 0, .slice none 0 0] 57)).alloc (.cells #[.slice none 0 0, .slice none 0 0] 57)
  have by0 := (Blk.new (w.alloc (.cells #[.slice A na ca, .slice B nb cb] 57)) 57 #[.slice none 0 0, .slice none 0 0]).alloc (.cells #[.slice none 0 0, .slice none 0 0] 57)
  have bc := Blk.new ((w.alloc (.cells #[.slice A na ca, .slice B nb cb] 57)).alloc (.cells #[.slice none 0 0, .slice none 0 0] 57)) 57 #[.slice none 0 0, .slice none 0 0]
  simp only [World.size_alloc] at bc by0
  have k0 := (((Keep.refl NoB w).alloc (.cells #[.slice A na ca, .slice B nb cb] 57)).alloc (.cells #[.slice none 0 0, .slice none 0 0] 57)).alloc (.cells #[.slice none 0 0, .slice none 0 0] 57)
  go_enter Tryz.func62, Tryz.ntmps62
  have hr0 := Lib.hid hr
  have ha0 := Lib.hid (ha.keepN k0)
  have hAl := ivs_one a
  have hRl := ivs_one r
  have hal : (ivs a).length = na * 1 := by simp [hna.out]
  have hrl : (ivs r).length = nb * 1 := by simp [hnb.out]
  have HI := Lib.hid (And.intro hAl hRl)
  clear hr ha hAl hRl
  go_wp2_with (first
    | (at_builtin; refine wpList_append_rd _ rfl (.tmp 6) (.tmp 8) _ rfl 3 1 8 i0 _ Tryz.underlying55 hi hz0 hz1 hz2 rfl (by decide) (.slice none 0 0) 0 [] A na ca (ivs a) rfl (World.ownsRow_nil _ _ _ _) rfl ha0.out hal HI.out.1 (by unfold maxLen; omega) (by omega) ?_; intro A5 c5 w5 hrow5 hg5 hv5; rw [Nat.zero_add] at hrow5 hv5 ⊢; have k5 : Keep NoB w w5 := k0.grown hg5 (fun g e _ => by cases e); have bx5 := bx.grown hg5 (by simp [Value.ownBlock]); have by5 := by0.grown hg5 (by simp [Value.ownBlock]); have bc5 := bc.grown hg5 (by simp [Value.ownBlock]); obtain ⟨x0, x1⟩ := S.blk2 bx5; obtain ⟨y0, y1⟩ := S.blk2 bc5; have fy := fun i => bc5.frozen i; clear hg5 bx by0 bc k0)
    | (at_builtin; have k6 := k5.setCell (p := ⟨w.heap.size + 1 + 1, 0, none⟩) (fun h => absurd h (by simp; omega)) (.slice A5 na c5); have bc6 := blk_putA bc5 (.slice A5 na c5); have by6 := by5.far (p := ⟨w.heap.size + 1 + 1, 0, none⟩) (by simp) (.slice A5 na c5); clear x0 x1 y0 y1 fy; refine wpList_append_rd _ rfl (.tmp 12) (.tmp 14) _ rfl 3 1 8 i0 _ Tryz.underlying55 hi hz0 hz1 hz2 rfl (by decide) (.slice none 0 0) 0 [] B nb cb (ivs r) rfl (World.ownsRow_nil _ _ _ _) rfl (hr0.out.keepN k6) hrl HI.out.2 (by unfold maxLen; omega) (by omega) ?_; intro A7 c7 w7 hrow7 hg7 hv7; rw [Nat.zero_add] at hrow7 hv7 ⊢; have k7 : Keep NoB _ w7 := (Keep.refl NoB _).grown hg7 (fun g e _ => by cases e); have bc7 := bc6.grown hg7 (by simp [Value.ownBlock]); have by7 := by6.grown hg7 (by simp [Value.ownBlock]); obtain ⟨u0, u1⟩ := S.blk2 bc7; obtain ⟨t0, t1⟩ := S.blk2 by7; have fu := fun i => bc7.frozen i; have ft := fun i => by7.frozen i))
  have hs5 := by5.lt
  have hs7 := by7.lt
  have hsz : (w5.setCell ⟨w.heap.size + 1 + 1, 0, none⟩ (.slice A5 na c5)).heap.size = w5.heap.size := by simp [World.setCell]
  have hb5 := bc5.lt
  have hO5 : Own w5 3 1 (fun k => w.heap.size + 2 < k) (.slice A5 na c5) na (ivs a) := ⟨by simpa using hrow5, fun g e => by
    rcases hv5 with h | h
    · rw [h] at e; cases e
    · rw [h] at e; cases e; simp⟩
  have hO7 : Own w7 3 1 (fun k => w.heap.size + 2 < k) (.slice A7 nb c7) nb (ivs r) := ⟨by simpa using hrow7, fun g e => by
    rcases hv7 with h | h
    · rw [h] at e; cases e
    · rw [h] at e; cases e; omega⟩
  have hO57 := (hO5.keep (O' := fun k => k = w.heap.size + 1 ∨ k = w.heap.size + 2) ((Keep.refl _ w5).setCell (p := ⟨w.heap.size + 1 + 1, 0, none⟩) (fun _ => .inr rfl) (.slice A5 na c5)) (fun k hk e => by omega)).keepN k7
  have hQ : Keep (fun k => k = w.heap.size + 1 ∨ k = w.heap.size + 2) w7 (((w7.setCell ⟨w.heap.size + 1 + 1, 1, none⟩ (.slice A7 nb c7)).setCell ⟨w.heap.size + 1, 0, none⟩ (.slice A5 na c5)).setCell ⟨w.heap.size + 1, 1, none⟩ (.slice A7 nb c7)) :=
    (((Keep.refl _ w7).setCell (p := ⟨w.heap.size + 1 + 1, 1, none⟩) (fun _ => .inr rfl) _).setCell (p := ⟨w.heap.size + 1, 0, none⟩) (fun _ => .inl rfl) _).setCell (p := ⟨w.heap.size + 1, 1, none⟩) (fun _ => .inl rfl) _
  refine bodyPost_ret (ret_sigC rfl rfl (S.blk_put2 (by7.far (p := ⟨w.heap.size + 1 + 1, 1, none⟩) (by simp) _) _ _)) rfl ?_
  exact ⟨_, _, rfl, own_freshC (hO57.keep hQ (fun k hk e => by omega)) (by omega), own_freshC (hO7.keep hQ (fun k hk e => by omega)) (by omega), (keepN k6 k7).trans hQ (fun k e hl => by omega)⟩

end Go.Proofs.YtgifflfjhockaaaGreatDoor.F
