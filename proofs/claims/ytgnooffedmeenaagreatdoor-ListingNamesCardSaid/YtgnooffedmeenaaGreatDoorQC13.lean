/-
  Part 13 of the proofs of LNamesRow, LOneRow: what is laid, and what the functions that the law runs answer. Conditions: each theorem names its own.
-/
import Derived.ArgAppend
import Derived.ChangeSame
import Derived.Deep.Fields
import Derived.Deep.OwnRows
import Derived.Deep.Slices
import Derived.Deep.Strs
import Derived.Lib.AppendZeros
import Derived.Lib.LaidTab
import Derived.Lib.SlBytesConst
import Derived.OrdersIn
import Derived.Stop.LaidErr
import Derived.Test.YtgnooffedmeenaaGreatDoorQC12
import Derived.Test.YtgnooffedmeenaaGreatDoorRows
namespace Go.Proofs.YtgnooffedmeenaaGreatDoor.M.L
open Go.RowKit W

def tgF (f : F.Fu) : List Int := if F.okF f = true then (tgs f.bd).map (fun i => ((i : Nat) : Int)) else []
set_option maxHeartbeats 1000000 in
theorem targetsApi_any (v : F.FV) (f : F.Fu) (w : World) (h : F.FnAt w v f) (hl : F.LgF v) :
  Calls Tryz.prog 23 #[v.val] w fun e w' => ∃ B d, e = .returned (.slice B (tgF f).length d) ∧ Own w' 3 1 (Fresh w) (.slice B (tgF f).length d) (tgF f).length (ivs (tgF f)) ∧ Keep NoB w w' := by
 have bx := Blk.new w 37 v.cells
 have k0 := (Keep.refl NoB w).alloc (.cells v.cells 37)
 have HC := Lib.hid (fun W (hk : Keep NoB w W) => F.checkL_any v f W (h.keepN hk) hl (F.chkF f) rfl)
 cases hok : F.okF f
 ·have e1 : tgF f = [] := by unfold tgF; rw [hok]; rfl
  rw [F.chkF_no hok] at HC
  rw [e1]
  clear h hl hok e1
  obtain ⟨S, A, na, ca, B, nb, cb, Lc, nl, cl, D, nd, cd⟩ := v
  dsimp only [F.FV.val, F.FV.cells] at *
  obtain ⟨c0, c1, c2, c3, c4⟩ := And.intro (bx.cell 0) (And.intro (bx.cell 1) (And.intro (bx.cell 2) (And.intro (bx.cell 3) (bx.cell 4))))
  simp only [List.getElem?_toArray, List.getElem?_cons_zero, List.getElem?_cons_succ] at c0 c1 c2 c3 c4
  go_enter Tryz.func23, Tryz.ntmps23
  go_wp2_with fail
  refine (HC.out _ k0).mono ?_
  rintro e w1 ⟨rfl, k1⟩
  go_wp2
  go_ret
  exact ⟨none, 0, rfl, Own.nil _ _ _ _, keepN k0 k1⟩
 ·have e1 : tgF f = tgI f.bd := by unfold tgF; rw [if_pos hok, tgI_eq (ok_body hok).2.2.2]
  rw [F.chkF_ok hok] at HC
  rw [e1]
  have hld := h.ld
  have hb5 := (ok_body hok).2.2.1
  have HT := Lib.hid (fun W (hk : Keep NoB w W) => targets_any v.D f.bd v.nd v.cd W (h.keepN hk).rd (Lib.hid hld) (by omega))
  clear h hl hld hb5 hok e1
  generalize tgI f.bd = T at *
  obtain ⟨S, A, na, ca, B, nb, cb, Lc, nl, cl, D, nd, cd⟩ := v
  dsimp only [F.FV.val, F.FV.cells] at *
  obtain ⟨c0, c1, c2, c3, c4⟩ := And.intro (bx.cell 0) (And.intro (bx.cell 1) (And.intro (bx.cell 2) (And.intro (bx.cell 3) (bx.cell 4))))
  simp only [List.getElem?_toArray, List.getElem?_cons_zero, List.getElem?_cons_succ] at c0 c1 c2 c3 c4
  go_enter Tryz.func23, Tryz.ntmps23
  go_wp2_with fail
  refine (HC.out _ k0).mono ?_
  rintro e w1 ⟨rfl, k1⟩
  have c4 := (bx.keep k1 id).cell 4
  simp only [List.getElem?_toArray, List.getElem?_cons_zero, List.getElem?_cons_succ] at c4
  have hK := keepN k0 k1
  clear c0 c1 c2 c3 bx k0 k1 HC
  go_wp2_with fail
  refine (HT.out _ hK).mono ?_
  rintro e w2 ⟨B2, d2, rfl, ho, k2⟩
  go_wp2
  go_ret
  exact ⟨B2, d2, rfl, ho.mono (fun k (hk : Fresh w1 k) _ => Nat.le_trans hK.size hk), keepN hK k2⟩

set_option maxRecDepth 100000 in
theorem run_eql_line (a b c d a' b' c' d' : Int) (w : World) :
  (binOp .eql 84 (.agg #[.int .i64 a, .int .i64 b, .int .i64 c, .int .i64 d]) (.agg #[.int .i64 a', .int .i64 b', .int .i64 c', .int .i64 d'])).run Tryz.prog w = .ok (.bool (a == a' && (b == b' && (c == c' && d == d')))) w := by
 have h84 : Tryz.prog.underlying 84 = some (.struct (Tryz.prog.fieldsOf 84)) := by kernel_rfl
 have p84 : Tryz.prog.stoodInHeld 84 = false := by kernel_rfl
 have h82 : Tryz.prog.underlying 82 = some (.struct (Tryz.prog.fieldsOf 82)) := by kernel_rfl
 have p82 : Tryz.prog.stoodInHeld 82 = false := by kernel_rfl
 have u3 := Tryz.underlying3
 have a3 := Tryz.isAgg3
 have z3 := Tryz.sizeOf3
 have a82 := Tryz.isAgg82
 have z82 := Tryz.sizeOf82
 have hn : ∀ w, (Op.equalIn (9998 + 1) 82 (.agg #[.int .i64 c, .int .i64 d]) (.agg #[.int .i64 c', .int .i64 d'])).run Tryz.prog w = .ok (c == c' && d == d') w := by
  intro w
  rw [run_equalIn_agg w 9998 82 _ _ h82 p82]
  simp only [Program.fieldsOf, Tryz.underlying82]
  clear h82 h84
  go_simp
  by_cases h3 : c = c' <;> by_cases h4 : d = d' <;> simp [h3, h4]
 rw [run_eql_struct, show (10000 : Nat) = 9998 + 1 + 1 from rfl, run_equalIn_agg w (9998 + 1) 84 _ _ h84 p84]
 simp only [Program.fieldsOf, Tryz.underlying84]
 clear h82 h84
 go_simp
 by_cases h1 : a = a' <;> by_cases h2 : b = b' <;> by_cases h3 : c = c' <;> by_cases h4 : d = d' <;> simp [h1, h2, h3, h4]
theorem named_sh2 (v : I.IV) (es : List I.SE) (fs : List I.FE) (w : World) (h : I.ImAt w v es fs) (hl : I.LgI v es fs) :
  Calls Tryz.prog 39 #[v.val] w fun e w' => ∃ s : SH, e = .returned s.val ∧ ShOk w' 0 s (cutE (I.okI (I.imOf es fs)) es) (cutF (I.okI (I.imOf es fs)) fs) ∧ s.v = cutV (I.okI (I.imOf es fs)) v ∧ (∀ b, s.m = some b → w.heap.size ≤ b ∧ b < w'.heap.size) ∧ Keep NoB w w' := by
 refine (named_any v es fs w h hl).mono ?_
 rintro e w' ⟨b, n, b1, b2, rfl, hn, hb, hk⟩
 exact ⟨_, rfl, ⟨(cut_im h).keepN hk, cut_lg hl, cut_ok2 h, .inl ⟨rfl, b, n, b1, b2, rfl, hn⟩⟩, rfl, fun b' e => by injection e with e; subst e; exact ⟨hb.1, hn.pm.lt⟩, hk⟩
structure HR2 (w : World) (m0 N0 bs : Nat) (s : SH) (lab : Nat → Nat → Bool) (W : World) : Prop where
 kp : Keep (fun k => w.heap.size ≤ k) w W
 bx : Blk W bs 72 s.cells
 lb : LabAt s.m lab W
 hm : ∀ b, s.m = some b → m0 ≤ b ∧ b < N0
theorem hr2_keep {w : World} {m0 N0 bs : Nat} {s : SH} {lab : Nat → Nat → Bool} {p0 : BSet} (hp : ∀ k, p0 k → w.heap.size ≤ k ∧ k < m0) (hN : w.heap.size ≤ N0) (hb : m0 ≤ bs) (hbN : bs < N0) :
  ∀ O W1 W2, (∀ k, O k → p0 k ∨ N0 ≤ k) → HR2 w m0 N0 bs s lab W1 → Keep O W1 W2 → HR2 w m0 N0 bs s lab W2 := by
 intro O W1 W2 hO h hk
 refine ⟨h.kp.trans hk (fun k h3 hl => ?_), h.bx.keep hk (fun h3 => ?_), h.lb.keep hk (fun b e h3 => ?_), h.hm⟩
 ·rcases hO k h3 with h4 | h4
  ·exact (hp k h4).1
  ·omega
 ·rcases hO _ h3 with h4 | h4
  ·have := hp _ h4; omega
  ·omega
 ·have h5 := h.hm b e
  rcases hO _ h3 with h4 | h4
  ·have := hp _ h4; omega
  ·omega
theorem hr2_it {w : World} {m0 N0 bs : Nat} {s : SH} {es : List I.SE} {fs : List I.FE} {lab : Nat → Nat → Bool} (h : I.ImAt w s.v es fs) (W : World) (hr : HR2 w m0 N0 bs s lab W) : ShIt W bs s es fs lab :=
 ⟨hr.bx, h.keep hr.kp (fun k hk => by omega), hr.lb⟩
theorem guard_line : Tryz.prog.eqGuardType Tryz.prog.depth 84 = false := by kernel_rfl

end Go.Proofs.YtgnooffedmeenaaGreatDoor.M.L

namespace Go.Proofs.YtgnooffedmeenaaGreatDoor.F
open Go.RowKit W

end Go.Proofs.YtgnooffedmeenaaGreatDoor.F

namespace Go.Proofs.YtgnooffedmeenaaGreatDoor.F
open Go.RowKit W

end Go.Proofs.YtgnooffedmeenaaGreatDoor.F

namespace Go.Proofs.YtgnooffedmeenaaGreatDoor.C
open Go.RowKit Go.Shelf O
attribute [local go_sem] Oper.semAt_some

def CellsK (W W' : World) : Prop := W.heap.size ≤ W'.heap.size ∧ ∀ (k : Nat) (o : Obj), W.heap[k]? = some o → o.isCells = true → W'.heap[k]? = some o
theorem CellsK.trans {A B C : World} (h : CellsK A B) (h' : CellsK B C) : CellsK A C := ⟨Nat.le_trans h.1 h'.1, fun k o hk ho => h'.2 k o (h.2 k o hk ho) ho⟩
end Go.Proofs.YtgnooffedmeenaaGreatDoor.C

namespace Go.Proofs.YtgnooffedmeenaaGreatDoor.C
open Go.RowKit Go.Shelf Go.Maps O
attribute [local go_sem] Oper.semAt_some

def Marks (w : World) (W : World) (Ds : List Nat) : Prop := Ds.Nodup ∧ ∀ D ∈ Ds, w.heap.size ≤ D ∧ W.heap[D]? = some (.deferred (some []))
theorem Marks.lt {w W : World} {Ds : List Nat} (h : Marks w W Ds) {D : Nat} (hD : D ∈ Ds) : D < W.heap.size := (Array.getElem?_eq_some_iff.1 (h.2 D hD).2).1
end Go.Proofs.YtgnooffedmeenaaGreatDoor.C

namespace Go.Proofs.YtgnooffedmeenaaGreatDoor.C
open Go.RowKit O

end Go.Proofs.YtgnooffedmeenaaGreatDoor.C

namespace Go.Proofs.YtgnooffedmeenaaGreatDoor.C
open Go.RowKit O

end Go.Proofs.YtgnooffedmeenaaGreatDoor.C

namespace Go.Proofs.YtgnooffedmeenaaGreatDoor.C
open Go.RowKit O

end Go.Proofs.YtgnooffedmeenaaGreatDoor.C

namespace Go.Proofs.YtgnooffedmeenaaGreatDoor.M.L
open Go.RowKit O

end Go.Proofs.YtgnooffedmeenaaGreatDoor.M.L

namespace Go.Proofs.YtgnooffedmeenaaGreatDoor.W
open Go.RowKit

end Go.Proofs.YtgnooffedmeenaaGreatDoor.W

namespace Go.Proofs.YtgnooffedmeenaaGreatDoor.M.L
open Go.RowKit W

end Go.Proofs.YtgnooffedmeenaaGreatDoor.M.L

namespace Go.Proofs.YtgnooffedmeenaaGreatDoor.O
open Go.RowKit

end Go.Proofs.YtgnooffedmeenaaGreatDoor.O

namespace Go.Proofs.YtgnooffedmeenaaGreatDoor.O
open Go.RowKit

end Go.Proofs.YtgnooffedmeenaaGreatDoor.O

namespace Go.Proofs.YtgnooffedmeenaaGreatDoor.O
open Go.RowKit

end Go.Proofs.YtgnooffedmeenaaGreatDoor.O

namespace Go.Proofs.YtgnooffedmeenaaGreatDoor.M.L
open Go.RowKit W

end Go.Proofs.YtgnooffedmeenaaGreatDoor.M.L

namespace Go.Proofs.YtgnooffedmeenaaGreatDoor.M.L
open Go.RowKit W

structure TK (U : TypeId) (W W' : World) : Prop where
 size : W.heap.size ≤ W'.heap.size
 blk : ∀ (k : Nat) cs T fz, W.heap[k]? = some (.cells cs T fz) → T ≠ U → W'.heap[k]? = some (.cells cs T fz)
theorem TK.trans {U : TypeId} {W W1 W2 : World} (h : TK U W W1) (h' : TK U W1 W2) : TK U W W2 := ⟨Nat.le_trans h.size h'.size, fun k cs T fz h1 h2 => h'.blk k cs T fz (h.blk k cs T fz h1 h2) h2⟩
end Go.Proofs.YtgnooffedmeenaaGreatDoor.M.L

namespace Go.Proofs.YtgnooffedmeenaaGreatDoor.I
open Go.RowKit Go.Shelf W
attribute [local go_sem] Oper.semAt_some

end Go.Proofs.YtgnooffedmeenaaGreatDoor.I

namespace Go.Proofs.YtgnooffedmeenaaGreatDoor.I
open Go.RowKit W

end Go.Proofs.YtgnooffedmeenaaGreatDoor.I

namespace Go.Proofs.YtgnooffedmeenaaGreatDoor.M.L
open Go.RowKit W

end Go.Proofs.YtgnooffedmeenaaGreatDoor.M.L

namespace Go.Proofs.YtgnooffedmeenaaGreatDoor.M.L
open Go.RowKit W

end Go.Proofs.YtgnooffedmeenaaGreatDoor.M.L

namespace Go.Proofs.YtgnooffedmeenaaGreatDoor.M.L
open Go.RowKit W

end Go.Proofs.YtgnooffedmeenaaGreatDoor.M.L

namespace Go.Proofs.YtgnooffedmeenaaGreatDoor.M.L
open Go.RowKit W

end Go.Proofs.YtgnooffedmeenaaGreatDoor.M.L

namespace Go.Proofs.YtgnooffedmeenaaGreatDoor.M.L
open Go.RowKit Go.Shelf W
attribute [local go_sem] Oper.semAt_some

def wB (fn pl : Int) (l : Ln4) : Bool := ((l.1 : Int) == 4 && (((l.2.1 : Nat) : Int) == 0 && (((l.2.2.1 : Nat) : Int) == fn && ((l.2.2.2 : Nat) : Int) == pl)))
def lineN (p : I.Im) (fn pl : Int) : Nat := match lineI p fn pl with
 | some n => n + 1
 | none => 0
def lineE (p : I.Im) (fn pl : Int) : Int := if (lineI p fn pl).isSome = true then 0 else 100
theorem line_find (p : I.Im) (fn pl : Int) : (seqQ (labB p) p).findIdx? (wB fn pl) = lineI p fn pl := by
 have key : ∀ l ∈ seqQ (labB p) p, wB fn pl l = (decide (0 ≤ fn) && decide (l.1 = 4 ∧ ((l.2.2.1 : Nat) : Int) = fn ∧ ((l.2.2.2 : Nat) : Int) = pl)) := by
  intro l hl
  have ho := seqQ_ok hl
  unfold wB
  rw [Bool.eq_iff_iff]
  simp only [Bool.and_eq_true, beq_iff_eq, decide_eq_true_eq]
  constructor
  ·rintro ⟨h1, h2, h3, h4⟩
   exact ⟨by omega, by omega, h3, h4⟩
  ·rintro ⟨h0, h1, h3, h4⟩
   have h5 := (ho.f (by omega)).1
   exact ⟨by omega, by omega, h3, h4⟩
 have fc : ∀ (q : List Ln4) (f g : Ln4 → Bool), (∀ l ∈ q, f l = g l) → q.findIdx? f = q.findIdx? g := by
  intro q f g h
  induction q with
  | nil => rfl
  | cons a q ih => rw [List.findIdx?_cons, List.findIdx?_cons, h a (by simp), ih (fun l hl => h l (by simp [hl]))]
 rw [fc _ _ _ key]
 by_cases h0 : 0 ≤ fn
 ·rw [line_seq p fn pl h0]
  refine fc _ _ _ fun l _ => ?_
  rw [decide_eq_true h0, Bool.true_and]
 ·rw [line_neg h0, List.findIdx?_eq_none_iff]
  intro l _
  rw [decide_eq_false h0, Bool.false_and]
structure LnC (w0 : World) (N0 bn be bw : Nat) (fn pl : Int) (q : BSet) (W : World) : Prop where
 kp : Keep NoB w0 W
 sz : N0 ≤ W.heap.size
 hq : ∀ k, q k → (k = bn ∨ k = be ∨ N0 ≤ k) ∧ k < W.heap.size
 qn : q bn
 qe : q be
 bw : Blk W bw 84 #[.int .i64 4, .int .i64 0, .int .i64 fn, .int .i64 pl]
def LnJ (w0 : World) (N0 bn be bw : Nat) (fn pl : Int) (pre : List NL) (q : BSet) (W : World) : Prop :=
 LnC w0 N0 bn be bw fn pl q W ∧ Blk W bn 3 #[.int .i64 0] ∧ Blk W be 40 #[.int .i64 100] ∧ ∀ x ∈ pre, wB fn pl x.2 = false
def LnX (w0 : World) (N0 bn be bw : Nat) (fn pl : Int) (id : Nat) (c : Code) (pre : List NL) (q : BSet) (W : World) : Prop :=
 c = .exit id ∧ ∃ pre0 x, pre = pre0 ++ [x] ∧ LnC w0 N0 bn be bw fn pl q W ∧ Blk W bn 3 #[.int .i64 (x.1 : Int)] ∧ Blk W be 40 #[.int .i64 0] ∧ wB fn pl x.2 = true ∧ ∀ y ∈ pre0, wB fn pl y.2 = false
theorem lnC_out {w0 : World} {N0 bn be bw B : Nat} {fn pl : Int} {q : BSet} {W W' : World} (h : LnC w0 N0 bn be bw fn pl q W) (hs : IStepU 5 B q W W') (hB : w0.heap.size ≤ B) (hbw : bw < B) : LnC w0 N0 bn be bw fn pl q W' :=
 ⟨h.kp.trans hs.keep (fun k hk hl => by omega), Nat.le_trans h.sz hs.keep.size, fun k hk => ⟨(h.hq k hk).1, Nat.lt_of_lt_of_le (h.hq k hk).2 hs.keep.size⟩, h.qn, h.qe, h.bw.keep hs.keep (fun hh => by omega)⟩
theorem lnJ_out (w0 : World) (N0 bn be bw B : Nat) (fn pl : Int) (hB : w0.heap.size ≤ B) (hbw : bw < B) : KeepsOutU 5 B (LnJ w0 N0 bn be bw fn pl) := by
 rintro pre q W W' ⟨h1, h2, h3, h4⟩ hs
 exact ⟨lnC_out h1 hs hB hbw, h2.keep hs.keep (fun hh => hh.2 h1.qn), h3.keep hs.keep (fun hh => hh.2 h1.qe), h4⟩
theorem lnX_out (w0 : World) (N0 bn be bw B : Nat) (fn pl : Int) (id : Nat) (c : Code) (hB : w0.heap.size ≤ B) (hbw : bw < B) : KeepsOutU 5 B (LnX w0 N0 bn be bw fn pl id c) := by
 rintro pre q W W' ⟨h0, pre0, x, e, h1, h2, h3, h4⟩ hs
 exact ⟨h0, pre0, x, e, lnC_out h1 hs hB hbw, h2.keep hs.keep (fun hh => hh.2 h1.qn), h3.keep hs.keep (fun hh => hh.2 h1.qe), h4⟩
theorem lnC_alloc {w0 : World} {N0 bn be bw : Nat} {fn pl : Int} {q : BSet} {W : World} (h : LnC w0 N0 bn be bw fn pl q W) (o : Obj) :
  ∃ q', Rnd q q' W (W.alloc o) ∧ LnC w0 N0 bn be bw fn pl q' (W.alloc o) ∧ q' W.heap.size ∧ ∀ k, q k → q' k := by
 refine ⟨fun k => q k ∨ k = W.heap.size, ⟨fun k hk hq => ?_, (Keep.refl _ _).alloc o⟩, ⟨h.kp.alloc o, Nat.le_trans h.sz ((Keep.refl NoB W).alloc o).size, fun k hq => ?_, .inl h.qn, .inl h.qe, h.bw.alloc o⟩, .inr rfl, fun k hk => .inl hk⟩
 ·rcases hq with hq | hq
  ·exact hq
  ·omega
 ·rw [World.size_alloc]
  rcases hq with hq | hq
  ·have := h.hq k hq; omega
  ·have := h.sz; omega
theorem lnX_body {w0 : World} {N0 bn be bw : Nat} {fn pl : Int} {pre : List NL} {x : NL} {q : BSet} {W : World} {id : Nat} (h : LnJ w0 N0 bn be bw fn pl pre q W) (hx : wB fn pl x.2 = true) (hw : w0.heap.size ≤ bn ∧ w0.heap.size ≤ be) (hne : bn ≠ be) (hnw : bw ≠ bn ∧ bw ≠ be) :
  ∃ q', Rnd q q' W ((W.setCell ⟨bn, 0, none⟩ (.int .i64 (x.1 : Int))).setCell ⟨be, 0, none⟩ (.int .i64 0)) ∧ LnX w0 N0 bn be bw fn pl id (.exit id) (pre ++ [x]) q' ((W.setCell ⟨bn, 0, none⟩ (.int .i64 (x.1 : Int))).setCell ⟨be, 0, none⟩ (.int .i64 0)) := by
 obtain ⟨h1, h2, h3, h4⟩ := h
 have hk : Keep (fun k => k = bn ∨ k = be) W ((W.setCell ⟨bn, 0, none⟩ (.int .i64 (x.1 : Int))).setCell ⟨be, 0, none⟩ (.int .i64 0)) := ((Keep.refl _ W).setCell (p := ⟨bn, 0, none⟩) (fun _ => .inl rfl) _).setCell (p := ⟨be, 0, none⟩) (fun _ => .inr rfl) _
 have e2 := (h2.put 0 (.int .i64 (x.1 : Int))).far (p := ⟨be, 0, none⟩) hne (.int .i64 0)
 have e3 := (h3.far (p := ⟨bn, 0, none⟩) (Ne.symm hne) (.int .i64 (x.1 : Int))).put 0 (.int .i64 0)
 simp only [List.setIfInBounds_toArray, List.set_cons_zero] at e2 e3
 refine ⟨q, ⟨fun k _ h => h, hk.mono (fun k hk _ => by rcases hk with rfl | rfl; exact h1.qn; exact h1.qe)⟩, rfl, pre, x, rfl, ⟨h1.kp.trans hk (fun k hk hl => by omega), Nat.le_trans h1.sz hk.size, fun k hq => ⟨(h1.hq k hq).1, Nat.lt_of_lt_of_le (h1.hq k hq).2 hk.size⟩, h1.qn, h1.qe, h1.bw.keep hk (by rintro (e | e); exact hnw.1 e; exact hnw.2 e)⟩, e2, e3, hx, h4⟩
theorem lnJ_body {w0 : World} {N0 bn be bw : Nat} {fn pl : Int} {pre : List NL} {x : NL} {q : BSet} {W : World} (h : LnJ w0 N0 bn be bw fn pl pre q W) (hx : wB fn pl x.2 = false) : ∃ q', Rnd q q' W W ∧ LnJ w0 N0 bn be bw fn pl (pre ++ [x]) q' W :=
 ⟨q, Rnd.refl _ _, h.1, h.2.1, h.2.2.1, fun y hy => by rcases List.mem_append.1 hy with hy | hy; exact h.2.2.2 y hy; rw [List.mem_singleton.1 hy]; exact hx⟩
theorem find_stop {seq : List Ln4} {pre0 : List NL} {x : NL} {f : Ln4 → Bool} (h : EnQ seq pre0 x) (hx : f x.2 = true) (hn : ∀ y ∈ pre0, f y.2 = false) : seq.findIdx? f = some pre0.length ∧ x.1 = pre0.length + 1 := by
 obtain ⟨_, _, _, hn1⟩ := enQ_mem h
 obtain ⟨post, hq⟩ := h
 have h1 := congrArg (List.map Prod.snd) hq
 rw [numQ_snd, List.map_append, List.map_cons] at h1
 refine ⟨?_, hn1⟩
 rw [h1, List.findIdx?_append]
 have e1 : (pre0.map Prod.snd).findIdx? f = none := by
  rw [List.findIdx?_eq_none_iff]
  intro l hl
  obtain ⟨y, hy, rfl⟩ := List.mem_map.1 hl
  exact hn y hy
 rw [e1, List.findIdx?_cons, hx]
 simp
theorem find_done {seq : List Ln4} {f : Ln4 → Bool} (hn : ∀ y ∈ numQ 1 seq, f y.2 = false) : seq.findIdx? f = none := by
 rw [List.findIdx?_eq_none_iff]
 intro l hl
 have h1 : l ∈ (numQ 1 seq).map Prod.snd := by rw [numQ_snd]; exact hl
 obtain ⟨y, hy, rfl⟩ := List.mem_map.1 h1
 exact hn y hy

set_option maxRecDepth 100000 in
set_option maxHeartbeats 4000000 in
theorem line_any (v : I.IV) (es : List I.SE) (fs : List I.FE) (fn pl : Int) (w : World) (h : I.ImAt w v es fs) (hl : I.LgI v es fs) :
  Calls Tryz.prog 19 #[v.val, .int .i64 fn, .int .i64 pl] w fun e w' => e = .returned (.tuple #[.int .i64 ((lineN (cutP (I.imOf es fs)) fn pl : Nat) : Int), .int .i64 (lineE (cutP (I.imOf es fs)) fn pl)]) ∧ Keep NoB w w' := by
 have HS := Lib.hid (fun W (hk : Keep NoB w W) => named_sh2 v es fs W (h.keepN hk) hl)
 have HLi := Lib.hid (fun s W => linesC_any s W)
 have hcut := cut_im (b := I.okI (I.imOf es fs)) h
 rw [← cut_p]
 have b0 := Blk.new w 25 v.cells
 clear h hl
 generalize cutE (I.okI (I.imOf es fs)) es = es2 at *
 generalize cutF (I.okI (I.imOf es fs)) fs = fs2 at *
 generalize cutV (I.okI (I.imOf es fs)) v = v2 at *
 obtain ⟨X, nx, cx, Y, ny, cy⟩ := v
 dsimp only [I.IV.val, I.IV.cells] at *
 have W4b : ∃ W4, (((w.alloc (.cells #[.slice X nx cx, .slice Y ny cy] 25)).alloc (.cells #[.int .i64 0] 3)).alloc (.cells #[.int .i64 100] 40)).alloc (.cells #[.int .i64 4, .int .i64 0, .int .i64 fn, .int .i64 pl] 84) = W4 ∧ W4.heap.size = w.heap.size + 1 + 1 + 1 + 1 ∧ Keep NoB w W4 ∧
   Blk W4 w.heap.size 25 #[.slice X nx cx, .slice Y ny cy] ∧ Blk W4 (w.heap.size + 1) 3 #[.int .i64 0] ∧ Blk W4 (w.heap.size + 1 + 1) 40 #[.int .i64 100] ∧ Blk W4 (w.heap.size + 1 + 1 + 1) 84 #[.int .i64 4, .int .i64 0, .int .i64 fn, .int .i64 pl] := by
  refine ⟨_, rfl, by simp [World.size_alloc], ((((Keep.refl NoB w).alloc _).alloc _).alloc _).alloc _, ((b0.alloc _).alloc _).alloc _, ?_, ?_, ?_⟩
  ·have := ((Blk.new (w.alloc (.cells #[.slice X nx cx, .slice Y ny cy] 25)) 3 #[.int .i64 0]).alloc (.cells #[.int .i64 100] 40)).alloc (.cells #[.int .i64 4, .int .i64 0, .int .i64 fn, .int .i64 pl] 84)
   simpa [World.size_alloc] using this
  ·have := (Blk.new ((w.alloc (.cells #[.slice X nx cx, .slice Y ny cy] 25)).alloc (.cells #[.int .i64 0] 3)) 40 #[.int .i64 100]).alloc (.cells #[.int .i64 4, .int .i64 0, .int .i64 fn, .int .i64 pl] 84)
   simpa [World.size_alloc] using this
  ·have := Blk.new (((w.alloc (.cells #[.slice X nx cx, .slice Y ny cy] 25)).alloc (.cells #[.int .i64 0] 3)).alloc (.cells #[.int .i64 100] 40)) 84 #[.int .i64 4, .int .i64 0, .int .i64 fn, .int .i64 pl]
   simpa [World.size_alloc] using this
 obtain ⟨W4, hW4, hz4, hk4, q0, q1, q2, q3⟩ := W4b
 have HS4 := Lib.hid (HS.out _ hk4)
 have c0 := q0.cell 0
 have c1 := q0.cell 1
 simp only [List.getElem?_toArray, List.getElem?_cons_zero, List.getElem?_cons_succ] at c0 c1
 clear b0 HS
 refine (callsIn_wide (n := 4)).1 ?_
 refine callsIn_of_wp_marks Tryz.func19 rfl trivial ?_ rfl
 simp only [Tryz.ntmps19, List.size_toArray, List.length_cons, List.length_nil, Nat.reduceAdd, Nat.reduceSub, Array.replicate_succ, Array.replicate_zero, List.push_toArray, List.append_toArray, List.nil_append, List.cons_append]
 gi_wp2
 refine wpIn_scope_wide ?_
 gi_wp2
 refine wpIn_label ?_
 gi_wp2_with fail
 refine ⟨trivial, (callsIn_wide.2 HS4.out).mono ?_⟩
 rintro e W5 ⟨s, rfl, hs, hsv, hsm, k5⟩
 gi_wp2_with fail
 refine ⟨trivial, (callsIn_wide.2 (HLi.out s W5)).mono ?_⟩
 rintro e W6 ⟨rfl, hw6⟩
 gi_wp2_with fail
 have hz6 : W6.heap.size = W5.heap.size + 1 := by rw [hw6]; simp
 have k6 : Keep NoB W5 W6 := by rw [hw6]; exact (Keep.refl _ _).alloc _
 have hbx : Blk W6 W5.heap.size 72 s.cells := by rw [hw6]; exact Blk.new _ _ _
 rw [← hw6]
 have k46 : Keep NoB W4 W6 := keepN k5 k6
 have hz5 : W4.heap.size ≤ W5.heap.size := k5.size
 have hkw : Keep NoB w W6 := keepN hk4 k46
 have q1' : Blk W6 (w.heap.size + 1) 3 #[.int .i64 0] := q1.keep k46 id
 have q2' : Blk W6 (w.heap.size + 1 + 1) 40 #[.int .i64 100] := q2.keep k46 id
 have q3' : Blk W6 (w.heap.size + 1 + 1 + 1) 84 #[.int .i64 4, .int .i64 0, .int .i64 fn, .int .i64 pl] := q3.keep k46 id
 have hlab : LabAt s.m (labK2 0 (I.imOf es2 fs2)) W6 := hs.lab.keep k6 (fun _ _ h => h)
 obtain ⟨hes, hfs, hbd, hsq⟩ := hs.small
 have hel : labK2 0 (I.imOf es2 fs2) = labB (I.imOf es2 fs2) := if_pos rfl
 have hIt : Hid (∀ W, HR2 w W4.heap.size W6.heap.size W5.heap.size s (labK2 0 (I.imOf es2 fs2)) W → ShIt W W5.heap.size s es2 fs2 (labK2 0 (I.imOf es2 fs2))) := fun W hr => hr2_it (by rw [hsv]; exact hcut) W hr
 have hst := Lib.hid (lines_stops 2 3 W5.heap.size s es2 fs2 (labK2 0 (I.imOf es2 fs2)) hes hfs hbd (by omega) _ hIt)
 have hH0 : HR2 w W4.heap.size W6.heap.size W5.heap.size s (labK2 0 (I.imOf es2 fs2)) W6 := ⟨hkw.mono (fun _ hf _ => hf.elim), hbx, hlab, fun b e => ⟨(hsm b e).1, by have := (hsm b e).2; omega⟩⟩
 rw [hel] at hst hH0
 have hi0 : LnJ w W6.heap.size (w.heap.size + 1) (w.heap.size + 1 + 1) (w.heap.size + 1 + 1 + 1) fn pl [] (fun k => k = w.heap.size + 1 ∨ k = w.heap.size + 1 + 1) W6 :=
  ⟨⟨hkw, Nat.le_refl _, fun k hk => by rcases hk with rfl | rfl <;> omega, .inl rfl, .inr rfl, q3'⟩, q1', q2', fun x hx => by simp at hx⟩
 have hp0 : ∀ k, (k = w.heap.size + 1 ∨ k = w.heap.size + 1 + 1) → k < W6.heap.size := fun k hk => by omega
 have hHs := hr2_keep (w := w) (m0 := W4.heap.size) (N0 := W6.heap.size) (bs := W5.heap.size) (s := s) (lab := labB (I.imOf es2 fs2)) (p0 := fun k => k = w.heap.size + 1 ∨ k = w.heap.size + 1 + 1) (fun k hk => by omega) (by omega) hz5 (by omega)
 have hN : Hid (W6.heap.size = W5.heap.size + 1 ∧ W4.heap.size ≤ W5.heap.size ∧ W4.heap.size = w.heap.size + 1 + 1 + 1 + 1) := ⟨hz6, hz5, hz4⟩
 clear q0 q1 q2 q3 q1' q2' q3' hs hsv hsm k5 k6 hlab hIt hbx hes hfs hbd c0 c1 HLi HS4 hcut hw6 hW4 k46 hk4 hkw
 refine wpIn_rangeFunc_U (U := 5) (m := 2) (gf := 93) (lb := #[.pointer (some ⟨W5.heap.size, 0, none⟩)]) rfl (enters_of Tryz.func93 rfl rfl)
  hst.out (fun _ => rfl) (LnJ w W6.heap.size (w.heap.size + 1) (w.heap.size + 1 + 1) (w.heap.size + 1 + 1 + 1) fn pl) (fun c => LnX w W6.heap.size (w.heap.size + 1) (w.heap.size + 1 + 1) (w.heap.size + 1 + 1 + 1) fn pl 0 c) (lnJ_out w _ _ _ _ _ _ _ (by omega) (by omega)) (fun pre q W h k hk => (h.1.hq k hk).2) (fun c => lnX_out w _ _ _ _ _ _ _ _ c (by omega) (by omega)) hi0 hp0 hH0 hHs
  (fun pre x q a' W => ∃ Bx, LnJ w W6.heap.size (w.heap.size + 1) (w.heap.size + 1 + 1) (w.heap.size + 1 + 1 + 1) fn pl pre q W ∧ q Bx ∧ Blk W Bx 84 (lnC x.2) ∧ a' = { tmps := #[.agg #[.slice X nx cx, .slice Y ny cy], .int .i64 fn, .int .i64 pl, .pointer (some ⟨w.heap.size, 0, none⟩), undef, undef, .int .i64 0, .int .i64 0, .pointer (some ⟨w.heap.size + 1, 0, none⟩), .pointer (some ⟨w.heap.size + 1 + 1, 0, none⟩), .pointer (some ⟨w.heap.size + 1 + 1 + 1, 0, none⟩), .int .i64 (x.1 : Int), .pointer (some ⟨Bx, 0, none⟩), .int .i64 fn, .int .i64 pl, .agg #[.int .i64 fn, .int .i64 pl], .agg #[.int .i64 4, .int .i64 0, .int .i64 fn, .int .i64 pl], .agg #[.slice X nx cx, .slice Y ny cy], s.val, .func (.func 93) #[] #[.pointer (some ⟨W5.heap.size, 0, none⟩)], .int .i64 (x.1 : Int), .agg (lnC x.2), undef, undef, undef, undef, undef, undef], defers := [] }) ?hax ?assign ?body ?done ?stop
 case hax =>
  rintro pre x a' u q W W' ⟨Bx, g1, g2, g3, g4⟩ hs
  exact ⟨Bx, lnJ_out w _ _ _ _ _ _ _ (by omega) (by omega) _ _ _ _ g1 hs, g2, g3.keep hs.keep (fun h => h.2 g2), g4⟩
 case assign =>
  rintro l pre x q W hi hen
  have hB := Lib.hid (Blk.new W 84 (lnC x.2))
  obtain ⟨q', e1, e2, e3, e4⟩ := lnC_alloc hi.1 (.cells (lnC x.2) 84)
  have hE : Hid (Rnd q q' W (W.alloc (.cells (lnC x.2) 84)) ∧ LnJ w W6.heap.size (w.heap.size + 1) (w.heap.size + 1 + 1) (w.heap.size + 1 + 1 + 1) fn pl pre q' (W.alloc (.cells (lnC x.2) 84)) ∧ q' W.heap.size) := ⟨e1, ⟨e2, hi.2.1.alloc _, hi.2.2.1.alloc _, hi.2.2.2⟩, e3⟩
  clear e1 e2 e3 e4 hi
  obtain ⟨n, ⟨a0, a1, a2, a3⟩⟩ := x
  dsimp only [encQ, lnC] at *
  gi_wp2
  exact ⟨q', hE.out.1, _, hE.out.2.1, hE.out.2.2, hB.out, rfl⟩
 case body =>
  rintro l pre x q a' W hen ⟨Bx, g1, g2, g3, rfl⟩
  have hwB : Hid (wB fn pl x.2 = ((x.2.1 : Int) == 4 && (((x.2.2.1 : Nat) : Int) == 0 && (((x.2.2.2.1 : Nat) : Int) == fn && ((x.2.2.2.2 : Nat) : Int) == pl)))) := rfl
  obtain ⟨d0, d1, d2, d3⟩ := And.intro (g3.cell 0) (And.intro (g3.cell 1) (And.intro (g3.cell 2) (g3.cell 3)))
  obtain ⟨f0, f1, f2, f3⟩ := And.intro (g1.1.bw.cell 0) (And.intro (g1.1.bw.cell 1) (And.intro (g1.1.bw.cell 2) (g1.1.bw.cell 3)))
  have h1 := g1.2.1.cell 0
  have h2 := g1.2.2.1.cell 0
  obtain ⟨n, ⟨a0, a1, a2, a3⟩⟩ := x
  dsimp only [lnC] at *
  simp only [List.getElem?_toArray, List.getElem?_cons_zero, List.getElem?_cons_succ] at d0 d1 d2 d3 f0 f1 f2 f3 h1 h2
  have G1 := Lib.hid g1
  have G2 := Lib.hid g2
  have G3 := Lib.hid g3
  have hreq := run_eql_line a0 a1 a2 a3 4 0 fn pl
  have hg := guard_line
  have z1 := g1.2.1.frozen 0
  have z2 := g1.2.2.1.frozen 0
  clear g1 g2 g3 hst hi0 hp0 hH0 hHs hen
  gi_wp2_with fail
  ·exact lnX_body (x := (n, a0, a1, a2, a3)) G1.out (by rw [hwB.out]; simp only [Bool.and_eq_true]; assumption) (by omega) (by omega) (by omega)
  all_goals exact lnJ_body (x := (n, a0, a1, a2, a3)) G1.out (by rw [hwB.out]; simp only [Bool.and_eq_false_iff]; assumption)
 case done =>
  rintro D xs q W hD hpD rfl g1 hK
  have hf := line_find (I.imOf es2 fs2) fn pl
  rw [find_done g1.2.2.2] at hf
  have b1 := g1.2.1
  have b2 := g1.2.2.1
  have hkw := g1.1.kp
  have c1 := b1.cell 0
  have c2 := b2.cell 0
  simp only [List.getElem?_toArray, List.getElem?_cons_zero] at c1 c2
  rename_i Q2 K2 aK
  refine aK _ _ ?_
  have HF := Lib.hid hf
  clear hi0 hp0 hH0 hHs hst g1 hf
  gi_wp2
  gi_region
  gi_wp2
  dsimp only [Exit.noGoto]
  refine ⟨by simp, .inl ⟨_, _, rfl, run_takeDeferred hK, ?_⟩⟩
  refine ⟨.tuple #[.int .i64 0, .int .i64 100], by simp [results, Tryz.results19, go_sem], ?_⟩
  refine ⟨?_, npPut hkw.drew (by omega)⟩
  have hf := HF.out
  simp only [lineN, lineE, ← hf]
  rfl
 case stop =>
  rintro D c pre q W hD hpD ⟨post, hpost⟩ ⟨rfl, pre0, x, rfl, g1, b1, b2, hx, hy⟩ hK
  have hf := line_find (I.imOf es2 fs2) fn pl
  have hen : EnQ (seqQ (labB (I.imOf es2 fs2)) (I.imOf es2 fs2)) pre0 x := ⟨post, by rw [hpost]; simp⟩
  obtain ⟨f1, f2⟩ := find_stop hen hx hy
  rw [f1] at hf
  have hkw := g1.kp
  have c1 := b1.cell 0
  have c2 := b2.cell 0
  simp only [List.getElem?_toArray, List.getElem?_cons_zero] at c1 c2
  rename_i Q2 K2 aK
  have HF := Lib.hid (And.intro hf f2)
  clear hi0 hp0 hH0 hHs hst g1 hf f2 f1 hen hpost
  gi_wp2
  gi_region
  gi_wp2
  dsimp only [Exit.noGoto]
  refine ⟨by simp, .inl ⟨_, _, rfl, run_takeDeferred hK, ?_⟩⟩
  refine ⟨.tuple #[.int .i64 (x.1 : Int), .int .i64 0], by simp [results, Tryz.results19, go_sem], ?_⟩
  refine ⟨?_, npPut hkw.drew (by omega)⟩
  obtain ⟨hf, f2⟩ := HF.out
  simp only [lineN, lineE, ← hf, f2]
  rfl

end Go.Proofs.YtgnooffedmeenaaGreatDoor.M.L

namespace Go.Proofs.YtgnooffedmeenaaGreatDoor.M.L
open Go.RowKit Go.Shelf W
attribute [local go_sem] Oper.semAt_some

def placeR (p : I.Im) (line : Int) : Int × Int × Int := match placeI p line with
 | some (a, b) => (a, b, 0)
 | none => (0, 0, 100)
def atR (line : Int) (x : NL) : Int × Int × Int := if (x.1 : Int) = line ∧ x.2.1 = 4 then (((x.2.2.2.1 : Nat) : Int), ((x.2.2.2.2 : Nat) : Int), 0) else (0, 0, 100)
theorem numQ_get (q : List Ln4) (n i : Nat) : (numQ n q)[i]? = (q[i]?).map fun l => (n + i, l) := by
 induction q generalizing n i with
 | nil => rfl
 | cons a q ih =>
  cases i with
  | zero => rfl
  | succ i =>
   show (numQ (n + 1) q)[i]? = _
   rw [ih, List.getElem?_cons_succ]
   congr 1
   funext l
   congr 1
   omega
theorem place_done {p : I.Im} {line : Int} (h : ∀ y ∈ numQ 1 (seqQ (labB p) p), (y.1 : Int) < line) : placeR p line = (0, 0, 100) := by
 unfold placeR
 rw [place_seq]
 by_cases h1 : 1 ≤ line
 ·rw [if_pos h1]
  have e : (seqQ (labB p) p)[(line - 1).toNat]? = none := by
   cases hg : (seqQ (labB p) p)[(line - 1).toNat]? with
   | none => rfl
   | some l =>
    have hn := numQ_get (seqQ (labB p) p) 1 (line - 1).toNat
    rw [hg] at hn
    have := h _ (List.mem_of_getElem? hn)
    simp at this
    omega
  rw [e]
 ·rw [if_neg h1]
theorem place_stop {p : I.Im} {line : Int} {pre0 : List NL} {x : NL} (h : EnQ (seqQ (labB p) p) pre0 x) (hn : ∀ y ∈ pre0, (y.1 : Int) < line) (hx : ¬ (x.1 : Int) < line) : placeR p line = atR line x := by
 obtain ⟨hm1, _, _, h1⟩ := enQ_mem h
 have hg : (seqQ (labB p) p)[pre0.length]? = some x.2 ∧ (∀ y, pre0.getLast? = some y → y.1 = pre0.length) := by
  obtain ⟨post, hq⟩ := h
  constructor
  ·have := numQ_get (seqQ (labB p) p) 1 pre0.length
   rw [hq] at this
   simp at this
   cases hg : (seqQ (labB p) p)[pre0.length]? with
   | none => rw [hg] at this; cases this
   | some l => rw [hg] at this; simp at this; rw [this]
  ·intro y hy
   have hl : 0 < pre0.length := by
    cases pre0 with
    | nil => cases hy
    | cons a q => simp
   have := numQ_get (seqQ (labB p) p) 1 (pre0.length - 1)
   rw [hq, List.getElem?_append_left (by omega)] at this
   rw [List.getLast?_eq_getElem?] at hy
   rw [hy] at this
   cases hg : (seqQ (labB p) p)[pre0.length - 1]? with
   | none => rw [hg] at this; cases this
   | some l => rw [hg] at this; simp at this; rw [this]; dsimp only; omega
 unfold placeR atR
 rw [place_seq]
 by_cases he : (x.1 : Int) = line
 ·have h2 : (line - 1).toNat = pre0.length := by omega
  rw [if_pos (by omega), h2, hg.1]
  dsimp only
  by_cases h4 : x.2.1 = 4
  ·rw [if_pos h4, if_pos ⟨he, h4⟩]
  ·rw [if_neg h4, if_neg (fun hh => h4 hh.2)]
 ·have h3 : ¬ 1 ≤ line := by
   intro h3
   have hl : 0 < pre0.length := by omega
   obtain ⟨y, hy⟩ : ∃ y, pre0.getLast? = some y := by
    cases hh : pre0.getLast? with
    | none => rw [List.getLast?_eq_none_iff] at hh; rw [hh] at hl; simp at hl
    | some y => exact ⟨y, rfl⟩
   have h4 := hg.2 y hy
   have h5 := hn y (List.mem_of_getLast? hy)
   omega
  rw [if_neg h3, if_neg (fun hh => he hh.1)]
structure PcC (w0 : World) (N0 bf bp be bl : Nat) (line : Int) (q : BSet) (W : World) (r : Int × Int × Int) : Prop where
 kp : Keep NoB w0 W
 sz : N0 ≤ W.heap.size
 hq : ∀ k, q k → (k = bf ∨ k = bp ∨ k = be ∨ N0 ≤ k) ∧ k < W.heap.size
 qf : q bf
 qp : q bp
 qe : q be
 bw : Blk W bl 3 #[.int .i64 line]
 rf : Blk W bf 3 #[.int .i64 r.1]
 rp : Blk W bp 3 #[.int .i64 r.2.1]
 re : Blk W be 40 #[.int .i64 r.2.2]
def PcJ (w0 : World) (N0 bf bp be bl : Nat) (line : Int) (pre : List NL) (q : BSet) (W : World) : Prop :=
 PcC w0 N0 bf bp be bl line q W (0, 0, 100) ∧ ∀ x ∈ pre, (x.1 : Int) < line
def PcX (w0 : World) (N0 bf bp be bl : Nat) (line : Int) (id : Nat) (c : Code) (pre : List NL) (q : BSet) (W : World) : Prop :=
 c = .exit id ∧ ∃ pre0 x, pre = pre0 ++ [x] ∧ PcC w0 N0 bf bp be bl line q W (atR line x) ∧ ¬ (x.1 : Int) < line ∧ ∀ y ∈ pre0, (y.1 : Int) < line
section
variable {w0 : World} {N0 bf bp be bl B : Nat} {line : Int} {q : BSet} {W W' : World} {r : Int × Int × Int}
theorem pcC_out (h : PcC w0 N0 bf bp be bl line q W r) (hs : IStepU 5 B q W W') (hB : w0.heap.size ≤ B) (hbl : bl < B) : PcC w0 N0 bf bp be bl line q W' r :=
 ⟨h.kp.trans hs.keep (fun k hk hl => by omega), Nat.le_trans h.sz hs.keep.size, fun k hk => ⟨(h.hq k hk).1, Nat.lt_of_lt_of_le (h.hq k hk).2 hs.keep.size⟩, h.qf, h.qp, h.qe, h.bw.keep hs.keep (fun hh => by omega),
  h.rf.keep hs.keep (fun hh => hh.2 h.qf), h.rp.keep hs.keep (fun hh => hh.2 h.qp), h.re.keep hs.keep (fun hh => hh.2 h.qe)⟩
theorem pcJ_out (w0 : World) (N0 bf bp be bl B : Nat) (line : Int) (hB : w0.heap.size ≤ B) (hbl : bl < B) : KeepsOutU 5 B (PcJ w0 N0 bf bp be bl line) := by
 rintro pre q W W' ⟨h1, h2⟩ hs
 exact ⟨pcC_out h1 hs hB hbl, h2⟩
theorem pcX_out (w0 : World) (N0 bf bp be bl B : Nat) (line : Int) (id : Nat) (c : Code) (hB : w0.heap.size ≤ B) (hbl : bl < B) : KeepsOutU 5 B (PcX w0 N0 bf bp be bl line id c) := by
 rintro pre q W W' ⟨h0, pre0, x, e, h1, h2⟩ hs
 exact ⟨h0, pre0, x, e, pcC_out h1 hs hB hbl, h2⟩
theorem pcC_alloc (h : PcC w0 N0 bf bp be bl line q W r) (o : Obj) :
  ∃ q', Rnd q q' W (W.alloc o) ∧ PcC w0 N0 bf bp be bl line q' (W.alloc o) r ∧ q' W.heap.size := by
 refine ⟨fun k => q k ∨ k = W.heap.size, ⟨fun k hk hq => ?_, (Keep.refl _ _).alloc o⟩, ⟨h.kp.alloc o, Nat.le_trans h.sz ((Keep.refl NoB W).alloc o).size, fun k hq => ?_, .inl h.qf, .inl h.qp, .inl h.qe, h.bw.alloc o, h.rf.alloc o, h.rp.alloc o, h.re.alloc o⟩, .inr rfl⟩
 ·rcases hq with hq | hq
  ·exact hq
  ·omega
 ·rw [World.size_alloc]
  rcases hq with hq | hq
  ·have := h.hq k hq; omega
  ·have := h.sz; omega
theorem pcC_put (h : PcC w0 N0 bf bp be bl line q W r) (a b c : Int) (h1 : bf ≠ bp) (h2 : bf ≠ be) (h3 : bp ≠ be) (h4 : bl ≠ bf ∧ bl ≠ bp ∧ bl ≠ be) (hw : w0.heap.size ≤ bf ∧ w0.heap.size ≤ bp ∧ w0.heap.size ≤ be) :
  PcC w0 N0 bf bp be bl line q (((W.setCell ⟨bf, 0, none⟩ (.int .i64 a)).setCell ⟨bp, 0, none⟩ (.int .i64 b)).setCell ⟨be, 0, none⟩ (.int .i64 c)) (a, b, c) ∧
   Keep q W (((W.setCell ⟨bf, 0, none⟩ (.int .i64 a)).setCell ⟨bp, 0, none⟩ (.int .i64 b)).setCell ⟨be, 0, none⟩ (.int .i64 c)) := by
 have hk : Keep (fun k => k = bf ∨ k = bp ∨ k = be) W (((W.setCell ⟨bf, 0, none⟩ (.int .i64 a)).setCell ⟨bp, 0, none⟩ (.int .i64 b)).setCell ⟨be, 0, none⟩ (.int .i64 c)) :=
  (((Keep.refl _ W).setCell (p := ⟨bf, 0, none⟩) (fun _ => .inl rfl) _).setCell (p := ⟨bp, 0, none⟩) (fun _ => .inr (.inl rfl)) _).setCell (p := ⟨be, 0, none⟩) (fun _ => .inr (.inr rfl)) _
 have e1 := ((h.rf.put 0 (.int .i64 a)).far (p := ⟨bp, 0, none⟩) h1 (.int .i64 b)).far (p := ⟨be, 0, none⟩) h2 (.int .i64 c)
 have e2 := ((h.rp.far (p := ⟨bf, 0, none⟩) (Ne.symm h1) (.int .i64 a)).put 0 (.int .i64 b)).far (p := ⟨be, 0, none⟩) h3 (.int .i64 c)
 have e3 := ((h.re.far (p := ⟨bf, 0, none⟩) (Ne.symm h2) (.int .i64 a)).far (p := ⟨bp, 0, none⟩) (Ne.symm h3) (.int .i64 b)).put 0 (.int .i64 c)
 simp only [List.setIfInBounds_toArray, List.set_cons_zero] at e1 e2 e3
 refine ⟨⟨h.kp.trans hk (fun k hk hl => by omega), Nat.le_trans h.sz hk.size, fun k hq => ⟨(h.hq k hq).1, Nat.lt_of_lt_of_le (h.hq k hq).2 hk.size⟩, h.qf, h.qp, h.qe, h.bw.keep hk (by rintro (e | e | e); exact h4.1 e; exact h4.2.1 e; exact h4.2.2 e), e1, e2, e3⟩, hk.mono (fun k hk _ => ?_)⟩
 rcases hk with rfl | rfl | rfl
 ·exact h.qf
 ·exact h.qp
 ·exact h.qe
theorem PcC.drew (h : PcC w0 N0 bf bp be bl line q W r) : PcC w0 N0 bf bp be bl line q W.drew r := ⟨h.kp.drew, h.sz, h.hq, h.qf, h.qp, h.qe, h.bw, h.rf, h.rp, h.re⟩
theorem pcJ_body {pre : List NL} {x : NL} (h : PcJ w0 N0 bf bp be bl line pre q W) (hx : (x.1 : Int) < line) : ∃ q', Rnd q q' W W ∧ PcJ w0 N0 bf bp be bl line (pre ++ [x]) q' W :=
 ⟨q, Rnd.refl _ _, h.1, fun y hy => by rcases List.mem_append.1 hy with hy | hy; exact h.2 y hy; rw [List.mem_singleton.1 hy]; exact hx⟩
theorem pcX_no {pre : List NL} {x : NL} {id : Nat} (h : PcJ w0 N0 bf bp be bl line pre q W) (hx : ¬ (x.1 : Int) < line) (hn : ¬ ((x.1 : Int) = line ∧ x.2.1 = 4)) : ∃ q', Rnd q q' W W ∧ PcX w0 N0 bf bp be bl line id (.exit id) (pre ++ [x]) q' W :=
 ⟨q, Rnd.refl _ _, rfl, pre, x, rfl, by unfold atR; rw [if_neg hn]; exact h.1, hx, h.2⟩
theorem pcX_yes {pre : List NL} {x : NL} {id : Nat} {a b : Int} (h : PcJ w0 N0 bf bp be bl line pre q W) (hx : (x.1 : Int) = line) (h4 : x.2.1 = 4) (ha : ((x.2.2.2.1 : Nat) : Int) = a) (hb : ((x.2.2.2.2 : Nat) : Int) = b) (h1 : bf ≠ bp) (h2 : bf ≠ be) (h3 : bp ≠ be) (h5 : bl ≠ bf ∧ bl ≠ bp ∧ bl ≠ be) (hw : w0.heap.size ≤ bf ∧ w0.heap.size ≤ bp ∧ w0.heap.size ≤ be) :
  ∃ q', Rnd q q' W (((W.setCell ⟨bf, 0, none⟩ (.int .i64 a)).setCell ⟨bp, 0, none⟩ (.int .i64 b)).setCell ⟨be, 0, none⟩ (.int .i64 0)).drew ∧ PcX w0 N0 bf bp be bl line id (.exit id) (pre ++ [x]) q' (((W.setCell ⟨bf, 0, none⟩ (.int .i64 a)).setCell ⟨bp, 0, none⟩ (.int .i64 b)).setCell ⟨be, 0, none⟩ (.int .i64 0)).drew := by
 obtain ⟨e1, e2⟩ := pcC_put h.1 a b 0 h1 h2 h3 h5 hw
 refine ⟨q, ⟨fun _ _ h => h, e2.drew⟩, rfl, pre, x, rfl, ?_, by omega, h.2⟩
 unfold atR
 rw [if_pos ⟨hx, h4⟩, ha, hb]
 exact e1.drew
end

set_option maxRecDepth 100000 in
set_option maxHeartbeats 4000000 in
theorem place_any (v : I.IV) (es : List I.SE) (fs : List I.FE) (line : Int) (w : World) (h : I.ImAt w v es fs) (hl : I.LgI v es fs) :
  Calls Tryz.prog 21 #[v.val, .int .i64 line] w fun e w' => e = .returned (.tuple #[.int .i64 (placeR (cutP (I.imOf es fs)) line).1, .int .i64 (placeR (cutP (I.imOf es fs)) line).2.1, .int .i64 (placeR (cutP (I.imOf es fs)) line).2.2]) ∧ Keep NoB w w' := by
 have HS := Lib.hid (fun W (hk : Keep NoB w W) => named_sh2 v es fs W (h.keepN hk) hl)
 have HLi := Lib.hid (fun s W => linesC_any s W)
 have hcut := cut_im (b := I.okI (I.imOf es fs)) h
 rw [← cut_p]
 have b0 := Blk.new w 25 v.cells
 clear h hl
 generalize cutE (I.okI (I.imOf es fs)) es = es2 at *
 generalize cutF (I.okI (I.imOf es fs)) fs = fs2 at *
 generalize cutV (I.okI (I.imOf es fs)) v = v2 at *
 obtain ⟨X, nx, cx, Y, ny, cy⟩ := v
 dsimp only [I.IV.val, I.IV.cells] at *
 have W4b : ∃ W4, (((((w.alloc (.cells #[.slice X nx cx, .slice Y ny cy] 25)).alloc (.cells #[.int .i64 line] 3)).alloc (.cells #[.int .i64 0] 3)).alloc (.cells #[.int .i64 0] 3)).alloc (.cells #[.int .i64 100] 40)) = W4 ∧ W4.heap.size = w.heap.size + 1 + 1 + 1 + 1 + 1 ∧ Keep NoB w W4 ∧
   Blk W4 w.heap.size 25 #[.slice X nx cx, .slice Y ny cy] ∧ Blk W4 (w.heap.size + 1) 3 #[.int .i64 line] ∧ Blk W4 (w.heap.size + 1 + 1) 3 #[.int .i64 0] ∧ Blk W4 (w.heap.size + 1 + 1 + 1) 3 #[.int .i64 0] ∧ Blk W4 (w.heap.size + 1 + 1 + 1 + 1) 40 #[.int .i64 100] := by
  refine ⟨_, rfl, by simp [World.size_alloc], (((((Keep.refl NoB w).alloc _).alloc _).alloc _).alloc _).alloc _, (((b0.alloc _).alloc _).alloc _).alloc _, ?_, ?_, ?_, ?_⟩
  ·have := (((Blk.new (w.alloc (.cells #[.slice X nx cx, .slice Y ny cy] 25)) 3 #[.int .i64 line]).alloc (.cells #[.int .i64 0] 3)).alloc (.cells #[.int .i64 0] 3)).alloc (.cells #[.int .i64 100] 40)
   simpa [World.size_alloc] using this
  ·have := ((Blk.new ((w.alloc (.cells #[.slice X nx cx, .slice Y ny cy] 25)).alloc (.cells #[.int .i64 line] 3)) 3 #[.int .i64 0]).alloc (.cells #[.int .i64 0] 3)).alloc (.cells #[.int .i64 100] 40)
   simpa [World.size_alloc] using this
  ·have := (Blk.new (((w.alloc (.cells #[.slice X nx cx, .slice Y ny cy] 25)).alloc (.cells #[.int .i64 line] 3)).alloc (.cells #[.int .i64 0] 3)) 3 #[.int .i64 0]).alloc (.cells #[.int .i64 100] 40)
   simpa [World.size_alloc] using this
  ·have := Blk.new ((((w.alloc (.cells #[.slice X nx cx, .slice Y ny cy] 25)).alloc (.cells #[.int .i64 line] 3)).alloc (.cells #[.int .i64 0] 3)).alloc (.cells #[.int .i64 0] 3)) 40 #[.int .i64 100]
   simpa [World.size_alloc] using this
 obtain ⟨W4, hW4, hz4, hk4, q0, q1, q2, q3, q4⟩ := W4b
 have HS4 := Lib.hid (HS.out _ hk4)
 have c0 := q0.cell 0
 have c1 := q0.cell 1
 simp only [List.getElem?_toArray, List.getElem?_cons_zero, List.getElem?_cons_succ] at c0 c1
 clear b0 HS
 refine (callsIn_wide (n := 4)).1 ?_
 refine callsIn_of_wp_marks Tryz.func21 rfl trivial ?_ rfl
 simp only [Tryz.ntmps21, List.size_toArray, List.length_cons, List.length_nil, Nat.reduceAdd, Nat.reduceSub, Array.replicate_succ, Array.replicate_zero, List.push_toArray, List.append_toArray, List.nil_append, List.cons_append]
 gi_wp2
 refine wpIn_scope_wide ?_
 gi_wp2
 refine wpIn_label ?_
 gi_wp2_with fail
 refine ⟨trivial, (callsIn_wide.2 HS4.out).mono ?_⟩
 rintro e W5 ⟨s, rfl, hs, hsv, hsm, k5⟩
 gi_wp2_with fail
 refine ⟨trivial, (callsIn_wide.2 (HLi.out s W5)).mono ?_⟩
 rintro e W6 ⟨rfl, hw6⟩
 gi_wp2_with fail
 have hz6 : W6.heap.size = W5.heap.size + 1 := by rw [hw6]; simp
 have k6 : Keep NoB W5 W6 := by rw [hw6]; exact (Keep.refl _ _).alloc _
 have hbx : Blk W6 W5.heap.size 72 s.cells := by rw [hw6]; exact Blk.new _ _ _
 rw [← hw6]
 have k46 : Keep NoB W4 W6 := keepN k5 k6
 have hz5 : W4.heap.size ≤ W5.heap.size := k5.size
 have hkw : Keep NoB w W6 := keepN hk4 k46
 have q1' : Blk W6 (w.heap.size + 1) 3 #[.int .i64 line] := q1.keep k46 id
 have q2' : Blk W6 (w.heap.size + 1 + 1) 3 #[.int .i64 0] := q2.keep k46 id
 have q3' : Blk W6 (w.heap.size + 1 + 1 + 1) 3 #[.int .i64 0] := q3.keep k46 id
 have q4' : Blk W6 (w.heap.size + 1 + 1 + 1 + 1) 40 #[.int .i64 100] := q4.keep k46 id
 have hlab : LabAt s.m (labK2 0 (I.imOf es2 fs2)) W6 := hs.lab.keep k6 (fun _ _ h => h)
 obtain ⟨hes, hfs, hbd, hsq⟩ := hs.small
 have hel : labK2 0 (I.imOf es2 fs2) = labB (I.imOf es2 fs2) := if_pos rfl
 have hIt : Hid (∀ W, HR2 w W4.heap.size W6.heap.size W5.heap.size s (labK2 0 (I.imOf es2 fs2)) W → ShIt W W5.heap.size s es2 fs2 (labK2 0 (I.imOf es2 fs2))) := fun W hr => hr2_it (by rw [hsv]; exact hcut) W hr
 have hst := Lib.hid (lines_stops 2 3 W5.heap.size s es2 fs2 (labK2 0 (I.imOf es2 fs2)) hes hfs hbd (by omega) _ hIt)
 have hH0 : HR2 w W4.heap.size W6.heap.size W5.heap.size s (labK2 0 (I.imOf es2 fs2)) W6 := ⟨hkw.mono (fun _ hf _ => hf.elim), hbx, hlab, fun b e => ⟨(hsm b e).1, by have := (hsm b e).2; omega⟩⟩
 rw [hel] at hst hH0
 have hi0 : PcJ w W6.heap.size (w.heap.size + 1 + 1) (w.heap.size + 1 + 1 + 1) (w.heap.size + 1 + 1 + 1 + 1) (w.heap.size + 1) line [] (fun k => k = w.heap.size + 1 + 1 ∨ k = w.heap.size + 1 + 1 + 1 ∨ k = w.heap.size + 1 + 1 + 1 + 1) W6 :=
  ⟨⟨hkw, Nat.le_refl _, fun k hk => by rcases hk with rfl | rfl | rfl <;> omega, .inl rfl, .inr (.inl rfl), .inr (.inr rfl), q1', q2', q3', q4'⟩, fun x hx => by simp at hx⟩
 have hp0 : ∀ k, (k = w.heap.size + 1 + 1 ∨ k = w.heap.size + 1 + 1 + 1 ∨ k = w.heap.size + 1 + 1 + 1 + 1) → k < W6.heap.size := fun k hk => by omega
 have hHs := hr2_keep (w := w) (m0 := W4.heap.size) (N0 := W6.heap.size) (bs := W5.heap.size) (s := s) (lab := labB (I.imOf es2 fs2)) (p0 := fun k => k = w.heap.size + 1 + 1 ∨ k = w.heap.size + 1 + 1 + 1 ∨ k = w.heap.size + 1 + 1 + 1 + 1) (fun k hk => by omega) (by omega) hz5 (by omega)
 have hN : Hid (W6.heap.size = W5.heap.size + 1 ∧ W4.heap.size ≤ W5.heap.size ∧ W4.heap.size = w.heap.size + 1 + 1 + 1 + 1 + 1) := ⟨hz6, hz5, hz4⟩
 clear q0 q1 q2 q3 q4 q1' q2' q3' q4' hs hsv hsm k5 k6 hlab hIt hbx hes hfs hbd c0 c1 HLi HS4 hcut hw6 hW4 k46 hk4 hkw
 refine wpIn_rangeFunc_U (U := 5) (m := 2) (gf := 93) (lb := #[.pointer (some ⟨W5.heap.size, 0, none⟩)]) rfl (enters_of Tryz.func93 rfl rfl)
  hst.out (fun _ => rfl) (PcJ w W6.heap.size (w.heap.size + 1 + 1) (w.heap.size + 1 + 1 + 1) (w.heap.size + 1 + 1 + 1 + 1) (w.heap.size + 1) line) (fun c => PcX w W6.heap.size (w.heap.size + 1 + 1) (w.heap.size + 1 + 1 + 1) (w.heap.size + 1 + 1 + 1 + 1) (w.heap.size + 1) line 0 c) (pcJ_out w _ _ _ _ _ _ _ (by omega) (by omega)) (fun pre q W h k hk => (h.1.hq k hk).2) (fun c => pcX_out w _ _ _ _ _ _ _ _ c (by omega) (by omega)) hi0 hp0 hH0 hHs
  (fun pre x q a' W => ∃ Bx, PcJ w W6.heap.size (w.heap.size + 1 + 1) (w.heap.size + 1 + 1 + 1) (w.heap.size + 1 + 1 + 1 + 1) (w.heap.size + 1) line pre q W ∧ q Bx ∧ Blk W Bx 84 (lnC x.2) ∧ a' = { tmps := #[.agg #[.slice X nx cx, .slice Y ny cy], .int .i64 line, .pointer (some ⟨w.heap.size, 0, none⟩), .pointer (some ⟨w.heap.size + 1, 0, none⟩), .pointer (some ⟨w.heap.size + 1 + 1, 0, none⟩), .pointer (some ⟨w.heap.size + 1 + 1 + 1, 0, none⟩), .pointer (some ⟨w.heap.size + 1 + 1 + 1 + 1, 0, none⟩), .int .i64 (x.1 : Int), .pointer (some ⟨Bx, 0, none⟩), .agg #[.slice X nx cx, .slice Y ny cy], s.val, .func (.func 93) #[] #[.pointer (some ⟨W5.heap.size, 0, none⟩)], .int .i64 (x.1 : Int), .agg (lnC x.2), undef, undef, undef, undef, undef, undef, undef, undef, undef, undef, undef, undef, undef, undef, undef, undef, undef, undef, undef, undef, undef, undef], defers := [] }) ?hax ?assign ?body ?done ?stop
 case hax =>
  rintro pre x a' u q W W' ⟨Bx, g1, g2, g3, g4⟩ hs
  exact ⟨Bx, pcJ_out w _ _ _ _ _ _ _ (by omega) (by omega) _ _ _ _ g1 hs, g2, g3.keep hs.keep (fun h => h.2 g2), g4⟩
 case assign =>
  rintro l pre x q W hi hen
  have hB := Lib.hid (Blk.new W 84 (lnC x.2))
  obtain ⟨q', e1, e2, e3⟩ := pcC_alloc hi.1 (.cells (lnC x.2) 84)
  have hE : Hid (Rnd q q' W (W.alloc (.cells (lnC x.2) 84)) ∧ PcJ w W6.heap.size (w.heap.size + 1 + 1) (w.heap.size + 1 + 1 + 1) (w.heap.size + 1 + 1 + 1 + 1) (w.heap.size + 1) line pre q' (W.alloc (.cells (lnC x.2) 84)) ∧ q' W.heap.size) := ⟨e1, ⟨e2, hi.2⟩, e3⟩
  clear e1 e2 e3 hi
  obtain ⟨n, ⟨a0, a1, a2, a3⟩⟩ := x
  dsimp only [encQ, lnC] at *
  gi_wp2
  exact ⟨q', hE.out.1, _, hE.out.2.1, hE.out.2.2, hB.out, rfl⟩
 case body =>
  rintro l pre x q a' W hen ⟨Bx, g1, g2, g3, rfl⟩
  obtain ⟨d0, d1, d2, d3⟩ := And.intro (g3.cell 0) (And.intro (g3.cell 1) (And.intro (g3.cell 2) (g3.cell 3)))
  have f0 := g1.1.bw.cell 0
  have h1 := g1.1.rf.cell 0
  have h2 := g1.1.rp.cell 0
  have h3 := g1.1.re.cell 0
  have z1 := g1.1.rf.frozen 0
  have z2 := g1.1.rp.frozen 0
  have z3 := g1.1.re.frozen 0
  obtain ⟨n, ⟨a0, a1, a2, a3⟩⟩ := x
  dsimp only [lnC] at *
  simp only [List.getElem?_toArray, List.getElem?_cons_zero, List.getElem?_cons_succ] at d0 d1 d2 d3 f0 h1 h2 h3
  have G1 := Lib.hid g1
  have G2 := Lib.hid g2
  have G3 := Lib.hid g3
  clear g1 g2 g3 hst hi0 hp0 hH0 hHs hen
  gi_wp2_with fail
  ·exact pcJ_body (x := (n, a0, a1, a2, a3)) G1.out (by simpa using ‹_›)
  ·gi_region
   gi_wp2
   all_goals exact pcX_yes (x := (n, a0, a1, a2, a3)) G1.out ‹(n : Int) = line› (by have := ‹((a0 : Int) == 4) = true›; rw [beq_iff_eq] at this; show a0 = 4; omega) rfl rfl (by omega) (by omega) (by omega) ⟨by omega, by omega, by omega⟩ ⟨by omega, by omega, by omega⟩
  ·exact pcX_no (x := (n, a0, a1, a2, a3)) G1.out (Int.not_lt.2 ‹_›) (fun hh => by have := ‹((a0 : Int) == 4) = false›; rw [beq_eq_false_iff_ne] at this; have h5 : a0 = 4 := hh.2; omega)
  ·exact pcX_no (x := (n, a0, a1, a2, a3)) G1.out (Int.not_lt.2 ‹_›) (fun hh => ‹¬ (n : Int) = line› hh.1)
 case done =>
  rintro D xs q W hD hpD rfl g1 hK
  have HF := Lib.hid (place_done g1.2)
  have hr := g1.1
  generalize hR : ((0 : Int), (0 : Int), (100 : Int)) = R at hr HF
  clear g1
  clear hR hi0 hp0 hH0 hHs hst
  obtain ⟨r1, r2, r3⟩ := R
  have hkw := hr.kp
  have f1 := hr.rf.cell 0
  have f2 := hr.rp.cell 0
  have f3 := hr.re.cell 0
  have z1 := hr.rf.frozen 0
  have z2 := hr.rp.frozen 0
  have z3 := hr.re.frozen 0
  simp only [List.getElem?_toArray, List.getElem?_cons_zero] at f1 f2 f3
  have HR := Lib.hid hr
  clear hr
  rename_i Q2 K2 aK
  refine aK _ _ ?_
  gi_wp2
  gi_region
  gi_wp2
  obtain ⟨e1, e2⟩ := pcC_put HR.out r1 r2 r3 (by omega) (by omega) (by omega) ⟨by omega, by omega, by omega⟩ ⟨by omega, by omega, by omega⟩
  have hK2 := (Below.heap_setCell _ ⟨w.heap.size + 1 + 1 + 1 + 1, 0, none⟩ (.int .i64 r3) D (by simp; omega)).trans ((Below.heap_setCell _ ⟨w.heap.size + 1 + 1 + 1, 0, none⟩ (.int .i64 r2) D (by simp; omega)).trans ((Below.heap_setCell W ⟨w.heap.size + 1 + 1, 0, none⟩ (.int .i64 r1) D (by simp; omega)).trans hK))
  have e3 := e1.drew
  dsimp only [Exit.noGoto]
  refine ⟨by simp, .inl ⟨_, _, rfl, run_takeDeferred hK2, ?_⟩⟩
  have o1 := fun o => (e3.rf.grown (grownBy_putObj' _ D o) (by simp; omega)).cell 0
  have o2 := fun o => (e3.rp.grown (grownBy_putObj' _ D o) (by simp; omega)).cell 0
  have o3 := fun o => (e3.re.grown (grownBy_putObj' _ D o) (by simp; omega)).cell 0
  simp only [List.getElem?_toArray, List.getElem?_cons_zero] at o1 o2 o3
  refine ⟨.tuple #[.int .i64 r1, .int .i64 r2, .int .i64 r3], by simp [results, Tryz.results21, go_sem, o1, o2, o3], ?_⟩
  refine ⟨by rw [HF.out], npPut e3.kp (by omega)⟩
 case stop =>
  rintro D c pre q W hD hpD ⟨post, hpost⟩ ⟨rfl, pre0, x, rfl, g1, hx, hy⟩ hK
  have HF := Lib.hid (place_stop (p := I.imOf es2 fs2) ⟨post, by rw [hpost]; simp⟩ hy hx)
  have hr := g1
  generalize hR : atR line x = R at hr HF
  clear g1 hx hy hpost
  clear hR hi0 hp0 hH0 hHs hst
  obtain ⟨r1, r2, r3⟩ := R
  have hkw := hr.kp
  have f1 := hr.rf.cell 0
  have f2 := hr.rp.cell 0
  have f3 := hr.re.cell 0
  have z1 := hr.rf.frozen 0
  have z2 := hr.rp.frozen 0
  have z3 := hr.re.frozen 0
  simp only [List.getElem?_toArray, List.getElem?_cons_zero] at f1 f2 f3
  have HR := Lib.hid hr
  clear hr
  rename_i Q2 K2 aK
  gi_wp2
  gi_region
  gi_wp2
  obtain ⟨e1, e2⟩ := pcC_put HR.out r1 r2 r3 (by omega) (by omega) (by omega) ⟨by omega, by omega, by omega⟩ ⟨by omega, by omega, by omega⟩
  have hK2 := (Below.heap_setCell _ ⟨w.heap.size + 1 + 1 + 1 + 1, 0, none⟩ (.int .i64 r3) D (by simp; omega)).trans ((Below.heap_setCell _ ⟨w.heap.size + 1 + 1 + 1, 0, none⟩ (.int .i64 r2) D (by simp; omega)).trans ((Below.heap_setCell W ⟨w.heap.size + 1 + 1, 0, none⟩ (.int .i64 r1) D (by simp; omega)).trans hK))
  have e3 := e1.drew
  dsimp only [Exit.noGoto]
  refine ⟨by simp, .inl ⟨_, _, rfl, run_takeDeferred hK2, ?_⟩⟩
  have o1 := fun o => (e3.rf.grown (grownBy_putObj' _ D o) (by simp; omega)).cell 0
  have o2 := fun o => (e3.rp.grown (grownBy_putObj' _ D o) (by simp; omega)).cell 0
  have o3 := fun o => (e3.re.grown (grownBy_putObj' _ D o) (by simp; omega)).cell 0
  simp only [List.getElem?_toArray, List.getElem?_cons_zero] at o1 o2 o3
  refine ⟨.tuple #[.int .i64 r1, .int .i64 r2, .int .i64 r3], by simp [results, Tryz.results21, go_sem, o1, o2, o3], ?_⟩
  refine ⟨by rw [HF.out], npPut e3.kp (by omega)⟩

end Go.Proofs.YtgnooffedmeenaaGreatDoor.M.L

namespace Go.Proofs.YtgnooffedmeenaaGreatDoor.M.L
open Go.RowKit W

theorem imOk_of {w : World} {v : I.IV} {es : List I.SE} {fs : List I.FE} (h : I.ImAt w v es fs) (hok : I.okI (I.imOf es fs) = true) : ImOk (I.imOf es fs) := ⟨hok, fun f hf => by obtain ⟨e, he, rfl⟩ := List.mem_map.1 hf; exact (h.hf e he).hI⟩
end Go.Proofs.YtgnooffedmeenaaGreatDoor.M.L

namespace Go.Proofs.YtgnooffedmeenaaGreatDoor.M.L
open Go.RowKit W

def cntF (fs : List I.FE) : Nat := (fs.map fun e => e.2.bd.length).sum
theorem cntF_succ (fs : List I.FE) (j : Nat) (h : j < fs.length) : cntF (fs.take (j + 1)) = cntF (fs.take j) + fs[j].2.bd.length := by
 unfold cntF
 rw [List.take_succ_eq_append_getElem h, List.map_append, List.sum_append]
 simp
theorem cntF_le (fs : List I.FE) (h : ∀ e ∈ fs, e.2.bd.length ≤ 600) : ∀ j, cntF (fs.take j) ≤ 600 * fs.length := by
 intro j
 have key : ∀ l : List I.FE, (∀ e ∈ l, e.2.bd.length ≤ 600) → cntF l ≤ 600 * l.length := by
  intro l hl
  induction l with
  | nil => exact Nat.le_refl _
  | cons a l ih =>
   have h1 := hl a (by simp)
   have h2 := ih (fun e he => hl e (by simp [he]))
   unfold cntF at *
   rw [List.map_cons, List.sum_cons, List.length_cons]
   omega
 have h1 := key (fs.take j) (fun e he => h e (List.mem_of_mem_take he))
 have h2 := List.length_take_le' j fs
 omega

set_option maxRecDepth 100000 in
set_option maxHeartbeats 4000000 in
theorem count_any (v : I.IV) (es : List I.SE) (fs : List I.FE) (w : World) (h : I.ImAt w v es fs) (hs : I.SmI es fs) :
  Calls Tryz.prog 10 #[v.val] w fun e w' => e = .returned (.int .i64 (cntF fs : Nat)) ∧ Keep NoB w w' := by
 have bx := Blk.new w 25 v.cells
 have k0 := (Keep.refl NoB w).alloc (.cells v.cells 25)
 have HR := Lib.hid (h.keepN k0).ry
 have hly : Hid (fs.length = v.ny) := h.ly
 have h70 : v.ny ≤ 70 := by rw [← hly.out]; exact hs.nf
 have HD : Hid (∀ e ∈ fs, e.2.bd.length = e.1.nd) := fun e he => (h.hf e he).ld
 have HB : Hid (∀ j, cntF (fs.take j) ≤ 42000) := fun j => by
  have h1 := cntF_le fs (fun e he => by rw [HD.out e he]; exact (hs.fn e he).nd) j
  have h2 := hs.nf
  omega
 have HX := Lib.hid bx
 obtain ⟨T, hT⟩ : ∃ T, cntF fs = T := ⟨_, rfl⟩
 rw [hT]
 have HT := Lib.hid hT
 clear h hs bx hT
 obtain ⟨X, nx, cx, Y, ny, cy⟩ := v
 dsimp only [I.IV.val, I.IV.cells] at *
 obtain ⟨c0, c1⟩ := And.intro (HX.out.cell 0) (HX.out.cell 1)
 simp only [List.getElem?_toArray, List.getElem?_cons_zero, List.getElem?_cons_succ] at c0 c1
 go_enter Tryz.func10, Tryz.ntmps10
 go_wp2_with fail
 go_loopw [3, 8] (fun s i wr => ∃ j : Nat, j ≤ ny ∧ i = .int .i64 j ∧ s = .int .i64 (cntF (fs.take j) : Nat) ∧ Keep NoB (w.alloc (.cells #[.slice X nx cx, .slice Y ny cy] 25)) wr) (fun _ i _ => ny - (intOf i).toNat)
 case atStart => exact ⟨0, Nat.zero_le _, rfl, rfl, Keep.refl _ _⟩
 case round =>
  obtain ⟨j, hj, rfl, rfl, hK⟩ := hrel
  replace c0 := hK.cell c0 id
  replace c1 := hK.cell c1 id
  by_cases hlt : j < ny
  ·have hjl : j < fs.length := by rw [hly.out]; exact hlt
   obtain ⟨g, off, rfl, _, _, _, _, s4⟩ := I.fun_at HR.out hjl
   replace s4 := hK.cell s4 id
   have hsu := Lib.hid (cntF_succ fs j hjl)
   have hb := HB.out (j + 1)
   have hd := HD.out _ (List.getElem_mem hjl)
   rw [hsu.out, hd] at hb
   have HE : Hid (cntF (fs.take (j + 1)) = cntF (fs.take j) + fs[j].1.nd) := by show _ = _; rw [hsu.out, hd]
   clear hsu hd
   generalize fs[j].1.D = D at *
   generalize fs[j].1.nd = nd at *
   generalize fs[j].1.cd = cd at *
   obtain ⟨m, hm⟩ : ∃ m, cntF (fs.take j) = m := ⟨_, rfl⟩
   rw [hm] at hb HE ⊢
   clear hm
   go_wp2
   go_roundw
   case rel => exact ⟨j + 1, by omega, by go_num, by rw [HE.out]; go_num, hK⟩
   case measure => simp [intOf]; omega
  ·have e : cntF (fs.take j) = T := by rw [List.take_of_length_le (by rw [hly.out]; omega)]; exact HT.out
   rw [e]
   clear e
   go_wp2
   go_ret
   exact ⟨rfl, keepN k0 hK⟩

end Go.Proofs.YtgnooffedmeenaaGreatDoor.M.L

namespace Go.Proofs.YtgnooffedmeenaaGreatDoor
open Go.RowKit
section
variable {P : Program} {md : Region.Mode} {ops : Array Oper}

def propsD6 (md : Region.Mode) (ops : Array Oper) (ds : Nat → Nat) (c : Nat) : Bool := (List.range ops.size).all fun i => match ops[i]? with
 | none => false
 | some o => (match o.dst with
  | none => i == c
  | some d => d == ds i) && ((o.after.all fun e => !Region.binds md e || decide (e.on < i)) && (List.range ops.size).all fun j => i == j || !(ds i == ds j))
theorem propsD6_at {ds : Nat → Nat} {c : Nat} (h : propsD6 md ops ds c = true) {i : Nat} {o : Oper} (ho : ops[i]? = some o) : (o.dst = some (ds i) ∨ (o.dst = none ∧ i = c)) ∧ (∀ e ∈ o.after, Region.binds md e = true → e.on < i) ∧ ∀ j, j < ops.size → j ≠ i → ds j ≠ ds i := by
 have hi := (Array.getElem?_eq_some_iff.1 ho).1
 have h1 := List.all_eq_true.1 h i (List.mem_range.2 hi)
 simp only [ho, Bool.and_eq_true] at h1
 obtain ⟨h1, h3, h4⟩ := h1
 refine ⟨?_, fun e he hb => ?_, fun j hj hne e => ?_⟩
 ·cases hd : o.dst with
  | none => rw [hd] at h1; exact .inr ⟨rfl, by simpa using h1⟩
  | some d => rw [hd] at h1; exact .inl (by simpa using h1)
 ·have := Array.all_eq_true_iff_forall_mem.1 h3 e he
  simpa [hb] using this
 ·have h5 := List.all_eq_true.1 h4 j (List.mem_range.2 hj)
  rw [e] at h5
  simp at h5
  exact hne h5.symm
theorem no_readyD6 {ds : Nat → Nat} {c : Nat} (hB : propsD6 md ops ds c = true) {listed : Array Bool} (hs : listed.size = ops.size) (hr : Region.ready md ops listed = []) : ∀ i, i < ops.size → listed.getD i true = true := by
 intro i
 induction i using Nat.strongRecOn with
 | ind i ih =>
  intro hi
  cases hl : listed.getD i true
  ·have ho : ops[i]? = some ops[i] := Array.getElem?_eq_getElem hi
   have : i ∈ Region.ready md ops listed := mem_ready.2 ⟨hl, ops[i], ho, fun e he hb => by
    have he2 := (propsD6_at hB ho).2.1 e he hb
    have h1 := ih e.on he2 (by omega)
    have h2 : e.on < listed.size := by omega
    simpa [h2] using h1⟩
   rw [hr] at this; cases this
  ·rfl
theorem wpAny_props6 {Q : Exit → Act → World → Prop} (ds : Nat → Nat) (c : Nat) (O : Nat → Prop) (late : Nat → Bool) (hB : propsD6 md ops ds c = true) (hLt : lateG md ops c late = true) (S : Nat → Value → World → Prop) (w0 : World) (a0 : Act) (hS1 : ∀ i v w w', i ≠ c → late i = false → Keep O w0 w → S i v w → Keep O w w' → S i v w') (hS2 : ∀ i v w w', Keep O w0 w → S i v w → Keep NoB w w' → S i v w') (hsz : fitsD ops ds a0.tmps.size = true)
  (hstep : ∀ i o (a : Act) (w : World), ops[i]? = some o → i ≠ c → FrameD a0 ds ops.size a → Keep O w0 w → (∀ e ∈ o.after, Region.binds md e = true → S e.on (a.tmps.getD (ds e.on) undef) w) → Does P ops o a w fun u w' => S i u w' ∧ Keep NoB w w')
  (hspec : ∀ o (a : Act) (w : World), ops[c]? = some o → FrameD a0 ds ops.size a → Keep NoB w0 w → (∀ e ∈ o.after, Region.binds md e = true → S e.on (a.tmps.getD (ds e.on) undef) w) → Does P ops o a w fun u w' => (∀ v, (o.dst.isSome = true → v = u) → S c v w') ∧ Keep O w w')
  (hend : ∀ (a : Act) (w : World), FrameD a0 ds ops.size a → Keep O w0 w → (∀ i, i < ops.size → S i (a.tmps.getD (ds i) undef) w) → Q .normal a w) :
  ∀ (fuel : Nat) (listed : Array Bool) (a : Act) (w : World), listed.size = ops.size → (∃ L : List Nat, L.length ≤ fuel ∧ ∀ i, i < ops.size → listed.getD i true = false → i ∈ L) → FrameD a0 ds ops.size a → Keep O w0 w → (listed.getD c true = false → Keep NoB w0 w) → (∀ i, i < ops.size → late i = true → listed.getD i true = true → listed.getD c true = true) →
   (∀ i, i < ops.size → listed.getD i true = true → S i (a.tmps.getD (ds i) undef) w) → wpAny P md ops Q fuel listed a w := by
 have hNO : ∀ {X Y : World}, Keep NoB X Y → Keep O X Y := fun h => h.mono (fun _ hf _ => hf.elim)
 intro fuel
 induction fuel with
 | zero =>
  intro listed a w hs ⟨L, hL, hin⟩ hF hK hC hLa hA
  obtain rfl : L = [] := List.length_eq_zero_iff.1 (by omega)
  have hall : ∀ i, i < ops.size → listed.getD i true = true := fun i hi => by
   cases h : listed.getD i true
   ·cases hin i hi h
   ·rfl
  refine ⟨?_, hend a w hF hK fun i hi => hA i hi (hall i hi)⟩
  rw [List.eq_nil_iff_forall_not_mem]
  intro i hi
  obtain ⟨h1, o, ho, _⟩ := mem_ready.1 hi
  rw [hall i (Array.getElem?_eq_some_iff.1 ho).1] at h1; cases h1
 | succ fuel ih =>
  intro listed a w hs ⟨L, hL, hin⟩ hF hK hC hLa hA
  refine ⟨fun h0 => hend a w hF hK fun i hi => hA i hi (no_readyD6 hB hs h0 i hi), fun i hi => ?_⟩
  obtain ⟨h1, o, ho, hall⟩ := mem_ready.1 hi
  have hi' := (Array.getElem?_eq_some_iff.1 ho).1
  obtain ⟨hd, hlt, hdis⟩ := propsD6_at hB ho
  have hdeps : ∀ e ∈ o.after, Region.binds md e = true → S e.on (a.tmps.getD (ds e.on) undef) w := fun e he hb => by
   have h2 := hall e he hb
   have h3 := hlt e he hb
   refine hA e.on (by omega) ?_
   have h4 : e.on < listed.size := by omega
   simpa [h4] using h2
  have hKO : (if i = c then Keep NoB w0 w else True) := by
   split
   ·rename_i e; subst e; exact hC h1
   ·trivial
  have hdoes : Does P ops o a w fun u w' => (∀ v, (o.dst.isSome = true → v = u) → S i v w') ∧ Keep O w w' ∧ (i ≠ c → Keep NoB w w') := by
   by_cases e : i = c
   ·subst e
    rw [if_pos rfl] at hKO
    rcases hspec o a w ho hF hKO hdeps with ⟨hw, hy⟩ | ⟨hw, h2, h3⟩
    ·refine .inl ⟨hw, ?_⟩
     unfold yieldsK at hy ⊢
     exact yieldsR_mono (fun u w' ⟨h2, h3⟩ => ⟨h2, h3, fun h => absurd rfl h⟩) _ _ hy
    ·exact .inr ⟨hw, h2, h3, fun h => absurd rfl h⟩
   ·have hsome : o.dst.isSome = true := by
     rcases hd with h | ⟨_, h⟩
     ·rw [h]; rfl
     ·exact absurd h e
    rcases hstep i o a w ho e hF hK hdeps with ⟨hw, hy⟩ | ⟨hw, h2, h3⟩
    ·refine .inl ⟨hw, ?_⟩
     unfold yieldsK at hy ⊢
     exact yieldsR_mono (fun u w' ⟨h2, h3⟩ => ⟨fun v hv => by rw [hv hsome]; exact h2, hNO h3, fun _ => h3⟩) _ _ hy
    ·exact .inr ⟨hw, fun v hv => by rw [hv hsome]; exact h2, hNO h3, fun _ => h3⟩
  have hnext : ∀ u w', (∀ v, (o.dst.isSome = true → v = u) → S i v w') → Keep O w w' → (i ≠ c → Keep NoB w w') → wpAny P md ops Q fuel (listed.setIfInBounds i true) (a.put o.dst u) w' := by
   intro u w' hSu hk hkn
   have hfr : FrameD a0 ds ops.size (a.put o.dst u) ∧ (∀ k, k < ops.size → k ≠ i → (a.put o.dst u).tmps.getD (ds k) undef = a.tmps.getD (ds k) undef) ∧ (o.dst.isSome = true → (a.put o.dst u).tmps.getD (ds i) undef = u) := by
    rcases hd with hd | ⟨hd, _⟩
    ·rw [hd]
     have hds : ds i < a.tmps.size := by rw [hF.2.1]; exact fitsD_at hsz ho hd
     have hget : ∀ s, (a.put (some (ds i)) u).tmps.getD s undef = if s = ds i then u else a.tmps.getD s undef := fun s => by
      unfold Act.put
      by_cases e : s = ds i
      ·subst e; simp [hds]
      ·rw [if_neg e]
       simp only [Array.getD_eq_getD_getElem?, Array.getElem?_setIfInBounds]
       rw [if_neg (fun h => e h.symm)]
     refine ⟨⟨hF.1, by unfold Act.put; simpa using hF.2.1, fun s hs' => ?_⟩, fun k hk' hki => ?_, fun _ => ?_⟩
     ·rw [hget, if_neg (hs' i hi')]; exact hF.2.2 s hs'
     ·rw [hget, if_neg (hdis k hk' hki)]
     ·rw [hget, if_pos rfl]
    ·rw [hd]
     exact ⟨hF, fun _ _ _ => rfl, fun h => by cases h⟩
   obtain ⟨hF', hother, hself⟩ := hfr
   refine ih (listed.setIfInBounds i true) _ w' (by simpa using hs) ⟨L.erase i, ?_, fun k hk' hl => ?_⟩ hF' (hK.trans hk (fun _ h _ => h)) (fun hl => ?_) (fun k hk' hlk hl => ?_) fun k hk' hl => ?_
   ·rw [List.length_erase_of_mem (hin i hi' h1)]; omega
   ·have hki : k ≠ i := by
     rintro rfl
     have : k < listed.size := by omega
     simp [this] at hl
    have hl2 : listed.getD k true = false := by rw [getD_set_ne true (Ne.symm hki)] at hl; exact hl
    exact (List.mem_erase_of_ne hki).2 (hin k hk' hl2)
   ·have hci : c ≠ i := by
     rintro rfl
     have : c < listed.size := by omega
     simp [this] at hl
    rw [getD_set_ne true (Ne.symm hci)] at hl
    exact keepN (hC hl) (hkn (Ne.symm hci))
   ·have hcl : ∀ n, listed.getD n true = true → (listed.setIfInBounds i true).getD n true = true := fun n hn => by
     by_cases e : i = n
     ·subst e
      have h5 : i < listed.size := by omega
      simp [h5]
     ·rw [getD_set_ne true e]; exact hn
    by_cases e : k = i
    ·subst e
     by_cases ec : k = c
     ·rw [← ec]; exact hl
     ·obtain ⟨x, hx, hb, h6⟩ := lateG_at hLt ho hlk ec
      have h7 := hall x hx hb
      have h8 := hlt x hx hb
      have h9 : x.on < listed.size := by omega
      have h10 : listed.getD x.on true = true := by simpa [h9] using h7
      refine hcl c ?_
      rcases h6 with h6 | h6
      ·rw [← h6]; exact h10
      ·exact hLa x.on (by omega) h6 h10
    ·rw [getD_set_ne true (Ne.symm e)] at hl
     exact hcl c (hLa k hk' hlk hl)
   ·by_cases e : k = i
    ·subst e
     exact hSu _ hself
    ·rw [hother k hk' e]
     rw [getD_set_ne true (Ne.symm e)] at hl
     by_cases ec : i = c
     ·subst ec
      by_cases hlk : late k = true
      ·have := hLa k hk' hlk hl
       rw [h1] at this; cases this
      ·exact hS1 k _ _ _ e (by simpa using hlk) hK (hA k hk' hl) hk
     ·exact hS2 k _ _ _ hK (hA k hk' hl) (hkn ec)
  unfold wpOp
  simp only [ho]
  rcases hdoes with ⟨hw, hy⟩ | ⟨hw, h2, h3, h4⟩
  ·rw [if_pos hw]
   exact .inl (Oper.wp_of_yields hy fun u w' ⟨h2, h3, h4⟩ => hnext u w' h2 h3 h4)
  ·rw [if_neg (by rw [hw]; decide)]
   exact hnext undef w h2 h3 h4
theorem wp_region_props6 {id : Nat} {Q : Exit → Act → World → Prop} {a0 : Act} {w : World} (ds : Nat → Nat) (c : Nat) (O : Nat → Prop) (late : Nat → Bool) (hm : P.follows .mixedOrders = true) (hB : propsD6 .any ops ds c = true) (hLt : lateG .any ops c late = true) (S : Nat → Value → World → Prop) (hS1 : ∀ i v w1 w', i ≠ c → late i = false → Keep O w w1 → S i v w1 → Keep O w1 w' → S i v w') (hS2 : ∀ i v w1 w', Keep O w w1 → S i v w1 → Keep NoB w1 w' → S i v w') (hsz : fitsD ops ds a0.tmps.size = true)
  (hstep : ∀ i o (a : Act) (w' : World), ops[i]? = some o → i ≠ c → FrameD a0 ds ops.size a → Keep O w w' → (∀ e ∈ o.after, Region.binds .any e = true → S e.on (a.tmps.getD (ds e.on) undef) w') → Does P ops o a w' fun u w'' => S i u w'' ∧ Keep NoB w' w'')
  (hspec : ∀ o (a : Act) (w' : World), ops[c]? = some o → FrameD a0 ds ops.size a → Keep NoB w w' → (∀ e ∈ o.after, Region.binds .any e = true → S e.on (a.tmps.getD (ds e.on) undef) w') → Does P ops o a w' fun u w'' => (∀ v, (o.dst.isSome = true → v = u) → S c v w'') ∧ Keep O w' w'')
  (hend : ∀ (a : Act) (w' : World), FrameD a0 ds ops.size a → Keep O w w' → (∀ i, i < ops.size → S i (a.tmps.getD (ds i) undef) w') → Q .normal a w') : (Code.region id ops true).wp P Q a0 w :=
 wp_region_any hm (wpAny_props6 ds c O late hB hLt S w a0 hS1 hS2 hsz hstep hspec hend _ _ a0 w.drew (by simp) ⟨List.range ops.size, by simp, fun i hi _ => List.mem_range.2 hi⟩ ⟨rfl, rfl, fun _ _ => rfl⟩ (Keep.refl O w).drew (fun _ => (Keep.refl NoB w).drew) (fun i hi _ hl => by simp [hi] at hl) fun i hi hl => by
  simp [hi] at hl)
end
end Go.Proofs.YtgnooffedmeenaaGreatDoor

namespace Go.Proofs.YtgnooffedmeenaaGreatDoor
open Go.RowKit
section
variable {P : Program} {md : Region.Mode} {ops : Array Oper}

end
end Go.Proofs.YtgnooffedmeenaaGreatDoor

namespace Go.Proofs.YtgnooffedmeenaaGreatDoor
open Go.RowKit
section
variable {P : Program} {md : Region.Mode} {ops : Array Oper}

end
end Go.Proofs.YtgnooffedmeenaaGreatDoor

namespace Go.Proofs.YtgnooffedmeenaaGreatDoor
open Go.RowKit

end Go.Proofs.YtgnooffedmeenaaGreatDoor

namespace Go.Proofs.YtgnooffedmeenaaGreatDoor.F
open Go.RowKit W

end Go.Proofs.YtgnooffedmeenaaGreatDoor.F

namespace Go.Proofs.YtgnooffedmeenaaGreatDoor.I
open Go.RowKit Go.Shelf W
attribute [local go_sem] Oper.semAt_some

theorem own_other {W W' : World} {O P : Nat → Prop} {E sz n : Nat} {v : Value} {xs : List Value} (h : Own W E sz P v n xs) (hk : Keep O W W') (hO : ∀ k, O k → ∀ cs f, W.heap[k]? ≠ some (.cells cs E f)) : Own W' E sz P v n xs := by
 refine ⟨⟨h.1.1, ?_⟩, h.2⟩
 rcases h.1.2 with h2 | ⟨g, cap, cur, rfl, hb, hh, r⟩
 ·exact .inl h2
 ·exact .inr ⟨g, cap, cur, rfl, hb, (hk.block g (Array.getElem?_eq_some_iff.1 hh).1 (fun ho => hO g ho _ _ hh)).trans hh, r⟩
end Go.Proofs.YtgnooffedmeenaaGreatDoor.I

namespace Go.Proofs.YtgnooffedmeenaaGreatDoor.I
open Go.RowKit W

theorem fun_info : (Tryz.prog.info? 37).map (fun i => (i.zero, i.size, i.bytes)) = some (some (.agg F.nilV.cells), 5, 112) := by kernel_rfl
theorem own_blk {W : World} {g E sz n : Nat} {P : Nat → Prop} {xs : List Value} (h : Blk W g E xs.toArray) (hl : xs.length = n * sz) (hm : n ≤ maxLen) (hP : P g) : Own W E sz P (.slice (some ⟨g, 0, none⟩) n n) n xs :=
 ⟨⟨hl, .inr ⟨g, n, xs.toArray, rfl, Nat.zero_le _, h, Nat.le_refl _, hm, by simpa using hl, by rw [← hl]; simp⟩⟩, fun k e => by cases e; exact hP⟩
def OwnS (W : World) (P : Nat → Prop) (e : SE) : Prop := Own W 3 1 P (.slice e.1.A e.1.n e.1.c) e.1.n (ivs e.2)
theorem OwnS.mono {W : World} {P P' : Nat → Prop} {e : SE} (h : OwnS W P e) (hP : ∀ k, P k → k < W.heap.size → P' k) : OwnS W P' e := by
 unfold OwnS at *
 exact h.mono hP
def OwnF (W : World) (P : Nat → Prop) (e : FE) : Prop := F.OwnF W P e.1 e.2
theorem OwnF.mono {W : World} {P P' : Nat → Prop} {e : FE} (h : OwnF W P e) (hP : ∀ k, P k → k < W.heap.size → P' k) : OwnF W P' e := by
 unfold OwnF at *
 exact h.mono hP
end Go.Proofs.YtgnooffedmeenaaGreatDoor.I

namespace Go.Proofs.YtgnooffedmeenaaGreatDoor.I
open Go.RowKit W

theorem img_size : (Tryz.prog.info? 25).map (·.size) = some 2 := by kernel_rfl
theorem ret_img {fn : Func} {p : Tmp} {tmps : Array Value} {w : World} {g : Nat} {v : IV} (h : fn.results = #[.cell p 25]) (hp : tmps.getD p undef = .pointer (some ⟨g, 0, none⟩)) (hb : Blk w g 25 v.cells) :
  (results fn tmps).run Tryz.prog w = .ok v.val w :=
 results_cell_row h tmps w g 25 v.cells (0, 0) _ hp hb Tryz.underlying25 rfl img_size
end Go.Proofs.YtgnooffedmeenaaGreatDoor.I

namespace Go.Proofs.YtgnooffedmeenaaGreatDoor.F
open Go.RowKit W

end Go.Proofs.YtgnooffedmeenaaGreatDoor.F

namespace Go.Proofs.YtgnooffedmeenaaGreatDoor.F
open Go.RowKit W

end Go.Proofs.YtgnooffedmeenaaGreatDoor.F

namespace Go.Proofs.YtgnooffedmeenaaGreatDoor.I
open Go.RowKit W

theorem ownF_other {W W' : World} {O P : Nat → Prop} {v : F.FV} {f : F.Fu} (h : F.OwnF W P v f) (hk : Keep O W W') (h1 : ∀ k, O k → ∀ cs f, W.heap[k]? ≠ some (.cells cs 3 f)) (h2 : ∀ k, O k → ∀ cs f, W.heap[k]? ≠ some (.cells cs 55 f)) : F.OwnF W' P v f :=
 ⟨h.nm, own_other h.oa hk h1, own_other h.ob hk h1, own_other h.ol hk h1, own_other h.od hk h2, h.hI⟩
theorem rd_blkN {w : World} {g : Nat} {t : TypeId} {cs : Array Value} (h : Blk w g t cs) : Rd w (some ⟨g, 0, none⟩) cs.toList := fun _ => ⟨g, 0, rfl, fun j u hu => by
 rw [Nat.zero_add, h.cell j]; simpa using hu⟩

end Go.Proofs.YtgnooffedmeenaaGreatDoor.I

namespace Go.Proofs.YtgnooffedmeenaaGreatDoor.I
open Go.RowKit W

end Go.Proofs.YtgnooffedmeenaaGreatDoor.I

namespace Go.Proofs.YtgnooffedmeenaaGreatDoor.I
open Go.RowKit W

end Go.Proofs.YtgnooffedmeenaaGreatDoor.I

namespace Go.Proofs.YtgnooffedmeenaaGreatDoor.O
open Go.RowKit

end Go.Proofs.YtgnooffedmeenaaGreatDoor.O

namespace Go.Proofs.YtgnooffedmeenaaGreatDoor.C
open Go.RowKit O

end Go.Proofs.YtgnooffedmeenaaGreatDoor.C

namespace Go.Proofs.YtgnooffedmeenaaGreatDoor.C
open Go.RowKit O

end Go.Proofs.YtgnooffedmeenaaGreatDoor.C

namespace Go.Proofs.YtgnooffedmeenaaGreatDoor.F
open Go.RowKit W

end Go.Proofs.YtgnooffedmeenaaGreatDoor.F

namespace Go.Proofs.YtgnooffedmeenaaGreatDoor.F
open Go.RowKit W

end Go.Proofs.YtgnooffedmeenaaGreatDoor.F

namespace Go.Proofs.YtgnooffedmeenaaGreatDoor.F
open Go.RowKit W

end Go.Proofs.YtgnooffedmeenaaGreatDoor.F

namespace Go.Proofs.YtgnooffedmeenaaGreatDoor.F
open Go.RowKit W

end Go.Proofs.YtgnooffedmeenaaGreatDoor.F

namespace Go.Proofs.YtgnooffedmeenaaGreatDoor.I
open Go.RowKit W

end Go.Proofs.YtgnooffedmeenaaGreatDoor.I

namespace Go.Proofs.YtgnooffedmeenaaGreatDoor.I
open Go.RowKit W

end Go.Proofs.YtgnooffedmeenaaGreatDoor.I

namespace Go.Proofs.YtgnooffedmeenaaGreatDoor
open Go.RowKit
section
variable {P : Program} {md : Region.Mode} {ops : Array Oper}
end
end Go.Proofs.YtgnooffedmeenaaGreatDoor

namespace Go.Proofs.YtgnooffedmeenaaGreatDoor.I
open Go.RowKit W

end Go.Proofs.YtgnooffedmeenaaGreatDoor.I

namespace Go.Proofs.YtgnooffedmeenaaGreatDoor.O
open Go.ChangeShapes Go.WideShapes Go.ChangeAt Go.RowKit

theorem seatOwn : ownKnob Tryz.prog.godebug = none := by kernel_rfl
theorem seatLaidOut : laidOutB Tryz.prog = true := by kernel_rfl
theorem i64_of_wf {n : Int} (h : (Lit.int .i64 n).wf = true) : I64 n := by
 have hmin : IntKind.i64.min = -9223372036854775808 := rfl
 have hmax : IntKind.i64.max = 9223372036854775807 := rfl
 simp only [Lit.wf, Bool.and_eq_true, decide_eq_true_eq] at h
 unfold I64; omega
theorem tLet : (Tryz.prog.globals[1]?).map (·.type) = some 251 := by kernel_rfl
theorem tPow : (Tryz.prog.globals[4]?).map (·.type) = some 352 := by kernel_rfl
theorem tSyn : (Tryz.prog.globals[9]?).map (·.type) = some 128 := by kernel_rfl
theorem tRng : (Tryz.prog.globals[10]?).map (·.type) = some 128 := by kernel_rfl
theorem tBin : (Tryz.prog.globals[5]?).map (·.type) = some 356 := by kernel_rfl
theorem tUn : (Tryz.prog.globals[6]?).map (·.type) = some 358 := by kernel_rfl
theorem errStar : "*" ++ "errors.errorString" = "*errors.errorString" := by decide
theorem errRow (u : TypeId) (h : Tryz.prog.typeName? 3 u = some "*errors.errorString") : u = 400 :=
 typeName_ptr_named (nm := "errors.errorString") (by rw [errStar]; kernel_rfl) (by kernel_rfl) (by decide) u (by rw [errStar]; exact h)

set_option maxRecDepth 100000 in
theorem laidO_of {W0 : World} {x y : String × DataW Unit}
  (h : laidMet Tryz.prog [("backstay/alu.binNames", Rows.laid_backstay_alu_binNames), ("backstay/alu.unNames", Rows.laid_backstay_alu_unNames), x, y, ("internal/strconv.uint64pow10", Rows.laid_internal_strconv_uint64pow10), ("strconv.ErrRange", Rows.laid_strconv_ErrRange), ("strconv.ErrSyntax", Rows.laid_strconv_ErrSyntax), ("backstay/value.letters", Rows.laid_backstay_value_letters)] W0) : LaidO W0 := by
 have h4 := h.tail.tail.tail.tail
 have h5 := h4.tail
 have h6 := h5.tail
 refine ⟨Lib.tabIs_of_head (zs := [0, 73, 82, 70, 80]) (k := .i32) _root_.Go.Proofs.YtgnooffedmeenaaGreatDoor.W.gLet tLet Tryz.underlying251 Tryz.underlying21 (by kernel_rfl) (by kernel_rfl) h6.tail,
  ⟨A.strs_of_head (l := A.binNs) A.gBin tBin Tryz.underlying356 Tryz.underlying9 (by kernel_rfl) (by kernel_rfl) h,
  A.strs_of_head (l := A.unNs) A.gUn tUn Tryz.underlying358 Tryz.underlying9 (by kernel_rfl) (by kernel_rfl) h.tail⟩,
  Lib.tabIs_of_head (zs := Lib.pow10Tab) (k := .u64) _root_.Go.Proofs.YtgnooffedmeenaaGreatDoor.W.gPow tPow Tryz.underlying352 Tryz.underlying194 (by kernel_rfl) (by kernel_rfl) h4, ?_, ?_⟩
 ·obtain ⟨a, s, hv, _⟩ := laid_sentinel h6 _root_.Go.Proofs.YtgnooffedmeenaaGreatDoor.W.gSyn tSyn Tryz.underlying128 errRow Tryz.underlying400 Tryz.underlying402 rfl rfl Tryz.underlying9 (by kernel_rfl) (by kernel_rfl)
  exact ⟨_, _, hv⟩
 ·obtain ⟨a, s, hv, _⟩ := laid_sentinel h5 _root_.Go.Proofs.YtgnooffedmeenaaGreatDoor.W.gRng tRng Tryz.underlying128 errRow Tryz.underlying400 Tryz.underlying402 rfl rfl Tryz.underlying9 (by kernel_rfl) (by kernel_rfl)
  exact ⟨_, _, hv⟩

section
variable {H : Type} {enc : TypeId × Value → H} {w : World} {base b0 : Nat} {spare : Nat → Bool} {held : Bool} {r : Reach} {v : Value} {d : DataW H} {p : List MemPlace}
end

end Go.Proofs.YtgnooffedmeenaaGreatDoor.O

namespace Go.Proofs.YtgnooffedmeenaaGreatDoor.C
open Go.ChangeShapes Go.WideShapes Go.ChangeAt Go.RowKit Go.Deep O

theorem addr_of_cell {w : World} {a : Addr} {v : Value} (h : w.cell? a = some v) : a = ⟨a.block, a.off, none⟩ := by
 obtain ⟨b, o, s⟩ := a
 cases s with
 | none => rfl
 | some s => unfold World.cell? at h; split at h <;> simp at h
theorem add_of (b o k : Nat) : (⟨b, o, none⟩ : Addr).add k = ⟨b, o + k, none⟩ := by unfold Addr.add; by_cases hk : k = 0 <;> simp [hk]

section
variable {H : Type} {enc : TypeId × Value → H} {W : World} {base : Nat} {spare : Nat → Bool} {held : Bool} {fuel : Nat} {cs : List Value} {x : DataW H × List MemPlace}
set_option maxRecDepth 100000 in
theorem read_insts (h : DataW.trod enc Tryz.prog W base spare held fuel 35 cs = some x) : ∃ A l c, cs = [.slice A l.length c] ∧ Rd W A (iis l) ∧ l.length ≤ c ∧ c ≤ maxLen ∧ AllI l := by
 rcases open_slice Tryz.underlying35 h with ⟨hcs, _⟩ | ⟨a, len, cap, m, n, D, Pl, hcs, _, hl, hm, hmm, _, hi⟩
 ·exact ⟨none, [], 0, hcs, Rd.none_ _ _, Nat.le_refl _, Nat.zero_le _, fun _ h => by simp at h⟩
 ·have hlm : len ≤ m := by rw [hmm]; split <;> omega
  have cI : Tryz.prog.cellsOf 55 = 3 := by kernel_rfl
  have c3 : Tryz.prog.cellsOf 3 = 1 := by kernel_rfl
  have c2 : Tryz.prog.cellsOf 2 = 1 := by kernel_rfl
  have each : ∀ i : Nat, ∃ v : I3, i < len → W.cell? (a.add (i * 3)) = some (.int .i64 v.1) ∧ W.cell? ((a.add (i * 3)).add 1) = some (.int .i64 v.2.1) ∧ W.cell? ((a.add (i * 3)).add 2) = some (.int .i64 v.2.2) ∧ O.I64 v.2.1 ∧ O.I64 v.2.2 := by
   intro i
   by_cases hlt : i < len
   ·obtain ⟨cs', hc, ht'⟩ := hi i (by omega)
    rw [cI] at hc
    obtain ⟨y0, y1, y2, k, _, hlen, h0, h1, h2⟩ := trod_struct3 Tryz.underlying55 ht'
    obtain ⟨_, hcl, hat⟩ := World.cells?_some hc
    match cs', hcl with
    | [u0, u1, u2], _ =>
     have g0 := hat 0 (by omega)
     have g1 := hat 1 (by omega)
     have g2 := hat 2 (by omega)
     obtain ⟨z0, e0, _, w0⟩ := DataW.trod_int Tryz.underlying3 h0
     obtain ⟨z1, e1, _, w1⟩ := DataW.trod_int Tryz.underlying2 h1
     obtain ⟨z2, e2, _, w2⟩ := DataW.trod_int Tryz.underlying2 h2
     simp [c3] at e0
     simp [c2] at e1
     simp [c2] at e2
     subst e0 e1 e2
     exact ⟨(z0, z1, z2), fun _ => ⟨by simpa [Addr.add] using g0, by simpa using g1, by simpa using g2, i64_of_wf w1, i64_of_wf w2⟩⟩
   ·exact ⟨(0, 0, 0), fun h => absurd h hlt⟩
  obtain ⟨f, hf⟩ := Classical.axiomOfChoice each
  have hlen : ((List.range len).map f).length = len := by simp
  refine ⟨some a, (List.range len).map f, cap, by rw [hlen]; exact hcs, fun h0 => ?_, by rw [hlen]; exact hl, hm, fun v hv => ?_⟩
  ·have h0' : 0 < len := by rw [iis_length, hlen] at h0; omega
   have ea := addr_of_cell (hf 0 h0').1
   have ea' : a = ⟨a.block, a.off, none⟩ := by simpa [Addr.add] using ea
   refine ⟨a.block, a.off, by rw [← ea'], fun j u hu => ?_⟩
   have hj : j < len * 3 := by have := (List.getElem?_eq_some_iff.1 hu).1; rw [iis_length, hlen] at this; exact this
   have hd : j / 3 < len := by omega
   obtain ⟨k0, k1, k2, _⟩ := hf (j / 3) hd
   obtain ⟨q0, q1, q2⟩ := iis_at ((List.range len).map f) (j / 3) (by rw [hlen]; exact hd)
   rw [ea', add_of] at k0 k1 k2
   rw [add_of] at k1 k2
   simp only [List.getElem_map, List.getElem_range] at q0 q1 q2
   have hm3 : j % 3 = 0 ∨ j % 3 = 1 ∨ j % 3 = 2 := by omega
   rcases hm3 with hr | hr | hr
   ·have ej : j = j / 3 * 3 := by omega
    rw [ej, q0] at hu
    rw [ej, k0]; exact hu
   ·have ej : j = j / 3 * 3 + 1 := by omega
    rw [ej, q1] at hu
    rw [ej, ← Nat.add_assoc, k1]; exact hu
   ·have ej : j = j / 3 * 3 + 2 := by omega
    rw [ej, q2] at hu
    rw [ej, ← Nat.add_assoc, k2]; exact hu
  ·obtain ⟨i, hi', rfl⟩ := List.mem_map.1 hv
   exact ⟨(hf i (List.mem_range.1 hi')).2.2.2.1, (hf i (List.mem_range.1 hi')).2.2.2.2⟩
end
section
variable {H : Type} {enc : TypeId × Value → H} {w : World} {base b0 : Nat} {spare : Nat → Bool} {held : Bool} {r : Reach} {v : Value} {d : DataW H} {p : List MemPlace}
end

end Go.Proofs.YtgnooffedmeenaaGreatDoor.C

namespace Go.Proofs.YtgnooffedmeenaaGreatDoor.I
open Go.RowKit W

end Go.Proofs.YtgnooffedmeenaaGreatDoor.I

namespace Go.Proofs.YtgnooffedmeenaaGreatDoor.F
open Go.RowKit W

end Go.Proofs.YtgnooffedmeenaaGreatDoor.F

namespace Go.Proofs.YtgnooffedmeenaaGreatDoor.I
open Go.RowKit W

end Go.Proofs.YtgnooffedmeenaaGreatDoor.I

namespace Go.Proofs.YtgnooffedmeenaaGreatDoor.I
open Go.RowKit W

end Go.Proofs.YtgnooffedmeenaaGreatDoor.I

namespace Go.Proofs.YtgnooffedmeenaaGreatDoor.I
open Go.RowKit W

theorem made_own {w : World} {E size n b : Nat} {cs : Array Value} {xs : List Value} {P : Nat → Prop} (hb : b = w.heap.size) (hs : cs.size = n * size) (hm : n ≤ maxLen) (hx : xs = cs.toList) (hP : P b) : Own (w.alloc (.cells cs E)) E size P (.slice (some ⟨b, 0, none⟩) n n) n xs := by
 subst hb hx
 exact own_blk (Blk.new w E cs) (by simpa using hs) hm hP
end Go.Proofs.YtgnooffedmeenaaGreatDoor.I

namespace Go.Proofs.YtgnooffedmeenaaGreatDoor.I
open Go.RowKit W

end Go.Proofs.YtgnooffedmeenaaGreatDoor.I

namespace Go.Proofs.YtgnooffedmeenaaGreatDoor.I
open Go.RowKit W

end Go.Proofs.YtgnooffedmeenaaGreatDoor.I

namespace Go.Proofs.YtgnooffedmeenaaGreatDoor.I
open Go.RowKit W

end Go.Proofs.YtgnooffedmeenaaGreatDoor.I

namespace Go.Proofs.YtgnooffedmeenaaGreatDoor.I
open Go.RowKit W

end Go.Proofs.YtgnooffedmeenaaGreatDoor.I

namespace Go.Proofs.YtgnooffedmeenaaGreatDoor.M.L
open Go.RowKit W

end Go.Proofs.YtgnooffedmeenaaGreatDoor.M.L
