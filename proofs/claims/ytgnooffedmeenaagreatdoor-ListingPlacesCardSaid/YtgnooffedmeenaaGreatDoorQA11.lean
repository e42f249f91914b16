/-
  Layer listing: what List, Plain and Numbered answer. Conditions: the image lies in memory; what texts are made with stands.
  Layer listing: what Targets answers; lines as values, compared. Conditions: the function lies in memory.
  What the document's Named answers. Conditions: the name's length fits an int64.
  The document's Types and Check of layer function. Conditions: the function's lists lie in memory, and are no longer than statements go through.
  The iterator of the places that an instruction makes heads. Conditions: the instruction, and its place, lie in memory.
  What headsMet of layer code answers: a map in which each place has as often as it is noted. Conditions: the list lies in memory, and is a body.
  What Heads of layer code answers: a body's heads, rising. Conditions: the list lies in memory.
  What Stretch of layer code answers: where a stretch begins, and the place behind its last one. Conditions: the list lies in memory.
  What the document's Head, Heads and Stretch of layer code answer. Conditions: the list lies in memory; numbers fit an int64.
  Layer listing: what the document's Targets answer. Conditions: the function lies in memory; no greater than statements go through.
  The document's digits. Conditions: the number fits an int64.
  Layer listing: what the document's label answers. Conditions: the list lies in memory.
  The document's letters, bins and uns. No conditions.
  The document's word. Conditions: the operand is one of its kind, and fits an int64.
  What the document's Show answers. Conditions: the operands fit an int64.
-/
import Derived.IntWalk
import Derived.Test.YtgnooffedmeenaaGreatDoorQA10
import Derived.Test.YtgnooffedmeenaaGreatDoorQA7
import Derived.Test.YtgnooffedmeenaaGreatDoorQA6
import Derived.Test.YtgnooffedmeenaaGreatDoorQA5
import Derived.Test.YtgnooffedmeenaaGreatDoorQA4
import Derived.Test.YtgnooffedmeenaaGreatDoorQA8
import Derived.Test.YtgnooffedmeenaaGreatDoorShelf
import Derived.Test.YtgnooffedmeenaaGreatDoorQA3
import Derived.Test.YtgnooffedmeenaaGreatDoorQA9
namespace Go.Proofs.YtgnooffedmeenaaGreatDoor.M.L
open Go.RowKit W

/-- A listing: nothing, unless the image may be. -/
def textL (kind : Nat) (p : I.Im) : Bs := if I.okI p = true then textR kind p else []
def cutP (p : I.Im) : I.Im := if I.okI p = true then p else I.nilI
theorem cut_p (es : List I.SE) (fs : List I.FE) : I.imOf (cutE (I.okI (I.imOf es fs)) es) (cutF (I.okI (I.imOf es fs)) fs) = cutP (I.imOf es fs) := by
  unfold cutP
  cases I.okI (I.imOf es fs) <;> rfl
theorem textL_cut (kind : Nat) (p : I.Im) : textR kind (cutP p) = textL kind p := by
  unfold cutP textL
  split
  · rfl
  · unfold textR allR; rfl
theorem cut_lg {b : Bool} {v : I.IV} {es : List I.SE} {fs : List I.FE} (h : I.LgI v es fs) : I.LgI (cutV b v) (cutE b es) (cutF b fs) := by
  cases b
  · exact ⟨Nat.zero_le _, Nat.zero_le _, (fun _ he => nomatch he), (fun _ he => nomatch he)⟩
  · exact h
theorem cut_ok2 {w : World} {v : I.IV} {es : List I.SE} {fs : List I.FE} (h : I.ImAt w v es fs) : ImOk (I.imOf (cutE (I.okI (I.imOf es fs)) es) (cutF (I.okI (I.imOf es fs)) fs)) ∨ (cutE (I.okI (I.imOf es fs)) es = [] ∧ cutF (I.okI (I.imOf es fs)) fs = []) := by
  cases hok : I.okI (I.imOf es fs)
  · exact .inr ⟨rfl, rfl⟩
  · refine .inl ⟨hok, fun f hf => ?_⟩
    obtain ⟨e, he, rfl⟩ := List.mem_map.1 hf
    exact (h.hf e he).hI
/-- The named sheet, as it is handed out. -/
theorem named_sh (v : I.IV) (es : List I.SE) (fs : List I.FE) (w : World) (h : I.ImAt w v es fs) (hl : I.LgI v es fs) :
    Calls Tryz.prog 39 #[v.val] w fun e w' => ∃ s : SH, e = .returned s.val ∧ ShOk w' 0 s (cutE (I.okI (I.imOf es fs)) es) (cutF (I.okI (I.imOf es fs)) fs) ∧ Keep NoB w w' := by
  refine (named_any v es fs w h hl).mono ?_
  rintro e w' ⟨b, n, b1, b2, rfl, hn, _, hk⟩
  exact ⟨_, rfl, ⟨(cut_im h).keepN hk, cut_lg hl, cut_ok2 h, .inl ⟨rfl, b, n, b1, b2, rfl, hn⟩⟩, hk⟩
theorem plain_sh (v : I.IV) (es : List I.SE) (fs : List I.FE) (w : World) (h : I.ImAt w v es fs) (hl : I.LgI v es fs) :
    Calls Tryz.prog 42 #[v.val] w fun e w' => ∃ s : SH, e = .returned s.val ∧ ShOk w' 1 s (cutE (I.okI (I.imOf es fs)) es) (cutF (I.okI (I.imOf es fs)) fs) ∧ Keep NoB w w' := by
  refine (plain_any v es fs w h hl).mono ?_
  rintro e w' ⟨rfl, hk⟩
  exact ⟨_, rfl, ⟨(cut_im h).keepN hk, cut_lg hl, cut_ok2 h, .inr (.inl ⟨rfl, rfl⟩)⟩, hk⟩
theorem numb_sh (v : I.IV) (es : List I.SE) (fs : List I.FE) (w : World) (h : I.ImAt w v es fs) (hl : I.LgI v es fs) :
    Calls Tryz.prog 43 #[v.val] w fun e w' => ∃ s : SH, e = .returned s.val ∧ ShOk w' 2 s (cutE (I.okI (I.imOf es fs)) es) (cutF (I.okI (I.imOf es fs)) fs) ∧ Keep NoB w w' := by
  refine (numbered_any v es fs w h hl).mono ?_
  rintro e w' ⟨rfl, hk⟩
  exact ⟨_, rfl, ⟨(cut_im h).keepN hk, cut_lg hl, cut_ok2 h, .inr (.inr ⟨rfl, rfl⟩)⟩, hk⟩
theorem sheet_text (kind : Nat) (s : SH) (es : List I.SE) (fs : List I.FE) (w : World) (h : ShOk w kind s (cutE (I.okI (I.imOf es fs)) es) (cutF (I.okI (I.imOf es fs)) fs)) (hL : O.LaidO w) :
    Calls Tryz.prog 40 #[s.val] w fun e w' => e = .returned (.string (str (textL kind (I.imOf es fs)))) ∧ Keep NoB w w' := by
  have h1 := text_any kind s _ _ w h hL
  rw [cut_p, textL_cut] at h1
  exact h1

set_option maxHeartbeats 1000000 in
theorem listApi_any (v : I.IV) (es : List I.SE) (fs : List I.FE) (w : World) (h : I.ImAt w v es fs) (hl : I.LgI v es fs) (hL : O.LaidO w) :
    Calls Tryz.prog 12 #[v.val] w fun e w' => e = .returned (.string (str (textL 0 (I.imOf es fs)))) ∧ Keep NoB w w' := by
  have bx := Blk.new w 25 v.cells
  have k0 := (Keep.refl NoB w).alloc (.cells v.cells 25)
  have HS := Lib.hid (fun W (hk : Keep NoB w W) => named_sh v es fs W (h.keepN hk) hl)
  have HT := Lib.hid (fun (s : SH) W (hs : ShOk W 0 s (cutE (I.okI (I.imOf es fs)) es) (cutF (I.okI (I.imOf es fs)) fs)) (hk : Keep NoB w W) => sheet_text 0 s es fs W hs (hL.keep hk))
  clear h hl hL
  obtain ⟨X, nx, cx, Y, ny, cy⟩ := v
  dsimp only [I.IV.val, I.IV.cells] at *
  obtain ⟨c0, c1⟩ := And.intro (bx.cell 0) (bx.cell 1)
  simp only [List.getElem?_toArray, List.getElem?_cons_zero, List.getElem?_cons_succ] at c0 c1
  generalize str (textL 0 (I.imOf es fs)) = T at *
  go_enter Tryz.func12, Tryz.ntmps12
  go_wp2_with fail
  refine (HS.out _ k0).mono ?_
  rintro e w1 ⟨s, rfl, hs, k1⟩
  have HT2 := Lib.hid (HT.out s w1 hs (keepN k0 k1))
  clear HT HS hs bx c0 c1
  generalize s.val = sv at *
  go_wp2_with fail
  refine HT2.out.mono ?_
  rintro e w2 ⟨rfl, k2⟩
  go_wp2
  go_ret
  exact ⟨rfl, keepN (keepN k0 k1) k2⟩

set_option maxHeartbeats 1000000 in
theorem plainApi_any (v : I.IV) (es : List I.SE) (fs : List I.FE) (w : World) (h : I.ImAt w v es fs) (hl : I.LgI v es fs) (hL : O.LaidO w) :
    Calls Tryz.prog 14 #[v.val] w fun e w' => e = .returned (.string (str (textL 1 (I.imOf es fs)))) ∧ Keep NoB w w' := by
  have bx := Blk.new w 25 v.cells
  have k0 := (Keep.refl NoB w).alloc (.cells v.cells 25)
  have HS := Lib.hid (fun W (hk : Keep NoB w W) => plain_sh v es fs W (h.keepN hk) hl)
  have HT := Lib.hid (fun (s : SH) W (hs : ShOk W 1 s (cutE (I.okI (I.imOf es fs)) es) (cutF (I.okI (I.imOf es fs)) fs)) (hk : Keep NoB w W) => sheet_text 1 s es fs W hs (hL.keep hk))
  clear h hl hL
  obtain ⟨X, nx, cx, Y, ny, cy⟩ := v
  dsimp only [I.IV.val, I.IV.cells] at *
  obtain ⟨c0, c1⟩ := And.intro (bx.cell 0) (bx.cell 1)
  simp only [List.getElem?_toArray, List.getElem?_cons_zero, List.getElem?_cons_succ] at c0 c1
  generalize str (textL 1 (I.imOf es fs)) = T at *
  go_enter Tryz.func14, Tryz.ntmps14
  go_wp2_with fail
  refine (HS.out _ k0).mono ?_
  rintro e w1 ⟨s, rfl, hs, k1⟩
  have HT2 := Lib.hid (HT.out s w1 hs (keepN k0 k1))
  clear HT HS hs bx c0 c1
  generalize s.val = sv at *
  go_wp2_with fail
  refine HT2.out.mono ?_
  rintro e w2 ⟨rfl, k2⟩
  go_wp2
  go_ret
  exact ⟨rfl, keepN (keepN k0 k1) k2⟩

set_option maxHeartbeats 1000000 in
theorem numberedApi_any (v : I.IV) (es : List I.SE) (fs : List I.FE) (w : World) (h : I.ImAt w v es fs) (hl : I.LgI v es fs) (hL : O.LaidO w) :
    Calls Tryz.prog 15 #[v.val] w fun e w' => e = .returned (.string (str (textL 2 (I.imOf es fs)))) ∧ Keep NoB w w' := by
  have bx := Blk.new w 25 v.cells
  have k0 := (Keep.refl NoB w).alloc (.cells v.cells 25)
  have HS := Lib.hid (fun W (hk : Keep NoB w W) => numb_sh v es fs W (h.keepN hk) hl)
  have HT := Lib.hid (fun (s : SH) W (hs : ShOk W 2 s (cutE (I.okI (I.imOf es fs)) es) (cutF (I.okI (I.imOf es fs)) fs)) (hk : Keep NoB w W) => sheet_text 2 s es fs W hs (hL.keep hk))
  clear h hl hL
  obtain ⟨X, nx, cx, Y, ny, cy⟩ := v
  dsimp only [I.IV.val, I.IV.cells] at *
  obtain ⟨c0, c1⟩ := And.intro (bx.cell 0) (bx.cell 1)
  simp only [List.getElem?_toArray, List.getElem?_cons_zero, List.getElem?_cons_succ] at c0 c1
  generalize str (textL 2 (I.imOf es fs)) = T at *
  go_enter Tryz.func15, Tryz.ntmps15
  go_wp2_with fail
  refine (HS.out _ k0).mono ?_
  rintro e w1 ⟨s, rfl, hs, k1⟩
  have HT2 := Lib.hid (HT.out s w1 hs (keepN k0 k1))
  clear HT HS hs bx c0 c1
  generalize s.val = sv at *
  go_wp2_with fail
  refine HT2.out.mono ?_
  rintro e w2 ⟨rfl, k2⟩
  go_wp2
  go_ret
  exact ⟨rfl, keepN (keepN k0 k1) k2⟩

end Go.Proofs.YtgnooffedmeenaaGreatDoor.M.L

namespace Go.Proofs.YtgnooffedmeenaaGreatDoor.M.L
open Go.RowKit W

/-- A function's targets: nothing, unless it may be. -/
def tgF (f : F.Fu) : List Int := if F.okF f = true then (tgs f.bd).map (fun i => ((i : Nat) : Int)) else []
set_option maxHeartbeats 1000000 in
theorem targetsApi_any (v : F.FV) (f : F.Fu) (w : World) (h : F.FnAt w v f) (hl : F.LgF v) :
    Calls Tryz.prog 23 #[v.val] w fun e w' => ∃ B d, e = .returned (.slice B (tgF f).length d) ∧ Own w' 3 1 (Fresh w) (.slice B (tgF f).length d) (tgF f).length (ivs (tgF f)) ∧ Keep NoB w w' := by
  have bx := Blk.new w 37 v.cells
  have k0 := (Keep.refl NoB w).alloc (.cells v.cells 37)
  have HC := Lib.hid (fun W (hk : Keep NoB w W) => F.checkL_any v f W (h.keepN hk) hl (F.chkF f) rfl)
  cases hok : F.okF f
  · have e1 : tgF f = [] := by unfold tgF; rw [hok]; rfl
    rw [F.chkF_no hok] at HC
    rw [e1]
    clear h hl hok e1
    obtain ⟨S, A, na, ca, B, nb, cb, Lc, nl, cl, D, nd, cd⟩ := v
    dsimp only [F.FV.val, F.FV.cells] at *
    obtain ⟨c0, c1, c2, c3, c4⟩ := And.intro (bx.cell 0) (And.intro (bx.cell 1) (And.intro (bx.cell 2) (And.intro (bx.cell 3) (bx.cell 4))))
    simp only [List.getElem?_toArray, List.getElem?_cons_zero, List.getElem?_cons_succ] at c0 c1 c2 c3 c4
    go_enter Tryz.func23, Tryz.ntmps23
    go_wp2_with fail
    refine (HC.out _ k0).mono ?_
    rintro e w1 ⟨rfl, k1⟩
    go_wp2
    go_ret
    exact ⟨none, 0, rfl, Own.nil _ _ _ _, keepN k0 k1⟩
  · have e1 : tgF f = tgI f.bd := by unfold tgF; rw [if_pos hok, tgI_eq (ok_body hok).2.2.2]
    rw [F.chkF_ok hok] at HC
    rw [e1]
    have hld := h.ld
    have hb5 := (ok_body hok).2.2.1
    have HT := Lib.hid (fun W (hk : Keep NoB w W) => targets_any v.D f.bd v.nd v.cd W (h.keepN hk).rd (Lib.hid hld) (by omega))
    clear h hl hld hb5 hok e1
    generalize tgI f.bd = T at *
    obtain ⟨S, A, na, ca, B, nb, cb, Lc, nl, cl, D, nd, cd⟩ := v
    dsimp only [F.FV.val, F.FV.cells] at *
    obtain ⟨c0, c1, c2, c3, c4⟩ := And.intro (bx.cell 0) (And.intro (bx.cell 1) (And.intro (bx.cell 2) (And.intro (bx.cell 3) (bx.cell 4))))
    simp only [List.getElem?_toArray, List.getElem?_cons_zero, List.getElem?_cons_succ] at c0 c1 c2 c3 c4
    go_enter Tryz.func23, Tryz.ntmps23
    go_wp2_with fail
    refine (HC.out _ k0).mono ?_
    rintro e w1 ⟨rfl, k1⟩
    have c4 := (bx.keep k1 id).cell 4
    simp only [List.getElem?_toArray, List.getElem?_cons_zero, List.getElem?_cons_succ] at c4
    have hK := keepN k0 k1
    clear c0 c1 c2 c3 bx k0 k1 HC
    go_wp2_with fail
    refine (HT.out _ hK).mono ?_
    rintro e w2 ⟨B2, d2, rfl, ho, k2⟩
    go_wp2
    go_ret
    exact ⟨B2, d2, rfl, ho.mono (fun k (hk : Fresh w1 k) _ => Nat.le_trans hK.size hk), keepN hK k2⟩

set_option maxRecDepth 100000 in
/-- Two lines are the same just if all four numbers are. -/
theorem run_eql_line (a b c d a' b' c' d' : Int) (w : World) :
    (binOp .eql 84 (.agg #[.int .i64 a, .int .i64 b, .int .i64 c, .int .i64 d]) (.agg #[.int .i64 a', .int .i64 b', .int .i64 c', .int .i64 d'])).run Tryz.prog w = .ok (.bool (a == a' && (b == b' && (c == c' && d == d')))) w := by
  have h84 : Tryz.prog.underlying 84 = some (.struct (Tryz.prog.fieldsOf 84)) := by kernel_rfl
  have p84 : Tryz.prog.stoodInHeld 84 = false := by kernel_rfl
  have h82 : Tryz.prog.underlying 82 = some (.struct (Tryz.prog.fieldsOf 82)) := by kernel_rfl
  have p82 : Tryz.prog.stoodInHeld 82 = false := by kernel_rfl
  have u3 := Tryz.underlying3
  have a3 := Tryz.isAgg3
  have z3 := Tryz.sizeOf3
  have a82 := Tryz.isAgg82
  have z82 := Tryz.sizeOf82
  have hn : ∀ w, (Op.equalIn (9998 + 1) 82 (.agg #[.int .i64 c, .int .i64 d]) (.agg #[.int .i64 c', .int .i64 d'])).run Tryz.prog w = .ok (c == c' && d == d') w := by
    intro w
    rw [run_equalIn_agg w 9998 82 _ _ h82 p82]
    simp only [Program.fieldsOf, Tryz.underlying82]
    clear h82 h84
    go_simp
    by_cases h3 : c = c' <;> by_cases h4 : d = d' <;> simp [h3, h4]
  rw [run_eql_struct, show (10000 : Nat) = 9998 + 1 + 1 from rfl, run_equalIn_agg w (9998 + 1) 84 _ _ h84 p84]
  simp only [Program.fieldsOf, Tryz.underlying84]
  clear h82 h84
  go_simp
  by_cases h1 : a = a' <;> by_cases h2 : b = b' <;> by_cases h3 : c = c' <;> by_cases h4 : d = d' <;> simp [h1, h2, h3, h4]
/-- The named sheet, as it is handed out, and where its map lies. -/
theorem named_sh2 (v : I.IV) (es : List I.SE) (fs : List I.FE) (w : World) (h : I.ImAt w v es fs) (hl : I.LgI v es fs) :
    Calls Tryz.prog 39 #[v.val] w fun e w' => ∃ s : SH, e = .returned s.val ∧ ShOk w' 0 s (cutE (I.okI (I.imOf es fs)) es) (cutF (I.okI (I.imOf es fs)) fs) ∧ s.v = cutV (I.okI (I.imOf es fs)) v ∧ (∀ b, s.m = some b → w.heap.size ≤ b ∧ b < w'.heap.size) ∧ Keep NoB w w' := by
  refine (named_any v es fs w h hl).mono ?_
  rintro e w' ⟨b, n, b1, b2, rfl, hn, hb, hk⟩
  exact ⟨_, rfl, ⟨(cut_im h).keepN hk, cut_lg hl, cut_ok2 h, .inl ⟨rfl, b, n, b1, b2, rfl, hn⟩⟩, rfl, fun b' e => by injection e with e; subst e; exact ⟨hb.1, hn.pm.lt⟩, hk⟩
/-- What the iterator reads, while it is gone through by one who keeps numbers in boxes. -/
structure HR2 (w : World) (m0 N0 bs : Nat) (s : SH) (lab : Nat → Nat → Bool) (W : World) : Prop where
  kp : Keep (fun k => w.heap.size ≤ k) w W
  bx : Blk W bs 72 s.cells
  lb : LabAt s.m lab W
  hm : ∀ b, s.m = some b → m0 ≤ b ∧ b < N0
theorem hr2_keep {w : World} {m0 N0 bs : Nat} {s : SH} {lab : Nat → Nat → Bool} {p0 : BSet} (hp : ∀ k, p0 k → w.heap.size ≤ k ∧ k < m0) (hN : w.heap.size ≤ N0) (hb : m0 ≤ bs) (hbN : bs < N0) :
    ∀ O W1 W2, (∀ k, O k → p0 k ∨ N0 ≤ k) → HR2 w m0 N0 bs s lab W1 → Keep O W1 W2 → HR2 w m0 N0 bs s lab W2 := by
  intro O W1 W2 hO h hk
  refine ⟨h.kp.trans hk (fun k h3 hl => ?_), h.bx.keep hk (fun h3 => ?_), h.lb.keep hk (fun b e h3 => ?_), h.hm⟩
  · rcases hO k h3 with h4 | h4
    · exact (hp k h4).1
    · omega
  · rcases hO _ h3 with h4 | h4
    · have := hp _ h4; omega
    · omega
  · have h5 := h.hm b e
    rcases hO _ h3 with h4 | h4
    · have := hp _ h4; omega
    · omega
theorem hr2_it {w : World} {m0 N0 bs : Nat} {s : SH} {es : List I.SE} {fs : List I.FE} {lab : Nat → Nat → Bool} (h : I.ImAt w s.v es fs) (W : World) (hr : HR2 w m0 N0 bs s lab W) : ShIt W bs s es fs lab :=
  ⟨hr.bx, h.keep hr.kp (fun k hk => by omega), hr.lb⟩
theorem guard_line : Tryz.prog.eqGuardType Tryz.prog.depth 84 = false := by kernel_rfl

end Go.Proofs.YtgnooffedmeenaaGreatDoor.M.L

namespace Go.Proofs.YtgnooffedmeenaaGreatDoor.F
open Go.RowKit W

set_option maxRecDepth 100000 in
set_option maxHeartbeats 4000000 in
theorem rnamed_any (S : ByteArray) (s : List UInt8) (w : World) (hs : Hid (S.data.toList = s)) (hm : S.size ≤ 9223372036854775807) (R : Int) (hR : Hid (chkN s = R)) :
    Calls Tryz.prog 109 #[.string S] w fun e w' => e = .returned (.int .i64 R) ∧ w = w' := by
  have HZ : Hid (S.size = s.length) := sz_len hs.out
  have HL := Lib.hid (fun (c : UInt8) (w : World) => rletter_any c w)
  by_cases h0 : S.size = 0
  · obtain rfl : 71 = R := by rw [← hR.out]; exact (chkN_no (by rw [List.length_eq_zero_iff.1 (HZ.out.symm.trans h0)]; rfl)).symm
    clear hR
    have hq0 : (S.size : Int) < 1 := by omega
    go_enter Tryz.func109, Tryz.ntmps109
    go_wp2
    go_ret
    exact ⟨rfl, rfl⟩
  have hq0 : ¬ (S.size : Int) < 1 := by omega
  by_cases h1 : 32 < S.size
  · obtain rfl : 71 = R := by rw [← hR.out]; exact (chkN_no (okN_long (by rw [← HZ.out]; omega))).symm
    clear hR
    go_enter Tryz.func109, Tryz.ntmps109
    go_wp2
    go_ret
    exact ⟨rfl, rfl⟩
  have hp : 0 < S.size := by omega
  have HH : Hid (headB s = letB (S[0]'hp)) := by show _ = _; rw [str_at hs.out hp (by rw [← HZ.out]; omega)]; exact headB_at _
  go_enter Tryz.func109, Tryz.ntmps109
  go_wp2
  go_loop [3] (fun i => ∃ k : Nat, k ≤ S.size ∧ i = .int .i64 k ∧ Hid ((s.take k).all inB = true ∧ (0 < k → headB s = true))) (fun i => S.size - (intOf i).toNat)
  case atStart => exact ⟨0, Nat.zero_le _, rfl, rfl, fun h => absurd h (by omega)⟩
  case round =>
    obtain ⟨k, hk, rfl, ht⟩ := hrel
    by_cases hlt : k < S.size
    · have hks : k < s.length := by rw [← HZ.out]; exact hlt
      have HE := Lib.hid (str_at hs.out hlt hks)
      have HA := Lib.hid (fun w => HL.out (S[k]'hlt) w)
      have HI : Hid (inB s[k] = (letB (S[k]'hlt) || digB (S[k]'hlt))) := by show _ = _; rw [HE.out]; rfl
      have HT := Lib.hid (fun h => in_step hks ht.out.1 h)
      have HN := Lib.hid (fun h => in_no hks h)
      have HDG := Lib.hid (digB_iff (S[k]'hlt))
      have HK : Hid (k = 0 → headB s = letB (S[k]'hlt)) := fun e => by subst e; exact HH.out
      have HK2 := Lib.hid ht.out.2
      clear HH ht HE
      cases hl : letB (S[k]'hlt)
      · rw [hl] at HA HI HK
        by_cases hk0 : k = 0
        · obtain rfl : 71 = R := by rw [← hR.out]; exact (chkN_no (okN_head (HK.out hk0))).symm
          have hqk : ((k : Int) == 0) = true := by rw [beq_iff_eq]; omega
          clear hR HT HN HI HK HK2 hl HDG hk0
          by_cases g1 : ((S[k]'hlt).toNat : Int) < 48
          · go_wp2_with (go_at_call 169; refine (HA.out _).mono ?_; rintro e w2 ⟨rfl, rfl⟩)
            go_ret
            exact ⟨rfl, rfl⟩
          · by_cases g2 : ((S[k]'hlt).toNat : Int) ≤ 57
            · have g1 : (48 : Int) ≤ ((S[k]'hlt).toNat : Int) := by omega
              go_wp2_with (go_at_call 169; refine (HA.out _).mono ?_; rintro e w2 ⟨rfl, rfl⟩)
              go_ret
              exact ⟨rfl, rfl⟩
            · have g1 : (48 : Int) ≤ ((S[k]'hlt).toNat : Int) := by omega
              go_wp2_with (go_at_call 169; refine (HA.out _).mono ?_; rintro e w2 ⟨rfl, rfl⟩)
              go_ret
              exact ⟨rfl, rfl⟩
        · have hqk : ((k : Int) == 0) = false := by rw [beq_eq_false_iff_ne]; omega
          cases hd : digB (S[k]'hlt)
          · rw [hd] at HI HDG
            obtain rfl : 71 = R := by rw [← hR.out]; exact (chkN_no (okN_in (HN.out HI.out))).symm
            have hdg : ¬ (48 ≤ (S[k]'hlt).toNat ∧ (S[k]'hlt).toNat ≤ 57) := fun h => by have := HDG.out.2 h; cases this
            clear hR HT HN HI HK HK2 hl hd HDG
            by_cases g1 : ((S[k]'hlt).toNat : Int) < 48
            · clear hdg
              go_wp2_with (go_at_call 169; refine (HA.out _).mono ?_; rintro e w2 ⟨rfl, rfl⟩)
              go_ret
              exact ⟨rfl, rfl⟩
            · have g2 : ¬ ((S[k]'hlt).toNat : Int) ≤ 57 := by omega
              have g3 : (!decide (((S[k]'hlt).toNat : Int) ≤ 57)) = true := by rw [decide_eq_false g2]; rfl
              have g4 : (48 : Int) ≤ ((S[k]'hlt).toNat : Int) := by omega
              clear hdg
              go_wp2_with (go_at_call 169; refine (HA.out _).mono ?_; rintro e w2 ⟨rfl, rfl⟩)
              go_ret
              exact ⟨rfl, rfl⟩
          · rw [hd] at HI HDG
            have HV := Lib.hid (HT.out HI.out)
            obtain ⟨g1', g2'⟩ := HDG.out.1 rfl
            have g1 : ¬ ((S[k]'hlt).toNat : Int) < 48 := by omega
            have g2 : ((S[k]'hlt).toNat : Int) ≤ 57 := by omega
            clear g1' g2'
            have HK3 := Lib.hid (HK2.out (by omega))
            clear HT HN HI HK HK2 hl hd HDG
            go_wp2_with (go_at_call 169; refine (HA.out _).mono ?_; rintro e w2 ⟨rfl, rfl⟩)
            go_round
            case rel => exact ⟨k + 1, by omega, by go_num, HV.out, fun _ => HK3.out⟩
            case measure => simp [intOf]; omega
      · rw [hl] at HA HI HK
        have HV := Lib.hid (HT.out (by rw [HI.out]; rfl))
        have HK3 : Hid (headB s = true) := by
          rcases Nat.eq_zero_or_pos k with h | h
          · exact HK.out h
          · exact HK2.out h
        clear HT HN HI HK HK2 hl HDG
        by_cases g1 : ((S[k]'hlt).toNat : Int) < 48
        · go_wp2_with (go_at_call 169; refine (HA.out _).mono ?_; rintro e w2 ⟨rfl, rfl⟩)
          go_round
          case rel => exact ⟨k + 1, by omega, by go_num, HV.out, fun _ => HK3.out⟩
          case measure => simp [intOf]; omega
        · by_cases g2 : ((S[k]'hlt).toNat : Int) ≤ 57
          · go_wp2_with (go_at_call 169; refine (HA.out _).mono ?_; rintro e w2 ⟨rfl, rfl⟩)
            go_round
            case rel => exact ⟨k + 1, by omega, by go_num, HV.out, fun _ => HK3.out⟩
            case measure => simp [intOf]; omega
          · go_wp2_with (go_at_call 169; refine (HA.out _).mono ?_; rintro e w2 ⟨rfl, rfl⟩)
            go_round
            case rel => exact ⟨k + 1, by omega, by go_num, HV.out, fun _ => HK3.out⟩
            case measure => simp [intOf]; omega
    · obtain rfl : 0 = R := by
        rw [← hR.out]
        have e1 := ht.out.1
        rw [List.take_of_length_le (by rw [← HZ.out]; omega)] at e1
        exact (chkN_ok ((okN_iff s).2 ⟨by rw [← HZ.out]; omega, ht.out.2 (by omega), e1⟩)).symm
      clear hR ht HH
      go_wp2
      go_ret
      exact ⟨rfl, rfl⟩

end Go.Proofs.YtgnooffedmeenaaGreatDoor.F

namespace Go.Proofs.YtgnooffedmeenaaGreatDoor.F
open Go.RowKit W

/-- Behind an append: the row, and what stays, above a block. -/
theorem above_after {w W W' : World} {E size n b : Nat} {v v' : Value} {xs : List Value} (ho : ∀ g, v.ownBlock = some g → b < g) (hb : w.heap.size ≤ b) (hK : Keep NoB w W) (hbW : b < W.heap.size) (hg : W.grownBy W' v.ownBlock)
    (hv : v'.ownBlock = v.ownBlock ∨ v'.ownBlock = some W.heap.size) (hrow : W'.ownsRow 0 E size v' n xs) : Own W' E size (fun k => b < k) v' n xs ∧ Keep NoB w W' ∧ Keep (fun k => b < k) W W' := by
  refine ⟨⟨hrow, fun g e => ?_⟩, hK.grown hg (fun g e h => by have := ho g e; omega), (Keep.refl _ W).grown hg (fun g e _ => ho g e)⟩
  rcases hv with h | h
  · exact ho g (h ▸ e)
  · rw [h] at e; cases e; exact hbW

theorem rd_ltN {W : World} {A : Option Addr} {xs : List Value} (h : Rd W A xs) {ad : Addr} (e : A = some ad) (h0 : 0 < xs.length) : ad.block < W.heap.size := by
  obtain ⟨g, off, e2, hc⟩ := h h0
  rw [e] at e2
  injection e2 with e2
  subst e2
  exact World.block_lt_of_cell? W _ (hc 0 _ (List.getElem?_eq_getElem h0))
theorem rd_above {W W' : World} {O : Nat → Prop} {A : Option Addr} {xs : List Value} (h : Rd W A xs) (hA : ∀ ad, A = some ad → 0 < xs.length → ¬ O ad.block) (hk : Keep O W W') : Rd W' A xs := fun h0 => by
  obtain ⟨g, off, e, hc⟩ := h h0
  exact ⟨g, off, e, fun j u hu => hk.cell (hc j u hu) (show ¬ O g from hA _ e h0)⟩

set_option maxRecDepth 100000 in
set_option maxHeartbeats 8000000 in
theorem rtypes_any (v : FV) (f : Fu) (w : World) (h : FnAt w v f) (hs : SmF v) :
    Calls Tryz.prog 112 #[v.val] w fun e w' => ∃ u, e = .returned u ∧ Own w' 3 1 (Fresh w) u (sl f).length (ivs (sl f)) ∧ Keep NoB w w' := by
  obtain ⟨i0, hi, hz0, hz1, hz2⟩ := info_parts int_info
  have bx := Blk.new w 37 v.cells
  have k0 := (Keep.refl NoB w).alloc (.cells v.cells 37)
  have HF := Lib.hid (h.keepN k0)
  have HF0 := Lib.hid h
  have hl : (sl f).length = v.na + v.nb + v.nl := by rw [sl_length, h.la, h.lb, h.ll]
  have hsl : ivs (sl f) = (ivs f.ar ++ ivs f.rs) ++ ivs f.lc := by unfold sl; simp
  rw [hl, hsl]
  have HA1 := Lib.hid (show (ivs f.ar).length = v.na * 1 by simp [h.la])
  have HB1 := Lib.hid (show (ivs f.rs).length = v.nb * 1 by simp [h.lb])
  have HL1 := Lib.hid (show (ivs f.lc).length = v.nl * 1 by simp [h.ll])
  have HA2 := Lib.hid (ivs_one f.ar)
  have HB2 := Lib.hid (ivs_one f.rs)
  have HL2 := Lib.hid (ivs_one f.lc)
  obtain ⟨q1, q2, q3, q4, q5⟩ := hs
  obtain ⟨s0, A, na, ca, B, nb, cb, L, nl, cl, D, nd, cd⟩ := v
  unfold FV.val FV.cells at *
  dsimp only at HA1 HB1 HL1 q1 q2 q3 q4 q5
  clear h hl hsl
  obtain ⟨c0, c1, c2, c3, c4⟩ := blk5 (v := ⟨s0, A, na, ca, B, nb, cb, L, nl, cl, D, nd, cd⟩) bx
  dsimp only at c0 c1 c2 c3 c4
  generalize hxa : ivs f.ar = xa at HA1 HA2
  generalize hxb : ivs f.rs = xb at HB1 HB2
  generalize hxl : ivs f.lc = xl at HL1 HL2
  have HRA : Hid (Rd (w.alloc (.cells #[.string s0, .slice A na ca, .slice B nb cb, .slice L nl cl, .slice D nd cd] 37)) A xa) := hxa ▸ HF.out.ra
  have HRB : Hid (Rd (w.alloc (.cells #[.string s0, .slice A na ca, .slice B nb cb, .slice L nl cl, .slice D nd cd] 37)) B xb) := hxb ▸ HF.out.rb
  have HRL : Hid (Rd (w.alloc (.cells #[.string s0, .slice A na ca, .slice B nb cb, .slice L nl cl, .slice D nd cd] 37)) L xl) := hxl ▸ HF.out.rl
  have hsz : w.heap.size < (w.alloc (.cells #[.string s0, .slice A na ca, .slice B nb cb, .slice L nl cl, .slice D nd cd] 37)).heap.size := by simp
  have hRLb : ∀ ad, L = some ad → 0 < xl.length → ¬ (w.heap.size < ad.block) := fun ad e h0 => by
    have h1 := rd_ltN HF0.out.rl e (by rw [hxl]; exact h0)
    omega
  clear hxa hxb hxl HF HF0
  go_enter Tryz.func112, Tryz.ntmps112
  generalize hw1 : w.alloc (.cells #[.string s0, .slice A na ca, .slice B nb cb, .slice L nl cl, .slice D nd cd] 37) = w1 at bx k0 HRA HRB HRL c0 c1 c2 c3 c4 hsz
  go_wp2_with (first
    | (at_builtin; refine wpList_append_rd _ rfl (.tmp 4) (.tmp 7) _ rfl 3 1 8 i0 _ Tryz.underlying32 hi hz0 hz1 hz2 rfl (by decide) (.slice none 0 0) 0 [] A na ca xa rfl (World.ownsRow_nil _ _ _ _) rfl HRA.out HA1.out HA2.out (by unfold maxLen; omega) (by omega) ?_; intro A5 c5 w5 hrow5 hg5 hv5; rw [Nat.zero_add] at hrow5 hv5 ⊢; rw [List.nil_append] at hrow5; clear hw1; obtain ⟨hO5, hK5, hk5⟩ := above_after (w := w) (b := w.heap.size) (fun g e => by cases e) (Nat.le_refl _) k0 hsz hg5 hv5 hrow5; have bx5 := bx.keep hk5 (Nat.lt_irrefl _); have HRB5 := Lib.hid (HRB.out.keepN ((Keep.refl NoB w1).grown hg5 (fun g e _ => by cases e))); have HRL5 := Lib.hid (HRL.out.keepN ((Keep.refl NoB w1).grown hg5 (fun g e _ => by cases e))); have hz5 := hg5.size; clear hrow5 hg5 hv5 hk5 k0 c0 c1 c2 c3 c4 bx; obtain ⟨c0, c1, c2, c3, c4⟩ := blk5 (v := ⟨s0, A, na, ca, B, nb, cb, L, nl, cl, D, nd, cd⟩) bx5; dsimp only at c0 c1 c2 c3 c4)
    | (at_builtin; refine wpList_append_rd _ rfl (.tmp 9) (.tmp 12) _ rfl 3 1 8 i0 _ Tryz.underlying32 hi hz0 hz1 hz2 rfl (by decide) (.slice A5 na c5) (na) (xa) B nb cb xb rfl hO5.1 rfl HRB5.out HB1.out HB2.out (by unfold maxLen; omega) (by omega) ?_; intro A6 c6 w6 hrow6 hg6 hv6; obtain ⟨hO6, hK6, hk6⟩ := above_after (w := w) (b := w.heap.size) hO5.2 (Nat.le_refl _) hK5 (Nat.lt_of_lt_of_le hsz hz5) hg6 hv6 hrow6; have bx6 := bx5.keep hk6 (Nat.lt_irrefl _); have hz6 := Nat.le_trans hz5 hg6.size; have HRL6 := Lib.hid (rd_above HRL5.out hRLb hk6); clear hrow6 hg6 hv6 c0 c1 c2 c3 c4 bx5; obtain ⟨c0, c1, c2, c3, c4⟩ := blk5 (v := ⟨s0, A, na, ca, B, nb, cb, L, nl, cl, D, nd, cd⟩) bx6; dsimp only at c0 c1 c2 c3 c4)
    | (at_builtin; refine wpList_append_rd _ rfl (.tmp 14) (.tmp 16) _ rfl 3 1 8 i0 _ Tryz.underlying32 hi hz0 hz1 hz2 rfl (by decide) (.slice A6 (na + nb) c6) (na + nb) (xa ++ xb) L nl cl xl rfl hO6.1 rfl HRL6.out HL1.out HL2.out (by unfold maxLen; omega) (by omega) ?_; intro A7 c7 w7 hrow7 hg7 hv7; obtain ⟨hO7, hK7, hk7⟩ := above_after (w := w) (b := w.heap.size) hO6.2 (Nat.le_refl _) hK6 (Nat.lt_of_lt_of_le hsz hz6) hg7 hv7 hrow7; have bx7 := bx6.keep hk7 (Nat.lt_irrefl _); have hz7 := Nat.le_trans hz6 hg7.size; clear hrow7 hg7 hv7 c0 c1 c2 c3 c4 bx6; obtain ⟨c0, c1, c2, c3, c4⟩ := blk5 (v := ⟨s0, A, na, ca, B, nb, cb, L, nl, cl, D, nd, cd⟩) bx7; dsimp only at c0 c1 c2 c3 c4))
  go_ret
  rw [List.append_assoc] at hO7
  exact ⟨_, rfl, hO7.mono (fun k hk _ => Nat.le_of_lt hk), hK7⟩


set_option maxRecDepth 100000 in
set_option maxHeartbeats 8000000 in
theorem rcheck_any (v : FV) (f : Fu) (w : World) (h : FnAt w v f) (hs : SmF v) (R : Int) (hR : Hid (chkF f = R)) :
    Calls Tryz.prog 49 #[v.val] w fun e w' => e = .returned (.int .i64 R) ∧ Keep NoB w w' := by
  have bx := Blk.new w 37 v.cells
  have k0 := (Keep.refl NoB w).alloc (.cells v.cells 37)
  have HF := Lib.hid (h.keepN k0)
  have HX := Lib.hid bx
  have HN := Lib.hid (fun w (R : Int) hR => rnamed_any v.S f.nm w h.nm (by have := hs.sz; omega) R hR)
  have HG := Lib.hid (fun w1 (hk : Keep NoB (w.alloc (.cells v.cells 37)) w1) (R : Int) hR => S.rchkG_any v.A f.ar v.na v.ca v.B f.rs v.nb v.cb w1 (HF.out.keepN hk).ra (HF.out.keepN hk).rb h.la h.lb (by have := hs.na; omega) (by have := hs.nb; omega) R hR)
  have HB := Lib.hid (fun w1 (hk : Keep NoB (w.alloc (.cells v.cells 37)) w1) (R : Int) hR => C.rcchk_any v.D f.bd v.nd v.cd w1 (HF.out.keepN hk).rd h.ld h.hI (by have := hs.nd; omega) R hR)
  have HT := Lib.hid (fun w1 (hk : Keep NoB (w.alloc (.cells v.cells 37)) w1) => rtypes_any v f w1 (HF.out.keepN hk) hs)
  have hlen : (sl f).length = v.na + v.nb + v.nl := by rw [sl_length, h.la, h.lb, h.ll]
  rw [hlen] at HT
  have HLL := Lib.hid h.ll
  have HLN : Hid (f.ar.length + f.rs.length + f.lc.length = v.na + v.nb + v.nl) := by show _ = _; rw [h.la, h.lb, h.ll]
  have HRL := Lib.hid (fun w1 (hk : Keep NoB (w.alloc (.cells v.cells 37)) w1) => (HF.out.keepN hk).rl)
  obtain ⟨q1, q2, q3, q4, q5⟩ := hs
  obtain ⟨s0, A, na, ca, B, nb, cb, L, nl, cl, D, nd, cd⟩ := v
  unfold FV.val FV.cells at *
  dsimp only at HN HG HB HT HLL HLN q2 q3 q4 HRL
  clear bx h HF hlen
  cases h1 : okN f.nm
  · have HN2 := Lib.hid (fun w => HN.out w 71 (chkN_no h1))
    obtain rfl : 70 = R := by rw [← hR.out]; exact (chkF_no (okF_not (by rw [h1]; simp))).symm
    clear HN hR h1
    go_enter Tryz.func49, Tryz.ntmps49
    obtain ⟨c0, c1, c2, c3, c4⟩ := blk5 (v := ⟨s0, A, na, ca, B, nb, cb, L, nl, cl, D, nd, cd⟩) HX.out
    dsimp only at c0 c1 c2 c3 c4
    go_wp2_with fail
    refine (HN2.out _).mono ?_
    rintro e w1 ⟨rfl, rfl⟩
    go_wp2
    go_ret
    exact ⟨rfl, k0⟩
  have HN2 := Lib.hid (fun w => HN.out w 0 (chkN_ok h1))
  cases h2 : S.okG f.ar f.rs
  · have HG2 := Lib.hid (fun w hk => HG.out w hk 61 (S.chkG_no h2))
    obtain rfl : 70 = R := by rw [← hR.out]; exact (chkF_no (okF_not (by rw [h2]; simp))).symm
    clear HN HG hR h1 h2
    go_enter Tryz.func49, Tryz.ntmps49
    obtain ⟨c0, c1, c2, c3, c4⟩ := blk5 (v := ⟨s0, A, na, ca, B, nb, cb, L, nl, cl, D, nd, cd⟩) HX.out
    dsimp only at c0 c1 c2 c3 c4
    go_wp2_with fail
    refine (HN2.out _).mono ?_
    rintro e w1 ⟨rfl, rfl⟩
    clear c0 c1 c2 c3 c4
    obtain ⟨c0, c1, c2, c3, c4⟩ := blk5 (v := ⟨s0, A, na, ca, B, nb, cb, L, nl, cl, D, nd, cd⟩) HX.out
    dsimp only at c0 c1 c2 c3 c4
    go_wp2_with fail
    refine (HG2.out _ (Keep.refl _ _)).mono ?_
    rintro e w2 ⟨rfl, k1⟩
    go_wp2
    go_ret
    exact ⟨rfl, keepN k0 k1⟩
  have HG2 := Lib.hid (fun w hk => HG.out w hk 0 (S.chkG_ok h2))
  cases h4 : C.okB f.bd
  · have HB2 := Lib.hid (fun w hk => HB.out w hk 50 (C.chkB_no h4))
    obtain rfl : 70 = R := by rw [← hR.out]; exact (chkF_no (okF_not (by rw [h4]; simp))).symm
    clear HN HG HB hR h1 h2 h4
    go_enter Tryz.func49, Tryz.ntmps49
    obtain ⟨c0, c1, c2, c3, c4⟩ := blk5 (v := ⟨s0, A, na, ca, B, nb, cb, L, nl, cl, D, nd, cd⟩) HX.out
    dsimp only at c0 c1 c2 c3 c4
    go_wp2_with fail
    refine (HN2.out _).mono ?_
    rintro e w1 ⟨rfl, rfl⟩
    clear c0 c1 c2 c3 c4
    obtain ⟨c0, c1, c2, c3, c4⟩ := blk5 (v := ⟨s0, A, na, ca, B, nb, cb, L, nl, cl, D, nd, cd⟩) HX.out
    dsimp only at c0 c1 c2 c3 c4
    go_wp2_with fail
    refine (HG2.out _ (Keep.refl _ _)).mono ?_
    rintro e w2 ⟨rfl, k1⟩
    clear c0 c1 c2 c3 c4
    obtain ⟨c0, c1, c2, c3, c4⟩ := blk5 (v := ⟨s0, A, na, ca, B, nb, cb, L, nl, cl, D, nd, cd⟩) (HX.out.keep k1 id)
    dsimp only at c0 c1 c2 c3 c4
    go_wp2_with fail
    refine (HB2.out _ k1).mono ?_
    rintro e w3 ⟨rfl, k2⟩
    replace k1 := keepN k1 k2
    clear k2
    go_wp2
    go_ret
    exact ⟨rfl, keepN k0 k1⟩
  have HB2 := Lib.hid (fun w hk => HB.out w hk 0 (C.chkB_ok h4))
  by_cases h5 : 64 < na + nb + nl
  · obtain rfl : 70 = R := by rw [← hR.out]; exact (chkF_no (okF_not (by rw [HLN.out]; omega))).symm
    clear HN HG HB hR h1 h2 h4
    go_enter Tryz.func49, Tryz.ntmps49
    obtain ⟨c0, c1, c2, c3, c4⟩ := blk5 (v := ⟨s0, A, na, ca, B, nb, cb, L, nl, cl, D, nd, cd⟩) HX.out
    dsimp only at c0 c1 c2 c3 c4
    go_wp2_with fail
    refine (HN2.out _).mono ?_
    rintro e w1 ⟨rfl, rfl⟩
    clear c0 c1 c2 c3 c4
    obtain ⟨c0, c1, c2, c3, c4⟩ := blk5 (v := ⟨s0, A, na, ca, B, nb, cb, L, nl, cl, D, nd, cd⟩) HX.out
    dsimp only at c0 c1 c2 c3 c4
    go_wp2_with fail
    refine (HG2.out _ (Keep.refl _ _)).mono ?_
    rintro e w2 ⟨rfl, k1⟩
    clear c0 c1 c2 c3 c4
    obtain ⟨c0, c1, c2, c3, c4⟩ := blk5 (v := ⟨s0, A, na, ca, B, nb, cb, L, nl, cl, D, nd, cd⟩) (HX.out.keep k1 id)
    dsimp only at c0 c1 c2 c3 c4
    go_wp2_with fail
    refine (HB2.out _ k1).mono ?_
    rintro e w3 ⟨rfl, k2⟩
    replace k1 := keepN k1 k2
    clear k2
    clear c0 c1 c2 c3 c4
    obtain ⟨c0, c1, c2, c3, c4⟩ := blk5 (v := ⟨s0, A, na, ca, B, nb, cb, L, nl, cl, D, nd, cd⟩) (HX.out.keep k1 id)
    dsimp only at c0 c1 c2 c3 c4
    go_wp2_with fail
    refine (HT.out _ k1).mono ?_
    rintro e w4 ⟨u, rfl, hO, k2⟩
    obtain ⟨A4, c4', rfl, _, _, _, _⟩ := hO.form
    replace k1 := keepN k1 k2
    clear k2 hO
    go_wp2
    go_ret
    exact ⟨rfl, keepN k0 k1⟩
  have HO : Hid (f.lc.all knownB = true → chkF f = 0) := fun h3 => chkF_ok ((okF_iff f).2 ⟨h1, h2, h3, h4, by rw [HLN.out]; omega⟩)
  have HO2 : Hid (f.lc.all knownB = false → chkF f = 70) := fun h3 => chkF_no (okF_not (by rw [h3]; simp))
  clear HN HG HB h1 h2 h4
  go_enter Tryz.func49, Tryz.ntmps49
  obtain ⟨c0, c1, c2, c3, c4⟩ := blk5 (v := ⟨s0, A, na, ca, B, nb, cb, L, nl, cl, D, nd, cd⟩) HX.out
  dsimp only at c0 c1 c2 c3 c4
  go_wp2_with fail
  refine (HN2.out _).mono ?_
  rintro e w1 ⟨rfl, rfl⟩
  clear c0 c1 c2 c3 c4
  obtain ⟨c0, c1, c2, c3, c4⟩ := blk5 (v := ⟨s0, A, na, ca, B, nb, cb, L, nl, cl, D, nd, cd⟩) HX.out
  dsimp only at c0 c1 c2 c3 c4
  go_wp2_with fail
  refine (HG2.out _ (Keep.refl _ _)).mono ?_
  rintro e w2 ⟨rfl, k1⟩
  clear c0 c1 c2 c3 c4
  obtain ⟨c0, c1, c2, c3, c4⟩ := blk5 (v := ⟨s0, A, na, ca, B, nb, cb, L, nl, cl, D, nd, cd⟩) (HX.out.keep k1 id)
  dsimp only at c0 c1 c2 c3 c4
  go_wp2_with fail
  refine (HB2.out _ k1).mono ?_
  rintro e w3 ⟨rfl, k2⟩
  replace k1 := keepN k1 k2
  clear k2
  clear c0 c1 c2 c3 c4
  obtain ⟨c0, c1, c2, c3, c4⟩ := blk5 (v := ⟨s0, A, na, ca, B, nb, cb, L, nl, cl, D, nd, cd⟩) (HX.out.keep k1 id)
  dsimp only at c0 c1 c2 c3 c4
  go_wp2_with fail
  refine (HT.out _ k1).mono ?_
  rintro e w4 ⟨u, rfl, hO, k2⟩
  obtain ⟨A4, c4', rfl, _, _, _, _⟩ := hO.form
  replace k1 := keepN k1 k2
  clear k2 hO
  clear c0 c1 c2 c3 c4
  have HK1 := Lib.hid k1
  have HK0 := Lib.hid k0
  clear k1 k0 HN2 HG2 HB2 HT
  go_wp2
  go_loopw [3] (fun i wr => ∃ k : Nat, k ≤ nl ∧ i = .int .i64 (k : Int) ∧ Hid ((f.lc.take k).all knownB = true) ∧ Keep NoB (w.alloc (.cells #[.string s0, .slice A na ca, .slice B nb cb, .slice L nl cl, .slice D nd cd] 37)) wr) (fun i _ => nl - (intOf i).toNat)
  case atStart => exact ⟨0, Nat.zero_le _, rfl, rfl, HK1.out⟩
  case round =>
    obtain ⟨k, hk, rfl, ht, hK⟩ := hrel
    obtain ⟨c0, c1, c2, c3, c4⟩ := blk5 (v := ⟨s0, A, na, ca, B, nb, cb, L, nl, cl, D, nd, cd⟩) (HX.out.keep hK id)
    dsimp only at c0 c1 c2 c3 c4
    by_cases hlt : k < nl
    · have hkl : k < f.lc.length := by rw [HLL.out]; exact hlt
      obtain ⟨g, off, rfl, hc⟩ := rdI_at (HRL.out _ hK) (by omega)
      have ck := hc k hkl
      have HY := Lib.hid (fun h => S.all_step (p := knownB) hkl ht.out h)
      have HNO := Lib.hid (fun h => S.all_no (p := knownB) hkl h)
      have HKn := Lib.hid (fun w => rknown_any f.lc[k] w)
      clear hc ht
      generalize f.lc[k] = t at ck HY HNO HKn
      obtain ⟨b, hb⟩ : ∃ b, knownB t = b := ⟨_, rfl⟩
      rw [hb] at HY HNO HKn
      clear hb
      cases b
      · obtain rfl : 70 = R := by rw [← hR.out]; exact (HO2.out (HNO.out rfl)).symm
        clear hR HO HO2 HY HNO
        go_wp2_with (go_at_call 113; refine (HKn.out _).mono ?_; rintro e w9 ⟨rfl, rfl⟩)
        go_ret
        exact ⟨rfl, keepN HK0.out hK⟩
      · have HV := Lib.hid (HY.out rfl)
        clear hR HO HO2 HY HNO
        go_wp2_with (go_at_call 113; refine (HKn.out _).mono ?_; rintro e w9 ⟨rfl, rfl⟩)
        go_roundw
        case rel => exact ⟨k + 1, by omega, by go_num, HV, hK⟩
        case measure => simp [intOf]; omega
    · obtain rfl : 0 = R := by
        rw [← hR.out]
        have e1 := ht.out
        rw [List.take_of_length_le (by rw [HLL.out]; omega)] at e1
        exact (HO.out e1).symm
      clear hR HO HO2
      go_wp2
      go_ret
      exact ⟨rfl, keepN HK0.out hK⟩

end Go.Proofs.YtgnooffedmeenaaGreatDoor.F

namespace Go.Proofs.YtgnooffedmeenaaGreatDoor.C
open Go.RowKit Go.Shelf O
attribute [local go_sem] Oper.semAt_some

/-- What is cells lies as it lay. -/
def CellsK (W W' : World) : Prop := W.heap.size ≤ W'.heap.size ∧ ∀ (k : Nat) (o : Obj), W.heap[k]? = some o → o.isCells = true → W'.heap[k]? = some o
theorem CellsK.trans {A B C : World} (h : CellsK A B) (h' : CellsK B C) : CellsK A C := ⟨Nat.le_trans h.1 h'.1, fun k o hk ho => h'.2 k o (h.2 k o hk ho) ho⟩
theorem CellsK.blk {A B : World} {g : Nat} {t : TypeId} {cs : Array Value} (h : CellsK A B) (hb : Blk A g t cs) : Blk B g t cs := h.2 _ _ hb rfl

end Go.Proofs.YtgnooffedmeenaaGreatDoor.C

namespace Go.Proofs.YtgnooffedmeenaaGreatDoor.C
open Go.RowKit Go.Shelf Go.Maps O
attribute [local go_sem] Oper.semAt_some

def Marks (w : World) (W : World) (Ds : List Nat) : Prop := Ds.Nodup ∧ ∀ D ∈ Ds, w.heap.size ≤ D ∧ W.heap[D]? = some (.deferred (some []))
theorem Marks.nil (w W : World) : Marks w W [] := ⟨List.nodup_nil, fun _ h => by simp at h⟩
theorem Marks.keep {w W W' : World} {Ds : List Nat} (h : Marks w W Ds) (hk : Keep NoB W W') : Marks w W' Ds := ⟨h.1, fun D hD => ⟨(h.2 D hD).1, (hk.block D (Array.getElem?_eq_some_iff.1 (h.2 D hD).2).1 id).trans (h.2 D hD).2⟩⟩
theorem Marks.grown {w W W' : World} {Ds : List Nat} {row : Option Nat} (h : Marks w W Ds) (hg : W.grownBy W' row) (hr : ∀ r, row = some r → r ∉ Ds) : Marks w W' Ds :=
  ⟨h.1, fun D hD => ⟨(h.2 D hD).1, (hg.block D (Array.getElem?_eq_some_iff.1 (h.2 D hD).2).1 (fun e => hr D e.symm hD)).trans (h.2 D hD).2⟩⟩
theorem Marks.lt {w W : World} {Ds : List Nat} (h : Marks w W Ds) {D : Nat} (hD : D ∈ Ds) : D < W.heap.size := (Array.getElem?_eq_some_iff.1 (h.2 D hD).2).1
theorem Marks.cons {w W : World} {Ds : List Nat} {D : Nat} (h : Marks w W Ds) (hn : D ∉ Ds) (hw : w.heap.size ≤ D) (hD : W.heap[D]? = some (.deferred (some []))) : Marks w W (D :: Ds) :=
  ⟨List.nodup_cons.2 ⟨hn, h.1⟩, fun E hE => by
    rcases List.mem_cons.1 hE with rfl | hE
    · exact ⟨hw, hD⟩
    · exact h.2 E hE⟩
/-- What the walk keeps: the boxes, the map, the marks. -/
def MetI (w : World) (A : Option Addr) (n c bl bm b N : Nat) (f : Int → Nat) (Ds : List Nat) (W : World) : Prop :=
  (Blk W bl 35 #[.slice A n c] ∧ Blk W bm 64 #[.map (some b)]) ∧ IMap Tryz.prog 3 3 b N f W ∧ (Keep NoB w W ∧ w.heap.size ≤ b ∧ b ∉ Ds) ∧ Marks w W Ds
theorem MetI.keep {w : World} {A : Option Addr} {n c bl bm b N : Nat} {f : Int → Nat} {Ds : List Nat} {W W' : World} (h : MetI w A n c bl bm b N f Ds W) (hk : Keep NoB W W') : MetI w A n c bl bm b N f Ds W' :=
  ⟨⟨h.1.1.keep hk id, h.1.2.keep hk id⟩, h.2.1.keep hk id, ⟨keepN h.2.2.1.1 hk, h.2.2.1.2⟩, h.2.2.2.keep hk⟩
end Go.Proofs.YtgnooffedmeenaaGreatDoor.C

namespace Go.Proofs.YtgnooffedmeenaaGreatDoor.C
open Go.RowKit O

end Go.Proofs.YtgnooffedmeenaaGreatDoor.C

namespace Go.Proofs.YtgnooffedmeenaaGreatDoor.C
open Go.RowKit O

end Go.Proofs.YtgnooffedmeenaaGreatDoor.C

namespace Go.Proofs.YtgnooffedmeenaaGreatDoor.C
open Go.RowKit O

end Go.Proofs.YtgnooffedmeenaaGreatDoor.C

namespace Go.Proofs.YtgnooffedmeenaaGreatDoor.M.L
open Go.RowKit O

/-- The targets below k. -/
def tgU (b : List C.I3) (k : Nat) : List Int := ((List.range k).filter (hitB b)).map fun i => ((i : Nat) : Int)
theorem tgU_succ (b : List C.I3) (k : Nat) : tgU b (k + 1) = tgU b k ++ (if hitB b k = true then [((k : Nat) : Int)] else []) := by
  unfold tgU
  rw [List.range_succ, List.filter_append, List.map_append]
  by_cases h : hitB b k = true
  · rw [List.filter_cons_of_pos h, if_pos h]; rfl
  · rw [List.filter_cons_of_neg h, if_neg h]; rfl
theorem tgU_le (b : List C.I3) (k : Nat) : (tgU b k).length ≤ k := by
  unfold tgU
  have := List.length_filter_le (hitB b) (List.range k)
  rw [List.length_range] at this
  rw [List.length_map]; exact this
theorem tgU_all (f : F.Fu) (h : F.okF f = true) : tgU f.bd f.bd.length = tgF f := by unfold tgF; rw [if_pos h]; rfl

set_option maxRecDepth 100000 in
set_option maxHeartbeats 4000000 in
theorem rtargets_any (v : F.FV) (f : F.Fu) (w : World) (h : F.FnAt w v f) (hs : F.SmF v) :
    Calls Tryz.prog 25 #[v.val] w fun e w' => ∃ B d, e = .returned (.slice B (tgF f).length d) ∧ Own w' 3 1 (Fresh w) (.slice B (tgF f).length d) (tgF f).length (ivs (tgF f)) ∧ Keep NoB w w' := by
  have bx := Blk.new w 37 v.cells
  have k0 := (Keep.refl NoB w).alloc (.cells v.cells 37)
  have HC := Lib.hid (fun W (hk : Keep NoB w W) => F.rcheck_any v f W (h.keepN hk) hs (F.chkF f) rfl)
  cases hok : F.okF f
  · have e1 : tgF f = [] := by unfold tgF; rw [hok]; rfl
    rw [F.chkF_no hok] at HC
    rw [e1]
    clear h hs hok e1
    obtain ⟨S, A, na, ca, B, nb, cb, Lc, nl, cl, D, nd, cd⟩ := v
    dsimp only [F.FV.val, F.FV.cells] at *
    obtain ⟨c0, c1, c2, c3, c4⟩ := And.intro (bx.cell 0) (And.intro (bx.cell 1) (And.intro (bx.cell 2) (And.intro (bx.cell 3) (bx.cell 4))))
    simp only [List.getElem?_toArray, List.getElem?_cons_zero, List.getElem?_cons_succ] at c0 c1 c2 c3 c4
    go_enter Tryz.func25, Tryz.ntmps25
    go_wp2_with (go_at_call 49; refine (HC.out _ k0).mono ?_; rintro e w1 ⟨rfl, k1⟩)
    go_ret
    exact ⟨none, 0, rfl, Own.nil _ _ _ _, keepN k0 k1⟩
  rw [F.chkF_ok hok] at HC
  have HA := Lib.hid (tgU_all f hok)
  have HR : Hid (∀ W, Keep NoB w W → Rd W v.D (C.iis f.bd)) := fun W hk => (h.keepN hk).rd
  have hn : Hid (f.bd.length = v.nd) := h.ld
  have hI : Hid (C.AllI f.bd) := h.hI
  have hnd := hs.nd
  obtain ⟨i0, hi, hz0, hz1, hz2⟩ := info_parts int_info
  rw [h.ld] at HA
  have HX := Lib.hid bx
  clear h hs hok bx
  generalize f.bd = l at *
  obtain ⟨S, A, na, ca, B, nb, cb, Lc, nl, cl, D, n, cd⟩ := v
  dsimp only [F.FV.val, F.FV.cells] at *
  obtain ⟨c0, c1, c2, c3, c4⟩ := And.intro (HX.out.cell 0) (And.intro (HX.out.cell 1) (And.intro (HX.out.cell 2) (And.intro (HX.out.cell 3) (HX.out.cell 4))))
  simp only [List.getElem?_toArray, List.getElem?_cons_zero, List.getElem?_cons_succ] at c0 c1 c2 c3 c4
  go_enter Tryz.func25, Tryz.ntmps25
  go_wp2_with (go_at_call 49; refine (HC.out _ k0).mono ?_; rintro e w1 ⟨rfl, k1⟩)
  have gK := keepN k0 k1
  have HX1 : Hid (∀ W, Keep NoB w1 W → W.cell? ⟨w.heap.size, 4, none⟩ = some (.slice D n cd)) := fun W hk => (keepN k1 hk).cell c4 id
  clear c0 c1 c2 c3 c4 HX HC k0 k1
  go_loopw [3, 4] (fun v i wr => ∃ k : Nat, k ≤ n ∧ i = .int .i64 k ∧ (∃ B d, v = .slice B (tgU l k).length d ∧ Own wr 3 1 (Fresh w1) (.slice B (tgU l k).length d) (tgU l k).length (ivs (tgU l k))) ∧ Keep NoB w1 wr) (fun _ i _ => n - (intOf i).toNat)
  case atStart => exact ⟨0, Nat.zero_le _, rfl, ⟨none, 0, rfl, Own.nil _ _ _ _⟩, Keep.refl _ _⟩
  case round =>
    obtain ⟨k, hk, rfl, ⟨B, d, rfl, hO⟩, hK⟩ := hrel
    have c4 := HX1.out _ hK
    have hle := tgU_le l k
    by_cases hlt : k < n
    · have hsu := Lib.hid (tgU_succ l k)
      obtain ⟨m, hm'⟩ : ∃ m, (tgU l k).length = m := ⟨_, rfl⟩
      have HM := Lib.hid hm'
      rw [hm'] at hle hO ⊢
      clear hm'
      go_wp2_with fail
      go_loopw [3, 5] (fun v i wr2 => ∃ q : Nat, q ≤ n ∧ i = .int .i64 q ∧ v = .slice B m d ∧ Hid ((l.take q).any (fun x => C.gB x && decide (x.2.1 = (k : Int))) = false) ∧ Keep NoB wr wr2) (fun _ i _ => n - (intOf i).toNat)
      case atStart => exact ⟨0, Nat.zero_le _, rfl, rfl, rfl, Keep.refl _ _⟩
      case round =>
        obtain ⟨q, hq, rfl, rfl, hno, hK2⟩ := hrel
        have c4 := HX1.out _ (keepN hK hK2)
        by_cases hlt2 : q < n
        · have hql : q < l.length := by rw [hn.out]; exact hlt2
          obtain ⟨g, off, rfl, hc⟩ := C.rdJ_at (HR.out _ (keepN gK (keepN hK hK2))) (by omega)
          obtain ⟨d0, d1, d2⟩ := hc q hql
          have HT := Lib.hid (show l.take (q + 1) = l.take q ++ [l[q]] from List.take_succ_eq_append_getElem hql)
          have HM2 := Lib.hid (List.getElem_mem hql)
          have hab := hI.out l[q] HM2.out
          clear hc
          generalize l[q] = x at d0 d1 d2 HT hab HM2
          obtain ⟨op, a, b⟩ := x
          dsimp only at d0 d1 d2 hab
          obtain ⟨tgt, hto⟩ : ∃ tgt, goesN op a b = tgt := ⟨_, rfl⟩
          obtain ⟨t, htt⟩ : ∃ t, goesI op a b = t := ⟨_, rfl⟩
          have HG := Lib.hid (fun w => C.rgoes_gen op a b tgt t w hto htt hab.1 hab.2)
          have hgb : C.gB (op, a, b) = t := htt
          have hgn : t = true → tgt = a := fun e => by
            have h1 := C.gN_yes (x := (op, a, b)) (by rw [hgb]; exact e)
            rw [← hto]; exact h1
          by_cases hh : t = true ∧ tgt = (k : Int)
          · obtain ⟨rfl, he⟩ := hh
            have hhit : hitB l k = true := by
              unfold hitB
              rw [List.any_eq_true]
              refine ⟨_, HM2.out, ?_⟩
              rw [hgb, decide_eq_true (by show a = _; rw [← hgn rfl]; exact he)]; rfl
            have hq2 : (tgt == (k : Int)) = true := by rw [beq_iff_eq]; exact he
            have HS : Hid (ivs (tgU l (k + 1)) = ivs (tgU l k) ++ [.int .i64 (k : Int)]) := by show _ = _; rw [hsu.out, hhit]; simp [ivs]
            have HL : Hid ((tgU l (k + 1)).length = m + 1) := by show _ = _; rw [hsu.out, hhit, List.length_append, HM.out]; rfl
            clear hto htt hab he HT HM2 hno hgb hgn hhit hsu
            go_wp2_with fail
            refine (HG.out _).mono ?_
            rintro e w2 ⟨rfl, k2⟩
            have hO2 := hO.keepN (keepN hK2 k2)
            have hK3 := keepN hK (keepN hK2 k2)
            clear hO hK hK2 k2 c4 d0 d1 d2
            go_wp2_with (at_builtin; refine wpList_append_rd _ rfl (.tmp 40) (.tmp 42) _ rfl 3 1 8 i0 _ Tryz.underlying32 hi hz0 hz1 hz2 rfl (by decide) _ m _ _ 1 _ [.int .i64 (k : Int)] rfl (hO2.1.alloc _) rfl (W.rd_made (by simp) rfl) rfl (by simp [Value.oneCell']) (by unfold maxLen; omega) (by omega) ?_; intro B2 d2 w3 hrow3 hg3 hv3; rw [← HS.out] at hrow3; obtain ⟨hO3, hK4⟩ := W.own_after hO2.2 (hK3.alloc _) hg3 hv3 hrow3; clear hrow3 hg3 hv3)
            go_roundw
            case rel => exact ⟨k + 1, by omega, by go_num, ⟨B2, d2, by rw [HL.out], by rw [HL.out]; exact hO3⟩, hK4⟩
            case measure => simp [intOf]; omega
          · have hno2 : Hid ((l.take (q + 1)).any (fun x => C.gB x && decide (x.2.1 = (k : Int))) = false) := by
              show _ = _
              rw [HT.out, List.any_append, hno.out]
              show (false || (C.gB (op, a, b) && decide (a = _) || false)) = false
              rw [hgb]
              cases t
              · rfl
              · rw [decide_eq_false (fun e => hh ⟨rfl, by rw [hgn rfl]; exact e⟩)]; rfl
            cases t
            · clear hto htt hab HT HM2 hno hgb hgn hh
              go_wp2_with (go_at_call 50; refine (HG.out _).mono ?_; rintro e w2 ⟨rfl, k2⟩)
              go_roundw
              case rel => exact ⟨q + 1, by omega, by go_num, rfl, hno2, keepN hK2 k2⟩
              case measure => simp [intOf]; omega
            · have hq2 : (tgt == (k : Int)) = false := by rw [beq_eq_false_iff_ne]; exact fun e => hh ⟨rfl, e⟩
              clear hto htt hab HT HM2 hno hgb hgn hh
              go_wp2_with (go_at_call 50; refine (HG.out _).mono ?_; rintro e w2 ⟨rfl, k2⟩)
              go_roundw
              case rel => exact ⟨q + 1, by omega, by go_num, rfl, hno2, keepN hK2 k2⟩
              case measure => simp [intOf]; omega
        · have hhit : hitB l k = false := by
            have := hno.out
            rw [List.take_of_length_le (by rw [hn.out]; omega)] at this
            exact this
          have HS : Hid (tgU l (k + 1) = tgU l k) := by show _ = _; rw [hsu.out, hhit]; simp
          have HL : Hid ((tgU l (k + 1)).length = m) := by show _ = _; rw [HS.out, HM.out]
          have hO2 := hO.keepN hK2
          have hK3 := keepN hK hK2
          clear hno hhit hsu hO hK hK2 HR
          go_wp2
          go_roundw
          case rel => exact ⟨k + 1, by omega, by go_num, ⟨B, d, by rw [HL.out], by rw [HL.out, HS.out]; exact hO2⟩, hK3⟩
          case measure => simp [intOf]; omega
    · obtain rfl : k = n := by omega
      have HZ := HA.out
      rw [HZ] at hO hle ⊢
      obtain ⟨T, hT⟩ : ∃ T, tgF f = T := ⟨_, rfl⟩
      rw [hT] at hO hle ⊢
      have HT := Lib.hid hT
      clear hT HZ HA
      go_wp2
      go_ret
      rw [HT.out]
      exact ⟨B, d, rfl, hO.mono (fun k h _ => Nat.le_trans gK.size h), keepN gK hK⟩

end Go.Proofs.YtgnooffedmeenaaGreatDoor.M.L

namespace Go.Proofs.YtgnooffedmeenaaGreatDoor.W
open Go.RowKit

/-- How far Digits has come: j digits stand, m is left. -/
def DigI (u j m : Nat) (s : List UInt8) : Prop := m = u / 10 ^ j ∧ ((j = 0 ∧ s = []) ∨ (1 ≤ j ∧ (if m = 0 then s = Lib.decDigits u else Lib.decDigits m ++ s = Lib.decDigits u)))
theorem dig_step {u j m : Nat} {s : List UInt8} (h : DigI u j m s) (hm : 0 < m ∨ j = 0) : DigI u (j + 1) (m / 10) (UInt8.ofNat (48 + m % 10) :: s) := by
  obtain ⟨h1, h2⟩ := h
  have hd : m / 10 = u / 10 ^ (j + 1) := by rw [h1, Nat.pow_succ, Nat.div_div_eq_div_mul]
  have key : Lib.decDigits m ++ s = Lib.decDigits u := by
    rcases h2 with ⟨h3, h4⟩ | ⟨h3, h4⟩
    · subst h3; subst h4; rw [h1]; simp
    · have : ¬ m = 0 := by omega
      rwa [if_neg this] at h4
  refine ⟨hd, .inr ⟨by omega, ?_⟩⟩
  by_cases hs : m < 10
  · rw [if_pos (by omega)]
    rw [← key, Lib.decDigits_one hs, show m % 10 = m by omega]
    rfl
  · rw [if_neg (by omega), ← key]
    conv => rhs; rw [Lib.decDigits, dif_neg hs]
    simp
theorem dig_done {u j m : Nat} {s : List UInt8} (h : DigI u j m s) (hm : m = 0) (hj : 1 ≤ j) : s = Lib.decDigits u := by
  rcases h.2 with ⟨h3, _⟩ | ⟨_, h4⟩
  · omega
  · rwa [if_pos hm] at h4
theorem dig_end {u j m : Nat} {s : List UInt8} (h : DigI u j m s) (hu : u < 18446744073709551616) (hj : 20 ≤ j) : m = 0 := by
  have h1 : 10 ^ 20 ≤ 10 ^ j := Nat.pow_le_pow_right (by omega) hj
  have h2 : (10 : Nat) ^ 20 = 100000000000000000000 := by decide
  rw [h.1]
  exact Nat.div_eq_of_lt (by omega)

theorem conv_rd {w : World} {A : Option Addr} {l : List UInt8} {n c : Nat} (h : Rd w A (l.map fun b => .int .u8 (b.toNat : Int))) (hn : l.length = n) :
    (convert 120 9 (.slice A n c)).run Tryz.prog w = .ok (.string (str l)) w := by
  subst hn
  rcases A with _ | ad
  · have hl : l = [] := by
      rcases Nat.eq_zero_or_pos l.length with h0 | h0
      · exact List.length_eq_zero_iff.1 h0
      · obtain ⟨g, off, e, _⟩ := h (by simpa using h0); cases e
    subst hl
    exact run_convert_bytes_nil _ _ _ Tryz.underlying120 Tryz.underlying5 0 c _ Tryz.underlying9
  · refine run_convert_bytes_back w _ _ _ ad c l Tryz.underlying120 Tryz.underlying5 Tryz.underlying9 ?_
    intro j hj
    obtain ⟨g, off, e, hc⟩ := h (by simp; omega)
    cases e
    have ea : (⟨g, off, none⟩ : Addr).add j = ⟨g, off + j, none⟩ := by unfold Addr.add; by_cases hj : j = 0 <;> simp [hj]
    rw [ea]
    exact hc j _ (by simp [hj])

theorem str_cons (b : UInt8) (s : List UInt8) : (⟨#[b]⟩ : ByteArray) ++ str s = str (b :: s) := by
  apply ByteArray.ext
  simp [ByteArray.data_append]
theorem size_snoc (b : UInt8) (s : List UInt8) : ((⟨#[b]⟩ : ByteArray) ++ str s).size = 1 + (str s).size := by
  rw [str_cons, size_of (s := b :: s) (by simp), size_of (s := s) (by simp), List.length_cons]; omega
theorem conv_one (w : World) (m : Nat) (b : UInt8) (hb : Hid (UInt8.ofNat (48 + m % 10) = b)) : (convert 120 9 (.slice (some ⟨w.heap.size, 0, none⟩) 1 1)).run Tryz.prog (w.alloc (.cells #[.int .u8 (48 + (m : Int) % 10)] 5)) =
    .ok (.string ⟨#[b]⟩) (w.alloc (.cells #[.int .u8 (48 + (m : Int) % 10)] 5)) := by
  refine conv_rd (l := [b]) (rd_made rfl ?_) rfl
  have := byte_dig (m % 10) (by omega)
  rw [hb.out] at this
  simp only [List.map_cons, List.map_nil, this]
  simp
theorem conv_zero (w : World) : (convert 120 9 (.slice (some ⟨w.heap.size, 0, none⟩) 1 1)).run Tryz.prog (w.alloc (.cells #[.int .u8 48] 5)) =
    .ok (.string ⟨#[48]⟩) (w.alloc (.cells #[.int .u8 48] 5)) := conv_rd (l := [48]) (rd_made rfl rfl) rfl

set_option maxRecDepth 100000 in
set_option maxHeartbeats 8000000 in
theorem digits_any (n : Int) (w : World) (hn : I64 n) :
    Calls Tryz.prog 88 #[.int .i64 n] w fun e w' => ∃ d, e = .returned (.string d) ∧ d.size ≤ 21 ∧ Hid (d = str (Lib.itoa n)) ∧ Keep NoB w w' := by
  obtain ⟨hn0, hn1⟩ := hn
  by_cases hneg : n < 0
  · obtain ⟨u, hu0⟩ : ∃ u : Nat, u = n.natAbs := ⟨_, rfl⟩
    have hu : u ≤ 9223372036854775808 := by omega
    have HI : Hid (Lib.itoa n = 45 :: Lib.decDigits u) := by show _ = _; rw [itoa_minus hneg, hu0]
    have hw : IntKind.u64.wrap (-IntKind.u64.wrap n) = (u : Int) := by rw [IntKind.wrap_u64, IntKind.wrap_u64]; omega
    have HU : Hid (u < 18446744073709551616) := by show _ < _; omega
    clear hu0
    go_enter Tryz.func88, Tryz.ntmps88
    go_wp2
    go_loopw [3, 4, 5] (fun mv sv kv wr => ∃ (j m : Nat) (s : List UInt8), j ≤ 20 ∧ kv = .int .i64 j ∧ mv = .int .u64 m ∧ sv = .string (str s) ∧ s.length ≤ j ∧ m ≤ u ∧ Hid (DigI u j m s) ∧ Keep NoB w wr) (fun _ _ kv _ => 20 - (intOf kv).toNat)
    case atStart => exact ⟨0, u, [], by omega, rfl, rfl, rfl, Nat.le_refl _, Nat.le_refl _, ⟨by simp, .inl ⟨rfl, rfl⟩⟩, Keep.refl _ _⟩
    case round =>
      obtain ⟨j, m, s, hj, rfl, rfl, rfl, hs, hm, hD, hK⟩ := hrel
      have hsz : (str s).size ≤ 20 := by rw [size_of (s := s) (by simp)]; omega
      obtain ⟨b, hb⟩ : ∃ b, Hid (UInt8.ofNat (48 + m % 10) = b) := ⟨_, rfl⟩
      have hcv := conv_one wr m b hb
      have hcz := conv_zero wr
      have hKz := hK.alloc (.cells #[.int .u8 48] 5)
      have hKa := hK.alloc (.cells #[.int .u8 (48 + (m : Int) % 10)] 5)
      by_cases hj2 : j < 20
      · by_cases hm0 : 0 < m
        · have HD2 := Lib.hid (dig_step hD.out (.inl hm0))
          rw [hb.out] at HD2
          go_wp2
          go_roundw
          case rel => exact ⟨j + 1, m / 10, b :: s, by omega, by go_num, by go_num, by rw [← str_cons], by simp; omega, by omega, HD2, hKa⟩
          case measure => simp [intOf]; omega
        · obtain rfl : m = 0 := by omega
          by_cases hj0 : j = 0
          · subst hj0
            have HD2 : Hid (DigI u (0 + 1) (0 / 10) (48 :: s)) := dig_step hD.out (.inr rfl)
            have HSL : Hid ((48 :: s).length ≤ 0 + 1) := by show _ ≤ _; rw [List.length_cons]; omega
            clear hcv
            go_wp2
            go_roundw
            case rel => exact ⟨0 + 1, 0 / 10, 48 :: s, by omega, by go_num, by go_num, by rw [← str_cons], HSL.out, Nat.zero_le _, HD2, hKz⟩
            case measure => simp [intOf]
          · have HE := Lib.hid (dig_done hD.out rfl (by omega))
            have hq : ((j : Int) == 0) = false := by rw [beq_eq_false_iff_ne]; omega
            clear hj0 hcv hcz hKz hKa hD
            go_wp2
            go_ret
            exact ⟨_, rfl, by rw [size_snoc]; omega, by show _ = _; rw [HI.out, ← HE.out, str_cons], hK⟩
      · obtain rfl : j = 20 := by omega
        obtain rfl : m = 0 := dig_end hD.out HU.out (Nat.le_refl _)
        have HE := Lib.hid (dig_done hD.out rfl (by omega))
        clear hcv hcz hKz hKa hD
        go_wp2
        go_ret
        exact ⟨_, rfl, by rw [size_snoc]; omega, by show _ = _; rw [HI.out, ← HE.out, str_cons], hK⟩
  · obtain ⟨u, rfl⟩ := Int.eq_ofNat_of_zero_le (a := n) (by omega)
    have hu : u < 9223372036854775808 := by omega
    have HI : Hid (Lib.itoa (u : Int) = Lib.decDigits u) := by show _ = _; rw [itoa_pos (by omega)]; simp
    go_enter Tryz.func88, Tryz.ntmps88
    go_wp2
    go_loopw [3, 4, 5] (fun mv sv kv wr => ∃ (j m : Nat) (s : List UInt8), j ≤ 20 ∧ kv = .int .i64 j ∧ mv = .int .u64 m ∧ sv = .string (str s) ∧ s.length ≤ j ∧ m ≤ u ∧ Hid (DigI u j m s) ∧ Keep NoB w wr) (fun _ _ kv _ => 20 - (intOf kv).toNat)
    case atStart => exact ⟨0, u, [], by omega, rfl, rfl, rfl, Nat.le_refl _, Nat.le_refl _, ⟨by simp, .inl ⟨rfl, rfl⟩⟩, Keep.refl _ _⟩
    case round =>
      obtain ⟨j, m, s, hj, rfl, rfl, rfl, hs, hm, hD, hK⟩ := hrel
      have hsz : (str s).size ≤ 20 := by rw [size_of (s := s) (by simp)]; omega
      obtain ⟨b, hb⟩ : ∃ b, Hid (UInt8.ofNat (48 + m % 10) = b) := ⟨_, rfl⟩
      have hcv := conv_one wr m b hb
      have hcz := conv_zero wr
      have hKz := hK.alloc (.cells #[.int .u8 48] 5)
      have hKa := hK.alloc (.cells #[.int .u8 (48 + (m : Int) % 10)] 5)
      by_cases hj2 : j < 20
      · by_cases hm0 : 0 < m
        · have HD2 := Lib.hid (dig_step hD.out (.inl hm0))
          rw [hb.out] at HD2
          go_wp2
          go_roundw
          case rel => exact ⟨j + 1, m / 10, b :: s, by omega, by go_num, by go_num, by rw [← str_cons], by simp; omega, by omega, HD2, hKa⟩
          case measure => simp [intOf]; omega
        · obtain rfl : m = 0 := by omega
          by_cases hj0 : j = 0
          · subst hj0
            have HD2 : Hid (DigI u (0 + 1) (0 / 10) (48 :: s)) := dig_step hD.out (.inr rfl)
            have HSL : Hid ((48 :: s).length ≤ 0 + 1) := by show _ ≤ _; rw [List.length_cons]; omega
            clear hcv
            go_wp2
            go_roundw
            case rel => exact ⟨0 + 1, 0 / 10, 48 :: s, by omega, by go_num, by go_num, by rw [← str_cons], HSL.out, Nat.zero_le _, HD2, hKz⟩
            case measure => simp [intOf]
          · have HE := Lib.hid (dig_done hD.out rfl (by omega))
            have hq : ((j : Int) == 0) = false := by rw [beq_eq_false_iff_ne]; omega
            clear hj0 hcv hcz hKz hKa hD
            go_wp2
            go_ret
            exact ⟨_, rfl, by omega, by show _ = _; rw [HI.out, HE.out], hK⟩
      · obtain rfl : j = 20 := by omega
        obtain rfl : m = 0 := dig_end hD.out (by omega) (Nat.le_refl _)
        have HE := Lib.hid (dig_done hD.out rfl (by omega))
        clear hcv hcz hKz hKa hD
        go_wp2
        go_ret
        exact ⟨_, rfl, by omega, by show _ = _; rw [HI.out, HE.out], hK⟩

end Go.Proofs.YtgnooffedmeenaaGreatDoor.W

namespace Go.Proofs.YtgnooffedmeenaaGreatDoor.M.L
open Go.RowKit W

def labT (ts : List Nat) (i : Nat) : Bs := (labA ts i).getD []
theorem lab_at {ts : List Nat} {i q : Nat} (hq : q < ts.length) (hx : ts[q] = i) (hn : (ts.take q).any (fun j => decide (j = i)) = false) : labT ts i = lbl ((q : Nat) : Int) := by
  unfold labT labA
  have e : (ts.findIdx? fun j => decide (j = i)) = some q := by
    rw [List.findIdx?_eq_some_iff_getElem]
    refine ⟨hq, by simpa using hx, fun j hj => ?_⟩
    rw [List.any_eq_false] at hn
    have := hn ts[j] (List.mem_take_iff_getElem.2 ⟨j, by omega, rfl⟩)
    simpa using this
  rw [e]
  rfl
theorem lab_none {ts : List Nat} {i : Nat} (hn : ts.any (fun j => decide (j = i)) = false) : labT ts i = [] := by
  unfold labT labA
  have e : (ts.findIdx? fun j => decide (j = i)) = none := by
    rw [List.findIdx?_eq_none_iff]
    intro x hx
    rw [List.any_eq_false] at hn
    simpa using hn x hx
  rw [e]
  rfl
def nvs (ts : List Nat) : List Value := ivs (ts.map fun i => ((i : Nat) : Int))
theorem nvs_len (ts : List Nat) : (nvs ts).length = ts.length := by simp [nvs, ivs]
theorem nvs_at (ts : List Nat) (i : Nat) (h : i < ts.length) : (nvs ts)[i]? = some (.int .i64 (ts[i] : Int)) := by simp [nvs, ivs, h]

set_option maxRecDepth 100000 in
set_option maxHeartbeats 4000000 in
theorem rlabel_any (A : Option Addr) (ts : List Nat) (n c i : Nat) (w : World) (hr : Rd w A (nvs ts)) (hn : Hid (ts.length = n)) (h1 : n ≤ 100000) :
    Calls Tryz.prog 85 #[.slice A n c, .int .i64 (i : Int)] w fun e w' => e = .returned (.string (str (labT ts i))) ∧ Keep NoB w w' := by
  have HR := Lib.hid hr
  obtain ⟨R, hR⟩ : ∃ R, str (labT ts i) = R := ⟨_, rfl⟩
  rw [hR]
  have HQ := Lib.hid hR
  clear hr hR
  go_enter Tryz.func85, Tryz.ntmps85
  go_wp2_with fail
  go_loopw [4, 5] (fun s v wr => ∃ q : Nat, q ≤ n ∧ v = .int .i64 q ∧ s = .string ⟨#[]⟩ ∧ Hid ((ts.take q).any (fun j => decide (j = i)) = false) ∧ Keep NoB w wr) (fun _ i _ => n - (intOf i).toNat)
  case atStart => exact ⟨0, Nat.zero_le _, rfl, rfl, rfl, Keep.refl _ _⟩
  case round =>
    obtain ⟨q, hq, rfl, rfl, hno, hK⟩ := hrel
    by_cases hlt : q < n
    · have hql : q < ts.length := by rw [hn.out]; exact hlt
      obtain ⟨g, off, rfl, hc⟩ := HR.out (by rw [nvs_len]; omega)
      have c0 := hK.cell (hc q _ (nvs_at ts q hql)) id
      have HT := Lib.hid (show ts.take (q + 1) = ts.take q ++ [ts[q]] from List.take_succ_eq_append_getElem hql)
      by_cases he : ts[q] = i
      · have HL : Hid (labT ts i = lbl ((q : Nat) : Int)) := lab_at hql he hno.out
        have HD := Lib.hid (fun W => digits_any (q : Int) W ⟨by omega, by omega⟩)
        have HX : Hid ((⟨#[76]⟩ : ByteArray) ++ str (Lib.itoa (q : Int)) = str (lbl ((q : Nat) : Int))) := lit_app #[76] _
        rw [he] at c0
        have HE : Hid (R = (⟨#[76]⟩ : ByteArray) ++ str (Lib.itoa (q : Int))) := by show _ = _; rw [← HQ.out, HL.out, ← HX.out]
        clear hno HT he hc HL
        go_wp2_with (go_at_call 88; refine (HD.out _).mono ?_; rintro e w2 ⟨d, rfl, hd1, hd2, k2⟩)
        go_ret
        rw [HE.out, hd2.out]
        exact ⟨rfl, keepN hK k2⟩
      · have hq2 : (((ts[q] : Nat) : Int) == (i : Int)) = false := by rw [beq_eq_false_iff_ne]; omega
        have hno2 : Hid ((ts.take (q + 1)).any (fun j => decide (j = i)) = false) := by
          show _ = _
          rw [HT.out, List.any_append, hno.out]
          simp [he]
        clear hno HT hc
        generalize ts[q] = x at c0 hq2
        clear he
        go_wp2
        go_roundw
        case rel => exact ⟨q + 1, by omega, by go_num, rfl, hno2, hK⟩
        case measure => simp [intOf]; omega
    · have HL : Hid (labT ts i = []) := by
        have := hno.out
        rw [List.take_of_length_le (by rw [hn.out]; omega)] at this
        exact lab_none this
      have HE : Hid (R = ⟨#[]⟩) := by show _ = _; rw [← HQ.out, HL.out]
      clear hno HL
      go_wp2
      go_ret
      rw [HE.out]
      exact ⟨rfl, hK⟩

end Go.Proofs.YtgnooffedmeenaaGreatDoor.M.L

namespace Go.Proofs.YtgnooffedmeenaaGreatDoor.O
open Go.RowKit

def strC (l : List (List UInt8)) : Array Value := (l.map fun s => Value.string (str s)).toArray
theorem strC_at (l : List (List UInt8)) (k : Nat) (hk : k < l.length) : (strC l)[k]? = some (.string (str l[k])) := by
  unfold strC
  simp [hk]
def letNs : List (List UInt8) := [[63], [73], [82], [70], [80]]

set_option maxRecDepth 100000 in
theorem rletters_any (w : World) :
    Calls Tryz.prog 212 #[] w fun e w' => e = .returned (.slice (some ⟨w.heap.size, 0, none⟩) 5 5) ∧ w' = w.alloc (.cells (strC letNs) 9) := by
  go_enter Tryz.func212, Tryz.ntmps212
  go_wp2
  go_ret
  exact ⟨rfl, by kernel_rfl⟩
set_option maxRecDepth 100000 in
theorem rbins_any (w : World) :
    Calls Tryz.prog 213 #[] w fun e w' => e = .returned (.slice (some ⟨w.heap.size, 0, none⟩) 14 14) ∧ w' = w.alloc (.cells (strC A.binNs) 9) := by
  go_enter Tryz.func213, Tryz.ntmps213
  go_wp2
  go_ret
  exact ⟨rfl, by kernel_rfl⟩
set_option maxRecDepth 100000 in
theorem runs_any (w : World) :
    Calls Tryz.prog 214 #[] w fun e w' => e = .returned (.slice (some ⟨w.heap.size, 0, none⟩) 9 9) ∧ w' = w.alloc (.cells (strC A.unNs) 9) := by
  go_enter Tryz.func214, Tryz.ntmps214
  go_wp2
  go_ret
  exact ⟨rfl, by kernel_rfl⟩

end Go.Proofs.YtgnooffedmeenaaGreatDoor.O

namespace Go.Proofs.YtgnooffedmeenaaGreatDoor.O
open Go.RowKit

theorem word_let {k n : Int} (hk : k = 2 ∨ k = 3) (h0 : 1 ≤ n) (h1 : n ≤ 4) : ∃ j : Nat, n = (j : Int) ∧ j < 5 ∧ (strC letNs)[j]? = some (.string (str (word k n))) := by
  have hc : n = 1 ∨ n = 2 ∨ n = 3 ∨ n = 4 := by omega
  have hw : word k n = W.letC n := by unfold word; rw [if_pos hk]
  rw [hw]
  rcases hc with rfl | rfl | rfl | rfl
  · exact ⟨1, rfl, by decide, by kernel_rfl⟩
  · exact ⟨2, rfl, by decide, by kernel_rfl⟩
  · exact ⟨3, rfl, by decide, by kernel_rfl⟩
  · exact ⟨4, rfl, by decide, by kernel_rfl⟩

set_option maxHeartbeats 2000000 in
theorem rword_let (k n : Int) (w : World) (hk : k = 2 ∨ k = 3) (h0 : 1 ≤ n) (h1 : n ≤ 4) :
    Calls Tryz.prog 152 #[.int .i64 k, .int .i64 n] w fun e w' => e = .returned (.string (str (word k n))) ∧ Keep NoB w w' := by
  obtain ⟨j, rfl, hj, hs⟩ := word_let hk h0 h1
  clear h0 h1
  generalize str (word k (j : Int)) = s at hs ⊢
  have hcell : (w.alloc (.cells (strC letNs) 9)).cell? ⟨w.heap.size, j, none⟩ = some (.string s) := by
    rw [World.cell?_alloc_at _ _ _ _ rfl]; exact hs
  clear hs
  rcases hk with rfl | rfl
  all_goals
    go_enter Tryz.func152, Tryz.ntmps152
    go_wp2_with fail
    refine (rletters_any _).mono ?_
    rintro e w1 ⟨rfl, rfl⟩
    go_wp2
    go_ret
    exact ⟨rfl, (Keep.refl NoB w).alloc _⟩

set_option maxHeartbeats 2000000 in
theorem rword_num (k n : Int) (w : World) (h2 : k ≠ 2) (h3 : k ≠ 3) (h8 : k ≠ 8) (h9 : k ≠ 9) (hn : W.I64 n) :
    Calls Tryz.prog 152 #[.int .i64 k, .int .i64 n] w fun e w' => e = .returned (.string (str (word k n))) ∧ Keep NoB w w' := by
  have HD := Lib.hid (fun w => W.digits_any n w hn)
  have HX : Hid (word k n = Lib.itoa n) := by show _ = _; unfold word; rw [if_neg (by omega), if_neg h8, if_neg h9]
  have q2 : (k == 2) = false := by rw [beq_eq_false_iff_ne]; exact h2
  have q3 : (k == 3) = false := by rw [beq_eq_false_iff_ne]; exact h3
  have q8 : (k == 8) = false := by rw [beq_eq_false_iff_ne]; exact h8
  have q9 : (k == 9) = false := by rw [beq_eq_false_iff_ne]; exact h9
  clear h2 h3 h8 h9 hn
  go_enter Tryz.func152, Tryz.ntmps152
  go_wp2_with fail
  refine (HD.out _).mono ?_
  rintro e w1 ⟨d, rfl, _, hd, k1⟩
  go_wp2
  go_ret
  have hs : str (Lib.itoa n) = d := hd.out.symm
  exact ⟨by rw [HX.out, hs]; rfl, k1⟩

theorem name_cell (l : List (List UInt8)) (j : Nat) (hj : j < l.length) : (strC l)[j]? = some (.string (str (A.nameAt l (j : Int)))) := by
  rw [strC_at l j hj]
  unfold A.nameAt
  rw [if_pos (by omega)]
  simp [hj]

set_option maxHeartbeats 2000000 in
theorem rword_8 (n : Int) (w : World) (h0 : 0 ≤ n) (h1 : n < 14) :
    Calls Tryz.prog 152 #[.int .i64 8, .int .i64 n] w fun e w' => e = .returned (.string (str (word 8 n))) ∧ Keep NoB w w' := by
  obtain ⟨j, rfl⟩ : ∃ j : Nat, n = (j : Int) := ⟨n.toNat, by omega⟩
  have hj : j < 14 := by omega
  have hcell : (w.alloc (.cells (strC A.binNs) 9)).cell? ⟨w.heap.size, j, none⟩ = some (.string (str (word 8 (j : Int)))) := by
    rw [World.cell?_alloc_at _ _ _ _ rfl]; exact name_cell A.binNs j hj
  clear h0 h1
  generalize str (word 8 (j : Int)) = s at hcell ⊢
  go_enter Tryz.func152, Tryz.ntmps152
  go_wp2_with fail
  refine (rbins_any _).mono ?_
  rintro e w1 ⟨rfl, rfl⟩
  go_wp2
  go_ret
  exact ⟨rfl, (Keep.refl NoB w).alloc _⟩

set_option maxHeartbeats 2000000 in
theorem rword_9 (n : Int) (w : World) (h0 : 0 ≤ n) (h1 : n < 9) :
    Calls Tryz.prog 152 #[.int .i64 9, .int .i64 n] w fun e w' => e = .returned (.string (str (word 9 n))) ∧ Keep NoB w w' := by
  obtain ⟨j, rfl⟩ : ∃ j : Nat, n = (j : Int) := ⟨n.toNat, by omega⟩
  have hj : j < 9 := by omega
  have hcell : (w.alloc (.cells (strC A.unNs) 9)).cell? ⟨w.heap.size, j, none⟩ = some (.string (str (word 9 (j : Int)))) := by
    rw [World.cell?_alloc_at _ _ _ _ rfl]; exact name_cell A.unNs j hj
  clear h0 h1
  generalize str (word 9 (j : Int)) = s at hcell ⊢
  go_enter Tryz.func152, Tryz.ntmps152
  go_wp2_with fail
  refine (runs_any _).mono ?_
  rintro e w1 ⟨rfl, rfl⟩
  go_wp2
  go_ret
  exact ⟨rfl, (Keep.refl NoB w).alloc _⟩

theorem rword_any (k n : Int) (w : World) (h : inK k n = true) (hn : W.I64 n) :
    Calls Tryz.prog 152 #[.int .i64 k, .int .i64 n] w fun e w' => e = .returned (.string (str (word k n))) ∧ Keep NoB w w' := by
  have h := of_decide_eq_true h
  by_cases h2 : k = 2
  · rw [h2] at h; exact rword_let k n w (.inl h2) h.1 h.2
  · by_cases h3 : k = 3
    · rw [h3] at h
      have e : hi 3 = 3 := rfl
      exact rword_let k n w (.inr h3) h.1 (by omega)
    · by_cases h8 : k = 8
      · subst h8
        have e : hi 8 = 13 := rfl
        have e0 : lo 8 = 0 := rfl
        exact rword_8 n w (by omega) (by omega)
      · by_cases h9 : k = 9
        · subst h9
          have e : hi 9 = 8 := rfl
          have e0 : lo 9 = 0 := rfl
          exact rword_9 n w (by omega) (by omega)
        · exact rword_num k n w h2 h3 h8 h9 hn

end Go.Proofs.YtgnooffedmeenaaGreatDoor.O

namespace Go.Proofs.YtgnooffedmeenaaGreatDoor.O
open Go.RowKit

theorem word_size (k n : Int) (hn : I64 n) : (str (word k n)).size ≤ 21 := by
  rw [_root_.Go.Proofs.YtgnooffedmeenaaGreatDoor.W.size_of (s := word k n) (by simp)]; exact word_len k n hn
theorem nm_size (op : Int) : (str (rowAt op).name).size ≤ 7 := by
  rw [_root_.Go.Proofs.YtgnooffedmeenaaGreatDoor.W.size_of (s := (rowAt op).name) (by simp)]; exact name_len op
theorem str_put (s d : List UInt8) : (str s ++ (⟨#[32]⟩ : ByteArray)) ++ str d = str (s ++ 32 :: d) := by
  apply ByteArray.ext
  simp [ByteArray.data_append]

set_option maxRecDepth 100000 in
set_option maxHeartbeats 4000000 in
theorem rshow_any (op a b : Int) (w : World) (ha : I64 a) (hb : I64 b) :
    Calls Tryz.prog 86 #[instV op a b] w fun e w' => e = .returned (.string (str (showI op a b))) ∧ Keep NoB w w' := by
  have HC := Lib.hid (fun w => rcheck_any op a b w ha hb)
  have bx := Blk.new w 55 #[.int .i64 op, .int .i64 a, .int .i64 b]
  have gK := (Keep.refl NoB w).alloc (.cells #[.int .i64 op, .int .i64 a, .int .i64 b] 55)
  cases hok : okI op a b
  · have HX : Hid (showI op a b = [] ∧ chk op a b = 40) := ⟨by unfold showI; rw [if_neg (by rw [hok]; decide)], by unfold chk; rw [if_neg (by rw [hok]; decide)]⟩
    rw [HX.out.2] at HC
    clear hok ha hb
    go_enter Tryz.func86, Tryz.ntmps86
    go_wp2_with fail
    refine (HC.out _).mono ?_
    rintro e w1 ⟨rfl, k1⟩
    go_wp2
    go_ret
    exact ⟨by rw [HX.out.1]; rfl, keepN gK k1⟩
  · have HX : Hid (showI op a b = textI op a b ∧ chk op a b = 0) := ⟨by unfold showI; rw [if_pos hok], by unfold chk; rw [if_pos hok]⟩
    rw [HX.out.2] at HC
    obtain ⟨ho, hA, hB⟩ := ok_op hok
    have hop := isOp_yes ho
    obtain ⟨k, rfl⟩ := Int.eq_ofNat_of_zero_le hop.1
    have hk : k < 30 := by omega
    have hcell : ∀ w : World, (w.alloc (.cells namesC 9)).cell? ⟨w.heap.size, k, none⟩ = some (.string (str (rowAt (k : Int)).name)) := fun w => by
      rw [World.cell?_alloc_at _ _ _ _ rfl]
      exact namesC_at k hk
    have HKn := Lib.hid (fun w => rkinds_any (k : Int) w)
    have HWA := Lib.hid (fun w => rword_any (rowAt (k : Int)).ka a w hA ha)
    have HWB := Lib.hid (fun w => rword_any (rowAt (k : Int)).kb b w hB hb)
    have hka := kinds_ok (k : Int)
    have hkn := kinds_none (k : Int)
    have sA := word_size (rowAt (k : Int)).ka a ha
    have sB := word_size (rowAt (k : Int)).kb b hb
    have sN := nm_size (k : Int)
    have HT : Hid (str (showI (k : Int) a b) = str ((rowAt (k : Int)).name ++ (partL (rowAt (k : Int)).ka a ++ partL (rowAt (k : Int)).kb b))) := by show _ = _; rw [HX.out.1]; rfl
    have b0 : decide ((k : Int) < 0) = false := by rw [decide_eq_false_iff_not]; omega
    have b1 : decide (30 ≤ (k : Int)) = false := by rw [decide_eq_false_iff_not]; omega
    have hmix : Tryz.prog.follows .mixedOrders = true := by kernel_rfl
    clear HX hok ho hA hB ha hb hop
    by_cases h0 : (rowAt (k : Int)).ka = 0
    · have h00 := hkn h0
      have HT2 : Hid (str (showI (k : Int) a b) = str (rowAt (k : Int)).name) := by show _ = _; rw [HT.out]; unfold partL; rw [if_pos h0, if_pos h00]; simp
      rw [h0, h00] at HKn
      clear HT HWA HWB hka hkn sA sB h0 h00
      generalize str (rowAt (k : Int)).name = S at *
      go_enter Tryz.func86, Tryz.ntmps86
      go_wp2_with fail
      refine (HC.out _).mono ?_
      rintro e w1 ⟨rfl, k1⟩
      replace bx := bx.keep k1 id
      replace gK := keepN gK k1
      clear k1
      obtain ⟨x0, x1, x2⟩ := blk_inst bx
      go_wp2_with fail
      refine (HKn.out _).mono ?_
      rintro e w2 ⟨rfl, rfl⟩
      have d1 := hcell w1
      obtain ⟨y0, y1, y2⟩ := blk_inst (bx.alloc (.cells namesC 9))
      go_wp2_with fail
      go_region_with (go_at_call 151; refine (rnames_any _).mono ?_; rintro e w' ⟨rfl, rfl⟩)
      all_goals
        go_wp2
        go_ret
        exact ⟨by rw [HT2.out]; rfl, by first | exact gK.alloc _ | exact (gK.alloc _).drew | exact gK.drew.alloc _⟩
    · have d0 : decide (0 < (rowAt (k : Int)).ka) = true := by rw [decide_eq_true_iff]; omega
      by_cases h1 : (rowAt (k : Int)).kb = 0
      · have HT2 : Hid (str (showI (k : Int) a b) = (str (rowAt (k : Int)).name ++ (⟨#[32]⟩ : ByteArray)) ++ str (word (rowAt (k : Int)).ka a)) := by
          show _ = _; rw [HT.out, str_put]; unfold partL; rw [if_neg h0, if_pos h1]; simp
        rw [h1] at HKn
        clear HT HWB hkn sB h0 h1
        generalize str (word (rowAt (k : Int)).ka a) = D at *
        generalize str (rowAt (k : Int)).name = S at *
        generalize (rowAt (k : Int)).ka = ka at *
        have q1 : ¬ 9223372036854775807 < S.size + 1 := by omega
        have q2 : ¬ 9223372036854775807 < S.size + 1 + D.size := by omega
        go_enter Tryz.func86, Tryz.ntmps86
        go_wp2_with fail
        refine (HC.out _).mono ?_
        rintro e w1 ⟨rfl, k1⟩
        replace bx := bx.keep k1 id
        replace gK := keepN gK k1
        clear k1
        obtain ⟨x0, x1, x2⟩ := blk_inst bx
        go_wp2_with fail
        refine (HKn.out _).mono ?_
        rintro e w2 ⟨rfl, rfl⟩
        have d1 := hcell w1
        obtain ⟨y0, y1, y2⟩ := blk_inst (bx.alloc (.cells namesC 9))
        go_wp2_with fail
        go_region_with (go_at_call 151; refine (rnames_any _).mono ?_; rintro e w' ⟨rfl, rfl⟩)
        all_goals
          go_wp2_with fail
          refine (HWA.out _).mono ?_
          rintro e w3 ⟨rfl, k2⟩
          go_wp2
          go_ret
          exact ⟨by rw [HT2.out]; rfl, by first | exact keepN (gK.alloc _) k2 | exact keepN (gK.alloc _).drew k2 | exact keepN (gK.drew.alloc _) k2⟩
      · have e0 : decide (0 < (rowAt (k : Int)).kb) = true := by rw [decide_eq_true_iff]; omega
        have HT2 : Hid (str (showI (k : Int) a b) = (((str (rowAt (k : Int)).name ++ (⟨#[32]⟩ : ByteArray)) ++ str (word (rowAt (k : Int)).ka a)) ++ (⟨#[32]⟩ : ByteArray)) ++ str (word (rowAt (k : Int)).kb b)) := by
          show _ = _; rw [HT.out, str_put, str_put]; unfold partL; rw [if_neg h0, if_neg h1]; simp
        clear HT hkn h0 h1
        generalize str (word (rowAt (k : Int)).ka a) = D at *
        generalize str (word (rowAt (k : Int)).kb b) = F at *
        generalize str (rowAt (k : Int)).name = S at *
        generalize (rowAt (k : Int)).ka = ka at *
        generalize (rowAt (k : Int)).kb = kb at *
        have q1 : ¬ 9223372036854775807 < S.size + 1 := by omega
        have q2 : ¬ 9223372036854775807 < S.size + 1 + D.size := by omega
        have q3 : ¬ 9223372036854775807 < S.size + 1 + D.size + 1 := by omega
        have q4 : ¬ 9223372036854775807 < S.size + 1 + D.size + 1 + F.size := by omega
        go_enter Tryz.func86, Tryz.ntmps86
        go_wp2_with fail
        refine (HC.out _).mono ?_
        rintro e w1 ⟨rfl, k1⟩
        replace bx := bx.keep k1 id
        replace gK := keepN gK k1
        clear k1
        obtain ⟨x0, x1, x2⟩ := blk_inst bx
        go_wp2_with fail
        refine (HKn.out _).mono ?_
        rintro e w2 ⟨rfl, rfl⟩
        have d1 := hcell w1
        obtain ⟨y0, y1, y2⟩ := blk_inst (bx.alloc (.cells namesC 9))
        go_wp2_with fail
        go_region_with (go_at_call 151; refine (rnames_any _).mono ?_; rintro e w' ⟨rfl, rfl⟩)
        all_goals
          go_wp2_with fail
          refine (HWA.out _).mono ?_
          rintro e w3 ⟨rfl, k2⟩
          have K1 : Keep NoB w1 w3 := by first | exact keepN ((Keep.refl NoB w1).alloc _) k2 | exact keepN ((Keep.refl NoB w1).alloc _).drew k2 | exact keepN ((Keep.refl NoB w1).drew.alloc _) k2
          obtain ⟨z0, z1, z2⟩ := blk_inst (bx.keep K1 id)
          go_wp2_with fail
          refine (HWB.out _).mono ?_
          rintro e w4 ⟨rfl, k3⟩
          go_wp2
          go_ret
          exact ⟨by rw [HT2.out]; rfl, keepN (keepN gK K1) k3⟩

end Go.Proofs.YtgnooffedmeenaaGreatDoor.O
