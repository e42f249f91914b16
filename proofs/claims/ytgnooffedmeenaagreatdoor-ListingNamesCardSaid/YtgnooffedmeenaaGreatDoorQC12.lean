/-
  Part 12 of the proofs of LNamesRow, LOneRow: what is laid, and what the functions that the law runs answer. Conditions: each theorem names its own.
-/
import Derived.Scope
import Derived.Test.YtgnooffedmeenaaGreatDoorQC11
namespace Go.Proofs.YtgnooffedmeenaaGreatDoor.M.L
open Go.RowKit Go.Shelf W

def numQ : Nat → List Ln4 → List (Nat × Ln4)
 | _, [] => []
 | n, l :: r => (n, l) :: numQ (n + 1) r
theorem numQ_len : ∀ (n : Nat) (l : List Ln4), (numQ n l).length = l.length
 | _, [] => rfl
 | n, _ :: r => by rw [numQ, List.length_cons, List.length_cons, numQ_len]
theorem numQ_snd : ∀ (n : Nat) (l : List Ln4), (numQ n l).map Prod.snd = l
 | _, [] => rfl
 | n, x :: r => by rw [numQ, List.map_cons, numQ_snd]
abbrev NL := Nat × Ln4
def encQ (x : NL) : Array Value := #[.int .i64 (x.1 : Int), .agg (lnC x.2)]
def EnQ (seq : List Ln4) (pre : List NL) (x : NL) : Prop := ∃ post, numQ 1 seq = pre ++ x :: post
structure ShIt (W : World) (bs : Nat) (s : SH) (es : List I.SE) (fs : List I.FE) (lab : Nat → Nat → Bool) : Prop where
 bx : Blk W bs 72 s.cells
 im : I.ImAt W s.v es fs
 lb : LabAt s.m lab W

abbrev JT := List NL → BSet → World → Prop
theorem yield_any {m n : Nat} {P : Program} {l : Nat} {args : Array Value} {W : World} {R : Ending → World → Prop} (h : YieldAt Fence.wide m P l args W R) : YieldAt Fence.wide n P l args W R := by
 obtain ⟨f1, f2, f3, f4, h1, h2, h3⟩ := h
 exact ⟨f1, f2, f3, f4, h1, h2, fun c cs _ => h3 c cs (room_wide _)⟩
structure IE (J Jx : JT) (H : World → Prop) (p0 : BSet) (N0 L : Nat) (seq : List Ln4) : Prop where
 hJ : KeepsOutU 5 N0 J
 hH : ∀ O W1 W2, (∀ k, O k → p0 k ∨ N0 ≤ k) → H W1 → Keep O W1 W2 → H W2
 hY : ∀ m pre x p W1, J pre p W1 → EnQ seq pre x → YieldAt Fence.wide m Tryz.prog L (encQ x) W1 fun e W' => ∃ p', Rnd p p' W1 W' ∧ ((e = .returned (.bool true) ∧ J (pre ++ [x]) p' W') ∨ (e = .returned (.bool false) ∧ Jx (pre ++ [x]) p' W'))
 hl : seq.length ≤ 100000
 hb : ∀ pre p W, J pre p W → ∀ k, p k → k < W.heap.size
abbrev XB := Nat × TypeId × Array Value
structure TS (J : JT) (H : World → Prop) (p0 : BSet) (N0 L nb yb : Nat) (seq : List Ln4) (X : List XB) (pre : List NL) (rest : List Ln4) (p : BSet) (W : World) : Prop where
 q : numQ 1 seq = pre ++ numQ (pre.length + 1) rest
 j : J pre p W
 n : Blk W nb 3 #[.int .i64 (pre.length : Int)]
 y : Blk W yb 153 #[.func (.yield L) #[] #[]]
 pn : ¬ p nb
 py : ¬ p yb
 gn : N0 ≤ nb
 own : ∀ k, k < N0 → p k → p0 k
 h : H W
 x : ∀ e ∈ X, Blk W e.1 e.2.1 e.2.2 ∧ ¬ p e.1 ∧ e.1 ≠ nb
section
variable {J Jx : JT} {H : World → Prop} {p0 p : BSet} {N0 L nb yb : Nat} {seq rest : List Ln4} {X : List XB} {pre : List NL} {W : World}
theorem TS.lenr (h : TS J H p0 N0 L nb yb seq X pre rest p W) : pre.length + rest.length = seq.length := by
 have := congrArg List.length h.q
 rw [numQ_len, List.length_append, numQ_len] at this
 omega
theorem TS.alloc (h : TS J H p0 N0 L nb yb seq X pre rest p W) (E : IE J Jx H p0 N0 L seq) (o : Obj) (ho : ∀ c fz, o ≠ .cells c 5 fz) : TS J H p0 N0 L nb yb seq X pre rest p (W.alloc o) :=
 ⟨h.q, E.hJ _ _ _ _ h.j (IStepU.alloc o ho), h.n.alloc o, h.y.alloc o, h.pn, h.py, h.gn, h.own, E.hH NoB _ _ (fun _ hf => hf.elim) h.h ((Keep.refl _ _).alloc o), fun e he => ⟨(h.x e he).1.alloc o, (h.x e he).2⟩⟩
theorem TS.more (h : TS J H p0 N0 L nb yb seq X pre rest p W) (E : IE J Jx H p0 N0 L seq) (cs : Array Value) (t : TypeId) (ht : t ≠ 5) : TS J H p0 N0 L nb yb seq ((W.heap.size, t, cs) :: X) pre rest p (W.alloc (.cells cs t)) :=
 { h.alloc E (.cells cs t) (fun c fz e => by cases e; exact ht rfl) with
  x := fun e he => by
   rcases List.mem_cons.1 he with rfl | he
   ·exact ⟨Blk.new _ _ _, fun hh => by have := E.hb _ _ _ h.j _ hh; dsimp only at this; omega, by have := h.n.lt; dsimp only; omega⟩
   ·exact ⟨(h.x e he).1.alloc _, (h.x e he).2⟩ }
theorem TS.less {X' : List XB} (h : TS J H p0 N0 L nb yb seq X pre rest p W) (hX : ∀ e ∈ X', e ∈ X) : TS J H p0 N0 L nb yb seq X' pre rest p W := { h with x := fun e he => h.x e (hX e he) }
end
def TellR (J Jx : JT) (H : World → Prop) (p0 : BSet) (N0 L nb yb : Nat) (seq : List Ln4) (X : List XB) (rest : List Ln4) (e : Ending) (W' : World) : Prop :=
 ∃ p', (e = .returned (.bool true) ∧ ∃ pre, TS J H p0 N0 L nb yb seq X pre rest p' W') ∨ (e = .returned (.bool false) ∧ ∃ pre, (∃ post, numQ 1 seq = pre ++ post) ∧ Jx pre p' W')

set_option maxRecDepth 100000 in
set_option maxHeartbeats 2000000 in
theorem tell_any (k : Nat) {J Jx : JT} {H : World → Prop} {p0 p : BSet} {N0 L nb yb : Nat} {seq rest : List Ln4} {X : List XB} {pre : List NL} {W : World} (l : Ln4) (E : IE J Jx H p0 N0 L seq) (h : TS J H p0 N0 L nb yb seq X pre (l :: rest) p W) :
  CallsIn Fence.wide k Tryz.prog 94 #[.agg (lnC l), .pointer (some ⟨nb, 0, none⟩), .pointer (some ⟨yb, 0, none⟩)] W (TellR J Jx H p0 N0 L nb yb seq X rest) := by
 have h1 := h.alloc E (.cells (lnC l) 84) (fun c fz e => by cases e)
 have hB := Blk.new W 84 (lnC l)
 have hlen := h.lenr
 have hq := h.q
 have hlb := E.hl
 simp only [List.length_cons] at hlen
 generalize hW1 : W.alloc (.cells (lnC l) 84) = W1 at *
 have hst : IStepU 5 N0 p W1 (W1.setCell ⟨nb, 0, none⟩ (.int .i64 ((pre.length : Int) + 1))) := IStepU.setCell 0 _ h1.n (by decide) h1.gn h1.pn
 have hJ2 := E.hJ _ _ _ _ h1.j hst
 have hH2 := E.hH (fun k => k = nb) _ _ (fun k hk => by subst hk; exact .inr h1.gn) h1.h ((Keep.refl (fun k => k = nb) W1).setCell (p := ⟨nb, 0, none⟩) (fun _ => rfl) (.int .i64 ((pre.length : Int) + 1)))
 have hyn : yb ≠ nb := fun e => by
  have h2 := h1.n; have h3 := h1.y
  rw [e] at h3
  have := (show W1.heap[nb]? = _ from h2).symm.trans h3
  simp at this
 have hn2 : Blk (W1.setCell ⟨nb, 0, none⟩ (.int .i64 ((pre.length : Int) + 1))) nb 3 #[.int .i64 ((pre.length : Int) + 1)] := h1.n.put 0 _
 have hy2 := h1.y.far (p := ⟨nb, 0, none⟩) hyn (.int .i64 ((pre.length : Int) + 1))
 have hx2 : ∀ e ∈ X, Blk (W1.setCell ⟨nb, 0, none⟩ (.int .i64 ((pre.length : Int) + 1))) e.1 e.2.1 e.2.2 := fun e he => (h1.x e he).1.far (p := ⟨nb, 0, none⟩) (h1.x e he).2.2 _
 have hbn : W.heap.size ≠ nb := fun e => by have := h.n.lt; omega
 have hB2 := hB.far (p := ⟨nb, 0, none⟩) hbn (.int .i64 ((pre.length : Int) + 1))
 have a0 := h1.n.cell 0
 have f0 := h1.n.frozen 0
 have b0 := hn2.cell 0
 have y0 := hy2.cell 0
 have c0 := hB2.cell 0
 have c1 := hB2.cell 1
 have c2 := hB2.cell 2
 have c3 := hB2.cell 3
 have hen : EnQ seq pre (pre.length + 1, l) := ⟨_, hq⟩
 have HY : YieldAt Fence.wide (k - 1) Tryz.prog L #[.int .i64 ((pre.length : Int) + 1), .agg (lnC l)] _ _ := E.hY (k - 1) pre (pre.length + 1, l) p _ hJ2 hen
 have HX := Lib.hid h1.x
 have HQ : Hid (numQ 1 seq = (pre ++ [(pre.length + 1, l)]) ++ numQ ((pre ++ [(pre.length + 1, l)]).length + 1) rest) := by
  show _ = _
  rw [hq, List.append_assoc, List.length_append]
  rfl
 have HF : Hid (∀ p' W', Rnd p p' (W1.setCell ⟨nb, 0, none⟩ (.int .i64 ((pre.length : Int) + 1))) W' → J (pre ++ [(pre.length + 1, l)]) p' W' → TS J H p0 N0 L nb yb seq X (pre ++ [(pre.length + 1, l)]) rest p' W') := by
  intro p' W' hr hj
  have hz : (W1.setCell ⟨nb, 0, none⟩ (.int .i64 ((pre.length : Int) + 1))).heap.size = W1.heap.size := by simp [World.setCell]
  have hN0 : N0 ≤ W1.heap.size := by have := h1.n.lt; have := h1.gn; omega
  refine ⟨HQ.out, hj, ?_, (hr.same hy2.lt h1.py).trans hy2, hr.not hn2.lt h1.pn, hr.not hy2.lt h1.py, h1.gn, fun k hk hp => h1.own k hk (hr.own k (by rw [hz]; omega) hp), E.hH p _ _ (fun k hk => ?_) hH2 hr.keep, fun e he => ⟨(hr.same (hx2 e he).lt (h1.x e he).2.1).trans (hx2 e he), hr.not (hx2 e he).lt (h1.x e he).2.1, (h1.x e he).2.2⟩⟩
  ·have h3 := (hr.same hn2.lt h1.pn).trans hn2
   rw [List.length_append]
   exact h3
  ·by_cases hk0 : k < N0
   ·exact .inl (h1.own k hk0 hk)
   ·exact .inr (by omega)
 have hpl : pre.length ≤ 100000 := by omega
 have HP : Hid (∃ post, numQ 1 seq = (pre ++ [(pre.length + 1, l)]) ++ post) := ⟨_, HQ.out⟩
 clear h h1 hB hq hJ2 hH2 hn2 hy2 hx2 hst hB2 E hen HQ HX
 obtain ⟨w, s, i, j⟩ := l
 dsimp only [lnC] at *
 simp only [List.getElem?_toArray, List.getElem?_cons_zero, List.getElem?_cons_succ] at a0 b0 y0 c0 c1 c2 c3
 generalize pre.length = n at *
 obtain ⟨fn, tmps, assign, body, hy, hR⟩ := HY
 refine callsIn_of_wp Tryz.func94 rfl trivial ?_ rfl
 simp only [Tryz.ntmps94, List.size_toArray, List.length_cons, List.length_nil, Nat.reduceAdd, Nat.reduceSub, Array.replicate_succ, Array.replicate_zero, List.push_toArray, List.append_toArray, List.nil_append, List.cons_append]
 gi_wp2
 refine ⟨(fun h => by cases h), hR.mono ?_⟩
 rintro e W3 ⟨p', hrn, ⟨rfl, hJ3⟩ | ⟨rfl, hJx3⟩⟩
 ·gi_wp2
  refine bodyPost_ret (results_tmp rfl _ _ _) rfl ?_
  exact ⟨p', .inl ⟨rfl, _, HF.out _ _ hrn hJ3⟩⟩
 ·gi_wp2
  refine bodyPost_ret (results_tmp rfl _ _ _) rfl ?_
  exact ⟨p', .inr ⟨rfl, _, HP.out, hJx3⟩⟩

end Go.Proofs.YtgnooffedmeenaaGreatDoor.M.L

namespace Go.Proofs.YtgnooffedmeenaaGreatDoor.M.L
open Go.RowKit Go.Shelf W
attribute [local go_sem] Oper.semAt_some

theorem bodyQ_at {lab : Nat → Bool} {k i n : Nat} (h : i < n) : bodyQ lab k i (n - i) = (if lab i = true then [(3, 0, k, i)] else []) ++ (4, 0, k, i) :: bodyQ lab k (i + 1) (n - (i + 1)) := by
 obtain ⟨m, hm⟩ : ∃ m, n - i = m + 1 := ⟨n - i - 1, by omega⟩
 rw [hm, bodyQ, show n - (i + 1) = m by omega]

set_option maxRecDepth 100000 in
set_option maxHeartbeats 8000000 in
theorem tellF_any (m : Nat) {J Jx : JT} {H : World → Prop} {p0 p : BSet} {N0 L nb yb bs : Nat} {seq rest : List Ln4} {X : List XB} {pre : List NL} {W : World} (s : SH) (es : List I.SE) (fs : List I.FE) (lab : Nat → Nat → Bool) (fn : Nat)
  (E : IE J Jx H p0 N0 L seq) (hH : Hid (∀ W, H W → ShIt W bs s es fs lab)) (hfn : fn < fs.length) (hn : fs.length ≤ 100000) (hb : Hid (fs[fn].2.bd.length ≤ 100000))
  (h : TS J H p0 N0 L nb yb seq X pre (funcQ lab fn fs[fn].2 ++ rest) p W) :
  CallsIn Fence.wide m Tryz.prog 95 #[s.val, .int .i64 (fn : Int), .func (.func 94) #[] #[.pointer (some ⟨nb, 0, none⟩), .pointer (some ⟨yb, 0, none⟩)]] W (TellR J Jx H p0 N0 L nb yb seq X rest) := by
 have HE := Lib.hid E
 have h1 := h.more E s.cells 72 (by decide)
 have hB := Blk.new W 72 s.cells
 have hS := hH.out _ h1.h
 obtain ⟨g, off, hY, f0, f1, f2, f3, f4⟩ := I.fun_at hS.im.ry hfn
 have hle := hS.im.ly
 have hfl := (hS.im.hf _ (List.getElem_mem hfn)).ld
 have hll := (hS.im.hf _ (List.getElem_mem hfn)).ll
 generalize hfe : fs[fn] = fe at *
 obtain ⟨⟨S, A, na, ca, B, nb2, cb, Lc, nl, cl, D, nd, cd⟩, f⟩ := fe
 obtain ⟨⟨Xa, nx, cx, Y, ny, cy⟩, lm, og, ob, bg, bb⟩ := s
 dsimp only [SH.val, SH.cells] at *
 subst hY
 have s0 := hB.cell 0
 have s1 := hB.cell 1
 have s2 := hB.cell 2
 have s3 := hB.cell 3
 have s4 := hB.cell 4
 simp only [List.getElem?_toArray, List.getElem?_cons_zero, List.getElem?_cons_succ] at s0 s1 s2 s3 s4
 generalize hW1 : W.alloc (.cells #[.slice Xa nx cx, .slice (some ⟨g, off, none⟩) ny cy, .map lm, .func (.func og) #[] ob, .func (.func bg) #[] bb] 72) = W1 at *
 have h2 := h1.more E #[.string S, .slice A na ca, .slice B nb2 cb, .slice Lc nl cl, .slice D nd cd] 37 (by decide)
 have hz1 : W1.heap.size = W.heap.size + 1 := by rw [← hW1]; simp
 have hB7 := Blk.new W1 37 #[.string S, .slice A na ca, .slice B nb2 cb, .slice Lc nl cl, .slice D nd cd]
 rw [hz1] at h2 hB7
 have g0 := hB7.cell 0
 have g1 := hB7.cell 1
 have g2 := hB7.cell 2
 have g3 := hB7.cell 3
 have g4 := hB7.cell 4
 simp only [List.getElem?_toArray, List.getElem?_cons_zero, List.getElem?_cons_succ] at g0 g1 g2 g3 g4
 generalize hW2 : W1.alloc (.cells #[.string S, .slice A na ca, .slice B nb2 cb, .slice Lc nl cl, .slice D nd cd] 37) = W2 at *
 obtain ⟨X2, hX2⟩ : ∃ X2, X2 = (W.heap.size + 1, (37 : TypeId), (#[.string S, .slice A na ca, .slice B nb2 cb, .slice Lc nl cl, .slice D nd cd] : Array Value)) :: (W.heap.size, (72 : TypeId), (#[.slice Xa nx cx, .slice (some ⟨g, off, none⟩) ny cy, .map lm, .func (.func og) #[] ob, .func (.func bg) #[] bb] : Array Value)) :: X := ⟨_, rfl⟩
 have HX7 : Hid (∀ (pre : List NL) (r : List Ln4) (p : BSet) (W' : World), TS J H p0 N0 L nb yb seq X2 pre r p W' → Blk W' (W.heap.size + 1) 37 #[.string S, .slice A na ca, .slice B nb2 cb, .slice Lc nl cl, .slice D nd cd]) := fun pre r p W' hh => (hh.x (W.heap.size + 1, (37 : TypeId), (#[.string S, .slice A na ca, .slice B nb2 cb, .slice Lc nl cl, .slice D nd cd] : Array Value)) (by rw [hX2]; exact List.mem_cons_self)).1
 have HX3 : Hid (∀ (pre : List NL) (r : List Ln4) (p : BSet) (W' : World), TS J H p0 N0 L nb yb seq X2 pre r p W' → Blk W' W.heap.size 72 #[.slice Xa nx cx, .slice (some ⟨g, off, none⟩) ny cy, .map lm, .func (.func og) #[] ob, .func (.func bg) #[] bb]) := fun pre r p W' hh => (hh.x (W.heap.size, (72 : TypeId), (#[.slice Xa nx cx, .slice (some ⟨g, off, none⟩) ny cy, .map lm, .func (.func og) #[] ob, .func (.func bg) #[] bb] : Array Value)) (by rw [hX2]; exact List.mem_cons_of_mem _ List.mem_cons_self)).1
 have HXX : Hid (∀ e ∈ X, e ∈ X2) := fun e he => by rw [hX2]; simp [he]
 rw [← hX2] at h2
 have HQ : Hid (funcQ lab fn f = (1, 0, fn, 0) :: ((if f.lc = [] then [] else [(2, 0, fn, 0)]) ++ bodyQ (lab fn) fn 0 (nd - 0))) := by show _ = _; rw [Nat.sub_zero, ← hfl]; rfl
 rw [HQ.out, List.cons_append, List.append_assoc] at h2
 have HT1 : Hid (CallsIn Fence.wide (m - 1) Tryz.prog 94 #[.agg #[.int .i64 1, .int .i64 0, .int .i64 (fn : Int), .int .i64 0], .pointer (some ⟨nb, 0, none⟩), .pointer (some ⟨yb, 0, none⟩)] W2 _) := tell_any (m - 1) (1, 0, fn, 0) E h2
 have HLL := Lib.hid hll
 have hnd : nd ≤ 100000 := by rw [← hfl]; exact hb.out
 have hfnn : fn < ny := by omega
 have hny : ny ≤ 100000 := by omega
 clear h h1 h2 hS hB hB7 E HQ hfl hll hX2 hle hfn hn hfe hb
 refine callsIn_of_wp Tryz.func95 rfl trivial ?_ rfl
 simp only [Tryz.ntmps95, List.size_toArray, List.length_cons, List.length_nil, Nat.reduceAdd, Nat.reduceSub, Array.replicate_succ, Array.replicate_zero, List.push_toArray, List.append_toArray, List.nil_append, List.cons_append]
 gi_wp2_with fail
 refine ⟨trivial, (fun h => by cases h), HT1.out.mono ?_⟩
 clear HT1 hW1 hW2 f0 f1 f2 f3 f4 s0 s1 s2 s3 s4 g0 g1 g2 g3 g4 hz1
 rintro e W3 ⟨p3, ⟨rfl, pre3, h3⟩ | ⟨rfl, pre3, hpo, hjx⟩⟩
 rotate_left
 ·have HP := Lib.hid (And.intro hpo hjx)
  clear hpo hjx
  gi_wp2
  refine bodyPost_ret (results_tmp rfl _ _ _) rfl ?_
  exact ⟨p3, .inr ⟨rfl, pre3, HP.out⟩⟩
 have b7 := HX7.out _ _ _ _ h3
 have g3 := b7.cell 3
 have g4 := b7.cell 4
 simp only [List.getElem?_toArray, List.getElem?_cons_zero, List.getElem?_cons_succ] at g3 g4
 by_cases h0 : nl = 0
 ·have e0 : f.lc = [] := List.length_eq_zero_iff.1 (by rw [HLL.out]; exact h0)
  rw [if_pos e0, List.nil_append] at h3
  subst h0
  have H3 := Lib.hid h3
  clear h3 b7 e0 HLL
  gi_wp2
  refine ⟨(fun f h => by cases h), ?_⟩
  gi_wp2
  gi_loopw [39] (fun i wr => ∃ (j : Nat) (pre : List NL) (p : BSet), j ≤ nd ∧ i = .int .i64 (j : Int) ∧ Hid (TS J H p0 N0 L nb yb seq X2 pre (bodyQ (lab fn) fn j (nd - j) ++ rest) p wr)) (fun i _ => nd - (intOf i).toNat)
  case atStart => exact ⟨0, _, _, Nat.zero_le _, rfl, H3⟩
  case round =>
   obtain ⟨j, pre4, p4, hj, rfl, HR⟩ := hrel
   by_cases hlt : j < nd
   ·have hr := HR.out
    rw [bodyQ_at hlt, List.append_assoc] at hr
    have h4 := hr.more HE.out #[.int .i64 (fn : Int), .int .i64 (j : Int)] 82 (by decide)
    obtain ⟨v, hlk⟩ := (hH.out _ h4.h).lb.look fn j (by omega) (by omega)
    have z2 := (HX3.out _ _ _ _ (h4.less (fun e he => List.mem_cons_of_mem _ he))).cell 2
    have b9 := Blk.new wr 82 #[.int .i64 (fn : Int), .int .i64 (j : Int)]
    have q0 := b9.cell 0
    have q1 := b9.cell 1
    simp only [List.getElem?_toArray, List.getElem?_cons_zero, List.getElem?_cons_succ] at z2 q0 q1
    dsimp only at hlk
    clear HR hr b9
    generalize hW4 : wr.alloc (.cells #[.int .i64 (fn : Int), .int .i64 (j : Int)] 82) = W4 at *
    have HB9 : Hid (∀ (pre : List NL) (r : List Ln4) (p : BSet) (W' : World), TS J H p0 N0 L nb yb seq ((wr.heap.size, (82 : TypeId), (#[.int .i64 (fn : Int), .int .i64 (j : Int)] : Array Value)) :: X2) pre r p W' → Blk W' wr.heap.size 82 #[.int .i64 (fn : Int), .int .i64 (j : Int)]) := fun pre r p W' hh => (hh.x (wr.heap.size, (82 : TypeId), (#[.int .i64 (fn : Int), .int .i64 (j : Int)] : Array Value)) List.mem_cons_self).1
    cases hlb : lab fn j
    ·rw [hlb, if_neg (by decide), List.nil_append, List.cons_append] at h4
     rw [hlb] at hlk
     have HT4 : Hid (CallsIn Fence.wide (m - 1) Tryz.prog 94 #[.agg #[.int .i64 4, .int .i64 0, .int .i64 (fn : Int), .int .i64 (j : Int)], .pointer (some ⟨nb, 0, none⟩), .pointer (some ⟨yb, 0, none⟩)] W4 _) := tell_any (m - 1) (4, 0, fn, j) HE.out h4
     clear h4 hlb HB9
     gi_wp2_with fail
     refine ⟨(fun f h => by cases h), ?_⟩
     gi_wp2_with fail
     refine ⟨trivial, (fun h => by cases h), HT4.out.mono ?_⟩
     clear HT4 hW4 z2 q0 q1 hlk
     rintro e W5 ⟨p5, ⟨rfl, pre5, h5⟩ | ⟨rfl, pre5, hpo, hjx⟩⟩
     ·have H5 := Lib.hid (h5.less (X' := X2) (fun e he => List.mem_cons_of_mem _ he))
      clear h5
      gi_wp2
      go_roundw
      case rel => exact ⟨j + 1, pre5, p5, by omega, by go_num, H5⟩
      case measure => simp [intOf]; omega
     ·have HP := Lib.hid (And.intro hpo hjx)
      clear hpo hjx
      gi_wp2
      refine bodyPost_ret (results_tmp rfl _ _ _) rfl ?_
      exact ⟨_, .inr ⟨rfl, _, HP.out⟩⟩
    ·rw [hlb, if_pos rfl, List.cons_append, List.nil_append, List.cons_append] at h4
     rw [hlb] at hlk
     have HT4 : Hid (CallsIn Fence.wide (m - 1) Tryz.prog 94 #[.agg #[.int .i64 3, .int .i64 0, .int .i64 (fn : Int), .int .i64 (j : Int)], .pointer (some ⟨nb, 0, none⟩), .pointer (some ⟨yb, 0, none⟩)] W4 _) := tell_any (m - 1) (3, 0, fn, j) HE.out h4
     clear h4 hlb
     gi_wp2_with fail
     refine ⟨trivial, (fun h => by cases h), HT4.out.mono ?_⟩
     clear HT4 hW4 z2 q0 q1 hlk
     rintro e W5 ⟨p5, ⟨rfl, pre5, h5⟩ | ⟨rfl, pre5, hpo, hjx⟩⟩
     ·have b9 := HB9.out _ _ _ _ h5
      have q0 := b9.cell 0
      have q1 := b9.cell 1
      simp only [List.getElem?_toArray, List.getElem?_cons_zero, List.getElem?_cons_succ] at q0 q1
      have HT5 : Hid (CallsIn Fence.wide (m - 1) Tryz.prog 94 #[.agg #[.int .i64 4, .int .i64 0, .int .i64 (fn : Int), .int .i64 (j : Int)], .pointer (some ⟨nb, 0, none⟩), .pointer (some ⟨yb, 0, none⟩)] W5 _) := tell_any (m - 1) (4, 0, fn, j) HE.out h5
      clear h5 b9 HB9
      gi_wp2_with fail
      refine ⟨trivial, (fun h => by cases h), HT5.out.mono ?_⟩
      clear HT5 q0 q1
      rintro e W6 ⟨p6, ⟨rfl, pre6, h6⟩ | ⟨rfl, pre6, hpo, hjx⟩⟩
      ·have H6 := Lib.hid (h6.less (X' := X2) (fun e he => List.mem_cons_of_mem _ he))
       clear h6
       gi_wp2
       go_roundw
       case rel => exact ⟨j + 1, pre6, p6, by omega, by go_num, H6⟩
       case measure => simp [intOf]; omega
      ·have HP := Lib.hid (And.intro hpo hjx)
       clear hpo hjx
       gi_wp2
       refine bodyPost_ret (results_tmp rfl _ _ _) rfl ?_
       exact ⟨_, .inr ⟨rfl, _, HP.out⟩⟩
     ·have HP := Lib.hid (And.intro hpo hjx)
      clear hpo hjx
      gi_wp2
      refine bodyPost_ret (results_tmp rfl _ _ _) rfl ?_
      exact ⟨_, .inr ⟨rfl, _, HP.out⟩⟩
   ·obtain rfl : j = nd := by omega
    have HF := HR
    rw [Nat.sub_self] at HF
    have HF2 : Hid (TS J H p0 N0 L nb yb seq X pre4 rest p4 wr) := HF.out.less HXX.out
    clear HR HF HXX
    gi_wp2
    refine bodyPost_ret (results_tmp rfl _ _ _) rfl ?_
    exact ⟨_, .inl ⟨rfl, _, HF2.out⟩⟩
 ·have e0 : ¬ f.lc = [] := fun e => h0 (by rw [← HLL.out, e]; rfl)
  rw [if_neg e0, List.cons_append, List.nil_append] at h3
  have hnz : (nl : Int) ≠ 0 := by omega
  have hnb : ((nl : Int) != 0) = true := by rw [bne_iff_ne]; exact hnz
  have HT2 : Hid (CallsIn Fence.wide (m - 1) Tryz.prog 94 #[.agg #[.int .i64 2, .int .i64 0, .int .i64 (fn : Int), .int .i64 0], .pointer (some ⟨nb, 0, none⟩), .pointer (some ⟨yb, 0, none⟩)] W3 _) := tell_any (m - 1) (2, 0, fn, 0) HE.out h3
  clear h3 b7 e0 HLL hnz
  gi_wp2_with fail
  refine ⟨trivial, (fun h => by cases h), HT2.out.mono ?_⟩
  clear HT2 g3 g4
  rintro e W4 ⟨p3, ⟨rfl, pre3, h3⟩ | ⟨rfl, pre3, hpo, hjx⟩⟩
  rotate_left
  ·have HP := Lib.hid (And.intro hpo hjx)
   clear hpo hjx
   gi_wp2
   refine bodyPost_ret (results_tmp rfl _ _ _) rfl ?_
   exact ⟨_, .inr ⟨rfl, _, HP.out⟩⟩
  have b7 := HX7.out _ _ _ _ h3
  have g4 := b7.cell 4
  simp only [List.getElem?_toArray, List.getElem?_cons_zero, List.getElem?_cons_succ] at g4
  have H3 := Lib.hid h3
  clear h3 b7
  gi_wp2
  gi_loopw [39] (fun i wr => ∃ (j : Nat) (pre : List NL) (p : BSet), j ≤ nd ∧ i = .int .i64 (j : Int) ∧ Hid (TS J H p0 N0 L nb yb seq X2 pre (bodyQ (lab fn) fn j (nd - j) ++ rest) p wr)) (fun i _ => nd - (intOf i).toNat)
  case atStart => exact ⟨0, _, _, Nat.zero_le _, rfl, H3⟩
  case round =>
   obtain ⟨j, pre4, p4, hj, rfl, HR⟩ := hrel
   by_cases hlt : j < nd
   ·have hr := HR.out
    rw [bodyQ_at hlt, List.append_assoc] at hr
    have h4 := hr.more HE.out #[.int .i64 (fn : Int), .int .i64 (j : Int)] 82 (by decide)
    obtain ⟨v, hlk⟩ := (hH.out _ h4.h).lb.look fn j (by omega) (by omega)
    have z2 := (HX3.out _ _ _ _ (h4.less (fun e he => List.mem_cons_of_mem _ he))).cell 2
    have b9 := Blk.new wr 82 #[.int .i64 (fn : Int), .int .i64 (j : Int)]
    have q0 := b9.cell 0
    have q1 := b9.cell 1
    simp only [List.getElem?_toArray, List.getElem?_cons_zero, List.getElem?_cons_succ] at z2 q0 q1
    dsimp only at hlk
    clear HR hr b9
    generalize hW4 : wr.alloc (.cells #[.int .i64 (fn : Int), .int .i64 (j : Int)] 82) = W4 at *
    have HB9 : Hid (∀ (pre : List NL) (r : List Ln4) (p : BSet) (W' : World), TS J H p0 N0 L nb yb seq ((wr.heap.size, (82 : TypeId), (#[.int .i64 (fn : Int), .int .i64 (j : Int)] : Array Value)) :: X2) pre r p W' → Blk W' wr.heap.size 82 #[.int .i64 (fn : Int), .int .i64 (j : Int)]) := fun pre r p W' hh => (hh.x (wr.heap.size, (82 : TypeId), (#[.int .i64 (fn : Int), .int .i64 (j : Int)] : Array Value)) List.mem_cons_self).1
    cases hlb : lab fn j
    ·rw [hlb, if_neg (by decide), List.nil_append, List.cons_append] at h4
     rw [hlb] at hlk
     have HT4 : Hid (CallsIn Fence.wide (m - 1) Tryz.prog 94 #[.agg #[.int .i64 4, .int .i64 0, .int .i64 (fn : Int), .int .i64 (j : Int)], .pointer (some ⟨nb, 0, none⟩), .pointer (some ⟨yb, 0, none⟩)] W4 _) := tell_any (m - 1) (4, 0, fn, j) HE.out h4
     clear h4 hlb HB9
     gi_wp2_with fail
     refine ⟨(fun f h => by cases h), ?_⟩
     gi_wp2_with fail
     refine ⟨trivial, (fun h => by cases h), HT4.out.mono ?_⟩
     clear HT4 hW4 z2 q0 q1 hlk
     rintro e W5 ⟨p5, ⟨rfl, pre5, h5⟩ | ⟨rfl, pre5, hpo, hjx⟩⟩
     ·have H5 := Lib.hid (h5.less (X' := X2) (fun e he => List.mem_cons_of_mem _ he))
      clear h5
      gi_wp2
      go_roundw
      case rel => exact ⟨j + 1, pre5, p5, by omega, by go_num, H5⟩
      case measure => simp [intOf]; omega
     ·have HP := Lib.hid (And.intro hpo hjx)
      clear hpo hjx
      gi_wp2
      refine bodyPost_ret (results_tmp rfl _ _ _) rfl ?_
      exact ⟨_, .inr ⟨rfl, _, HP.out⟩⟩
    ·rw [hlb, if_pos rfl, List.cons_append, List.nil_append, List.cons_append] at h4
     rw [hlb] at hlk
     have HT4 : Hid (CallsIn Fence.wide (m - 1) Tryz.prog 94 #[.agg #[.int .i64 3, .int .i64 0, .int .i64 (fn : Int), .int .i64 (j : Int)], .pointer (some ⟨nb, 0, none⟩), .pointer (some ⟨yb, 0, none⟩)] W4 _) := tell_any (m - 1) (3, 0, fn, j) HE.out h4
     clear h4 hlb
     gi_wp2_with fail
     refine ⟨trivial, (fun h => by cases h), HT4.out.mono ?_⟩
     clear HT4 hW4 z2 q0 q1 hlk
     rintro e W5 ⟨p5, ⟨rfl, pre5, h5⟩ | ⟨rfl, pre5, hpo, hjx⟩⟩
     ·have b9 := HB9.out _ _ _ _ h5
      have q0 := b9.cell 0
      have q1 := b9.cell 1
      simp only [List.getElem?_toArray, List.getElem?_cons_zero, List.getElem?_cons_succ] at q0 q1
      have HT5 : Hid (CallsIn Fence.wide (m - 1) Tryz.prog 94 #[.agg #[.int .i64 4, .int .i64 0, .int .i64 (fn : Int), .int .i64 (j : Int)], .pointer (some ⟨nb, 0, none⟩), .pointer (some ⟨yb, 0, none⟩)] W5 _) := tell_any (m - 1) (4, 0, fn, j) HE.out h5
      clear h5 b9 HB9
      gi_wp2_with fail
      refine ⟨trivial, (fun h => by cases h), HT5.out.mono ?_⟩
      clear HT5 q0 q1
      rintro e W6 ⟨p6, ⟨rfl, pre6, h6⟩ | ⟨rfl, pre6, hpo, hjx⟩⟩
      ·have H6 := Lib.hid (h6.less (X' := X2) (fun e he => List.mem_cons_of_mem _ he))
       clear h6
       gi_wp2
       go_roundw
       case rel => exact ⟨j + 1, pre6, p6, by omega, by go_num, H6⟩
       case measure => simp [intOf]; omega
      ·have HP := Lib.hid (And.intro hpo hjx)
       clear hpo hjx
       gi_wp2
       refine bodyPost_ret (results_tmp rfl _ _ _) rfl ?_
       exact ⟨_, .inr ⟨rfl, _, HP.out⟩⟩
     ·have HP := Lib.hid (And.intro hpo hjx)
      clear hpo hjx
      gi_wp2
      refine bodyPost_ret (results_tmp rfl _ _ _) rfl ?_
      exact ⟨_, .inr ⟨rfl, _, HP.out⟩⟩
   ·obtain rfl : j = nd := by omega
    have HF := HR
    rw [Nat.sub_self] at HF
    have HF2 : Hid (TS J H p0 N0 L nb yb seq X pre4 rest p4 wr) := HF.out.less HXX.out
    clear HR HF HXX
    gi_wp2
    refine bodyPost_ret (results_tmp rfl _ _ _) rfl ?_
    exact ⟨_, .inl ⟨rfl, _, HF2.out⟩⟩

end Go.Proofs.YtgnooffedmeenaaGreatDoor.M.L

namespace Go.Proofs.YtgnooffedmeenaaGreatDoor.M.L
open Go.RowKit Go.Shelf W
attribute [local go_sem] Oper.semAt_some

def shQ (j m : Nat) : List Ln4 := (List.range' j m).map fun i => (0, i, 0, 0)
theorem shapes_shQ (n : Nat) : shapesQ n = shQ 0 n := by unfold shapesQ shQ; rw [List.range_eq_range']
theorem shQ_at {j n : Nat} (h : j < n) : shQ j (n - j) = (0, j, 0, 0) :: shQ (j + 1) (n - (j + 1)) := by
 obtain ⟨m, hm⟩ : ∃ m, n - j = m + 1 := ⟨n - j - 1, by omega⟩
 rw [hm, show n - (j + 1) = m by omega]
 unfold shQ
 rw [List.range'_succ, List.map_cons]
theorem funcsQ_at {lab : Nat → Nat → Bool} {q : List F.Fu} {k : Nat} (h : k < q.length) : funcsQ lab k (q.drop k) = funcQ lab k q[k] ++ funcsQ lab (k + 1) (q.drop (k + 1)) := by
 rw [List.drop_eq_getElem_cons h, funcsQ]

set_option maxRecDepth 100000 in
set_option maxHeartbeats 8000000 in
theorem lines_stops (m k bs : Nat) (s : SH) (es : List I.SE) (fs : List I.FE) (lab : Nat → Nat → Bool) (hes : es.length ≤ 64) (hfs : fs.length ≤ 64) (hbd : Hid (∀ e ∈ fs, e.2.bd.length ≤ 512)) (hsq : (seqQ lab (I.imOf es fs)).length ≤ 100000) (H : World → Prop) (hHI : Hid (∀ W, H W → ShIt W bs s es fs lab)) :
  StopsU 5 Tryz.prog m k 93 #[.pointer (some ⟨bs, 0, none⟩)] encQ H (EnQ (seqQ lab (I.imOf es fs))) (fun xs => xs = numQ 1 (seqQ lab (I.imOf es fs))) (fun pre => ∃ post, numQ 1 (seqQ lab (I.imOf es fs)) = pre ++ post) := by
 intro L J Jx p W hJ hJx hb hY h0 hp0 hH0 hst
 have E : IE J Jx H p W.heap.size L (seqQ lab (I.imOf es fs)) := ⟨hJ, hst, fun n pre x p W1 h1 h2 => yield_any (hY pre x p W1 h1 h2), hsq, hb⟩
 have HE := Lib.hid E
 have b2 := (Blk.new W 153 #[.func (.yield L) #[] #[]]).alloc (.cells #[.int .i64 0] 3)
 have b3 := Blk.new (W.alloc (.cells #[.func (.yield L) #[] #[]] 153)) 3 #[.int .i64 0]
 rw [World.size_alloc] at b3
 have hst2 : IStepU 5 W.heap.size p W ((W.alloc (.cells #[.func (.yield L) #[] #[]] 153)).alloc (.cells #[.int .i64 0] 3)) :=
  (IStepU.alloc _ (fun c fz e => by cases e)).trans (IStepU.alloc _ (fun c fz e => by cases e))
 have hq : numQ 1 (seqQ lab (I.imOf es fs)) = [] ++ numQ (([] : List NL).length + 1) (shQ 0 (es.length - 0) ++ funcsQ lab 0 ((fs.map fun e => e.2).drop 0)) := by
  rw [List.nil_append, Nat.sub_zero, List.drop_zero]
  show numQ 1 (shapesQ (es.map fun e => e.2).length ++ _) = _
  rw [shapes_shQ, List.length_map]
  rfl
 have h1 : TS J H p W.heap.size L (W.heap.size + 1) W.heap.size (seqQ lab (I.imOf es fs)) [] [] (shQ 0 (es.length - 0) ++ funcsQ lab 0 ((fs.map fun e => e.2).drop 0)) p ((W.alloc (.cells #[.func (.yield L) #[] #[]] 153)).alloc (.cells #[.int .i64 0] 3)) :=
  ⟨hq, hJ _ _ _ _ h0 hst2, b3, b2, fun h => by have := hp0 _ h; omega, fun h => by have := hp0 _ h; omega, by omega, fun k _ h => h, hst NoB _ _ (fun _ hf => hf.elim) hH0 (((Keep.refl _ _).alloc _).alloc _), fun e he => by cases he⟩
 have z0 := (hHI.out _ h1.h).bx.cell 0
 have hlx := (hHI.out _ hH0).im.lx
 have hly := (hHI.out _ hH0).im.ly
 have H1 := Lib.hid h1
 have HLX := Lib.hid hlx
 have HLY := Lib.hid hly
 have hnx : s.v.nx ≤ 64 := by omega
 have hny : s.v.ny ≤ 64 := by omega
 clear hJ hJx hb hY h0 hp0 hH0 hst hst2 hq b2 b3 h1 E hlx hly
 obtain ⟨⟨Xa, nx, cx, Y, ny, cy⟩, lm, og, ob, bg, bb⟩ := s
 dsimp only [SH.val, SH.cells] at *
 simp only [List.getElem?_toArray, List.getElem?_cons_zero] at z0
 refine callsIn_of_wp Tryz.func93 rfl trivial ?_ rfl
 simp only [Tryz.ntmps93, List.size_toArray, List.length_cons, List.length_nil, Nat.reduceAdd, Nat.reduceSub, Array.replicate_succ, Array.replicate_zero, List.push_toArray, List.append_toArray, List.nil_append, List.cons_append]
 gi_wp2
 generalize hW2 : (W.alloc (.cells #[.func (.yield L) #[] #[]] 153)).alloc (.cells #[.int .i64 0] 3) = W2 at *
 clear hW2 z0
 gi_loopw [12] (fun i wr => ∃ (j : Nat) (pre : List NL) (p' : BSet), j ≤ nx ∧ i = .int .i64 (j : Int) ∧ Hid (TS J H p W.heap.size L (W.heap.size + 1) W.heap.size (seqQ lab (I.imOf es fs)) [] pre (shQ j (nx - j) ++ funcsQ lab 0 ((fs.map fun e => e.2).drop 0)) p' wr)) (fun i _ => nx - (intOf i).toNat)
 case atStart =>
  have h := H1.out
  rw [HLX.out] at h
  exact ⟨0, _, _, Nat.zero_le _, rfl, h⟩
 case round =>
  obtain ⟨j, pre, p2, hj, rfl, HR⟩ := hrel
  by_cases hlt : j < nx
  ·have hr := HR.out
   rw [shQ_at hlt, List.cons_append] at hr
   have HT4 : Hid (CallsIn Fence.wide (k - 1) Tryz.prog 94 #[.agg #[.int .i64 0, .int .i64 (j : Int), .int .i64 0, .int .i64 0], .pointer (some ⟨W.heap.size + 1, 0, none⟩), .pointer (some ⟨W.heap.size, 0, none⟩)] wr _) := tell_any (k - 1) (0, j, 0, 0) HE.out hr
   clear hr HR H1
   gi_wp2_with fail
   refine ⟨trivial, (fun h => by cases h), HT4.out.mono ?_⟩
   clear HT4
   rintro e W5 ⟨p5, ⟨rfl, pre5, h5⟩ | ⟨rfl, pre5, hpo, hjx⟩⟩
   ·have H5 := Lib.hid h5
    clear h5
    gi_wp2
    go_roundw
    case rel => exact ⟨j + 1, pre5, p5, by omega, by go_num, H5⟩
    case measure => simp [intOf]; omega
   ·have HP := Lib.hid (And.intro hpo hjx)
    clear hpo hjx
    gi_wp2
    refine bodyPost_ret (results_none rfl _ _ _) rfl ?_
    exact ⟨⟨_, rfl⟩, _, .inr ⟨_, HP.out⟩⟩
  ·obtain rfl : j = nx := by omega
   have hr := HR.out
   rw [Nat.sub_self] at hr
   have z1 := (hHI.out _ hr.h).bx.cell 1
   dsimp only [SH.cells] at z1
   simp only [List.getElem?_toArray, List.getElem?_cons_zero, List.getElem?_cons_succ] at z1
   have HR2 : Hid (TS J H p W.heap.size L (W.heap.size + 1) W.heap.size (seqQ lab (I.imOf es fs)) [] pre (funcsQ lab 0 ((fs.map fun e => e.2).drop 0)) p2 wr) := hr
   clear hr HR H1
   gi_wp2
   clear z1
   gi_loopw [25] (fun i wr => ∃ (j2 : Nat) (pre : List NL) (p' : BSet), j2 ≤ ny ∧ i = .int .i64 (j2 : Int) ∧ Hid (TS J H p W.heap.size L (W.heap.size + 1) W.heap.size (seqQ lab (I.imOf es fs)) [] pre (funcsQ lab j2 ((fs.map fun e => e.2).drop j2)) p' wr)) (fun i _ => ny - (intOf i).toNat)
   case atStart => exact ⟨0, _, _, Nat.zero_le _, rfl, HR2⟩
   case round =>
    obtain ⟨j2, pre2, p3, hj2, rfl, HR3⟩ := hrel
    by_cases hlt2 : j2 < ny
    ·have hr := HR3.out
     have hjf : j2 < fs.length := by rw [HLY.out]; exact hlt2
     rw [funcsQ_at (by rw [List.length_map]; exact hjf), List.getElem_map] at hr
     have z := (hHI.out _ hr.h).bx
     have z0 := z.cell 0
     have z1 := z.cell 1
     have z2 := z.cell 2
     have z3 := z.cell 3
     have z4 := z.cell 4
     dsimp only [SH.cells] at z0 z1 z2 z3 z4
     simp only [List.getElem?_toArray, List.getElem?_cons_zero, List.getElem?_cons_succ] at z0 z1 z2 z3 z4
     have HT5 : Hid (CallsIn Fence.wide (k - 1) Tryz.prog 95 #[.agg #[.slice Xa j cx, .slice Y ny cy, .map lm, .func (.func og) #[] ob, .func (.func bg) #[] bb], .int .i64 (j2 : Int), .func (.func 94) #[] #[.pointer (some ⟨W.heap.size + 1, 0, none⟩), .pointer (some ⟨W.heap.size, 0, none⟩)]] wr _) :=
      tellF_any (k - 1) ⟨⟨Xa, j, cx, Y, ny, cy⟩, lm, og, ob, bg, bb⟩ es fs lab j2 HE.out hHI hjf (by omega) (Nat.le_trans (hbd.out _ (List.getElem_mem hjf)) (by omega)) hr
     clear hr HR3 HR2 z
     gi_wp2_with fail
     refine ⟨trivial, (fun h => by cases h), HT5.out.mono ?_⟩
     clear HT5 z0 z1 z2 z3 z4
     rintro e W5 ⟨p5, ⟨rfl, pre5, h5⟩ | ⟨rfl, pre5, hpo, hjx⟩⟩
     ·have H5 := Lib.hid h5
      clear h5
      gi_wp2
      go_roundw
      case rel => exact ⟨j2 + 1, pre5, p5, by omega, by go_num, H5⟩
      case measure => simp [intOf]; omega
     ·have HP := Lib.hid (And.intro hpo hjx)
      clear hpo hjx
      gi_wp2
      refine bodyPost_ret (results_none rfl _ _ _) rfl ?_
      exact ⟨⟨_, rfl⟩, _, .inr ⟨_, HP.out⟩⟩
    ·obtain rfl : j2 = ny := by omega
     have hr := HR3.out
     rw [List.drop_of_length_le (by rw [List.length_map, HLY.out]; exact Nat.le_refl _)] at hr
     have hfin : Hid (pre2 = numQ 1 (seqQ lab (I.imOf es fs)) ∧ J pre2 p3 wr) := ⟨by have := hr.q; rw [show funcsQ lab j2 [] = [] from rfl] at this; rw [this]; simp [numQ], hr.j⟩
     clear hr HR3 HR2
     gi_wp2
     go_end0
     exact ⟨⟨_, rfl⟩, _, .inl ⟨_, hfin.out⟩⟩

end Go.Proofs.YtgnooffedmeenaaGreatDoor.M.L

namespace Go.Proofs.YtgnooffedmeenaaGreatDoor.M
open Go.RowKit

structure Mn where
 ln : Nat
 fn : Nat
 pl : Nat
 s : Bs
 k : Nat
abbrev Pl := Bs → Option Nat
structure PS where
 im : I.Im
 last : Nat
 nums : Pl
 labs : List (List Bs × Pl)
 ms : List Mn
def wrongM (m : Mn) : Int := if m.k = 2 then 92 else 91
/-! ### It says what the lines say -/

end Go.Proofs.YtgnooffedmeenaaGreatDoor.M

namespace Go.Proofs.YtgnooffedmeenaaGreatDoor.M
open Go.RowKit

end Go.Proofs.YtgnooffedmeenaaGreatDoor.M

namespace Go.Proofs.YtgnooffedmeenaaGreatDoor
open Go.RowKit Go.Maps

def OMap (P : Program) (k e : TypeId) (b n : Nat) (f : List UInt8 → Option Nat) (w : World) : Prop :=
 ∃ D : DataW Unit, w.ownsMap P k (plainElem P e) b n D ∧ IsMap D ∧ ∀ s : List UInt8, has D (.string s) = (f s).isSome ∧ D.atKey (.string s) (.lit (.int .i64 0)) = .lit (.int .i64 (((f s).getD 0 : Nat) : Int))
section
variable {P : Program} {k e t : TypeId} {b n : Nat} {f : List UInt8 → Option Nat} {w w' : World}
theorem OMap.lt (h : OMap P k e b n f w) : b < w.heap.size := by obtain ⟨_, h, _⟩ := h; exact h.lt
theorem OMap.mono {m : Nat} (h : OMap P k e b n f w) (hm : n ≤ m) : OMap P k e b m f w := by
 obtain ⟨D, h1, h2, h3⟩ := h
 exact ⟨D, h1.mono hm, h2, h3⟩
end
end Go.Proofs.YtgnooffedmeenaaGreatDoor

namespace Go.Proofs.YtgnooffedmeenaaGreatDoor.M
open Go.RowKit W

inductive Tg where
 | no | rd | sh | se (i : Nat) | fn | fa (i : Nat) | fb (i : Nat) | fl (i : Nat) | bd (i : Nat) | nu | lb | nm (i : Nat) | pl (i : Nat) | mn
deriving DecidableEq
structure Row where
 E : Nat
 sz : Nat
 v : Value
 n : Nat
 xs : List Value
def Row.own (r : Row) (W : World) (P : Nat → Prop) : Prop := Own W r.E r.sz P r.v r.n r.xs
structure Mp where
 b : Nat
 n : Nat
 f : Pl
def okT (t : Tg) : Prop := t ≠ .no ∧ t ≠ .rd
def mk : Tg → Tg
 | .fb i => .fa i
 | t => t
def sole (t0 : Tg) : Prop := mk t0 = t0 ∧ ∀ t, mk t = t0 → t = t0
structure Parts (B : Nat) (W : World) (T : Nat → Tg) (R : Tg → Row) (F : Tg → Option Mp) : Prop where
 row : ∀ t, okT t → (R t).own W (fun k => T k = mk t)
 map : ∀ t m, F t = some m → OMap Tryz.prog 9 3 m.b m.n m.f W ∧ T m.b = t ∧ okT t ∧ sole t
 fit : ∀ k, T k ≠ .no → B ≤ k ∧ k < W.heap.size
section
variable {B : Nat} {W W' : World} {T : Nat → Tg} {R : Tg → Row} {F : Tg → Option Mp}
end

structure RV where
 X : Option Addr
 nx : Nat
 cx : Nat
 Y : Option Addr
 ny : Nat
 cy : Nat
 ln : Nat
 la : Nat
 mb : Nat
 L : Option Addr
 nl : Nat
 cl : Nat
 M : Option Addr
 nm : Nat
 cm : Nat
def RV.cells (v : RV) : Array Value := #[.slice v.X v.nx v.cx, .slice v.Y v.ny v.cy, .int .i64 (v.ln : Int), .int .i64 (v.la : Int), .map (some v.mb), .slice v.L v.nl v.cl, .slice v.M v.nm v.cm]
structure LE where
 A : Option Addr
 n : Nat
 c : Nat
 b : Nat
 ws : List Bs
 f : Pl
def LE.cells (l : LE) : List Value := [.slice l.A l.n l.c, .map (some l.b)]
def lvs (ls : List LE) : List Value := ls.flatMap LE.cells
def among (mb : Nat) (ls : List LE) (m : Mn) : Option Nat := if m.k = 0 then none else if m.k = 1 then (ls[m.fn]?).map LE.b else some mb
def mnC (mb : Nat) (ls : List LE) (m : Mn) : List Value := [.int .i64 (m.ln : Int), .int .i64 (m.fn : Int), .int .i64 (m.pl : Int), .string (str m.s), .map (among mb ls m), .int .i64 (wrongM m)]
def mvs (mb : Nat) (ls : List LE) (ms : List Mn) : List Value := ms.flatMap (mnC mb ls)
structure Rdr (B : Nat) (W : World) (T : Nat → Tg) (rb : Nat) (v : RV) (es : List I.SE) (fs : List I.FE) (ls : List LE) (R : Tg → Row) (F : Tg → Option Mp) (p : PS) (N : Nat) : Prop where
 pa : Parts B W T R F
 bk : Blk W rb 115 v.cells
 tb : T rb = .rd
 rsh : R .sh = ⟨68, 1, .slice v.X v.nx v.cx, v.nx, I.svs es⟩
 rse : ∀ i (h : i < es.length), R (.se i) = ⟨3, 1, .slice es[i].1.A es[i].1.n es[i].1.c, es[i].1.n, ivs es[i].2⟩
 rfn : R .fn = ⟨37, 5, .slice v.Y v.ny v.cy, v.ny, I.fvs fs⟩
 rfa : ∀ i (h : i < fs.length), R (.fa i) = ⟨3, 1, .slice fs[i].1.A fs[i].1.na fs[i].1.ca, fs[i].1.na, ivs fs[i].2.ar⟩
 rfb : ∀ i (h : i < fs.length), R (.fb i) = ⟨3, 1, .slice fs[i].1.B fs[i].1.nb fs[i].1.cb, fs[i].1.nb, ivs fs[i].2.rs⟩
 rfl_ : ∀ i (h : i < fs.length), R (.fl i) = ⟨3, 1, .slice fs[i].1.L fs[i].1.nl fs[i].1.cl, fs[i].1.nl, ivs fs[i].2.lc⟩
 rbd : ∀ i (h : i < fs.length), R (.bd i) = ⟨55, 3, .slice fs[i].1.D fs[i].1.nd fs[i].1.cd, fs[i].1.nd, C.iis fs[i].2.bd⟩
 fnm : ∀ i (h : i < fs.length), fs[i].1.S.data.toList = fs[i].2.nm ∧ C.AllI fs[i].2.bd
 rlb : R .lb = ⟨141, 2, .slice v.L v.nl v.cl, v.nl, lvs ls⟩
 rnm : ∀ i (h : i < ls.length), R (.nm i) = ⟨9, 1, .slice ls[i].A ls[i].n ls[i].c, ls[i].n, sv ls[i].ws⟩
 rmn : R .mn = ⟨239, 6, .slice v.M v.nm v.cm, v.nm, mvs v.mb ls p.ms⟩
 fnu : ∃ n, n ≤ N ∧ F .nu = some ⟨v.mb, n, p.nums⟩
 fpl : ∀ i (h : i < ls.length), ∃ n, n ≤ N ∧ F (.pl i) = some ⟨ls[i].b, n, ls[i].f⟩
 fno : ∀ t, (∀ i, t ≠ .pl i) → t ≠ .nu → F t = none
 rno : (R .nu).v = .slice none 0 0 ∧ ∀ i, (R (.pl i)).v = .slice none 0 0
 im : I.imOf es fs = p.im
 lb : ls.map (fun l => (l.ws, l.f)) = p.labs
 lf : ls.length = fs.length
 la : v.la = p.last
 bx : es.length ≤ N
 by_ : fs.length ≤ N
 bm : p.ms.length ≤ N
 bd : ∀ i (h : i < fs.length), fs[i].2.bd.length ≤ N
 bl : ∀ i (h : i < ls.length), ls[i].ws.length ≤ N
 esm : ∀ i (h : i < es.length), es[i].1.n ≤ 140737488355328
 fsm : ∀ i (h : i < fs.length), _root_.Go.Proofs.YtgnooffedmeenaaGreatDoor.F.LgF fs[i].1
 wm : ∀ m ∈ p.ms, m.k = 1 → m.fn < ls.length

end Go.Proofs.YtgnooffedmeenaaGreatDoor.M

namespace Go.Proofs.YtgnooffedmeenaaGreatDoor.M
open Go.RowKit W

end Go.Proofs.YtgnooffedmeenaaGreatDoor.M

namespace Go.Proofs.YtgnooffedmeenaaGreatDoor.M
open Go.RowKit W

section
variable {B : Nat} {W W' : World} {T : Nat → Tg} {R : Tg → Row} {F : Tg → Option Mp}
end
end Go.Proofs.YtgnooffedmeenaaGreatDoor.M

namespace Go.Proofs.YtgnooffedmeenaaGreatDoor.M
open Go.RowKit W

def RdAt (w0 W : World) (T : Nat → Tg) (rb : Nat) (p : PS) (N ln : Nat) : Prop :=
 Keep NoB w0 W ∧ ∃ v es fs ls R F, v.ln = ln ∧ Rdr w0.heap.size W T rb v es fs ls R F p N
def EnvM (w : World) : Prop := O.LaidO w ∧ O.CutAt w
theorem EnvM.keep {w w' : World} (h : EnvM w) (hk : Keep NoB w w') : EnvM w' := ⟨h.1.keep hk, h.2.keep hk⟩
section
variable {w0 W W' : World} {T T' : Nat → Tg} {rb N ln : Nat} {p : PS} {q : Option PS}
end
end Go.Proofs.YtgnooffedmeenaaGreatDoor.M

namespace Go.Proofs.YtgnooffedmeenaaGreatDoor.M
open Go.RowKit W

section
variable {B : Nat} {W : World} {T : Nat → Tg} {R : Tg → Row} {F : Tg → Option Mp}
end

end Go.Proofs.YtgnooffedmeenaaGreatDoor.M

namespace Go.Proofs.YtgnooffedmeenaaGreatDoor.M
open Go.RowKit W

section
variable {B : Nat} {W W' : World} {T : Nat → Tg} {R : Tg → Row} {F : Tg → Option Mp}
end
end Go.Proofs.YtgnooffedmeenaaGreatDoor.M

namespace Go.Proofs.YtgnooffedmeenaaGreatDoor.M
open Go.RowKit W

end Go.Proofs.YtgnooffedmeenaaGreatDoor.M

namespace Go.Proofs.YtgnooffedmeenaaGreatDoor.M
open Go.RowKit W

end Go.Proofs.YtgnooffedmeenaaGreatDoor.M

namespace Go.Proofs.YtgnooffedmeenaaGreatDoor.S
open Go.RowKit W

end Go.Proofs.YtgnooffedmeenaaGreatDoor.S

namespace Go.Proofs.YtgnooffedmeenaaGreatDoor.S
open Go.RowKit W

end Go.Proofs.YtgnooffedmeenaaGreatDoor.S

namespace Go.Proofs.YtgnooffedmeenaaGreatDoor
open Go.RowKit
section
variable {P : Program} {md : Region.Mode} {ops : Array Oper}
end
end Go.Proofs.YtgnooffedmeenaaGreatDoor

namespace Go.Proofs.YtgnooffedmeenaaGreatDoor
open Go.RowKit
end Go.Proofs.YtgnooffedmeenaaGreatDoor

namespace Go.Proofs.YtgnooffedmeenaaGreatDoor.M
open Go.RowKit W

end Go.Proofs.YtgnooffedmeenaaGreatDoor.M

namespace Go.Proofs.YtgnooffedmeenaaGreatDoor.M
open Go.RowKit W

end Go.Proofs.YtgnooffedmeenaaGreatDoor.M

namespace Go.Proofs.YtgnooffedmeenaaGreatDoor.M
open Go.RowKit W

end Go.Proofs.YtgnooffedmeenaaGreatDoor.M

namespace Go.Proofs.YtgnooffedmeenaaGreatDoor.O
open Go.RowKit Go.Shelf

end Go.Proofs.YtgnooffedmeenaaGreatDoor.O

namespace Go.Proofs.YtgnooffedmeenaaGreatDoor.O
open Go.RowKit Go.Shelf
attribute [local go_sem] Oper.semAt_some

end Go.Proofs.YtgnooffedmeenaaGreatDoor.O

namespace Go.Proofs.YtgnooffedmeenaaGreatDoor.O
open Go.RowKit

end Go.Proofs.YtgnooffedmeenaaGreatDoor.O

namespace Go.Proofs.YtgnooffedmeenaaGreatDoor.M
open Go.RowKit W

end Go.Proofs.YtgnooffedmeenaaGreatDoor.M

namespace Go.Proofs.YtgnooffedmeenaaGreatDoor.M
open Go.RowKit W

end Go.Proofs.YtgnooffedmeenaaGreatDoor.M

namespace Go.Proofs.YtgnooffedmeenaaGreatDoor.M
open Go.RowKit W

end Go.Proofs.YtgnooffedmeenaaGreatDoor.M

namespace Go
theorem wpIn_scope_wide {P : Program} {n : Nat} {c : Code} {Q : Exit → Act → World → Prop} {a : Act} {w : World} (h : c.wpIn Fence.wide n P (Exit.noGoto Q) a w) : (Code.scope c).wpIn Fence.wide n P Q a w :=
 wpIn_wide.2 (wp_scope_straight (wpIn_wide.1 h))
end Go
namespace Go.Proofs.YtgnooffedmeenaaGreatDoor.M
open Go.RowKit W

section
variable {w0 W W' : World} {T T' : Nat → Tg} {rb N ln : Nat} {p : PS}
theorem RdAt.below (h : RdAt w0 W T rb p N ln) {k : Nat} (hk : k < w0.heap.size) : T k = .no := by
 obtain ⟨h1, v, es, fs, ls, R, F, h2, h3⟩ := h
 apply Classical.byContradiction
 intro hn
 have := (h3.pa.fit k hn).1
 omega
end

def fns (rb : Nat) : Array Value := #[.func (.func 196) #[.pointer (some ⟨rb, 0, none⟩)] #[], .func (.func 197) #[.pointer (some ⟨rb, 0, none⟩)] #[], .func (.func 198) #[.pointer (some ⟨rb, 0, none⟩)] #[], .func (.func 199) #[.pointer (some ⟨rb, 0, none⟩)] #[], .func (.func 200) #[.pointer (some ⟨rb, 0, none⟩)] #[]]
structure Bx (w0 : World) (T : Nat → Tg) (b rb : Nat) (W : World) : Prop where
 lo : w0.heap.size ≤ b
 no : ∀ i, i < 4 → T (b + i) = .no
 b0 : Blk W b 108 #[.pointer (some ⟨rb, 0, none⟩)]
 b1 : Blk W (b + 1) 3 #[.int .i64 0]
 b2 : Blk W (b + 1 + 1) 40 #[.int .i64 0]
 b3 : Blk W (b + 1 + 1 + 1) 237 (fns rb)
end Go.Proofs.YtgnooffedmeenaaGreatDoor.M

namespace Go.Proofs.YtgnooffedmeenaaGreatDoor.M
open Go.RowKit Go.Shelf W
attribute [local go_sem] Oper.semAt_some

end Go.Proofs.YtgnooffedmeenaaGreatDoor.M

namespace Go.Proofs.YtgnooffedmeenaaGreatDoor.M.L
open Go.RowKit Go.Shelf W
attribute [local go_sem] Oper.semAt_some

structure ShOk (w : World) (kind : Nat) (s : SH) (es : List I.SE) (fs : List I.FE) : Prop where
 im : I.ImAt w s.v es fs
 lg : I.LgI s.v es fs
 ok : ImOk (I.imOf es fs) ∨ (es = [] ∧ fs = [])
 kd : (kind = 0 ∧ ∃ b n b1 b2, s = namedH s.v b b1 b2 ∧ NmAt w (I.imOf es fs) b n b1 b2 s.v.Y s.v.ny s.v.cy fs) ∨ (kind = 1 ∧ s = plainH s.v) ∨ (kind = 2 ∧ s = numbH s.v)
theorem ShOk.keep {w w' : World} {kind : Nat} {s : SH} {es : List I.SE} {fs : List I.FE} (h : ShOk w kind s es fs) (hk : Keep NoB w w') : ShOk w' kind s es fs :=
 ⟨h.im.keepN hk, h.lg, h.ok, h.kd.imp (fun ⟨a, b, n, b1, b2, e, hn⟩ => ⟨a, b, n, b1, b2, e, hn.keep hk⟩) id⟩
def labK2 (kind : Nat) (p : I.Im) : Nat → Nat → Bool := if kind = 0 then labB p else lab0
theorem ShOk.lab {w : World} {kind : Nat} {s : SH} {es : List I.SE} {fs : List I.FE} (h : ShOk w kind s es fs) : LabAt s.m (labK2 kind (I.imOf es fs)) w := by
 unfold labK2
 rcases h.kd with ⟨rfl, b, n, b1, b2, e, hn⟩ | ⟨rfl, e⟩ | ⟨rfl, e⟩
 ·rw [e, if_pos rfl]
  exact ⟨n, _, hn.pm, fun k i => by rw [labB_lbN, labF_nat]⟩
 ·rw [e]; rfl
 ·rw [e]; rfl
theorem ShOk.p_fn {w : World} {kind : Nat} {s : SH} {es : List I.SE} {fs : List I.FE} (_h : ShOk w kind s es fs) {k : Nat} {f : F.Fu} (hf : (I.imOf es fs).fn[k]? = some f) : ∃ hk : k < fs.length, fs[k].2 = f := by
 have e : (I.imOf es fs).fn = fs.map fun e => e.2 := rfl
 rw [e, List.getElem?_map] at hf
 rcases Nat.lt_or_ge k fs.length with hk | hk
 ·rw [List.getElem?_eq_getElem hk] at hf
  injection hf with hf
  exact ⟨hk, hf⟩
 ·rw [List.getElem?_eq_none hk] at hf; cases hf
theorem ShOk.bb {w : World} {kind : Nat} {s : SH} {es : List I.SE} {fs : List I.FE} (h : ShOk w kind s es fs) : s.bb = #[] := by
 rcases h.kd with ⟨rfl, b, n, b1, b2, e, hn⟩ | ⟨rfl, e⟩ | ⟨rfl, e⟩ <;> rw [e] <;> rfl

set_option maxRecDepth 100000 in
set_option maxHeartbeats 1000000 in
theorem says_any (kind : Nat) (s : SH) (es : List I.SE) (fs : List I.FE) (w : World) (h : ShOk w kind s es fs) (hp : ImOk (I.imOf es fs)) (hL : O.LaidO w) (l : Ln4) (hl : OkQ (labK2 kind (I.imOf es fs)) (I.imOf es fs) l) :
  Calls Tryz.prog 80 #[s.val, .agg (lnC l)] w fun e w' => e = .returned (.string (str (sayQ kind (I.imOf es fs) l))) ∧ Keep NoB w w' := by
 have hbb := h.bb
 obtain ⟨q, i, k, j⟩ := l
 have hw := hl.w
 dsimp only at hw
 have hw : q = 0 ∨ q = 1 ∨ q = 2 ∨ q = 3 ∨ q = 4 := by omega
 obtain ⟨⟨X, nx, cx, Y, ny, cy⟩, lm, og, ob, bg, bb⟩ := s
 dsimp only at hbb
 subst hbb
 rcases hw with rfl | rfl | rfl | rfl | rfl
 ·obtain ⟨h1, h2⟩ := hl.s rfl
  injection h2 with h2 h3
  dsimp only at h1 h2 h3
  subst h2 h3
  have hlen : i < es.length := by simpa [I.imOf] using h1
  have h5 := says0_any lm og ob bg X nx cx Y ny cy es fs w h.im h.lg hL i hlen
  have e1 : sayQ kind (I.imOf es fs) (0, i, 0, 0) = joinW (shapeT es[i].2) := by
   show joinW (shapeT ((I.imOf es fs).sh[i]?.getD [])) = _
   rw [show (I.imOf es fs).sh = es.map fun e => e.2 from rfl, List.getElem?_map, List.getElem?_eq_getElem hlen]
   rfl
  rw [e1]
  exact h5
 ·obtain ⟨h1, f, hf, _, h3⟩ := hl.f (fun h => nomatch h)
  dsimp only at h1 hf h3
  have h3 := h3 (by omega)
  subst h1 h3
  obtain ⟨hk, hfe⟩ := h.p_fn hf
  have h5 := says1_any lm og ob bg X nx cx Y ny cy es fs w h.im h.lg hL k hk (by rw [hfe]; exact okN_le ((F.okF_iff f).1 (hp.fn hf).1).1)
  have e1 : sayQ kind (I.imOf es fs) (1, 0, k, 0) = joinW [funcW, fs[k].2.nm, S.shG fs[k].2.ar fs[k].2.rs] := by
   show joinW [funcW, ((I.imOf es fs).fn[k]?.getD fu0).nm, _] = _
   rw [hf, hfe]; rfl
  rw [e1]
  exact h5
 ·obtain ⟨h1, f, hf, _, h3⟩ := hl.f (fun h => nomatch h)
  dsimp only at h1 hf h3
  have h3 := h3 (by omega)
  subst h1 h3
  obtain ⟨hk, hfe⟩ := h.p_fn hf
  have h5 := says2_any lm og ob bg X nx cx Y ny cy es fs w h.im h.lg hL k hk
  have e1 : sayQ kind (I.imOf es fs) (2, 0, k, 0) = joinW [localW, W.txt fs[k].2.lc] := by
   show joinW [localW, W.txt ((I.imOf es fs).fn[k]?.getD fu0).lc] = _
   rw [hf, hfe]; rfl
  rw [e1]
  exact h5
 ·obtain ⟨h1, f, hf, h2, _⟩ := hl.f (fun h => nomatch h)
  dsimp only at h1 hf h2
  have h2 := h2 (by omega)
  subst h1
  obtain ⟨hk, hfe⟩ := h.p_fn hf
  have hb := hl.b rfl
  dsimp only at hb
  unfold labK2 at hb
  rcases h.kd with ⟨rfl, b, n, b1, b2, e, hn⟩ | ⟨rfl, e⟩ | ⟨rfl, e⟩
  ·rw [if_pos rfl, labB_lbN] at hb
   cases hlb : lbN (I.imOf es fs) k j with
   | none => rw [hlb] at hb; cases hb
   | some m =>
    have hm : lm = some b := congrArg SH.m e
    subst hm
    have hnf := hp.nf
    have hk64 := (List.getElem?_eq_some_iff.1 hf).1
    have hb5 := (ok_body (hp.fn hf).1).2.2.1
    obtain ⟨f', hf', hm2, _⟩ := lbN_lt hlb
    rw [hf] at hf'
    injection hf' with hf'
    subst hf'
    have := tgs_len f.bd
    have h5 := says3_any og ob bg X nx cx Y ny cy es fs w h.im h.lg hL k hk b n m j (by omega) (by omega) (by omega) (I.imOf es fs) hn.pm hlb
    have e1 : sayQ 0 (I.imOf es fs) (3, 0, k, j) = lbl ((m : Nat) : Int) ++ [58] := by
     show (LBp (I.imOf es fs) k j).getD [] ++ [58] = _
     rw [lb_lbN, hlb]; rfl
    rw [e1]
    exact h5
  ·rw [if_neg (by decide)] at hb; cases hb
  ·rw [if_neg (by decide)] at hb; cases hb
 ·obtain ⟨h1, f, hf, h2, _⟩ := hl.f (fun h => nomatch h)
  dsimp only at h1 hf h2
  have h2 := h2 (by omega)
  subst h1
  obtain ⟨hk, hfe⟩ := h.p_fn hf
  subst hfe
  obtain ⟨o1, o2⟩ := hp.fn hf
  obtain ⟨b1', _, b3', _⟩ := ok_body o1
  have hx := List.getElem_mem h2
  have hok := List.all_eq_true.1 b1' _ hx
  have hI := o2 _ hx
  have e1 : sayQ kind (I.imOf es fs) (4, 0, k, j) = joinW (insL (if kind = 0 then NWp (I.imOf es fs) k fs[k].2.bd[j] else none) fs[k].2.bd[j]) ++ (if kind = 2 then noteB j else []) := by
   show insS kind (I.imOf es fs) k j (((I.imOf es fs).fn[k]?.getD fu0).bd[j]?.getD (0, 0, 0)) = _
   rw [hf]
   show insS kind (I.imOf es fs) k j (fs[k].2.bd[j]?.getD (0, 0, 0)) = _
   rw [List.getElem?_eq_getElem h2]
   rfl
  have hle := ins_le hp.ok kind k (i := j) (by omega) hI
  have hnt := note_le (i := j) (by omega)
  rw [e1]
  unfold insS at hle
  rcases h.kd with ⟨rfl, b, n, b1, b2, e, hn⟩ | ⟨rfl, e⟩ | ⟨rfl, e⟩
  ·rw [if_pos rfl, if_neg (by decide)] at hle ⊢
   have hg : lm = some b := congrArg SH.m e
   have hg2 : og = 77 := congrArg SH.og e
   have hg3 : ob = #[.pointer (some ⟨b1, 0, none⟩), .pointer (some ⟨b2, 0, none⟩)] := congrArg SH.ob e
   have hg4 : bg = 90 := congrArg SH.bg e
   subst hg hg2 hg3 hg4
   have hle2 : (joinW (insL (NWp (I.imOf es fs) k fs[k].2.bd[j]) fs[k].2.bd[j])).length ≤ 100 := by
    have h8 : (joinW (insL (NWp (I.imOf es fs) k fs[k].2.bd[j]) fs[k].2.bd[j])).length ≤ 60 := insn_len hp.ok k hI
    omega
   exact says4_any (some b) _ _ _ X nx cx Y ny cy es fs w h.im h.lg k hk j h2 _ _ hle2 (Nat.zero_le _) (fun W hk9 => instr_named ⟨X, nx, cx, Y, ny, cy⟩ (I.imOf es fs) hp b n b1 b2 fs W (hn.keep hk9) (hL.keep hk9) k _ hf _ hx) (fun W _ => plain2_any (j : Int) W) (enters_of Tryz.func90 rfl rfl)
  ·rw [if_neg (by decide), if_neg (by decide)] at hle ⊢
   have hg : lm = none := congrArg SH.m e
   have hg2 : og = 89 := congrArg SH.og e
   have hg3 : ob = #[] := congrArg SH.ob e
   have hg4 : bg = 90 := congrArg SH.bg e
   subst hg hg2 hg3 hg4
   have hle2 : (joinW (insL none fs[k].2.bd[j])).length ≤ 100 := Nat.le_trans (insn_none hI) (by omega)
   exact says4_any none _ _ _ X nx cx Y ny cy es fs w h.im h.lg k hk j h2 _ _ hle2 (Nat.zero_le _) (fun W hk9 => instr_plain ⟨X, nx, cx, Y, ny, cy⟩ _ W (hL.keep hk9) k _ hok hI) (fun W _ => plain2_any (j : Int) W) (enters_of Tryz.func90 rfl rfl)
  ·rw [if_neg (by decide), if_pos rfl] at hle ⊢
   have hg : lm = none := congrArg SH.m e
   have hg2 : og = 89 := congrArg SH.og e
   have hg3 : ob = #[] := congrArg SH.ob e
   have hg4 : bg = 91 := congrArg SH.bg e
   subst hg hg2 hg3 hg4
   have hle2 : (joinW (insL none fs[k].2.bd[j])).length ≤ 100 := Nat.le_trans (insn_none hI) (by omega)
   exact says4_any none _ _ _ X nx cx Y ny cy es fs w h.im h.lg k hk j h2 _ _ hle2 (by omega) (fun W hk9 => instr_plain ⟨X, nx, cx, Y, ny, cy⟩ _ W (hL.keep hk9) k _ hok hI) (fun W hk9 => numbered1_any j W (by omega) (hL.keep hk9).lib) (enters_of Tryz.func91 rfl rfl)

end Go.Proofs.YtgnooffedmeenaaGreatDoor.M.L

namespace Go.Proofs.YtgnooffedmeenaaGreatDoor.M.L
open Go.RowKit Go.Shelf W
attribute [local go_sem] Oper.semAt_some

theorem bldP_stepU {B b : Nat} {W W' : World} (h : IStepU 5 B (bldP b W) W W') : bldP b W' = bldP b W := by
 funext k
 apply propext
 unfold bldP
 constructor
 ·rintro (rfl | ⟨h1, c, fz, h2⟩)
  ·exact .inl rfl
  ·exact .inr ⟨h1, c, fz, h.cells k c fz h2⟩
 ·rintro (rfl | ⟨h1, c, fz, h2⟩)
  ·exact .inl rfl
  ·exact .inr ⟨h1, c, fz, (h.keep.block k (Array.getElem?_eq_some_iff.1 h2).1 (fun h3 => h3.2 (.inr ⟨h1, c, fz, h2⟩))).trans h2⟩
theorem bld_istepU {B b : Nat} {s : Bs} {W W' : World} (h : Bld b s W) (hs : IStepU 5 B (bldP b W) W W') : Bld b s W' := by
 have key : ∀ {p : Value}, Lib.BuilderAtF 122 5 b b p (Lib.byteCells s) W → Lib.BuilderAtF 122 5 b b p (Lib.byteCells s) W' := by
  rintro p ⟨h1, v, h2, ⟨h3, h4⟩, h5⟩
  have hb := hs.keep.block b (Array.getElem?_eq_some_iff.1 h2).1 (fun h => h.2 (.inl rfl))
  refine ⟨h1, v, hb.trans h2, ⟨h3, ?_⟩, h5⟩
  rcases h4 with h4 | ⟨g, cap, cur, fz, e1, e2, e3, e4⟩
  ·exact .inl h4
  ·exact .inr ⟨g, cap, cur, fz, e1, e2, (hs.keep.block g (Array.getElem?_eq_some_iff.1 e3).1 (fun h => h.2 (.inr ⟨e2, _, _, e3⟩))).trans e3, e4⟩
 exact h.elim (fun h => .inl (key h)) (fun h => .inr (key h))
theorem bldP_lt {b : Nat} {s : Bs} {W : World} (h : Bld b s W) : ∀ k, bldP b W k → k < W.heap.size := by
 rintro k (rfl | ⟨_, c, fz, h2⟩)
 ·exact bld_lt h
 ·exact (Array.getElem?_eq_some_iff.1 h2).1
def textQ (kind : Nat) (p : I.Im) (pre : List NL) : Bs := textOf (pre.map fun x => sayQ kind p x.2)
theorem textQ_snoc (kind : Nat) (p : I.Im) (pre : List NL) (x : NL) : textQ kind p (pre ++ [x]) = textQ kind p pre ++ (sayQ kind p x.2 ++ [10]) := by
 unfold textQ
 rw [List.map_append, textOf_append]
 congr 1
 show textOf [sayQ kind p x.2] = _
 rw [text_cons]
 rfl
theorem textQ_all (kind : Nat) (p : I.Im) : textQ kind p (numQ 1 (seqQ (labK2 kind p) p)) = textR kind p := by
 unfold textQ
 rw [text_seq]
 congr 1
 show List.map ((sayQ kind p) ∘ Prod.snd) _ = _
 rw [← List.map_map, numQ_snd]
 rfl
def TxtI (kind : Nat) (p : I.Im) (w : World) (b bs : Nat) (pre : List NL) (q : BSet) (W : World) : Prop :=
 (∀ k, bldP b W k → q k) ∧ (∀ k, q k → b ≤ k ∧ k ≠ bs ∧ k < W.heap.size) ∧ Bld b (textQ kind p pre) W ∧ Keep NoB w W ∧ bs < W.heap.size
theorem txtI_out (kind : Nat) (p : I.Im) (w : World) (b bs B : Nat) (h : w.heap.size ≤ B) : KeepsOutU 5 B (TxtI kind p w b bs) := by
 rintro pre q W W' ⟨h1, h2, h3, h4, h5⟩ hs
 have hs2 := hs.mono (Nat.le_refl _) h1
 have e := bldP_stepU hs2
 exact ⟨fun k hk => h1 k (by rw [e] at hk; exact hk), fun k hk => ⟨(h2 k hk).1, (h2 k hk).2.1, Nat.lt_of_lt_of_le (h2 k hk).2.2 hs.keep.size⟩, bld_istepU h3 hs2, h4.trans hs.keep (fun k h3 hk => by omega), Nat.lt_of_lt_of_le h5 hs.keep.size⟩
theorem txtI_body {kind : Nat} {p : I.Im} {w : World} {b bs : Nat} {pre pre' : List NL} {q : BSet} {W W' : World} (h : TxtI kind p w b bs pre q W) (hr : Rnd (bldP b W) (bldP b W') W W') (hb : Bld b (textQ kind p pre') W') (hk : Keep NoB w W') :
  ∃ q', Rnd q q' W W' ∧ TxtI kind p w b bs pre' q' W' := by
 obtain ⟨h1, h2, _, _, hbs⟩ := h
 refine ⟨fun k => q k ∨ bldP b W' k, ⟨fun k hk hq => ?_, hr.keep.mono (fun k hk _ => h1 k hk)⟩, fun k hk => .inr hk, fun k hq => ?_, hb, hk, Nat.lt_of_lt_of_le hbs hr.keep.size⟩
 ·rcases hq with hq | hq
  ·exact hq
  ·exact h1 k (hr.own k hk hq)
 ·rcases hq with hq | hq
  ·exact ⟨(h2 k hq).1, (h2 k hq).2.1, Nat.lt_of_lt_of_le (h2 k hq).2.2 hr.keep.size⟩
  ·refine ⟨?_, fun e => ?_, bldP_lt hb k hq⟩
   ·rcases hq with rfl | ⟨h3, _⟩
    ·exact Nat.le_refl _
    ·exact h3
   ·subst e
    exact (h2 k (h1 k (hr.own k hbs hq))).2.1 rfl
theorem txtI_alloc {kind : Nat} {p : I.Im} {w : World} {b bs : Nat} {pre : List NL} {q : BSet} {W : World} (h : TxtI kind p w b bs pre q W) (o : Obj) (ho : ∀ c fz, o ≠ .cells c 5 fz) :
  ∃ q', Rnd q q' W (W.alloc o) ∧ TxtI kind p w b bs pre q' (W.alloc o) ∧ q' W.heap.size := by
 obtain ⟨h1, h2, h3, h4, h5⟩ := h
 have hst : IStepU 5 0 (bldP b W) W (W.alloc o) := IStepU.alloc o ho
 have e := bldP_stepU hst
 have hb := (h2 b (h1 b (.inl rfl))).2.2
 refine ⟨fun k => q k ∨ k = W.heap.size, ⟨fun k hk hq => ?_, (Keep.refl _ _).alloc o⟩, ⟨fun k hk => .inl (h1 k (by rw [e] at hk; exact hk)), fun k hq => ?_, bld_istepU h3 hst, h4.alloc o, by rw [World.size_alloc]; omega⟩, .inr rfl⟩
 ·rcases hq with hq | hq
  ·exact hq
  ·omega
 ·rw [World.size_alloc]
  rcases hq with hq | hq
  ·have := h2 k hq; omega
  ·omega
theorem enQ_mem {seq : List Ln4} {pre : List NL} {x : NL} (h : EnQ seq pre x) : x.2 ∈ seq ∧ (∀ y ∈ pre, y.2 ∈ seq) ∧ pre.length < seq.length ∧ x.1 = pre.length + 1 := by
 obtain ⟨post, hq⟩ := h
 have h1 := congrArg (List.map Prod.snd) hq
 rw [numQ_snd, List.map_append, List.map_cons] at h1
 have h2 := congrArg List.length hq
 rw [numQ_len, List.length_append, List.length_cons] at h2
 have key : ∀ (l : List Ln4) (n : Nat) (pre post : List NL), numQ n l = pre ++ x :: post → x.1 = n + pre.length := by
  intro l
  induction l with
  | nil => intro n pre post e; cases pre <;> cases e
  | cons a l ih =>
   intro n pre post e
   cases pre with
   | nil => injection e with e _; rw [← e]; rfl
   | cons y pre => injection e with _ e; have := ih (n + 1) pre post e; rw [this, List.length_cons]; omega
 refine ⟨by rw [h1]; simp, fun y hy => by rw [h1]; exact List.mem_append_left _ (List.mem_map.2 ⟨y, hy, rfl⟩), by omega, ?_⟩
 have := key seq 1 pre post hq
 omega
theorem linesC_any (s : SH) (w : World) : Calls Tryz.prog 46 #[s.val] w fun e w' =>
  e = .returned (.func (.func 93) #[] #[.pointer (some ⟨w.heap.size, 0, none⟩)]) ∧ w' = w.alloc (.cells s.cells 72) := by
 obtain ⟨⟨X, nx, cx, Y, ny, cy⟩, lm, og, ob, bg, bb⟩ := s
 dsimp only [SH.val, SH.cells]
 go_enter Tryz.func46, Tryz.ntmps46
 go_wp2
 go_ret
 exact ⟨rfl, rfl⟩
def HRd (w : World) (bs : Nat) (s : SH) (W : World) : Prop := Keep (fun k => w.heap.size ≤ k) w W ∧ Blk W bs 72 s.cells
theorem hrd_it {w : World} {kind bs : Nat} {s : SH} {es : List I.SE} {fs : List I.FE} (h : ShOk w kind s es fs) (W : World) (hr : HRd w bs s W) : ShIt W bs s es fs (labK2 kind (I.imOf es fs)) := by
 refine ⟨hr.2, h.im.keep hr.1 (fun k hk => by omega), h.lab.keep hr.1 (fun b hb => ?_)⟩
 have hlt : b < w.heap.size := by
  have hl := h.lab
  rw [hb] at hl
  obtain ⟨n, f, hp, _⟩ := hl
  exact hp.lt
 omega
theorem ShOk.small {w : World} {kind : Nat} {s : SH} {es : List I.SE} {fs : List I.FE} (h : ShOk w kind s es fs) : es.length ≤ 64 ∧ fs.length ≤ 64 ∧ (∀ e ∈ fs, e.2.bd.length ≤ 512) ∧ (seqQ (labK2 kind (I.imOf es fs)) (I.imOf es fs)).length ≤ 65728 := by
 rcases h.ok with hp | ⟨rfl, rfl⟩
 ·refine ⟨by have := hp.ns; simpa [I.imOf] using this, by have := hp.nf; simpa [I.imOf] using this, fun e he => ?_, seqQ_len hp _⟩
  have hm : e.2 ∈ (I.imOf es fs).fn := List.mem_map.2 ⟨e, he, rfl⟩
  exact (ok_body (List.all_eq_true.1 ((I.okI_iff _).1 hp.ok).2.2 _ hm)).2.2.1
 ·exact ⟨Nat.zero_le _, Nat.zero_le _, (fun _ he => nomatch he), Nat.zero_le _⟩
theorem ShOk.okOf {w : World} {kind : Nat} {s : SH} {es : List I.SE} {fs : List I.FE} (h : ShOk w kind s es fs) {l : Ln4} (hl : l ∈ seqQ (labK2 kind (I.imOf es fs)) (I.imOf es fs)) : ImOk (I.imOf es fs) := by
 rcases h.ok with hp | ⟨rfl, rfl⟩
 ·exact hp
 ·cases hl

set_option maxRecDepth 100000 in
set_option maxHeartbeats 4000000 in
theorem text_any (kind : Nat) (s : SH) (es : List I.SE) (fs : List I.FE) (w : World) (h : ShOk w kind s es fs) (hL : O.LaidO w) :
  Calls Tryz.prog 40 #[s.val] w fun e w' => e = .returned (.string (str (textR kind (I.imOf es fs)))) ∧ Keep NoB w w' := by
 have hx := Blk.new w 72 s.cells
 have k1 := (Keep.refl NoB w).alloc (.cells s.cells 72)
 obtain ⟨w1, hw1⟩ : ∃ w1, w.alloc (.cells s.cells 72) = w1 := ⟨_, rfl⟩
 rw [hw1] at hx k1
 have hz1 : w1.heap.size = w.heap.size + 1 := by rw [← hw1]; simp
 have hb0 := bld_new w1
 have kb := (Keep.refl NoB w1).alloc (.cells #[.pointer none, .slice none 0 0] 122)
 have hx2 := hx.alloc (.cells #[.pointer none, .slice none 0 0] 122)
 obtain ⟨w2, hw2⟩ : ∃ w2, w1.alloc (.cells #[.pointer none, .slice none 0 0] 122) = w2 := ⟨_, rfl⟩
 rw [hw2] at hb0 kb hx2
 have hz2 : w2.heap.size = w.heap.size + 1 + 1 := by rw [← hw2]; simp [hz1]
 rw [hz1] at hb0
 have HLi := Lib.hid (fun W => linesC_any s W)
 have HSt := Lib.hid (fun W (h : Bld (w.heap.size + 1) (textR kind (I.imOf es fs)) W) => string_any (w.heap.size + 1) (textR kind (I.imOf es fs)) W h (Nat.le_of_lt (bld_lt h)))
 have HSy := Lib.hid (fun W (hk : Keep NoB w W) (l : Ln4) (hl : l ∈ seqQ (labK2 kind (I.imOf es fs)) (I.imOf es fs)) => says_any kind s es fs W (h.keep hk) (h.okOf hl) (hL.keep hk) l (seqQ_ok hl))
 have HIt := Lib.hid (hrd_it h (bs := w.heap.size + 1 + 1))
 obtain ⟨hes, hfs, hbd, hsq⟩ := h.small
 have HOk := Lib.hid (fun (l : Ln4) (hl : l ∈ seqQ (labK2 kind (I.imOf es fs)) (I.imOf es fs)) => h.okOf hl)
 have hbn := Blk.new w2 72 s.cells
 have k3 := (Keep.refl NoB w2).alloc (.cells s.cells 72)
 obtain ⟨w3, hw3⟩ : ∃ w3, w2.alloc (.cells s.cells 72) = w3 := ⟨_, rfl⟩
 rw [hw3] at hbn k3
 have hz3 : w3.heap.size = w.heap.size + 1 + 1 + 1 := by rw [← hw3]; simp [hz2]
 rw [hz2] at hbn
 have hb3 : Bld (w.heap.size + 1) (textQ kind (I.imOf es fs) []) w3 := bld_keep hb0 k3
 have hpb : ¬ bldP (w.heap.size + 1) w3 (w.heap.size + 1 + 1) := by
  rintro (h | ⟨_, c, fz, h⟩)
  ·omega
  ·rw [show _ = _ from hbn] at h; cases h
 have hp0 : ∀ k, bldP (w.heap.size + 1) w3 k → k < w3.heap.size := bldP_lt hb3
 have hi0 : TxtI kind (I.imOf es fs) w1 (w.heap.size + 1) (w.heap.size + 1 + 1) [] (bldP (w.heap.size + 1) w3) w3 := ⟨fun k hk => hk, fun k hk => ⟨by rcases hk with rfl | ⟨h3, _⟩; exact Nat.le_refl _; exact h3, fun e => by subst e; exact hpb hk, hp0 k hk⟩, hb3, keepN kb k3, by omega⟩
 have hH0 : HRd w (w.heap.size + 1 + 1) s w3 := ⟨(keepN k1 (keepN kb k3)).mono (fun _ hf => hf.elim), hbn⟩
 have hHs : ∀ O W1 W2, (∀ k, O k → bldP (w.heap.size + 1) w3 k ∨ w3.heap.size ≤ k) → HRd w (w.heap.size + 1 + 1) s W1 → Keep O W1 W2 → HRd w (w.heap.size + 1 + 1) s W2 := by
  rintro O W1 W2 hO ⟨a1, a2⟩ hk
  refine ⟨a1.trans hk (fun k h3 hl => ?_), a2.keep hk (fun h3 => ?_)⟩
  ·rcases hO k h3 with (h4 | ⟨h4, _⟩) | h4 <;> omega
  ·rcases hO _ h3 with h4 | h4
   ·exact hpb h4
   ·omega
 have hst := Lib.hid (lines_stops 2 3 (w.heap.size + 1 + 1) s es fs (labK2 kind (I.imOf es fs)) hes hfs hbd (by omega) (HRd w (w.heap.size + 1 + 1) s) HIt)
 have K1 := Lib.hid k1
 have hbox : Hid (∀ W, Keep NoB w1 W → Blk W w.heap.size 72 s.cells) := fun W hk => hx.keep hk id
 obtain ⟨c0, c1, c2, c3, c4⟩ := And.intro (hx2.cell 0) (And.intro (hx2.cell 1) (And.intro (hx2.cell 2) (And.intro (hx2.cell 3) (hx2.cell 4))))
 clear h hL hx kb k1 hb0 hbn k3 hes hfs hbd HIt hx2
 obtain ⟨⟨X, nx, cx, Y, ny, cy⟩, lm, og, ob, bg, bb⟩ := s
 dsimp only [SH.val, SH.cells] at *
 simp only [List.getElem?_toArray, List.getElem?_cons_zero, List.getElem?_cons_succ] at c0 c1 c2 c3 c4
 refine (callsIn_wide (n := 4)).1 ?_
 refine callsIn_of_wp_marks Tryz.func40 rfl trivial ?_ rfl
 simp only [Tryz.ntmps40, List.size_toArray, List.length_cons, List.length_nil, Nat.reduceAdd, Nat.reduceSub, Array.replicate_succ, Array.replicate_zero, List.push_toArray, List.append_toArray, List.nil_append, List.cons_append]
 gi_wp2_with (refine ⟨trivial, ?_⟩; gi_at_call 46; refine (callsIn_wide.2 (HLi.out _)).mono ?_; rintro e w9 ⟨rfl, rfl⟩)
 clear c0 c1 c2 c3 c4 hw1 hw2 hw3 HLi
 refine wpIn_rangeFunc_U (U := 5) (m := 2) (gf := 93) (lb := #[.pointer (some ⟨w.heap.size + 1 + 1, 0, none⟩)]) rfl (enters_of Tryz.func93 rfl rfl)
  hst.out (fun _ => rfl) (TxtI kind (I.imOf es fs) w1 (w.heap.size + 1) (w.heap.size + 1 + 1)) (fun _ _ _ _ => False) (txtI_out _ _ w1 _ _ _ (by omega)) (fun pre q W h k hk => (h.2.1 k hk).2.2) (fun c => by rintro _ _ _ _ h _; exact h) hi0 hp0 hH0 hHs
  (fun pre x q a' W => ∃ Bx, TxtI kind (I.imOf es fs) w1 (w.heap.size + 1) (w.heap.size + 1 + 1) pre q W ∧ q Bx ∧ Blk W Bx 84 (lnC x.2) ∧ a' = { tmps := #[.agg #[.slice X nx cx, .slice Y ny cy, .map lm, .func (.func og) #[] ob, .func (.func bg) #[] bb], .pointer (some ⟨w.heap.size, 0, none⟩), .string ⟨#[]⟩, .pointer (some ⟨w.heap.size + 1, 0, none⟩), undef, .pointer (some ⟨Bx, 0, none⟩), .agg #[.slice X nx cx, .slice Y ny cy, .map lm, .func (.func og) #[] ob, .func (.func bg) #[] bb], .func (.func 93) #[] #[.pointer (some ⟨w.heap.size + 1 + 1, 0, none⟩)], .int .i64 (x.1 : Int), .agg (lnC x.2), undef, undef, undef, undef, undef, undef], defers := [] }) ?hax ?assign ?body ?done ?stop
 case hax =>
  rintro pre x a' s q W W' ⟨Bx, g1, g2, g3, g4⟩ hs
  exact ⟨Bx, txtI_out _ _ w1 _ _ _ (by omega) _ _ _ _ g1 hs, g2, g3.keep hs.keep (fun h => h.2 g2), g4⟩
 case assign =>
  rintro l pre x q W hi hen
  have hB := Lib.hid (Blk.new W 84 (lnC x.2))
  obtain ⟨q', e1, e2, e3⟩ := txtI_alloc hi (.cells (lnC x.2) 84) (fun c fz e => by cases e)
  have hE := Lib.hid (And.intro e1 (And.intro e2 e3))
  clear e1 e2 e3 hi
  obtain ⟨n, ⟨a0, a1, a2, a3⟩⟩ := x
  dsimp only [encQ, lnC] at *
  gi_wp2
  exact ⟨q', hE.out.1, _, hE.out.2.1, hE.out.2.2, hB.out, rfl⟩
 case body =>
  rintro l pre x q a' W hen ⟨Bx, g1, g2, g3, rfl⟩
  obtain ⟨hm1, hm2, hm3, _⟩ := enQ_mem hen
  have hpI := HOk.out _ hm1
  have hpre : (textQ kind (I.imOf es fs) pre).length ≤ 2301 * 65728 := by
   have h9 := textOf_pre (kind := kind) (lab := labK2 kind (I.imOf es fs)) (pre := pre.map Prod.snd) hpI (fun l hl => by obtain ⟨y, hy, rfl⟩ := List.mem_map.1 hl; exact seqQ_ok (hm2 y hy)) (by rw [List.length_map]; omega)
   rw [List.map_map] at h9
   exact h9
  have hsl := say_le (kind := kind) hpI (seqQ_ok hm1)
  have hsn := textQ_snoc kind (I.imOf es fs) pre x
  have hkW : Keep NoB w W := keepN K1.out g1.2.2.2.1
  have HS := Lib.hid (HSy.out W hkW x.2 hm1)
  have HW1 := Lib.hid (fun W6 (h : Bld (w.heap.size + 1) (textQ kind (I.imOf es fs) pre) W6) => write_any (w.heap.size + 1) (textQ kind (I.imOf es fs) pre) (sayQ kind (I.imOf es fs) x.2) (str (sayQ kind (I.imOf es fs) x.2)) W6 h rfl (by omega) (Nat.le_of_lt (bld_lt h)))
  have HW2 := Lib.hid (fun W7 (h : Bld (w.heap.size + 1) (textQ kind (I.imOf es fs) pre ++ sayQ kind (I.imOf es fs) x.2) W7) => write_any (w.heap.size + 1) (textQ kind (I.imOf es fs) pre ++ sayQ kind (I.imOf es fs) x.2) [10] ⟨#[10]⟩ W7 h rfl (by rw [List.length_append]; simp; omega) (Nat.le_of_lt (bld_lt h)))
  rw [← List.append_assoc] at hsn
  have hbx := hbox.out W g1.2.2.2.1
  obtain ⟨c0, c1, c2, c3, c4⟩ := And.intro (hbx.cell 0) (And.intro (hbx.cell 1) (And.intro (hbx.cell 2) (And.intro (hbx.cell 3) (hbx.cell 4))))
  obtain ⟨d0, d1, d2, d3⟩ := And.intro (g3.cell 0) (And.intro (g3.cell 1) (And.intro (g3.cell 2) (g3.cell 3)))
  have HG := Lib.hid g1
  have hbl := g1.2.2.1
  have HK1 := Lib.hid g1.2.2.2.1
  have HSN := Lib.hid hsn
  have HPX : Hid (sayQ kind (I.imOf es fs) x.2 = sayQ kind (I.imOf es fs) x.2) := rfl
  generalize str (sayQ kind (I.imOf es fs) x.2) = T at HS HW1
  generalize hpx : pre ++ [x] = px at *
  generalize textQ kind (I.imOf es fs) pre ++ sayQ kind (I.imOf es fs) x.2 = t2 at HW1 HW2 HSN
  obtain ⟨n, ⟨a0, a1, a2, a3⟩⟩ := x
  dsimp only [lnC] at *
  simp only [List.getElem?_toArray, List.getElem?_cons_zero, List.getElem?_cons_succ] at c0 c1 c2 c3 c4 d0 d1 d2 d3
  clear hsn hpre hsl hm1 hm2 hm3 hpI hkW hbx g1 g2 g3 hpx hen HPX HSy HOk hst hi0 hp0 hH0 hHs hbox HSt hb3 hpb
  gi_wp2_with fail
  refine ⟨trivial, (CallsIn.inRound l (callsIn_wide.2 HS.out)).mono ?_⟩
  rintro e w5 ⟨rfl, k5⟩
  gi_wp2_with fail
  refine ⟨trivial, (CallsIn.inRound l (callsIn_wide.2 (HW1.out _ (bld_keep hbl k5)))).mono ?_⟩
  rintro e w7 ⟨⟨u, v, rfl⟩, p1, p2, p3⟩
  gi_wp2_with fail
  refine ⟨trivial, (CallsIn.inRound l (callsIn_wide.2 (HW2.out _ p1))).mono ?_⟩
  rintro e w8 ⟨⟨u2, v2, rfl⟩, q1, q2, q3⟩
  gi_wp2
  exact txtI_body HG.out (((bldP_keep k5).trans (bldP_rnd p2 p3)).trans (bldP_rnd q2 q3)) (by rw [HSN.out]; exact q1) (npBelow (npBelow (keepN HK1.out k5) p2 (by omega)) q2 (by omega))
 case done =>
  rintro D xs q W hD hpD rfl g1 hK
  have g2 := g1.2.2.1
  rw [textQ_all] at g2
  have hne : D ≠ w.heap.size + 1 := fun e => hpD (g1.1 _ (.inl e))
  have hkW := keepN K1.out g1.2.2.2.1
  gi_wp2_with (refine ⟨trivial, ?_⟩; gi_at_call 69; refine (callsIn_wide.2 (HSt.out _ g2)).mono ?_; rintro e w9 ⟨rfl, p1, p2, p3⟩)
  have hK9 := p3 D _ hK (by simpa using hne) (fun c fz e => by cases e)
  refine ⟨by simp, .inl ⟨_, _, rfl, run_takeDeferred hK9, ?_⟩⟩
  exact ⟨_, results_tmp rfl _ _ _, rfl, npPut (npBelow hkW p2 (by omega)) (by omega)⟩
 case stop =>
  rintro D c pre p W _ _ _ h _
  exact h.elim

end Go.Proofs.YtgnooffedmeenaaGreatDoor.M.L

namespace Go.Proofs.YtgnooffedmeenaaGreatDoor.M.L
open Go.RowKit W

def textL (kind : Nat) (p : I.Im) : Bs := if I.okI p = true then textR kind p else []
def cutP (p : I.Im) : I.Im := if I.okI p = true then p else I.nilI
theorem cut_p (es : List I.SE) (fs : List I.FE) : I.imOf (cutE (I.okI (I.imOf es fs)) es) (cutF (I.okI (I.imOf es fs)) fs) = cutP (I.imOf es fs) := by
 unfold cutP
 cases I.okI (I.imOf es fs) <;> rfl
theorem textL_cut (kind : Nat) (p : I.Im) : textR kind (cutP p) = textL kind p := by
 unfold cutP textL
 split
 ·rfl
 ·unfold textR allR; rfl
theorem cut_lg {b : Bool} {v : I.IV} {es : List I.SE} {fs : List I.FE} (h : I.LgI v es fs) : I.LgI (cutV b v) (cutE b es) (cutF b fs) := by
 cases b
 ·exact ⟨Nat.zero_le _, Nat.zero_le _, (fun _ he => nomatch he), (fun _ he => nomatch he)⟩
 ·exact h
theorem cut_ok2 {w : World} {v : I.IV} {es : List I.SE} {fs : List I.FE} (h : I.ImAt w v es fs) : ImOk (I.imOf (cutE (I.okI (I.imOf es fs)) es) (cutF (I.okI (I.imOf es fs)) fs)) ∨ (cutE (I.okI (I.imOf es fs)) es = [] ∧ cutF (I.okI (I.imOf es fs)) fs = []) := by
 cases hok : I.okI (I.imOf es fs)
 ·exact .inr ⟨rfl, rfl⟩
 ·refine .inl ⟨hok, fun f hf => ?_⟩
  obtain ⟨e, he, rfl⟩ := List.mem_map.1 hf
  exact (h.hf e he).hI
theorem named_sh (v : I.IV) (es : List I.SE) (fs : List I.FE) (w : World) (h : I.ImAt w v es fs) (hl : I.LgI v es fs) :
  Calls Tryz.prog 39 #[v.val] w fun e w' => ∃ s : SH, e = .returned s.val ∧ ShOk w' 0 s (cutE (I.okI (I.imOf es fs)) es) (cutF (I.okI (I.imOf es fs)) fs) ∧ Keep NoB w w' := by
 refine (named_any v es fs w h hl).mono ?_
 rintro e w' ⟨b, n, b1, b2, rfl, hn, _, hk⟩
 exact ⟨_, rfl, ⟨(cut_im h).keepN hk, cut_lg hl, cut_ok2 h, .inl ⟨rfl, b, n, b1, b2, rfl, hn⟩⟩, hk⟩
theorem plain_sh (v : I.IV) (es : List I.SE) (fs : List I.FE) (w : World) (h : I.ImAt w v es fs) (hl : I.LgI v es fs) :
  Calls Tryz.prog 42 #[v.val] w fun e w' => ∃ s : SH, e = .returned s.val ∧ ShOk w' 1 s (cutE (I.okI (I.imOf es fs)) es) (cutF (I.okI (I.imOf es fs)) fs) ∧ Keep NoB w w' := by
 refine (plain_any v es fs w h hl).mono ?_
 rintro e w' ⟨rfl, hk⟩
 exact ⟨_, rfl, ⟨(cut_im h).keepN hk, cut_lg hl, cut_ok2 h, .inr (.inl ⟨rfl, rfl⟩)⟩, hk⟩
theorem numb_sh (v : I.IV) (es : List I.SE) (fs : List I.FE) (w : World) (h : I.ImAt w v es fs) (hl : I.LgI v es fs) :
  Calls Tryz.prog 43 #[v.val] w fun e w' => ∃ s : SH, e = .returned s.val ∧ ShOk w' 2 s (cutE (I.okI (I.imOf es fs)) es) (cutF (I.okI (I.imOf es fs)) fs) ∧ Keep NoB w w' := by
 refine (numbered_any v es fs w h hl).mono ?_
 rintro e w' ⟨rfl, hk⟩
 exact ⟨_, rfl, ⟨(cut_im h).keepN hk, cut_lg hl, cut_ok2 h, .inr (.inr ⟨rfl, rfl⟩)⟩, hk⟩
theorem sheet_text (kind : Nat) (s : SH) (es : List I.SE) (fs : List I.FE) (w : World) (h : ShOk w kind s (cutE (I.okI (I.imOf es fs)) es) (cutF (I.okI (I.imOf es fs)) fs)) (hL : O.LaidO w) :
  Calls Tryz.prog 40 #[s.val] w fun e w' => e = .returned (.string (str (textL kind (I.imOf es fs)))) ∧ Keep NoB w w' := by
 have h1 := text_any kind s _ _ w h hL
 rw [cut_p, textL_cut] at h1
 exact h1

set_option maxHeartbeats 1000000 in
theorem listApi_any (v : I.IV) (es : List I.SE) (fs : List I.FE) (w : World) (h : I.ImAt w v es fs) (hl : I.LgI v es fs) (hL : O.LaidO w) :
  Calls Tryz.prog 12 #[v.val] w fun e w' => e = .returned (.string (str (textL 0 (I.imOf es fs)))) ∧ Keep NoB w w' := by
 have bx := Blk.new w 25 v.cells
 have k0 := (Keep.refl NoB w).alloc (.cells v.cells 25)
 have HS := Lib.hid (fun W (hk : Keep NoB w W) => named_sh v es fs W (h.keepN hk) hl)
 have HT := Lib.hid (fun (s : SH) W (hs : ShOk W 0 s (cutE (I.okI (I.imOf es fs)) es) (cutF (I.okI (I.imOf es fs)) fs)) (hk : Keep NoB w W) => sheet_text 0 s es fs W hs (hL.keep hk))
 clear h hl hL
 obtain ⟨X, nx, cx, Y, ny, cy⟩ := v
 dsimp only [I.IV.val, I.IV.cells] at *
 obtain ⟨c0, c1⟩ := And.intro (bx.cell 0) (bx.cell 1)
 simp only [List.getElem?_toArray, List.getElem?_cons_zero, List.getElem?_cons_succ] at c0 c1
 generalize str (textL 0 (I.imOf es fs)) = T at *
 go_enter Tryz.func12, Tryz.ntmps12
 go_wp2_with fail
 refine (HS.out _ k0).mono ?_
 rintro e w1 ⟨s, rfl, hs, k1⟩
 have HT2 := Lib.hid (HT.out s w1 hs (keepN k0 k1))
 clear HT HS hs bx c0 c1
 generalize s.val = sv at *
 go_wp2_with fail
 refine HT2.out.mono ?_
 rintro e w2 ⟨rfl, k2⟩
 go_wp2
 go_ret
 exact ⟨rfl, keepN (keepN k0 k1) k2⟩

set_option maxHeartbeats 1000000 in
theorem plainApi_any (v : I.IV) (es : List I.SE) (fs : List I.FE) (w : World) (h : I.ImAt w v es fs) (hl : I.LgI v es fs) (hL : O.LaidO w) :
  Calls Tryz.prog 14 #[v.val] w fun e w' => e = .returned (.string (str (textL 1 (I.imOf es fs)))) ∧ Keep NoB w w' := by
 have bx := Blk.new w 25 v.cells
 have k0 := (Keep.refl NoB w).alloc (.cells v.cells 25)
 have HS := Lib.hid (fun W (hk : Keep NoB w W) => plain_sh v es fs W (h.keepN hk) hl)
 have HT := Lib.hid (fun (s : SH) W (hs : ShOk W 1 s (cutE (I.okI (I.imOf es fs)) es) (cutF (I.okI (I.imOf es fs)) fs)) (hk : Keep NoB w W) => sheet_text 1 s es fs W hs (hL.keep hk))
 clear h hl hL
 obtain ⟨X, nx, cx, Y, ny, cy⟩ := v
 dsimp only [I.IV.val, I.IV.cells] at *
 obtain ⟨c0, c1⟩ := And.intro (bx.cell 0) (bx.cell 1)
 simp only [List.getElem?_toArray, List.getElem?_cons_zero, List.getElem?_cons_succ] at c0 c1
 generalize str (textL 1 (I.imOf es fs)) = T at *
 go_enter Tryz.func14, Tryz.ntmps14
 go_wp2_with fail
 refine (HS.out _ k0).mono ?_
 rintro e w1 ⟨s, rfl, hs, k1⟩
 have HT2 := Lib.hid (HT.out s w1 hs (keepN k0 k1))
 clear HT HS hs bx c0 c1
 generalize s.val = sv at *
 go_wp2_with fail
 refine HT2.out.mono ?_
 rintro e w2 ⟨rfl, k2⟩
 go_wp2
 go_ret
 exact ⟨rfl, keepN (keepN k0 k1) k2⟩

set_option maxHeartbeats 1000000 in
theorem numberedApi_any (v : I.IV) (es : List I.SE) (fs : List I.FE) (w : World) (h : I.ImAt w v es fs) (hl : I.LgI v es fs) (hL : O.LaidO w) :
  Calls Tryz.prog 15 #[v.val] w fun e w' => e = .returned (.string (str (textL 2 (I.imOf es fs)))) ∧ Keep NoB w w' := by
 have bx := Blk.new w 25 v.cells
 have k0 := (Keep.refl NoB w).alloc (.cells v.cells 25)
 have HS := Lib.hid (fun W (hk : Keep NoB w W) => numb_sh v es fs W (h.keepN hk) hl)
 have HT := Lib.hid (fun (s : SH) W (hs : ShOk W 2 s (cutE (I.okI (I.imOf es fs)) es) (cutF (I.okI (I.imOf es fs)) fs)) (hk : Keep NoB w W) => sheet_text 2 s es fs W hs (hL.keep hk))
 clear h hl hL
 obtain ⟨X, nx, cx, Y, ny, cy⟩ := v
 dsimp only [I.IV.val, I.IV.cells] at *
 obtain ⟨c0, c1⟩ := And.intro (bx.cell 0) (bx.cell 1)
 simp only [List.getElem?_toArray, List.getElem?_cons_zero, List.getElem?_cons_succ] at c0 c1
 generalize str (textL 2 (I.imOf es fs)) = T at *
 go_enter Tryz.func15, Tryz.ntmps15
 go_wp2_with fail
 refine (HS.out _ k0).mono ?_
 rintro e w1 ⟨s, rfl, hs, k1⟩
 have HT2 := Lib.hid (HT.out s w1 hs (keepN k0 k1))
 clear HT HS hs bx c0 c1
 generalize s.val = sv at *
 go_wp2_with fail
 refine HT2.out.mono ?_
 rintro e w2 ⟨rfl, k2⟩
 go_wp2
 go_ret
 exact ⟨rfl, keepN (keepN k0 k1) k2⟩

end Go.Proofs.YtgnooffedmeenaaGreatDoor.M.L
