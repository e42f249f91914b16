/-
  Part 20 of the proofs of LBackRow, LLabelsRow: what is laid, and what the functions that the law runs answer. Conditions: each theorem names its own.
-/
import Derived.Test.YtgnooffedmeenaaGreatDoorQB19
namespace Go.Proofs.YtgnooffedmeenaaGreatDoor.M.L
open Go.RowKit Go.Shelf W
attribute [local go_sem] Oper.semAt_some

theorem bldP_stepU {B b : Nat} {W W' : World} (h : IStepU 5 B (bldP b W) W W') : bldP b W' = bldP b W := by
 funext k
 apply propext
 unfold bldP
 constructor
 ·rintro (rfl | ⟨h1, c, fz, h2⟩)
  ·exact .inl rfl
  ·exact .inr ⟨h1, c, fz, h.cells k c fz h2⟩
 ·rintro (rfl | ⟨h1, c, fz, h2⟩)
  ·exact .inl rfl
  ·exact .inr ⟨h1, c, fz, (h.keep.block k (Array.getElem?_eq_some_iff.1 h2).1 (fun h3 => h3.2 (.inr ⟨h1, c, fz, h2⟩))).trans h2⟩
theorem bld_istepU {B b : Nat} {s : Bs} {W W' : World} (h : Bld b s W) (hs : IStepU 5 B (bldP b W) W W') : Bld b s W' := by
 have key : ∀ {p : Value}, Lib.BuilderAtF 122 5 b b p (Lib.byteCells s) W → Lib.BuilderAtF 122 5 b b p (Lib.byteCells s) W' := by
  rintro p ⟨h1, v, h2, ⟨h3, h4⟩, h5⟩
  have hb := hs.keep.block b (Array.getElem?_eq_some_iff.1 h2).1 (fun h => h.2 (.inl rfl))
  refine ⟨h1, v, hb.trans h2, ⟨h3, ?_⟩, h5⟩
  rcases h4 with h4 | ⟨g, cap, cur, fz, e1, e2, e3, e4⟩
  ·exact .inl h4
  ·exact .inr ⟨g, cap, cur, fz, e1, e2, (hs.keep.block g (Array.getElem?_eq_some_iff.1 e3).1 (fun h => h.2 (.inr ⟨e2, _, _, e3⟩))).trans e3, e4⟩
 exact h.elim (fun h => .inl (key h)) (fun h => .inr (key h))
theorem bldP_lt {b : Nat} {s : Bs} {W : World} (h : Bld b s W) : ∀ k, bldP b W k → k < W.heap.size := by
 rintro k (rfl | ⟨_, c, fz, h2⟩)
 ·exact bld_lt h
 ·exact (Array.getElem?_eq_some_iff.1 h2).1
def textQ (kind : Nat) (p : I.Im) (pre : List NL) : Bs := textOf (pre.map fun x => sayQ kind p x.2)
theorem textQ_snoc (kind : Nat) (p : I.Im) (pre : List NL) (x : NL) : textQ kind p (pre ++ [x]) = textQ kind p pre ++ (sayQ kind p x.2 ++ [10]) := by
 unfold textQ
 rw [List.map_append, textOf_append]
 congr 1
 show textOf [sayQ kind p x.2] = _
 rw [text_cons]
 rfl
theorem textQ_all (kind : Nat) (p : I.Im) : textQ kind p (numQ 1 (seqQ (labK2 kind p) p)) = textR kind p := by
 unfold textQ
 rw [text_seq]
 congr 1
 show List.map ((sayQ kind p) ∘ Prod.snd) _ = _
 rw [← List.map_map, numQ_snd]
 rfl
def TxtI (kind : Nat) (p : I.Im) (w : World) (b bs : Nat) (pre : List NL) (q : BSet) (W : World) : Prop :=
 (∀ k, bldP b W k → q k) ∧ (∀ k, q k → b ≤ k ∧ k ≠ bs ∧ k < W.heap.size) ∧ Bld b (textQ kind p pre) W ∧ Keep NoB w W ∧ bs < W.heap.size
theorem txtI_out (kind : Nat) (p : I.Im) (w : World) (b bs B : Nat) (h : w.heap.size ≤ B) : KeepsOutU 5 B (TxtI kind p w b bs) := by
 rintro pre q W W' ⟨h1, h2, h3, h4, h5⟩ hs
 have hs2 := hs.mono (Nat.le_refl _) h1
 have e := bldP_stepU hs2
 exact ⟨fun k hk => h1 k (by rw [e] at hk; exact hk), fun k hk => ⟨(h2 k hk).1, (h2 k hk).2.1, Nat.lt_of_lt_of_le (h2 k hk).2.2 hs.keep.size⟩, bld_istepU h3 hs2, h4.trans hs.keep (fun k h3 hk => by omega), Nat.lt_of_lt_of_le h5 hs.keep.size⟩
theorem txtI_body {kind : Nat} {p : I.Im} {w : World} {b bs : Nat} {pre pre' : List NL} {q : BSet} {W W' : World} (h : TxtI kind p w b bs pre q W) (hr : Rnd (bldP b W) (bldP b W') W W') (hb : Bld b (textQ kind p pre') W') (hk : Keep NoB w W') :
  ∃ q', Rnd q q' W W' ∧ TxtI kind p w b bs pre' q' W' := by
 obtain ⟨h1, h2, _, _, hbs⟩ := h
 refine ⟨fun k => q k ∨ bldP b W' k, ⟨fun k hk hq => ?_, hr.keep.mono (fun k hk _ => h1 k hk)⟩, fun k hk => .inr hk, fun k hq => ?_, hb, hk, Nat.lt_of_lt_of_le hbs hr.keep.size⟩
 ·rcases hq with hq | hq
  ·exact hq
  ·exact h1 k (hr.own k hk hq)
 ·rcases hq with hq | hq
  ·exact ⟨(h2 k hq).1, (h2 k hq).2.1, Nat.lt_of_lt_of_le (h2 k hq).2.2 hr.keep.size⟩
  ·refine ⟨?_, fun e => ?_, bldP_lt hb k hq⟩
   ·rcases hq with rfl | ⟨h3, _⟩
    ·exact Nat.le_refl _
    ·exact h3
   ·subst e
    exact (h2 k (h1 k (hr.own k hbs hq))).2.1 rfl
theorem txtI_alloc {kind : Nat} {p : I.Im} {w : World} {b bs : Nat} {pre : List NL} {q : BSet} {W : World} (h : TxtI kind p w b bs pre q W) (o : Obj) (ho : ∀ c fz, o ≠ .cells c 5 fz) :
  ∃ q', Rnd q q' W (W.alloc o) ∧ TxtI kind p w b bs pre q' (W.alloc o) ∧ q' W.heap.size := by
 obtain ⟨h1, h2, h3, h4, h5⟩ := h
 have hst : IStepU 5 0 (bldP b W) W (W.alloc o) := IStepU.alloc o ho
 have e := bldP_stepU hst
 have hb := (h2 b (h1 b (.inl rfl))).2.2
 refine ⟨fun k => q k ∨ k = W.heap.size, ⟨fun k hk hq => ?_, (Keep.refl _ _).alloc o⟩, ⟨fun k hk => .inl (h1 k (by rw [e] at hk; exact hk)), fun k hq => ?_, bld_istepU h3 hst, h4.alloc o, by rw [World.size_alloc]; omega⟩, .inr rfl⟩
 ·rcases hq with hq | hq
  ·exact hq
  ·omega
 ·rw [World.size_alloc]
  rcases hq with hq | hq
  ·have := h2 k hq; omega
  ·omega
theorem enQ_mem {seq : List Ln4} {pre : List NL} {x : NL} (h : EnQ seq pre x) : x.2 ∈ seq ∧ (∀ y ∈ pre, y.2 ∈ seq) ∧ pre.length < seq.length ∧ x.1 = pre.length + 1 := by
 obtain ⟨post, hq⟩ := h
 have h1 := congrArg (List.map Prod.snd) hq
 rw [numQ_snd, List.map_append, List.map_cons] at h1
 have h2 := congrArg List.length hq
 rw [numQ_len, List.length_append, List.length_cons] at h2
 have key : ∀ (l : List Ln4) (n : Nat) (pre post : List NL), numQ n l = pre ++ x :: post → x.1 = n + pre.length := by
  intro l
  induction l with
  | nil => intro n pre post e; cases pre <;> cases e
  | cons a l ih =>
   intro n pre post e
   cases pre with
   | nil => injection e with e _; rw [← e]; rfl
   | cons y pre => injection e with _ e; have := ih (n + 1) pre post e; rw [this, List.length_cons]; omega
 refine ⟨by rw [h1]; simp, fun y hy => by rw [h1]; exact List.mem_append_left _ (List.mem_map.2 ⟨y, hy, rfl⟩), by omega, ?_⟩
 have := key seq 1 pre post hq
 omega
theorem linesC_any (s : SH) (w : World) : Calls Tryz.prog 46 #[s.val] w fun e w' =>
  e = .returned (.func (.func 93) #[] #[.pointer (some ⟨w.heap.size, 0, none⟩)]) ∧ w' = w.alloc (.cells s.cells 72) := by
 obtain ⟨⟨X, nx, cx, Y, ny, cy⟩, lm, og, ob, bg, bb⟩ := s
 dsimp only [SH.val, SH.cells]
 go_enter Tryz.func46, Tryz.ntmps46
 go_wp2
 go_ret
 exact ⟨rfl, rfl⟩
def HRd (w : World) (bs : Nat) (s : SH) (W : World) : Prop := Keep (fun k => w.heap.size ≤ k) w W ∧ Blk W bs 72 s.cells
theorem hrd_it {w : World} {kind bs : Nat} {s : SH} {es : List I.SE} {fs : List I.FE} (h : ShOk w kind s es fs) (W : World) (hr : HRd w bs s W) : ShIt W bs s es fs (labK2 kind (I.imOf es fs)) := by
 refine ⟨hr.2, h.im.keep hr.1 (fun k hk => by omega), h.lab.keep hr.1 (fun b hb => ?_)⟩
 have hlt : b < w.heap.size := by
  have hl := h.lab
  rw [hb] at hl
  obtain ⟨n, f, hp, _⟩ := hl
  exact hp.lt
 omega
theorem ShOk.small {w : World} {kind : Nat} {s : SH} {es : List I.SE} {fs : List I.FE} (h : ShOk w kind s es fs) : es.length ≤ 64 ∧ fs.length ≤ 64 ∧ (∀ e ∈ fs, e.2.bd.length ≤ 512) ∧ (seqQ (labK2 kind (I.imOf es fs)) (I.imOf es fs)).length ≤ 65728 := by
 rcases h.ok with hp | ⟨rfl, rfl⟩
 ·refine ⟨by have := hp.ns; simpa [I.imOf] using this, by have := hp.nf; simpa [I.imOf] using this, fun e he => ?_, seqQ_len hp _⟩
  have hm : e.2 ∈ (I.imOf es fs).fn := List.mem_map.2 ⟨e, he, rfl⟩
  exact (ok_body (List.all_eq_true.1 ((I.okI_iff _).1 hp.ok).2.2 _ hm)).2.2.1
 ·exact ⟨Nat.zero_le _, Nat.zero_le _, (fun _ he => nomatch he), Nat.zero_le _⟩
theorem ShOk.okOf {w : World} {kind : Nat} {s : SH} {es : List I.SE} {fs : List I.FE} (h : ShOk w kind s es fs) {l : Ln4} (hl : l ∈ seqQ (labK2 kind (I.imOf es fs)) (I.imOf es fs)) : ImOk (I.imOf es fs) := by
 rcases h.ok with hp | ⟨rfl, rfl⟩
 ·exact hp
 ·cases hl

set_option maxRecDepth 100000 in
set_option maxHeartbeats 4000000 in
theorem text_any (kind : Nat) (s : SH) (es : List I.SE) (fs : List I.FE) (w : World) (h : ShOk w kind s es fs) (hL : O.LaidO w) :
  Calls Tryz.prog 40 #[s.val] w fun e w' => e = .returned (.string (str (textR kind (I.imOf es fs)))) ∧ Keep NoB w w' := by
 have hx := Blk.new w 72 s.cells
 have k1 := (Keep.refl NoB w).alloc (.cells s.cells 72)
 obtain ⟨w1, hw1⟩ : ∃ w1, w.alloc (.cells s.cells 72) = w1 := ⟨_, rfl⟩
 rw [hw1] at hx k1
 have hz1 : w1.heap.size = w.heap.size + 1 := by rw [← hw1]; simp
 have hb0 := bld_new w1
 have kb := (Keep.refl NoB w1).alloc (.cells #[.pointer none, .slice none 0 0] 122)
 have hx2 := hx.alloc (.cells #[.pointer none, .slice none 0 0] 122)
 obtain ⟨w2, hw2⟩ : ∃ w2, w1.alloc (.cells #[.pointer none, .slice none 0 0] 122) = w2 := ⟨_, rfl⟩
 rw [hw2] at hb0 kb hx2
 have hz2 : w2.heap.size = w.heap.size + 1 + 1 := by rw [← hw2]; simp [hz1]
 rw [hz1] at hb0
 have HLi := Lib.hid (fun W => linesC_any s W)
 have HSt := Lib.hid (fun W (h : Bld (w.heap.size + 1) (textR kind (I.imOf es fs)) W) => string_any (w.heap.size + 1) (textR kind (I.imOf es fs)) W h (Nat.le_of_lt (bld_lt h)))
 have HSy := Lib.hid (fun W (hk : Keep NoB w W) (l : Ln4) (hl : l ∈ seqQ (labK2 kind (I.imOf es fs)) (I.imOf es fs)) => says_any kind s es fs W (h.keep hk) (h.okOf hl) (hL.keep hk) l (seqQ_ok hl))
 have HIt := Lib.hid (hrd_it h (bs := w.heap.size + 1 + 1))
 obtain ⟨hes, hfs, hbd, hsq⟩ := h.small
 have HOk := Lib.hid (fun (l : Ln4) (hl : l ∈ seqQ (labK2 kind (I.imOf es fs)) (I.imOf es fs)) => h.okOf hl)
 have hbn := Blk.new w2 72 s.cells
 have k3 := (Keep.refl NoB w2).alloc (.cells s.cells 72)
 obtain ⟨w3, hw3⟩ : ∃ w3, w2.alloc (.cells s.cells 72) = w3 := ⟨_, rfl⟩
 rw [hw3] at hbn k3
 have hz3 : w3.heap.size = w.heap.size + 1 + 1 + 1 := by rw [← hw3]; simp [hz2]
 rw [hz2] at hbn
 have hb3 : Bld (w.heap.size + 1) (textQ kind (I.imOf es fs) []) w3 := bld_keep hb0 k3
 have hpb : ¬ bldP (w.heap.size + 1) w3 (w.heap.size + 1 + 1) := by
  rintro (h | ⟨_, c, fz, h⟩)
  ·omega
  ·rw [show _ = _ from hbn] at h; cases h
 have hp0 : ∀ k, bldP (w.heap.size + 1) w3 k → k < w3.heap.size := bldP_lt hb3
 have hi0 : TxtI kind (I.imOf es fs) w1 (w.heap.size + 1) (w.heap.size + 1 + 1) [] (bldP (w.heap.size + 1) w3) w3 := ⟨fun k hk => hk, fun k hk => ⟨by rcases hk with rfl | ⟨h3, _⟩; exact Nat.le_refl _; exact h3, fun e => by subst e; exact hpb hk, hp0 k hk⟩, hb3, keepN kb k3, by omega⟩
 have hH0 : HRd w (w.heap.size + 1 + 1) s w3 := ⟨(keepN k1 (keepN kb k3)).mono (fun _ hf => hf.elim), hbn⟩
 have hHs : ∀ O W1 W2, (∀ k, O k → bldP (w.heap.size + 1) w3 k ∨ w3.heap.size ≤ k) → HRd w (w.heap.size + 1 + 1) s W1 → Keep O W1 W2 → HRd w (w.heap.size + 1 + 1) s W2 := by
  rintro O W1 W2 hO ⟨a1, a2⟩ hk
  refine ⟨a1.trans hk (fun k h3 hl => ?_), a2.keep hk (fun h3 => ?_)⟩
  ·rcases hO k h3 with (h4 | ⟨h4, _⟩) | h4 <;> omega
  ·rcases hO _ h3 with h4 | h4
   ·exact hpb h4
   ·omega
 have hst := Lib.hid (lines_stops 2 3 (w.heap.size + 1 + 1) s es fs (labK2 kind (I.imOf es fs)) hes hfs hbd (by omega) (HRd w (w.heap.size + 1 + 1) s) HIt)
 have K1 := Lib.hid k1
 have hbox : Hid (∀ W, Keep NoB w1 W → Blk W w.heap.size 72 s.cells) := fun W hk => hx.keep hk id
 obtain ⟨c0, c1, c2, c3, c4⟩ := And.intro (hx2.cell 0) (And.intro (hx2.cell 1) (And.intro (hx2.cell 2) (And.intro (hx2.cell 3) (hx2.cell 4))))
 clear h hL hx kb k1 hb0 hbn k3 hes hfs hbd HIt hx2
 obtain ⟨⟨X, nx, cx, Y, ny, cy⟩, lm, og, ob, bg, bb⟩ := s
 dsimp only [SH.val, SH.cells] at *
 simp only [List.getElem?_toArray, List.getElem?_cons_zero, List.getElem?_cons_succ] at c0 c1 c2 c3 c4
 refine (callsIn_wide (n := 4)).1 ?_
 refine callsIn_of_wp_marks Tryz.func40 rfl trivial ?_ rfl
 simp only [Tryz.ntmps40, List.size_toArray, List.length_cons, List.length_nil, Nat.reduceAdd, Nat.reduceSub, Array.replicate_succ, Array.replicate_zero, List.push_toArray, List.append_toArray, List.nil_append, List.cons_append]
 gi_wp2_with (refine ⟨trivial, ?_⟩; gi_at_call 46; refine (callsIn_wide.2 (HLi.out _)).mono ?_; rintro e w9 ⟨rfl, rfl⟩)
 clear c0 c1 c2 c3 c4 hw1 hw2 hw3 HLi
 refine wpIn_rangeFunc_U (U := 5) (m := 2) (gf := 93) (lb := #[.pointer (some ⟨w.heap.size + 1 + 1, 0, none⟩)]) rfl (enters_of Tryz.func93 rfl rfl)
  hst.out (fun _ => rfl) (TxtI kind (I.imOf es fs) w1 (w.heap.size + 1) (w.heap.size + 1 + 1)) (fun _ _ _ _ => False) (txtI_out _ _ w1 _ _ _ (by omega)) (fun pre q W h k hk => (h.2.1 k hk).2.2) (fun c => by rintro _ _ _ _ h _; exact h) hi0 hp0 hH0 hHs
  (fun pre x q a' W => ∃ Bx, TxtI kind (I.imOf es fs) w1 (w.heap.size + 1) (w.heap.size + 1 + 1) pre q W ∧ q Bx ∧ Blk W Bx 84 (lnC x.2) ∧ a' = { tmps := #[.agg #[.slice X nx cx, .slice Y ny cy, .map lm, .func (.func og) #[] ob, .func (.func bg) #[] bb], .pointer (some ⟨w.heap.size, 0, none⟩), .string ⟨#[]⟩, .pointer (some ⟨w.heap.size + 1, 0, none⟩), undef, .pointer (some ⟨Bx, 0, none⟩), .agg #[.slice X nx cx, .slice Y ny cy, .map lm, .func (.func og) #[] ob, .func (.func bg) #[] bb], .func (.func 93) #[] #[.pointer (some ⟨w.heap.size + 1 + 1, 0, none⟩)], .int .i64 (x.1 : Int), .agg (lnC x.2), undef, undef, undef, undef, undef, undef], defers := [] }) ?hax ?assign ?body ?done ?stop
 case hax =>
  rintro pre x a' s q W W' ⟨Bx, g1, g2, g3, g4⟩ hs
  exact ⟨Bx, txtI_out _ _ w1 _ _ _ (by omega) _ _ _ _ g1 hs, g2, g3.keep hs.keep (fun h => h.2 g2), g4⟩
 case assign =>
  rintro l pre x q W hi hen
  have hB := Lib.hid (Blk.new W 84 (lnC x.2))
  obtain ⟨q', e1, e2, e3⟩ := txtI_alloc hi (.cells (lnC x.2) 84) (fun c fz e => by cases e)
  have hE := Lib.hid (And.intro e1 (And.intro e2 e3))
  clear e1 e2 e3 hi
  obtain ⟨n, ⟨a0, a1, a2, a3⟩⟩ := x
  dsimp only [encQ, lnC] at *
  gi_wp2
  exact ⟨q', hE.out.1, _, hE.out.2.1, hE.out.2.2, hB.out, rfl⟩
 case body =>
  rintro l pre x q a' W hen ⟨Bx, g1, g2, g3, rfl⟩
  obtain ⟨hm1, hm2, hm3, _⟩ := enQ_mem hen
  have hpI := HOk.out _ hm1
  have hpre : (textQ kind (I.imOf es fs) pre).length ≤ 2301 * 65728 := by
   have h9 := textOf_pre (kind := kind) (lab := labK2 kind (I.imOf es fs)) (pre := pre.map Prod.snd) hpI (fun l hl => by obtain ⟨y, hy, rfl⟩ := List.mem_map.1 hl; exact seqQ_ok (hm2 y hy)) (by rw [List.length_map]; omega)
   rw [List.map_map] at h9
   exact h9
  have hsl := say_le (kind := kind) hpI (seqQ_ok hm1)
  have hsn := textQ_snoc kind (I.imOf es fs) pre x
  have hkW : Keep NoB w W := keepN K1.out g1.2.2.2.1
  have HS := Lib.hid (HSy.out W hkW x.2 hm1)
  have HW1 := Lib.hid (fun W6 (h : Bld (w.heap.size + 1) (textQ kind (I.imOf es fs) pre) W6) => write_any (w.heap.size + 1) (textQ kind (I.imOf es fs) pre) (sayQ kind (I.imOf es fs) x.2) (str (sayQ kind (I.imOf es fs) x.2)) W6 h rfl (by omega) (Nat.le_of_lt (bld_lt h)))
  have HW2 := Lib.hid (fun W7 (h : Bld (w.heap.size + 1) (textQ kind (I.imOf es fs) pre ++ sayQ kind (I.imOf es fs) x.2) W7) => write_any (w.heap.size + 1) (textQ kind (I.imOf es fs) pre ++ sayQ kind (I.imOf es fs) x.2) [10] ⟨#[10]⟩ W7 h rfl (by rw [List.length_append]; simp; omega) (Nat.le_of_lt (bld_lt h)))
  rw [← List.append_assoc] at hsn
  have hbx := hbox.out W g1.2.2.2.1
  obtain ⟨c0, c1, c2, c3, c4⟩ := And.intro (hbx.cell 0) (And.intro (hbx.cell 1) (And.intro (hbx.cell 2) (And.intro (hbx.cell 3) (hbx.cell 4))))
  obtain ⟨d0, d1, d2, d3⟩ := And.intro (g3.cell 0) (And.intro (g3.cell 1) (And.intro (g3.cell 2) (g3.cell 3)))
  have HG := Lib.hid g1
  have hbl := g1.2.2.1
  have HK1 := Lib.hid g1.2.2.2.1
  have HSN := Lib.hid hsn
  have HPX : Hid (sayQ kind (I.imOf es fs) x.2 = sayQ kind (I.imOf es fs) x.2) := rfl
  generalize str (sayQ kind (I.imOf es fs) x.2) = T at HS HW1
  generalize hpx : pre ++ [x] = px at *
  generalize textQ kind (I.imOf es fs) pre ++ sayQ kind (I.imOf es fs) x.2 = t2 at HW1 HW2 HSN
  obtain ⟨n, ⟨a0, a1, a2, a3⟩⟩ := x
  dsimp only [lnC] at *
  simp only [List.getElem?_toArray, List.getElem?_cons_zero, List.getElem?_cons_succ] at c0 c1 c2 c3 c4 d0 d1 d2 d3
  clear hsn hpre hsl hm1 hm2 hm3 hpI hkW hbx g1 g2 g3 hpx hen HPX HSy HOk hst hi0 hp0 hH0 hHs hbox HSt hb3 hpb
  gi_wp2_with fail
  refine ⟨trivial, (CallsIn.inRound l (callsIn_wide.2 HS.out)).mono ?_⟩
  rintro e w5 ⟨rfl, k5⟩
  gi_wp2_with fail
  refine ⟨trivial, (CallsIn.inRound l (callsIn_wide.2 (HW1.out _ (bld_keep hbl k5)))).mono ?_⟩
  rintro e w7 ⟨⟨u, v, rfl⟩, p1, p2, p3⟩
  gi_wp2_with fail
  refine ⟨trivial, (CallsIn.inRound l (callsIn_wide.2 (HW2.out _ p1))).mono ?_⟩
  rintro e w8 ⟨⟨u2, v2, rfl⟩, q1, q2, q3⟩
  gi_wp2
  exact txtI_body HG.out (((bldP_keep k5).trans (bldP_rnd p2 p3)).trans (bldP_rnd q2 q3)) (by rw [HSN.out]; exact q1) (npBelow (npBelow (keepN HK1.out k5) p2 (by omega)) q2 (by omega))
 case done =>
  rintro D xs q W hD hpD rfl g1 hK
  have g2 := g1.2.2.1
  rw [textQ_all] at g2
  have hne : D ≠ w.heap.size + 1 := fun e => hpD (g1.1 _ (.inl e))
  have hkW := keepN K1.out g1.2.2.2.1
  gi_wp2_with (refine ⟨trivial, ?_⟩; gi_at_call 69; refine (callsIn_wide.2 (HSt.out _ g2)).mono ?_; rintro e w9 ⟨rfl, p1, p2, p3⟩)
  have hK9 := p3 D _ hK (by simpa using hne) (fun c fz e => by cases e)
  refine ⟨by simp, .inl ⟨_, _, rfl, run_takeDeferred hK9, ?_⟩⟩
  exact ⟨_, results_tmp rfl _ _ _, rfl, npPut (npBelow hkW p2 (by omega)) (by omega)⟩
 case stop =>
  rintro D c pre p W _ _ _ h _
  exact h.elim

end Go.Proofs.YtgnooffedmeenaaGreatDoor.M.L

namespace Go.Proofs.YtgnooffedmeenaaGreatDoor.M.L
open Go.RowKit W

def textL (kind : Nat) (p : I.Im) : Bs := if I.okI p = true then textR kind p else []
def cutP (p : I.Im) : I.Im := if I.okI p = true then p else I.nilI
theorem cut_p (es : List I.SE) (fs : List I.FE) : I.imOf (cutE (I.okI (I.imOf es fs)) es) (cutF (I.okI (I.imOf es fs)) fs) = cutP (I.imOf es fs) := by
 unfold cutP
 cases I.okI (I.imOf es fs) <;> rfl
theorem textL_cut (kind : Nat) (p : I.Im) : textR kind (cutP p) = textL kind p := by
 unfold cutP textL
 split
 ·rfl
 ·unfold textR allR; rfl
theorem cut_lg {b : Bool} {v : I.IV} {es : List I.SE} {fs : List I.FE} (h : I.LgI v es fs) : I.LgI (cutV b v) (cutE b es) (cutF b fs) := by
 cases b
 ·exact ⟨Nat.zero_le _, Nat.zero_le _, (fun _ he => nomatch he), (fun _ he => nomatch he)⟩
 ·exact h
theorem cut_ok2 {w : World} {v : I.IV} {es : List I.SE} {fs : List I.FE} (h : I.ImAt w v es fs) : ImOk (I.imOf (cutE (I.okI (I.imOf es fs)) es) (cutF (I.okI (I.imOf es fs)) fs)) ∨ (cutE (I.okI (I.imOf es fs)) es = [] ∧ cutF (I.okI (I.imOf es fs)) fs = []) := by
 cases hok : I.okI (I.imOf es fs)
 ·exact .inr ⟨rfl, rfl⟩
 ·refine .inl ⟨hok, fun f hf => ?_⟩
  obtain ⟨e, he, rfl⟩ := List.mem_map.1 hf
  exact (h.hf e he).hI
theorem named_sh (v : I.IV) (es : List I.SE) (fs : List I.FE) (w : World) (h : I.ImAt w v es fs) (hl : I.LgI v es fs) :
  Calls Tryz.prog 39 #[v.val] w fun e w' => ∃ s : SH, e = .returned s.val ∧ ShOk w' 0 s (cutE (I.okI (I.imOf es fs)) es) (cutF (I.okI (I.imOf es fs)) fs) ∧ Keep NoB w w' := by
 refine (named_any v es fs w h hl).mono ?_
 rintro e w' ⟨b, n, b1, b2, rfl, hn, _, hk⟩
 exact ⟨_, rfl, ⟨(cut_im h).keepN hk, cut_lg hl, cut_ok2 h, .inl ⟨rfl, b, n, b1, b2, rfl, hn⟩⟩, hk⟩
theorem plain_sh (v : I.IV) (es : List I.SE) (fs : List I.FE) (w : World) (h : I.ImAt w v es fs) (hl : I.LgI v es fs) :
  Calls Tryz.prog 42 #[v.val] w fun e w' => ∃ s : SH, e = .returned s.val ∧ ShOk w' 1 s (cutE (I.okI (I.imOf es fs)) es) (cutF (I.okI (I.imOf es fs)) fs) ∧ Keep NoB w w' := by
 refine (plain_any v es fs w h hl).mono ?_
 rintro e w' ⟨rfl, hk⟩
 exact ⟨_, rfl, ⟨(cut_im h).keepN hk, cut_lg hl, cut_ok2 h, .inr (.inl ⟨rfl, rfl⟩)⟩, hk⟩
theorem numb_sh (v : I.IV) (es : List I.SE) (fs : List I.FE) (w : World) (h : I.ImAt w v es fs) (hl : I.LgI v es fs) :
  Calls Tryz.prog 43 #[v.val] w fun e w' => ∃ s : SH, e = .returned s.val ∧ ShOk w' 2 s (cutE (I.okI (I.imOf es fs)) es) (cutF (I.okI (I.imOf es fs)) fs) ∧ Keep NoB w w' := by
 refine (numbered_any v es fs w h hl).mono ?_
 rintro e w' ⟨rfl, hk⟩
 exact ⟨_, rfl, ⟨(cut_im h).keepN hk, cut_lg hl, cut_ok2 h, .inr (.inr ⟨rfl, rfl⟩)⟩, hk⟩
theorem sheet_text (kind : Nat) (s : SH) (es : List I.SE) (fs : List I.FE) (w : World) (h : ShOk w kind s (cutE (I.okI (I.imOf es fs)) es) (cutF (I.okI (I.imOf es fs)) fs)) (hL : O.LaidO w) :
  Calls Tryz.prog 40 #[s.val] w fun e w' => e = .returned (.string (str (textL kind (I.imOf es fs)))) ∧ Keep NoB w w' := by
 have h1 := text_any kind s _ _ w h hL
 rw [cut_p, textL_cut] at h1
 exact h1

set_option maxHeartbeats 1000000 in
theorem listApi_any (v : I.IV) (es : List I.SE) (fs : List I.FE) (w : World) (h : I.ImAt w v es fs) (hl : I.LgI v es fs) (hL : O.LaidO w) :
  Calls Tryz.prog 12 #[v.val] w fun e w' => e = .returned (.string (str (textL 0 (I.imOf es fs)))) ∧ Keep NoB w w' := by
 have bx := Blk.new w 25 v.cells
 have k0 := (Keep.refl NoB w).alloc (.cells v.cells 25)
 have HS := Lib.hid (fun W (hk : Keep NoB w W) => named_sh v es fs W (h.keepN hk) hl)
 have HT := Lib.hid (fun (s : SH) W (hs : ShOk W 0 s (cutE (I.okI (I.imOf es fs)) es) (cutF (I.okI (I.imOf es fs)) fs)) (hk : Keep NoB w W) => sheet_text 0 s es fs W hs (hL.keep hk))
 clear h hl hL
 obtain ⟨X, nx, cx, Y, ny, cy⟩ := v
 dsimp only [I.IV.val, I.IV.cells] at *
 obtain ⟨c0, c1⟩ := And.intro (bx.cell 0) (bx.cell 1)
 simp only [List.getElem?_toArray, List.getElem?_cons_zero, List.getElem?_cons_succ] at c0 c1
 generalize str (textL 0 (I.imOf es fs)) = T at *
 go_enter Tryz.func12, Tryz.ntmps12
 go_wp2_with fail
 refine (HS.out _ k0).mono ?_
 rintro e w1 ⟨s, rfl, hs, k1⟩
 have HT2 := Lib.hid (HT.out s w1 hs (keepN k0 k1))
 clear HT HS hs bx c0 c1
 generalize s.val = sv at *
 go_wp2_with fail
 refine HT2.out.mono ?_
 rintro e w2 ⟨rfl, k2⟩
 go_wp2
 go_ret
 exact ⟨rfl, keepN (keepN k0 k1) k2⟩

set_option maxHeartbeats 1000000 in
theorem plainApi_any (v : I.IV) (es : List I.SE) (fs : List I.FE) (w : World) (h : I.ImAt w v es fs) (hl : I.LgI v es fs) (hL : O.LaidO w) :
  Calls Tryz.prog 14 #[v.val] w fun e w' => e = .returned (.string (str (textL 1 (I.imOf es fs)))) ∧ Keep NoB w w' := by
 have bx := Blk.new w 25 v.cells
 have k0 := (Keep.refl NoB w).alloc (.cells v.cells 25)
 have HS := Lib.hid (fun W (hk : Keep NoB w W) => plain_sh v es fs W (h.keepN hk) hl)
 have HT := Lib.hid (fun (s : SH) W (hs : ShOk W 1 s (cutE (I.okI (I.imOf es fs)) es) (cutF (I.okI (I.imOf es fs)) fs)) (hk : Keep NoB w W) => sheet_text 1 s es fs W hs (hL.keep hk))
 clear h hl hL
 obtain ⟨X, nx, cx, Y, ny, cy⟩ := v
 dsimp only [I.IV.val, I.IV.cells] at *
 obtain ⟨c0, c1⟩ := And.intro (bx.cell 0) (bx.cell 1)
 simp only [List.getElem?_toArray, List.getElem?_cons_zero, List.getElem?_cons_succ] at c0 c1
 generalize str (textL 1 (I.imOf es fs)) = T at *
 go_enter Tryz.func14, Tryz.ntmps14
 go_wp2_with fail
 refine (HS.out _ k0).mono ?_
 rintro e w1 ⟨s, rfl, hs, k1⟩
 have HT2 := Lib.hid (HT.out s w1 hs (keepN k0 k1))
 clear HT HS hs bx c0 c1
 generalize s.val = sv at *
 go_wp2_with fail
 refine HT2.out.mono ?_
 rintro e w2 ⟨rfl, k2⟩
 go_wp2
 go_ret
 exact ⟨rfl, keepN (keepN k0 k1) k2⟩

set_option maxHeartbeats 1000000 in
theorem numberedApi_any (v : I.IV) (es : List I.SE) (fs : List I.FE) (w : World) (h : I.ImAt w v es fs) (hl : I.LgI v es fs) (hL : O.LaidO w) :
  Calls Tryz.prog 15 #[v.val] w fun e w' => e = .returned (.string (str (textL 2 (I.imOf es fs)))) ∧ Keep NoB w w' := by
 have bx := Blk.new w 25 v.cells
 have k0 := (Keep.refl NoB w).alloc (.cells v.cells 25)
 have HS := Lib.hid (fun W (hk : Keep NoB w W) => numb_sh v es fs W (h.keepN hk) hl)
 have HT := Lib.hid (fun (s : SH) W (hs : ShOk W 2 s (cutE (I.okI (I.imOf es fs)) es) (cutF (I.okI (I.imOf es fs)) fs)) (hk : Keep NoB w W) => sheet_text 2 s es fs W hs (hL.keep hk))
 clear h hl hL
 obtain ⟨X, nx, cx, Y, ny, cy⟩ := v
 dsimp only [I.IV.val, I.IV.cells] at *
 obtain ⟨c0, c1⟩ := And.intro (bx.cell 0) (bx.cell 1)
 simp only [List.getElem?_toArray, List.getElem?_cons_zero, List.getElem?_cons_succ] at c0 c1
 generalize str (textL 2 (I.imOf es fs)) = T at *
 go_enter Tryz.func15, Tryz.ntmps15
 go_wp2_with fail
 refine (HS.out _ k0).mono ?_
 rintro e w1 ⟨s, rfl, hs, k1⟩
 have HT2 := Lib.hid (HT.out s w1 hs (keepN k0 k1))
 clear HT HS hs bx c0 c1
 generalize s.val = sv at *
 go_wp2_with fail
 refine HT2.out.mono ?_
 rintro e w2 ⟨rfl, k2⟩
 go_wp2
 go_ret
 exact ⟨rfl, keepN (keepN k0 k1) k2⟩

end Go.Proofs.YtgnooffedmeenaaGreatDoor.M.L

namespace Go.Proofs.YtgnooffedmeenaaGreatDoor.M.L
open Go.RowKit W

def tgF (f : F.Fu) : List Int := if F.okF f = true then (tgs f.bd).map (fun i => ((i : Nat) : Int)) else []
set_option maxHeartbeats 1000000 in
theorem targetsApi_any (v : F.FV) (f : F.Fu) (w : World) (h : F.FnAt w v f) (hl : F.LgF v) :
  Calls Tryz.prog 23 #[v.val] w fun e w' => ∃ B d, e = .returned (.slice B (tgF f).length d) ∧ Own w' 3 1 (Fresh w) (.slice B (tgF f).length d) (tgF f).length (ivs (tgF f)) ∧ Keep NoB w w' := by
 have bx := Blk.new w 37 v.cells
 have k0 := (Keep.refl NoB w).alloc (.cells v.cells 37)
 have HC := Lib.hid (fun W (hk : Keep NoB w W) => F.checkL_any v f W (h.keepN hk) hl (F.chkF f) rfl)
 cases hok : F.okF f
 ·have e1 : tgF f = [] := by unfold tgF; rw [hok]; rfl
  rw [F.chkF_no hok] at HC
  rw [e1]
  clear h hl hok e1
  obtain ⟨S, A, na, ca, B, nb, cb, Lc, nl, cl, D, nd, cd⟩ := v
  dsimp only [F.FV.val, F.FV.cells] at *
  obtain ⟨c0, c1, c2, c3, c4⟩ := And.intro (bx.cell 0) (And.intro (bx.cell 1) (And.intro (bx.cell 2) (And.intro (bx.cell 3) (bx.cell 4))))
  simp only [List.getElem?_toArray, List.getElem?_cons_zero, List.getElem?_cons_succ] at c0 c1 c2 c3 c4
  go_enter Tryz.func23, Tryz.ntmps23
  go_wp2_with fail
  refine (HC.out _ k0).mono ?_
  rintro e w1 ⟨rfl, k1⟩
  go_wp2
  go_ret
  exact ⟨none, 0, rfl, Own.nil _ _ _ _, keepN k0 k1⟩
 ·have e1 : tgF f = tgI f.bd := by unfold tgF; rw [if_pos hok, tgI_eq (ok_body hok).2.2.2]
  rw [F.chkF_ok hok] at HC
  rw [e1]
  have hld := h.ld
  have hb5 := (ok_body hok).2.2.1
  have HT := Lib.hid (fun W (hk : Keep NoB w W) => targets_any v.D f.bd v.nd v.cd W (h.keepN hk).rd (Lib.hid hld) (by omega))
  clear h hl hld hb5 hok e1
  generalize tgI f.bd = T at *
  obtain ⟨S, A, na, ca, B, nb, cb, Lc, nl, cl, D, nd, cd⟩ := v
  dsimp only [F.FV.val, F.FV.cells] at *
  obtain ⟨c0, c1, c2, c3, c4⟩ := And.intro (bx.cell 0) (And.intro (bx.cell 1) (And.intro (bx.cell 2) (And.intro (bx.cell 3) (bx.cell 4))))
  simp only [List.getElem?_toArray, List.getElem?_cons_zero, List.getElem?_cons_succ] at c0 c1 c2 c3 c4
  go_enter Tryz.func23, Tryz.ntmps23
  go_wp2_with fail
  refine (HC.out _ k0).mono ?_
  rintro e w1 ⟨rfl, k1⟩
  have c4 := (bx.keep k1 id).cell 4
  simp only [List.getElem?_toArray, List.getElem?_cons_zero, List.getElem?_cons_succ] at c4
  have hK := keepN k0 k1
  clear c0 c1 c2 c3 bx k0 k1 HC
  go_wp2_with fail
  refine (HT.out _ hK).mono ?_
  rintro e w2 ⟨B2, d2, rfl, ho, k2⟩
  go_wp2
  go_ret
  exact ⟨B2, d2, rfl, ho.mono (fun k (hk : Fresh w1 k) _ => Nat.le_trans hK.size hk), keepN hK k2⟩

set_option maxRecDepth 100000 in
theorem run_eql_line (a b c d a' b' c' d' : Int) (w : World) :
  (binOp .eql 84 (.agg #[.int .i64 a, .int .i64 b, .int .i64 c, .int .i64 d]) (.agg #[.int .i64 a', .int .i64 b', .int .i64 c', .int .i64 d'])).run Tryz.prog w = .ok (.bool (a == a' && (b == b' && (c == c' && d == d')))) w := by
 have h84 : Tryz.prog.underlying 84 = some (.struct (Tryz.prog.fieldsOf 84)) := by kernel_rfl
 have p84 : Tryz.prog.stoodInHeld 84 = false := by kernel_rfl
 have h82 : Tryz.prog.underlying 82 = some (.struct (Tryz.prog.fieldsOf 82)) := by kernel_rfl
 have p82 : Tryz.prog.stoodInHeld 82 = false := by kernel_rfl
 have u3 := Tryz.underlying3
 have a3 := Tryz.isAgg3
 have z3 := Tryz.sizeOf3
 have a82 := Tryz.isAgg82
 have z82 := Tryz.sizeOf82
 have hn : ∀ w, (Op.equalIn (9998 + 1) 82 (.agg #[.int .i64 c, .int .i64 d]) (.agg #[.int .i64 c', .int .i64 d'])).run Tryz.prog w = .ok (c == c' && d == d') w := by
  intro w
  rw [run_equalIn_agg w 9998 82 _ _ h82 p82]
  simp only [Program.fieldsOf, Tryz.underlying82]
  clear h82 h84
  go_simp
  by_cases h3 : c = c' <;> by_cases h4 : d = d' <;> simp [h3, h4]
 rw [run_eql_struct, show (10000 : Nat) = 9998 + 1 + 1 from rfl, run_equalIn_agg w (9998 + 1) 84 _ _ h84 p84]
 simp only [Program.fieldsOf, Tryz.underlying84]
 clear h82 h84
 go_simp
 by_cases h1 : a = a' <;> by_cases h2 : b = b' <;> by_cases h3 : c = c' <;> by_cases h4 : d = d' <;> simp [h1, h2, h3, h4]
theorem named_sh2 (v : I.IV) (es : List I.SE) (fs : List I.FE) (w : World) (h : I.ImAt w v es fs) (hl : I.LgI v es fs) :
  Calls Tryz.prog 39 #[v.val] w fun e w' => ∃ s : SH, e = .returned s.val ∧ ShOk w' 0 s (cutE (I.okI (I.imOf es fs)) es) (cutF (I.okI (I.imOf es fs)) fs) ∧ s.v = cutV (I.okI (I.imOf es fs)) v ∧ (∀ b, s.m = some b → w.heap.size ≤ b ∧ b < w'.heap.size) ∧ Keep NoB w w' := by
 refine (named_any v es fs w h hl).mono ?_
 rintro e w' ⟨b, n, b1, b2, rfl, hn, hb, hk⟩
 exact ⟨_, rfl, ⟨(cut_im h).keepN hk, cut_lg hl, cut_ok2 h, .inl ⟨rfl, b, n, b1, b2, rfl, hn⟩⟩, rfl, fun b' e => by injection e with e; subst e; exact ⟨hb.1, hn.pm.lt⟩, hk⟩
structure HR2 (w : World) (m0 N0 bs : Nat) (s : SH) (lab : Nat → Nat → Bool) (W : World) : Prop where
 kp : Keep (fun k => w.heap.size ≤ k) w W
 bx : Blk W bs 72 s.cells
 lb : LabAt s.m lab W
 hm : ∀ b, s.m = some b → m0 ≤ b ∧ b < N0
theorem hr2_keep {w : World} {m0 N0 bs : Nat} {s : SH} {lab : Nat → Nat → Bool} {p0 : BSet} (hp : ∀ k, p0 k → w.heap.size ≤ k ∧ k < m0) (hN : w.heap.size ≤ N0) (hb : m0 ≤ bs) (hbN : bs < N0) :
  ∀ O W1 W2, (∀ k, O k → p0 k ∨ N0 ≤ k) → HR2 w m0 N0 bs s lab W1 → Keep O W1 W2 → HR2 w m0 N0 bs s lab W2 := by
 intro O W1 W2 hO h hk
 refine ⟨h.kp.trans hk (fun k h3 hl => ?_), h.bx.keep hk (fun h3 => ?_), h.lb.keep hk (fun b e h3 => ?_), h.hm⟩
 ·rcases hO k h3 with h4 | h4
  ·exact (hp k h4).1
  ·omega
 ·rcases hO _ h3 with h4 | h4
  ·have := hp _ h4; omega
  ·omega
 ·have h5 := h.hm b e
  rcases hO _ h3 with h4 | h4
  ·have := hp _ h4; omega
  ·omega
theorem hr2_it {w : World} {m0 N0 bs : Nat} {s : SH} {es : List I.SE} {fs : List I.FE} {lab : Nat → Nat → Bool} (h : I.ImAt w s.v es fs) (W : World) (hr : HR2 w m0 N0 bs s lab W) : ShIt W bs s es fs lab :=
 ⟨hr.bx, h.keep hr.kp (fun k hk => by omega), hr.lb⟩
theorem guard_line : Tryz.prog.eqGuardType Tryz.prog.depth 84 = false := by kernel_rfl

end Go.Proofs.YtgnooffedmeenaaGreatDoor.M.L

namespace Go.Proofs.YtgnooffedmeenaaGreatDoor.F
open Go.RowKit W

end Go.Proofs.YtgnooffedmeenaaGreatDoor.F

namespace Go.Proofs.YtgnooffedmeenaaGreatDoor.F
open Go.RowKit W

end Go.Proofs.YtgnooffedmeenaaGreatDoor.F

namespace Go.Proofs.YtgnooffedmeenaaGreatDoor.C
open Go.RowKit Go.Shelf O
attribute [local go_sem] Oper.semAt_some

def CellsK (W W' : World) : Prop := W.heap.size ≤ W'.heap.size ∧ ∀ (k : Nat) (o : Obj), W.heap[k]? = some o → o.isCells = true → W'.heap[k]? = some o
theorem CellsK.trans {A B C : World} (h : CellsK A B) (h' : CellsK B C) : CellsK A C := ⟨Nat.le_trans h.1 h'.1, fun k o hk ho => h'.2 k o (h.2 k o hk ho) ho⟩
end Go.Proofs.YtgnooffedmeenaaGreatDoor.C

namespace Go.Proofs.YtgnooffedmeenaaGreatDoor.C
open Go.RowKit Go.Shelf Go.Maps O
attribute [local go_sem] Oper.semAt_some

def Marks (w : World) (W : World) (Ds : List Nat) : Prop := Ds.Nodup ∧ ∀ D ∈ Ds, w.heap.size ≤ D ∧ W.heap[D]? = some (.deferred (some []))
theorem Marks.lt {w W : World} {Ds : List Nat} (h : Marks w W Ds) {D : Nat} (hD : D ∈ Ds) : D < W.heap.size := (Array.getElem?_eq_some_iff.1 (h.2 D hD).2).1
end Go.Proofs.YtgnooffedmeenaaGreatDoor.C

namespace Go.Proofs.YtgnooffedmeenaaGreatDoor.C
open Go.RowKit O

end Go.Proofs.YtgnooffedmeenaaGreatDoor.C

namespace Go.Proofs.YtgnooffedmeenaaGreatDoor.C
open Go.RowKit O

end Go.Proofs.YtgnooffedmeenaaGreatDoor.C

namespace Go.Proofs.YtgnooffedmeenaaGreatDoor.C
open Go.RowKit O

end Go.Proofs.YtgnooffedmeenaaGreatDoor.C

namespace Go.Proofs.YtgnooffedmeenaaGreatDoor.M.L
open Go.RowKit O

end Go.Proofs.YtgnooffedmeenaaGreatDoor.M.L

namespace Go.Proofs.YtgnooffedmeenaaGreatDoor.W
open Go.RowKit

end Go.Proofs.YtgnooffedmeenaaGreatDoor.W

namespace Go.Proofs.YtgnooffedmeenaaGreatDoor.M.L
open Go.RowKit W

end Go.Proofs.YtgnooffedmeenaaGreatDoor.M.L

namespace Go.Proofs.YtgnooffedmeenaaGreatDoor.O
open Go.RowKit

end Go.Proofs.YtgnooffedmeenaaGreatDoor.O

namespace Go.Proofs.YtgnooffedmeenaaGreatDoor.O
open Go.RowKit

end Go.Proofs.YtgnooffedmeenaaGreatDoor.O

namespace Go.Proofs.YtgnooffedmeenaaGreatDoor.O
open Go.RowKit

end Go.Proofs.YtgnooffedmeenaaGreatDoor.O

namespace Go.Proofs.YtgnooffedmeenaaGreatDoor.M.L
open Go.RowKit W

end Go.Proofs.YtgnooffedmeenaaGreatDoor.M.L

namespace Go.Proofs.YtgnooffedmeenaaGreatDoor.M.L
open Go.RowKit W

structure TK (U : TypeId) (W W' : World) : Prop where
 size : W.heap.size ≤ W'.heap.size
 blk : ∀ (k : Nat) cs T fz, W.heap[k]? = some (.cells cs T fz) → T ≠ U → W'.heap[k]? = some (.cells cs T fz)
theorem TK.trans {U : TypeId} {W W1 W2 : World} (h : TK U W W1) (h' : TK U W1 W2) : TK U W W2 := ⟨Nat.le_trans h.size h'.size, fun k cs T fz h1 h2 => h'.blk k cs T fz (h.blk k cs T fz h1 h2) h2⟩
end Go.Proofs.YtgnooffedmeenaaGreatDoor.M.L

namespace Go.Proofs.YtgnooffedmeenaaGreatDoor.I
open Go.RowKit Go.Shelf W
attribute [local go_sem] Oper.semAt_some

end Go.Proofs.YtgnooffedmeenaaGreatDoor.I

namespace Go.Proofs.YtgnooffedmeenaaGreatDoor.I
open Go.RowKit W

end Go.Proofs.YtgnooffedmeenaaGreatDoor.I

namespace Go.Proofs.YtgnooffedmeenaaGreatDoor.M.L
open Go.RowKit W

end Go.Proofs.YtgnooffedmeenaaGreatDoor.M.L

namespace Go.Proofs.YtgnooffedmeenaaGreatDoor.M.L
open Go.RowKit W

end Go.Proofs.YtgnooffedmeenaaGreatDoor.M.L

namespace Go.Proofs.YtgnooffedmeenaaGreatDoor.M.L
open Go.RowKit W

end Go.Proofs.YtgnooffedmeenaaGreatDoor.M.L

namespace Go.Proofs.YtgnooffedmeenaaGreatDoor.M.L
open Go.RowKit W

end Go.Proofs.YtgnooffedmeenaaGreatDoor.M.L

namespace Go.Proofs.YtgnooffedmeenaaGreatDoor.M.L
open Go.RowKit Go.Shelf W
attribute [local go_sem] Oper.semAt_some

def wB (fn pl : Int) (l : Ln4) : Bool := ((l.1 : Int) == 4 && (((l.2.1 : Nat) : Int) == 0 && (((l.2.2.1 : Nat) : Int) == fn && ((l.2.2.2 : Nat) : Int) == pl)))
def lineN (p : I.Im) (fn pl : Int) : Nat := match lineI p fn pl with
 | some n => n + 1
 | none => 0
def lineE (p : I.Im) (fn pl : Int) : Int := if (lineI p fn pl).isSome = true then 0 else 100
theorem line_find (p : I.Im) (fn pl : Int) : (seqQ (labB p) p).findIdx? (wB fn pl) = lineI p fn pl := by
 have key : ∀ l ∈ seqQ (labB p) p, wB fn pl l = (decide (0 ≤ fn) && decide (l.1 = 4 ∧ ((l.2.2.1 : Nat) : Int) = fn ∧ ((l.2.2.2 : Nat) : Int) = pl)) := by
  intro l hl
  have ho := seqQ_ok hl
  unfold wB
  rw [Bool.eq_iff_iff]
  simp only [Bool.and_eq_true, beq_iff_eq, decide_eq_true_eq]
  constructor
  ·rintro ⟨h1, h2, h3, h4⟩
   exact ⟨by omega, by omega, h3, h4⟩
  ·rintro ⟨h0, h1, h3, h4⟩
   have h5 := (ho.f (by omega)).1
   exact ⟨by omega, by omega, h3, h4⟩
 have fc : ∀ (q : List Ln4) (f g : Ln4 → Bool), (∀ l ∈ q, f l = g l) → q.findIdx? f = q.findIdx? g := by
  intro q f g h
  induction q with
  | nil => rfl
  | cons a q ih => rw [List.findIdx?_cons, List.findIdx?_cons, h a (by simp), ih (fun l hl => h l (by simp [hl]))]
 rw [fc _ _ _ key]
 by_cases h0 : 0 ≤ fn
 ·rw [line_seq p fn pl h0]
  refine fc _ _ _ fun l _ => ?_
  rw [decide_eq_true h0, Bool.true_and]
 ·rw [line_neg h0, List.findIdx?_eq_none_iff]
  intro l _
  rw [decide_eq_false h0, Bool.false_and]
structure LnC (w0 : World) (N0 bn be bw : Nat) (fn pl : Int) (q : BSet) (W : World) : Prop where
 kp : Keep NoB w0 W
 sz : N0 ≤ W.heap.size
 hq : ∀ k, q k → (k = bn ∨ k = be ∨ N0 ≤ k) ∧ k < W.heap.size
 qn : q bn
 qe : q be
 bw : Blk W bw 84 #[.int .i64 4, .int .i64 0, .int .i64 fn, .int .i64 pl]
def LnJ (w0 : World) (N0 bn be bw : Nat) (fn pl : Int) (pre : List NL) (q : BSet) (W : World) : Prop :=
 LnC w0 N0 bn be bw fn pl q W ∧ Blk W bn 3 #[.int .i64 0] ∧ Blk W be 40 #[.int .i64 100] ∧ ∀ x ∈ pre, wB fn pl x.2 = false
def LnX (w0 : World) (N0 bn be bw : Nat) (fn pl : Int) (id : Nat) (c : Code) (pre : List NL) (q : BSet) (W : World) : Prop :=
 c = .exit id ∧ ∃ pre0 x, pre = pre0 ++ [x] ∧ LnC w0 N0 bn be bw fn pl q W ∧ Blk W bn 3 #[.int .i64 (x.1 : Int)] ∧ Blk W be 40 #[.int .i64 0] ∧ wB fn pl x.2 = true ∧ ∀ y ∈ pre0, wB fn pl y.2 = false
theorem lnC_out {w0 : World} {N0 bn be bw B : Nat} {fn pl : Int} {q : BSet} {W W' : World} (h : LnC w0 N0 bn be bw fn pl q W) (hs : IStepU 5 B q W W') (hB : w0.heap.size ≤ B) (hbw : bw < B) : LnC w0 N0 bn be bw fn pl q W' :=
 ⟨h.kp.trans hs.keep (fun k hk hl => by omega), Nat.le_trans h.sz hs.keep.size, fun k hk => ⟨(h.hq k hk).1, Nat.lt_of_lt_of_le (h.hq k hk).2 hs.keep.size⟩, h.qn, h.qe, h.bw.keep hs.keep (fun hh => by omega)⟩
theorem lnJ_out (w0 : World) (N0 bn be bw B : Nat) (fn pl : Int) (hB : w0.heap.size ≤ B) (hbw : bw < B) : KeepsOutU 5 B (LnJ w0 N0 bn be bw fn pl) := by
 rintro pre q W W' ⟨h1, h2, h3, h4⟩ hs
 exact ⟨lnC_out h1 hs hB hbw, h2.keep hs.keep (fun hh => hh.2 h1.qn), h3.keep hs.keep (fun hh => hh.2 h1.qe), h4⟩
theorem lnX_out (w0 : World) (N0 bn be bw B : Nat) (fn pl : Int) (id : Nat) (c : Code) (hB : w0.heap.size ≤ B) (hbw : bw < B) : KeepsOutU 5 B (LnX w0 N0 bn be bw fn pl id c) := by
 rintro pre q W W' ⟨h0, pre0, x, e, h1, h2, h3, h4⟩ hs
 exact ⟨h0, pre0, x, e, lnC_out h1 hs hB hbw, h2.keep hs.keep (fun hh => hh.2 h1.qn), h3.keep hs.keep (fun hh => hh.2 h1.qe), h4⟩
theorem lnC_alloc {w0 : World} {N0 bn be bw : Nat} {fn pl : Int} {q : BSet} {W : World} (h : LnC w0 N0 bn be bw fn pl q W) (o : Obj) :
  ∃ q', Rnd q q' W (W.alloc o) ∧ LnC w0 N0 bn be bw fn pl q' (W.alloc o) ∧ q' W.heap.size ∧ ∀ k, q k → q' k := by
 refine ⟨fun k => q k ∨ k = W.heap.size, ⟨fun k hk hq => ?_, (Keep.refl _ _).alloc o⟩, ⟨h.kp.alloc o, Nat.le_trans h.sz ((Keep.refl NoB W).alloc o).size, fun k hq => ?_, .inl h.qn, .inl h.qe, h.bw.alloc o⟩, .inr rfl, fun k hk => .inl hk⟩
 ·rcases hq with hq | hq
  ·exact hq
  ·omega
 ·rw [World.size_alloc]
  rcases hq with hq | hq
  ·have := h.hq k hq; omega
  ·have := h.sz; omega
theorem lnX_body {w0 : World} {N0 bn be bw : Nat} {fn pl : Int} {pre : List NL} {x : NL} {q : BSet} {W : World} {id : Nat} (h : LnJ w0 N0 bn be bw fn pl pre q W) (hx : wB fn pl x.2 = true) (hw : w0.heap.size ≤ bn ∧ w0.heap.size ≤ be) (hne : bn ≠ be) (hnw : bw ≠ bn ∧ bw ≠ be) :
  ∃ q', Rnd q q' W ((W.setCell ⟨bn, 0, none⟩ (.int .i64 (x.1 : Int))).setCell ⟨be, 0, none⟩ (.int .i64 0)) ∧ LnX w0 N0 bn be bw fn pl id (.exit id) (pre ++ [x]) q' ((W.setCell ⟨bn, 0, none⟩ (.int .i64 (x.1 : Int))).setCell ⟨be, 0, none⟩ (.int .i64 0)) := by
 obtain ⟨h1, h2, h3, h4⟩ := h
 have hk : Keep (fun k => k = bn ∨ k = be) W ((W.setCell ⟨bn, 0, none⟩ (.int .i64 (x.1 : Int))).setCell ⟨be, 0, none⟩ (.int .i64 0)) := ((Keep.refl _ W).setCell (p := ⟨bn, 0, none⟩) (fun _ => .inl rfl) _).setCell (p := ⟨be, 0, none⟩) (fun _ => .inr rfl) _
 have e2 := (h2.put 0 (.int .i64 (x.1 : Int))).far (p := ⟨be, 0, none⟩) hne (.int .i64 0)
 have e3 := (h3.far (p := ⟨bn, 0, none⟩) (Ne.symm hne) (.int .i64 (x.1 : Int))).put 0 (.int .i64 0)
 simp only [List.setIfInBounds_toArray, List.set_cons_zero] at e2 e3
 refine ⟨q, ⟨fun k _ h => h, hk.mono (fun k hk _ => by rcases hk with rfl | rfl; exact h1.qn; exact h1.qe)⟩, rfl, pre, x, rfl, ⟨h1.kp.trans hk (fun k hk hl => by omega), Nat.le_trans h1.sz hk.size, fun k hq => ⟨(h1.hq k hq).1, Nat.lt_of_lt_of_le (h1.hq k hq).2 hk.size⟩, h1.qn, h1.qe, h1.bw.keep hk (by rintro (e | e); exact hnw.1 e; exact hnw.2 e)⟩, e2, e3, hx, h4⟩
theorem lnJ_body {w0 : World} {N0 bn be bw : Nat} {fn pl : Int} {pre : List NL} {x : NL} {q : BSet} {W : World} (h : LnJ w0 N0 bn be bw fn pl pre q W) (hx : wB fn pl x.2 = false) : ∃ q', Rnd q q' W W ∧ LnJ w0 N0 bn be bw fn pl (pre ++ [x]) q' W :=
 ⟨q, Rnd.refl _ _, h.1, h.2.1, h.2.2.1, fun y hy => by rcases List.mem_append.1 hy with hy | hy; exact h.2.2.2 y hy; rw [List.mem_singleton.1 hy]; exact hx⟩
theorem find_stop {seq : List Ln4} {pre0 : List NL} {x : NL} {f : Ln4 → Bool} (h : EnQ seq pre0 x) (hx : f x.2 = true) (hn : ∀ y ∈ pre0, f y.2 = false) : seq.findIdx? f = some pre0.length ∧ x.1 = pre0.length + 1 := by
 obtain ⟨_, _, _, hn1⟩ := enQ_mem h
 obtain ⟨post, hq⟩ := h
 have h1 := congrArg (List.map Prod.snd) hq
 rw [numQ_snd, List.map_append, List.map_cons] at h1
 refine ⟨?_, hn1⟩
 rw [h1, List.findIdx?_append]
 have e1 : (pre0.map Prod.snd).findIdx? f = none := by
  rw [List.findIdx?_eq_none_iff]
  intro l hl
  obtain ⟨y, hy, rfl⟩ := List.mem_map.1 hl
  exact hn y hy
 rw [e1, List.findIdx?_cons, hx]
 simp
theorem find_done {seq : List Ln4} {f : Ln4 → Bool} (hn : ∀ y ∈ numQ 1 seq, f y.2 = false) : seq.findIdx? f = none := by
 rw [List.findIdx?_eq_none_iff]
 intro l hl
 have h1 : l ∈ (numQ 1 seq).map Prod.snd := by rw [numQ_snd]; exact hl
 obtain ⟨y, hy, rfl⟩ := List.mem_map.1 h1
 exact hn y hy

set_option maxRecDepth 100000 in
set_option maxHeartbeats 4000000 in
theorem line_any (v : I.IV) (es : List I.SE) (fs : List I.FE) (fn pl : Int) (w : World) (h : I.ImAt w v es fs) (hl : I.LgI v es fs) :
  Calls Tryz.prog 19 #[v.val, .int .i64 fn, .int .i64 pl] w fun e w' => e = .returned (.tuple #[.int .i64 ((lineN (cutP (I.imOf es fs)) fn pl : Nat) : Int), .int .i64 (lineE (cutP (I.imOf es fs)) fn pl)]) ∧ Keep NoB w w' := by
 have HS := Lib.hid (fun W (hk : Keep NoB w W) => named_sh2 v es fs W (h.keepN hk) hl)
 have HLi := Lib.hid (fun s W => linesC_any s W)
 have hcut := cut_im (b := I.okI (I.imOf es fs)) h
 rw [← cut_p]
 have b0 := Blk.new w 25 v.cells
 clear h hl
 generalize cutE (I.okI (I.imOf es fs)) es = es2 at *
 generalize cutF (I.okI (I.imOf es fs)) fs = fs2 at *
 generalize cutV (I.okI (I.imOf es fs)) v = v2 at *
 obtain ⟨X, nx, cx, Y, ny, cy⟩ := v
 dsimp only [I.IV.val, I.IV.cells] at *
 have W4b : ∃ W4, (((w.alloc (.cells #[.slice X nx cx, .slice Y ny cy] 25)).alloc (.cells #[.int .i64 0] 3)).alloc (.cells #[.int .i64 100] 40)).alloc (.cells #[.int .i64 4, .int .i64 0, .int .i64 fn, .int .i64 pl] 84) = W4 ∧ W4.heap.size = w.heap.size + 1 + 1 + 1 + 1 ∧ Keep NoB w W4 ∧
   Blk W4 w.heap.size 25 #[.slice X nx cx, .slice Y ny cy] ∧ Blk W4 (w.heap.size + 1) 3 #[.int .i64 0] ∧ Blk W4 (w.heap.size + 1 + 1) 40 #[.int .i64 100] ∧ Blk W4 (w.heap.size + 1 + 1 + 1) 84 #[.int .i64 4, .int .i64 0, .int .i64 fn, .int .i64 pl] := by
  refine ⟨_, rfl, by simp [World.size_alloc], ((((Keep.refl NoB w).alloc _).alloc _).alloc _).alloc _, ((b0.alloc _).alloc _).alloc _, ?_, ?_, ?_⟩
  ·have := ((Blk.new (w.alloc (.cells #[.slice X nx cx, .slice Y ny cy] 25)) 3 #[.int .i64 0]).alloc (.cells #[.int .i64 100] 40)).alloc (.cells #[.int .i64 4, .int .i64 0, .int .i64 fn, .int .i64 pl] 84)
   simpa [World.size_alloc] using this
  ·have := (Blk.new ((w.alloc (.cells #[.slice X nx cx, .slice Y ny cy] 25)).alloc (.cells #[.int .i64 0] 3)) 40 #[.int .i64 100]).alloc (.cells #[.int .i64 4, .int .i64 0, .int .i64 fn, .int .i64 pl] 84)
   simpa [World.size_alloc] using this
  ·have := Blk.new (((w.alloc (.cells #[.slice X nx cx, .slice Y ny cy] 25)).alloc (.cells #[.int .i64 0] 3)).alloc (.cells #[.int .i64 100] 40)) 84 #[.int .i64 4, .int .i64 0, .int .i64 fn, .int .i64 pl]
   simpa [World.size_alloc] using this
 obtain ⟨W4, hW4, hz4, hk4, q0, q1, q2, q3⟩ := W4b
 have HS4 := Lib.hid (HS.out _ hk4)
 have c0 := q0.cell 0
 have c1 := q0.cell 1
 simp only [List.getElem?_toArray, List.getElem?_cons_zero, List.getElem?_cons_succ] at c0 c1
 clear b0 HS
 refine (callsIn_wide (n := 4)).1 ?_
 refine callsIn_of_wp_marks Tryz.func19 rfl trivial ?_ rfl
 simp only [Tryz.ntmps19, List.size_toArray, List.length_cons, List.length_nil, Nat.reduceAdd, Nat.reduceSub, Array.replicate_succ, Array.replicate_zero, List.push_toArray, List.append_toArray, List.nil_append, List.cons_append]
 gi_wp2
 refine wpIn_scope_wide ?_
 gi_wp2
 refine wpIn_label ?_
 gi_wp2_with fail
 refine ⟨trivial, (callsIn_wide.2 HS4.out).mono ?_⟩
 rintro e W5 ⟨s, rfl, hs, hsv, hsm, k5⟩
 gi_wp2_with fail
 refine ⟨trivial, (callsIn_wide.2 (HLi.out s W5)).mono ?_⟩
 rintro e W6 ⟨rfl, hw6⟩
 gi_wp2_with fail
 have hz6 : W6.heap.size = W5.heap.size + 1 := by rw [hw6]; simp
 have k6 : Keep NoB W5 W6 := by rw [hw6]; exact (Keep.refl _ _).alloc _
 have hbx : Blk W6 W5.heap.size 72 s.cells := by rw [hw6]; exact Blk.new _ _ _
 rw [← hw6]
 have k46 : Keep NoB W4 W6 := keepN k5 k6
 have hz5 : W4.heap.size ≤ W5.heap.size := k5.size
 have hkw : Keep NoB w W6 := keepN hk4 k46
 have q1' : Blk W6 (w.heap.size + 1) 3 #[.int .i64 0] := q1.keep k46 id
 have q2' : Blk W6 (w.heap.size + 1 + 1) 40 #[.int .i64 100] := q2.keep k46 id
 have q3' : Blk W6 (w.heap.size + 1 + 1 + 1) 84 #[.int .i64 4, .int .i64 0, .int .i64 fn, .int .i64 pl] := q3.keep k46 id
 have hlab : LabAt s.m (labK2 0 (I.imOf es2 fs2)) W6 := hs.lab.keep k6 (fun _ _ h => h)
 obtain ⟨hes, hfs, hbd, hsq⟩ := hs.small
 have hel : labK2 0 (I.imOf es2 fs2) = labB (I.imOf es2 fs2) := if_pos rfl
 have hIt : Hid (∀ W, HR2 w W4.heap.size W6.heap.size W5.heap.size s (labK2 0 (I.imOf es2 fs2)) W → ShIt W W5.heap.size s es2 fs2 (labK2 0 (I.imOf es2 fs2))) := fun W hr => hr2_it (by rw [hsv]; exact hcut) W hr
 have hst := Lib.hid (lines_stops 2 3 W5.heap.size s es2 fs2 (labK2 0 (I.imOf es2 fs2)) hes hfs hbd (by omega) _ hIt)
 have hH0 : HR2 w W4.heap.size W6.heap.size W5.heap.size s (labK2 0 (I.imOf es2 fs2)) W6 := ⟨hkw.mono (fun _ hf _ => hf.elim), hbx, hlab, fun b e => ⟨(hsm b e).1, by have := (hsm b e).2; omega⟩⟩
 rw [hel] at hst hH0
 have hi0 : LnJ w W6.heap.size (w.heap.size + 1) (w.heap.size + 1 + 1) (w.heap.size + 1 + 1 + 1) fn pl [] (fun k => k = w.heap.size + 1 ∨ k = w.heap.size + 1 + 1) W6 :=
  ⟨⟨hkw, Nat.le_refl _, fun k hk => by rcases hk with rfl | rfl <;> omega, .inl rfl, .inr rfl, q3'⟩, q1', q2', fun x hx => by simp at hx⟩
 have hp0 : ∀ k, (k = w.heap.size + 1 ∨ k = w.heap.size + 1 + 1) → k < W6.heap.size := fun k hk => by omega
 have hHs := hr2_keep (w := w) (m0 := W4.heap.size) (N0 := W6.heap.size) (bs := W5.heap.size) (s := s) (lab := labB (I.imOf es2 fs2)) (p0 := fun k => k = w.heap.size + 1 ∨ k = w.heap.size + 1 + 1) (fun k hk => by omega) (by omega) hz5 (by omega)
 have hN : Hid (W6.heap.size = W5.heap.size + 1 ∧ W4.heap.size ≤ W5.heap.size ∧ W4.heap.size = w.heap.size + 1 + 1 + 1 + 1) := ⟨hz6, hz5, hz4⟩
 clear q0 q1 q2 q3 q1' q2' q3' hs hsv hsm k5 k6 hlab hIt hbx hes hfs hbd c0 c1 HLi HS4 hcut hw6 hW4 k46 hk4 hkw
 refine wpIn_rangeFunc_U (U := 5) (m := 2) (gf := 93) (lb := #[.pointer (some ⟨W5.heap.size, 0, none⟩)]) rfl (enters_of Tryz.func93 rfl rfl)
  hst.out (fun _ => rfl) (LnJ w W6.heap.size (w.heap.size + 1) (w.heap.size + 1 + 1) (w.heap.size + 1 + 1 + 1) fn pl) (fun c => LnX w W6.heap.size (w.heap.size + 1) (w.heap.size + 1 + 1) (w.heap.size + 1 + 1 + 1) fn pl 0 c) (lnJ_out w _ _ _ _ _ _ _ (by omega) (by omega)) (fun pre q W h k hk => (h.1.hq k hk).2) (fun c => lnX_out w _ _ _ _ _ _ _ _ c (by omega) (by omega)) hi0 hp0 hH0 hHs
  (fun pre x q a' W => ∃ Bx, LnJ w W6.heap.size (w.heap.size + 1) (w.heap.size + 1 + 1) (w.heap.size + 1 + 1 + 1) fn pl pre q W ∧ q Bx ∧ Blk W Bx 84 (lnC x.2) ∧ a' = { tmps := #[.agg #[.slice X nx cx, .slice Y ny cy], .int .i64 fn, .int .i64 pl, .pointer (some ⟨w.heap.size, 0, none⟩), undef, undef, .int .i64 0, .int .i64 0, .pointer (some ⟨w.heap.size + 1, 0, none⟩), .pointer (some ⟨w.heap.size + 1 + 1, 0, none⟩), .pointer (some ⟨w.heap.size + 1 + 1 + 1, 0, none⟩), .int .i64 (x.1 : Int), .pointer (some ⟨Bx, 0, none⟩), .int .i64 fn, .int .i64 pl, .agg #[.int .i64 fn, .int .i64 pl], .agg #[.int .i64 4, .int .i64 0, .int .i64 fn, .int .i64 pl], .agg #[.slice X nx cx, .slice Y ny cy], s.val, .func (.func 93) #[] #[.pointer (some ⟨W5.heap.size, 0, none⟩)], .int .i64 (x.1 : Int), .agg (lnC x.2), undef, undef, undef, undef, undef, undef], defers := [] }) ?hax ?assign ?body ?done ?stop
 case hax =>
  rintro pre x a' u q W W' ⟨Bx, g1, g2, g3, g4⟩ hs
  exact ⟨Bx, lnJ_out w _ _ _ _ _ _ _ (by omega) (by omega) _ _ _ _ g1 hs, g2, g3.keep hs.keep (fun h => h.2 g2), g4⟩
 case assign =>
  rintro l pre x q W hi hen
  have hB := Lib.hid (Blk.new W 84 (lnC x.2))
  obtain ⟨q', e1, e2, e3, e4⟩ := lnC_alloc hi.1 (.cells (lnC x.2) 84)
  have hE : Hid (Rnd q q' W (W.alloc (.cells (lnC x.2) 84)) ∧ LnJ w W6.heap.size (w.heap.size + 1) (w.heap.size + 1 + 1) (w.heap.size + 1 + 1 + 1) fn pl pre q' (W.alloc (.cells (lnC x.2) 84)) ∧ q' W.heap.size) := ⟨e1, ⟨e2, hi.2.1.alloc _, hi.2.2.1.alloc _, hi.2.2.2⟩, e3⟩
  clear e1 e2 e3 e4 hi
  obtain ⟨n, ⟨a0, a1, a2, a3⟩⟩ := x
  dsimp only [encQ, lnC] at *
  gi_wp2
  exact ⟨q', hE.out.1, _, hE.out.2.1, hE.out.2.2, hB.out, rfl⟩
 case body =>
  rintro l pre x q a' W hen ⟨Bx, g1, g2, g3, rfl⟩
  have hwB : Hid (wB fn pl x.2 = ((x.2.1 : Int) == 4 && (((x.2.2.1 : Nat) : Int) == 0 && (((x.2.2.2.1 : Nat) : Int) == fn && ((x.2.2.2.2 : Nat) : Int) == pl)))) := rfl
  obtain ⟨d0, d1, d2, d3⟩ := And.intro (g3.cell 0) (And.intro (g3.cell 1) (And.intro (g3.cell 2) (g3.cell 3)))
  obtain ⟨f0, f1, f2, f3⟩ := And.intro (g1.1.bw.cell 0) (And.intro (g1.1.bw.cell 1) (And.intro (g1.1.bw.cell 2) (g1.1.bw.cell 3)))
  have h1 := g1.2.1.cell 0
  have h2 := g1.2.2.1.cell 0
  obtain ⟨n, ⟨a0, a1, a2, a3⟩⟩ := x
  dsimp only [lnC] at *
  simp only [List.getElem?_toArray, List.getElem?_cons_zero, List.getElem?_cons_succ] at d0 d1 d2 d3 f0 f1 f2 f3 h1 h2
  have G1 := Lib.hid g1
  have G2 := Lib.hid g2
  have G3 := Lib.hid g3
  have hreq := run_eql_line a0 a1 a2 a3 4 0 fn pl
  have hg := guard_line
  have z1 := g1.2.1.frozen 0
  have z2 := g1.2.2.1.frozen 0
  clear g1 g2 g3 hst hi0 hp0 hH0 hHs hen
  gi_wp2_with fail
  ·exact lnX_body (x := (n, a0, a1, a2, a3)) G1.out (by rw [hwB.out]; simp only [Bool.and_eq_true]; assumption) (by omega) (by omega) (by omega)
  all_goals exact lnJ_body (x := (n, a0, a1, a2, a3)) G1.out (by rw [hwB.out]; simp only [Bool.and_eq_false_iff]; assumption)
 case done =>
  rintro D xs q W hD hpD rfl g1 hK
  have hf := line_find (I.imOf es2 fs2) fn pl
  rw [find_done g1.2.2.2] at hf
  have b1 := g1.2.1
  have b2 := g1.2.2.1
  have hkw := g1.1.kp
  have c1 := b1.cell 0
  have c2 := b2.cell 0
  simp only [List.getElem?_toArray, List.getElem?_cons_zero] at c1 c2
  rename_i Q2 K2 aK
  refine aK _ _ ?_
  have HF := Lib.hid hf
  clear hi0 hp0 hH0 hHs hst g1 hf
  gi_wp2
  gi_region
  gi_wp2
  dsimp only [Exit.noGoto]
  refine ⟨by simp, .inl ⟨_, _, rfl, run_takeDeferred hK, ?_⟩⟩
  refine ⟨.tuple #[.int .i64 0, .int .i64 100], by simp [results, Tryz.results19, go_sem], ?_⟩
  refine ⟨?_, npPut hkw.drew (by omega)⟩
  have hf := HF.out
  simp only [lineN, lineE, ← hf]
  rfl
 case stop =>
  rintro D c pre q W hD hpD ⟨post, hpost⟩ ⟨rfl, pre0, x, rfl, g1, b1, b2, hx, hy⟩ hK
  have hf := line_find (I.imOf es2 fs2) fn pl
  have hen : EnQ (seqQ (labB (I.imOf es2 fs2)) (I.imOf es2 fs2)) pre0 x := ⟨post, by rw [hpost]; simp⟩
  obtain ⟨f1, f2⟩ := find_stop hen hx hy
  rw [f1] at hf
  have hkw := g1.kp
  have c1 := b1.cell 0
  have c2 := b2.cell 0
  simp only [List.getElem?_toArray, List.getElem?_cons_zero] at c1 c2
  rename_i Q2 K2 aK
  have HF := Lib.hid (And.intro hf f2)
  clear hi0 hp0 hH0 hHs hst g1 hf f2 f1 hen hpost
  gi_wp2
  gi_region
  gi_wp2
  dsimp only [Exit.noGoto]
  refine ⟨by simp, .inl ⟨_, _, rfl, run_takeDeferred hK, ?_⟩⟩
  refine ⟨.tuple #[.int .i64 (x.1 : Int), .int .i64 0], by simp [results, Tryz.results19, go_sem], ?_⟩
  refine ⟨?_, npPut hkw.drew (by omega)⟩
  obtain ⟨hf, f2⟩ := HF.out
  simp only [lineN, lineE, ← hf, f2]
  rfl

end Go.Proofs.YtgnooffedmeenaaGreatDoor.M.L

namespace Go.Proofs.YtgnooffedmeenaaGreatDoor.M.L
open Go.RowKit Go.Shelf W
attribute [local go_sem] Oper.semAt_some

def placeR (p : I.Im) (line : Int) : Int × Int × Int := match placeI p line with
 | some (a, b) => (a, b, 0)
 | none => (0, 0, 100)
def atR (line : Int) (x : NL) : Int × Int × Int := if (x.1 : Int) = line ∧ x.2.1 = 4 then (((x.2.2.2.1 : Nat) : Int), ((x.2.2.2.2 : Nat) : Int), 0) else (0, 0, 100)
theorem numQ_get (q : List Ln4) (n i : Nat) : (numQ n q)[i]? = (q[i]?).map fun l => (n + i, l) := by
 induction q generalizing n i with
 | nil => rfl
 | cons a q ih =>
  cases i with
  | zero => rfl
  | succ i =>
   show (numQ (n + 1) q)[i]? = _
   rw [ih, List.getElem?_cons_succ]
   congr 1
   funext l
   congr 1
   omega
theorem place_done {p : I.Im} {line : Int} (h : ∀ y ∈ numQ 1 (seqQ (labB p) p), (y.1 : Int) < line) : placeR p line = (0, 0, 100) := by
 unfold placeR
 rw [place_seq]
 by_cases h1 : 1 ≤ line
 ·rw [if_pos h1]
  have e : (seqQ (labB p) p)[(line - 1).toNat]? = none := by
   cases hg : (seqQ (labB p) p)[(line - 1).toNat]? with
   | none => rfl
   | some l =>
    have hn := numQ_get (seqQ (labB p) p) 1 (line - 1).toNat
    rw [hg] at hn
    have := h _ (List.mem_of_getElem? hn)
    simp at this
    omega
  rw [e]
 ·rw [if_neg h1]
theorem place_stop {p : I.Im} {line : Int} {pre0 : List NL} {x : NL} (h : EnQ (seqQ (labB p) p) pre0 x) (hn : ∀ y ∈ pre0, (y.1 : Int) < line) (hx : ¬ (x.1 : Int) < line) : placeR p line = atR line x := by
 obtain ⟨hm1, _, _, h1⟩ := enQ_mem h
 have hg : (seqQ (labB p) p)[pre0.length]? = some x.2 ∧ (∀ y, pre0.getLast? = some y → y.1 = pre0.length) := by
  obtain ⟨post, hq⟩ := h
  constructor
  ·have := numQ_get (seqQ (labB p) p) 1 pre0.length
   rw [hq] at this
   simp at this
   cases hg : (seqQ (labB p) p)[pre0.length]? with
   | none => rw [hg] at this; cases this
   | some l => rw [hg] at this; simp at this; rw [this]
  ·intro y hy
   have hl : 0 < pre0.length := by
    cases pre0 with
    | nil => cases hy
    | cons a q => simp
   have := numQ_get (seqQ (labB p) p) 1 (pre0.length - 1)
   rw [hq, List.getElem?_append_left (by omega)] at this
   rw [List.getLast?_eq_getElem?] at hy
   rw [hy] at this
   cases hg : (seqQ (labB p) p)[pre0.length - 1]? with
   | none => rw [hg] at this; cases this
   | some l => rw [hg] at this; simp at this; rw [this]; dsimp only; omega
 unfold placeR atR
 rw [place_seq]
 by_cases he : (x.1 : Int) = line
 ·have h2 : (line - 1).toNat = pre0.length := by omega
  rw [if_pos (by omega), h2, hg.1]
  dsimp only
  by_cases h4 : x.2.1 = 4
  ·rw [if_pos h4, if_pos ⟨he, h4⟩]
  ·rw [if_neg h4, if_neg (fun hh => h4 hh.2)]
 ·have h3 : ¬ 1 ≤ line := by
   intro h3
   have hl : 0 < pre0.length := by omega
   obtain ⟨y, hy⟩ : ∃ y, pre0.getLast? = some y := by
    cases hh : pre0.getLast? with
    | none => rw [List.getLast?_eq_none_iff] at hh; rw [hh] at hl; simp at hl
    | some y => exact ⟨y, rfl⟩
   have h4 := hg.2 y hy
   have h5 := hn y (List.mem_of_getLast? hy)
   omega
  rw [if_neg h3, if_neg (fun hh => he hh.1)]
structure PcC (w0 : World) (N0 bf bp be bl : Nat) (line : Int) (q : BSet) (W : World) (r : Int × Int × Int) : Prop where
 kp : Keep NoB w0 W
 sz : N0 ≤ W.heap.size
 hq : ∀ k, q k → (k = bf ∨ k = bp ∨ k = be ∨ N0 ≤ k) ∧ k < W.heap.size
 qf : q bf
 qp : q bp
 qe : q be
 bw : Blk W bl 3 #[.int .i64 line]
 rf : Blk W bf 3 #[.int .i64 r.1]
 rp : Blk W bp 3 #[.int .i64 r.2.1]
 re : Blk W be 40 #[.int .i64 r.2.2]
def PcJ (w0 : World) (N0 bf bp be bl : Nat) (line : Int) (pre : List NL) (q : BSet) (W : World) : Prop :=
 PcC w0 N0 bf bp be bl line q W (0, 0, 100) ∧ ∀ x ∈ pre, (x.1 : Int) < line
def PcX (w0 : World) (N0 bf bp be bl : Nat) (line : Int) (id : Nat) (c : Code) (pre : List NL) (q : BSet) (W : World) : Prop :=
 c = .exit id ∧ ∃ pre0 x, pre = pre0 ++ [x] ∧ PcC w0 N0 bf bp be bl line q W (atR line x) ∧ ¬ (x.1 : Int) < line ∧ ∀ y ∈ pre0, (y.1 : Int) < line
section
variable {w0 : World} {N0 bf bp be bl B : Nat} {line : Int} {q : BSet} {W W' : World} {r : Int × Int × Int}
theorem pcC_out (h : PcC w0 N0 bf bp be bl line q W r) (hs : IStepU 5 B q W W') (hB : w0.heap.size ≤ B) (hbl : bl < B) : PcC w0 N0 bf bp be bl line q W' r :=
 ⟨h.kp.trans hs.keep (fun k hk hl => by omega), Nat.le_trans h.sz hs.keep.size, fun k hk => ⟨(h.hq k hk).1, Nat.lt_of_lt_of_le (h.hq k hk).2 hs.keep.size⟩, h.qf, h.qp, h.qe, h.bw.keep hs.keep (fun hh => by omega),
  h.rf.keep hs.keep (fun hh => hh.2 h.qf), h.rp.keep hs.keep (fun hh => hh.2 h.qp), h.re.keep hs.keep (fun hh => hh.2 h.qe)⟩
theorem pcJ_out (w0 : World) (N0 bf bp be bl B : Nat) (line : Int) (hB : w0.heap.size ≤ B) (hbl : bl < B) : KeepsOutU 5 B (PcJ w0 N0 bf bp be bl line) := by
 rintro pre q W W' ⟨h1, h2⟩ hs
 exact ⟨pcC_out h1 hs hB hbl, h2⟩
theorem pcX_out (w0 : World) (N0 bf bp be bl B : Nat) (line : Int) (id : Nat) (c : Code) (hB : w0.heap.size ≤ B) (hbl : bl < B) : KeepsOutU 5 B (PcX w0 N0 bf bp be bl line id c) := by
 rintro pre q W W' ⟨h0, pre0, x, e, h1, h2⟩ hs
 exact ⟨h0, pre0, x, e, pcC_out h1 hs hB hbl, h2⟩
theorem pcC_alloc (h : PcC w0 N0 bf bp be bl line q W r) (o : Obj) :
  ∃ q', Rnd q q' W (W.alloc o) ∧ PcC w0 N0 bf bp be bl line q' (W.alloc o) r ∧ q' W.heap.size := by
 refine ⟨fun k => q k ∨ k = W.heap.size, ⟨fun k hk hq => ?_, (Keep.refl _ _).alloc o⟩, ⟨h.kp.alloc o, Nat.le_trans h.sz ((Keep.refl NoB W).alloc o).size, fun k hq => ?_, .inl h.qf, .inl h.qp, .inl h.qe, h.bw.alloc o, h.rf.alloc o, h.rp.alloc o, h.re.alloc o⟩, .inr rfl⟩
 ·rcases hq with hq | hq
  ·exact hq
  ·omega
 ·rw [World.size_alloc]
  rcases hq with hq | hq
  ·have := h.hq k hq; omega
  ·have := h.sz; omega
theorem pcC_put (h : PcC w0 N0 bf bp be bl line q W r) (a b c : Int) (h1 : bf ≠ bp) (h2 : bf ≠ be) (h3 : bp ≠ be) (h4 : bl ≠ bf ∧ bl ≠ bp ∧ bl ≠ be) (hw : w0.heap.size ≤ bf ∧ w0.heap.size ≤ bp ∧ w0.heap.size ≤ be) :
  PcC w0 N0 bf bp be bl line q (((W.setCell ⟨bf, 0, none⟩ (.int .i64 a)).setCell ⟨bp, 0, none⟩ (.int .i64 b)).setCell ⟨be, 0, none⟩ (.int .i64 c)) (a, b, c) ∧
   Keep q W (((W.setCell ⟨bf, 0, none⟩ (.int .i64 a)).setCell ⟨bp, 0, none⟩ (.int .i64 b)).setCell ⟨be, 0, none⟩ (.int .i64 c)) := by
 have hk : Keep (fun k => k = bf ∨ k = bp ∨ k = be) W (((W.setCell ⟨bf, 0, none⟩ (.int .i64 a)).setCell ⟨bp, 0, none⟩ (.int .i64 b)).setCell ⟨be, 0, none⟩ (.int .i64 c)) :=
  (((Keep.refl _ W).setCell (p := ⟨bf, 0, none⟩) (fun _ => .inl rfl) _).setCell (p := ⟨bp, 0, none⟩) (fun _ => .inr (.inl rfl)) _).setCell (p := ⟨be, 0, none⟩) (fun _ => .inr (.inr rfl)) _
 have e1 := ((h.rf.put 0 (.int .i64 a)).far (p := ⟨bp, 0, none⟩) h1 (.int .i64 b)).far (p := ⟨be, 0, none⟩) h2 (.int .i64 c)
 have e2 := ((h.rp.far (p := ⟨bf, 0, none⟩) (Ne.symm h1) (.int .i64 a)).put 0 (.int .i64 b)).far (p := ⟨be, 0, none⟩) h3 (.int .i64 c)
 have e3 := ((h.re.far (p := ⟨bf, 0, none⟩) (Ne.symm h2) (.int .i64 a)).far (p := ⟨bp, 0, none⟩) (Ne.symm h3) (.int .i64 b)).put 0 (.int .i64 c)
 simp only [List.setIfInBounds_toArray, List.set_cons_zero] at e1 e2 e3
 refine ⟨⟨h.kp.trans hk (fun k hk hl => by omega), Nat.le_trans h.sz hk.size, fun k hq => ⟨(h.hq k hq).1, Nat.lt_of_lt_of_le (h.hq k hq).2 hk.size⟩, h.qf, h.qp, h.qe, h.bw.keep hk (by rintro (e | e | e); exact h4.1 e; exact h4.2.1 e; exact h4.2.2 e), e1, e2, e3⟩, hk.mono (fun k hk _ => ?_)⟩
 rcases hk with rfl | rfl | rfl
 ·exact h.qf
 ·exact h.qp
 ·exact h.qe
theorem PcC.drew (h : PcC w0 N0 bf bp be bl line q W r) : PcC w0 N0 bf bp be bl line q W.drew r := ⟨h.kp.drew, h.sz, h.hq, h.qf, h.qp, h.qe, h.bw, h.rf, h.rp, h.re⟩
theorem pcJ_body {pre : List NL} {x : NL} (h : PcJ w0 N0 bf bp be bl line pre q W) (hx : (x.1 : Int) < line) : ∃ q', Rnd q q' W W ∧ PcJ w0 N0 bf bp be bl line (pre ++ [x]) q' W :=
 ⟨q, Rnd.refl _ _, h.1, fun y hy => by rcases List.mem_append.1 hy with hy | hy; exact h.2 y hy; rw [List.mem_singleton.1 hy]; exact hx⟩
theorem pcX_no {pre : List NL} {x : NL} {id : Nat} (h : PcJ w0 N0 bf bp be bl line pre q W) (hx : ¬ (x.1 : Int) < line) (hn : ¬ ((x.1 : Int) = line ∧ x.2.1 = 4)) : ∃ q', Rnd q q' W W ∧ PcX w0 N0 bf bp be bl line id (.exit id) (pre ++ [x]) q' W :=
 ⟨q, Rnd.refl _ _, rfl, pre, x, rfl, by unfold atR; rw [if_neg hn]; exact h.1, hx, h.2⟩
theorem pcX_yes {pre : List NL} {x : NL} {id : Nat} {a b : Int} (h : PcJ w0 N0 bf bp be bl line pre q W) (hx : (x.1 : Int) = line) (h4 : x.2.1 = 4) (ha : ((x.2.2.2.1 : Nat) : Int) = a) (hb : ((x.2.2.2.2 : Nat) : Int) = b) (h1 : bf ≠ bp) (h2 : bf ≠ be) (h3 : bp ≠ be) (h5 : bl ≠ bf ∧ bl ≠ bp ∧ bl ≠ be) (hw : w0.heap.size ≤ bf ∧ w0.heap.size ≤ bp ∧ w0.heap.size ≤ be) :
  ∃ q', Rnd q q' W (((W.setCell ⟨bf, 0, none⟩ (.int .i64 a)).setCell ⟨bp, 0, none⟩ (.int .i64 b)).setCell ⟨be, 0, none⟩ (.int .i64 0)).drew ∧ PcX w0 N0 bf bp be bl line id (.exit id) (pre ++ [x]) q' (((W.setCell ⟨bf, 0, none⟩ (.int .i64 a)).setCell ⟨bp, 0, none⟩ (.int .i64 b)).setCell ⟨be, 0, none⟩ (.int .i64 0)).drew := by
 obtain ⟨e1, e2⟩ := pcC_put h.1 a b 0 h1 h2 h3 h5 hw
 refine ⟨q, ⟨fun _ _ h => h, e2.drew⟩, rfl, pre, x, rfl, ?_, by omega, h.2⟩
 unfold atR
 rw [if_pos ⟨hx, h4⟩, ha, hb]
 exact e1.drew
end

set_option maxRecDepth 100000 in
set_option maxHeartbeats 4000000 in
theorem place_any (v : I.IV) (es : List I.SE) (fs : List I.FE) (line : Int) (w : World) (h : I.ImAt w v es fs) (hl : I.LgI v es fs) :
  Calls Tryz.prog 21 #[v.val, .int .i64 line] w fun e w' => e = .returned (.tuple #[.int .i64 (placeR (cutP (I.imOf es fs)) line).1, .int .i64 (placeR (cutP (I.imOf es fs)) line).2.1, .int .i64 (placeR (cutP (I.imOf es fs)) line).2.2]) ∧ Keep NoB w w' := by
 have HS := Lib.hid (fun W (hk : Keep NoB w W) => named_sh2 v es fs W (h.keepN hk) hl)
 have HLi := Lib.hid (fun s W => linesC_any s W)
 have hcut := cut_im (b := I.okI (I.imOf es fs)) h
 rw [← cut_p]
 have b0 := Blk.new w 25 v.cells
 clear h hl
 generalize cutE (I.okI (I.imOf es fs)) es = es2 at *
 generalize cutF (I.okI (I.imOf es fs)) fs = fs2 at *
 generalize cutV (I.okI (I.imOf es fs)) v = v2 at *
 obtain ⟨X, nx, cx, Y, ny, cy⟩ := v
 dsimp only [I.IV.val, I.IV.cells] at *
 have W4b : ∃ W4, (((((w.alloc (.cells #[.slice X nx cx, .slice Y ny cy] 25)).alloc (.cells #[.int .i64 line] 3)).alloc (.cells #[.int .i64 0] 3)).alloc (.cells #[.int .i64 0] 3)).alloc (.cells #[.int .i64 100] 40)) = W4 ∧ W4.heap.size = w.heap.size + 1 + 1 + 1 + 1 + 1 ∧ Keep NoB w W4 ∧
   Blk W4 w.heap.size 25 #[.slice X nx cx, .slice Y ny cy] ∧ Blk W4 (w.heap.size + 1) 3 #[.int .i64 line] ∧ Blk W4 (w.heap.size + 1 + 1) 3 #[.int .i64 0] ∧ Blk W4 (w.heap.size + 1 + 1 + 1) 3 #[.int .i64 0] ∧ Blk W4 (w.heap.size + 1 + 1 + 1 + 1) 40 #[.int .i64 100] := by
  refine ⟨_, rfl, by simp [World.size_alloc], (((((Keep.refl NoB w).alloc _).alloc _).alloc _).alloc _).alloc _, (((b0.alloc _).alloc _).alloc _).alloc _, ?_, ?_, ?_, ?_⟩
  ·have := (((Blk.new (w.alloc (.cells #[.slice X nx cx, .slice Y ny cy] 25)) 3 #[.int .i64 line]).alloc (.cells #[.int .i64 0] 3)).alloc (.cells #[.int .i64 0] 3)).alloc (.cells #[.int .i64 100] 40)
   simpa [World.size_alloc] using this
  ·have := ((Blk.new ((w.alloc (.cells #[.slice X nx cx, .slice Y ny cy] 25)).alloc (.cells #[.int .i64 line] 3)) 3 #[.int .i64 0]).alloc (.cells #[.int .i64 0] 3)).alloc (.cells #[.int .i64 100] 40)
   simpa [World.size_alloc] using this
  ·have := (Blk.new (((w.alloc (.cells #[.slice X nx cx, .slice Y ny cy] 25)).alloc (.cells #[.int .i64 line] 3)).alloc (.cells #[.int .i64 0] 3)) 3 #[.int .i64 0]).alloc (.cells #[.int .i64 100] 40)
   simpa [World.size_alloc] using this
  ·have := Blk.new ((((w.alloc (.cells #[.slice X nx cx, .slice Y ny cy] 25)).alloc (.cells #[.int .i64 line] 3)).alloc (.cells #[.int .i64 0] 3)).alloc (.cells #[.int .i64 0] 3)) 40 #[.int .i64 100]
   simpa [World.size_alloc] using this
 obtain ⟨W4, hW4, hz4, hk4, q0, q1, q2, q3, q4⟩ := W4b
 have HS4 := Lib.hid (HS.out _ hk4)
 have c0 := q0.cell 0
 have c1 := q0.cell 1
 simp only [List.getElem?_toArray, List.getElem?_cons_zero, List.getElem?_cons_succ] at c0 c1
 clear b0 HS
 refine (callsIn_wide (n := 4)).1 ?_
 refine callsIn_of_wp_marks Tryz.func21 rfl trivial ?_ rfl
 simp only [Tryz.ntmps21, List.size_toArray, List.length_cons, List.length_nil, Nat.reduceAdd, Nat.reduceSub, Array.replicate_succ, Array.replicate_zero, List.push_toArray, List.append_toArray, List.nil_append, List.cons_append]
 gi_wp2
 refine wpIn_scope_wide ?_
 gi_wp2
 refine wpIn_label ?_
 gi_wp2_with fail
 refine ⟨trivial, (callsIn_wide.2 HS4.out).mono ?_⟩
 rintro e W5 ⟨s, rfl, hs, hsv, hsm, k5⟩
 gi_wp2_with fail
 refine ⟨trivial, (callsIn_wide.2 (HLi.out s W5)).mono ?_⟩
 rintro e W6 ⟨rfl, hw6⟩
 gi_wp2_with fail
 have hz6 : W6.heap.size = W5.heap.size + 1 := by rw [hw6]; simp
 have k6 : Keep NoB W5 W6 := by rw [hw6]; exact (Keep.refl _ _).alloc _
 have hbx : Blk W6 W5.heap.size 72 s.cells := by rw [hw6]; exact Blk.new _ _ _
 rw [← hw6]
 have k46 : Keep NoB W4 W6 := keepN k5 k6
 have hz5 : W4.heap.size ≤ W5.heap.size := k5.size
 have hkw : Keep NoB w W6 := keepN hk4 k46
 have q1' : Blk W6 (w.heap.size + 1) 3 #[.int .i64 line] := q1.keep k46 id
 have q2' : Blk W6 (w.heap.size + 1 + 1) 3 #[.int .i64 0] := q2.keep k46 id
 have q3' : Blk W6 (w.heap.size + 1 + 1 + 1) 3 #[.int .i64 0] := q3.keep k46 id
 have q4' : Blk W6 (w.heap.size + 1 + 1 + 1 + 1) 40 #[.int .i64 100] := q4.keep k46 id
 have hlab : LabAt s.m (labK2 0 (I.imOf es2 fs2)) W6 := hs.lab.keep k6 (fun _ _ h => h)
 obtain ⟨hes, hfs, hbd, hsq⟩ := hs.small
 have hel : labK2 0 (I.imOf es2 fs2) = labB (I.imOf es2 fs2) := if_pos rfl
 have hIt : Hid (∀ W, HR2 w W4.heap.size W6.heap.size W5.heap.size s (labK2 0 (I.imOf es2 fs2)) W → ShIt W W5.heap.size s es2 fs2 (labK2 0 (I.imOf es2 fs2))) := fun W hr => hr2_it (by rw [hsv]; exact hcut) W hr
 have hst := Lib.hid (lines_stops 2 3 W5.heap.size s es2 fs2 (labK2 0 (I.imOf es2 fs2)) hes hfs hbd (by omega) _ hIt)
 have hH0 : HR2 w W4.heap.size W6.heap.size W5.heap.size s (labK2 0 (I.imOf es2 fs2)) W6 := ⟨hkw.mono (fun _ hf _ => hf.elim), hbx, hlab, fun b e => ⟨(hsm b e).1, by have := (hsm b e).2; omega⟩⟩
 rw [hel] at hst hH0
 have hi0 : PcJ w W6.heap.size (w.heap.size + 1 + 1) (w.heap.size + 1 + 1 + 1) (w.heap.size + 1 + 1 + 1 + 1) (w.heap.size + 1) line [] (fun k => k = w.heap.size + 1 + 1 ∨ k = w.heap.size + 1 + 1 + 1 ∨ k = w.heap.size + 1 + 1 + 1 + 1) W6 :=
  ⟨⟨hkw, Nat.le_refl _, fun k hk => by rcases hk with rfl | rfl | rfl <;> omega, .inl rfl, .inr (.inl rfl), .inr (.inr rfl), q1', q2', q3', q4'⟩, fun x hx => by simp at hx⟩
 have hp0 : ∀ k, (k = w.heap.size + 1 + 1 ∨ k = w.heap.size + 1 + 1 + 1 ∨ k = w.heap.size + 1 + 1 + 1 + 1) → k < W6.heap.size := fun k hk => by omega
 have hHs := hr2_keep (w := w) (m0 := W4.heap.size) (N0 := W6.heap.size) (bs := W5.heap.size) (s := s) (lab := labB (I.imOf es2 fs2)) (p0 := fun k => k = w.heap.size + 1 + 1 ∨ k = w.heap.size + 1 + 1 + 1 ∨ k = w.heap.size + 1 + 1 + 1 + 1) (fun k hk => by omega) (by omega) hz5 (by omega)
 have hN : Hid (W6.heap.size = W5.heap.size + 1 ∧ W4.heap.size ≤ W5.heap.size ∧ W4.heap.size = w.heap.size + 1 + 1 + 1 + 1 + 1) := ⟨hz6, hz5, hz4⟩
 clear q0 q1 q2 q3 q4 q1' q2' q3' q4' hs hsv hsm k5 k6 hlab hIt hbx hes hfs hbd c0 c1 HLi HS4 hcut hw6 hW4 k46 hk4 hkw
 refine wpIn_rangeFunc_U (U := 5) (m := 2) (gf := 93) (lb := #[.pointer (some ⟨W5.heap.size, 0, none⟩)]) rfl (enters_of Tryz.func93 rfl rfl)
  hst.out (fun _ => rfl) (PcJ w W6.heap.size (w.heap.size + 1 + 1) (w.heap.size + 1 + 1 + 1) (w.heap.size + 1 + 1 + 1 + 1) (w.heap.size + 1) line) (fun c => PcX w W6.heap.size (w.heap.size + 1 + 1) (w.heap.size + 1 + 1 + 1) (w.heap.size + 1 + 1 + 1 + 1) (w.heap.size + 1) line 0 c) (pcJ_out w _ _ _ _ _ _ _ (by omega) (by omega)) (fun pre q W h k hk => (h.1.hq k hk).2) (fun c => pcX_out w _ _ _ _ _ _ _ _ c (by omega) (by omega)) hi0 hp0 hH0 hHs
  (fun pre x q a' W => ∃ Bx, PcJ w W6.heap.size (w.heap.size + 1 + 1) (w.heap.size + 1 + 1 + 1) (w.heap.size + 1 + 1 + 1 + 1) (w.heap.size + 1) line pre q W ∧ q Bx ∧ Blk W Bx 84 (lnC x.2) ∧ a' = { tmps := #[.agg #[.slice X nx cx, .slice Y ny cy], .int .i64 line, .pointer (some ⟨w.heap.size, 0, none⟩), .pointer (some ⟨w.heap.size + 1, 0, none⟩), .pointer (some ⟨w.heap.size + 1 + 1, 0, none⟩), .pointer (some ⟨w.heap.size + 1 + 1 + 1, 0, none⟩), .pointer (some ⟨w.heap.size + 1 + 1 + 1 + 1, 0, none⟩), .int .i64 (x.1 : Int), .pointer (some ⟨Bx, 0, none⟩), .agg #[.slice X nx cx, .slice Y ny cy], s.val, .func (.func 93) #[] #[.pointer (some ⟨W5.heap.size, 0, none⟩)], .int .i64 (x.1 : Int), .agg (lnC x.2), undef, undef, undef, undef, undef, undef, undef, undef, undef, undef, undef, undef, undef, undef, undef, undef, undef, undef, undef, undef, undef, undef], defers := [] }) ?hax ?assign ?body ?done ?stop
 case hax =>
  rintro pre x a' u q W W' ⟨Bx, g1, g2, g3, g4⟩ hs
  exact ⟨Bx, pcJ_out w _ _ _ _ _ _ _ (by omega) (by omega) _ _ _ _ g1 hs, g2, g3.keep hs.keep (fun h => h.2 g2), g4⟩
 case assign =>
  rintro l pre x q W hi hen
  have hB := Lib.hid (Blk.new W 84 (lnC x.2))
  obtain ⟨q', e1, e2, e3⟩ := pcC_alloc hi.1 (.cells (lnC x.2) 84)
  have hE : Hid (Rnd q q' W (W.alloc (.cells (lnC x.2) 84)) ∧ PcJ w W6.heap.size (w.heap.size + 1 + 1) (w.heap.size + 1 + 1 + 1) (w.heap.size + 1 + 1 + 1 + 1) (w.heap.size + 1) line pre q' (W.alloc (.cells (lnC x.2) 84)) ∧ q' W.heap.size) := ⟨e1, ⟨e2, hi.2⟩, e3⟩
  clear e1 e2 e3 hi
  obtain ⟨n, ⟨a0, a1, a2, a3⟩⟩ := x
  dsimp only [encQ, lnC] at *
  gi_wp2
  exact ⟨q', hE.out.1, _, hE.out.2.1, hE.out.2.2, hB.out, rfl⟩
 case body =>
  rintro l pre x q a' W hen ⟨Bx, g1, g2, g3, rfl⟩
  obtain ⟨d0, d1, d2, d3⟩ := And.intro (g3.cell 0) (And.intro (g3.cell 1) (And.intro (g3.cell 2) (g3.cell 3)))
  have f0 := g1.1.bw.cell 0
  have h1 := g1.1.rf.cell 0
  have h2 := g1.1.rp.cell 0
  have h3 := g1.1.re.cell 0
  have z1 := g1.1.rf.frozen 0
  have z2 := g1.1.rp.frozen 0
  have z3 := g1.1.re.frozen 0
  obtain ⟨n, ⟨a0, a1, a2, a3⟩⟩ := x
  dsimp only [lnC] at *
  simp only [List.getElem?_toArray, List.getElem?_cons_zero, List.getElem?_cons_succ] at d0 d1 d2 d3 f0 h1 h2 h3
  have G1 := Lib.hid g1
  have G2 := Lib.hid g2
  have G3 := Lib.hid g3
  clear g1 g2 g3 hst hi0 hp0 hH0 hHs hen
  gi_wp2_with fail
  ·exact pcJ_body (x := (n, a0, a1, a2, a3)) G1.out (by simpa using ‹_›)
  ·gi_region
   gi_wp2
   all_goals exact pcX_yes (x := (n, a0, a1, a2, a3)) G1.out ‹(n : Int) = line› (by have := ‹((a0 : Int) == 4) = true›; rw [beq_iff_eq] at this; show a0 = 4; omega) rfl rfl (by omega) (by omega) (by omega) ⟨by omega, by omega, by omega⟩ ⟨by omega, by omega, by omega⟩
  ·exact pcX_no (x := (n, a0, a1, a2, a3)) G1.out (Int.not_lt.2 ‹_›) (fun hh => by have := ‹((a0 : Int) == 4) = false›; rw [beq_eq_false_iff_ne] at this; have h5 : a0 = 4 := hh.2; omega)
  ·exact pcX_no (x := (n, a0, a1, a2, a3)) G1.out (Int.not_lt.2 ‹_›) (fun hh => ‹¬ (n : Int) = line› hh.1)
 case done =>
  rintro D xs q W hD hpD rfl g1 hK
  have HF := Lib.hid (place_done g1.2)
  have hr := g1.1
  generalize hR : ((0 : Int), (0 : Int), (100 : Int)) = R at hr HF
  clear g1
  clear hR hi0 hp0 hH0 hHs hst
  obtain ⟨r1, r2, r3⟩ := R
  have hkw := hr.kp
  have f1 := hr.rf.cell 0
  have f2 := hr.rp.cell 0
  have f3 := hr.re.cell 0
  have z1 := hr.rf.frozen 0
  have z2 := hr.rp.frozen 0
  have z3 := hr.re.frozen 0
  simp only [List.getElem?_toArray, List.getElem?_cons_zero] at f1 f2 f3
  have HR := Lib.hid hr
  clear hr
  rename_i Q2 K2 aK
  refine aK _ _ ?_
  gi_wp2
  gi_region
  gi_wp2
  obtain ⟨e1, e2⟩ := pcC_put HR.out r1 r2 r3 (by omega) (by omega) (by omega) ⟨by omega, by omega, by omega⟩ ⟨by omega, by omega, by omega⟩
  have hK2 := (Below.heap_setCell _ ⟨w.heap.size + 1 + 1 + 1 + 1, 0, none⟩ (.int .i64 r3) D (by simp; omega)).trans ((Below.heap_setCell _ ⟨w.heap.size + 1 + 1 + 1, 0, none⟩ (.int .i64 r2) D (by simp; omega)).trans ((Below.heap_setCell W ⟨w.heap.size + 1 + 1, 0, none⟩ (.int .i64 r1) D (by simp; omega)).trans hK))
  have e3 := e1.drew
  dsimp only [Exit.noGoto]
  refine ⟨by simp, .inl ⟨_, _, rfl, run_takeDeferred hK2, ?_⟩⟩
  have o1 := fun o => (e3.rf.grown (grownBy_putObj' _ D o) (by simp; omega)).cell 0
  have o2 := fun o => (e3.rp.grown (grownBy_putObj' _ D o) (by simp; omega)).cell 0
  have o3 := fun o => (e3.re.grown (grownBy_putObj' _ D o) (by simp; omega)).cell 0
  simp only [List.getElem?_toArray, List.getElem?_cons_zero] at o1 o2 o3
  refine ⟨.tuple #[.int .i64 r1, .int .i64 r2, .int .i64 r3], by simp [results, Tryz.results21, go_sem, o1, o2, o3], ?_⟩
  refine ⟨by rw [HF.out], npPut e3.kp (by omega)⟩
 case stop =>
  rintro D c pre q W hD hpD ⟨post, hpost⟩ ⟨rfl, pre0, x, rfl, g1, hx, hy⟩ hK
  have HF := Lib.hid (place_stop (p := I.imOf es2 fs2) ⟨post, by rw [hpost]; simp⟩ hy hx)
  have hr := g1
  generalize hR : atR line x = R at hr HF
  clear g1 hx hy hpost
  clear hR hi0 hp0 hH0 hHs hst
  obtain ⟨r1, r2, r3⟩ := R
  have hkw := hr.kp
  have f1 := hr.rf.cell 0
  have f2 := hr.rp.cell 0
  have f3 := hr.re.cell 0
  have z1 := hr.rf.frozen 0
  have z2 := hr.rp.frozen 0
  have z3 := hr.re.frozen 0
  simp only [List.getElem?_toArray, List.getElem?_cons_zero] at f1 f2 f3
  have HR := Lib.hid hr
  clear hr
  rename_i Q2 K2 aK
  gi_wp2
  gi_region
  gi_wp2
  obtain ⟨e1, e2⟩ := pcC_put HR.out r1 r2 r3 (by omega) (by omega) (by omega) ⟨by omega, by omega, by omega⟩ ⟨by omega, by omega, by omega⟩
  have hK2 := (Below.heap_setCell _ ⟨w.heap.size + 1 + 1 + 1 + 1, 0, none⟩ (.int .i64 r3) D (by simp; omega)).trans ((Below.heap_setCell _ ⟨w.heap.size + 1 + 1 + 1, 0, none⟩ (.int .i64 r2) D (by simp; omega)).trans ((Below.heap_setCell W ⟨w.heap.size + 1 + 1, 0, none⟩ (.int .i64 r1) D (by simp; omega)).trans hK))
  have e3 := e1.drew
  dsimp only [Exit.noGoto]
  refine ⟨by simp, .inl ⟨_, _, rfl, run_takeDeferred hK2, ?_⟩⟩
  have o1 := fun o => (e3.rf.grown (grownBy_putObj' _ D o) (by simp; omega)).cell 0
  have o2 := fun o => (e3.rp.grown (grownBy_putObj' _ D o) (by simp; omega)).cell 0
  have o3 := fun o => (e3.re.grown (grownBy_putObj' _ D o) (by simp; omega)).cell 0
  simp only [List.getElem?_toArray, List.getElem?_cons_zero] at o1 o2 o3
  refine ⟨.tuple #[.int .i64 r1, .int .i64 r2, .int .i64 r3], by simp [results, Tryz.results21, go_sem, o1, o2, o3], ?_⟩
  refine ⟨by rw [HF.out], npPut e3.kp (by omega)⟩

end Go.Proofs.YtgnooffedmeenaaGreatDoor.M.L

namespace Go.Proofs.YtgnooffedmeenaaGreatDoor.M.L
open Go.RowKit W

theorem imOk_of {w : World} {v : I.IV} {es : List I.SE} {fs : List I.FE} (h : I.ImAt w v es fs) (hok : I.okI (I.imOf es fs) = true) : ImOk (I.imOf es fs) := ⟨hok, fun f hf => by obtain ⟨e, he, rfl⟩ := List.mem_map.1 hf; exact (h.hf e he).hI⟩
end Go.Proofs.YtgnooffedmeenaaGreatDoor.M.L

namespace Go.Proofs.YtgnooffedmeenaaGreatDoor.M.L
open Go.RowKit W

def cntF (fs : List I.FE) : Nat := (fs.map fun e => e.2.bd.length).sum
theorem cntF_succ (fs : List I.FE) (j : Nat) (h : j < fs.length) : cntF (fs.take (j + 1)) = cntF (fs.take j) + fs[j].2.bd.length := by
 unfold cntF
 rw [List.take_succ_eq_append_getElem h, List.map_append, List.sum_append]
 simp
theorem cntF_le (fs : List I.FE) (h : ∀ e ∈ fs, e.2.bd.length ≤ 600) : ∀ j, cntF (fs.take j) ≤ 600 * fs.length := by
 intro j
 have key : ∀ l : List I.FE, (∀ e ∈ l, e.2.bd.length ≤ 600) → cntF l ≤ 600 * l.length := by
  intro l hl
  induction l with
  | nil => exact Nat.le_refl _
  | cons a l ih =>
   have h1 := hl a (by simp)
   have h2 := ih (fun e he => hl e (by simp [he]))
   unfold cntF at *
   rw [List.map_cons, List.sum_cons, List.length_cons]
   omega
 have h1 := key (fs.take j) (fun e he => h e (List.mem_of_mem_take he))
 have h2 := List.length_take_le' j fs
 omega

set_option maxRecDepth 100000 in
set_option maxHeartbeats 4000000 in
theorem count_any (v : I.IV) (es : List I.SE) (fs : List I.FE) (w : World) (h : I.ImAt w v es fs) (hs : I.SmI es fs) :
  Calls Tryz.prog 10 #[v.val] w fun e w' => e = .returned (.int .i64 (cntF fs : Nat)) ∧ Keep NoB w w' := by
 have bx := Blk.new w 25 v.cells
 have k0 := (Keep.refl NoB w).alloc (.cells v.cells 25)
 have HR := Lib.hid (h.keepN k0).ry
 have hly : Hid (fs.length = v.ny) := h.ly
 have h70 : v.ny ≤ 70 := by rw [← hly.out]; exact hs.nf
 have HD : Hid (∀ e ∈ fs, e.2.bd.length = e.1.nd) := fun e he => (h.hf e he).ld
 have HB : Hid (∀ j, cntF (fs.take j) ≤ 42000) := fun j => by
  have h1 := cntF_le fs (fun e he => by rw [HD.out e he]; exact (hs.fn e he).nd) j
  have h2 := hs.nf
  omega
 have HX := Lib.hid bx
 obtain ⟨T, hT⟩ : ∃ T, cntF fs = T := ⟨_, rfl⟩
 rw [hT]
 have HT := Lib.hid hT
 clear h hs bx hT
 obtain ⟨X, nx, cx, Y, ny, cy⟩ := v
 dsimp only [I.IV.val, I.IV.cells] at *
 obtain ⟨c0, c1⟩ := And.intro (HX.out.cell 0) (HX.out.cell 1)
 simp only [List.getElem?_toArray, List.getElem?_cons_zero, List.getElem?_cons_succ] at c0 c1
 go_enter Tryz.func10, Tryz.ntmps10
 go_wp2_with fail
 go_loopw [3, 8] (fun s i wr => ∃ j : Nat, j ≤ ny ∧ i = .int .i64 j ∧ s = .int .i64 (cntF (fs.take j) : Nat) ∧ Keep NoB (w.alloc (.cells #[.slice X nx cx, .slice Y ny cy] 25)) wr) (fun _ i _ => ny - (intOf i).toNat)
 case atStart => exact ⟨0, Nat.zero_le _, rfl, rfl, Keep.refl _ _⟩
 case round =>
  obtain ⟨j, hj, rfl, rfl, hK⟩ := hrel
  replace c0 := hK.cell c0 id
  replace c1 := hK.cell c1 id
  by_cases hlt : j < ny
  ·have hjl : j < fs.length := by rw [hly.out]; exact hlt
   obtain ⟨g, off, rfl, _, _, _, _, s4⟩ := I.fun_at HR.out hjl
   replace s4 := hK.cell s4 id
   have hsu := Lib.hid (cntF_succ fs j hjl)
   have hb := HB.out (j + 1)
   have hd := HD.out _ (List.getElem_mem hjl)
   rw [hsu.out, hd] at hb
   have HE : Hid (cntF (fs.take (j + 1)) = cntF (fs.take j) + fs[j].1.nd) := by show _ = _; rw [hsu.out, hd]
   clear hsu hd
   generalize fs[j].1.D = D at *
   generalize fs[j].1.nd = nd at *
   generalize fs[j].1.cd = cd at *
   obtain ⟨m, hm⟩ : ∃ m, cntF (fs.take j) = m := ⟨_, rfl⟩
   rw [hm] at hb HE ⊢
   clear hm
   go_wp2
   go_roundw
   case rel => exact ⟨j + 1, by omega, by go_num, by rw [HE.out]; go_num, hK⟩
   case measure => simp [intOf]; omega
  ·have e : cntF (fs.take j) = T := by rw [List.take_of_length_le (by rw [hly.out]; omega)]; exact HT.out
   rw [e]
   clear e
   go_wp2
   go_ret
   exact ⟨rfl, keepN k0 hK⟩

end Go.Proofs.YtgnooffedmeenaaGreatDoor.M.L
