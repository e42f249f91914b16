/-
  What joined and Normal of layer asm answer: words parted by one blank; a text's normal one. Conditions: the words lie in memory; the text is not too long.
  What the document's lines answer: the lines of a text that have words, with their numbers. Conditions: the text is not too long.
  What the document's joined, Normal and Texts answer. Conditions: the words lie in memory; the text is not too long.
  What the document's Texts answers: whether two lists of words are the same. Conditions: they lie in memory.
  AsmWords' walk: a line's words, and a text's normal one, are the document's. Conditions: what the program's Words and Normal answer (WordsC, NormC).
-/
import Derived.Test.YtifobiajjhknbaaQ1
namespace Go.Proofs.Ytifobiajjhknbaa.M
open Go.RowKit Go.Shelf W
attribute [local go_sem] Oper.semAt_some

theorem npLen : ∀ l : List Bs, l.length ≤ (joinW l).length + 1
  | [] => Nat.zero_le _
  | [w] => by simp
  | w :: v :: ws => by
    have h := npLen (v :: ws)
    rw [joinW, List.length_append]
    simp only [List.length_cons] at h ⊢
    omega
theorem join_blank : ∀ ws : List Bs, Lib.join ws [32] = joinW ws
  | [] => rfl
  | [w] => Lib.join_one w [32]
  | w :: v :: ws => by
    have ih := join_blank (v :: ws)
    rw [Lib.join_cons] at ih
    rw [Lib.join_cons, joinW, ← ih]
    simp [Lib.joinTail]
theorem joined_any (A : Option Addr) (ws : List Bs) (n c : Nat) (w : World) (hr : Rd w A (sv ws)) (hn : Hid (ws.length = n)) (hc : n ≤ c) (hN : n ≤ 200000) (hl : (joinW ws).length ≤ 200000) :
    Calls Try.prog 16 #[.slice A n c] w fun e w' => e = .returned (.string (str (joinW ws))) ∧ Keep NoB w w' := by
  have H : Hid (Calls Try.prog 25 #[.slice A n c, .string ⟨#[32]⟩] w fun e w' => e = .returned (.string (str (joinW ws))) ∧ Keep NoB w w') := by
    have hn := hn.out
    subst hn
    by_cases h0 : ws = []
    · subst h0
      refine (Try.strings_Join_none A c ⟨#[32]⟩ w).mono ?_
      rintro e w' ⟨rfl, rfl⟩
      exact ⟨rfl, Keep.refl _ _⟩
    · have hpos : 0 < ws.length := by cases ws with | nil => exact absurd rfl h0 | cons _ _ => simp
      obtain ⟨g, off, rfl, hcs⟩ := sv_at hr hpos
      have e1 : (ws.map str).map (·.data.toList) = ws := by rw [List.map_map]; simp [Function.comp_def]
      have hg : g < w.heap.size := by
        have := hcs 0 hpos
        unfold World.cell? at this
        cases hh : w.heap[g]? with
        | none => simp [hh] at this
        | some o => exact (Array.getElem?_eq_some_iff.1 hh).1
      have hJ := Try.strings_Join g off c (ws.map str) ⟨#[32]⟩ w (fun j x hx => by
        rw [List.getElem?_map] at hx
        rcases Nat.lt_or_ge j ws.length with hj | hj
        · rw [List.getElem?_eq_getElem hj] at hx
          injection hx with hx
          rw [← hx]
          exact hcs j hj
        · rw [List.getElem?_eq_none hj] at hx; cases hx) hg (by simp; omega) (by simpa using hc) (by rw [e1, show (⟨#[32]⟩ : ByteArray).data.toList = [32] from rfl, join_blank]; omega)
      rw [e1, List.length_map, show (⟨#[32]⟩ : ByteArray).data.toList = [32] from rfl, join_blank] at hJ
      exact hJ.mono (by rintro e w' ⟨rfl, hb⟩; exact ⟨rfl, Keep.of_below hb⟩)
  clear hr hn
  go_enter Try.func16, Try.ntmps16
  go_wp2_with fail
  refine H.out.mono ?_
  rintro e w1 ⟨rfl, k1⟩
  go_wp2
  go_ret
  exact ⟨rfl, k1⟩
/-- A line feed is written. -/
theorem rune_any (b : Nat) (s : Bs) (w : World) (h : Bld b s w) (hl : s.length ≤ 140737488355000) (hb : b ≤ w.heap.size) :
    Calls Try.prog 17 #[.pointer (some ⟨b, 0, none⟩), .int .i32 10] w fun e w' => (∃ u v, e = .returned (.tuple #[u, v])) ∧ Bld b (s ++ [10]) w' ∧ Below b w w' ∧ Lib.OthersKept 5 (some b) w w' := by
  refine (Try.Builder_WriteRune_k b b (Lib.byteCells s) 10 (by decide) (by decide) w h (by rw [Lib.byteCells_length]; omega) hb).mono ?_
  rintro e w' ⟨rfl, h1, h2, h3⟩
  have e1 : Lib.runeCells 10 = Lib.byteCells [10] := by kernel_rfl
  rw [e1, ← Lib.byteCells_append] at h1
  exact ⟨⟨_, _, rfl⟩, .inr h1, h2, h3⟩

theorem npBelow {w W W' : World} {b : Nat} (hk : Keep NoB w W) (hb : Below b W W') (h : w.heap.size ≤ b) : Keep NoB w W' :=
  hk.trans (O' := fun k => b ≤ k) ⟨hb.os, hb.tape, hb.output, hb.size, fun k hk hn => hb.block k (by omega)⟩ (fun k hk hl => by omega)
theorem npPut {w W : World} {D : Nat} {o : Obj} (h : Keep NoB w W) (hD : w.heap.size ≤ D) : Keep NoB w (W.putObj D o) := h.grown (grownBy_putObj' W D o) (fun g e hl => by cases e; omega)
/-- Which blocks a builder may change: its own, and bytes that are newer. -/
def bldP (b : Nat) (W : World) : BSet := fun k => k = b ∨ (b ≤ k ∧ ∃ c fz, W.heap[k]? = some (.cells c 5 fz))
theorem bldP_step {B b : Nat} {W W' : World} (h : IStep B (bldP b W) W W') : bldP b W' = bldP b W := by
  funext k
  apply propext
  unfold bldP
  constructor
  · rintro (rfl | ⟨h1, c, fz, h2⟩)
    · exact .inl rfl
    · exact .inr ⟨h1, c, fz, h.cells k _ h2 rfl⟩
  · rintro (rfl | ⟨h1, c, fz, h2⟩)
    · exact .inl rfl
    · exact .inr ⟨h1, c, fz, (h.keep.block k (Array.getElem?_eq_some_iff.1 h2).1 (fun h3 => h3.2 (.inr ⟨h1, c, fz, h2⟩))).trans h2⟩
theorem bldP_rnd {b : Nat} {W W' : World} (h1 : Below b W W') (h2 : Lib.OthersKept 5 (some b) W W') : Rnd (bldP b W) (bldP b W') W W' := by
  have key : ∀ k, k < W.heap.size → ¬ bldP b W k → W'.heap[k]? = W.heap[k]? := by
    intro k hk hn
    by_cases hb : k < b
    · exact h1.block k hb
    · have hne : k ≠ b := fun e => hn (.inl e)
      obtain ⟨o, ho⟩ : ∃ o, W.heap[k]? = some o := ⟨_, Array.getElem?_eq_getElem hk⟩
      rw [ho]
      exact h2 k o ho (by simpa using hne) (fun c fz e => hn (.inr ⟨by omega, c, fz, by rw [ho, e]⟩))
  refine ⟨fun k hk hp => ?_, ⟨h1.os, h1.tape, h1.output, h1.size, key⟩⟩
  apply Classical.byContradiction
  intro hn
  rcases hp with rfl | ⟨h3, c, fz, h4⟩
  · exact hn (.inl rfl)
  · rw [key k hk hn] at h4
    exact hn (.inr ⟨h3, c, fz, h4⟩)
theorem bldP_keep {b : Nat} {W W' : World} (h : Keep NoB W W') : Rnd (bldP b W) (bldP b W') W W' := by
  refine ⟨fun k hk hp => ?_, h.noB⟩
  rcases hp with rfl | ⟨h3, c, fz, h4⟩
  · exact .inl rfl
  · rw [h.block k hk id] at h4
    exact .inr ⟨h3, c, fz, h4⟩
theorem bld_istep {B b : Nat} {s : Bs} {W W' : World} (h : Bld b s W) (hs : IStep B (bldP b W) W W') : Bld b s W' := by
  have key : ∀ {p : Value}, Lib.BuilderAtF 33 5 b b p (Lib.byteCells s) W → Lib.BuilderAtF 33 5 b b p (Lib.byteCells s) W' := by
    rintro p ⟨h1, v, h2, ⟨h3, h4⟩, h5⟩
    have hb := hs.keep.block b (Array.getElem?_eq_some_iff.1 h2).1 (fun h => h.2 (.inl rfl))
    refine ⟨h1, v, hb.trans h2, ⟨h3, ?_⟩, h5⟩
    rcases h4 with h4 | ⟨g, cap, cur, fz, e1, e2, e3, e4⟩
    · exact .inl h4
    · exact .inr ⟨g, cap, cur, fz, e1, e2, (hs.keep.block g (Array.getElem?_eq_some_iff.1 e3).1 (fun h => h.2 (.inr ⟨e2, _, _, e3⟩))).trans e3, e4⟩
  exact h.elim (fun h => .inl (key h)) (fun h => .inr (key h))

/-- The normal text of lines so far. -/
def normT (pre : List (Nat × Bs)) : Bs := pre.flatMap fun x => if wordsL x.2 = [] then [] else joinW (wordsL x.2) ++ [10]
theorem normT_snoc (pre : List (Nat × Bs)) (x : Nat × Bs) : normT (pre ++ [x]) = normT pre ++ (if wordsL x.2 = [] then [] else joinW (wordsL x.2) ++ [10]) := by unfold normT; simp
theorem normT_ones : ∀ (n : Nat) (l : List Bs), normT (numS n l) = flat ((ones n l).map Prod.snd)
  | _, [] => rfl
  | n, s :: r => by
    have ih := normT_ones (n + 1) r
    rw [numS, ones, List.map_append, flat_append, ← ih]
    unfold normT
    rw [List.flatMap_cons]
    congr 1
    by_cases h : wordsL s = []
    · rw [one_none h, if_pos h]; rfl
    · rw [one_some h, if_neg h]; unfold flat; simp
theorem normT_all (s : Bs) : normT (numS 1 (segs s)) = normL s := by rw [normT_ones]; unfold normL; rw [lines_segs]
theorem normT_pre {s : Bs} {pre post : List (Nat × Bs)} (h : numS 1 (segs s) = pre ++ post) : (normT pre).length ≤ s.length + 1 := by
  have h1 := normT_all s
  rw [h] at h1
  have h2 := congrArg List.length h1
  unfold normT at h2 ⊢
  rw [List.flatMap_append, List.length_append] at h2
  have := norm_len s
  omega
theorem line_len {s : Bs} {pre post : List (Nat × Bs)} {x : Nat × Bs} (h : numS 1 (segs s) = pre ++ x :: post) : x.2.length ≤ s.length := by
  have key : ∀ (s cur : Bs), ∀ y ∈ sgo cur s, y.length ≤ cur.length + s.length := by
    intro s
    induction s with
    | nil => intro cur y hy; rw [sgo] at hy; unfold fl at hy; split at hy; cases hy; rw [List.mem_singleton] at hy; subst hy; simp
    | cons c r ih =>
      intro cur y hy
      by_cases hc : c = 10
      · subst hc
        rw [sgo, if_pos rfl, List.mem_cons] at hy
        rcases hy with rfl | hy
        · simp
        · have := ih [] y hy; simp at this ⊢; omega
      · rw [sgo, if_neg hc] at hy
        have := ih (cur ++ [c]) y hy
        simp at this ⊢; omega
  have hx : x ∈ numS 1 (segs s) := by rw [h]; simp
  have hm : ∀ (n : Nat) (l : List Bs), ∀ y ∈ numS n l, y.2 ∈ l := by
    intro n l
    induction l generalizing n with
    | nil => intro y hy; cases hy
    | cons a r ih =>
      intro y hy
      rw [numS, List.mem_cons] at hy
      rcases hy with rfl | hy
      · simp
      · exact List.mem_cons_of_mem _ (ih _ y hy)
  have := key s [] x.2 (hm 1 _ x hx)
  simpa using this
def NormI (w : World) (b : Nat) (pre : List (Nat × Bs)) (p : BSet) (W : World) : Prop := p = bldP b W ∧ Bld b (normT pre) W ∧ Keep NoB w W
theorem normI_out (w : World) (b B : Nat) (h : w.heap.size ≤ B) : KeepsOut B (NormI w b) := by
  rintro pre p W W' ⟨rfl, h1, h2⟩ hs
  exact ⟨(bldP_step hs).symm, bld_istep h1 hs, h2.trans hs.keep (fun k h3 hk => by omega)⟩
theorem bld_lt {b : Nat} {s : Bs} {W : World} (h : Bld b s W) : b < W.heap.size := by
  rcases h with ⟨_, v, h2, _⟩ | ⟨_, v, h2, _⟩ <;> exact (Array.getElem?_eq_some_iff.1 h2).1

set_option maxRecDepth 100000 in
set_option maxHeartbeats 4000000 in
theorem normal_any (S : ByteArray) (s : Bs) (w : World) (hs : Hid (S.data.toList = s)) (hl : S.size ≤ 140000) :
    Calls Try.prog 7 #[.string S] w fun e w' => e = .returned (.string (str (normL s))) ∧ Keep NoB w w' := by
  have hb0 := bld_new w
  have hk0 := (Keep.refl NoB w).alloc (.cells #[.pointer none, .slice none 0 0] 33)
  have HLi := Lib.hid (fun W => lines_any S W)
  have HSt := Lib.hid (fun W (h : Bld w.heap.size (normL s) W) => string_any w.heap.size (normL s) W h (Nat.le_of_lt (bld_lt h)))
  have hsz := size_of hs.out
  refine (callsIn_wide (n := 4)).1 ?_
  refine callsIn_of_wp_marks Try.func7 rfl trivial ?_ rfl
  simp only [Try.ntmps7, List.size_toArray, List.length_cons, List.length_nil, Nat.reduceAdd, Nat.reduceSub, Array.replicate_succ, Array.replicate_zero, List.push_toArray, List.append_toArray, List.nil_append, List.cons_append]
  have hbn := Blk.new (w.alloc (.cells #[.pointer none, .slice none 0 0] 33)) 9 #[.string S]
  simp only [World.size_alloc] at hbn
  have hi0 : NormI w w.heap.size [] (bldP w.heap.size _) _ := ⟨rfl, bld_keep hb0 ((Keep.refl NoB _).alloc (.cells #[.string S] 9)), hk0.alloc (.cells #[.string S] 9)⟩
  have hp0 : ∀ k, bldP w.heap.size ((w.alloc (.cells #[.pointer none, .slice none 0 0] 33)).alloc (.cells #[.string S] 9)) k → k < ((w.alloc (.cells #[.pointer none, .slice none 0 0] 33)).alloc (.cells #[.string S] 9)).heap.size := by
    rintro k (rfl | ⟨_, c, fz, h⟩)
    · simp; omega
    · exact (Array.getElem?_eq_some_iff.1 h).1
  have hpb : ¬ bldP w.heap.size ((w.alloc (.cells #[.pointer none, .slice none 0 0] 33)).alloc (.cells #[.string S] 9)) (w.heap.size + 1) := by
    rintro (h | ⟨_, c, fz, h⟩)
    · omega
    · rw [show _ = _ from hbn] at h; cases h
  clear hb0 hk0
  gi_wp2_with (refine ⟨trivial, ?_⟩; gi_at_call 14; refine (callsIn_wide.2 (HLi.out _)).mono ?_; rintro e w1 ⟨rfl, rfl⟩)
  clear HLi
  generalize hW0 : (w.alloc (.cells #[.pointer none, .slice none 0 0] 33)).alloc (.cells #[.string S] 9) = W0 at *
  have hz0 : W0.heap.size = w.heap.size + 2 := by rw [← hW0]; simp
  clear hW0
  refine wpIn_rangeFunc_mine (m := 2) (gf := 23) (lb := #[.pointer (some ⟨w.heap.size + 1, 0, none⟩)]) rfl (enters_of Try.func23 rfl rfl)
    (lines_stops 2 3 (w.heap.size + 1) (by decide) rfl S s hs hl) (fun _ => rfl) (NormI w w.heap.size) (fun _ _ _ _ => False) (normI_out w w.heap.size _ (by omega)) (fun c => by rintro _ _ _ _ h _; exact h) hi0 hp0 hbn hpb
    (fun pre x p a' W => NormI w w.heap.size pre p W ∧ a' = { tmps := #[.string S, undef, .string ⟨#[]⟩, .pointer (some ⟨w.heap.size, 0, none⟩), undef, .string (str x.2), undef, .string S, .func (.func 23) #[] #[.pointer (some ⟨w.heap.size + 1, 0, none⟩)], .int .i64 (x.1 : Int), .string (str x.2), undef, undef, undef, undef, undef, undef, undef, undef, undef, undef], defers := [] }) ?hax ?assign ?body ?done ?stop
  case hax =>
    rintro pre x a' s p X Y ⟨g1, g2⟩ hst
    exact ⟨normI_out w w.heap.size _ (by omega) _ _ _ _ g1 hst, g2⟩
  case assign =>
    rintro l pre x p W hi hen
    gi_wp2
    exact ⟨p, Rnd.refl _ _, hi, trivial⟩
  case body =>
    rintro l pre ⟨n, x⟩ p a' W ⟨_, post, hpost⟩ ⟨⟨rfl, g2, g3⟩, rfl⟩
    have hxl := line_len hpost
    have hnp := normT_pre hpost
    have hsn := normT_snoc pre (n, x)
    dsimp only at hxl hsn ⊢
    have hjl := join_le x
    have hwl : (wordsL x).length ≤ 150000 := by
      have h1 := npLen (wordsL x)
      omega
    have HW := Lib.hid (words_any (str x) x W (Lib.hid (by simp)) (by rw [size_of (S := str x) (s := x) (by simp)]; omega))
    generalize str x = X at HW ⊢
    obtain ⟨ws, hws⟩ : ∃ ws, wordsL x = ws := ⟨_, rfl⟩
    rw [hws] at HW hjl hwl hsn
    obtain ⟨N, hN⟩ : ∃ N, ws.length = N := ⟨_, rfl⟩
    have hwb := bld_lt g2
    by_cases h0 : N = 0
    · have he : ws = [] := List.length_eq_zero_iff.1 (by omega)
      rw [if_pos he, List.append_nil] at hsn
      unfold WordsR at HW
      rw [hN] at HW
      clear hws hN
      gi_wp2_with (refine ⟨trivial, ?_⟩; gi_at_call 5; refine (CallsIn.inRound l (callsIn_wide.2 HW.out)).mono ?_; rintro e w5 ⟨A, c, rfl, ho, k5⟩)
      exact ⟨_, bldP_keep k5, rfl, by rw [hsn]; exact bld_keep g2 k5, keepN g3 k5⟩
    · have he : ws ≠ [] := fun e => h0 (by rw [← hN, e]; rfl)
      rw [if_neg he] at hsn
      unfold WordsR at HW
      rw [hN] at HW
      have HJ := Lib.hid (fun A c (W5 : World) (hr : Rd W5 A (sv ws)) (hc : N ≤ c) => joined_any A ws N c W5 hr (Lib.hid hN) hc (by omega) (by omega))
      have HS := Lib.hid (fun W6 (h : Bld w.heap.size (normT pre) W6) => write_any w.heap.size (normT pre) (joinW ws) (str (joinW ws)) W6 h rfl (by omega) (Nat.le_of_lt (bld_lt h)))
      have HR := Lib.hid (fun W7 (h : Bld w.heap.size (normT pre ++ joinW ws) W7) => rune_any w.heap.size (normT pre ++ joinW ws) W7 h (by rw [List.length_append]; omega) (Nat.le_of_lt (bld_lt h)))
      have hnn : (N : Int) ≠ 0 := by omega
      rw [← List.append_assoc] at hsn
      generalize str (joinW ws) = T at HJ HS
      generalize normT pre ++ joinW ws = t2 at HS HR hsn
      clear hws hN hjl
      gi_wp2_with (refine ⟨trivial, ?_⟩; gi_at_call 5; refine (CallsIn.inRound l (callsIn_wide.2 HW.out)).mono ?_; rintro e w5 ⟨A, c, rfl, ho, k5⟩)
      obtain ⟨A', c', e', hcc, _, hr5, _⟩ := ho.form
      injection e' with e1 e2 e3
      clear e2
      subst e1 e3
      gi_wp2_with (refine ⟨trivial, ?_⟩; gi_at_call 16; refine (CallsIn.inRound l (callsIn_wide.2 (HJ.out A c _ hr5 hcc))).mono ?_; rintro e w6 ⟨rfl, k6⟩)
      gi_wp2_with (refine ⟨trivial, ?_⟩; gi_at_call 15; refine (CallsIn.inRound l (callsIn_wide.2 (HS.out _ (bld_keep g2 (keepN k5 k6))))).mono ?_; rintro e w7 ⟨⟨u, v, rfl⟩, p1, p2, p3⟩)
      gi_wp2_with (refine ⟨trivial, ?_⟩; gi_at_call 17; refine (CallsIn.inRound l (callsIn_wide.2 (HR.out _ p1))).mono ?_; rintro e w8 ⟨⟨u2, v2, rfl⟩, q1, q2, q3⟩)
      exact ⟨_, ((bldP_keep (keepN k5 k6)).trans (bldP_rnd p2 p3)).trans (bldP_rnd q2 q3), rfl, by rw [hsn]; exact q1, npBelow (npBelow (keepN g3 (keepN k5 k6)) p2 (Nat.le_refl _)) q2 (Nat.le_refl _)⟩
  case done =>
    rintro D xs p W hD hpD rfl ⟨rfl, g2, g3⟩ hK
    rw [normT_all] at g2
    have hne : D ≠ w.heap.size := fun e => hpD (.inl e)
    gi_wp2_with (refine ⟨trivial, ?_⟩; gi_at_call 18; refine (callsIn_wide.2 (HSt.out _ g2)).mono ?_; rintro e w9 ⟨rfl, p1, p2, p3⟩)
    have hK9 := p3 D _ hK (by simpa using hne) (fun c fz e => by cases e)
    refine ⟨by simp, .inl ⟨_, _, rfl, run_takeDeferred hK9, ?_⟩⟩
    exact ⟨_, results_tmp rfl _ _ _, rfl, npPut (npBelow g3 p2 (Nat.le_refl _)) (by omega)⟩
  case stop =>
    rintro D c pre p W _ _ _ h _
    exact h.elim

end Go.Proofs.Ytifobiajjhknbaa.M

namespace Go.Proofs.Ytifobiajjhknbaa.M
open Go.RowKit W

theorem own_ty {O P : Nat → Prop} {W W' : World} {E sz n : Nat} {v : Value} {xs : List Value} (h : Own W E sz P v n xs) (hk : Keep O W W') (ht : ∀ j, O j → ∀ cs f, W.heap[j]? ≠ some (.cells cs E f)) : Own W' E sz P v n xs :=
  ⟨ownsRow_keep h.1 hk (fun g e ho => by
    rcases h.1.2 with ⟨rfl, _⟩ | ⟨g2, cap, cur, rfl, _, hh, _⟩
    · simp [Value.ownBlock] at e
    · obtain rfl : g2 = g := by simpa [Value.ownBlock] using e
      exact ht g2 ho _ _ hh), h.2⟩
/-- A row's block is of its type. -/
theorem row_notM {W : World} {sz k : Nat} {E F : TypeId} {P : Nat → Prop} {v : Value} {xs : List Value} (hrow : Own W E sz P v k xs) (h : F ≠ E) : ∀ j, v.ownBlock = some j → ∀ cs f, W.heap[j]? ≠ some (.cells cs F f) := fun j e cs f h3 => by
  rcases hrow.1.2 with ⟨rfl, _⟩ | ⟨g2, cap, cur, rfl, _, hh, _⟩
  · simp [Value.ownBlock] at e
  · obtain rfl : g2 = j := by simpa [Value.ownBlock] using e
    rw [hh] at h3
    cases h3
    exact h rfl
theorem row_moreM {w W W5 : World} {E sz k m : Nat} {v v' : Value} {xs ys : List Value} (hrow : Own W E sz (Fresh w) v k xs) (hk : Keep NoB w W) (hg : W.grownBy W5 v.ownBlock) (hrow5 : W5.ownsRow 0 E sz v' m ys) (hv5 : v'.ownBlock = v.ownBlock ∨ v'.ownBlock = some W.heap.size) :
    Own W5 E sz (Fresh w) v' m ys ∧ Keep NoB w W5 ∧ Keep (fun j => v.ownBlock = some j) W W5 := by
  have hk5 : Keep (fun j => v.ownBlock = some j) W W5 := (Keep.refl _ W).grown hg (fun j e _ => e)
  refine ⟨⟨hrow5, fun j e => ?_⟩, hk.trans hk5 (fun j e hl => ?_), hk5⟩
  · rcases hv5 with h | h
    · exact hrow.2 j (h ▸ e)
    · rw [h] at e; cases e; exact hk.size
  · have := hrow.2 j e
    unfold Fresh at this
    omega

/-- Lines as cells; a line whose words are owned. -/
abbrev LE := Value × Ln
def lvs (es : List LE) : List Value := es.flatMap fun e => [.int .i64 e.2.1, e.1]
theorem lvs_snoc (es : List LE) (e : LE) : lvs (es ++ [e]) = lvs es ++ [.int .i64 e.2.1, e.1] := by unfold lvs; rw [List.flatMap_append]; rfl
theorem lvs_at : ∀ (es : List LE) (i : Nat) (h : i < es.length), (lvs es)[i * 2]? = some (.int .i64 es[i].2.1) ∧ (lvs es)[i * 2 + 1]? = some es[i].1
  | e :: es, 0, _ => ⟨rfl, rfl⟩
  | e :: es, i + 1, h => by
    have := lvs_at es i (by simpa using h)
    rw [show (i + 1) * 2 = i * 2 + 1 + 1 by omega]
    exact this
def LnOk (w W : World) (e : LE) : Prop := ∃ A c, e.1 = .slice A e.2.2.length c ∧ Own W 9 1 (Fresh w) (.slice A e.2.2.length c) e.2.2.length (sv e.2.2)
theorem LnOk.keepN {w W W' : World} {e : LE} (h : LnOk w W e) (hk : Keep NoB W W') : LnOk w W' e := by
  obtain ⟨A, c, h1, h2⟩ := h
  exact ⟨A, c, h1, h2.keepN hk⟩
theorem LnOk.row {w W W' : World} {e : LE} {sz k : Nat} {E : TypeId} {v : Value} {xs : List Value} (h : LnOk w W e) (hrow : Own W E sz (Fresh w) v k xs) (hE : 9 ≠ E) (hk : Keep (fun j => v.ownBlock = some j) W W') : LnOk w W' e := by
  obtain ⟨A, c, h1, h2⟩ := h
  exact ⟨A, c, h1, own_ty h2 hk (row_notM hrow hE)⟩
theorem line_info : (Try.prog.info? 47).map (fun i => (i.zero, i.size, i.bytes)) = some (some (.agg #[.int .i64 0, .slice none 0 0]), 2, 32) := by kernel_rfl
def LinesR (s : Bs) (w : World) (e : Ending) (w' : World) : Prop :=
  ∃ A c es, e = .returned (.slice A es.length c) ∧ Own w' 47 2 (Fresh w) (.slice A es.length c) es.length (lvs es) ∧ (∀ x ∈ es, LnOk w w' x) ∧ es.map Prod.snd = linesL s ∧ Keep NoB w w'

/-- What has come: the lines so far, how many there were, and where this one begins. -/
def LineI (s : Bs) (out : List Ln) (n f k : Nat) : Prop :=
  (k ≤ s.length → linesL s = out ++ lgo (n + 1) ((s.drop f).take (k - f)) (s.drop k)) ∧ (s.length < k → linesL s = out)
theorem lineI_start (s : Bs) : LineI s [] 0 0 0 := ⟨fun _ => by simp [linesL], fun h => by omega⟩
theorem take_snoc {s : Bs} {f k : Nat} (hfk : f ≤ k) (hk : k < s.length) : (s.drop f).take (k + 1 - f) = (s.drop f).take (k - f) ++ [s[k]] := by
  have e2 : k + 1 - f = (k - f) + 1 := by omega
  rw [e2, List.take_succ_eq_append_getElem (by simp; omega)]
  congr 2
  rw [List.getElem_drop]
  congr 1
  omega
theorem lineI_byte {s : Bs} {out : List Ln} {n f k : Nat} (h : LineI s out n f k) (hfk : f ≤ k) (hk : k < s.length) (hc : s[k] ≠ 10) : LineI s out n f (k + 1) := by
  have e := h.1 (Nat.le_of_lt hk)
  rw [List.drop_eq_getElem_cons hk, lgo_byte hc, ← take_snoc hfk hk] at e
  exact ⟨fun _ => e, fun h => by omega⟩
theorem lineI_lf {s : Bs} {out : List Ln} {n f k : Nat} (h : LineI s out n f k) (hk : k < s.length) (hc : s[k] = 10) : LineI s (out ++ one (n + 1) ((s.drop f).take (k - f))) (n + 1) (k + 1) (k + 1) := by
  have e := h.1 (Nat.le_of_lt hk)
  rw [List.drop_eq_getElem_cons hk, hc, lgo_lf] at e
  refine ⟨fun _ => ?_, fun h => by omega⟩
  rw [e, Nat.sub_self, List.take_zero, List.append_assoc]
theorem lineI_end {s : Bs} {out : List Ln} {n f k : Nat} (h : LineI s out n f k) (hk : s.length = k) : LineI s (out ++ one (n + 1) ((s.drop f).take (k - f))) (n + 1) (k + 1) (k + 1) := by
  have e := h.1 (by omega)
  have hd : s.drop k = [] := List.drop_eq_nil_of_le (by omega)
  rw [hd, show lgo (n + 1) ((s.drop f).take (k - f)) [] = one (n + 1) ((s.drop f).take (k - f)) from rfl] at e
  exact ⟨fun h => by omega, fun _ => e⟩
theorem piece_toList {S : ByteArray} {s : Bs} (hs : S.data.toList = s) (f k : Nat) : (S.extract f k).data.toList = (s.drop f).take (k - f) := by rw [extract_of hs]
theorem piece_size {S : ByteArray} {s : Bs} (hs : S.data.toList = s) (f k : Nat) : (S.extract f k).size ≤ S.size := by
  rw [size_of (piece_toList hs f k), size_of hs, List.length_take, List.length_drop]
  omega

set_option maxRecDepth 100000 in
set_option maxHeartbeats 4000000 in
theorem rlines_any (S : ByteArray) (s : Bs) (w : World) (hs : Hid (S.data.toList = s)) (hl : S.size ≤ 200000) :
    Calls Try.prog 19 #[.string S] w (LinesR s w) := by
  have HSZ : Hid (S.size = s.length) := Lib.hid (size_of hs.out)
  have HP := Lib.hid (piece_toList hs.out)
  have HPS := Lib.hid (piece_size hs.out)
  obtain ⟨i0, hi, hz0, hz1, hz2⟩ := info_parts line_info
  go_enter Try.func19, Try.ntmps19
  go_wp2
  go_loopw [3, 4, 5, 6] (fun o f n i wr => ∃ (es : List LE) (p q k : Nat), p ≤ k ∧ q ≤ k ∧ k ≤ S.size + 1 ∧ f = .int .i64 (p : Int) ∧ n = .int .i64 (q : Int) ∧ i = .int .i64 (k : Int) ∧ Hid (LineI s (es.map Prod.snd) q p k) ∧ es.length ≤ k ∧ (∃ B d, o = .slice B es.length d ∧ Own wr 47 2 (Fresh w) (.slice B es.length d) es.length (lvs es)) ∧ (∀ x ∈ es, LnOk w wr x) ∧ Keep NoB w wr)
    (fun _ _ _ i _ => S.size + 1 - (intOf i).toNat)
  case atStart => exact ⟨[], 0, 0, 0, Nat.le_refl _, Nat.le_refl _, by omega, rfl, rfl, rfl, lineI_start s, Nat.le_refl _, ⟨_, _, rfl, Own.nil _ _ _ _⟩, (fun _ h => nomatch h), Keep.refl _ _⟩
  case round =>
    obtain ⟨es, p, q, k, hpk, hqk, hk, rfl, rfl, rfl, hW, hol, ⟨B, d, rfl, hO⟩, hall, hK⟩ := hrel
    by_cases hle : k ≤ S.size
    · have HC := Lib.hid (fun W => rwords_any (S.extract p k) _ W (Lib.hid (HP.out p k)) (Nat.le_trans (HPS.out p k) hl))
      by_cases hlt : k < S.size
      · have hks : k < s.length := by rw [← HSZ.out]; exact hlt
        have hbt := byte_at hs.out k hlt hks
        by_cases h10 : s[k] = 10
        · have hq : ((S[k].toNat : Int) != 10) = false := by rw [hbt, h10]; rfl
          have HW2 : Hid (LineI s (es.map Prod.snd ++ one (q + 1) ((s.drop p).take (k - p))) (q + 1) (k + 1) (k + 1)) := lineI_lf hW.out hks h10
          clear hbt h10 hks
          generalize hpc : (s.drop p).take (k - p) = pc at HW2 HC
          clear hW
          go_wp2_with fail
          refine (HC.out _).mono ?_
          rintro e w1 ⟨A, c, rfl, hOw, k1⟩
          have hO1 := hO.keepN k1
          have hK1 := hK.trans k1 (fun _ h _ => h.elim)
          have hall1 : ∀ x ∈ es, LnOk w w1 x := fun x hx => (hall x hx).keepN k1
          have hOw2 : Own w1 9 1 (Fresh w) (.slice A (wordsL pc).length c) (wordsL pc).length (sv (wordsL pc)) := hOw.mono (fun j hj _ => Nat.le_trans hK.size hj)
          clear HC hO hK hall hOw
          by_cases h0 : wordsL pc = []
          · rw [one_none h0, List.append_nil] at HW2
            rw [h0] at hOw2 ⊢
            clear h0
            go_wp2
            go_roundw
            case rel => exact ⟨es, k + 1, q + 1, k + 1, by omega, by omega, by omega, by go_num, by go_num, by go_num, HW2, by omega, ⟨B, d, rfl, hO1⟩, hall1, hK1⟩
            case measure => simp [intOf]; omega
          · rw [one_some h0] at HW2
            have hwn : 0 < (wordsL pc).length := by cases hq : wordsL pc with | nil => exact absurd hq h0 | cons _ _ => simp
            have HL := Lib.hid (lvs_snoc es (.slice A (wordsL pc).length c, (q + 1, wordsL pc)))
            have HM : Hid (es.map Prod.snd ++ [(q + 1, wordsL pc)] = (es ++ [((.slice A (wordsL pc).length c, (q + 1, wordsL pc)) : LE)]).map Prod.snd) := by show _ = _; simp
            have HN : Hid ((es ++ [((.slice A (wordsL pc).length c, (q + 1, wordsL pc)) : LE)]).length = es.length + 1) := by show _ = _; simp
            have hall2 : ∀ x ∈ es ++ [((.slice A (wordsL pc).length c, (q + 1, wordsL pc)) : LE)], LnOk w w1 x := fun x hx => by
              rcases List.mem_append.1 hx with hx | hx
              · exact hall1 x hx
              · rw [List.mem_singleton] at hx; subst hx; exact ⟨A, c, rfl, hOw2⟩
            rw [HM.out] at HW2
            dsimp only at HL
            generalize es ++ [((.slice A (wordsL pc).length c, (q + 1, wordsL pc)) : LE)] = es2 at HW2 HL HN hall2
            generalize wordsL pc = wl at hwn HL hOw2
            clear h0 HM hall1
            go_wp2_with (at_builtin; refine wpList_append_rd _ rfl (.tmp 34) (.tmp 38) _ rfl 47 2 32 i0 _ Try.underlying44 hi hz0 hz1 hz2 rfl (by decide) _ es.length _ _ 1 _ [.int .i64 ((q : Int) + 1), .slice A wl.length c] rfl (hO1.1.alloc _) rfl (rd_made rfl rfl) rfl (by simp [Value.oneCell']) (by unfold maxLen; omega) (by omega) ?_; intro B2 d2 w3 hrow3 hg3 hv3; have h3 := row_moreM (hO1.keepN ((Keep.refl NoB _).alloc _)) (hK1.alloc _) hg3 hrow3 hv3; clear hrow3 hg3 hv3; obtain ⟨hO3, hK3, hT3⟩ := h3)
            go_roundw
            case rel => exact ⟨es2, k + 1, q + 1, k + 1, by omega, by omega, by omega, by go_num, by go_num, by go_num, HW2, by rw [HN.out]; omega, ⟨B2, d2, by rw [HN.out], by rw [HN.out, HL.out]; simpa using hO3⟩, fun x hx => ((hall2 x hx).keepN ((Keep.refl NoB _).alloc _)).row (hO1.keepN ((Keep.refl NoB _).alloc _)) (by decide) hT3, hK3⟩
            case measure => simp [intOf]; omega
        · have hq : ((S[k].toNat : Int) != 10) = true := by
            rw [hbt, bne_iff_ne]
            intro e
            exact h10 (UInt8.toNat_inj.1 (by have : ((s[k].toNat : Nat) : Int) = ((10 : UInt8).toNat : Int) := e; omega))
          have HW2 : Hid (LineI s (es.map Prod.snd) q p (k + 1)) := lineI_byte hW.out hpk hks h10
          clear hW hbt h10 hks HC
          go_wp2
          go_roundw
          case rel => exact ⟨es, p, q, k + 1, by omega, by omega, by omega, rfl, rfl, by go_num, HW2, by omega, ⟨B, d, rfl, hO⟩, hall, hK⟩
          case measure => simp [intOf]; omega
      · have hks : k = S.size := by omega
        have HW2 : Hid (LineI s (es.map Prod.snd ++ one (q + 1) ((s.drop p).take (k - p))) (q + 1) (k + 1) (k + 1)) := lineI_end hW.out (by rw [← HSZ.out, hks])
        clear hks
        generalize hpc : (s.drop p).take (k - p) = pc at HW2 HC
        clear hW
        go_wp2_with fail
        refine (HC.out _).mono ?_
        rintro e w1 ⟨A, c, rfl, hOw, k1⟩
        have hO1 := hO.keepN k1
        have hK1 := hK.trans k1 (fun _ h _ => h.elim)
        have hall1 : ∀ x ∈ es, LnOk w w1 x := fun x hx => (hall x hx).keepN k1
        have hOw2 : Own w1 9 1 (Fresh w) (.slice A (wordsL pc).length c) (wordsL pc).length (sv (wordsL pc)) := hOw.mono (fun j hj _ => Nat.le_trans hK.size hj)
        clear HC hO hK hall hOw
        by_cases h0 : wordsL pc = []
        · rw [one_none h0, List.append_nil] at HW2
          rw [h0] at hOw2 ⊢
          clear h0
          go_wp2
          go_roundw
          case rel => exact ⟨es, k + 1, q + 1, k + 1, by omega, by omega, by omega, by go_num, by go_num, by go_num, HW2, by omega, ⟨B, d, rfl, hO1⟩, hall1, hK1⟩
          case measure => simp [intOf]; omega
        · rw [one_some h0] at HW2
          have hwn : 0 < (wordsL pc).length := by cases hq : wordsL pc with | nil => exact absurd hq h0 | cons _ _ => simp
          have HL := Lib.hid (lvs_snoc es (.slice A (wordsL pc).length c, (q + 1, wordsL pc)))
          have HM : Hid (es.map Prod.snd ++ [(q + 1, wordsL pc)] = (es ++ [((.slice A (wordsL pc).length c, (q + 1, wordsL pc)) : LE)]).map Prod.snd) := by show _ = _; simp
          have HN : Hid ((es ++ [((.slice A (wordsL pc).length c, (q + 1, wordsL pc)) : LE)]).length = es.length + 1) := by show _ = _; simp
          have hall2 : ∀ x ∈ es ++ [((.slice A (wordsL pc).length c, (q + 1, wordsL pc)) : LE)], LnOk w w1 x := fun x hx => by
            rcases List.mem_append.1 hx with hx | hx
            · exact hall1 x hx
            · rw [List.mem_singleton] at hx; subst hx; exact ⟨A, c, rfl, hOw2⟩
          rw [HM.out] at HW2
          dsimp only at HL
          generalize es ++ [((.slice A (wordsL pc).length c, (q + 1, wordsL pc)) : LE)] = es2 at HW2 HL HN hall2
          generalize wordsL pc = wl at hwn HL hOw2
          clear h0 HM hall1
          go_wp2_with (at_builtin; refine wpList_append_rd _ rfl (.tmp 34) (.tmp 38) _ rfl 47 2 32 i0 _ Try.underlying44 hi hz0 hz1 hz2 rfl (by decide) _ es.length _ _ 1 _ [.int .i64 ((q : Int) + 1), .slice A wl.length c] rfl (hO1.1.alloc _) rfl (rd_made rfl rfl) rfl (by simp [Value.oneCell']) (by unfold maxLen; omega) (by omega) ?_; intro B2 d2 w3 hrow3 hg3 hv3; have h3 := row_moreM (hO1.keepN ((Keep.refl NoB _).alloc _)) (hK1.alloc _) hg3 hrow3 hv3; clear hrow3 hg3 hv3; obtain ⟨hO3, hK3, hT3⟩ := h3)
          go_roundw
          case rel => exact ⟨es2, k + 1, q + 1, k + 1, by omega, by omega, by omega, by go_num, by go_num, by go_num, HW2, by rw [HN.out]; omega, ⟨B2, d2, by rw [HN.out], by rw [HN.out, HL.out]; simpa using hO3⟩, fun x hx => ((hall2 x hx).keepN ((Keep.refl NoB _).alloc _)).row (hO1.keepN ((Keep.refl NoB _).alloc _)) (by decide) hT3, hK3⟩
          case measure => simp [intOf]; omega
    · have hfin : Hid (es.map Prod.snd = linesL s) := (hW.out.2 (by rw [← HSZ.out]; omega)).symm
      clear hW
      go_wp2
      go_ret
      exact ⟨_, _, es, rfl, hO, hall, hfin.out, hK⟩

end Go.Proofs.Ytifobiajjhknbaa.M

namespace Go.Proofs.Ytifobiajjhknbaa.M
open Go.RowKit W

theorem join_snoc : ∀ (l : List Bs) (v : Bs), l ≠ [] → joinW (l ++ [v]) = joinW l ++ 32 :: v
  | [], _, h => absurd rfl h
  | [w], v, _ => rfl
  | w :: x :: r, v, _ => by
    have := join_snoc (x :: r) v (by simp)
    rw [List.cons_append] at this
    rw [List.cons_append, List.cons_append, joinW, this, joinW, List.append_assoc]
    rfl
theorem join_take {l : List Bs} {k : Nat} (hk : k < l.length) (h0 : 0 < k) : joinW (l.take (k + 1)) = joinW (l.take k) ++ 32 :: l[k] := by
  rw [List.take_succ_eq_append_getElem hk, join_snoc]
  intro e
  have := congrArg List.length e
  rw [List.length_take, List.length_nil] at this
  omega
theorem join_first {l : List Bs} (h : 0 < l.length) : joinW (l.take 1) = l[0] := by
  cases l with
  | nil => simp at h
  | cons w l => rfl
theorem len_join (l : List Bs) : l.length ≤ (joinW l).length + 1 := by
  have h : ∀ l : List Bs, l.length ≤ wsum l := by
    intro l
    induction l with
    | nil => exact Nat.zero_le _
    | cons w l ih => unfold wsum at ih ⊢; rw [List.map_cons, List.sum_cons, List.length_cons]; omega
  rcases join_len l with e | e
  · have := h l
    unfold wsum at this
    omega
  · rw [e]; simp
theorem join_take_len (l : List Bs) (k : Nat) : (joinW (l.take k)).length ≤ (joinW l).length := by
  have hw : wsum (l.take k) ≤ wsum l := by
    have := wsum_append (l.take k) (l.drop k)
    rw [List.take_append_drop] at this
    omega
  rcases join_len (l.take k) with e | e
  · rcases join_len l with f | f
    · have e2 : (joinW (l.take k)).length + 1 = wsum (l.take k) := e
      have f2 : (joinW l).length + 1 = wsum l := f
      omega
    · rw [f]; simp
  · rw [e]; exact Nat.zero_le _

set_option maxRecDepth 100000 in
set_option maxHeartbeats 2000000 in
theorem rjoined_any (A : Option Addr) (l : List Bs) (n c : Nat) (w : World) (hr : Rd w A (sv l)) (hn : Hid (l.length = n)) (hm : n ≤ 400000) (hb : (joinW l).length ≤ 400000) :
    Calls Try.prog 20 #[.slice A n c] w fun e w' => e = .returned (.string (str (joinW l))) ∧ Keep NoB w w' := by
  have HR := Lib.hid hr
  clear hr
  go_enter Try.func20, Try.ntmps20
  go_wp2
  go_loopw [3, 4] (fun v i wr => ∃ k : Nat, k ≤ n ∧ i = .int .i64 (k : Int) ∧ v = .string (str (joinW (l.take k))) ∧ wr = w) (fun _ i _ => n - (intOf i).toNat)
  case atStart => exact ⟨0, Nat.zero_le _, rfl, rfl, rfl⟩
  case round =>
    obtain ⟨k, hk, rfl, rfl, rfl⟩ := hrel
    by_cases hlt : k < n
    · have hkl : k < l.length := by rw [hn.out]; exact hlt
      obtain ⟨g, off, rfl, hc⟩ := sv_at HR.out (by omega)
      have cb := hc k hkl
      by_cases h0 : k = 0
      · subst h0
        have HJ : Hid ((⟨#[]⟩ : ByteArray) ++ str l[0] = str (joinW (l.take (0 + 1)))) := by
          show _ = _
          rw [Nat.zero_add, join_first hkl]
          exact str_add [] _
        have hxs : (str l[0]).size ≤ 400000 := by
          have := join_take_len l 1
          rw [join_first hkl] at this
          rw [size_of (S := str l[0]) (s := l[0]) (by simp)]
          omega
        generalize hx : str l[0] = x at HJ cb hxs
        rw [Nat.add_zero] at cb
        have hz : (joinW ([] : List Bs)).length = 0 := rfl
        clear hc hx hkl
        go_wp2
        go_roundw
        case rel => exact ⟨0 + 1, by omega, by go_num, by rw [← HJ.out]; rfl, trivial⟩
        case measure => simp [intOf]; omega
      · have HJ : Hid (str (joinW (l.take k)) ++ (⟨#[32]⟩ : ByteArray) ++ str l[k] = str (joinW (l.take (k + 1)))) := by
          show _ = _
          rw [join_take hkl (by omega), show (⟨#[32]⟩ : ByteArray) = str [32] from rfl, str_add, str_add, List.append_assoc]
          rfl
        have hgt : (0 : Int) < (k : Int) := by omega
        have hxs : (joinW (l.take k)).length + 1 + (str l[k]).size ≤ 400000 := by
          have := join_take_len l (k + 1)
          rw [join_take hkl (by omega), List.length_append, List.length_cons] at this
          rw [size_of (S := str l[k]) (s := l[k]) (by simp)]
          omega
        generalize hx : str l[k] = x at HJ cb hxs
        clear hc hx hkl
        go_wp2
        go_roundw
        case rel => exact ⟨k + 1, by omega, by go_num, by rw [← HJ.out], trivial⟩
        case measure => simp [intOf]; omega
    · obtain rfl : k = n := by omega
      go_wp2
      go_ret
      refine ⟨?_, Keep.refl _ _⟩
      have : l.take k = l := List.take_of_length_le (by rw [hn.out]; exact Nat.le_refl _)
      rw [this]
      rfl

theorem flat_take {l : List (List Bs)} {k : Nat} (hk : k < l.length) : flat (l.take (k + 1)) = flat (l.take k) ++ (joinW l[k] ++ [10]) := by
  rw [List.take_succ_eq_append_getElem hk, flat_append]
  unfold flat
  simp
theorem flat_take_len (l : List (List Bs)) (k : Nat) : (flat (l.take k)).length ≤ (flat l).length := by
  have : flat l = flat (l.take k) ++ flat (l.drop k) := by rw [← flat_append, List.take_append_drop]
  rw [this, List.length_append]
  omega
theorem flat_ge : ∀ l : List (List Bs), l.length ≤ (flat l).length
  | [] => Nat.zero_le _
  | w :: l => by
    have := flat_ge l
    rw [flat_cons, List.length_append, List.length_cons, List.length_cons]
    omega
theorem lvs_cells {w : World} {A : Option Addr} {es : List LE} (h : Rd w A (lvs es)) (h0 : 0 < es.length) : ∃ g off, A = some ⟨g, off, none⟩ ∧ ∀ (i : Nat) (hi : i < es.length), w.cell? ⟨g, off + i * 2 + 1, none⟩ = some es[i].1 := by
  have hl : 0 < (lvs es).length := by
    cases es with
    | nil => simp at h0
    | cons e es => simp [lvs]
  obtain ⟨g, off, e, hc⟩ := h hl
  exact ⟨g, off, e, fun i hi => hc _ _ (lvs_at es i hi).2⟩

set_option maxRecDepth 100000 in
set_option maxHeartbeats 2000000 in
theorem rnormal_any (S : ByteArray) (s : Bs) (w : World) (hs : Hid (S.data.toList = s)) (hl : S.size ≤ 200000) :
    Calls Try.prog 8 #[.string S] w fun e w' => e = .returned (.string (str (normL s))) ∧ Keep NoB w w' := by
  have HL := Lib.hid (rlines_any S s w hs hl)
  have hnl := norm_len s
  have hsz := size_of hs.out
  have HF : Hid (∀ es : List LE, es.map Prod.snd = linesL s → normL s = flat (es.map fun e => e.2.2)) := fun es he => by
    unfold normL
    rw [← he, List.map_map]
    rfl
  have hsl : (normL s).length ≤ 200001 := by omega
  clear hs hnl hsz
  go_enter Try.func8, Try.ntmps8
  go_wp2_with fail
  refine HL.out.mono ?_
  rintro e w1 ⟨A, c, es, rfl, hO, hall, hes, k1⟩
  have hn := HF.out es hes
  rw [hn] at hsl
  have HE := Lib.hid hn
  obtain ⟨ws, hws⟩ : ∃ ws, (es.map fun e : LE => e.2.2) = ws := ⟨_, rfl⟩
  rw [hws] at HE hsl
  have hwl : ws.length = es.length := by rw [← hws]; simp
  have HW : Hid (∀ (k : Nat) (h : k < es.length) (h2 : k < ws.length), es[k].2.2 = ws[k]) := fun k h h2 => by subst hws; simp
  obtain ⟨A', c', e', hc1, hc2, hrd, ha0⟩ := hO.form
  injection e' with e1 e2 e3
  clear e2
  subst e1 e3
  have HR := Lib.hid hrd
  have HA0 := Lib.hid ha0
  have HA := Lib.hid hall
  obtain ⟨m, hm⟩ : ∃ m, es.length = m := ⟨_, rfl⟩
  rw [hm] at hwl ⊢
  have HM := Lib.hid hm
  have HWL := Lib.hid hwl
  have hmb : m ≤ 200001 := by have := flat_ge ws; omega
  clear hws hn hes HF HL hO hc1 hc2 hrd hall hm hwl ha0
  go_wp2
  go_loopw [3, 5] (fun v i wr => ∃ k : Nat, k ≤ m ∧ i = .int .i64 (k : Int) ∧ v = .string (str (flat (ws.take k))) ∧ Keep NoB w1 wr) (fun _ i _ => m - (intOf i).toNat)
  case atStart => exact ⟨0, Nat.zero_le _, rfl, rfl, Keep.refl _ _⟩
  case round =>
    obtain ⟨k, hk, rfl, rfl, hK⟩ := hrel
    by_cases hlt : k < m
    · have hke : k < es.length := by rw [HM.out]; exact hlt
      have hkw : k < ws.length := by rw [HWL.out]; exact hlt
      obtain ⟨g, off, rfl, hc⟩ := lvs_cells HR.out (by omega)
      have h00 := (HA0.out _ rfl).2
      injection h00 with _ h01 _
      subst h01
      have cb := hK.cell (hc k hke) id
      rw [Nat.zero_add] at cb
      obtain ⟨A2, c2, e2, hO2⟩ := HA.out es[k] (List.getElem_mem hke)
      obtain ⟨A3, c3, e3, q1, q2, hr3, q3⟩ := hO2.form
      clear q1 q2 q3
      injection e3 with e31 e32 e33
      clear e32
      subst e31 e33
      have hr4 := hr3.keepN hK
      rw [e2] at cb
      have ew := HW.out k hke hkw
      rw [ew] at cb hr4
      have hnx := flat_take hkw
      have hlen := flat_take_len ws (k + 1)
      have hjl : (joinW ws[k]).length ≤ 200001 := by
        rw [hnx, List.length_append, List.length_append] at hlen
        omega
      have hwn : ws[k].length ≤ 400000 := by
        have := len_join ws[k]
        omega
      have HJ := Lib.hid (fun (W : World) (h : Rd W A2 (sv ws[k])) => rjoined_any A2 ws[k] ws[k].length c2 W h (Lib.hid rfl) hwn (by omega))
      have HX : Hid (str (flat (ws.take k)) ++ str (joinW ws[k]) ++ (⟨#[10]⟩ : ByteArray) = str (flat (ws.take (k + 1)))) := by
        show _ = _
        rw [hnx, show (⟨#[10]⟩ : ByteArray) = str [10] from rfl, str_add, str_add, List.append_assoc]
      have hfl : (flat (ws.take k)).length + (joinW ws[k]).length + 1 ≤ 200001 := by
        rw [hnx, List.length_append, List.length_append, List.length_singleton] at hlen
        omega
      have HR4 := Lib.hid hr4
      clear hc hO2 hr3 hr4 ew hnx hlen hjl e2 hwn
      generalize ws[k] = wd at HJ HX hfl HR4 cb
      generalize hwdl : wd.length = wn at HJ cb
      generalize hjw : joinW wd = jw at HJ HX hfl
      clear hke hkw hwdl hjw
      go_wp2_with fail
      refine (HJ.out _ HR4.out).mono ?_
      rintro e w2 ⟨rfl, k2⟩
      go_wp2
      go_roundw
      case rel => exact ⟨k + 1, by omega, by go_num, by rw [← HX.out], hK.trans k2 (fun _ h _ => h.elim)⟩
      case measure => simp [intOf]; omega
    · obtain rfl : k = m := by omega
      go_wp2
      go_ret
      refine ⟨?_, k1.trans hK (fun _ h _ => h.elim)⟩
      have : ws.take k = ws := List.take_of_length_le (by rw [HWL.out]; exact Nat.le_refl _)
      rw [this, HE.out]
      rfl

end Go.Proofs.Ytifobiajjhknbaa.M

namespace Go.Proofs.Ytifobiajjhknbaa.M
open Go.RowKit W

set_option maxRecDepth 100000 in
set_option maxHeartbeats 2000000 in
theorem rtexts_any (A B : Option Addr) (la lb : List Bs) (n m c d : Nat) (w : World) (ha : Rd w A (sv la)) (hb : Rd w B (sv lb)) (hn : Hid (la.length = n)) (hm : Hid (lb.length = m))
    (h1 : n ≤ 9223372036854775807) (h2 : m ≤ 9223372036854775807) (R : Bool) (hR : Hid (R = decide (la = lb))) :
    Calls Try.prog 4 #[.slice A n c, .slice B m d] w fun e w' => e = .returned (.bool R) ∧ Keep NoB w w' := by
  by_cases hnm : n = m
  · subst hnm
    go_enter Try.func4, Try.ntmps4
    go_wp2
    go_loopw [5] (fun i wr => ∃ k : Nat, k ≤ n ∧ i = .int .i64 k ∧ Hid (la.take k = lb.take k) ∧ Keep NoB w wr) (fun i _ => n - (intOf i).toNat)
    case atStart => exact ⟨0, Nat.zero_le _, rfl, rfl, Keep.refl _ _⟩
    case round =>
      obtain ⟨k, hk, rfl, ht, hK⟩ := hrel
      by_cases hlt : k < n
      · have hka : k < la.length := by rw [hn.out]; exact hlt
        have hkb : k < lb.length := by rw [hm.out]; exact hlt
        obtain ⟨ga, oa, rfl, hca⟩ := sv_at ha (by omega)
        obtain ⟨gb, ob, rfl, hcb⟩ := sv_at hb (by omega)
        have ca := hK.cell (hca k hka) id
        have cb := hK.cell (hcb k hkb) id
        have HT := Lib.hid (show la.take (k + 1) = la.take k ++ [la[k]] from List.take_succ_eq_append_getElem hka)
        have HU := Lib.hid (show lb.take (k + 1) = lb.take k ++ [lb[k]] from List.take_succ_eq_append_getElem hkb)
        clear hca hcb
        by_cases he : la[k] = lb[k]
        · have HV : Hid (la.take (k + 1) = lb.take (k + 1)) := by show _ = _; rw [HT.out, HU.out, ht.out, he]
          rw [he] at ca
          clear he HT HU ha hb
          generalize str lb[k] = y at ca cb
          go_wp2
          go_quiet (fail)
          go_wp2
          go_roundw
          case rel => exact ⟨k + 1, by omega, by go_num, HV, hK.drewN _⟩
          case measure => simp [intOf]; omega
        · have hf : R = false := by
            rw [hR.out, decide_eq_false_iff_not]
            intro e
            exact he (by simp [e])
          subst hf
          have hne : ((str la[k]).toList == (str lb[k]).toList) = false := by rw [str_eq, decide_eq_false he]
          clear HT HU ha hb he
          generalize str la[k] = x at ca hne
          generalize str lb[k] = y at cb hne
          go_wp2
          go_quiet (fail)
          go_wp2
          go_ret
          exact ⟨rfl, hK.drewN _⟩
      · obtain rfl : k = n := by omega
        have hf : R = true := by
          rw [hR.out, decide_eq_true_iff]
          have := ht.out
          rwa [List.take_of_length_le (by rw [hn.out]; exact Nat.le_refl _), List.take_of_length_le (by rw [hm.out]; exact Nat.le_refl _)] at this
        subst hf
        go_wp2
        go_ret
        exact ⟨rfl, hK⟩
  · have hf : R = false := by
      rw [hR.out, decide_eq_false_iff_not]
      intro e
      exact hnm (by rw [← hn.out, ← hm.out, e])
    subst hf
    have hne : ((n : Int) != (m : Int)) = true := by rw [bne_iff_ne]; omega
    go_enter Try.func4, Try.ntmps4
    go_wp2
    go_ret
    exact ⟨rfl, Keep.refl _ _⟩

end Go.Proofs.Ytifobiajjhknbaa.M

namespace Go.Proofs.Ytifobiajjhknbaa.M
open Go.RowKit W

/-- What the program's Words answers, of texts that are not too long. -/
def WordsC : Prop := ∀ (S : ByteArray) (s : Bs) (W : World), Hid (S.data.toList = s) → S.size ≤ 140000 →
  Calls Try.prog 5 #[.string S] W fun e w' => ∃ A c, e = .returned (.slice A (wordsL s).length c) ∧ Rd w' A (sv (wordsL s)) ∧ Keep NoB W w'
/-- What the program's Normal answers. -/
def NormC : Prop := ∀ (S : ByteArray) (s : Bs) (W : World), Hid (S.data.toList = s) → S.size ≤ 140000 →
  Calls Try.prog 7 #[.string S] W fun e w' => e = .returned (.string (str (normL s))) ∧ Keep NoB W w'

set_option maxRecDepth 100000 in
set_option maxHeartbeats 2000000 in
theorem words_walk (HW : Hid WordsC) (HN : Hid NormC) (S : ByteArray) (w : World) :
    Calls Try.prog 3 #[.string S] w fun e w' => e = .returned (.bool true) ∧ Keep NoB w w' := by
  by_cases hl : S.size ≤ 8000
  · obtain ⟨s, hs⟩ : ∃ s, S.data.toList = s := ⟨_, rfl⟩
    have H1 := Lib.hid (fun W => HW.out S s W (Lib.hid hs) (by omega))
    have H2 := Lib.hid (fun W => rwords_any S s W (Lib.hid hs) (by omega))
    have H3 := Lib.hid (fun W => HN.out S s W (Lib.hid hs) (by omega))
    have H4 := Lib.hid (fun W => rnormal_any S s W (Lib.hid hs) (by omega))
    have hwl : (wordsL s).length ≤ 9000 := by
      have h1 := len_join (wordsL s)
      have h2 := join_le s
      have h3 := size_of hs
      omega
    generalize wordsL s = ws at H1 H2 hwl
    generalize normL s = ns at H3 H4
    clear hs HW HN
    go_enter Try.func3, Try.ntmps3
    go_wp2_with fail
    refine (H1.out _).mono ?_
    rintro e w1 ⟨A, c, rfl, hr1, k1⟩
    go_wp2_with fail
    refine (H2.out _).mono ?_
    rintro e w2 ⟨B, d, rfl, hO2, k2⟩
    obtain ⟨B', d', e', _, _, hr2, _⟩ := hO2.form
    injection e' with e1 e2 e3
    clear e2
    subst e1 e3
    have H5 := Lib.hid (rtexts_any A B ws ws ws.length ws.length c d w2 (hr1.keepN k2) hr2 (Lib.hid rfl) (Lib.hid rfl) (by omega) (by omega) true (Lib.hid (by simp)))
    clear H1 H2 hO2
    go_wp2_with fail
    refine H5.out.mono ?_
    rintro e w3 ⟨rfl, k3⟩
    go_wp2_with fail
    refine (H3.out _).mono ?_
    rintro e w4 ⟨rfl, k4⟩
    go_wp2_with fail
    refine (H4.out _).mono ?_
    rintro e w5 ⟨rfl, k5⟩
    go_wp2
    go_ret
    have hh : ∀ k : Nat, k < w.heap.size → ¬ False := fun _ _ => id
    exact ⟨rfl, (((k1.trans k2 (fun _ h _ => h.elim)).trans k3 (fun _ h _ => h.elim)).trans k4 (fun _ h _ => h.elim)).trans k5 (fun _ h _ => h.elim)⟩
  · go_enter Try.func3, Try.ntmps3
    go_wp2
    go_ret
    exact ⟨rfl, Keep.refl _ _⟩

end Go.Proofs.Ytifobiajjhknbaa.M
