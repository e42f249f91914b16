/-
  Part 10 of the proofs of LBackRow, LLabelsRow: what is laid, and what the functions that the law runs answer. Conditions: each theorem names its own.
-/
import Derived.Laws.CopyOwn
import Derived.ProofKit
import Derived.SizedLaws
import Derived.Test.YtgnooffedmeenaaGreatDoorQB9
namespace Go.Proofs.YtgnooffedmeenaaGreatDoor.M
open Go.RowKit Go.Shelf W
attribute [local go_sem] Oper.semAt_some

theorem npLen : ∀ l : List Bs, l.length ≤ (joinW l).length + 1
 | [] => Nat.zero_le _
 | [w] => by simp
 | w :: v :: ws => by
  have h := npLen (v :: ws)
  rw [joinW, List.length_append]
  simp only [List.length_cons] at h ⊢
  omega
theorem join_blank : ∀ ws : List Bs, Lib.join ws [32] = joinW ws
 | [] => rfl
 | [w] => Lib.join_one w [32]
 | w :: v :: ws => by
  have ih := join_blank (v :: ws)
  rw [Lib.join_cons] at ih
  rw [Lib.join_cons, joinW, ← ih]
  simp [Lib.joinTail]
theorem joined_any (A : Option Addr) (ws : List Bs) (n c : Nat) (w : World) (hr : Rd w A (sv ws)) (hn : Hid (ws.length = n)) (hc : n ≤ c) (hN : n ≤ 200000) (hl : (joinW ws).length ≤ 200000) :
  Calls Tryz.prog 67 #[.slice A n c] w fun e w' => e = .returned (.string (str (joinW ws))) ∧ Keep NoB w w' := by
 have H : Hid (Calls Tryz.prog 139 #[.slice A n c, .string ⟨#[32]⟩] w fun e w' => e = .returned (.string (str (joinW ws))) ∧ Keep NoB w w') := by
  have hn := hn.out
  subst hn
  by_cases h0 : ws = []
  ·subst h0
   refine (Tryz.strings_Join_none A c ⟨#[32]⟩ w).mono ?_
   rintro e w' ⟨rfl, rfl⟩
   exact ⟨rfl, Keep.refl _ _⟩
  ·have hpos : 0 < ws.length := by cases ws with | nil => exact absurd rfl h0 | cons _ _ => simp
   obtain ⟨g, off, rfl, hcs⟩ := sv_at hr hpos
   have e1 : (ws.map str).map (·.data.toList) = ws := by rw [List.map_map]; simp [Function.comp_def]
   have hg : g < w.heap.size := by
    have := hcs 0 hpos
    unfold World.cell? at this
    cases hh : w.heap[g]? with
    | none => simp [hh] at this
    | some o => exact (Array.getElem?_eq_some_iff.1 hh).1
   have hJ := Tryz.strings_Join g off c (ws.map str) ⟨#[32]⟩ w (fun j x hx => by
    rw [List.getElem?_map] at hx
    rcases Nat.lt_or_ge j ws.length with hj | hj
    ·rw [List.getElem?_eq_getElem hj] at hx
     injection hx with hx
     rw [← hx]
     exact hcs j hj
    ·rw [List.getElem?_eq_none hj] at hx; cases hx) hg (by simp; omega) (by simpa using hc) (by rw [e1, show (⟨#[32]⟩ : ByteArray).data.toList = [32] from rfl, join_blank]; omega)
   rw [e1, List.length_map, show (⟨#[32]⟩ : ByteArray).data.toList = [32] from rfl, join_blank] at hJ
   exact hJ.mono (by rintro e w' ⟨rfl, hb⟩; exact ⟨rfl, Keep.of_below hb⟩)
 clear hr hn
 go_enter Tryz.func67, Tryz.ntmps67
 go_wp2_with fail
 refine H.out.mono ?_
 rintro e w1 ⟨rfl, k1⟩
 go_wp2
 go_ret
 exact ⟨rfl, k1⟩
theorem rune_any (b : Nat) (s : Bs) (w : World) (h : Bld b s w) (hl : s.length ≤ 140737488355000) (hb : b ≤ w.heap.size) :
  Calls Tryz.prog 68 #[.pointer (some ⟨b, 0, none⟩), .int .i32 10] w fun e w' => (∃ u v, e = .returned (.tuple #[u, v])) ∧ Bld b (s ++ [10]) w' ∧ Below b w w' ∧ Lib.OthersKept 5 (some b) w w' := by
 refine (Tryz.Builder_WriteRune_k b b (Lib.byteCells s) 10 (by decide) (by decide) w h (by rw [Lib.byteCells_length]; omega) hb).mono ?_
 rintro e w' ⟨rfl, h1, h2, h3⟩
 have e1 : Lib.runeCells 10 = Lib.byteCells [10] := by kernel_rfl
 rw [e1, ← Lib.byteCells_append] at h1
 exact ⟨⟨_, _, rfl⟩, .inr h1, h2, h3⟩

theorem npBelow {w W W' : World} {b : Nat} (hk : Keep NoB w W) (hb : Below b W W') (h : w.heap.size ≤ b) : Keep NoB w W' :=
 hk.trans (O' := fun k => b ≤ k) ⟨hb.os, hb.tape, hb.output, hb.size, fun k hk hn => hb.block k (by omega)⟩ (fun k hk hl => by omega)
theorem npPut {w W : World} {D : Nat} {o : Obj} (h : Keep NoB w W) (hD : w.heap.size ≤ D) : Keep NoB w (W.putObj D o) := h.grown (grownBy_putObj' W D o) (fun g e hl => by cases e; omega)
def bldP (b : Nat) (W : World) : BSet := fun k => k = b ∨ (b ≤ k ∧ ∃ c fz, W.heap[k]? = some (.cells c 5 fz))
theorem bldP_step {B b : Nat} {W W' : World} (h : IStep B (bldP b W) W W') : bldP b W' = bldP b W := by
 funext k
 apply propext
 unfold bldP
 constructor
 ·rintro (rfl | ⟨h1, c, fz, h2⟩)
  ·exact .inl rfl
  ·exact .inr ⟨h1, c, fz, h.cells k _ h2 rfl⟩
 ·rintro (rfl | ⟨h1, c, fz, h2⟩)
  ·exact .inl rfl
  ·exact .inr ⟨h1, c, fz, (h.keep.block k (Array.getElem?_eq_some_iff.1 h2).1 (fun h3 => h3.2 (.inr ⟨h1, c, fz, h2⟩))).trans h2⟩
theorem bldP_rnd {b : Nat} {W W' : World} (h1 : Below b W W') (h2 : Lib.OthersKept 5 (some b) W W') : Rnd (bldP b W) (bldP b W') W W' := by
 have key : ∀ k, k < W.heap.size → ¬ bldP b W k → W'.heap[k]? = W.heap[k]? := by
  intro k hk hn
  by_cases hb : k < b
  ·exact h1.block k hb
  ·have hne : k ≠ b := fun e => hn (.inl e)
   obtain ⟨o, ho⟩ : ∃ o, W.heap[k]? = some o := ⟨_, Array.getElem?_eq_getElem hk⟩
   rw [ho]
   exact h2 k o ho (by simpa using hne) (fun c fz e => hn (.inr ⟨by omega, c, fz, by rw [ho, e]⟩))
 refine ⟨fun k hk hp => ?_, ⟨h1.os, h1.tape, h1.output, h1.size, key⟩⟩
 apply Classical.byContradiction
 intro hn
 rcases hp with rfl | ⟨h3, c, fz, h4⟩
 ·exact hn (.inl rfl)
 ·rw [key k hk hn] at h4
  exact hn (.inr ⟨h3, c, fz, h4⟩)
theorem bldP_keep {b : Nat} {W W' : World} (h : Keep NoB W W') : Rnd (bldP b W) (bldP b W') W W' := by
 refine ⟨fun k hk hp => ?_, h.noB⟩
 rcases hp with rfl | ⟨h3, c, fz, h4⟩
 ·exact .inl rfl
 ·rw [h.block k hk id] at h4
  exact .inr ⟨h3, c, fz, h4⟩
theorem bld_istep {B b : Nat} {s : Bs} {W W' : World} (h : Bld b s W) (hs : IStep B (bldP b W) W W') : Bld b s W' := by
 have key : ∀ {p : Value}, Lib.BuilderAtF 122 5 b b p (Lib.byteCells s) W → Lib.BuilderAtF 122 5 b b p (Lib.byteCells s) W' := by
  rintro p ⟨h1, v, h2, ⟨h3, h4⟩, h5⟩
  have hb := hs.keep.block b (Array.getElem?_eq_some_iff.1 h2).1 (fun h => h.2 (.inl rfl))
  refine ⟨h1, v, hb.trans h2, ⟨h3, ?_⟩, h5⟩
  rcases h4 with h4 | ⟨g, cap, cur, fz, e1, e2, e3, e4⟩
  ·exact .inl h4
  ·exact .inr ⟨g, cap, cur, fz, e1, e2, (hs.keep.block g (Array.getElem?_eq_some_iff.1 e3).1 (fun h => h.2 (.inr ⟨e2, _, _, e3⟩))).trans e3, e4⟩
 exact h.elim (fun h => .inl (key h)) (fun h => .inr (key h))

def normT (pre : List (Nat × Bs)) : Bs := pre.flatMap fun x => if wordsL x.2 = [] then [] else joinW (wordsL x.2) ++ [10]
theorem normT_snoc (pre : List (Nat × Bs)) (x : Nat × Bs) : normT (pre ++ [x]) = normT pre ++ (if wordsL x.2 = [] then [] else joinW (wordsL x.2) ++ [10]) := by unfold normT; simp
theorem normT_ones : ∀ (n : Nat) (l : List Bs), normT (numS n l) = flat ((ones n l).map Prod.snd)
 | _, [] => rfl
 | n, s :: r => by
  have ih := normT_ones (n + 1) r
  rw [numS, ones, List.map_append, flat_append, ← ih]
  unfold normT
  rw [List.flatMap_cons]
  congr 1
  by_cases h : wordsL s = []
  ·rw [one_none h, if_pos h]; rfl
  ·rw [one_some h, if_neg h]; unfold flat; simp
theorem normT_all (s : Bs) : normT (numS 1 (segs s)) = normL s := by rw [normT_ones]; unfold normL; rw [lines_segs]
theorem normT_pre {s : Bs} {pre post : List (Nat × Bs)} (h : numS 1 (segs s) = pre ++ post) : (normT pre).length ≤ s.length + 1 := by
 have h1 := normT_all s
 rw [h] at h1
 have h2 := congrArg List.length h1
 unfold normT at h2 ⊢
 rw [List.flatMap_append, List.length_append] at h2
 have := norm_len s
 omega
theorem line_len {s : Bs} {pre post : List (Nat × Bs)} {x : Nat × Bs} (h : numS 1 (segs s) = pre ++ x :: post) : x.2.length ≤ s.length := by
 have key : ∀ (s cur : Bs), ∀ y ∈ sgo cur s, y.length ≤ cur.length + s.length := by
  intro s
  induction s with
  | nil => intro cur y hy; rw [sgo] at hy; unfold fl at hy; split at hy; cases hy; rw [List.mem_singleton] at hy; subst hy; simp
  | cons c r ih =>
   intro cur y hy
   by_cases hc : c = 10
   ·subst hc
    rw [sgo, if_pos rfl, List.mem_cons] at hy
    rcases hy with rfl | hy
    ·simp
    ·have := ih [] y hy; simp at this ⊢; omega
   ·rw [sgo, if_neg hc] at hy
    have := ih (cur ++ [c]) y hy
    simp at this ⊢; omega
 have hx : x ∈ numS 1 (segs s) := by rw [h]; simp
 have hm : ∀ (n : Nat) (l : List Bs), ∀ y ∈ numS n l, y.2 ∈ l := by
  intro n l
  induction l generalizing n with
  | nil => intro y hy; cases hy
  | cons a r ih =>
   intro y hy
   rw [numS, List.mem_cons] at hy
   rcases hy with rfl | hy
   ·simp
   ·exact List.mem_cons_of_mem _ (ih _ y hy)
 have := key s [] x.2 (hm 1 _ x hx)
 simpa using this
def NormI (w : World) (b : Nat) (pre : List (Nat × Bs)) (p : BSet) (W : World) : Prop := p = bldP b W ∧ Bld b (normT pre) W ∧ Keep NoB w W
theorem normI_out (w : World) (b B : Nat) (h : w.heap.size ≤ B) : KeepsOut B (NormI w b) := by
 rintro pre p W W' ⟨rfl, h1, h2⟩ hs
 exact ⟨(bldP_step hs).symm, bld_istep h1 hs, h2.trans hs.keep (fun k h3 hk => by omega)⟩
theorem bld_lt {b : Nat} {s : Bs} {W : World} (h : Bld b s W) : b < W.heap.size := by
 rcases h with ⟨_, v, h2, _⟩ | ⟨_, v, h2, _⟩ <;> exact (Array.getElem?_eq_some_iff.1 h2).1

set_option maxRecDepth 100000 in
set_option maxHeartbeats 4000000 in
theorem normal_any (S : ByteArray) (s : Bs) (w : World) (hs : Hid (S.data.toList = s)) (hl : S.size ≤ 140000) :
  Calls Tryz.prog 33 #[.string S] w fun e w' => e = .returned (.string (str (normL s))) ∧ Keep NoB w w' := by
 have hb0 := bld_new w
 have hk0 := (Keep.refl NoB w).alloc (.cells #[.pointer none, .slice none 0 0] 122)
 have HLi := Lib.hid (fun W => lines_any S W)
 have HSt := Lib.hid (fun W (h : Bld w.heap.size (normL s) W) => string_any w.heap.size (normL s) W h (Nat.le_of_lt (bld_lt h)))
 have hsz := size_of hs.out
 refine (callsIn_wide (n := 4)).1 ?_
 refine callsIn_of_wp_marks Tryz.func33 rfl trivial ?_ rfl
 simp only [Tryz.ntmps33, List.size_toArray, List.length_cons, List.length_nil, Nat.reduceAdd, Nat.reduceSub, Array.replicate_succ, Array.replicate_zero, List.push_toArray, List.append_toArray, List.nil_append, List.cons_append]
 have hbn := Blk.new (w.alloc (.cells #[.pointer none, .slice none 0 0] 122)) 9 #[.string S]
 simp only [World.size_alloc] at hbn
 have hi0 : NormI w w.heap.size [] (bldP w.heap.size _) _ := ⟨rfl, bld_keep hb0 ((Keep.refl NoB _).alloc (.cells #[.string S] 9)), hk0.alloc (.cells #[.string S] 9)⟩
 have hp0 : ∀ k, bldP w.heap.size ((w.alloc (.cells #[.pointer none, .slice none 0 0] 122)).alloc (.cells #[.string S] 9)) k → k < ((w.alloc (.cells #[.pointer none, .slice none 0 0] 122)).alloc (.cells #[.string S] 9)).heap.size := by
  rintro k (rfl | ⟨_, c, fz, h⟩)
  ·simp; omega
  ·exact (Array.getElem?_eq_some_iff.1 h).1
 have hpb : ¬ bldP w.heap.size ((w.alloc (.cells #[.pointer none, .slice none 0 0] 122)).alloc (.cells #[.string S] 9)) (w.heap.size + 1) := by
  rintro (h | ⟨_, c, fz, h⟩)
  ·omega
  ·rw [show _ = _ from hbn] at h; cases h
 clear hb0 hk0
 gi_wp2_with (refine ⟨trivial, ?_⟩; gi_at_call 64; refine (callsIn_wide.2 (HLi.out _)).mono ?_; rintro e w1 ⟨rfl, rfl⟩)
 clear HLi
 generalize hW0 : (w.alloc (.cells #[.pointer none, .slice none 0 0] 122)).alloc (.cells #[.string S] 9) = W0 at *
 have hz0 : W0.heap.size = w.heap.size + 2 := by rw [← hW0]; simp
 clear hW0
 refine wpIn_rangeFunc_mine (m := 2) (gf := 132) (lb := #[.pointer (some ⟨w.heap.size + 1, 0, none⟩)]) rfl (enters_of Tryz.func132 rfl rfl)
  (lines_stops 2 3 (w.heap.size + 1) (by decide) rfl S s hs hl) (fun _ => rfl) (NormI w w.heap.size) (fun _ _ _ _ => False) (normI_out w w.heap.size _ (by omega)) (fun c => by rintro _ _ _ _ h _; exact h) hi0 hp0 hbn hpb
  (fun pre x p a' W => NormI w w.heap.size pre p W ∧ a' = { tmps := #[.string S, undef, .string ⟨#[]⟩, .pointer (some ⟨w.heap.size, 0, none⟩), undef, .string (str x.2), undef, .string S, .func (.func 132) #[] #[.pointer (some ⟨w.heap.size + 1, 0, none⟩)], .int .i64 (x.1 : Int), .string (str x.2), undef, undef, undef, undef, undef, undef, undef, undef, undef, undef], defers := [] }) ?hax ?assign ?body ?done ?stop
 case hax =>
  rintro pre x a' s p X Y ⟨g1, g2⟩ hst
  exact ⟨normI_out w w.heap.size _ (by omega) _ _ _ _ g1 hst, g2⟩
 case assign =>
  rintro l pre x p W hi hen
  gi_wp2
  exact ⟨p, Rnd.refl _ _, hi, trivial⟩
 case body =>
  rintro l pre ⟨n, x⟩ p a' W ⟨_, post, hpost⟩ ⟨⟨rfl, g2, g3⟩, rfl⟩
  have hxl := line_len hpost
  have hnp := normT_pre hpost
  have hsn := normT_snoc pre (n, x)
  dsimp only at hxl hsn ⊢
  have hjl := join_le x
  have hwl : (wordsL x).length ≤ 150000 := by
   have h1 := npLen (wordsL x)
   omega
  have HW := Lib.hid (words_any (str x) x W (Lib.hid (by simp)) (by rw [size_of (S := str x) (s := x) (by simp)]; omega))
  generalize str x = X at HW ⊢
  obtain ⟨ws, hws⟩ : ∃ ws, wordsL x = ws := ⟨_, rfl⟩
  rw [hws] at HW hjl hwl hsn
  obtain ⟨N, hN⟩ : ∃ N, ws.length = N := ⟨_, rfl⟩
  have hwb := bld_lt g2
  by_cases h0 : N = 0
  ·have he : ws = [] := List.length_eq_zero_iff.1 (by omega)
   rw [if_pos he, List.append_nil] at hsn
   unfold WordsR at HW
   rw [hN] at HW
   clear hws hN
   gi_wp2_with (refine ⟨trivial, ?_⟩; gi_at_call 65; refine (CallsIn.inRound l (callsIn_wide.2 HW.out)).mono ?_; rintro e w5 ⟨A, c, rfl, ho, k5⟩)
   exact ⟨_, bldP_keep k5, rfl, by rw [hsn]; exact bld_keep g2 k5, keepN g3 k5⟩
  ·have he : ws ≠ [] := fun e => h0 (by rw [← hN, e]; rfl)
   rw [if_neg he] at hsn
   unfold WordsR at HW
   rw [hN] at HW
   have HJ := Lib.hid (fun A c (W5 : World) (hr : Rd W5 A (sv ws)) (hc : N ≤ c) => joined_any A ws N c W5 hr (Lib.hid hN) hc (by omega) (by omega))
   have HS := Lib.hid (fun W6 (h : Bld w.heap.size (normT pre) W6) => write_any w.heap.size (normT pre) (joinW ws) (str (joinW ws)) W6 h rfl (by omega) (Nat.le_of_lt (bld_lt h)))
   have HR := Lib.hid (fun W7 (h : Bld w.heap.size (normT pre ++ joinW ws) W7) => rune_any w.heap.size (normT pre ++ joinW ws) W7 h (by rw [List.length_append]; omega) (Nat.le_of_lt (bld_lt h)))
   have hnn : (N : Int) ≠ 0 := by omega
   rw [← List.append_assoc] at hsn
   generalize str (joinW ws) = T at HJ HS
   generalize normT pre ++ joinW ws = t2 at HS HR hsn
   clear hws hN hjl
   gi_wp2_with (refine ⟨trivial, ?_⟩; gi_at_call 65; refine (CallsIn.inRound l (callsIn_wide.2 HW.out)).mono ?_; rintro e w5 ⟨A, c, rfl, ho, k5⟩)
   obtain ⟨A', c', e', hcc, _, hr5, _⟩ := ho.form
   injection e' with e1 e2 e3
   clear e2
   subst e1 e3
   gi_wp2_with (refine ⟨trivial, ?_⟩; gi_at_call 67; refine (CallsIn.inRound l (callsIn_wide.2 (HJ.out A c _ hr5 hcc))).mono ?_; rintro e w6 ⟨rfl, k6⟩)
   gi_wp2_with (refine ⟨trivial, ?_⟩; gi_at_call 66; refine (CallsIn.inRound l (callsIn_wide.2 (HS.out _ (bld_keep g2 (keepN k5 k6))))).mono ?_; rintro e w7 ⟨⟨u, v, rfl⟩, p1, p2, p3⟩)
   gi_wp2_with (refine ⟨trivial, ?_⟩; gi_at_call 68; refine (CallsIn.inRound l (callsIn_wide.2 (HR.out _ p1))).mono ?_; rintro e w8 ⟨⟨u2, v2, rfl⟩, q1, q2, q3⟩)
   exact ⟨_, ((bldP_keep (keepN k5 k6)).trans (bldP_rnd p2 p3)).trans (bldP_rnd q2 q3), rfl, by rw [hsn]; exact q1, npBelow (npBelow (keepN g3 (keepN k5 k6)) p2 (Nat.le_refl _)) q2 (Nat.le_refl _)⟩
 case done =>
  rintro D xs p W hD hpD rfl ⟨rfl, g2, g3⟩ hK
  rw [normT_all] at g2
  have hne : D ≠ w.heap.size := fun e => hpD (.inl e)
  gi_wp2_with (refine ⟨trivial, ?_⟩; gi_at_call 69; refine (callsIn_wide.2 (HSt.out _ g2)).mono ?_; rintro e w9 ⟨rfl, p1, p2, p3⟩)
  have hK9 := p3 D _ hK (by simpa using hne) (fun c fz e => by cases e)
  refine ⟨by simp, .inl ⟨_, _, rfl, run_takeDeferred hK9, ?_⟩⟩
  exact ⟨_, results_tmp rfl _ _ _, rfl, npPut (npBelow g3 p2 (Nat.le_refl _)) (by omega)⟩
 case stop =>
  rintro D c pre p W _ _ _ h _
  exact h.elim

end Go.Proofs.YtgnooffedmeenaaGreatDoor.M

namespace Go.Proofs.YtgnooffedmeenaaGreatDoor.F
open Go.RowKit W

structure FV where
 S : ByteArray
 A : Option Addr
 na : Nat
 ca : Nat
 B : Option Addr
 nb : Nat
 cb : Nat
 L : Option Addr
 nl : Nat
 cl : Nat
 D : Option Addr
 nd : Nat
 cd : Nat
def FV.cells (v : FV) : Array Value := #[.string v.S, .slice v.A v.na v.ca, .slice v.B v.nb v.cb, .slice v.L v.nl v.cl, .slice v.D v.nd v.cd]
def FV.val (v : FV) : Value := .agg v.cells
structure FnAt (w : World) (v : FV) (f : Fu) : Prop where
 nm : v.S.data.toList = f.nm
 ra : Rd w v.A (ivs f.ar)
 rb : Rd w v.B (ivs f.rs)
 rl : Rd w v.L (ivs f.lc)
 rd : Rd w v.D (C.iis f.bd)
 la : f.ar.length = v.na
 lb : f.rs.length = v.nb
 ll : f.lc.length = v.nl
 ld : f.bd.length = v.nd
 hI : C.AllI f.bd
structure SmF (v : FV) : Prop where
 sz : v.S.size ≤ 100
 na : v.na ≤ 100
 nb : v.nb ≤ 100
 nl : v.nl ≤ 100
 nd : v.nd ≤ 600
theorem FnAt.keep {O : Nat → Prop} {w w' : World} {v : FV} {f : Fu} (h : FnAt w v f) (hk : Keep O w w') (hO : ∀ k, k < w.heap.size → ¬ O k) : FnAt w' v f :=
 have h2 : Keep NoB w w' := hk.mono (fun k ho hl => absurd ho (hO k hl))
 ⟨h.nm, h.ra.keepN h2, h.rb.keepN h2, h.rl.keepN h2, h.rd.keepN h2, h.la, h.lb, h.ll, h.ld, h.hI⟩
theorem FnAt.keepN {w w' : World} {v : FV} {f : Fu} (h : FnAt w v f) (hk : Keep NoB w w') : FnAt w' v f := h.keep hk (fun _ _ => id)
theorem sz_len {S : ByteArray} {s : List UInt8} (h : S.data.toList = s) : S.size = s.length := by rw [← h]; rfl
theorem blk5 {w : World} {g : Nat} {t : TypeId} {v : FV} (h : Blk w g t v.cells) : w.cell? ⟨g, 0, none⟩ = some (.string v.S) ∧ w.cell? ⟨g, 1, none⟩ = some (.slice v.A v.na v.ca) ∧ w.cell? ⟨g, 2, none⟩ = some (.slice v.B v.nb v.cb) ∧
  w.cell? ⟨g, 3, none⟩ = some (.slice v.L v.nl v.cl) ∧ w.cell? ⟨g, 4, none⟩ = some (.slice v.D v.nd v.cd) := ⟨h.cell 0, h.cell 1, h.cell 2, h.cell 3, h.cell 4⟩

end Go.Proofs.YtgnooffedmeenaaGreatDoor.F

namespace Go.Proofs.YtgnooffedmeenaaGreatDoor.F
open Go.RowKit W

theorem own_len {w : World} {O : Nat → Prop} {v : Value} {l : List Int} {n : Nat} (h : Own w 3 1 O v n (ivs l)) : l.length = n := by have := h.1.1; simpa using this

end Go.Proofs.YtgnooffedmeenaaGreatDoor.F

namespace Go.Proofs.YtgnooffedmeenaaGreatDoor.F
open Go.RowKit W

theorem letB_yes {c : UInt8} (h : (97 ≤ c.toNat ∧ c.toNat ≤ 122) ∨ (65 ≤ c.toNat ∧ c.toNat ≤ 90)) : letB c = true := (letB_iff c).2 h
theorem letB_no {c : UInt8} (h : ¬ ((97 ≤ c.toNat ∧ c.toNat ≤ 122) ∨ (65 ≤ c.toNat ∧ c.toNat ≤ 90))) : letB c = false := by
 cases hb : letB c
 ·rfl
 ·exact absurd ((letB_iff c).1 hb) h
theorem digB_yes {c : UInt8} (h : 48 ≤ c.toNat ∧ c.toNat ≤ 57) : digB c = true := (digB_iff c).2 h
theorem digB_no {c : UInt8} (h : ¬ (48 ≤ c.toNat ∧ c.toNat ≤ 57)) : digB c = false := by
 cases hb : digB c
 ·rfl
 ·exact absurd ((digB_iff c).1 hb) h

set_option maxRecDepth 100000 in
set_option maxHeartbeats 2000000 in
theorem letter_any (c : UInt8) (w : World) : Calls Tryz.prog 157 #[.int .u8 (c.toNat : Int)] w fun e w' => e = .returned (.bool (letB c)) ∧ w = w' := by
 have hc : c.toNat < 256 := UInt8.toNat_lt _
 have HY : Hid ((97 ≤ c.toNat ∧ c.toNat ≤ 122) ∨ (65 ≤ c.toNat ∧ c.toNat ≤ 90) → letB c = true) := letB_yes
 have HN : Hid (¬ ((97 ≤ c.toNat ∧ c.toNat ≤ 122) ∨ (65 ≤ c.toNat ∧ c.toNat ≤ 90)) → letB c = false) := letB_no
 generalize letB c = R at HY HN
 generalize c.toNat = n at hc HY HN
 by_cases h0 : n < 65
 ·skip
  obtain rfl : false = R := (HN.out (by omega)).symm
  clear HY HN
  go_enter Tryz.func157, Tryz.ntmps157
  go_wp2
  go_ret
  exact ⟨ret_bool (by first | rfl | (simp; done) | (simp; omega)), rfl⟩
 by_cases h1 : n ≤ 90
 ·skip
  obtain rfl : true = R := (HY.out (by omega)).symm
  clear HY HN
  go_enter Tryz.func157, Tryz.ntmps157
  go_wp2
  go_ret
  exact ⟨ret_bool (by first | rfl | (simp; done) | (simp; omega)), rfl⟩
 by_cases h2 : n < 97
 ·skip
  obtain rfl : false = R := (HN.out (by omega)).symm
  clear HY HN
  go_enter Tryz.func157, Tryz.ntmps157
  go_wp2
  go_ret
  exact ⟨ret_bool (by first | rfl | (simp; done) | (simp; omega)), rfl⟩
 by_cases h3 : n ≤ 122
 ·skip
  obtain rfl : true = R := (HY.out (by omega)).symm
  clear HY HN
  go_enter Tryz.func157, Tryz.ntmps157
  go_wp2
  go_ret
  exact ⟨ret_bool (by first | rfl | (simp; done) | (simp; omega)), rfl⟩
 obtain rfl : false = R := (HN.out (by omega)).symm
 clear HY HN
 go_enter Tryz.func157, Tryz.ntmps157
 go_wp2
 go_ret
 exact ⟨ret_bool (by first | rfl | (simp; done) | (simp; omega)), rfl⟩

set_option maxRecDepth 100000 in
set_option maxHeartbeats 2000000 in
theorem digit_any (c : UInt8) (w : World) : Calls Tryz.prog 158 #[.int .u8 (c.toNat : Int)] w fun e w' => e = .returned (.bool (digB c)) ∧ w = w' := by
 have hc : c.toNat < 256 := UInt8.toNat_lt _
 have HY : Hid (48 ≤ c.toNat ∧ c.toNat ≤ 57 → digB c = true) := digB_yes
 have HN : Hid (¬ (48 ≤ c.toNat ∧ c.toNat ≤ 57) → digB c = false) := digB_no
 generalize digB c = R at HY HN
 generalize c.toNat = n at hc HY HN
 by_cases h0 : n < 48
 ·skip
  obtain rfl : false = R := (HN.out (by omega)).symm
  clear HY HN
  go_enter Tryz.func158, Tryz.ntmps158
  go_wp2
  go_ret
  exact ⟨ret_bool (by first | rfl | (simp; done) | (simp; omega)), rfl⟩
 by_cases h1 : n ≤ 57
 ·skip
  obtain rfl : true = R := (HY.out (by omega)).symm
  clear HY HN
  go_enter Tryz.func158, Tryz.ntmps158
  go_wp2
  go_ret
  exact ⟨ret_bool (by first | rfl | (simp; done) | (simp; omega)), rfl⟩
 obtain rfl : false = R := (HN.out (by omega)).symm
 clear HY HN
 go_enter Tryz.func158, Tryz.ntmps158
 go_wp2
 go_ret
 exact ⟨ret_bool (by first | rfl | (simp; done) | (simp; omega)), rfl⟩

theorem in_step {l : List UInt8} {k : Nat} (hk : k < l.length) (h : (l.take k).all inB = true) (h2 : inB l[k] = true) : (l.take (k + 1)).all inB = true := by
 rw [List.take_succ_eq_append_getElem hk, List.all_append, h]; simp [h2]
theorem in_no {l : List UInt8} {k : Nat} (hk : k < l.length) (h2 : inB l[k] = false) : l.all inB = false := by
 cases h : l.all inB
 ·rfl
 ·rw [List.all_eq_true.1 h _ (List.getElem_mem hk)] at h2; cases h2
theorem str_at {S : ByteArray} {s : List UInt8} (hs : S.data.toList = s) {k : Nat} (hk : k < S.size) (hk2 : k < s.length) : S[k] = s[k] := by subst hs; rfl

set_option maxRecDepth 100000 in
set_option maxHeartbeats 4000000 in
theorem named_any (S : ByteArray) (s : List UInt8) (w : World) (hs : Hid (S.data.toList = s)) (hm : S.size ≤ 9223372036854775807) (R : Int) (hR : Hid (chkN s = R)) :
  Calls Tryz.prog 100 #[.string S] w fun e w' => e = .returned (.int .i64 R) ∧ w = w' := by
 have HZ : Hid (S.size = s.length) := sz_len hs.out
 have HL := Lib.hid (fun (c : UInt8) (w : World) => letter_any c w)
 have HD := Lib.hid (fun (c : UInt8) (w : World) => digit_any c w)
 by_cases h0 : S.size = 0
 ·obtain rfl : 71 = R := by rw [← hR.out]; exact (chkN_no (by rw [List.length_eq_zero_iff.1 (HZ.out.symm.trans h0)]; rfl)).symm
  clear hR
  go_enter Tryz.func100, Tryz.ntmps100
  go_wp2
  go_ret
  exact ⟨rfl, rfl⟩
 have hq0 : ((S.size : Int) == 0) = false := by rw [beq_eq_false_iff_ne]; omega
 by_cases h1 : 32 < S.size
 ·obtain rfl : 71 = R := by rw [← hR.out]; exact (chkN_no (okN_long (by rw [← HZ.out]; omega))).symm
  clear hR
  go_enter Tryz.func100, Tryz.ntmps100
  go_wp2
  go_ret
  exact ⟨rfl, rfl⟩
 have hp : 0 < S.size := by omega
 have HH : Hid (headB s = letB (S[0]'hp)) := by show _ = _; rw [str_at hs.out hp (by rw [← HZ.out]; omega)]; exact headB_at _
 cases hh : letB (S[0]'hp)
 ·obtain rfl : 71 = R := by rw [← hR.out]; exact (chkN_no (okN_head (HH.out.trans hh))).symm
  have HC := Lib.hid (fun w => HL.out (S[0]'hp) w)
  rw [hh] at HC
  clear hR HH hh
  go_enter Tryz.func100, Tryz.ntmps100
  go_wp2_with (go_at_call 157; refine (HC.out _).mono ?_; rintro e w1 ⟨rfl, rfl⟩)
  go_ret
  exact ⟨rfl, rfl⟩
 have HHT := Lib.hid (HH.out.trans hh)
 have HC := Lib.hid (fun w => HL.out (S[0]'hp) w)
 rw [hh] at HC
 clear HH hh
 go_enter Tryz.func100, Tryz.ntmps100
 go_wp2_with (go_at_call 157; refine (HC.out _).mono ?_; rintro e w1 ⟨rfl, rfl⟩)
 clear HC
 go_loop [20] (fun i => ∃ k : Nat, k ≤ S.size ∧ i = .int .i64 k ∧ Hid ((s.take k).all inB = true)) (fun i => S.size - (intOf i).toNat)
 case atStart => exact ⟨0, Nat.zero_le _, rfl, rfl⟩
 case round =>
  obtain ⟨k, hk, rfl, ht⟩ := hrel
  by_cases hlt : k < S.size
  ·have hks : k < s.length := by rw [← HZ.out]; exact hlt
   have HE := Lib.hid (str_at hs.out hlt hks)
   have HA := Lib.hid (fun w => HL.out (S[k]'hlt) w)
   have HB := Lib.hid (fun w => HD.out (S[k]'hlt) w)
   have HI : Hid (inB s[k] = (letB (S[k]'hlt) || digB (S[k]'hlt))) := by show _ = _; rw [HE.out]; rfl
   have HT := Lib.hid (fun h => in_step hks ht.out h)
   have HN := Lib.hid (fun h => in_no hks h)
   cases hl : letB (S[k]'hlt)
   ·rw [hl] at HA HI
    cases hd : digB (S[k]'hlt)
    ·rw [hd] at HB HI
     obtain rfl : 71 = R := by rw [← hR.out]; exact (chkN_no (okN_in (HN.out HI.out))).symm
     clear hR HT HN HI HE hl hd HHT ht
     go_wp2_with (first | (go_at_call 157; refine (HA.out _).mono ?_; rintro e w2 ⟨rfl, rfl⟩) | (go_at_call 158; refine (HB.out _).mono ?_; rintro e w2 ⟨rfl, rfl⟩))
     go_ret
     exact ⟨rfl, rfl⟩
    ·rw [hd] at HB HI
     have HV := Lib.hid (HT.out HI.out)
     clear HT HN HI HE hl hd
     go_wp2_with (first | (go_at_call 157; refine (HA.out _).mono ?_; rintro e w2 ⟨rfl, rfl⟩) | (go_at_call 158; refine (HB.out _).mono ?_; rintro e w2 ⟨rfl, rfl⟩))
     go_round
     case rel => exact ⟨k + 1, by omega, by go_num, HV⟩
     case measure => simp [intOf]; omega
   ·rw [hl] at HA HI
    have HV := Lib.hid (HT.out (by rw [HI.out]; rfl))
    clear HT HN HI HE hl HB
    go_wp2_with (go_at_call 157; refine (HA.out _).mono ?_; rintro e w2 ⟨rfl, rfl⟩)
    go_round
    case rel => exact ⟨k + 1, by omega, by go_num, HV⟩
    case measure => simp [intOf]; omega
  ·obtain rfl : 0 = R := by
    rw [← hR.out]
    have e1 := ht.out
    rw [List.take_of_length_le (by rw [← HZ.out]; omega)] at e1
    exact (chkN_ok ((okN_iff s).2 ⟨by rw [← HZ.out]; omega, HHT.out, e1⟩)).symm
   clear hR HHT
   go_wp2
   go_ret
   exact ⟨rfl, rfl⟩

end Go.Proofs.YtgnooffedmeenaaGreatDoor.F

namespace Go.Proofs.YtgnooffedmeenaaGreatDoor.F
open Go.RowKit

def askV (g : Nat) (caps : Array Value) : Value := .func (.func g) #[] caps

set_option maxRecDepth 100000 in
set_option maxHeartbeats 2000000 in
theorem every_any (A : Option Addr) (qs : List (Nat × Array Value)) (n c : Nat) (w : World) (hn : Hid (qs.length = n)) (hm : n ≤ 1000) (bs : Nat → Bool) (I : Nat → World → Prop) (J : World → Prop)
  (hcf : Hid (∀ q ∈ qs, ∀ args w, (callFunc q.1 args).run Tryz.prog w = .ok (.enter q.1 args) w))
  (hr : Hid (∀ i W, I i W → Rd W A (qs.map fun q => askV q.1 q.2)))
  (hq : Hid (∀ i (h : i < qs.length) W, I i W → Calls Tryz.prog qs[i].1 qs[i].2 W fun e W' => e = .returned (.bool (bs i)) ∧ (bs i = true → I (i + 1) W') ∧ (bs i = false → J W')))
  (h0 : I 0 w) :
  Calls Tryz.prog 96 #[.slice A n c] w fun e w' => (e = .returned (.bool true) ∧ (∀ i, i < n → bs i = true) ∧ I n w') ∨ (e = .returned (.bool false) ∧ (∃ i, i < n ∧ bs i = false) ∧ J w') := by
 go_enter Tryz.func96, Tryz.ntmps96
 go_wp2
 go_loopw [7] (fun i wr => ∃ k : Nat, k ≤ n ∧ i = .int .i64 k ∧ Hid (∀ j, j < k → bs j = true) ∧ Hid (I k wr)) (fun i _ => n - (intOf i).toNat)
 case atStart => exact ⟨0, Nat.zero_le _, rfl, fun j h => absurd h (by omega), h0⟩
 case round =>
  obtain ⟨k, hk, rfl, ht, hI⟩ := hrel
  clear h0
  by_cases hlt : k < n
  ·have hkq : k < qs.length := by rw [hn.out]; exact hlt
   obtain ⟨g0, off, rfl, hc⟩ := hr.out k _ hI.out (by simp; omega)
   have ck := hc k (askV qs[k].1 qs[k].2) (by simp [hkq])
   have hg := hcf.out qs[k] (List.getElem_mem hkq)
   have HQ := Lib.hid (hq.out k hkq _ hI.out)
   clear hc
   generalize qs[k] = q at ck hg HQ
   obtain ⟨g, caps⟩ := q
   dsimp only [askV] at ck hg HQ
   obtain ⟨b, hb⟩ : ∃ b, bs k = b := ⟨_, rfl⟩
   have HB := Lib.hid hb
   rw [hb] at HQ
   clear hb hI
   go_wp2_with fail
   refine HQ.out.mono ?_
   rintro e w1 ⟨rfl, hy, hno⟩
   have HY := Lib.hid hy
   have HNO := Lib.hid hno
   clear hy hno
   cases b
   ·go_wp2
    go_ret
    exact .inr ⟨rfl, ⟨k, hlt, HB.out⟩, HNO.out trivial⟩
   ·go_wp2
    go_roundw
    case rel => exact ⟨k + 1, by omega, by go_num, fun j hj => (by
     rcases Nat.lt_succ_iff_lt_or_eq.1 hj with h | rfl
     ·exact ht.out j h
     ·exact HB.out), HY.out trivial⟩
    case measure => simp [intOf]; omega
  ·obtain rfl : k = n := by omega
   go_wp2
   go_ret
   exact .inl ⟨rfl, ht.out, hI.out⟩

end Go.Proofs.YtgnooffedmeenaaGreatDoor.F

namespace Go.Proofs.YtgnooffedmeenaaGreatDoor.F
open Go.RowKit W

def AskV (k : Nat) (tc tp : TypeId) (chk : Value) (cells : Array Value) (v : Value) (w : World) : Prop :=
 ∃ c p, v = askV k #[.pointer (some ⟨c, 0, none⟩), .pointer (some ⟨p, 0, none⟩)] ∧ Blk w c tc #[chk] ∧ Blk w p tp cells
theorem AskV.keep {k : Nat} {tc tp : TypeId} {chk : Value} {cells : Array Value} {v : Value} {w w' : World} (h : AskV k tc tp chk cells v w) (hk : Keep NoB w w') : AskV k tc tp chk cells v w' := by
 obtain ⟨c, p, e, h1, h2⟩ := h
 exact ⟨c, p, e, h1.keep hk id, h2.keep hk id⟩
def fnV (k : Nat) : Value := .func (.func k) #[] #[]

theorem sig_size : (Tryz.prog.info? 34).map (·.size) = some 2 := by kernel_rfl
theorem ret_sig1 {fn : Func} {p : Tmp} {tmps : Array Value} {w : World} {g : Nat} {u v : Value} (h : fn.results = #[.cell p 34]) (hp : tmps.getD p undef = .pointer (some ⟨g, 0, none⟩)) (hb : Blk w g 34 #[u, v]) :
  (results fn tmps).run Tryz.prog w = .ok (.agg #[u, v]) w :=
 results_cell_row h tmps w g 34 #[u, v] (0, 0) _ hp hb Tryz.underlying34 rfl sig_size
set_option maxRecDepth 100000 in
set_option maxHeartbeats 2000000 in
theorem taking_any (L : Option Addr) (nl cl : Nat) (w : World) :
  Calls Tryz.prog 103 #[.slice L nl cl] w fun e w' => e = .returned (.agg #[.slice L nl cl, .slice none 0 0]) ∧ Keep NoB w w' := by
 have bz := Blk.new w 34 #[.slice L nl cl, .slice none 0 0]
 have k0 := (Keep.refl NoB w).alloc (.cells #[.slice L nl cl, .slice none 0 0] 34)
 go_enter Tryz.func103, Tryz.ntmps103
 go_wp2
 refine bodyPost_ret (ret_sig1 rfl rfl bz) rfl ?_
 exact ⟨rfl, k0⟩

set_option maxRecDepth 100000 in
set_option maxHeartbeats 2000000 in
theorem passesFun_any (k : Nat) (v : FV) (w : World) :
  Calls Tryz.prog 97 #[fnV k, v.val] w fun e w' => ∃ u, e = .returned u ∧ AskV 155 88 37 (fnV k) (v.cells) u w' ∧ Keep NoB w w' := by
 have hmf : ∀ (fn : Go.Fn) (first cap : Array Value) (w : World), (Instr.makeFunc fn first cap).run Tryz.prog w = .ok (.func fn first cap) w := fun _ _ _ _ => rfl
 have b1 := (Blk.new w 88 #[fnV k]).alloc (.cells (v.cells) 37)
 have b2 := Blk.new (w.alloc (.cells #[fnV k] 88)) 37 (v.cells)
 rw [World.size_alloc] at b2
 have k0 := ((Keep.refl NoB w).alloc (.cells #[fnV k] 88)).alloc (.cells (v.cells) 37)
 unfold fnV at *
 obtain ⟨S, A, na, ca, B, nb, cb, L, nl, cl, D, nd, cd⟩ := v
 dsimp only [FV.val, FV.cells] at *
 have HB1 := Lib.hid b1
 have HB2 := Lib.hid b2
 have HK := Lib.hid k0
 clear b1 b2 k0
 go_enter Tryz.func97, Tryz.ntmps97
 go_wp2
 go_ret
 exact ⟨_, rfl, ⟨w.heap.size, w.heap.size + 1, rfl, HB1.out, HB2.out⟩, HK.out⟩

set_option maxRecDepth 100000 in
set_option maxHeartbeats 2000000 in
theorem askedFun_any (k : Nat) (hcf : ∀ args w, (callFunc k args).run Tryz.prog w = .ok (.enter k args) w) (v : FV) (c p : Nat) (w : World) (hc : Blk w c 88 #[fnV k]) (hp : Blk w p 37 (v.cells)) (R : Int) (b : Bool) (hb : (R == 0) = b)
  (HG : Hid (Calls Tryz.prog k #[v.val] w fun e w' => e = .returned (.int .i64 R) ∧ Keep NoB w w')) :
  Calls Tryz.prog 155 #[.pointer (some ⟨c, 0, none⟩), .pointer (some ⟨p, 0, none⟩)] w fun e w' => e = .returned (.bool b) ∧ Keep NoB w w' := by
 obtain ⟨S, A, na, ca, B, nb, cb, L, nl, cl, D, nd, cd⟩ := v
 have cc := hc.cell 0
 unfold fnV at cc
 obtain ⟨c0, c1, c2, c3, c4⟩ := blk5 hp
 dsimp only [FV.val] at *
 clear hc hp
 go_enter Tryz.func155, Tryz.ntmps155
 go_wp2_with fail
 refine HG.out.mono ?_
 rintro e w1 ⟨rfl, k1⟩
 go_wp2
 go_ret
 exact ⟨rfl, k1⟩

set_option maxRecDepth 100000 in
set_option maxHeartbeats 2000000 in
theorem passesStr_any (k : Nat) (S : ByteArray) (w : World) :
  Calls Tryz.prog 99 #[fnV k, .string S] w fun e w' => ∃ u, e = .returned u ∧ AskV 156 159 9 (fnV k) (#[.string S]) u w' ∧ Keep NoB w w' := by
 have hmf : ∀ (fn : Go.Fn) (first cap : Array Value) (w : World), (Instr.makeFunc fn first cap).run Tryz.prog w = .ok (.func fn first cap) w := fun _ _ _ _ => rfl
 have b1 := (Blk.new w 159 #[fnV k]).alloc (.cells (#[.string S]) 9)
 have b2 := Blk.new (w.alloc (.cells #[fnV k] 159)) 9 (#[.string S])
 rw [World.size_alloc] at b2
 have k0 := ((Keep.refl NoB w).alloc (.cells #[fnV k] 159)).alloc (.cells (#[.string S]) 9)
 unfold fnV at *
 have HB1 := Lib.hid b1
 have HB2 := Lib.hid b2
 have HK := Lib.hid k0
 clear b1 b2 k0
 go_enter Tryz.func99, Tryz.ntmps99
 go_wp2
 go_ret
 exact ⟨_, rfl, ⟨w.heap.size, w.heap.size + 1, rfl, HB1.out, HB2.out⟩, HK.out⟩

set_option maxRecDepth 100000 in
set_option maxHeartbeats 2000000 in
theorem askedStr_any (k : Nat) (hcf : ∀ args w, (callFunc k args).run Tryz.prog w = .ok (.enter k args) w) (S : ByteArray) (c p : Nat) (w : World) (hc : Blk w c 159 #[fnV k]) (hp : Blk w p 9 (#[.string S])) (R : Int) (b : Bool) (hb : (R == 0) = b)
  (HG : Hid (Calls Tryz.prog k #[.string S] w fun e w' => e = .returned (.int .i64 R) ∧ Keep NoB w w')) :
  Calls Tryz.prog 156 #[.pointer (some ⟨c, 0, none⟩), .pointer (some ⟨p, 0, none⟩)] w fun e w' => e = .returned (.bool b) ∧ Keep NoB w w' := by
 have cc := hc.cell 0
 unfold fnV at cc
 have c0 := hp.cell 0
 clear hc hp
 go_enter Tryz.func156, Tryz.ntmps156
 go_wp2_with fail
 refine HG.out.mono ?_
 rintro e w1 ⟨rfl, k1⟩
 go_wp2
 go_ret
 exact ⟨rfl, k1⟩

set_option maxRecDepth 100000 in
set_option maxHeartbeats 2000000 in
theorem passesSig_any (k : Nat) (x y : Value) (w : World) :
  Calls Tryz.prog 101 #[fnV k, .agg #[x, y]] w fun e w' => ∃ u, e = .returned u ∧ AskV 159 161 34 (fnV k) (#[x, y]) u w' ∧ Keep NoB w w' := by
 have hmf : ∀ (fn : Go.Fn) (first cap : Array Value) (w : World), (Instr.makeFunc fn first cap).run Tryz.prog w = .ok (.func fn first cap) w := fun _ _ _ _ => rfl
 have b1 := (Blk.new w 161 #[fnV k]).alloc (.cells (#[x, y]) 34)
 have b2 := Blk.new (w.alloc (.cells #[fnV k] 161)) 34 (#[x, y])
 rw [World.size_alloc] at b2
 have k0 := ((Keep.refl NoB w).alloc (.cells #[fnV k] 161)).alloc (.cells (#[x, y]) 34)
 unfold fnV at *
 have HB1 := Lib.hid b1
 have HB2 := Lib.hid b2
 have HK := Lib.hid k0
 clear b1 b2 k0
 go_enter Tryz.func101, Tryz.ntmps101
 go_wp2
 go_ret
 exact ⟨_, rfl, ⟨w.heap.size, w.heap.size + 1, rfl, HB1.out, HB2.out⟩, HK.out⟩

set_option maxRecDepth 100000 in
set_option maxHeartbeats 2000000 in
theorem askedSig_any (k : Nat) (hcf : ∀ args w, (callFunc k args).run Tryz.prog w = .ok (.enter k args) w) (x y : Value) (c p : Nat) (w : World) (hc : Blk w c 161 #[fnV k]) (hp : Blk w p 34 (#[x, y])) (R : Int) (b : Bool) (hb : (R == 0) = b)
  (HG : Hid (Calls Tryz.prog k #[.agg #[x, y]] w fun e w' => e = .returned (.int .i64 R) ∧ Keep NoB w w')) :
  Calls Tryz.prog 159 #[.pointer (some ⟨c, 0, none⟩), .pointer (some ⟨p, 0, none⟩)] w fun e w' => e = .returned (.bool b) ∧ Keep NoB w w' := by
 have cc := hc.cell 0
 unfold fnV at cc
 obtain ⟨c0, c1⟩ := S.blk2 hp
 clear hc hp
 go_enter Tryz.func159, Tryz.ntmps159
 go_wp2_with fail
 refine HG.out.mono ?_
 rintro e w1 ⟨rfl, k1⟩
 go_wp2
 go_ret
 exact ⟨rfl, k1⟩

set_option maxRecDepth 100000 in
set_option maxHeartbeats 2000000 in
theorem passesBod_any (k : Nat) (D : Option Addr) (nd cd : Nat) (w : World) :
  Calls Tryz.prog 104 #[fnV k, .slice D nd cd] w fun e w' => ∃ u, e = .returned u ∧ AskV 163 164 35 (fnV k) (#[.slice D nd cd]) u w' ∧ Keep NoB w w' := by
 have hmf : ∀ (fn : Go.Fn) (first cap : Array Value) (w : World), (Instr.makeFunc fn first cap).run Tryz.prog w = .ok (.func fn first cap) w := fun _ _ _ _ => rfl
 have b1 := (Blk.new w 164 #[fnV k]).alloc (.cells (#[.slice D nd cd]) 35)
 have b2 := Blk.new (w.alloc (.cells #[fnV k] 164)) 35 (#[.slice D nd cd])
 rw [World.size_alloc] at b2
 have k0 := ((Keep.refl NoB w).alloc (.cells #[fnV k] 164)).alloc (.cells (#[.slice D nd cd]) 35)
 unfold fnV at *
 have HB1 := Lib.hid b1
 have HB2 := Lib.hid b2
 have HK := Lib.hid k0
 clear b1 b2 k0
 go_enter Tryz.func104, Tryz.ntmps104
 go_wp2
 go_ret
 exact ⟨_, rfl, ⟨w.heap.size, w.heap.size + 1, rfl, HB1.out, HB2.out⟩, HK.out⟩

set_option maxRecDepth 100000 in
set_option maxHeartbeats 2000000 in
theorem askedBod_any (k : Nat) (hcf : ∀ args w, (callFunc k args).run Tryz.prog w = .ok (.enter k args) w) (D : Option Addr) (nd cd : Nat) (c p : Nat) (w : World) (hc : Blk w c 164 #[fnV k]) (hp : Blk w p 35 (#[.slice D nd cd])) (R : Int) (b : Bool) (hb : (R == 0) = b)
  (HG : Hid (Calls Tryz.prog k #[.slice D nd cd] w fun e w' => e = .returned (.int .i64 R) ∧ Keep NoB w w')) :
  Calls Tryz.prog 163 #[.pointer (some ⟨c, 0, none⟩), .pointer (some ⟨p, 0, none⟩)] w fun e w' => e = .returned (.bool b) ∧ Keep NoB w w' := by
 have cc := hc.cell 0
 unfold fnV at cc
 have c0 := hp.cell 0
 clear hc hp
 go_enter Tryz.func163, Tryz.ntmps163
 go_wp2_with fail
 refine HG.out.mono ?_
 rintro e w1 ⟨rfl, k1⟩
 go_wp2
 go_ret
 exact ⟨rfl, k1⟩

end Go.Proofs.YtgnooffedmeenaaGreatDoor.F

namespace Go.Proofs.YtgnooffedmeenaaGreatDoor.F
open Go.RowKit W

end Go.Proofs.YtgnooffedmeenaaGreatDoor.F

namespace Go.Proofs.YtgnooffedmeenaaGreatDoor
open Go.RowKit
section
variable {P : Program} {md : Region.Mode} {ops : Array Oper}

def FrameI (a0 : Act) (d0 n : Nat) (a : Act) : Prop := a.defers = a0.defers ∧ a.tmps.size = a0.tmps.size ∧ ∀ s, (s < d0 ∨ d0 + n ≤ s) → a.tmps.getD s undef = a0.tmps.getD s undef

def fillT (t : Array Value) (d : Nat) : List Value → Array Value
 | [] => t
 | v :: vs => fillT (t.setIfInBounds d v) (d + 1) vs
theorem fillT_size : ∀ (vs : List Value) (t : Array Value) (d : Nat), (fillT t d vs).size = t.size
 | [], _, _ => rfl
 | v :: vs, t, d => by rw [fillT, fillT_size vs]; simp
theorem fillT_get : ∀ (vs : List Value) (t : Array Value) (d : Nat), d + vs.length ≤ t.size → ∀ s, (fillT t d vs).getD s undef = if d ≤ s ∧ s < d + vs.length then vs.getD (s - d) undef else t.getD s undef
 | [], t, d, _, s => by rw [fillT, if_neg (by simp)]
 | v :: vs, t, d, h, s => by
  simp only [List.length_cons] at h
  rw [fillT, fillT_get vs _ _ (by simp; omega)]
  by_cases e : s = d
  ·subst e
   rw [if_neg (by omega), if_pos (by constructor <;> simp <;> omega)]
   have hs : s < t.size := by omega
   simp [hs]
  ·have hset : (t.setIfInBounds d v).getD s undef = t.getD s undef := by
    simp only [Array.getD_eq_getD_getElem?, Array.getElem?_setIfInBounds]
    rw [if_neg (fun h => e h.symm)]
   rw [hset]
   by_cases h2 : d + 1 ≤ s ∧ s < d + 1 + vs.length
   ·rw [if_pos h2, if_pos (by simp; omega), show s - d = (s - (d + 1)) + 1 by omega, List.getD_cons_succ]
   ·rw [if_neg h2, if_neg (by simp; omega)]
theorem frame_fill {a0 a : Act} {d0 n : Nat} (h : FrameI a0 d0 n a) (hsz : d0 + n ≤ a0.tmps.size) : a = { tmps := fillT a0.tmps d0 ((List.range n).map fun i => a.tmps.getD (d0 + i) undef), defers := a0.defers } := by
 obtain ⟨h1, h2, h3⟩ := h
 have e : a.tmps = fillT a0.tmps d0 ((List.range n).map fun i => a.tmps.getD (d0 + i) undef) := by
  apply Array.ext
  ·rw [fillT_size, h2]
  ·intro i hi hi'
   have hg := fillT_get ((List.range n).map fun i => a.tmps.getD (d0 + i) undef) a0.tmps d0 (by simpa using hsz) i
   have e1 : (fillT a0.tmps d0 ((List.range n).map fun i => a.tmps.getD (d0 + i) undef)).getD i undef = (fillT a0.tmps d0 ((List.range n).map fun i => a.tmps.getD (d0 + i) undef))[i] := by rw [Array.getD_eq_getD_getElem?, Array.getElem?_eq_getElem hi']; rfl
   have e2 : a.tmps.getD i undef = a.tmps[i] := by rw [Array.getD_eq_getD_getElem?, Array.getElem?_eq_getElem hi]; rfl
   refine e2.symm.trans (Eq.trans ?_ (hg.symm.trans e1))
   simp only [List.length_map, List.length_range]
   by_cases hh : d0 ≤ i ∧ i < d0 + n
   ·rw [if_pos hh]
    have hlt : i - d0 < n := by omega
    rw [List.getD_eq_getElem?_getD, List.getElem?_map, List.getElem?_range hlt]
    simp only [Option.map_some, Option.getD_some]
    rw [show d0 + (i - d0) = i by omega]
   ·rw [if_neg hh]; exact h3 i (by omega)
 obtain ⟨t, d⟩ := a
 simp only at e h1 ⊢
 rw [← e, h1]
end
end Go.Proofs.YtgnooffedmeenaaGreatDoor

namespace Go.Proofs.YtgnooffedmeenaaGreatDoor
open Go.RowKit
section
variable {P : Program} {md : Region.Mode} {ops : Array Oper}

def propsG (ops : Array Oper) (d0 c : Nat) : Bool := (List.range ops.size).all fun i => match ops[i]? with
 | none => false
 | some o => (match o.dst with
  | none => i == c
  | some d => d == d0 + i) && o.after.all fun e => decide (e.on < i)
theorem propsG_at {d0 c : Nat} (h : propsG ops d0 c = true) {i : Nat} {o : Oper} (ho : ops[i]? = some o) : (o.dst = some (d0 + i) ∨ (o.dst = none ∧ i = c)) ∧ ∀ e ∈ o.after, e.on < i := by
 have hi := (Array.getElem?_eq_some_iff.1 ho).1
 have h1 := List.all_eq_true.1 h i (List.mem_range.2 hi)
 simp only [ho, Bool.and_eq_true] at h1
 obtain ⟨h1, h3⟩ := h1
 refine ⟨?_, fun e he => ?_⟩
 ·cases hd : o.dst with
  | none => rw [hd] at h1; exact .inr ⟨rfl, by simpa using h1⟩
  | some d => rw [hd] at h1; exact .inl (by simpa using h1)
 ·have := Array.all_eq_true_iff_forall_mem.1 h3 e he
  simpa using this
theorem no_readyG {d0 c : Nat} (hB : propsG ops d0 c = true) {listed : Array Bool} (hs : listed.size = ops.size) (hr : Region.ready md ops listed = []) : ∀ i, i < ops.size → listed.getD i true = true := by
 intro i
 induction i using Nat.strongRecOn with
 | ind i ih =>
  intro hi
  cases hl : listed.getD i true
  ·have ho : ops[i]? = some ops[i] := Array.getElem?_eq_getElem hi
   have : i ∈ Region.ready md ops listed := mem_ready.2 ⟨hl, ops[i], ho, fun e he _ => by
    have he2 := (propsG_at hB ho).2 e he
    have h1 := ih e.on he2 (by omega)
    have h2 : e.on < listed.size := by omega
    simpa [h2] using h1⟩
   rw [hr] at this; cases this
  ·rfl
theorem wanted_at {o : Oper} {tmps : Array Value} {j d : Nat} {want b : Bool} (hg : o.guard = some (j, want)) (hd : (ops[j]?).bind (·.dst) = some d) (hv : tmps.getD d undef = .bool b) : Region.wanted o (yielded ops tmps) = (b == want) := by
 have ht : tmps[d]? = some (.bool b) := by
  rw [Array.getD_eq_getD_getElem?] at hv
  cases h : tmps[d]? with
  | none => rw [h] at hv; simp [undef] at hv
  | some x => rw [h] at hv; simp at hv; rw [hv]
 unfold Region.wanted
 rw [hg]
 simp only [yielded, hd, Option.bind_some, ht]
 cases b <;> cases want <;> rfl
theorem yieldsR_mono {R R' : Value → World → Prop} (h : ∀ u w, R u w → R' u w) : ∀ (P : Program) (r : Result Next), yieldsR R P r → yieldsR R' P r := by
 intro P r hr
 cases r with
 | ok n w =>
  cases n with
  | value u => exact h _ _ hr
  | skip => exact h _ _ hr
  | enter f args => exact Calls.mono hr fun e w'' ⟨u, e1, h2⟩ => ⟨u, e1, h _ _ h2⟩
  | _ => exact hr.elim
 | _ => exact hr.elim
def Does (P : Program) (ops : Array Oper) (o : Oper) (a : Act) (w : World) (R : Value → World → Prop) : Prop :=
 (Region.wanted o (yielded ops a.tmps) = true ∧ yieldsK P o a w R) ∨ (Region.wanted o (yielded ops a.tmps) = false ∧ R undef w)
theorem Does.plain {o : Oper} {a : Act} {w : World} {R : Value → World → Prop} (hg : o.guard = none) (h : yieldsK P o a w R) : Does P ops o a w R := .inl ⟨by unfold Region.wanted; rw [hg], h⟩
theorem Does.yes {o : Oper} {a : Act} {w : World} {R : Value → World → Prop} {j d : Nat} {want : Bool} (hg : o.guard = some (j, want)) (hd : (ops[j]?).bind (·.dst) = some d) (hv : a.tmps.getD d undef = .bool want) (h : yieldsK P o a w R) : Does P ops o a w R :=
 .inl ⟨by rw [wanted_at hg hd hv]; cases want <;> rfl, h⟩
theorem wpAny_props2 {Q : Exit → Act → World → Prop} (d0 c : Nat) (O : Nat → Prop) (hB : propsG ops d0 c = true) (S : Nat → Value → World → Prop) (w0 : World) (a0 : Act) (hS : ∀ i v w w', Keep O w0 w → S i v w → Keep O w w' → S i v w') (hsz : d0 + ops.size ≤ a0.tmps.size)
  (hstep : ∀ i o (a : Act) (w : World), ops[i]? = some o → i ≠ c → FrameI a0 d0 ops.size a → Keep O w0 w → (∀ e ∈ o.after, Region.binds md e = true → S e.on (a.tmps.getD (d0 + e.on) undef) w) → Does P ops o a w fun u w' => S i u w' ∧ Keep NoB w w')
  (hspec : ∀ o (a : Act) (w : World), ops[c]? = some o → FrameI a0 d0 ops.size a → Keep NoB w0 w → (∀ e ∈ o.after, Region.binds md e = true → S e.on (a.tmps.getD (d0 + e.on) undef) w) → Does P ops o a w fun u w' => (∀ v, (o.dst.isSome = true → v = u) → S c v w') ∧ Keep O w w')
  (hend : ∀ (a : Act) (w : World), FrameI a0 d0 ops.size a → Keep O w0 w → (∀ i, i < ops.size → S i (a.tmps.getD (d0 + i) undef) w) → Q .normal a w) :
  ∀ (fuel : Nat) (listed : Array Bool) (a : Act) (w : World), listed.size = ops.size → (∃ L : List Nat, L.length ≤ fuel ∧ ∀ i, i < ops.size → listed.getD i true = false → i ∈ L) → FrameI a0 d0 ops.size a → Keep O w0 w → (listed.getD c true = false → Keep NoB w0 w) →
   (∀ i, i < ops.size → listed.getD i true = true → S i (a.tmps.getD (d0 + i) undef) w) → wpAny P md ops Q fuel listed a w := by
 have hNO : ∀ {X Y : World}, Keep NoB X Y → Keep O X Y := fun h => h.mono (fun _ hf _ => hf.elim)
 intro fuel
 induction fuel with
 | zero =>
  intro listed a w hs ⟨L, hL, hin⟩ hF hK hC hA
  obtain rfl : L = [] := List.length_eq_zero_iff.1 (by omega)
  have hall : ∀ i, i < ops.size → listed.getD i true = true := fun i hi => by
   cases h : listed.getD i true
   ·cases hin i hi h
   ·rfl
  refine ⟨?_, hend a w hF hK fun i hi => hA i hi (hall i hi)⟩
  rw [List.eq_nil_iff_forall_not_mem]
  intro i hi
  obtain ⟨h1, o, ho, _⟩ := mem_ready.1 hi
  rw [hall i (Array.getElem?_eq_some_iff.1 ho).1] at h1; cases h1
 | succ fuel ih =>
  intro listed a w hs ⟨L, hL, hin⟩ hF hK hC hA
  refine ⟨fun h0 => hend a w hF hK fun i hi => hA i hi (no_readyG hB hs h0 i hi), fun i hi => ?_⟩
  obtain ⟨h1, o, ho, hall⟩ := mem_ready.1 hi
  have hi' := (Array.getElem?_eq_some_iff.1 ho).1
  obtain ⟨hd, hlt⟩ := propsG_at hB ho
  have hdeps : ∀ e ∈ o.after, Region.binds md e = true → S e.on (a.tmps.getD (d0 + e.on) undef) w := fun e he hb => by
   have h2 := hall e he hb
   have h3 := hlt e he
   refine hA e.on (by omega) ?_
   have h4 : e.on < listed.size := by omega
   simpa [h4] using h2
  have hKO : (if i = c then Keep NoB w0 w else True) := by
   split
   ·rename_i e; subst e; exact hC h1
   ·trivial
  have hdoes : Does P ops o a w fun u w' => (∀ v, (o.dst.isSome = true → v = u) → S i v w') ∧ Keep O w w' ∧ (i ≠ c → Keep NoB w w') := by
   by_cases e : i = c
   ·subst e
    rw [if_pos rfl] at hKO
    rcases hspec o a w ho hF hKO hdeps with ⟨hw, hy⟩ | ⟨hw, h2, h3⟩
    ·refine .inl ⟨hw, ?_⟩
     unfold yieldsK at hy ⊢
     exact yieldsR_mono (fun u w' ⟨h2, h3⟩ => ⟨h2, h3, fun h => absurd rfl h⟩) _ _ hy
    ·exact .inr ⟨hw, h2, h3, fun h => absurd rfl h⟩
   ·have hsome : o.dst.isSome = true := by
     rcases hd with h | ⟨_, h⟩
     ·rw [h]; rfl
     ·exact absurd h e
    rcases hstep i o a w ho e hF hK hdeps with ⟨hw, hy⟩ | ⟨hw, h2, h3⟩
    ·refine .inl ⟨hw, ?_⟩
     unfold yieldsK at hy ⊢
     exact yieldsR_mono (fun u w' ⟨h2, h3⟩ => ⟨fun v hv => by rw [hv hsome]; exact h2, hNO h3, fun _ => h3⟩) _ _ hy
    ·exact .inr ⟨hw, fun v hv => by rw [hv hsome]; exact h2, hNO h3, fun _ => h3⟩
  have hnext : ∀ u w', (∀ v, (o.dst.isSome = true → v = u) → S i v w') → Keep O w w' → (i ≠ c → Keep NoB w w') → wpAny P md ops Q fuel (listed.setIfInBounds i true) (a.put o.dst u) w' := by
   intro u w' hSu hk hkn
   have hfr : FrameI a0 d0 ops.size (a.put o.dst u) ∧ (∀ k, k < ops.size → k ≠ i → (a.put o.dst u).tmps.getD (d0 + k) undef = a.tmps.getD (d0 + k) undef) ∧ (o.dst.isSome = true → (a.put o.dst u).tmps.getD (d0 + i) undef = u) := by
    rcases hd with hd | ⟨hd, _⟩
    ·rw [hd]
     have hds : d0 + i < a.tmps.size := by rw [hF.2.1]; omega
     have hget : ∀ s, (a.put (some (d0 + i)) u).tmps.getD s undef = if s = d0 + i then u else a.tmps.getD s undef := fun s => by
      unfold Act.put
      by_cases e : s = d0 + i
      ·subst e; simp [hds]
      ·rw [if_neg e]
       simp only [Array.getD_eq_getD_getElem?, Array.getElem?_setIfInBounds]
       rw [if_neg (fun h => e h.symm)]
     refine ⟨⟨hF.1, by unfold Act.put; simpa using hF.2.1, fun s hs' => ?_⟩, fun k hk' hki => ?_, fun _ => ?_⟩
     ·rw [hget, if_neg (by omega)]; exact hF.2.2 s hs'
     ·rw [hget, if_neg (by omega)]
     ·rw [hget, if_pos rfl]
    ·rw [hd]
     exact ⟨hF, fun _ _ _ => rfl, fun h => by cases h⟩
   obtain ⟨hF', hother, hself⟩ := hfr
   refine ih (listed.setIfInBounds i true) _ w' (by simpa using hs) ⟨L.erase i, ?_, fun k hk' hl => ?_⟩ hF' (hK.trans hk (fun _ h _ => h)) (fun hl => ?_) fun k hk' hl => ?_
   ·rw [List.length_erase_of_mem (hin i hi' h1)]; omega
   ·have hki : k ≠ i := by
     rintro rfl
     have : k < listed.size := by omega
     simp [this] at hl
    have hl2 : listed.getD k true = false := by rw [getD_set_ne true (Ne.symm hki)] at hl; exact hl
    exact (List.mem_erase_of_ne hki).2 (hin k hk' hl2)
   ·have hci : c ≠ i := by
     rintro rfl
     have : c < listed.size := by omega
     simp [this] at hl
    rw [getD_set_ne true (Ne.symm hci)] at hl
    exact keepN (hC hl) (hkn (Ne.symm hci))
   ·by_cases e : k = i
    ·subst e
     exact hSu _ hself
    ·rw [hother k hk' e]
     exact hS k _ _ _ hK (hA k hk' (by rw [getD_set_ne true (Ne.symm e)] at hl; exact hl)) hk
  unfold wpOp
  simp only [ho]
  rcases hdoes with ⟨hw, hy⟩ | ⟨hw, h2, h3, h4⟩
  ·rw [if_pos hw]
   exact .inl (Oper.wp_of_yields hy fun u w' ⟨h2, h3, h4⟩ => hnext u w' h2 h3 h4)
  ·rw [if_neg (by rw [hw]; decide)]
   exact hnext undef w h2 h3 h4
theorem wp_region_props2 {id : Nat} {Q : Exit → Act → World → Prop} {a0 : Act} {w : World} (d0 c : Nat) (O : Nat → Prop) (hm : P.follows .mixedOrders = true) (hB : propsG ops d0 c = true) (S : Nat → Value → World → Prop) (hS : ∀ i v w1 w', Keep O w w1 → S i v w1 → Keep O w1 w' → S i v w') (hsz : d0 + ops.size ≤ a0.tmps.size)
  (hstep : ∀ i o (a : Act) (w' : World), ops[i]? = some o → i ≠ c → FrameI a0 d0 ops.size a → Keep O w w' → (∀ e ∈ o.after, Region.binds .any e = true → S e.on (a.tmps.getD (d0 + e.on) undef) w') → Does P ops o a w' fun u w'' => S i u w'' ∧ Keep NoB w' w'')
  (hspec : ∀ o (a : Act) (w' : World), ops[c]? = some o → FrameI a0 d0 ops.size a → Keep NoB w w' → (∀ e ∈ o.after, Region.binds .any e = true → S e.on (a.tmps.getD (d0 + e.on) undef) w') → Does P ops o a w' fun u w'' => (∀ v, (o.dst.isSome = true → v = u) → S c v w'') ∧ Keep O w' w'')
  (hend : ∀ (a : Act) (w' : World), FrameI a0 d0 ops.size a → Keep O w w' → (∀ i, i < ops.size → S i (a.tmps.getD (d0 + i) undef) w') → Q .normal a w') : (Code.region id ops true).wp P Q a0 w :=
 wp_region_any hm (wpAny_props2 d0 c O hB S w a0 hS hsz hstep hspec hend _ _ a0 w.drew (by simp) ⟨List.range ops.size, by simp, fun i hi _ => List.mem_range.2 hi⟩ ⟨rfl, rfl, fun _ _ => rfl⟩ (Keep.refl O w).drew (fun _ => (Keep.refl NoB w).drew) fun i hi hl => by
  simp [hi] at hl)
end
end Go.Proofs.YtgnooffedmeenaaGreatDoor

namespace Go.Proofs.YtgnooffedmeenaaGreatDoor.F
open Go.RowKit W

def bsF (v : FV) (f : Fu) (i : Nat) : Bool := match i with
 | 0 => decide (v.na + v.nb + v.nl ≤ 64)
 | 1 => okN f.nm
 | 2 => S.okG f.ar f.rs
 | 3 => S.okG f.lc []
 | _ => C.okB f.bd
theorem bsF_all {v : FV} {f : Fu} {w : World} (h : FnAt w v f) (hb : ∀ i, i < 5 → bsF v f i = true) : okF f = true := by
 have h0 := of_decide_eq_true (hb 0 (by omega))
 have h1 : okN f.nm = true := hb 1 (by omega)
 have h2 : S.okG f.ar f.rs = true := hb 2 (by omega)
 have h3 : S.okG f.lc [] = true := hb 3 (by omega)
 have h4 : C.okB f.bd = true := hb 4 (by omega)
 rw [← h.la, ← h.lb, ← h.ll] at h0
 exact (okF_iff f).2 ⟨h1, h2, ((okG_one _).1 h3).2, h4, h0⟩
theorem bsF_not {v : FV} {f : Fu} {w : World} (h : FnAt w v f) (hb : ∃ i, i < 5 ∧ bsF v f i = false) : okF f = false := by
 refine okF_not fun ⟨h1, h2, h3, h4, h5⟩ => ?_
 obtain ⟨i, hi, hb⟩ := hb
 rw [h.la, h.lb, h.ll] at h5
 have hl : S.okG f.lc [] = true := (okG_one _).2 ⟨by rw [h.ll]; omega, h3⟩
 have hi : i = 0 ∨ i = 1 ∨ i = 2 ∨ i = 3 ∨ i = 4 := by omega
 rcases hi with rfl | rfl | rfl | rfl | rfl
 ·exact absurd h5 (of_decide_eq_false hb)
 ·rw [show bsF v f 1 = okN f.nm from rfl, h1] at hb; cases hb
 ·rw [show bsF v f 2 = S.okG f.ar f.rs from rfl, h2] at hb; cases hb
 ·rw [show bsF v f 3 = S.okG f.lc [] from rfl, hl] at hb; cases hb
 ·rw [show bsF v f 4 = C.okB f.bd from rfl, h4] at hb; cases hb
theorem few_eq (v : FV) (f : Fu) : (((if v.na + v.nb + v.nl ≤ 64 then (0 : Int) else 70)) == 0) = bsF v f 0 := by
 show _ = decide _
 by_cases h : v.na + v.nb + v.nl ≤ 64
 ·rw [if_pos h, decide_eq_true h]; rfl
 ·rw [if_neg h, decide_eq_false h]; rfl
theorem chkN_eq (s : List UInt8) : (chkN s == 0) = okN s := by
 cases h : okN s
 ·rw [chkN_no h]; rfl
 ·rw [chkN_ok h]; rfl
theorem chkG_eq (a r : List Int) : (S.chkG a r == 0) = S.okG a r := by
 cases h : S.okG a r
 ·rw [S.chkG_no h]; rfl
 ·rw [S.chkG_ok h]; rfl
theorem chkB_eq (l : List C.I3) : (C.chkB l == 0) = C.okB l := by
 cases h : C.okB l
 ·rw [C.chkB_no h]; rfl
 ·rw [C.chkB_ok h]; rfl
def SC (v : FV) (f : Fu) (b : Nat) : Nat → Value → World → Prop
 | 0 => fun u _ => u = v.val
 | 1 => AskV 155 88 37 (fnV 98) (v.cells)
 | 2 => fun u _ => u = .pointer (some ⟨b, 0, none⟩)
 | 3 => fun u _ => u = .string v.S
 | 4 => AskV 156 159 9 (fnV 100) (#[.string v.S])
 | 5 => fun u _ => u = .pointer (some ⟨b, 1, none⟩)
 | 6 => fun u _ => u = .agg #[.slice v.A v.na v.ca, .slice v.B v.nb v.cb]
 | 7 => AskV 159 161 34 (fnV 102) (#[.slice v.A v.na v.ca, .slice v.B v.nb v.cb])
 | 8 => fun u _ => u = .pointer (some ⟨b, 3, none⟩)
 | 9 => fun u _ => u = .slice v.L v.nl v.cl
 | 10 => fun u _ => u = .agg #[.slice v.L v.nl v.cl, .slice none 0 0]
 | 11 => AskV 159 161 34 (fnV 102) (#[.slice v.L v.nl v.cl, .slice none 0 0])
 | 12 => fun u _ => u = .pointer (some ⟨b, 4, none⟩)
 | 13 => fun u _ => u = .slice v.D v.nd v.cd
 | 14 => AskV 163 164 35 (fnV 105) (#[.slice v.D v.nd v.cd])
 | 15 => fun u w => ∃ g u0 u1 u2 u3 u4, u = .slice (some ⟨g, 0, none⟩) 5 5 ∧ Blk w g 57 #[u0, u1, u2, u3, u4] ∧ AskV 155 88 37 (fnV 98) (v.cells) u0 w ∧ AskV 156 159 9 (fnV 100) (#[.string v.S]) u1 w ∧ AskV 159 161 34 (fnV 102) (#[.slice v.A v.na v.ca, .slice v.B v.nb v.cb]) u2 w ∧ AskV 159 161 34 (fnV 102) (#[.slice v.L v.nl v.cl, .slice none 0 0]) u3 w ∧ AskV 163 164 35 (fnV 105) (#[.slice v.D v.nd v.cd]) u4 w
 | 16 => fun u _ => u = .bool (okF f)
 | 17 => fun u _ => u = .bool (!okF f)
 | _ => fun _ _ => True
theorem SC_stable (v : FV) (f : Fu) (b : Nat) : ∀ i u w w', SC v f b i u w → Keep NoB w w' → SC v f b i u w'
 | 0, _, _, _, h, _ => h
 | 1, _, _, _, h, hk => AskV.keep h hk
 | 2, _, _, _, h, _ => h
 | 3, _, _, _, h, _ => h
 | 4, _, _, _, h, hk => AskV.keep h hk
 | 5, _, _, _, h, _ => h
 | 6, _, _, _, h, _ => h
 | 7, _, _, _, h, hk => AskV.keep h hk
 | 8, _, _, _, h, _ => h
 | 9, _, _, _, h, _ => h
 | 10, _, _, _, h, _ => h
 | 11, _, _, _, h, hk => AskV.keep h hk
 | 12, _, _, _, h, _ => h
 | 13, _, _, _, h, _ => h
 | 14, _, _, _, h, hk => AskV.keep h hk
 | 15, _, _, _, ⟨g, u0, u1, u2, u3, u4, e, hb, a0, a1, a2, a3, a4⟩, hk => ⟨g, u0, u1, u2, u3, u4, e, hb.keep hk id, a0.keep hk, a1.keep hk, a2.keep hk, a3.keep hk, a4.keep hk⟩
 | 16, _, _, _, h, _ => h
 | 17, _, _, _, h, _ => h
 | _ + 18, _, _, _, h, _ => h

end Go.Proofs.YtgnooffedmeenaaGreatDoor.F

namespace Go.Proofs.YtgnooffedmeenaaGreatDoor.F
open Go.RowKit W

set_option maxRecDepth 100000 in
set_option maxHeartbeats 4000000 in
theorem great_no (v : FV) (w : World) (hs : SmF v) : Calls Tryz.prog 17 #[v.val] w fun e w' => e = .returned (.int .i64 0) ∧ Keep NoB w w' := by
 obtain ⟨s0, A, na, ca, B, nb, cb, L, nl, cl, D, nd, cd⟩ := v
 obtain ⟨h1, h2, h3, h4, h5⟩ := hs
 dsimp only at h1 h2 h3 h4 h5
 have k0 := (Keep.refl NoB w).alloc (.cells (FV.cells ⟨s0, A, na, ca, B, nb, cb, L, nl, cl, D, nd, cd⟩) 37)
 have HG := Lib.hid (fun w => S.great_no none A B 0 0 na ca nb cb w (Nat.zero_le _) h2 h3)
 unfold FV.val FV.cells at *
 go_enter Tryz.func17, Tryz.ntmps17
 go_wp2_with (go_at_call 44; refine (HG.out _).mono ?_; rintro e w1 ⟨rfl, k1⟩)
 go_ret
 exact ⟨rfl, keepN k0 k1⟩
theorem not_small {v : FV} (hs : ¬ SmF v) : 100 < v.S.size ∨ (v.S.size ≤ 100 ∧ 100 < v.nl) ∨ (v.S.size ≤ 100 ∧ v.nl ≤ 100 ∧ 600 < v.nd) ∨ (v.S.size ≤ 100 ∧ v.nl ≤ 100 ∧ v.nd ≤ 600 ∧ ¬ (0 ≤ 100 ∧ v.na ≤ 100 ∧ v.nb ≤ 100)) := by
 by_cases h1 : v.S.size ≤ 100
 ·by_cases h2 : v.nl ≤ 100
  ·by_cases h3 : v.nd ≤ 600
   ·exact .inr (.inr (.inr ⟨h1, h2, h3, fun h => hs ⟨h1, h.2.1, h.2.2, h2, h3⟩⟩))
   ·exact .inr (.inr (.inl ⟨h1, h2, by omega⟩))
  ·exact .inr (.inl ⟨h1, by omega⟩)
 ·exact .inl (by omega)
set_option maxRecDepth 100000 in
set_option maxHeartbeats 4000000 in
theorem great_yes (v : FV) (w : World) (hs : ¬ SmF v) : Calls Tryz.prog 17 #[v.val] w fun e w' => e = .returned (.int .i64 1) ∧ Keep NoB w w' := by
 have hn := not_small hs
 obtain ⟨s0, A, na, ca, B, nb, cb, L, nl, cl, D, nd, cd⟩ := v
 dsimp only at hn
 have k0 := (Keep.refl NoB w).alloc (.cells (FV.cells ⟨s0, A, na, ca, B, nb, cb, L, nl, cl, D, nd, cd⟩) 37)
 unfold FV.val FV.cells at *
 clear hs
 rcases hn with h1 | ⟨h1, h2⟩ | ⟨h1, h2, h3⟩ | ⟨h1, h2, h3, h4⟩
 ·go_enter Tryz.func17, Tryz.ntmps17
  go_wp2
  go_ret
  exact ⟨rfl, k0⟩
 ·go_enter Tryz.func17, Tryz.ntmps17
  go_wp2
  go_ret
  exact ⟨rfl, k0⟩
 ·go_enter Tryz.func17, Tryz.ntmps17
  go_wp2
  go_ret
  exact ⟨rfl, k0⟩
 ·have HG := Lib.hid (fun w => S.great_yes none A B 0 0 na ca nb cb w h4)
  clear h4
  go_enter Tryz.func17, Tryz.ntmps17
  go_wp2_with (go_at_call 44; refine (HG.out _).mono ?_; rintro e w1 ⟨rfl, k1⟩)
  go_ret
  exact ⟨rfl, keepN k0 k1⟩

end Go.Proofs.YtgnooffedmeenaaGreatDoor.F

namespace Go.Proofs.YtgnooffedmeenaaGreatDoor.C
open Go.RowKit O

end Go.Proofs.YtgnooffedmeenaaGreatDoor.C

namespace Go.Proofs.YtgnooffedmeenaaGreatDoor.C
open Go.RowKit O

/-! ### counts -/
/-! ### stretches -/
end Go.Proofs.YtgnooffedmeenaaGreatDoor.C

namespace Go.Proofs.YtgnooffedmeenaaGreatDoor.C
open Go.RowKit O

end Go.Proofs.YtgnooffedmeenaaGreatDoor.C

namespace Go.Proofs.YtgnooffedmeenaaGreatDoor.C
open Go.RowKit O

end Go.Proofs.YtgnooffedmeenaaGreatDoor.C

namespace Go.Proofs.YtgnooffedmeenaaGreatDoor.C
open Go.RowKit O

end Go.Proofs.YtgnooffedmeenaaGreatDoor.C

namespace Go.Proofs.YtgnooffedmeenaaGreatDoor.O
open Go.RowKit

/-! ### Decode -/

end Go.Proofs.YtgnooffedmeenaaGreatDoor.O

namespace Go.Proofs.YtgnooffedmeenaaGreatDoor.O
open Go.RowKit

end Go.Proofs.YtgnooffedmeenaaGreatDoor.O

namespace Go.Proofs.YtgnooffedmeenaaGreatDoor.C
open Go.RowKit O

end Go.Proofs.YtgnooffedmeenaaGreatDoor.C

namespace Go.Proofs.YtgnooffedmeenaaGreatDoor.C
open Go.RowKit O

theorem ok1_I {x : I3} (h : ok1 x = true) : O.I64 x.2.1 ∧ O.I64 x.2.2 := ⟨(in_bounds (ok_op h).2.1).1, (in_bounds (ok_op h).2.2).1⟩
end Go.Proofs.YtgnooffedmeenaaGreatDoor.C

namespace Go.Proofs.YtgnooffedmeenaaGreatDoor.F
open Go.RowKit W

structure OwnF (W : World) (P : Nat → Prop) (v : FV) (f : Fu) : Prop where
 nm : v.S.data.toList = f.nm
 oa : Own W 3 1 P (.slice v.A v.na v.ca) v.na (ivs f.ar)
 ob : Own W 3 1 P (.slice v.B v.nb v.cb) v.nb (ivs f.rs)
 ol : Own W 3 1 P (.slice v.L v.nl v.cl) v.nl (ivs f.lc)
 od : Own W 55 3 P (.slice v.D v.nd v.cd) v.nd (C.iis f.bd)
 hI : C.AllI f.bd
theorem OwnF.keep {W W' : World} {P O : Nat → Prop} {v : FV} {f : Fu} (h : OwnF W P v f) (hk : Keep O W W') (hn : ∀ k, P k → ¬ O k) : OwnF W' P v f :=
 ⟨h.nm, h.oa.keep hk hn, h.ob.keep hk hn, h.ol.keep hk hn, h.od.keep hk hn, h.hI⟩
theorem OwnF.mono {W : World} {P P' : Nat → Prop} {v : FV} {f : Fu} (h : OwnF W P v f) (hP : ∀ k, P k → k < W.heap.size → P' k) : OwnF W P' v f :=
 ⟨h.nm, h.oa.mono hP, h.ob.mono hP, h.ol.mono hP, h.od.mono hP, h.hI⟩
theorem own_rdS {w : World} {E size n : Nat} {P : Nat → Prop} {A : Option Addr} {c : Nat} {xs : List Value} (h : Own w E size P (.slice A n c) n xs) : Rd w A xs := by
 obtain ⟨A', c', e, _, _, hr, _⟩ := h.form
 injection e with e1 e2 e3
 subst e1; exact hr
theorem own_lenD {w : World} {O : Nat → Prop} {v : Value} {l : List C.I3} {n : Nat} (h : Own w 55 3 O v n (C.iis l)) : l.length = n := by have := h.1.1; rw [C.iis_length] at this; omega
theorem OwnF.fn {W : World} {P : Nat → Prop} {v : FV} {f : Fu} (h : OwnF W P v f) : FnAt W v f :=
 ⟨h.nm, own_rdS h.oa, own_rdS h.ob, own_rdS h.ol, own_rdS h.od, own_len h.oa, own_len h.ob, own_len h.ol, own_lenD h.od, h.hI⟩
def stN (l : List UInt8) (x : Fu × Nat) : Option (Fu × Nat) := (nmR l x.2).map fun a => ({ x.1 with nm := a.1 }, a.2)
def stG (l : List UInt8) (x : Fu × Nat) : Option (Fu × Nat) := (S.decG l x.2).map fun g => ({ x.1 with ar := g.1.1, rs := g.1.2 }, g.2)
def stL (l : List UInt8) (x : Fu × Nat) : Option (Fu × Nat) := (lcR l x.2).map fun c => ({ x.1 with lc := c.1 }, c.2)
def stB (l : List UInt8) (x : Fu × Nat) : Option (Fu × Nat) := (C.decB l x.2).map fun d => ({ x.1 with bd := d.1 }, d.2)
def st (l : List UInt8) (p : Nat) : Nat → Option (Fu × Nat)
 | 0 => some (nilF, p)
 | 1 => (some (nilF, p)).bind (stN l)
 | 2 => ((some (nilF, p)).bind (stN l)).bind (stG l)
 | 3 => (((some (nilF, p)).bind (stN l)).bind (stG l)).bind (stL l)
 | _ => ((((some (nilF, p)).bind (stN l)).bind (stG l)).bind (stL l)).bind (stB l)
end Go.Proofs.YtgnooffedmeenaaGreatDoor.F

namespace Go.Proofs.YtgnooffedmeenaaGreatDoor.F
open Go.RowKit W

def nilV : FV := ⟨⟨#[]⟩, none, 0, 0, none, 0, 0, none, 0, 0, none, 0, 0⟩
end Go.Proofs.YtgnooffedmeenaaGreatDoor.F

namespace Go.Proofs.YtgnooffedmeenaaGreatDoor.V
open Go.ChangeShapes Go.WideShapes Go.ChangeAt Go.RowKit

section
variable {H : Type} {enc : TypeId × Value → H} {w : World} {base b0 : Nat} {spare : Nat → Bool} {held : Bool} {r : Reach} {v : Value} {d : DataW H} {p : List MemPlace}
end

end Go.Proofs.YtgnooffedmeenaaGreatDoor.V

namespace Go.Proofs.YtgnooffedmeenaaGreatDoor.F
open Go.RowKit Go.ChangeShapes Go.WideShapes W

end Go.Proofs.YtgnooffedmeenaaGreatDoor.F

namespace Go.Proofs.YtgnooffedmeenaaGreatDoor.I
open Go.RowKit W

structure SV where
 A : Option Addr
 n : Nat
 c : Nat
def SV.val (s : SV) : Value := .slice s.A s.n s.c
def ShAt (w : World) (s : SV) (l : List Int) : Prop := Rd w s.A (ivs l) ∧ l.length = s.n
theorem ShAt.keep {O : Nat → Prop} {w w' : World} {s : SV} {l : List Int} (h : ShAt w s l) (hk : Keep O w w') (hO : ∀ k, k < w.heap.size → ¬ O k) : ShAt w' s l :=
 ⟨h.1.keepN (hk.mono (fun k ho hl => absurd ho (hO k hl))), h.2⟩
structure IV where
 X : Option Addr
 nx : Nat
 cx : Nat
 Y : Option Addr
 ny : Nat
 cy : Nat
def IV.cells (v : IV) : Array Value := #[.slice v.X v.nx v.cx, .slice v.Y v.ny v.cy]
def IV.val (v : IV) : Value := .agg v.cells
abbrev SE := SV × List Int
abbrev FE := F.FV × F.Fu
def svs (es : List SE) : List Value := es.map fun e => e.1.val
def fvs (fs : List FE) : List Value := fs.flatMap fun e => e.1.cells.toList
def imOf (es : List SE) (fs : List FE) : Im := ⟨es.map fun e => e.2, fs.map fun e => e.2⟩
theorem cells_len (v : F.FV) : v.cells.toList.length = 5 := rfl
theorem fvs_length (fs : List FE) : (fvs fs).length = fs.length * 5 := by
 induction fs with
 | nil => rfl
 | cons v l ih =>
  unfold fvs at ih ⊢
  rw [List.flatMap_cons, List.length_append, ih, cells_len, List.length_cons]; omega
theorem svs_length (es : List SE) : (svs es).length = es.length := by simp [svs]
theorem fvs_append (l r : List FE) : fvs (l ++ r) = fvs l ++ fvs r := by simp [fvs]
theorem svs_append (l r : List SE) : svs (l ++ r) = svs l ++ svs r := by simp [svs]
theorem fvs_at : ∀ (fs : List FE) (i j : Nat) (h : i < fs.length), j < 5 → (fvs fs)[i * 5 + j]? = fs[i].1.cells.toList[j]?
 | v :: l, 0, j, _, hj => by
  unfold fvs
  rw [List.flatMap_cons, Nat.zero_mul, Nat.zero_add, List.getElem?_append_left (by rw [cells_len]; exact hj)]; rfl
 | v :: l, i + 1, j, h, hj => by
  have := fvs_at l i j (by simpa using h) hj
  unfold fvs at this ⊢
  rw [List.flatMap_cons, show (i + 1) * 5 + j = 5 + (i * 5 + j) by omega, List.getElem?_append_right (by rw [cells_len]; omega), cells_len, Nat.add_sub_cancel_left]
  exact this
theorem svs_at (es : List SE) (i : Nat) (h : i < es.length) : (svs es)[i]? = some es[i].1.val := by simp [svs, h]

structure ImAt (w : World) (v : IV) (es : List SE) (fs : List FE) : Prop where
 rx : Rd w v.X (svs es)
 ry : Rd w v.Y (fvs fs)
 lx : es.length = v.nx
 ly : fs.length = v.ny
 hs : ∀ e ∈ es, ShAt w e.1 e.2
 hf : ∀ e ∈ fs, F.FnAt w e.1 e.2
theorem ImAt.keep {O : Nat → Prop} {w w' : World} {v : IV} {es : List SE} {fs : List FE} (h : ImAt w v es fs) (hk : Keep O w w') (hO : ∀ k, k < w.heap.size → ¬ O k) : ImAt w' v es fs :=
 have h2 : Keep NoB w w' := hk.mono (fun k ho hl => absurd ho (hO k hl))
 ⟨h.rx.keepN h2, h.ry.keepN h2, h.lx, h.ly, fun e he => (h.hs e he).keep h2 (fun _ _ => id), fun e he => (h.hf e he).keepN h2⟩
theorem ImAt.keepN {w w' : World} {v : IV} {es : List SE} {fs : List FE} (h : ImAt w v es fs) (hk : Keep NoB w w') : ImAt w' v es fs := h.keep hk (fun _ _ => id)
structure SmI (es : List SE) (fs : List FE) : Prop where
 ns : es.length ≤ 70
 nf : fs.length ≤ 70
 sh : ∀ e ∈ es, e.1.n ≤ 100
 fn : ∀ e ∈ fs, F.SmF e.1
theorem shape_at {w : World} {X : Option Addr} {es : List SE} (h : Rd w X (svs es)) {i : Nat} (hi : i < es.length) : ∃ g off, X = some ⟨g, off, none⟩ ∧ w.cell? ⟨g, off + i, none⟩ = some (.slice es[i].1.A es[i].1.n es[i].1.c) := by
 obtain ⟨g, off, e, hc⟩ := h (by rw [svs_length]; omega)
 exact ⟨g, off, e, hc i _ (svs_at es i hi)⟩
theorem fun_at {w : World} {Y : Option Addr} {fs : List FE} (h : Rd w Y (fvs fs)) {i : Nat} (hi : i < fs.length) : ∃ g off, Y = some ⟨g, off, none⟩ ∧ w.cell? ⟨g, off + i * 5, none⟩ = some (.string fs[i].1.S) ∧ w.cell? ⟨g, off + i * 5 + 1, none⟩ = some (.slice fs[i].1.A fs[i].1.na fs[i].1.ca) ∧
  w.cell? ⟨g, off + i * 5 + 2, none⟩ = some (.slice fs[i].1.B fs[i].1.nb fs[i].1.cb) ∧ w.cell? ⟨g, off + i * 5 + 3, none⟩ = some (.slice fs[i].1.L fs[i].1.nl fs[i].1.cl) ∧ w.cell? ⟨g, off + i * 5 + 4, none⟩ = some (.slice fs[i].1.D fs[i].1.nd fs[i].1.cd) := by
 obtain ⟨g, off, e, hc⟩ := h (by rw [fvs_length]; omega)
 exact ⟨g, off, e, hc _ _ (fvs_at fs i 0 hi (by omega)), hc _ _ (fvs_at fs i 1 hi (by omega)), hc _ _ (fvs_at fs i 2 hi (by omega)), hc _ _ (fvs_at fs i 3 hi (by omega)), hc _ _ (fvs_at fs i 4 hi (by omega))⟩

structure OwnIm (W : World) (P : Nat → Prop) (v : IV) (es : List SE) (fs : List FE) : Prop where
 ox : Own W 68 1 P (.slice v.X v.nx v.cx) v.nx (svs es)
 oy : Own W 37 5 P (.slice v.Y v.ny v.cy) v.ny (fvs fs)
 hs : ∀ e ∈ es, Own W 3 1 P (.slice e.1.A e.1.n e.1.c) e.1.n (ivs e.2)
 hf : ∀ e ∈ fs, F.OwnF W P e.1 e.2
theorem OwnIm.keep {W W' : World} {P O : Nat → Prop} {v : IV} {es : List SE} {fs : List FE} (h : OwnIm W P v es fs) (hk : Keep O W W') (hn : ∀ k, P k → ¬ O k) : OwnIm W' P v es fs :=
 ⟨h.ox.keep hk hn, h.oy.keep hk hn, fun e he => (h.hs e he).keep hk hn, fun e he => (h.hf e he).keep hk hn⟩
theorem OwnIm.mono {W : World} {P P' : Nat → Prop} {v : IV} {es : List SE} {fs : List FE} (h : OwnIm W P v es fs) (hP : ∀ k, P k → k < W.heap.size → P' k) : OwnIm W P' v es fs :=
 ⟨h.ox.mono hP, h.oy.mono hP, fun e he => (h.hs e he).mono hP, fun e he => (h.hf e he).mono hP⟩
theorem OwnIm.im {W : World} {P : Nat → Prop} {v : IV} {es : List SE} {fs : List FE} (h : OwnIm W P v es fs) : ImAt W v es fs :=
 ⟨F.own_rdS h.ox, F.own_rdS h.oy, by have := h.ox.1.1; rw [svs_length] at this; omega, by have := h.oy.1.1; rw [fvs_length] at this; omega,
  fun e he => ⟨F.own_rdS (h.hs e he), F.own_len (h.hs e he)⟩, fun e he => (h.hf e he).fn⟩
def nilW : IV := ⟨none, 0, 0, none, 0, 0⟩
theorem nil_own (W : World) (P : Nat → Prop) : OwnIm W P nilW [] [] := ⟨Own.nil _ _ _ _, Own.nil _ _ _ _, (fun _ h => nomatch h), (fun _ h => nomatch h)⟩
end Go.Proofs.YtgnooffedmeenaaGreatDoor.I
