/-
  Part 9 of the proofs of GLoopsRow, GReachRow, GMustRow, GNamesRow: what is laid, and what the functions that the law runs answer. Conditions: each theorem names its own.
-/
import Derived.Lib.AtoiBound
import Derived.Lib.DecodeN
import Derived.Lib.IndexBytes
import Derived.Lib.IndexMore
import Derived.Lib.OthersKept
import Derived.Lib.OwnBridge
import Derived.Lib.RuneBytes
import Derived.Lib.SlicesCompact
import Derived.Sort.Grow
import Derived.Sort.OwnSortedInts
import Derived.Test.YtghdibbooegocaaGreatDoorQA8
namespace Go.Proofs.YtghdibbooegocaaGreatDoor.O
open Go.RowKit Go.Shelf
attribute [local go_sem] Oper.semAt_some

theorem blk_own {β : Type} (B g : Nat) (t : TypeId) (cs : β → Array Value) : OwnFrom B (fun s W => Blk W g t (cs s)) := by
 intro s X Y row h hg hrow
 refine (hg.block g h.lt (fun e => ?_)).trans h
 obtain ⟨_, o, ho, hc⟩ := hrow g e.symm
 rw [show X.heap[g]? = _ from h] at ho
 cases ho; cases hc
theorem keep_own {β : Type} {B : Nat} {w0 : World} (O : Nat → Prop) (hB : w0.heap.size ≤ B) : OwnFrom B (fun (_ : β) W => Keep O w0 W) := by
 intro s X Y row h hg hrow
 exact h.grown hg (fun g e hl => by have := (hrow g e).1; omega)
theorem fnAt_own {β : Type} (B : Nat) (k : Int) (sh gu : Value) : OwnFrom B (fun (_ : β) W => FnAt k sh gu W) := by
 intro s X Y row h hg hrow
 have hc : ∀ p v, X.cell? p = some v → Y.cell? p = some v := fun p v hp => cell_kept hp hg (fun r e => (hrow r e).2)
 rcases h with h | h | ⟨h, b, c, h1, h2, h3, h4⟩
 ·exact .inl h
 ·exact .inr (.inl h)
 ·exact .inr (.inr ⟨h, b, c, h1, h2, hc _ _ h3, hc _ _ h4⟩)
theorem keepsFrom_one {B g : Nat} {W W' : World} (h : Keep (fun k => k = g) W W') (hg : g < B) : KeepsFrom B W W' :=
 ⟨h.size, fun k _ hk hh _ => (h.block k (Array.getElem?_eq_some_iff.1 hh).1 (fun e => by omega)).trans hh⟩

set_option maxHeartbeats 1000000 in
theorem parts_any (q : Row) (op a b : Int) (w : World) : Calls Tryz.prog 80 #[rowV q, instV op a b] w fun e w' =>
  e = .returned (.func (.func 102) #[] #[.pointer (some ⟨w.heap.size + 1, 0, none⟩), .pointer (some ⟨w.heap.size, 0, none⟩)]) ∧ Blk w' w.heap.size 82 (cells9 q) ∧ Blk w' (w.heap.size + 1) 45 #[.int .i64 op, .int .i64 a, .int .i64 b] ∧ Keep NoB w w' := by
 go_enter Tryz.func80, Tryz.ntmps80
 go_wp2
 go_ret
 have h1 := Blk.new (w.alloc (.cells (cells9 q) 82)) 45 #[.int .i64 op, .int .i64 a, .int .i64 b]
 rw [World.size_alloc] at h1
 exact ⟨rfl, (Blk.new _ _ _).alloc _, h1, ((Keep.refl NoB w).alloc _).alloc _⟩

def textP (l : List (Int × Int)) : List UInt8 := l.flatMap fun x => 32 :: word x.1 x.2
theorem textP_parts (ka kb a b : Int) (h : ka = 0 → kb = 0) : textP (partsL ka kb a b) = partL ka a ++ partL kb b := by
 unfold partsL partL textP
 split
 ·rename_i hz
  rw [if_pos (h hz)]; rfl
 ·split
  ·simp
  ·simp
theorem kinds_none (op : Int) : (rowAt op).ka = 0 → (rowAt op).kb = 0 := by
 have := rowAt_all (p := fun r => decide (r.ka = 0 → r.kb = 0)) (by decide) (by decide) op
 exact of_decide_eq_true this

theorem textP_snoc (l : List (Int × Int)) (x : Int × Int) : textP (l ++ [x]) = textP l ++ 32 :: word x.1 x.2 := by unfold textP; simp
theorem textP_len : ∀ (l : List (Int × Int)), (∀ x ∈ l, I64 x.2) → (textP l).length ≤ 22 * l.length
 | [], _ => Nat.zero_le _
 | x :: l, h => by
  have h1 := word_len x.1 x.2 (h x (by simp))
  have h2 := textP_len l (fun y hy => h y (by simp [hy]))
  have e : textP (x :: l) = (32 :: word x.1 x.2) ++ textP l := by unfold textP; simp
  rw [e]
  simp
  omega
theorem parts_mem {ka kb a b : Int} {x : Int × Int} (h : x ∈ partsL ka kb a b) : x.1 ≠ 0 ∧ (x.2 = a ∨ x.2 = b) := by
 unfold partsL at h
 split at h
 ·cases h
 ·split at h
  ·rename_i h1 h2; simp at h; subst h; exact ⟨h1, .inl rfl⟩
  ·rename_i h1 h2
   simp at h
   rcases h with rfl | rfl
   ·exact ⟨h1, .inl rfl⟩
   ·exact ⟨h2, .inr rfl⟩
theorem parts_len (ka kb a b : Int) : (partsL ka kb a b).length ≤ 2 := by unfold partsL; split <;> (try split) <;> simp
theorem part_facts {ka kb a b : Int} {pre : List Part} {x : Part} {W : World} (h : PartN ka kb a b pre x W) (ha : I64 a) (hb : I64 b) : x.k ≠ 0 ∧ I64 x.n ∧ (textP (pre.map Part.key)).length ≤ 44 := by
 obtain ⟨⟨post, hp⟩, _⟩ := h
 have h64 : ∀ y ∈ partsL ka kb a b, I64 y.2 := fun y hy => by rcases (parts_mem hy).2 with e | e <;> rw [e] <;> assumption
 have hx := parts_mem (x := x.key) (by rw [← hp]; simp)
 have hl := congrArg List.length hp
 have h2 := parts_len ka kb a b
 have hx64 := h64 x.key (by rw [← hp]; simp)
 have ht := textP_len (pre.map Part.key) (fun y hy => h64 y (by rw [← hp]; exact List.mem_append_left _ hy))
 simp at hl ht
 exact ⟨hx.1, hx64, by omega⟩
theorem name_len (op : Int) : (rowAt op).name.length ≤ 7 := by
 have := rowAt_all (p := fun r => decide (r.name.length ≤ 7)) (by decide) (by decide) op
 exact of_decide_eq_true this

theorem Keep_putObj {O : Nat → Prop} {w W : World} {D : Nat} {o : Obj} (h : Keep O w W) (hD : w.heap.size ≤ D) : Keep O w (W.putObj D o) := h.grown (grownBy_putObj' W D o) (fun g e hl => by cases e; omega)
theorem str_sp (s d : List UInt8) : str s ++ ((⟨#[32]⟩ : ByteArray) ++ str d) = str (s ++ 32 :: d) := by
 apply ByteArray.ext
 simp [ByteArray.data_append]

theorem show_end {w2 W w3 : World} {bt : Nat} {cs : Array Value} {t : TypeId} {u : Value} (h : Blk (w3.setCell ⟨bt, 0, none⟩ u) bt t cs) (h2 : Keep (fun k => k = bt) w2 W) (k4 : Keep NoB W w3) (hlt : bt < w2.heap.size) :
  (Exit.normal = Exit.normal) ∧ (Blk (w3.setCell ⟨bt, 0, none⟩ u) bt t cs ∧ Keep (fun k => k = bt) w2 (w3.setCell ⟨bt, 0, none⟩ u)) ∧ KeepsFrom w2.heap.size W (w3.setCell ⟨bt, 0, none⟩ u) :=
 ⟨rfl, ⟨h, (h2.trans k4 (fun _ hf _ => hf.elim)).setCell (fun _ => rfl) _⟩, keepsFrom_one (Keep.setCell (O := fun k => k = bt) (p := ⟨bt, 0, none⟩) (k4.mono (fun _ hf _ => hf.elim)) (fun _ => rfl) u) hlt⟩

def showAct (op a b : Int) (r : Row) (g h : Nat) (x : Part) (Bo : Nat) : Act :=
 { tmps := #[instV op a b, .pointer (some ⟨g, 0, none⟩), .string ⟨#[]⟩, .pointer (some ⟨h, 0, none⟩), .bool true, .pointer (some ⟨h + 1, 0, none⟩), .pointer (some ⟨Bo, 0, none⟩), .int .i64 x.n, .tuple #[rowV r, .bool true],
   instV op a b, .tuple #[rowV r, .bool true], rowV r, .bool true, .bool true, .bool false, .pointer (some ⟨h, 0, none⟩), .string (str r.name), rowV r, instV op a b,
   .func (.func 102) #[] #[.pointer (some ⟨h + 1 + 1 + 1, 0, none⟩), .pointer (some ⟨h + 1 + 1, 0, none⟩)], .agg #[.int .i64 x.k, .int .i64 (lo x.k), .int .i64 (hi x.k), x.sh, x.gu], .int .i64 x.n,
   undef, undef, undef, undef, undef, undef, undef, undef], defers := [] }

set_option maxRecDepth 100000 in
set_option maxHeartbeats 4000000 in
theorem show_yes (op a b : Int) (w : World) (hok : okI op a b = true) (ha : I64 a) (hb : I64 b) (hL : LaidO w) :
  Calls Tryz.prog 60 #[instV op a b] w fun e w' => ∃ d, e = .returned (.string d) ∧ Hid (d = str (textI op a b)) ∧ Keep NoB w w' := by
 obtain ⟨r, hr⟩ : ∃ r, rowAt op = r := ⟨_, rfl⟩
 have hka := kinds_ok op
 have hkn := kinds_none op
 have hnl := name_len op
 have HT : Hid (str (textI op a b) = str (r.name ++ textP (partsL r.ka r.kb a b))) := by show _ = _; unfold textI; rw [hr, textP_parts _ _ _ _ (hr ▸ hkn)]
 have HR := Lib.hid (fun w => rowFor_any op a b r w (by rw [rowR_ok hok]; exact hr))
 rw [hr] at hka hnl
 rw [hok] at HR
 have HA := Lib.hid ha
 have HB := Lib.hid hb
 clear hok hr hkn ha hb
 refine (callsIn_wide (n := 4)).1 ?_
 refine callsIn_of_wp_marks Tryz.func60 rfl trivial ?_ rfl
 simp only [Tryz.ntmps60, List.size_toArray, List.length_cons, List.length_nil, Nat.reduceAdd, Nat.reduceSub, Array.replicate_succ, Array.replicate_zero, List.push_toArray, List.append_toArray, List.nil_append, List.cons_append]
 gi_wp2_with (first
  | (refine ⟨trivial, ?_⟩; gi_at_call 61; refine (callsIn_wide.2 (HR.out _)).mono ?_; rintro e w1 ⟨rfl, k1⟩; have bi := (Blk.new w 45 #[.int .i64 op, .int .i64 a, .int .i64 b]).keep k1 id; have i0 : ∀ o o', ((w1.alloc o).alloc o').cell? ⟨w.heap.size, 0, none⟩ = some (.int .i64 op) := fun o o' => ((bi.alloc o).alloc o').cell 0; have i1 : ∀ o o', ((w1.alloc o).alloc o').cell? ⟨w.heap.size, 1, none⟩ = some (.int .i64 a) := fun o o' => ((bi.alloc o).alloc o').cell 1; have i2 : ∀ o o', ((w1.alloc o).alloc o').cell? ⟨w.heap.size, 2, none⟩ = some (.int .i64 b) := fun o o' => ((bi.alloc o).alloc o').cell 2)
  | (refine ⟨trivial, ?_⟩; gi_at_call 80; refine (callsIn_wide.2 (parts_any r op a b _)).mono ?_; rintro e w2 ⟨rfl, br, bx, k2⟩))
 simp only [World.size_alloc] at br bx
 have hbt := (Blk.new (w1.alloc (.cells (cells9 r) 82)) 9 #[.string (str r.name)]).keep k2 id
 rw [World.size_alloc] at hbt
 have hltb := hbt.lt
 have hKw : Keep NoB w w2 := keepN ((keepN ((Keep.refl NoB w).alloc _) k1).alloc _ |>.alloc _) k2
 have HLw := Lib.hid hL
 have hsz : w.heap.size < w1.heap.size := by have := k1.size; simp at this; omega
 clear hL bi i0 i1 i2 k1 k2
 have hI : OwnFrom w2.heap.size (fun (pre : List Part) W => Blk W (w1.heap.size + 1) 9 #[.string (str (r.name ++ textP (pre.map Part.key)))] ∧ Keep (fun k => k = w1.heap.size + 1) w2 W) :=
  (blk_own w2.heap.size (w1.heap.size + 1) 9 (fun pre : List Part => #[.string (str (r.name ++ textP (pre.map Part.key)))])).and (keep_own _ (Nat.le_refl _))
 refine wpIn_rangeFunc_brings (m := 2) (gf := 102) (lb := #[.pointer (some ⟨w1.heap.size + 1 + 1 + 1, 0, none⟩), .pointer (some ⟨w1.heap.size + 1 + 1, 0, none⟩)]) rfl (enters_of Tryz.func102 (by kernel_rfl) rfl)
  (parts1_in 2 r op a b (w1.heap.size + 1 + 1 + 1) (w1.heap.size + 1 + 1) ⟨hka.1, hka.2.1⟩ hka.2.2 (fun pre W => Blk W (w1.heap.size + 1) 9 #[.string (str (r.name ++ textP (pre.map Part.key)))] ∧ Keep (fun k => k = w1.heap.size + 1) w2 W)
   (fun pre W h => bx.keep h.2 (by omega)) (fun pre W h => br.keep h.2 (by omega))) (fun _ => rfl) hI ⟨by simpa [textP] using hbt, Keep.refl _ _⟩
  (fun pre x a' W => (Blk W (w1.heap.size + 1) 9 #[.string (str (r.name ++ textP (pre.map Part.key)))] ∧ Keep (fun k => k = w1.heap.size + 1) w2 W) ∧ PartN r.ka r.kb a b pre x W ∧ ∃ Bo, Bo ≠ w1.heap.size + 1 ∧ Blk W Bo 105 #[.int .i64 x.k, .int .i64 (lo x.k), .int .i64 (hi x.k), x.sh, x.gu] ∧ a' = showAct op a b r w.heap.size w1.heap.size x Bo) ?hax ?assign ?body ?done
 case hax =>
  rintro pre x a' s X Y row ⟨h1, ⟨h2, h3⟩, Bo, h4, h5, h6⟩ hg hrow
  exact ⟨hI _ _ _ _ h1 hg hrow, ⟨h2, fnAt_own (β := Unit) _ _ _ _ () _ _ _ h3 hg hrow⟩, Bo, h4, blk_own (β := Unit) _ _ _ (fun _ => _) () _ _ _ h5 hg hrow, h6⟩
 case assign =>
  rintro l pre ⟨k, n, sh, gu⟩ W hi hen
  have hne : W.heap.size ≠ w1.heap.size + 1 := by have := hi.1.lt; omega
  have hen2 := Lib.hid hen
  have hi2 := Lib.hid hi
  have hk0 := (part_facts hen HA.out HB.out).1
  rcases hen.2 with ⟨h0, _⟩ | ⟨_, h1, h2⟩ | ⟨_, b1, c1, h1, h2, _, _⟩
  ·exact absurd h0 hk0
  all_goals
   simp only at h1 h2
   subst h1 h2
   clear hen hi
   dsimp only [partE, opV]
   gi_wp2
   exact ⟨⟨⟨hi2.out.1.alloc _, hi2.out.2.alloc _⟩, ⟨hen2.out.1, hen2.out.2.keep ((Keep.refl NoB W).alloc _)⟩, W.heap.size, hne, Blk.new W _ _, rfl⟩, keepsFrom_keep ((Keep.refl NoB W).alloc _)⟩
 case body =>
  rintro l pre ⟨k, n, sh, gu⟩ a' W ⟨hi, hen, Bo, hne, bo, rfl⟩
  obtain ⟨hk0, hn, htl⟩ := part_facts hen HA.out HB.out
  have hKW : Keep NoB w W := hKw.trans hi.2 (fun k e hl => by subst e; omega)
  have hSz : (str (r.name ++ textP (pre.map Part.key))).size ≤ 60 := by rw [_root_.Go.Proofs.YtghdibbooegocaaGreatDoor.W.size_of (s := r.name ++ textP (pre.map Part.key)) (by simp), List.length_append]; omega
  have HS : Hid (str (r.name ++ textP ((pre ++ [(⟨k, n, sh, gu⟩ : Part)]).map Part.key)) = str (r.name ++ textP (pre.map Part.key)) ++ ((⟨#[32]⟩ : ByteArray) ++ str (word k n))) := by
   show _ = _
   rw [str_sp, List.map_append]
   simp only [List.map_cons, List.map_nil]
   rw [textP_snoc, List.append_assoc]
   rfl
  have hWd : (str (word k n)).size ≤ 21 := by rw [_root_.Go.Proofs.YtghdibbooegocaaGreatDoor.W.size_of (s := word k n) (by simp)]; exact word_len k n hn
  have hlt := hi.1.lt
  obtain ⟨D, hD⟩ : ∃ D, str (word k n) = D := ⟨_, rfl⟩
  rw [hD] at HS hWd
  generalize str (r.name ++ textP (pre.map Part.key)) = S at hi hSz HS
  have ct : W.cell? ⟨w1.heap.size + 1, 0, none⟩ = some (.string S) := hi.1.cell 0
  have ft := hi.1.frozen 0
  have hB := Lib.hid hi
  clear hi htl
  rcases hen.2 with ⟨h0, _⟩ | ⟨hd, h1, h2⟩ | ⟨hd, b1, c1, h1, h2, hb1, _⟩
  ·exact absurd h0 hk0
  ·simp only at h1 h2 hd
   subst h1 h2
   have HC := Lib.hid (fun (W' : World) (hk : Keep NoB W W') => (show_dig k n W' hd hn (HLw.out.keep (keepN hKW hk))).mono (R' := fun e w' => e = .returned (.string D) ∧ Keep NoB W' w') (fun _ _ ⟨d, he, hd', hk'⟩ => ⟨by rw [he, hd'.out, hD], hk'⟩))
   have co : W.cell? ⟨Bo, 3, none⟩ = some (fnV 108) := bo.cell 3
   clear hen hd hk0 bo hD
   dsimp only [showAct]
   have hmix : Tryz.prog.follows .mixedOrders = true := by kernel_rfl
   have q1 : ¬ 9223372036854775807 < 1 + D.size := by omega
   have q2 : ¬ 9223372036854775807 < S.size + (1 + D.size) := by omega
   gi_wp2
   gi_region_with_o (refine ⟨trivial, ?_⟩; gi_at_call 108; refine (CallsIn.inRound l (callsIn_wide.2 (HC.out _ (by first | exact Keep.refl _ _ | exact (Keep.refl _ _).drew | exact (Keep.refl _ _).drew.drew)))).mono ?_; rintro e w3 ⟨rfl, k3⟩; have k4 : Keep NoB W w3 := ⟨k3.os, k3.tape, k3.output, k3.size, k3.block⟩; have b3 : Blk w3 (w1.heap.size + 1) 9 #[.string S] := hB.out.1.keep k4 id; have c3 : w3.cell? ⟨w1.heap.size + 1, 0, none⟩ = some (.string S) := b3.cell 0; have f3 : w3.frozen? ⟨w1.heap.size + 1, 0, none⟩ = false := b3.frozen 0)
   all_goals
    have hf : Blk (w3.setCell ⟨w1.heap.size + 1, 0, none⟩ (.string (S ++ ((⟨#[32]⟩ : ByteArray) ++ D)))) (w1.heap.size + 1) 9 #[.string (S ++ ((⟨#[32]⟩ : ByteArray) ++ D))] := b3.put 0 _
    rw [← HS.out] at hf ⊢
    exact show_end hf hB.out.2 k4 hltb
  ·simp only at h1 h2 hd
   subst h1 h2
   have HC := Lib.hid (fun (W' : World) (hk : Keep NoB W W') => (show_word k n b1 W' hd hn (HLw.out.keep (keepN hKW hk)) (hk.cell hb1 id)).mono (R' := fun e w' => e = .returned (.string D) ∧ Keep NoB W' w') (fun _ _ ⟨d, he, hd', hk'⟩ => ⟨by rw [he, hd'.out, hD], hk'⟩))
   have co : W.cell? ⟨Bo, 3, none⟩ = some (boxV 112 b1) := bo.cell 3
   clear hen hd hk0 bo hD hb1
   dsimp only [showAct]
   have hmix : Tryz.prog.follows .mixedOrders = true := by kernel_rfl
   have q1 : ¬ 9223372036854775807 < 1 + D.size := by omega
   have q2 : ¬ 9223372036854775807 < S.size + (1 + D.size) := by omega
   gi_wp2
   gi_region_with_o (refine ⟨trivial, ?_⟩; gi_at_call 112; refine (CallsIn.inRound l (callsIn_wide.2 (HC.out _ (by first | exact Keep.refl _ _ | exact (Keep.refl _ _).drew | exact (Keep.refl _ _).drew.drew)))).mono ?_; rintro e w3 ⟨rfl, k3⟩; have k4 : Keep NoB W w3 := ⟨k3.os, k3.tape, k3.output, k3.size, k3.block⟩; have b3 : Blk w3 (w1.heap.size + 1) 9 #[.string S] := hB.out.1.keep k4 id; have c3 : w3.cell? ⟨w1.heap.size + 1, 0, none⟩ = some (.string S) := b3.cell 0; have f3 : w3.frozen? ⟨w1.heap.size + 1, 0, none⟩ = false := b3.frozen 0)
   all_goals
    have hf : Blk (w3.setCell ⟨w1.heap.size + 1, 0, none⟩ (.string (S ++ ((⟨#[32]⟩ : ByteArray) ++ D)))) (w1.heap.size + 1) 9 #[.string (S ++ ((⟨#[32]⟩ : ByteArray) ++ D))] := b3.put 0 _
    rw [← HS.out] at hf ⊢
    exact show_end hf hB.out.2 k4 hltb
 case done =>
  rintro D xs W hD hS hi hK
  have ct := hi.1.cell 0
  simp only [List.getElem?_toArray, List.getElem?_cons_zero] at ct
  gi_wp2
  refine ⟨by simp, .inl ⟨_, _, rfl, run_takeDeferred hK, ?_⟩⟩
  refine ⟨_, results_tmp rfl _ _ _, _, rfl, ?_, Keep_putObj (hKw.trans hi.2 (fun k e hl => by subst e; omega)) (Nat.le_trans hKw.size hD)⟩
  show _ = _
  rw [HT.out]

end Go.Proofs.YtghdibbooegocaaGreatDoor.O

namespace Go.Proofs.YtghdibbooegocaaGreatDoor.W
open Go.Lib

def pI (l : List UInt8) : Int := match atoiAll l with | .ok v => v | .range => atoiSat l | _ => 0
theorem pI_bounds (l : List UInt8) : -9223372036854775808 ≤ pI l ∧ pI l ≤ 9223372036854775807 := by
 unfold pI
 rcases h : atoiAll l with v | _ | _
 ·obtain ⟨b1, b2⟩ := Lib.atoiAll_bounds h
  simp only
  omega
 ·simp
 ·simp only [atoiSat]; split <;> omega
/-! ### The document's own way of reading -/

end Go.Proofs.YtghdibbooegocaaGreatDoor.W

namespace Go.Proofs
end Go.Proofs

namespace Go.Proofs.YtghdibbooegocaaGreatDoor.W
open Go.RowKit

end Go.Proofs.YtghdibbooegocaaGreatDoor.W

namespace Go.Proofs.YtghdibbooegocaaGreatDoor.W
open Go.RowKit

def letZ (k : Nat) : Int := if k = 1 then 73 else if k = 2 then 82 else if k = 3 then 70 else if k = 4 then 80 else 0
def unletZ (r : Int) : Int := if r = 73 then 1 else if r = 82 then 2 else if r = 70 then 3 else if r = 80 then 4 else 0
theorem unletZ_byte (c : UInt8) : unletZ (c.toNat : Int) = unlet c := by
 have e : ∀ d : UInt8, ((c.toNat : Int) = (d.toNat : Int)) ↔ c = d := fun d => ⟨fun h => UInt8.toNat_inj.1 (by omega), fun h => by rw [h]⟩
 unfold unletZ unlet
 have h1 := e 73; have h2 := e 82; have h3 := e 70; have h4 := e 80
 simp only [show ((73 : UInt8).toNat : Int) = 73 from rfl, show ((82 : UInt8).toNat : Int) = 82 from rfl, show ((70 : UInt8).toNat : Int) = 70 from rfl, show ((80 : UInt8).toNat : Int) = 80 from rfl] at h1 h2 h3 h4
 simp only [h1, h2, h3, h4]
theorem unletZ_big {r : Int} (h : 128 ≤ r) : unletZ r = 0 := by unfold unletZ; rw [if_neg (by omega), if_neg (by omega), if_neg (by omega), if_neg (by omega)]
theorem unletZ_hit {k : Nat} {r : Int} (h1 : 1 ≤ k) (h2 : k < 5) (h : letZ k = r) : unletZ r = k := by
 subst h
 obtain rfl | rfl | rfl | rfl : k = 1 ∨ k = 2 ∨ k = 3 ∨ k = 4 := by omega
 all_goals rfl
theorem unletZ_miss {r : Int} (h : ∀ j, 1 ≤ j → j < 5 → letZ j ≠ r) : unletZ r = 0 := by
 have h1 := h 1 (by omega) (by omega)
 have h2 := h 2 (by omega) (by omega)
 have h3 := h 3 (by omega) (by omega)
 have h4 := h 4 (by omega) (by omega)
 have e1 : letZ 1 = 73 := rfl
 have e2 : letZ 2 = 82 := rfl
 have e3 : letZ 3 = 70 := rfl
 have e4 : letZ 4 = 80 := rfl
 unfold unletZ
 rw [if_neg (by omega), if_neg (by omega), if_neg (by omega), if_neg (by omega)]
theorem letZ_cell {w : World} (h : LetAt w) {k : Nat} (h1 : 1 ≤ k) (h2 : k < 5) : w.cell? ⟨1, k, none⟩ = some (.int .i32 (letZ k)) := by
 rw [h.cell k]
 obtain rfl | rfl | rfl | rfl : k = 1 ∨ k = 2 ∨ k = 3 ∨ k = 4 := by omega
 all_goals rfl

set_option maxHeartbeats 1000000 in
theorem lettered_any (r : Int) (w : World) (h : LetAt w) :
  Calls Tryz.prog 122 #[.int .i32 r] w fun e w' => e = .returned (.tuple #[.int .i64 (unletZ r), .bool (decide (unletZ r ≠ 0))]) ∧ w = w' := by
 go_enter Tryz.func122, Tryz.ntmps122
 go_wp2
 go_loop [4] (fun i => ∃ k : Nat, 1 ≤ k ∧ k ≤ 5 ∧ i = .int .i64 k ∧ Hid (∀ j, 1 ≤ j → j < k → letZ j ≠ r)) (fun i => 5 - (intOf i).toNat)
 case atStart => exact ⟨1, by omega, by omega, rfl, fun j h1 h2 => by omega⟩
 case round =>
  obtain ⟨k, hk1, hk5, rfl, hm⟩ := hrel
  by_cases hlt : k < 5
  ·have c := letZ_cell h hk1 hlt
   by_cases he : letZ k = r
   ·have HU := Lib.hid (unletZ_hit hk1 hlt he)
    have he' : (letZ k == r) = true := by rw [beq_iff_eq]; exact he
    clear he
    go_wp2
    go_ret2
    exact ⟨by rw [HU.out]; congr 3; simp; omega, rfl⟩
   ·have he' : (letZ k == r) = false := by rw [beq_eq_false_iff_ne]; exact he
    have hm2 : Hid (∀ j, 1 ≤ j → j < k + 1 → letZ j ≠ r) := fun j h1 h2 => by
     rcases Nat.lt_or_ge j k with h3 | h3
     ·exact hm.out j h1 h3
     ·obtain rfl : j = k := by omega
      exact he
    clear he
    go_wp2
    go_round
    case rel => exact ⟨k + 1, by omega, by omega, by go_num, hm2⟩
    case measure => simp [intOf]; omega
  ·obtain rfl : k = 5 := by omega
   have HU := Lib.hid (unletZ_miss hm.out)
   go_wp2
   go_ret2
   exact ⟨by rw [HU.out]; rfl, rfl⟩

theorem decode_big (s : ByteArray) (i : Nat) (h : 128 ≤ (s.get! i).toNat) : 128 ≤ (Utf8.decode s i).1 := by
 rw [Lib.decode_at]
 have hb : (s.get! i).toNat < 256 := (s.get! i).toNat_lt
 generalize (s.get! i).toNat = b0 at h hb
 unfold Lib.decodeN
 repeat' split
 all_goals first | omega | (simp only; omega)

theorem own_iter {w : World} {E size n : Nat} {O : Nat → Prop} {v : Value} {xs : List Value} (h : Own w E size O v n xs) {k pos : Nat} {s : ByteArray} (hk : w.heap[k]? = some (.stringIter s pos)) : v.ownBlock ≠ some k := by
 rcases h.1.2 with ⟨rfl, _⟩ | ⟨g, cap, cur, rfl, _, hg, _⟩
 ·simp [Value.ownBlock]
 ·intro e
  have : g = k := by simpa [Value.ownBlock] using e
  subst this
  rw [hk] at hg; cases hg
theorem _root_.Go.Proofs.YtghdibbooegocaaGreatDoor.Own.iterAt {w : World} {E size n : Nat} {O : Nat → Prop} {v : Value} {xs : List Value} (h : Own w E size O v n xs) {k pos : Nat} {s : ByteArray} (hk : w.heap[k]? = some (.stringIter s pos)) (pos' : Nat) : Own (w.iterAt k s pos') E size O v n xs := by
 have hne := own_iter h hk
 refine ⟨⟨h.1.1, ?_⟩, h.2⟩
 rcases h.1.2 with h2 | ⟨g, cap, cur, rfl, hb, hh, r⟩
 ·exact .inl h2
 ·exact .inr ⟨g, cap, cur, rfl, hb, (Lib.iterAt_other w k g s pos' (fun e => hne (by rw [e]; rfl))).trans hh, r⟩
theorem _root_.Go.Proofs.YtghdibbooegocaaGreatDoor.Keep.iterAt {w w' : World} (h : Keep NoB w w') {k : Nat} (hk : w.heap.size ≤ k) (s : ByteArray) (pos : Nat) : Keep NoB w (w'.iterAt k s pos) := Keep.of_below (Lib.below_iterAt h.toBelow hk s pos)

def tN (s : List UInt8) : Nat := if (untxt s).isSome = true then s.length else 0
def tL (s : List UInt8) : List Int := (untxt s).getD []
def tE (s : List UInt8) : Int := if (untxt s).isSome = true then 0 else 20
theorem untxt_none {s : List UInt8} (h : ¬ (s.length ≤ 1024 ∧ (s.all fun c => decide (unlet c ≠ 0)) = true)) : untxt s = none := by unfold untxt; rw [if_neg h]
theorem untxt_some {s : List UInt8} (h1 : s.length ≤ 1024) (h2 : (s.all fun c => decide (unlet c ≠ 0)) = true) : untxt s = some (s.map unlet) := by unfold untxt; rw [if_pos ⟨h1, h2⟩]
theorem tL_length (s : List UInt8) : (tL s).length = tN s := by
 unfold tL tN
 by_cases h : s.length ≤ 1024 ∧ (s.all fun c => decide (unlet c ≠ 0)) = true
 ·rw [untxt_some h.1 h.2]; simp
 ·rw [untxt_none h]; simp
def TypesR (w : World) (s : List UInt8) (e : Ending) (w' : World) : Prop :=
 ∃ B d, e = .returned (.tuple #[.slice B (tN s) d, .int .i64 (tE s)]) ∧ Own w' 3 1 (Fresh w) (.slice B (tN s) d) (tN s) (ivs (tL s)) ∧ Keep NoB w w'
theorem types_none {w w' : World} {s : List UInt8} (h : untxt s = none) (hK : Keep NoB w w') : TypesR w s (.returned (.tuple #[.slice none 0 0, .int .i64 20])) w' := by
 have e1 : tN s = 0 := by unfold tN; rw [h]; rfl
 have e2 : tL s = [] := by unfold tL; rw [h]; rfl
 have e3 : tE s = 20 := by unfold tE; rw [h]; rfl
 unfold TypesR
 rw [e1, e2, e3]
 exact ⟨none, 0, rfl, Own.nil _ _ _ _, hK⟩
theorem types_some {w w' : World} {s : List UInt8} {B : Option Addr} {d : Nat} (h : untxt s = some (s.map unlet)) (hO : Own w' 3 1 (Fresh w) (.slice B s.length d) s.length (ivs (s.map unlet))) (hK : Keep NoB w w') :
  TypesR w s (.returned (.tuple #[.slice B s.length d, .int .i64 0])) w' := by
 have e1 : tN s = s.length := by unfold tN; rw [h]; rfl
 have e2 : tL s = s.map unlet := by unfold tL; rw [h]; rfl
 have e3 : tE s = 0 := by unfold tE; rw [h]; rfl
 unfold TypesR
 rw [e1, e2, e3]
 exact ⟨B, d, rfl, hO, hK⟩

end Go.Proofs.YtghdibbooegocaaGreatDoor.W

namespace Go.Proofs.YtghdibbooegocaaGreatDoor.O

theorem byte_at {r : List UInt8} : ∀ {s : List UInt8}, (∀ c ∈ s, c ≠ 32) → Lib.indexByte (s ++ 32 :: r) 32 = (s.length : Int)
 | [], _ => by simp [Lib.indexByte]
 | b :: s, h => by
  have ih := byte_at (r := r) (s := s) (fun c hc => h c (by simp [hc]))
  have hb : (b == 32) = false := by rw [beq_eq_false_iff_ne]; exact h b (by simp)
  have hn : (((s.length : Nat) : Int) == -1) = false := by rw [beq_eq_false_iff_ne]; omega
  rw [List.cons_append, Lib.indexByte, hb, ih, hn]
  simp
theorem byte_none : ∀ {s : List UInt8}, (∀ c ∈ s, c ≠ 32) → Lib.indexByte s 32 = -1
 | [], _ => rfl
 | b :: s, h => by
  have ih := byte_none (s := s) (fun c hc => h c (by simp [hc]))
  have hb : (b == 32) = false := by rw [beq_eq_false_iff_ne]; exact h b (by simp)
  rw [Lib.indexByte, hb, ih]
  simp
theorem cut_at {s r : List UInt8} (h : ∀ c ∈ s, c ≠ 32) : Lib.cut (s ++ 32 :: r) [32] = (s, r, true) := by
 have e : Lib.index (s ++ 32 :: r) [32] = (s.length : Int) := by rw [Lib.index_one, byte_at h]
 have e2 : s ++ 32 :: r = (s ++ [32]) ++ r := by simp
 unfold Lib.cut
 rw [e, if_pos (by omega), Int.toNat_natCast, List.take_left]
 have e3 : (s ++ 32 :: r).drop (s.length + [(32 : UInt8)].length) = r := by
  rw [e2]
  have : s.length + [(32 : UInt8)].length = (s ++ [32]).length := by simp
  rw [this, List.drop_left]
 rw [e3]
theorem cut_none {s : List UInt8} (h : ∀ c ∈ s, c ≠ 32) : Lib.cut s [32] = (s, [], false) := by
 unfold Lib.cut
 rw [Lib.index_one, byte_none h]
 rfl
theorem cut_word {s r : List UInt8} (h : ∀ c ∈ s, c ≠ 32) (hr : r = [] ∨ ∃ r', r = 32 :: r') : (Lib.cut (s ++ r) [32]).1 = s ∧ (Lib.cut (s ++ r) [32]).2.1 = r.drop 1 := by
 rcases hr with rfl | ⟨r', rfl⟩
 ·rw [List.append_nil, cut_none h]; exact ⟨rfl, rfl⟩
 ·rw [cut_at h]; exact ⟨rfl, rfl⟩
theorem cut_len (s : List UInt8) : (Lib.cut s [32]).1.length ≤ s.length ∧ (Lib.cut s [32]).2.1.length ≤ s.length := by
 unfold Lib.cut
 split
 ·simp; omega
 ·simp

/-! ### Names -/

theorem str_inj {s t : List UInt8} (h : str s = str t) : s = t := by
 have := congrArg (fun x : ByteArray => x.data.toList) h
 simpa using this
theorem find_spec (S : ByteArray) : ∀ n k, (findFrom S n k = -1 ∧ ∀ j, k ≤ j → j < k + n → nm j ≠ S) ∨ (∃ j : Nat, k ≤ j ∧ j < k + n ∧ findFrom S n k = (j : Int) ∧ nm j = S)
 | 0, k => .inl ⟨rfl, fun j h1 h2 => by omega⟩
 | n + 1, k => by
  by_cases h : nm k = S
  ·exact .inr ⟨k, Nat.le_refl _, by omega, by rw [findFrom, if_pos h], h⟩
  ·rw [findFrom, if_neg h]
   rcases find_spec S n (k + 1) with ⟨h1, h2⟩ | ⟨j, h1, h2, h3, h4⟩
   ·refine .inl ⟨h1, fun j h3 h4 => ?_⟩
    by_cases e : j = k
    ·rw [e]; exact h
    ·exact h2 j (by omega) (by omega)
   ·exact .inr ⟨j, by omega, by omega, h3, h4⟩
theorem findI_spec (S : ByteArray) : (findI S = -1 ∧ ∀ op : Int, isOp op = true → str (rowAt op).name ≠ S) ∨ (isOp (findI S) = true ∧ str (rowAt (findI S)).name = S) := by
 rcases find_spec S 30 0 with ⟨h1, h2⟩ | ⟨j, _, h2, h3, h4⟩
 ·refine .inl ⟨h1, fun op ho e => ?_⟩
  have hb := isOp_yes ho
  refine h2 op.toNat (Nat.zero_le _) (by omega) ?_
  unfold nm
  rw [show ((op.toNat : Nat) : Int) = op by omega]
  exact e
 ·refine .inr ?_
  have e : findI S = (j : Int) := h3
  rw [e]
  exact ⟨decide_eq_true (by omega), h4⟩
theorem findI_of {op : Int} (h : isOp op = true) : findI (str (rowAt op).name) = op := by
 rcases findI_spec (str (rowAt op).name) with ⟨_, h2⟩ | ⟨h1, h2⟩
 ·exact absurd rfl (h2 op h)
 ·exact name_inj h1 h (str_inj h2)
theorem name_ne (op : Int) (h : isOp op = true) : (rowAt op).name ≠ [] := by
 obtain ⟨hk, e⟩ := rowAt_yes h
 rw [e]
 have := List.all_eq_true.1 (show rowsL.all (fun r => decide (r.name ≠ [])) = true by decide) _ (List.getElem_mem hk)
 exact of_decide_eq_true this

/-! ### Operands -/

def ltrI (s : List UInt8) : Int := if W.tE s = 0 ∧ W.tN s = 1 then (W.tL s).getD 0 0 else 0
def gK (k : Int) (s : List UInt8) : Int := if digK k = true then W.pI s else if k = 8 then A.ofI A.binNs s else if k = 9 then A.ofI A.unNs s else if k = 2 ∨ k = 3 then ltrI s else 0
theorem gK_word {k n : Int} (hk : 0 ≤ k ∧ k ≤ 10) (h0 : k ≠ 0) (hn : inK k n = true) : gK k (word k n) = n := by
 have hb := in_bounds hn
 have hd := of_decide_eq_true hn
 cases h : digK k
 ·have hc : k = 2 ∨ k = 3 ∨ k = 8 ∨ k = 9 := by have := of_decide_eq_false h; omega
  rcases hc with rfl | rfl | rfl | rfl
  ·have e1 : lo 2 = 1 := rfl
   have e2 : hi 2 = 4 := rfl
   have hn : n = 1 ∨ n = 2 ∨ n = 3 ∨ n = 4 := by omega
   rcases hn with rfl | rfl | rfl | rfl <;> decide +kernel
  ·have e1 : lo 3 = 1 := rfl
   have e2 : hi 3 = 3 := rfl
   have hn : n = 1 ∨ n = 2 ∨ n = 3 := by omega
   rcases hn with rfl | rfl | rfl <;> decide +kernel
  ·have e1 : lo 8 = 0 := rfl
   have e2 : hi 8 = 13 := rfl
   have : ∀ j : Fin 14, gK 8 (word 8 (j.1 : Int)) = (j.1 : Int) := by decide +kernel
   have := this ⟨n.toNat, by omega⟩
   rw [show ((n.toNat : Nat) : Int) = n by omega] at this
   exact this
  ·have e1 : lo 9 = 0 := rfl
   have e2 : hi 9 = 8 := rfl
   have : ∀ j : Fin 9, gK 9 (word 9 (j.1 : Int)) = (j.1 : Int) := by decide +kernel
   have := this ⟨n.toNat, by omega⟩
   rw [show ((n.toNat : Nat) : Int) = n by omega] at this
   exact this
 ·unfold gK
  rw [if_pos h, word_dig h]
  unfold W.pI
  rw [W.atoi_itoa _ hb.1.1 hb.1.2]
theorem ofI_bounds (l : List (List UInt8)) (s : List UInt8) (hl : l.length ≤ 1000) : 0 ≤ A.ofI l s ∧ A.ofI l s ≤ 1000 := by
 unfold A.ofI
 split
 ·rename_i h
  have := List.idxOf_lt_length_of_mem h
  omega
 ·omega
theorem unlet_bounds (c : UInt8) : 0 ≤ W.unlet c ∧ W.unlet c ≤ 4 := by
 unfold W.unlet
 repeat' split
 all_goals omega
theorem ltrI_bounds (s : List UInt8) : 0 ≤ ltrI s ∧ ltrI s ≤ 4 := by
 unfold ltrI
 split
 ·unfold W.tL W.untxt
  split
  ·rcases s with _ | ⟨c, r⟩
   ·simp
   ·exact unlet_bounds c
  ·simp
 ·omega
theorem gK_bounds (k : Int) (s : List UInt8) : I64 (gK k s) := by
 unfold gK I64
 split
 ·exact W.pI_bounds s
 ·split
  ·have := ofI_bounds A.binNs s (by decide); omega
  ·split
   ·have := ofI_bounds A.unNs s (by decide); omega
   ·split
    ·have := ltrI_bounds s; omega
    ·omega

def gA (op : Int) (t : List UInt8) : Int := if (rowAt op).ka = 0 then 0 else gK (rowAt op).ka (Lib.cut t [32]).1
def gB (op : Int) (t : List UInt8) : Int := if (rowAt op).kb = 0 then 0 else gK (rowAt op).kb (Lib.cut t [32]).2.1
theorem gA_bounds (op : Int) (t : List UInt8) : I64 (gA op t) := by
 unfold gA
 split
 ·unfold I64; omega
 ·exact gK_bounds _ _
theorem gB_bounds (op : Int) (t : List UInt8) : I64 (gB op t) := by
 unfold gB
 split
 ·unfold I64; omega
 ·exact gK_bounds _ _

theorem text_cut {op a b : Int} :
  (Lib.cut (textI op a b) [32]).1 = (rowAt op).name ∧ (Lib.cut (textI op a b) [32]).2.1 = (partL (rowAt op).ka a ++ partL (rowAt op).kb b).drop 1 := by
 unfold textI
 refine cut_word (name_no op) ?_
 rcases part_sp (rowAt op).ka a with e | ⟨r, e⟩
 ·rw [e]; exact part_sp (rowAt op).kb b
 ·rw [e]; exact .inr ⟨_, rfl⟩
theorem guess_hit {op a b : Int} (h : okI op a b = true) : gA op (Lib.cut (textI op a b) [32]).2.1 = a ∧ gB op (Lib.cut (textI op a b) [32]).2.1 = b := by
 obtain ⟨ho, hA, hB⟩ := ok_op h
 have hk := kinds_ok op
 have hn := kinds_none op
 rw [text_cut.2]
 unfold gA gB
 by_cases h0 : (rowAt op).ka = 0
 ·have h1 := hn h0
  rw [if_pos h0, if_pos h1]
  rw [h0] at hA
  rw [h1] at hB
  exact ⟨((in_bounds hA).2.2 rfl).symm, ((in_bounds hB).2.2 rfl).symm⟩
 ·rw [if_neg h0]
  have e1 : partL (rowAt op).ka a = 32 :: word (rowAt op).ka a := by unfold partL; rw [if_neg h0]
  rw [e1, List.cons_append, List.drop_succ_cons, List.drop_zero]
  have hc := cut_word (word_no (rowAt op).ka a) (part_sp (rowAt op).kb b)
  rw [hc.1, hc.2]
  refine ⟨gK_word ⟨hk.1, hk.2.1⟩ h0 hA, ?_⟩
  by_cases h1 : (rowAt op).kb = 0
  ·rw [if_pos h1]
   rw [h1] at hB
   exact ((in_bounds hB).2.2 rfl).symm
  ·rw [if_neg h1]
   have e2 : partL (rowAt op).kb b = 32 :: word (rowAt op).kb b := by unfold partL; rw [if_neg h1]
   rw [e2, List.drop_succ_cons, List.drop_zero]
   exact gK_word ⟨hk.2.2.1, hk.2.2.2⟩ h1 hB

def ReadV (s : List UInt8) (v : Value) : Prop :=
 (∃ op a b, okI op a b = true ∧ textI op a b = s ∧ v = .tuple #[instV op a b, .int .i64 0]) ∨ ((∀ op a b, okI op a b = true → textI op a b ≠ s) ∧ v = .tuple #[instV 0 0 0, .int .i64 40])
theorem readV_one {s : List UInt8} {u v : Value} (h1 : ReadV s u) (h2 : ReadV s v) : u = v := by
 rcases h1 with ⟨op, a, b, h1, e1, rfl⟩ | ⟨h1, rfl⟩
 ·rcases h2 with ⟨op', a', b', h2, e2, rfl⟩ | ⟨h2, rfl⟩
  ·obtain ⟨rfl, rfl, rfl⟩ := text_inj h1 h2 (e1.trans e2.symm); rfl
  ·exact absurd e1 (h2 op a b h1)
 ·rcases h2 with ⟨op', a', b', h2, e2, rfl⟩ | ⟨h2, rfl⟩
  ·exact absurd e2 (h1 op' a' b' h2)
  ·rfl
theorem read_nameless {s : List UInt8} (h : findI (str (Lib.cut s [32]).1) < 0) : ReadV s (.tuple #[instV 0 0 0, .int .i64 40]) := by
 refine .inr ⟨fun op a b hok e => ?_, rfl⟩
 subst e
 rw [text_cut.1, findI_of (ok_op hok).1] at h
 have := isOp_yes (ok_op hok).1
 omega
theorem read_yes {s : List UInt8} {op a b : Int} (hop : isOp op = true) (hn : str (rowAt op).name = str (Lib.cut s [32]).1) (h : showI op a b = s) : ReadV s (.tuple #[instV op a b, .int .i64 0]) := by
 cases hok : okI op a b
 ·unfold showI at h
  rw [if_neg (by rw [hok]; decide)] at h
  subst h
  exact absurd (str_inj hn) (name_ne op hop)
 ·unfold showI at h
  rw [if_pos hok] at h
  exact .inl ⟨op, a, b, hok, h, rfl⟩
theorem read_no {s : List UInt8} (op a b : Int) (hop : op = findI (str (Lib.cut s [32]).1)) (h : ∀ x y, okI op x y = true → textI op x y = s → a = x ∧ b = y) (hs : showI op a b ≠ s) :
  ReadV s (.tuple #[instV 0 0 0, .int .i64 40]) := by
 refine .inr ⟨fun op' x y hok e => ?_, rfl⟩
 have he := e
 subst e
 rw [text_cut.1, findI_of (ok_op hok).1] at hop
 subst hop
 obtain ⟨rfl, rfl⟩ := h x y hok rfl
 unfold showI at hs
 rw [if_pos hok] at hs
 exact hs rfl
theorem read_miss {s : List UInt8} {op : Int} (hop : findI (str (Lib.cut s [32]).1) = op) (hs : showI op (gA op (Lib.cut s [32]).2.1) (gB op (Lib.cut s [32]).2.1) ≠ s) : ReadV s (.tuple #[instV 0 0 0, .int .i64 40]) := by
 refine read_no op _ _ hop.symm (fun x y hok e => ?_) hs
 subst e
 exact guess_hit hok

end Go.Proofs.YtghdibbooegocaaGreatDoor.O

namespace Go.Proofs.YtghdibbooegocaaGreatDoor.M

abbrev Bs := List UInt8
abbrev Ln := Nat × List Bs

def gapB (c : UInt8) : Bool := decide (c = 32 ∨ c = 9)
def endB (c : UInt8) : Bool := decide (c = 10 ∨ c = 59)
def fl (cur : Bs) : List Bs := if cur = [] then [] else [cur]
def wgo (cur : Bs) : Bs → List Bs
 | [] => fl cur
 | c :: r => if endB c = true then fl cur else if gapB c = true then fl cur ++ wgo [] r else wgo (cur ++ [c]) r
def wordsL (s : Bs) : List Bs := wgo [] s
def one (n : Nat) (cur : Bs) : List Ln := if wordsL cur = [] then [] else [(n, wordsL cur)]
def joinW : List Bs → Bs
 | [] => []
 | [w] => w
 | w :: v :: ws => w ++ 32 :: joinW (v :: ws)
/-! ### Lines -/

/-! ### What stands in a normal text -/

/-! ### Notes put in -/

end Go.Proofs.YtghdibbooegocaaGreatDoor.M

namespace Go.Proofs.YtghdibbooegocaaGreatDoor.M
open Go.RowKit

structure Nm where
 ln : Nat
 fn : Nat
 pl : Nat
 s : Bs
 lb : Bool
structure St where
 im : I.Im
 ns : List Nm
def ofA (s : Bs) : Option Nat := O.rowsL.findIdx? fun r => decide (r.name = s)
def rdA (s : Bs) : Option C.I3 := match ofA (Lib.cut s [32]).1 with
 | none => none
 | some op =>
  if C.ok1 ((op : Int), O.gA (op : Int) (Lib.cut s [32]).2.1, O.gB (op : Int) (Lib.cut s [32]).2.1) = true ∧ O.textI (op : Int) (O.gA (op : Int) (Lib.cut s [32]).2.1) (O.gB (op : Int) (Lib.cut s [32]).2.1) = s
  then some ((op : Int), O.gA (op : Int) (Lib.cut s [32]).2.1, O.gB (op : Int) (Lib.cut s [32]).2.1) else none
def kindA (op : Int) : Nat := if op = 18 ∨ op = 19 then 1 else if (20 ≤ op ∧ op ≤ 23) ∨ op = 11 then 2 else 0

def shapeW : Bs := [115, 104, 97, 112, 101]
def funcW : Bs := [102, 117, 110, 99]
def localW : Bs := [108, 111, 99, 97, 108]

section
variable {α β : Type}
def upd (g : α → α) : List α → List α
 | [] => []
 | [x] => [g x]
 | x :: y :: r => x :: upd g (y :: r)
end

def stShape (st : St) (l : Ln) : Option St := match l.2 with
 | [a, b] => if a = shapeW ∧ st.im.fn = [] then (S.rdS b).map fun x => ⟨⟨st.im.sh ++ [x], st.im.fn⟩, st.ns⟩ else none
 | _ => none
def stFunc (st : St) (l : Ln) : Option St := match l.2 with
 | [a, b, c] => if a = funcW ∧ F.okN b = true then (S.rdG c).map fun g => ⟨⟨st.im.sh, st.im.fn ++ [⟨b, g.1, g.2, [], []⟩]⟩, st.ns⟩ else none
 | _ => none
def hasL (ns : List Nm) (fn : Nat) : Bool := ns.any fun x => x.lb && decide (x.fn = fn)
def stLocal (st : St) (l : Ln) : Option St := match l.2, st.im.fn.getLast? with
 | [a, b], some f => if a = localW ∧ f.lc = [] ∧ f.bd = [] ∧ hasL st.ns (st.im.fn.length - 1) = false then (W.untxt b).map fun t => ⟨⟨st.im.sh, upd (fun f => { f with lc := t }) st.im.fn⟩, st.ns⟩ else none
 | _, _ => none
def stLabel (st : St) (l : Ln) : Option St := match l.2, st.im.fn.getLast? with
 | [a], some f => if a.getLast? = some 58 ∧ F.okN a.dropLast = true then some ⟨st.im, st.ns ++ [⟨l.1, st.im.fn.length - 1, f.bd.length, a.dropLast, true⟩]⟩ else none
 | _, _ => none
def addI (st : St) (x : C.I3) (ns : List Nm) : St := ⟨⟨st.im.sh, upd (fun f => { f with bd := f.bd ++ [x] }) st.im.fn⟩, ns⟩
def stName (st : St) (l : Ln) (f : F.Fu) : Option St := match l.2 with
 | [a, b] => match ofA a with
  | some op => if kindA op ≠ 0 ∧ F.okN b = true then some (addI st ((op : Int), 0, 0) (st.ns ++ [⟨l.1, st.im.fn.length - 1, f.bd.length, b, false⟩])) else none
  | none => none
 | _ => none
def stInstr (st : St) (l : Ln) : Option St := match st.im.fn.getLast? with
 | some f => match rdA (joinW l.2) with
  | some x => some (addI st x st.ns)
  | none => stName st l f
 | none => none
def step (st : St) (l : Ln) : Option St :=
 (stShape st l).or ((stFunc st l).or ((stLocal st l).or ((stLabel st l).or (stInstr st l))))
/-! ### Names -/

def again (pre : List Nm) (x : Nm) : Bool := pre.any fun y => y.lb && (decide (y.fn = x.fn) && decide (y.s = x.s))
/-! ### What lines say does not hang on their numbers -/

end Go.Proofs.YtghdibbooegocaaGreatDoor.M

namespace Go.Proofs.YtghdibbooegocaaGreatDoor.M
open Go.RowKit

/-! ### The words of a text that is written -/

/-! ### A line at a time -/

/-! ### Labels -/

def lbl (i : Int) : Bs := 76 :: Lib.itoa i
end Go.Proofs.YtghdibbooegocaaGreatDoor.M

namespace Go.Proofs.YtghdibbooegocaaGreatDoor.M
open Go.RowKit

/-! ### A written image -/

/-! ### The lines are the text's -/

/-! ### Names are put -/

/-! ### The names of a written image -/

def apart (x y : Nm) : Prop := ¬ (x.lb = true ∧ x.fn = y.fn ∧ x.s = y.s ∧ y.lb = true)
end Go.Proofs.YtghdibbooegocaaGreatDoor.M

namespace Go.Proofs.YtghdibbooegocaaGreatDoor.M.L
open Go.RowKit

/-! ### An instruction that bears a name -/

/-! ### A written image -/

abbrev Labs := Nat → Nat → Option Bs
section
variable {lb : Nat → Option Bs} {nw : C.I3 → Option Bs} (hl : ∀ i s, lb i = some s → F.okN s = true) (hn : ∀ x s, nw x = some s → F.okN s = true ∧ kindA x.1 ≠ 0)
include hl hn
end
/-! ### The names are put -/

end Go.Proofs.YtghdibbooegocaaGreatDoor.M.L

namespace Go.Proofs.YtghdibbooegocaaGreatDoor.M.L
open Go.RowKit

/-! ### Targets, labels, names -/

def hitB (b : List C.I3) (i : Nat) : Bool := b.any fun x => C.gB x && decide (x.2.1 = (i : Int))
def tgs (b : List C.I3) : List Nat := (List.range b.length).filter (hitB b)
def labA (t : List Nat) (i : Nat) : Option Bs := (t.findIdx? fun j => decide (j = i)).map fun n => lbl ((n : Nat) : Int)
def LBp (p : I.Im) : Labs := fun k i => (p.fn[k]?).bind fun f => labA (tgs f.bd) i
/-! ### The listings as lines -/

section
variable {p : I.Im} {k : Nat} {t : List Nat} (ht : ∀ i, LBp p k i = labA t i)
include ht
end
/-! ### What is read of them -/

end Go.Proofs.YtghdibbooegocaaGreatDoor.M.L

namespace Go.Proofs.YtghdibbooegocaaGreatDoor.M.L
open Go.RowKit

section
variable {zs : List Int}
end
theorem asc_ext : ∀ (l r : List Int), l.Pairwise (· < ·) → r.Pairwise (· < ·) → (∀ x, x ∈ l ↔ x ∈ r) → l = r
 | [], [], _, _, _ => rfl
 | [], y :: r, _, _, h => by have := (h y).2 (by simp); cases this
 | x :: l, [], _, _, h => by have := (h x).1 (by simp); cases this
 | x :: l, y :: r, hl, hr, h => by
  rw [List.pairwise_cons] at hl hr
  have e : x = y := by
   have h1 : x ∈ y :: r := (h x).1 (by simp)
   have h2 : y ∈ x :: l := (h y).2 (by simp)
   rcases List.mem_cons.1 h1 with e | h1
   ·exact e
   ·rcases List.mem_cons.1 h2 with e | h2
    ·exact e.symm
    ·have := hl.1 y h2; have := hr.1 x h1; omega
  subst e
  congr 1
  refine asc_ext l r hl.2 hr.2 fun z => ⟨fun hz => ?_, fun hz => ?_⟩
  ·have h1 := (h z).1 (List.mem_cons_of_mem _ hz)
   rcases List.mem_cons.1 h1 with e | h1
   ·have := hl.1 z hz; omega
   ·exact h1
  ·have h1 := (h z).2 (List.mem_cons_of_mem _ hz)
   rcases List.mem_cons.1 h1 with e | h1
   ·have := hr.1 z hz; omega
   ·exact h1
theorem sort_asc (l : List Int) : (l.mergeSort fun x y => decide (x ≤ y)).Pairwise (· ≤ ·) := by
 have h := List.pairwise_mergeSort (le := fun x y : Int => decide (x ≤ y)) (fun a b c h1 h2 => by simp only [decide_eq_true_eq] at *; omega) (fun a b => by simp only [Bool.or_eq_true, decide_eq_true_eq]; omega) l
 exact h.imp fun h => of_decide_eq_true h

end Go.Proofs.YtghdibbooegocaaGreatDoor.M.L

namespace Go.Proofs.YtghdibbooegocaaGreatDoor.G
open Go.RowKit W

abbrev sortL (l : List Int) : List Int := l.mergeSort fun x y => decide (x ≤ y)
theorem sort_is {l t : List Int} (hd : l.Nodup) (ht : t.Pairwise (· < ·)) (h : ∀ x, x ∈ l ↔ x ∈ t) : sortL l = t := by
 refine M.L.asc_ext _ _ ?_ ht fun x => by rw [List.mem_mergeSort]; exact h x
 have h1 := M.L.sort_asc l
 have h2 : (sortL l).Nodup := (List.mergeSort_perm l _).nodup_iff.2 hd
 exact (h1.and h2).imp fun ⟨h1, h2⟩ => by omega
theorem nz_sort {l t : List Nat} (hd : l.Nodup) (ht : t.Pairwise (· < ·)) (h : ∀ x, x ∈ l ↔ x ∈ t) : sortL (nz l) = nz t := by
 refine sort_is (List.Pairwise.map _ (fun a b h => by omega) hd) (List.Pairwise.map _ (fun a b h => by omega) ht) fun x => ?_
 rw [List.mem_map, List.mem_map]
 exact ⟨fun ⟨a, ha, e⟩ => ⟨a, (h a).1 ha, e⟩, fun ⟨a, ha, e⟩ => ⟨a, (h a).2 ha, e⟩⟩

theorem sort_any {w w1 : World} {v : Value} {zs : List Int} (h : Own w1 3 1 (Fresh w) v zs.length (ivs zs)) (hk : Keep NoB w w1) (hn : zs.length ≤ 1000000) :
  Calls Tryz.prog 36 #[v] w1 fun e w' => e = .returned (.tuple #[]) ∧ Own w' 3 1 (Fresh w) v zs.length (ivs (sortL zs)) ∧ Keep NoB w w' := by
 by_cases h0 : zs.length = 0
 ·obtain rfl : zs = [] := List.length_eq_zero_iff.1 h0
  obtain ⟨B, d, rfl⟩ := own_form h.1
  refine (Tryz.slices_Sort_int_none B d w1).mono ?_
  rintro e w2 ⟨rfl, rfl⟩
  exact ⟨rfl, by simpa using h, hk⟩
 ·have hl2 : (sortL zs).length = zs.length := List.length_mergeSort zs
  have hnn : v ≠ .slice none 0 0 := by
   rintro rfl
   rcases h.1.2 with ⟨_, h2⟩ | ⟨g, cap, cur, h2, _⟩
   ·exact h0 h2
   ·cases h2
  obtain ⟨g, cap, rfl, _, hgl, hcap, hcm, _, hH⟩ := Lib.holds_of_ownsRow h.1 hnn
  refine (Tryz.slices_Sort_int g 0 cap zs w1 hH hgl (by omega)).mono ?_
  rintro e w2 ⟨rfl, nn, os, rfl⟩
  rcases h.1.2 with ⟨h0, _⟩ | ⟨g', cap', cur, hv, hbase, hb, h1, h2, h3, h4⟩
  ·cases h0
  cases hv
  have hgf : w.heap.size ≤ g := h.2 g rfl
  exact ⟨rfl, ⟨ownsRow_sortedI (n := nn) (os := os) (ts := sortL zs) hl2 hbase hb h1 h2 h3, fun b e => by cases e; exact hgf⟩, hk.grown (grownBy_sortedI _) (fun j hj hl => by cases hj; omega)⟩
theorem rev_any {w w1 : World} {v : Value} {zs : List Int} (h : Own w1 3 1 (Fresh w) v zs.length (ivs zs)) (hk : Keep NoB w w1) (hn : zs.length ≤ 1000000) :
  Calls Tryz.prog 55 #[v] w1 fun e w' => e = .returned (.tuple #[]) ∧ Own w' 3 1 (Fresh w) v zs.length (ivs zs.reverse) ∧ Keep NoB w w' := by
 by_cases h0 : zs.length = 0
 ·obtain rfl : zs = [] := List.length_eq_zero_iff.1 h0
  obtain ⟨B, d, rfl⟩ := own_form h.1
  refine (Tryz.slices_Reverse_int_empty B d w1).mono ?_
  rintro e w2 ⟨rfl, rfl⟩
  exact ⟨rfl, by simpa using h, hk⟩
 ·have hnn : v ≠ .slice none 0 0 := by
   rintro rfl
   rcases h.1.2 with ⟨_, h2⟩ | ⟨g, cap, cur, h2, _⟩
   ·exact h0 h2
   ·cases h2
  obtain ⟨g, cap, rfl, _, hgl, hcap, hcm, _, hH⟩ := Lib.holds_of_ownsRow h.1 hnn
  refine (Tryz.slices_Reverse_int g 0 cap zs w1 hH (by omega)).mono ?_
  rintro e w2 ⟨rfl, q, rfl⟩
  have hgf : w.heap.size ≤ g := h.2 g rfl
  have hc := Lib.ownsRow_putRow (q := q) (k := zs.length) (ys := zs.reverse) h.1 (by simp) (Nat.le_refl _)
  rw [List.take_of_length_le (by simp)] at hc
  exact ⟨rfl, ⟨hc, fun b e => by cases e; exact hgf⟩, Keep.of_below (Lib.below_putRow hk.toBelow hgf)⟩
theorem push_any {w W : World} {n : Nat} {v : Value} {xs : List Value} (h : Own W 3 1 (Fresh w) v n xs) (hk : Keep NoB w W) (x : Int) (hn : n + 1 ≤ 1000000) :
  ∃ v' W', (Builtin.append_ #[23, 23] 23 #[v, .slice (some ⟨W.heap.size, 0, none⟩) 1 1]).run Tryz.prog (W.alloc (.cells #[.int .i64 x] 3)) = .ok v' W' ∧ Own W' 3 1 (Fresh w) v' (n + 1) (xs ++ [.int .i64 x]) ∧ (W.alloc (.cells #[.int .i64 x] 3)).grownBy W' v.ownBlock ∧ Keep NoB w W' := by
 obtain ⟨i0, hi, hz0, hz1, hz2⟩ := info_parts int_info
 have hr : W.ownsRow w.heap.size 3 1 v n xs := by
  refine ⟨h.1.1, ?_⟩
  rcases h.1.2 with h2 | ⟨g, cap, cur, h1, _, h2⟩
  ·exact .inl h2
  ·exact .inr ⟨g, cap, cur, h1, h.2 g (by rw [h1]; rfl), h2⟩
 obtain ⟨v', W', hrun, h2, h3, _⟩ := run_append_own (P := Tryz.prog) (W.alloc (.cells #[.int .i64 x] 3)) w.heap.size 23 23 3 i0 (.int .i64 0) 1 8 Tryz.underlying23 hi hz0 hz1 hz2 rfl (by decide) v n xs (hr.alloc _) ⟨W.heap.size, 0, none⟩ 1 1 [.int .i64 x] rfl
  (fun j u hu => by
   cases j with
   | zero => simp at hu; subst hu; rw [Addr.add_lit]; exact (Blk.new W _ _).cell 0
   | succ j => simp at hu) (by simp [Value.oneCell']) (by unfold maxLen; omega) (by omega) (by rw [World.size_alloc]; have := hk.size; omega)
 exact ⟨v', W', hrun, Own.of_row h2 (fun k hk => hk), h3, (hk.alloc _).grown h3 (fun g e hl => by have := (hr.lt g e).1; omega)⟩
theorem own_map_ne {w : World} {E sz n : Nat} {O : Nat → Prop} {v : Value} {xs : List Value} (h : Own w E sz O v n xs) {P : Program} {k e : TypeId} {b m : Nat} {f : Int → Option Nat} (hm : OMap P k e b m f w) : v.ownBlock ≠ some b := by
 intro hb
 obtain ⟨es, cc, ho⟩ := hm.obj
 rcases h.1.2 with ⟨rfl, _⟩ | ⟨g', cap, cur, rfl, _, hh, _⟩
 ·cases hb
 ·cases hb
  rw [ho] at hh; cases hh
theorem own_iter_ne {w : World} {E sz n : Nat} {O : Nat → Prop} {v : Value} {xs : List Value} (h : Own w E sz O v n xs) {P : Program} {k e : TypeId} {b r m cnt : Nat} {f : Int → Option Nat} {left : Int → Bool} (hm : ORng P k e b r m f left cnt w) : v.ownBlock ≠ some r := by
 intro hb
 obtain ⟨_, _, _, _, ho⟩ := hm.iter
 rcases h.1.2 with ⟨rfl, _⟩ | ⟨g', cap, cur, rfl, _, hh, _⟩
 ·cases hb
 ·cases hb
  rw [ho] at hh; cases hh
theorem contains_any (B : Option Addr) (c : Nat) (l : List Nat) (x : Int) (w : World) (hr : Rd w B (ivs (nz l))) (hn : l.length ≤ 1000000) :
  Calls Tryz.prog 35 #[.slice B l.length c, .int .i64 x] w fun e w' => e = .returned (.bool ((nz l).contains x)) ∧ w' = w := by
 by_cases h0 : l.length = 0
 ·obtain rfl : l = [] := List.length_eq_zero_iff.1 h0
  refine (Tryz.slices_Contains_int_empty B c x w).mono ?_
  rintro e w2 ⟨rfl, rfl⟩
  exact ⟨rfl, rfl⟩
 ·obtain ⟨g, o, rfl, hc⟩ := hr (by simpa [nz] using Nat.pos_of_ne_zero h0)
  have hl : (nz l).length = l.length := nz_len l
  refine (Tryz.slices_Contains_int g o l.length c (nz l) x w (by omega) (by omega) (fun j hj => ?_)).mono ?_
  ·refine hc j _ ?_
   simp only [ivs, List.getElem?_map, List.getElem?_eq_getElem hj]
   simp [List.getD_eq_getElem?_getD, List.getElem?_eq_getElem hj]
  ·rintro e w2 ⟨rfl, rfl⟩
   refine ⟨?_, rfl⟩
   rw [← hl, List.take_length]
end Go.Proofs.YtghdibbooegocaaGreatDoor.G

namespace Go.Proofs.YtghdibbooegocaaGreatDoor.G
open Go.RowKit W

def OwnR (w : World) (l : List Nat) (e : Ending) (w' : World) : Prop := ∃ B c, e = .returned (.slice B l.length c) ∧ Own w' 3 1 (Fresh w) (.slice B l.length c) l.length (ivs (nz l)) ∧ Keep NoB w w'

set_option maxRecDepth 100000 in
set_option maxHeartbeats 8000000 in
theorem rising_any (b N : Nat) (g : Int → Option Nat) (T : List Nat) (w : World) (hM : OMap Tryz.prog 3 3 b N g w) (hN : N ≤ 2000) (hT : T.Pairwise (· < ·)) (hg : Hid (∀ y : Int, (g y).isSome = true ↔ ∃ x ∈ T, (x : Int) = y)) (hTb : Hid (∀ x ∈ T, x < 1000)) :
  Calls Tryz.prog 41 #[.map (some b)] w (OwnR w T) := by
 obtain ⟨m, hm, hlen⟩ := hM.size_le
 have hlen1 := hlen 51 Tryz.underlying51
 have hMM := Lib.hid hM
 obtain ⟨i0, hi, hz0, hz1, hz2⟩ := info_parts int_info
 clear hlen hM
 go_enter Tryz.func41, Tryz.ntmps41
 go_wp2_with (at_make; refine wpList_make_own _ rfl _ _ 23 rfl w.heap.size 3 i0 (.int .i64 0) 1 Tryz.underlying23 hi hz0 hz1 _ _ _ m rfl rfl rfl (by rw [hz2]; omega) (by unfold maxLen; omega) (by omega) ?_; intro w1 hrow1 hg1)
 have hM1 := hMM.out.grown hg1 (by simp)
 obtain ⟨w2, cnt, hrun, hR, hg2, hs2⟩ := hM1.range (t := 51) Tryz.underlying51 Tryz.underlying3
 have hbw := hMM.out.lt
 have hwb := hg1.size
 have hO1 : Own w1 3 1 (Fresh w) (.slice (some ⟨w.heap.size, 0, none⟩) 0 m) 0 (ivs (nz [])) := Own.of_row hrow1 (fun k hk => hk)
 have hk2 : Keep NoB w w2 := ((Keep.refl NoB w).grown hg1 (fun g e _ => by cases e)).grown hg2 (fun g e _ => by cases e)
 obtain ⟨r, hr⟩ : ∃ r, w1.heap.size = r := ⟨_, rfl⟩
 rw [hr] at hrun hR
 have HRW : Hid (w.heap.size ≤ r) := by show _ ≤ _; omega
 have HI : Hid (Own w2 3 1 (Fresh w) (.slice (some ⟨w.heap.size, 0, none⟩) 0 m) ([] : List Nat).length (ivs (nz [])) ∧ ORng Tryz.prog 3 3 b r N g (fun h => (g h).isSome) cnt w2 ∧ ([] : List Nat).Nodup ∧ (∀ y : Nat, y ∈ ([] : List Nat) ↔ (g (y : Int)).isSome = true ∧ (g (y : Int)).isSome = false) ∧ Keep NoB w w2) := by
  refine ⟨hO1.keepN ((Keep.refl NoB w1).grown hg2 (fun g e _ => by cases e)), hR, List.nodup_nil, fun y => ⟨(fun h => by cases h), fun ⟨h1, h2⟩ => ?_⟩, hk2⟩
  rw [h1] at h2; cases h2
 clear hM1 hR hg2 hs2 hg1 hrow1 hO1 hk2 hbw hwb
 rw [hrun]
 go_wp2
 clear hrun
 go_loopw [3] (fun u wr => ∃ (L : List Nat) (left : Int → Bool) (cnt : Nat), Hid (Own wr 3 1 (Fresh w) u L.length (ivs (nz L)) ∧ ORng Tryz.prog 3 3 b r N g left cnt wr ∧ L.Nodup ∧ (∀ y : Nat, y ∈ L ↔ (g (y : Int)).isSome = true ∧ left (y : Int) = false) ∧ Keep NoB w wr)) (fun _ wr => wr.rangeLeft b r)
 case atStart => exact ⟨[], _, cnt, HI⟩
 case round =>
  obtain ⟨L, left, cnt, HL⟩ := hrel
  obtain ⟨hO, hR, hd, hmem, hk⟩ := HL.out
  have hLl : L.length ≤ 1000 := nodup_len 1000 L hd fun x hx => by
   obtain ⟨z, hz, e⟩ := (hg.out x).1 ((hmem x).1 hx).1
   have := hTb.out z hz
   omega
  have hleq := hR.left_eq
  rcases hR.next Tryz.underlying3 Tryz.underlying3 0 with ⟨_, hl, hrun⟩ | ⟨x, v, w3, cnt3, _, _, hlx, hgx, hrun, hR3, hlt, hg3, hs3, hen⟩
  ·have HS := Lib.hid (sort_any (zs := nz L) (by rw [nz_len]; exact hO) hk (by rw [nz_len]; omega))
   have HE : Hid (sortL (nz L) = nz T ∧ L.length = T.length) := by
    have h1 := nz_sort hd hT fun y => by
     rw [hmem, hl]
     constructor
     ·rintro ⟨h1, _⟩
      obtain ⟨z, hz, e⟩ := (hg.out y).1 h1
      rw [show y = z by omega]; exact hz
     ·intro h1
      exact ⟨(hg.out y).2 ⟨y, h1, rfl⟩, rfl⟩
    refine ⟨h1, ?_⟩
    have := congrArg List.length h1
    rw [List.length_mergeSort, nz_len, nz_len] at this
    exact this
   obtain ⟨B, c, rfl⟩ := own_form hO.1
   clear hO hR hmem hd hl HI HL hleq hk
   go_wp2_with fail
   refine HS.out.mono ?_
   rintro e w4 ⟨rfl, hO4, k4⟩
   have HF := Lib.hid (And.intro hO4 k4)
   clear hO4 k4 hrun
   go_wp2
   go_ret
   obtain ⟨hO4, k4⟩ := HF.out
   rw [HE.out.1, nz_len, HE.out.2] at hO4
   exact ⟨B, c, by rw [← HE.out.2]; rfl, hO4, k4⟩
  ·have hxT := (hg.out x).1 (by rw [hgx]; rfl)
   obtain ⟨y, hyT, rfl⟩ := hxT
   have hyb := hTb.out y hyT
   have hnr := own_iter_ne hO hR
   have hO3 : Own w3 3 1 (Fresh w) u3 L.length (ivs (nz L)) := ⟨hO.1.kept hg3 (.inr hnr), hO.2⟩
   have hk3 : Keep NoB w w3 := hk.grown hg3 (fun g e hl => by cases e; have := HRW.out; omega)
   obtain ⟨v', W', hap, hO', hg', hk'⟩ := push_any hO3 hk3 (y : Int) (by omega)
   have hnb := own_map_ne hO3 hR3.omap
   have hnr3 := own_iter_ne hO3 hR3
   have hR4 := (hR3.keep ((Keep.refl NoB _).alloc (.cells #[.int .i64 (y : Int)] 3)) id id).grown hg' (Ne.symm hnb) (Ne.symm hnr3)
   have hyL : y ∉ L := fun h => by have := ((hmem y).1 h).2; rw [hlx] at this; cases this
   have HN : Hid (Own W' 3 1 (Fresh w) v' (L ++ [y]).length (ivs (nz (L ++ [y]))) ∧ ORng Tryz.prog 3 3 b r N g (fun z => left z && !decide (z = (y : Int))) cnt3 W' ∧ (L ++ [y]).Nodup ∧ (∀ z : Nat, z ∈ L ++ [y] ↔ (g (z : Int)).isSome = true ∧ (left (z : Int) && !decide ((z : Int) = (y : Int))) = false) ∧ Keep NoB w W') := by
    refine ⟨?_, hR4, List.nodup_append.2 ⟨hd, by simp, fun a ha c hc => by rw [List.mem_singleton] at hc; subst hc; exact fun e => hyL (e ▸ ha)⟩, fun z => ?_, hk'⟩
    ·rw [List.length_append, List.length_singleton]
     simpa [nz] using hO'
    ·rw [List.mem_append, List.mem_singleton, hmem]
     by_cases hzy : z = y
     ·subst hzy; simp [hgx]
     ·have hne : (z : Int) ≠ (y : Int) := by omega
      simp [hzy, hne]
   have hleq4 := hR4.left_eq
   clear hs3 hO hR hmem hd HI HL hk hO3 hk3 hO' hg' hk' hnb hnr3 hR4 hR3 hnr hg3 hyL hgx hlx
   go_wp2_with (at_builtin; refine wpList_append_run _ rfl _ _ 23 rfl _ _ v' W' rfl rfl hap ?_)
   go_roundw
   case rel => exact ⟨L ++ [y], _, cnt3, HN⟩
   case measure => rw [hleq4, hleq]; exact hlt
end Go.Proofs.YtghdibbooegocaaGreatDoor.G

namespace Go.Proofs.YtghdibbooegocaaGreatDoor.G
open Go.RowKit W

theorem deep_lt {n : Nat} {s : Nat → List Nat} {met : List (Nat × Nat)} {D : Nat → Nat} (h : AllN s (fun _ => true) 0 met) (hd : Deep s (fun _ => true) 0 met.length met D) (hn : 0 < n) (hs : ∀ i a, i < n → a ∈ s i → a < n) {a : Nat} (ha : a ∈ keysN met) : D a < n := by
 obtain ⟨l, hw⟩ := h.all.1 ha
 have hlt : ∀ y ∈ l, y < n := fun y hy => by
  obtain ⟨_, q, _, hq⟩ := hw.part y hy
  exact h.lt hn hs y (h.all.2 ⟨q, hq⟩)
 obtain ⟨k, hk, _⟩ := dist_of (ok := fun y => y < n) hw hlt
 have h1 := dist_lt (fun y h => h) hk
 obtain ⟨⟨l', hw', e, _⟩, _⟩ := hk
 have h2 := hd.dist h a l' hw'
 omega
def WayR (n : Nat) (s : Nat → List Nat) (a0 : Int) (w : World) (e : Ending) (w' : World) : Prop :=
 Keep NoB w w' ∧ (((¬ ∃ a : Nat, (a : Int) = a0 ∧ n ≠ 0 ∧ ∃ l, Way s [0] a l) ∧ e = .returned (.slice none 0 0)) ∨
  ∃ (a : Nat) (wl : List Nat) (B : Option Addr) (cB : Nat), (a : Int) = a0 ∧ n ≠ 0 ∧ e = .returned (.slice B wl.length cB) ∧ Rd w' B (ivs (nz wl)) ∧ Way s [0] a wl.reverse ∧ ∀ l, Way s [0] a l → wl.length ≤ l.length)

set_option maxRecDepth 100000 in
set_option maxHeartbeats 8000000 in
theorem way_any (A : Option Addr) (T : BSet) (Bf : Nat → Option Addr) (cf : Nat → Nat) (n c : Nat) (s : Nat → List Nat) (a0 : Int) (w : World) (hst : StAt T A Bf cf n s w) (ha0 : (Lit.int .i64 a0).wf = true) (hn : n ≤ 1000) (hs : Hid (∀ i a, i < n → a ∈ s i → a < n)) (hsl : Hid (∀ i, i < n → (s i).length ≤ 2)) :
  Calls Tryz.prog 38 #[.slice A n c, .int .i64 a0] w (WayR n s a0 w) := by
 have HR := Lib.hid (fun W (hk : Keep NoB w W) => reached_any A T Bf cf n c s W (hst.keepN hk) hn hs hsl)
 clear hst
 go_enter Tryz.func38, Tryz.ntmps38
 go_wp2_with fail
 refine (HR.out w (Keep.refl _ _)).mono ?_
 rintro e w1 ⟨met, b, rfl, hM, hb, k1, hall⟩
 have hlk := hM.omap.look2 (t := 51) Tryz.underlying51 Tryz.underlying3 Tryz.underlying3 (int_zeroG _) a0 ha0
 clear HR
 cases hl : lookN met a0 with
 | none =>
  rw [hl] at hlk
  simp only [Option.getD_none, Option.isSome_none] at hlk
  have HN : Hid (¬ ∃ a : Nat, (a : Int) = a0 ∧ n ≠ 0 ∧ ∃ l, Way s [0] a l) := by
   rintro ⟨a, rfl, h0, l, hw⟩
   rcases hall with ⟨h, _⟩ | ⟨_, hall⟩
   ·exact h0 h
   ·exact look_nat.1 hl (hall.all.2 ⟨l, hw⟩)
  clear hl hM hall
  go_wp2
  go_ret
  exact ⟨k1, .inl ⟨HN.out, rfl⟩⟩
 | some v0 =>
  obtain ⟨i, e0, hi, ha, _⟩ := look_some hl
  have hall2 : n ≠ 0 ∧ AllN s (fun _ => true) 0 met := by
   rcases hall with ⟨_, rfl⟩ | h
   ·simp at hi
   ·exact h
  obtain ⟨h0, hnr⟩ := hall2
  obtain ⟨D, hD⟩ := hnr.deep
  rw [hl] at hlk
  simp only [Option.getD_some, Option.isSome_some] at hlk
  have ham : e0.1 ∈ keysN met := mem_keys_iff.2 ⟨i, e0, hi, rfl⟩
  obtain ⟨a, hae⟩ : ∃ a, e0.1 = a := ⟨_, rfl⟩
  rw [hae] at ham ha
  subst ha
  have HNR := Lib.hid (And.intro h0 hnr)
  have HD := Lib.hid hD
  have hfn : 0 < n := by omega
  have hml : met.length ≤ n := hnr.len hfn hs.out
  have hlt : ∀ y ∈ keysN met, y < n := hnr.lt hfn hs.out
  have HLT := Lib.hid hlt
  have hBk := Lib.hid (Back.start (s := s) (D := D) ham)
  have hO1 : Own (w1.alloc (.cells #[.int .i64 (a : Int)] 3)) 3 1 (Fresh w) (.slice (some ⟨w1.heap.size, 0, none⟩) 1 1) 1 (ivs (nz [a])) :=
   ⟨⟨rfl, .inr ⟨w1.heap.size, 1, _, rfl, Nat.zero_le _, Blk.new w1 _ _, Nat.le_refl _, by decide, rfl, rfl⟩⟩, fun g e => by cases e; exact k1.size⟩
  have hst0 : Hid (Own (w1.alloc (.cells #[.int .i64 (a : Int)] 3)) 3 1 (Fresh w) (.slice (some ⟨w1.heap.size, 0, none⟩) 1 1) 1 (ivs (nz [a])) ∧ OMapS Tryz.prog 3 3 b met.length (lookN met) (w1.alloc (.cells #[.int .i64 (a : Int)] 3)) ∧ Keep NoB w (w1.alloc (.cells #[.int .i64 (a : Int)] 3))) :=
   ⟨hO1, hM.keep ((Keep.refl NoB _).alloc _) id, k1.alloc _⟩
  have hDa := Lib.hid (deep_lt hnr hD hfn hs.out ham)
  clear hl hM hall hnr hD hO1 k1 h0 hi hae hlt
  go_wp2
  generalize w1.alloc (.cells #[.int .i64 (a : Int)] 3) = W2 at hst0 ⊢
  clear hlk
  go_loopw [1, 8] (fun i v wr => ∃ (a' : Nat) (WL : List Nat), i = .int .i64 (a' : Int) ∧ Hid (Back s met D a a' WL ∧ Own wr 3 1 (Fresh w) v WL.length (ivs (nz WL)) ∧ OMapS Tryz.prog 3 3 b met.length (lookN met) wr ∧ Keep NoB w wr)) (fun i _ _ => D (intOf i).toNat)
  case atStart => exact ⟨a, [a], rfl, hBk.out, hst0.out⟩
  case round =>
   obtain ⟨a', WL, rfl, HI⟩ := hrel
   obtain ⟨hB, hO, hM, hk⟩ := HI.out
   have hlen : WL.length ≤ n := by have := hB.len; have := hDa.out; omega
   by_cases h0 : a' = 0
   ·subst h0
    have hv := (hB.done HD.out.zero)
    have HV := Lib.hid hv
    have hR := Lib.hid (rev_any (zs := nz WL) (by rw [nz_len]; exact hO) hk (by rw [nz_len]; omega))
    have q0 : ((0 : Nat) : Int) = 0 := rfl
    clear hB hO hM HI hst0 hk hv
    go_wp2_with fail
    refine hR.out.mono ?_
    rintro e w3 ⟨rfl, hO3, k3⟩
    obtain ⟨Ar, cr, rfl, _, _, hrd, _⟩ := hO3.form
    have HF := Lib.hid (And.intro hrd k3)
    clear hO3 hrd k3
    go_wp2
    go_ret
    refine ⟨HF.out.2, .inr ⟨a, WL.reverse, Ar, cr, rfl, HNR.out.1, ?_, ?_, ?_, ?_⟩⟩
    ·simp
    ·have := HF.out.1; simpa [nz] using this
    ·rw [List.reverse_reverse]; exact HV.out.1
    ·intro l hw
     rw [List.length_reverse, HV.out.2]
     exact HD.out.dist HNR.out.2 a l hw
   ·obtain ⟨q, hlq, hqm, haq, hDq⟩ := HD.out.back HNR.out.2 hB.mem h0
    have hqn := HLT.out q hqm
    have han := HLT.out a' hB.mem
    have hlk := hM.omap.look (t := 51) Tryz.underlying51 Tryz.underlying3 Tryz.underlying3 (int_zeroG _) (a' : Int) (wfN (by omega))
    rw [hlq, Option.getD_some] at hlk
    obtain ⟨v', W', hap, hO', hg', hk'⟩ := push_any hO hk (q : Int) (by omega)
    have hne := own_map_ne hO hM.omap
    have HN : Hid (Back s met D a q (WL ++ [q]) ∧ Own W' 3 1 (Fresh w) v' (WL ++ [q]).length (ivs (nz (WL ++ [q]))) ∧ OMapS Tryz.prog 3 3 b met.length (lookN met) W' ∧ Keep NoB w W') := by
     refine ⟨hB.step hqm haq hDq, ?_, (hM.keep ((Keep.refl NoB _).alloc _) id).grown hg' (Ne.symm hne), hk'⟩
     rw [List.length_append, List.length_singleton]
     simpa [nz] using hO'
    have q1 : ¬ (a' : Int) = 0 := by omega
    have q2 : ((a' : Int) == 0) = false := by rw [beq_eq_false_iff_ne]; exact q1
    have q3 : ((a' : Int) != 0) = true := by rw [bne_iff_ne]; exact q1
    have HDq := Lib.hid hDq
    clear hB hO hM HI hst0 hk hO' hg' hk' hne hlq hqm haq hDq
    go_wp2_with (at_builtin; refine wpList_append_run _ rfl _ _ 23 rfl _ _ v' W' rfl rfl hap ?_)
    go_roundw
    case rel => exact ⟨q, WL ++ [q], rfl, HN⟩
    case measure => have := HDq.out; simp [intOf]; omega
end Go.Proofs.YtghdibbooegocaaGreatDoor.G

namespace Go.Proofs.YtghdibbooegocaaGreatDoor.G
open Go.RowKit Go.Shelf W
attribute [local go_sem] Oper.semAt_some

def BackR (s : Nat → List Nat) (at0 : Nat) (w : World) (e : Ending) (w' : World) : Prop := ∃ b, e = .returned (.bool b) ∧ (b = true ↔ ∃ p l, Way s [at0] p l ∧ at0 ∈ s p) ∧ Keep NoB w w'
structure BkI (w : World) (A : Option Addr) (n c at0 : Nat) (s : Nat → List Nat) (v : Bool) (p : BSet) (W : World) : Prop where
 p : p = fun k => k = w.heap.size + 1 + 1
 kp : Keep NoB w W
 bs : Blk W w.heap.size 49 #[.slice A n c]
 ba : Blk W (w.heap.size + 1) 3 #[.int .i64 (at0 : Int)]
 bb : Blk W (w.heap.size + 1 + 1) 4 #[.bool v]
def BkJ (w : World) (A : Option Addr) (n c at0 : Nat) (s : Nat → List Nat) (pre : List (Nat × Nat)) (p : BSet) (W : World) : Prop := BkI w A n c at0 s false p W ∧ ∀ e ∈ pre, at0 ∉ s e.1
def BkX (w : World) (A : Option Addr) (n c at0 : Nat) (s : Nat → List Nat) (id : Nat) (cd : Code) (_ : List (Nat × Nat)) (p : BSet) (W : World) : Prop := cd = .exit id ∧ BkI w A n c at0 s true p W ∧ ∃ q l, Way s [at0] q l ∧ at0 ∈ s q
section
variable {w : World} {A : Option Addr} {n c at0 B : Nat} {s : Nat → List Nat}
theorem bkI_out {v : Bool} {p : BSet} {W W' : World} (h : BkI w A n c at0 s v p W) (hs : IStepF B p W W') (hB : w.heap.size + 1 + 1 < B) : BkI w A n c at0 s v p W' :=
 ⟨h.p, h.kp.trans hs.keep (fun k hk hl => by omega), h.bs.keep hs.keep (fun hk => by omega), h.ba.keep hs.keep (fun hk => by omega), h.bb.keep hs.keep (fun hk => by omega)⟩
theorem bkJ_out (hB : w.heap.size + 1 + 1 < B) : KeepsOutF B (BkJ w A n c at0 s) := fun _ _ _ _ h hs => ⟨bkI_out h.1 hs hB, h.2⟩
theorem bkX_out (id : Nat) (cd : Code) (hB : w.heap.size + 1 + 1 < B) : KeepsOutF B (BkX w A n c at0 s id cd) := fun _ _ _ _ h hs => ⟨h.1, bkI_out h.2.1 hs hB, h.2.2⟩
end

set_option maxRecDepth 100000 in
set_option maxHeartbeats 8000000 in
theorem comesBack_any (A : Option Addr) (T : BSet) (Bf : Nat → Option Addr) (cf : Nat → Nat) (n c at0 : Nat) (s : Nat → List Nat) (w : World) (hst : StAt T A Bf cf n s w) (hat : at0 < n) (hn : n ≤ 1000) (hs : Hid (∀ i a, i < n → a ∈ s i → a < n)) (hsl : Hid (∀ i, i < n → (s i).length ≤ 2)) :
  Calls Tryz.prog 42 #[.slice A n c, .int .i64 (at0 : Int)] w (BackR s at0 w) := by
 have HS := Lib.hid hst.here
 clear hst
 have b0 := ((Blk.new w 49 #[.slice A n c]).alloc (.cells #[.int .i64 (at0 : Int)] 3)).alloc (.cells #[.bool false] 4)
 have b1 := (Blk.new (w.alloc (.cells #[.slice A n c] 49)) 3 #[.int .i64 (at0 : Int)]).alloc (.cells #[.bool false] 4)
 have b2 := Blk.new ((w.alloc (.cells #[.slice A n c] 49)).alloc (.cells #[.int .i64 (at0 : Int)] 3)) 4 #[.bool false]
 simp only [World.size_alloc] at b1 b2
 have hk0 : Keep NoB w (((w.alloc (.cells #[.slice A n c] 49)).alloc (.cells #[.int .i64 (at0 : Int)] 3)).alloc (.cells #[.bool false] 4)) := (((Keep.refl NoB w).alloc _).alloc _).alloc _
 have hz0 : (((w.alloc (.cells #[.slice A n c] 49)).alloc (.cells #[.int .i64 (at0 : Int)] 3)).alloc (.cells #[.bool false] 4)).heap.size = w.heap.size + 1 + 1 + 1 := by simp [World.size_alloc]
 obtain ⟨W0, hW0⟩ : ∃ W0, W0 = ((w.alloc (.cells #[.slice A n c] 49)).alloc (.cells #[.int .i64 (at0 : Int)] 3)).alloc (.cells #[.bool false] 4) := ⟨_, rfl⟩
 rw [← hW0] at b0 b1 b2 hk0 hz0
 have c0 := b0.cell 0
 have c1 := b1.cell 0
 simp only [List.getElem?_toArray, List.getElem?_cons_zero] at c0 c1
 have HZ0 := Lib.hid hz0
 clear hz0
 refine (callsIn_wide (n := 4)).1 ?_
 refine callsIn_of_wp_marks Tryz.func42 rfl trivial ?_ rfl
 simp only [Tryz.ntmps42, List.size_toArray, List.length_cons, List.length_nil, Nat.reduceAdd, Nat.reduceSub, Array.replicate_succ, Array.replicate_zero, List.push_toArray, List.append_toArray, List.nil_append, List.cons_append]
 gi_wp2
 refine V.wpIn_scope_wide ?_
 gi_wp2
 refine wpIn_label ?_
 rw [← hW0]
 clear hW0
 gi_wp2_with fail
 refine ⟨trivial, (callsIn_wide.2 (nearest_any A n c at0 51 #[] W0)).mono ?_⟩
 rintro e W1 ⟨rfl, hz1, k1, bf, bs, bo⟩
 have hH0 : NrH w.heap.size at0 A Bf cf n c s 51 #[] (W0.heap.size + 1) W0.heap.size (W0.heap.size + 1 + 1) W1 := ⟨bf, bs, bo, HS.out.keepN (keepN hk0 k1)⟩
 have hstp := Lib.hid (near_stops 2 3 at0 n c 51 (W0.heap.size + 1) W0.heap.size (W0.heap.size + 1 + 1) A Bf cf s (fun _ => true) #[] hn (fun _ => hat) (by omega) hs hsl
  (NrH w.heap.size at0 A Bf cf n c s 51 #[] (W0.heap.size + 1) W0.heap.size (W0.heap.size + 1 + 1)) (fun _ _ => True) (fun W h => h.nr) (enters_of Tryz.func51 rfl rfl) (fun _ W q _ _ _ => anywhere_any q W))
 have hi0 : BkJ w A n c at0 s [] (fun k => k = w.heap.size + 1 + 1) W1 := ⟨⟨rfl, keepN hk0 k1, b0.keep k1 id, b1.keep k1 id, b2.keep k1 id⟩, fun e h => by cases h⟩
 have hz0 := HZ0.out
 have hHs : ∀ (O : Nat → Prop) (W2 W3 : World), (∀ k, O k → (k = w.heap.size + 1 + 1) ∨ W1.heap.size ≤ k) → NrH w.heap.size at0 A Bf cf n c s 51 #[] (W0.heap.size + 1) W0.heap.size (W0.heap.size + 1 + 1) W2 → Keep O W2 W3 → NrH w.heap.size at0 A Bf cf n c s 51 #[] (W0.heap.size + 1) W0.heap.size (W0.heap.size + 1 + 1) W3 :=
  fun O W2 W3 hO h hk => h.keep hk (fun k hk h => by have := hO k h; omega) (fun h => by have := hO _ h; omega) (fun h => by have := hO _ h; omega) (fun h => by have := hO _ h; omega)
 have hp0 : ∀ k, (k = w.heap.size + 1 + 1) → k < W1.heap.size := fun k hk => by omega
 have HS1 := Lib.hid (fun W (hk : Keep NoB w W) => HS.out.keepN hk)
 have HZ := Lib.hid (And.intro hz0 hz1)
 clear bf bs bo k1 hk0 HS hz0 hz1 b0 b1 b2 c0 c1 HZ0
 gi_wp2_with fail
 obtain ⟨hz0, hz1⟩ := HZ.out
 refine wpIn_rangeFunc_F (m := 2) (gf := 64) (lb := #[.pointer (some ⟨W0.heap.size + 1, 0, none⟩), .pointer (some ⟨W0.heap.size, 0, none⟩), .pointer (some ⟨W0.heap.size + 1 + 1, 0, none⟩)]) rfl (enters_of Tryz.func64 rfl rfl)
  hstp.out (fun _ => rfl) (BkJ w A n c at0 s) (BkX w A n c at0 s 0) (bkJ_out (by omega)) (fun pre q W h k hk => by rw [h.1.p] at hk; subst hk; exact h.1.bb.lt) (fun _ _ _ _ => trivial) (fun cd => bkX_out 0 cd (by omega)) hi0 hp0 hH0 hHs
  (fun pre x q a' W => BkJ w A n c at0 s pre q W ∧ a' = { tmps := #[.slice A n c, .int .i64 (at0 : Int), .pointer (some ⟨w.heap.size, 0, none⟩), .pointer (some ⟨w.heap.size + 1, 0, none⟩), .bool false, .pointer (some ⟨w.heap.size + 1 + 1, 0, none⟩), .int .i64 (x.1 : Int), undef, undef, .slice A n c, .int .i64 (at0 : Int), .func (.func 64) #[] #[.pointer (some ⟨W0.heap.size + 1, 0, none⟩), .pointer (some ⟨W0.heap.size, 0, none⟩), .pointer (some ⟨W0.heap.size + 1 + 1, 0, none⟩)], .int .i64 (x.1 : Int), .int .i64 (x.2 : Int), undef, undef, undef, undef, undef, undef, undef, undef, undef, undef, undef, undef, undef, undef], defers := [] }) ?hax ?assign ?body ?done ?stop
 case hax =>
  rintro pre x a' u q W W' ⟨g1, g4⟩ hs
  exact ⟨bkJ_out (by omega) _ _ _ _ g1 hs, g4⟩
 case assign =>
  rintro l pre x q W hI hen
  have HI := Lib.hid hI
  clear hI hi0 hp0 hH0 hHs hstp hz0 hz1
  gi_wp2
  exact ⟨q, Rnd.refl _ _, HI.out, trivial⟩
 case body =>
  rintro l pre x q a' W hen ⟨g1, rfl⟩
  obtain ⟨hxm, hx1, hx2, hpl⟩ := hen.new hs.out
  obtain ⟨_, met, hnr, hpe, hmx⟩ := hen
  clear hpe
  have hway := hnr.way x.1 (mem_keys_iff.2 ⟨_, _, hmx, rfl⟩)
  have HG := Lib.hid g1
  obtain ⟨gs, rfl, _, cq, hrd, _⟩ := HS1.out W g1.1.kp x.1 hx1
  have e0 := g1.1.bs.cell 0
  have e1 := g1.1.ba.cell 0
  have e2 := g1.1.bb.cell 0
  have f2 := g1.1.bb.frozen 0
  have HB := Lib.hid g1.1.bb
  simp only [List.getElem?_toArray, List.getElem?_cons_zero] at e0 e1 e2
  obtain ⟨y, hy⟩ : ∃ y, x.1 = y := ⟨_, rfl⟩
  obtain ⟨ln, hln⟩ : ∃ ln, (s y).length = ln := ⟨_, rfl⟩
  have HY : Hid (x.1 = y) := hy
  rw [hy] at cq hrd hway hx1 ⊢
  generalize x.2 = y2 at hx2 ⊢
  rw [hln] at cq
  have hl2 : ln ≤ 2 := by rw [← hln]; exact hsl.out y hx1
  generalize Bf y = B at cq hrd
  generalize cf y = cB at cq
  have HRd := Lib.hid hrd
  have HW := Lib.hid hway
  clear g1 hi0 hp0 hH0 hHs hstp hz0 hz1 hnr hmx hy hrd hway hxm
  gi_wp2
  gi_loopw [19] (fun i wr => ∃ j : Nat, j ≤ ln ∧ i = .int .i64 (j : Int) ∧ wr = W ∧ Hid (∀ j', j' < j → (s y)[j']? ≠ some at0)) (fun i _ => ln - (intOf i).toNat)
  case atStart => exact ⟨0, Nat.zero_le _, rfl, rfl, fun j' h => absurd h (Nat.not_lt_zero _)⟩
  case round =>
   obtain ⟨j, hj, rfl, rfl, HNo⟩ := hrel
   by_cases hlt : j < ln
   ·have hjl : j < (s y).length := by rw [hln]; exact hlt
    obtain ⟨gb, ob, rfl, hcb⟩ := rd_steps HRd.out (by omega)
    have hx := List.getElem?_eq_getElem hjl
    have cx := hcb j _ hx
    have hmem : (s y)[j] ∈ s y := List.getElem_mem hjl
    generalize (s y)[j] = z at cx hx hmem
    by_cases hzq : z = at0
    ·have q1 : ((z : Int) == (at0 : Int)) = true := by rw [beq_iff_eq]; omega
     have hfin : Hid (∃ p', Rnd q p' wr (wr.setCell ⟨w.heap.size + 1 + 1, 0, none⟩ (.bool true)) ∧ BkX w (some ⟨gs, 0, none⟩) n c at0 s 0 (.exit 0) (pre ++ [x]) p' (wr.setCell ⟨w.heap.size + 1 + 1, 0, none⟩ (.bool true))) := by
      have hg := HG.out.1
      have hp := hg.p
      subst hp
      have hks := keep_set wr (w.heap.size + 1 + 1) 0 (.bool true)
      have hb := hg.bb.put 0 (.bool true)
      simp only [List.setIfInBounds_toArray, List.set_cons_zero] at hb
      obtain ⟨lw, hw, _⟩ := HW.out
      exact ⟨_, Rnd.of_keep hks, rfl, ⟨rfl, hg.kp.trans hks (fun k hk hl => by omega), hg.bs.keep hks (by omega), hg.ba.keep hks (by omega), hb⟩, y, lw, hw, hzq ▸ hmem⟩
     clear hx hmem HG hcb hzq
     gi_wp2
     exact hfin.out
    ·have q1 : ((z : Int) == (at0 : Int)) = false := by rw [beq_eq_false_iff_ne]; omega
     have HN2 : Hid (∀ j', j' < j + 1 → (s y)[j']? ≠ some at0) := fun j' h' e => by
      rcases Nat.lt_or_eq_of_le (Nat.le_of_lt_succ h') with h | rfl
      ·exact HNo.out j' h e
      ·rw [hx] at e; injection e with e; exact hzq e
     clear hx hmem HG hcb hzq
     gi_wp2
     go_roundw
     case rel => exact ⟨j + 1, by omega, by go_num, trivial, HN2⟩
     case measure => simp [intOf]; omega
   ·obtain rfl : j = ln := by omega
    have hfin : Hid (∃ p', Rnd q p' wr wr ∧ BkJ w (some ⟨gs, 0, none⟩) n c at0 s (pre ++ [x]) p' wr) := by
     refine ⟨q, Rnd.refl _ _, HG.out.1, fun e he => ?_⟩
     rcases List.mem_append.1 he with he | he
     ·exact HG.out.2 e he
     ·rw [List.mem_singleton.1 he, HY.out]
      intro hm
      obtain ⟨j', hj'⟩ := List.getElem?_of_mem hm
      exact HNo.out j' (by have := (List.getElem?_eq_some_iff.1 hj').1; omega) hj'
    clear HG HNo
    gi_wp2
    exact hfin.out
 case done =>
  rintro D xs q W hD hpD hS g1 hK
  have e2 := g1.1.bb.cell 0
  simp only [List.getElem?_toArray, List.getElem?_cons_zero] at e2
  have HF := Lib.hid (And.intro g1 hS)
  rename_i K2 aK
  refine aK _ _ ?_
  clear g1 hi0 hp0 hH0 hHs hstp hS
  gi_wp2
  dsimp only [Exit.noGoto]
  refine ⟨by simp, .inl ⟨_, _, rfl, run_takeDeferred hK, ?_⟩⟩
  refine ⟨.bool false, by simp [results, Tryz.results42, go_sem], ?_⟩
  refine ⟨false, rfl, ⟨(fun h => by cases h), fun ⟨q, l, hw, hq⟩ => ?_⟩, HF.out.1.1.kp.trans (keep_putD W D _) (fun k hk hl => by omega)⟩
  rcases HF.out.2 with ⟨h0, _⟩ | ⟨_, hall⟩
  ·omega
  ·obtain ⟨i, e, hi, rfl⟩ := mem_keys_iff.1 (hall.all.2 ⟨l, hw⟩)
   exact absurd hq (HF.out.1.2 e (List.mem_of_getElem? hi))
 case stop =>
  rintro D cd pre q W hD hpD _ ⟨rfl, g1, g2⟩ hK
  have e2 := g1.bb.cell 0
  simp only [List.getElem?_toArray, List.getElem?_cons_zero] at e2
  have HF := Lib.hid (And.intro g1 g2)
  clear g1 hi0 hp0 hH0 hHs hstp
  gi_wp2
  dsimp only [Exit.noGoto]
  refine ⟨by simp, .inl ⟨_, _, rfl, run_takeDeferred hK, ?_⟩⟩
  refine ⟨.bool true, by simp [results, Tryz.results42, go_sem], ?_⟩
  obtain ⟨p, l, hw, hp⟩ := HF.out.2
  exact ⟨true, rfl, ⟨fun _ => ⟨p, l, hw, hp⟩, fun _ => rfl⟩, HF.out.1.kp.trans (keep_putD W D _) (fun k hk hl => by omega)⟩
end Go.Proofs.YtghdibbooegocaaGreatDoor.G

namespace Go.Proofs.YtghdibbooegocaaGreatDoor.G
open Go.RowKit W

def nB (l : List C.I3) : Nat := if C.okB l = true then l.length else 0
section
variable {l : List C.I3}
theorem nB_ok (h : C.okB l = true) : nB l = l.length := if_pos h
theorem nB_no (h : C.okB l = false) : nB l = 0 := if_neg (by rw [h]; decide)
theorem nB_le : nB l ≤ 512 := by
 cases h : C.okB l with
 | false => rw [nB_no h]; omega
 | true => rw [nB_ok h]; exact (C.okB_parts h).2.1
theorem nB_pos (h : nB l ≠ 0) : C.okB l = true := by
 cases ho : C.okB l with
 | false => exact absurd (nB_no ho) h
 | true => rfl
theorem nB_steps : ∀ i a, i < nB l → a ∈ stepsG l i → a < nB l := by
 intro i a hi ha
 have ho := nB_pos (l := l) (by omega)
 rw [nB_ok ho] at hi ⊢
 exact steps_lt ho i a hi ha
theorem stepsX_len (x : C.I3) (i : Nat) : (stepsX x i).length ≤ 2 := by
 unfold stepsX
 split
 ·simp
 ·split
  ·simp
  ·split
   ·simp
   ·split <;> simp
theorem nB_len : ∀ i, i < nB l → (stepsG l i).length ≤ 2 := by
 intro i _
 unfold stepsG
 split
 ·exact stepsX_len _ _
 ·simp
theorem steps_rise (i : Nat) : (stepsG l i).Pairwise (· < ·) := by
 unfold stepsG
 split
 ·exact stepsX_rise _ _
 ·exact List.Pairwise.nil
theorem reach_keys {met : List (Nat × Nat)} (h : (nB l = 0 ∧ met = []) ∨ (nB l ≠ 0 ∧ AllN (stepsG l) (fun _ => true) 0 met)) (y : Nat) : y ∈ keysN met ↔ y ∈ reachL l := by
 rcases h with ⟨h, rfl⟩ | ⟨h, hall⟩
 ·cases ho : C.okB l with
  | false => unfold reachL; rw [if_neg (by rw [ho]; decide)]; simp [keysN]
  | true => have := (C.okB_parts ho).1; rw [nB_ok ho] at h; omega
 ·rw [reach_iff (nB_pos h)]
  exact hall.all
theorem look_reach {met : List (Nat × Nat)} (h : (nB l = 0 ∧ met = []) ∨ (nB l ≠ 0 ∧ AllN (stepsG l) (fun _ => true) 0 met)) (y : Int) : (lookN met y).isSome = true ↔ ∃ x ∈ reachL l, (x : Int) = y := by
 constructor
 ·intro hs
  obtain ⟨v, hv⟩ := Option.isSome_iff_exists.1 hs
  obtain ⟨i, e, hi, he, _⟩ := look_some hv
  exact ⟨e.1, (reach_keys h _).1 (mem_keys_iff.2 ⟨i, e, hi, rfl⟩), he⟩
 ·rintro ⟨x, hx, rfl⟩
  cases hl : lookN met (x : Int) with
  | some _ => rfl
  | none => exact absurd ((reach_keys h x).2 hx) (look_nat.1 hl)
theorem look_reachN {met : List (Nat × Nat)} (h : (nB l = 0 ∧ met = []) ∨ (nB l ≠ 0 ∧ AllN (stepsG l) (fun _ => true) 0 met)) (y : Nat) : (lookN met (y : Int)).isSome = true ↔ y ∈ reachL l := by
 rw [look_reach h]
 exact ⟨fun ⟨x, hx, e⟩ => by rw [show y = x by omega]; exact hx, fun hy => ⟨y, hy, rfl⟩⟩
theorem reach_nB {x : Nat} (h : x ∈ reachL l) : x < nB l := by
 cases ho : C.okB l with
 | false => unfold reachL at h; rw [if_neg (by rw [ho]; decide)] at h; cases h
 | true => rw [nB_ok ho]; exact reach_lt ho h
theorem reach_b {x : Nat} (h : x ∈ reachL l) : x < 1000 := by
 have := reach_nB h
 have := nB_le (l := l)
 omega
theorem met_len {met : List (Nat × Nat)} (h : (nB l = 0 ∧ met = []) ∨ (nB l ≠ 0 ∧ AllN (stepsG l) (fun _ => true) 0 met)) : met.length ≤ 512 := by
 rcases h with ⟨_, rfl⟩ | ⟨h, hall⟩
 ·simp
 ·exact Nat.le_trans (hall.len (by omega) nB_steps) nB_le
theorem StepsR.one {w : World} {e : Ending} {w' : World} (h : StepsR l w e w') : Keep NoB w w' ∧ ∃ A Bf cf c, e = .returned (.slice A (nB l) c) ∧ StAt (Fresh w) A Bf cf (nB l) (stepsG l) w' := by
 obtain ⟨hk, ⟨ho, rfl⟩ | ⟨ho, g, Bf, cf, rfl, hs⟩⟩ := h
 ·exact ⟨hk, none, fun _ => none, fun _ => 0, 0, by rw [nB_no ho], fun i hi => by rw [nB_no ho] at hi; omega⟩
 ·exact ⟨hk, _, Bf, cf, l.length, by rw [nB_ok ho], by rw [nB_ok ho]; exact hs⟩
end

set_option maxRecDepth 100000 in
set_option maxHeartbeats 4000000 in
theorem fReached_any (A : Option Addr) (l : List C.I3) (n c : Nat) (w : World) (hr : Rd w A (C.iis l)) (hn : Hid (l.length = n)) (hm : n ≤ 9223372036854775807) :
  Calls Tryz.prog 17 #[.slice A n c] w (OwnR w (reachL l)) := by
 have HS := Lib.hid (stepsOf_any A l n c w hr hn hm)
 clear hr hn
 go_enter Tryz.func17, Tryz.ntmps17
 go_wp2_with fail
 refine HS.out.mono ?_
 rintro e w1 hS
 obtain ⟨k1, A1, Bf, cf, c1, rfl, hst⟩ := hS.one
 have HR := Lib.hid (reached_any A1 _ Bf cf (nB l) c1 (stepsG l) w1 hst (by have := nB_le (l := l); omega) nB_steps nB_len)
 clear HS hS hst
 go_wp2_with fail
 refine HR.out.mono ?_
 rintro e w2 ⟨met, b, rfl, hM, hb, k2, hall⟩
 have HG := Lib.hid (rising_any b met.length (lookN met) (reachL l) w2 hM.omap (by have := met_len hall; omega) rise_filter (look_reach hall) (fun x hx => reach_b hx))
 have k12 := keepN k1 k2
 clear HR hM hall k1 k2
 go_wp2_with fail
 refine HG.out.mono ?_
 rintro e w3 ⟨B, c3, rfl, hO, k3⟩
 have HF := Lib.hid (And.intro hO k3)
 clear HG hO k3
 go_wp2
 go_ret
 exact ⟨B, c3, rfl, ⟨HF.out.1.1, fun g e => Nat.le_trans k12.size (HF.out.1.2 g e)⟩, keepN k12 HF.out.2⟩
end Go.Proofs.YtghdibbooegocaaGreatDoor.G
