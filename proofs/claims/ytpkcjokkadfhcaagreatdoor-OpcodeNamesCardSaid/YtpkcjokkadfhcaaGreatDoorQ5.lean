/-
  What Show answers. Conditions: the listed package-level variables hold what their initialisers lay; numbers fit an int64.
-/
import Derived.Test.YtpkcjokkadfhcaaGreatDoorQ4
import Derived.Test.YtpkcjokkadfhcaaGreatDoorQ3
namespace Go.Proofs.YtpkcjokkadfhcaaGreatDoor.O
open Go.RowKit Go.Shelf
attribute [local go_sem] Oper.semAt_some

theorem blk_own {β : Type} (B g : Nat) (t : TypeId) (cs : β → Array Value) : OwnFrom B (fun s W => Blk W g t (cs s)) := by
  intro s X Y row h hg hrow
  refine (hg.block g h.lt (fun e => ?_)).trans h
  obtain ⟨_, o, ho, hc⟩ := hrow g e.symm
  rw [show X.heap[g]? = _ from h] at ho
  cases ho; cases hc
theorem keep_own {β : Type} {B : Nat} {w0 : World} (O : Nat → Prop) (hB : w0.heap.size ≤ B) : OwnFrom B (fun (_ : β) W => Keep O w0 W) := by
  intro s X Y row h hg hrow
  exact h.grown hg (fun g e hl => by have := (hrow g e).1; omega)
theorem fnAt_own {β : Type} (B : Nat) (k : Int) (sh gu : Value) : OwnFrom B (fun (_ : β) W => FnAt k sh gu W) := by
  intro s X Y row h hg hrow
  have hc : ∀ p v, X.cell? p = some v → Y.cell? p = some v := fun p v hp => cell_kept hp hg (fun r e => (hrow r e).2)
  rcases h with h | h | ⟨h, b, c, h1, h2, h3, h4⟩
  · exact .inl h
  · exact .inr (.inl h)
  · exact .inr (.inr ⟨h, b, c, h1, h2, hc _ _ h3, hc _ _ h4⟩)
theorem ownFrom_const {β : Type} (B : Nat) (p : Prop) : OwnFrom B (fun (_ : β) (_ : World) => p) := fun _ _ _ _ h _ _ => h
theorem keepsFrom_one {B g : Nat} {W W' : World} (h : Keep (fun k => k = g) W W') (hg : g < B) : KeepsFrom B W W' :=
  ⟨h.size, fun k _ hk hh _ => (h.block k (Array.getElem?_eq_some_iff.1 hh).1 (fun e => by omega)).trans hh⟩

set_option maxHeartbeats 1000000 in
theorem parts_any (q : Row) (op a b : Int) (w : World) : Calls Tryz.prog 40 #[rowV q, instV op a b] w fun e w' =>
    e = .returned (.func (.func 68) #[] #[.pointer (some ⟨w.heap.size + 1, 0, none⟩), .pointer (some ⟨w.heap.size, 0, none⟩)]) ∧ Blk w' w.heap.size 71 (cells9 q) ∧ Blk w' (w.heap.size + 1) 23 #[.int .i64 op, .int .i64 a, .int .i64 b] ∧ Keep NoB w w' := by
  go_enter Tryz.func40, Tryz.ntmps40
  go_wp2
  go_ret
  have h1 := Blk.new (w.alloc (.cells (cells9 q) 71)) 23 #[.int .i64 op, .int .i64 a, .int .i64 b]
  rw [World.size_alloc] at h1
  exact ⟨rfl, (Blk.new _ _ _).alloc _, h1, ((Keep.refl NoB w).alloc _).alloc _⟩

/-- The text of the operands that have come. -/
def textP (l : List (Int × Int)) : List UInt8 := l.flatMap fun x => 32 :: word x.1 x.2
theorem textP_parts (ka kb a b : Int) (h : ka = 0 → kb = 0) : textP (partsL ka kb a b) = partL ka a ++ partL kb b := by
  unfold partsL partL textP
  split
  · rename_i hz
    rw [if_pos (h hz)]; rfl
  · split
    · simp
    · simp
theorem kinds_none (op : Int) : (rowAt op).ka = 0 → (rowAt op).kb = 0 := by
  have := rowAt_all (p := fun r => decide (r.ka = 0 → r.kb = 0)) (by decide) (by decide) op
  exact of_decide_eq_true this

theorem textP_snoc (l : List (Int × Int)) (x : Int × Int) : textP (l ++ [x]) = textP l ++ 32 :: word x.1 x.2 := by unfold textP; simp
theorem textP_len : ∀ (l : List (Int × Int)), (∀ x ∈ l, I64 x.2) → (textP l).length ≤ 22 * l.length
  | [], _ => Nat.zero_le _
  | x :: l, h => by
    have h1 := word_len x.1 x.2 (h x (by simp))
    have h2 := textP_len l (fun y hy => h y (by simp [hy]))
    have e : textP (x :: l) = (32 :: word x.1 x.2) ++ textP l := by unfold textP; simp
    rw [e]
    simp
    omega
theorem parts_mem {ka kb a b : Int} {x : Int × Int} (h : x ∈ partsL ka kb a b) : x.1 ≠ 0 ∧ (x.2 = a ∨ x.2 = b) := by
  unfold partsL at h
  split at h
  · cases h
  · split at h
    · rename_i h1 h2; simp at h; subst h; exact ⟨h1, .inl rfl⟩
    · rename_i h1 h2
      simp at h
      rcases h with rfl | rfl
      · exact ⟨h1, .inl rfl⟩
      · exact ⟨h2, .inr rfl⟩
theorem parts_len (ka kb a b : Int) : (partsL ka kb a b).length ≤ 2 := by unfold partsL; split <;> (try split) <;> simp
theorem part_facts {ka kb a b : Int} {pre : List Part} {x : Part} {W : World} (h : PartN ka kb a b pre x W) (ha : I64 a) (hb : I64 b) : x.k ≠ 0 ∧ I64 x.n ∧ (textP (pre.map Part.key)).length ≤ 44 := by
  obtain ⟨⟨post, hp⟩, _⟩ := h
  have h64 : ∀ y ∈ partsL ka kb a b, I64 y.2 := fun y hy => by rcases (parts_mem hy).2 with e | e <;> rw [e] <;> assumption
  have hx := parts_mem (x := x.key) (by rw [← hp]; simp)
  have hl := congrArg List.length hp
  have h2 := parts_len ka kb a b
  have hx64 := h64 x.key (by rw [← hp]; simp)
  have ht := textP_len (pre.map Part.key) (fun y hy => h64 y (by rw [← hp]; exact List.mem_append_left _ hy))
  simp at hl ht
  exact ⟨hx.1, hx64, by omega⟩
theorem name_len (op : Int) : (rowAt op).name.length ≤ 7 := by
  have := rowAt_all (p := fun r => decide (r.name.length ≤ 7)) (by decide) (by decide) op
  exact of_decide_eq_true this

theorem Keep_putObj {O : Nat → Prop} {w W : World} {D : Nat} {o : Obj} (h : Keep O w W) (hD : w.heap.size ≤ D) : Keep O w (W.putObj D o) := h.grown (grownBy_putObj' W D o) (fun g e hl => by cases e; omega)
theorem str_sp (s d : List UInt8) : str s ++ ((⟨#[32]⟩ : ByteArray) ++ str d) = str (s ++ 32 :: d) := by
  apply ByteArray.ext
  simp [ByteArray.data_append]

theorem show_end {w2 W w3 : World} {bt : Nat} {cs : Array Value} {t : TypeId} {u : Value} (h : Blk (w3.setCell ⟨bt, 0, none⟩ u) bt t cs) (h2 : Keep (fun k => k = bt) w2 W) (k4 : Keep NoB W w3) (hlt : bt < w2.heap.size) :
    (Exit.normal = Exit.normal) ∧ (Blk (w3.setCell ⟨bt, 0, none⟩ u) bt t cs ∧ Keep (fun k => k = bt) w2 (w3.setCell ⟨bt, 0, none⟩ u)) ∧ KeepsFrom w2.heap.size W (w3.setCell ⟨bt, 0, none⟩ u) :=
  ⟨rfl, ⟨h, (h2.trans k4 (fun _ hf _ => hf.elim)).setCell (fun _ => rfl) _⟩, keepsFrom_one (Keep.setCell (O := fun k => k = bt) (p := ⟨bt, 0, none⟩) (k4.mono (fun _ hf _ => hf.elim)) (fun _ => rfl) u) hlt⟩

/-- The activation at the head of the loop's body. -/
def showAct (op a b : Int) (r : Row) (g h : Nat) (x : Part) (Bo : Nat) : Act :=
  { tmps := #[instV op a b, .pointer (some ⟨g, 0, none⟩), .string ⟨#[]⟩, .pointer (some ⟨h, 0, none⟩), .bool true, .pointer (some ⟨h + 1, 0, none⟩), .pointer (some ⟨Bo, 0, none⟩), .int .i64 x.n, .tuple #[rowV r, .bool true],
      instV op a b, .tuple #[rowV r, .bool true], rowV r, .bool true, .bool true, .bool false, .pointer (some ⟨h, 0, none⟩), .string (str r.name), rowV r, instV op a b,
      .func (.func 68) #[] #[.pointer (some ⟨h + 1 + 1 + 1, 0, none⟩), .pointer (some ⟨h + 1 + 1, 0, none⟩)], .agg #[.int .i64 x.k, .int .i64 (lo x.k), .int .i64 (hi x.k), x.sh, x.gu], .int .i64 x.n,
      undef, undef, undef, undef, undef, undef, undef, undef], defers := [] }

set_option maxRecDepth 100000 in
set_option maxHeartbeats 4000000 in
theorem show_yes (op a b : Int) (w : World) (hok : okI op a b = true) (ha : I64 a) (hb : I64 b) (hL : LaidO w) :
    Calls Tryz.prog 31 #[instV op a b] w fun e w' => ∃ d, e = .returned (.string d) ∧ Hid (d = str (textI op a b)) ∧ Keep NoB w w' := by
  obtain ⟨r, hr⟩ : ∃ r, rowAt op = r := ⟨_, rfl⟩
  have hka := kinds_ok op
  have hkn := kinds_none op
  have hnl := name_len op
  have HT : Hid (str (textI op a b) = str (r.name ++ textP (partsL r.ka r.kb a b))) := by show _ = _; unfold textI; rw [hr, textP_parts _ _ _ _ (hr ▸ hkn)]
  have HR := Lib.hid (fun w => rowFor_any op a b r w (by rw [rowR_ok hok]; exact hr))
  rw [hr] at hka hnl
  rw [hok] at HR
  have HA := Lib.hid ha
  have HB := Lib.hid hb
  clear hok hr hkn ha hb
  refine (callsIn_wide (n := 4)).1 ?_
  refine callsIn_of_wp_marks Tryz.func31 rfl trivial ?_ rfl
  simp only [Tryz.ntmps31, List.size_toArray, List.length_cons, List.length_nil, Nat.reduceAdd, Nat.reduceSub, Array.replicate_succ, Array.replicate_zero, List.push_toArray, List.append_toArray, List.nil_append, List.cons_append]
  gi_wp2_with (first
    | (refine ⟨trivial, ?_⟩; gi_at_call 38; refine (callsIn_wide.2 (HR.out _)).mono ?_; rintro e w1 ⟨rfl, k1⟩; have bi := (Blk.new w 23 #[.int .i64 op, .int .i64 a, .int .i64 b]).keep k1 id; have i0 : ∀ o o', ((w1.alloc o).alloc o').cell? ⟨w.heap.size, 0, none⟩ = some (.int .i64 op) := fun o o' => ((bi.alloc o).alloc o').cell 0; have i1 : ∀ o o', ((w1.alloc o).alloc o').cell? ⟨w.heap.size, 1, none⟩ = some (.int .i64 a) := fun o o' => ((bi.alloc o).alloc o').cell 1; have i2 : ∀ o o', ((w1.alloc o).alloc o').cell? ⟨w.heap.size, 2, none⟩ = some (.int .i64 b) := fun o o' => ((bi.alloc o).alloc o').cell 2)
    | (refine ⟨trivial, ?_⟩; gi_at_call 40; refine (callsIn_wide.2 (parts_any r op a b _)).mono ?_; rintro e w2 ⟨rfl, br, bx, k2⟩))
  simp only [World.size_alloc] at br bx
  have hbt := (Blk.new (w1.alloc (.cells (cells9 r) 71)) 9 #[.string (str r.name)]).keep k2 id
  rw [World.size_alloc] at hbt
  have hltb := hbt.lt
  have hKw : Keep NoB w w2 := keepN ((keepN ((Keep.refl NoB w).alloc _) k1).alloc _ |>.alloc _) k2
  have HLw := Lib.hid hL
  have hsz : w.heap.size < w1.heap.size := by have := k1.size; simp at this; omega
  clear hL bi i0 i1 i2 k1 k2
  have hI : OwnFrom w2.heap.size (fun (pre : List Part) W => Blk W (w1.heap.size + 1) 9 #[.string (str (r.name ++ textP (pre.map Part.key)))] ∧ Keep (fun k => k = w1.heap.size + 1) w2 W) :=
    (blk_own w2.heap.size (w1.heap.size + 1) 9 (fun pre : List Part => #[.string (str (r.name ++ textP (pre.map Part.key)))])).and (keep_own _ (Nat.le_refl _))
  refine wpIn_rangeFunc_brings (m := 2) (gf := 68) (lb := #[.pointer (some ⟨w1.heap.size + 1 + 1 + 1, 0, none⟩), .pointer (some ⟨w1.heap.size + 1 + 1, 0, none⟩)]) rfl (enters_of Tryz.func68 (by kernel_rfl) rfl)
    (parts1_in 2 r op a b (w1.heap.size + 1 + 1 + 1) (w1.heap.size + 1 + 1) ⟨hka.1, hka.2.1⟩ hka.2.2 (fun pre W => Blk W (w1.heap.size + 1) 9 #[.string (str (r.name ++ textP (pre.map Part.key)))] ∧ Keep (fun k => k = w1.heap.size + 1) w2 W)
      (fun pre W h => bx.keep h.2 (by omega)) (fun pre W h => br.keep h.2 (by omega))) (fun _ => rfl) hI ⟨by simpa [textP] using hbt, Keep.refl _ _⟩
    (fun pre x a' W => (Blk W (w1.heap.size + 1) 9 #[.string (str (r.name ++ textP (pre.map Part.key)))] ∧ Keep (fun k => k = w1.heap.size + 1) w2 W) ∧ PartN r.ka r.kb a b pre x W ∧ ∃ Bo, Bo ≠ w1.heap.size + 1 ∧ Blk W Bo 86 #[.int .i64 x.k, .int .i64 (lo x.k), .int .i64 (hi x.k), x.sh, x.gu] ∧ a' = showAct op a b r w.heap.size w1.heap.size x Bo) ?hax ?assign ?body ?done
  case hax =>
    rintro pre x a' s X Y row ⟨h1, ⟨h2, h3⟩, Bo, h4, h5, h6⟩ hg hrow
    exact ⟨hI _ _ _ _ h1 hg hrow, ⟨h2, fnAt_own (β := Unit) _ _ _ _ () _ _ _ h3 hg hrow⟩, Bo, h4, blk_own (β := Unit) _ _ _ (fun _ => _) () _ _ _ h5 hg hrow, h6⟩
  case assign =>
    rintro l pre ⟨k, n, sh, gu⟩ W hi hen
    have hne : W.heap.size ≠ w1.heap.size + 1 := by have := hi.1.lt; omega
    have hen2 := Lib.hid hen
    have hi2 := Lib.hid hi
    have hk0 := (part_facts hen HA.out HB.out).1
    rcases hen.2 with ⟨h0, _⟩ | ⟨_, h1, h2⟩ | ⟨_, b1, c1, h1, h2, _, _⟩
    · exact absurd h0 hk0
    all_goals
      simp only at h1 h2
      subst h1 h2
      clear hen hi
      dsimp only [partE, opV]
      gi_wp2
      exact ⟨⟨⟨hi2.out.1.alloc _, hi2.out.2.alloc _⟩, ⟨hen2.out.1, hen2.out.2.keep ((Keep.refl NoB W).alloc _)⟩, W.heap.size, hne, Blk.new W _ _, rfl⟩, keepsFrom_keep ((Keep.refl NoB W).alloc _)⟩
  case body =>
    rintro l pre ⟨k, n, sh, gu⟩ a' W ⟨hi, hen, Bo, hne, bo, rfl⟩
    obtain ⟨hk0, hn, htl⟩ := part_facts hen HA.out HB.out
    have hKW : Keep NoB w W := hKw.trans hi.2 (fun k e hl => by subst e; omega)
    have hSz : (str (r.name ++ textP (pre.map Part.key))).size ≤ 60 := by rw [_root_.Go.Proofs.YtpkcjokkadfhcaaGreatDoor.W.size_of (s := r.name ++ textP (pre.map Part.key)) (by simp), List.length_append]; omega
    have HS : Hid (str (r.name ++ textP ((pre ++ [(⟨k, n, sh, gu⟩ : Part)]).map Part.key)) = str (r.name ++ textP (pre.map Part.key)) ++ ((⟨#[32]⟩ : ByteArray) ++ str (word k n))) := by
      show _ = _
      rw [str_sp, List.map_append]
      simp only [List.map_cons, List.map_nil]
      rw [textP_snoc, List.append_assoc]
      rfl
    have hWd : (str (word k n)).size ≤ 21 := by rw [_root_.Go.Proofs.YtpkcjokkadfhcaaGreatDoor.W.size_of (s := word k n) (by simp)]; exact word_len k n hn
    have hlt := hi.1.lt
    obtain ⟨D, hD⟩ : ∃ D, str (word k n) = D := ⟨_, rfl⟩
    rw [hD] at HS hWd
    generalize str (r.name ++ textP (pre.map Part.key)) = S at hi hSz HS
    have ct : W.cell? ⟨w1.heap.size + 1, 0, none⟩ = some (.string S) := hi.1.cell 0
    have ft := hi.1.frozen 0
    have hB := Lib.hid hi
    clear hi htl
    rcases hen.2 with ⟨h0, _⟩ | ⟨hd, h1, h2⟩ | ⟨hd, b1, c1, h1, h2, hb1, _⟩
    · exact absurd h0 hk0
    · simp only at h1 h2 hd
      subst h1 h2
      have HC := Lib.hid (fun (W' : World) (hk : Keep NoB W W') => (show_dig k n W' hd hn (HLw.out.keep (keepN hKW hk))).mono (R' := fun e w' => e = .returned (.string D) ∧ Keep NoB W' w') (fun _ _ ⟨d, he, hd', hk'⟩ => ⟨by rw [he, hd'.out, hD], hk'⟩))
      have co : W.cell? ⟨Bo, 3, none⟩ = some (fnV 104) := bo.cell 3
      clear hen hd hk0 bo hD
      dsimp only [showAct]
      have hmix : Tryz.prog.follows .mixedOrders = true := by kernel_rfl
      have q1 : ¬ 9223372036854775807 < 1 + D.size := by omega
      have q2 : ¬ 9223372036854775807 < S.size + (1 + D.size) := by omega
      gi_wp2
      gi_region_with_o (refine ⟨trivial, ?_⟩; gi_at_call 104; refine (CallsIn.inRound l (callsIn_wide.2 (HC.out _ (by first | exact Keep.refl _ _ | exact (Keep.refl _ _).drew | exact (Keep.refl _ _).drew.drew)))).mono ?_; rintro e w3 ⟨rfl, k3⟩; have k4 : Keep NoB W w3 := ⟨k3.os, k3.tape, k3.output, k3.size, k3.block⟩; have b3 : Blk w3 (w1.heap.size + 1) 9 #[.string S] := hB.out.1.keep k4 id; have c3 : w3.cell? ⟨w1.heap.size + 1, 0, none⟩ = some (.string S) := b3.cell 0; have f3 : w3.frozen? ⟨w1.heap.size + 1, 0, none⟩ = false := b3.frozen 0)
      all_goals
        have hf : Blk (w3.setCell ⟨w1.heap.size + 1, 0, none⟩ (.string (S ++ ((⟨#[32]⟩ : ByteArray) ++ D)))) (w1.heap.size + 1) 9 #[.string (S ++ ((⟨#[32]⟩ : ByteArray) ++ D))] := b3.put 0 _
        rw [← HS.out] at hf ⊢
        exact show_end hf hB.out.2 k4 hltb
    · simp only at h1 h2 hd
      subst h1 h2
      have HC := Lib.hid (fun (W' : World) (hk : Keep NoB W W') => (show_word k n b1 W' hd hn (HLw.out.keep (keepN hKW hk)) (hk.cell hb1 id)).mono (R' := fun e w' => e = .returned (.string D) ∧ Keep NoB W' w') (fun _ _ ⟨d, he, hd', hk'⟩ => ⟨by rw [he, hd'.out, hD], hk'⟩))
      have co : W.cell? ⟨Bo, 3, none⟩ = some (boxV 108 b1) := bo.cell 3
      clear hen hd hk0 bo hD hb1
      dsimp only [showAct]
      have hmix : Tryz.prog.follows .mixedOrders = true := by kernel_rfl
      have q1 : ¬ 9223372036854775807 < 1 + D.size := by omega
      have q2 : ¬ 9223372036854775807 < S.size + (1 + D.size) := by omega
      gi_wp2
      gi_region_with_o (refine ⟨trivial, ?_⟩; gi_at_call 108; refine (CallsIn.inRound l (callsIn_wide.2 (HC.out _ (by first | exact Keep.refl _ _ | exact (Keep.refl _ _).drew | exact (Keep.refl _ _).drew.drew)))).mono ?_; rintro e w3 ⟨rfl, k3⟩; have k4 : Keep NoB W w3 := ⟨k3.os, k3.tape, k3.output, k3.size, k3.block⟩; have b3 : Blk w3 (w1.heap.size + 1) 9 #[.string S] := hB.out.1.keep k4 id; have c3 : w3.cell? ⟨w1.heap.size + 1, 0, none⟩ = some (.string S) := b3.cell 0; have f3 : w3.frozen? ⟨w1.heap.size + 1, 0, none⟩ = false := b3.frozen 0)
      all_goals
        have hf : Blk (w3.setCell ⟨w1.heap.size + 1, 0, none⟩ (.string (S ++ ((⟨#[32]⟩ : ByteArray) ++ D)))) (w1.heap.size + 1) 9 #[.string (S ++ ((⟨#[32]⟩ : ByteArray) ++ D))] := b3.put 0 _
        rw [← HS.out] at hf ⊢
        exact show_end hf hB.out.2 k4 hltb
  case done =>
    rintro D xs W hD hS hi hK
    have ct := hi.1.cell 0
    simp only [List.getElem?_toArray, List.getElem?_cons_zero] at ct
    gi_wp2
    refine ⟨by simp, .inl ⟨_, _, rfl, run_takeDeferred hK, ?_⟩⟩
    refine ⟨_, results_tmp rfl _ _ _, _, rfl, ?_, Keep_putObj (hKw.trans hi.2 (fun k e hl => by subst e; omega)) (Nat.le_trans hKw.size hD)⟩
    show _ = _
    rw [HT.out]

end Go.Proofs.YtpkcjokkadfhcaaGreatDoor.O
