/-
  AsmNotes' walk: notes, blanks and empty lines say nothing. Conditions: what the program's Normal and Parse, and the law's alive, answer, in worlds of a class that making memory keeps.
  What the law's wrong answers, of lines that are wrong so. Conditions: what the program's Parse answers, in worlds of a class that making memory keeps; the lines lie in memory.
  The law's alive: the chapter's examples. Conditions: what the program's Parse answers, in worlds of a class that making memory keeps.
  What Parse, Normal and the law's alive answer in worlds in which what is laid is laid. No program but the walk's.
  What the rows of opcode share where strings.Cut is called, or bytes come in: the wrap that keeps the world's shape beside the laid variables. No conditions.
-/
import Derived.HandedShaped
import Derived.Shelf.Vars
import Derived.Test.YtifobiajjhknbaaGreatDoorQ14
import Derived.Test.YtifobiajjhknbaaGreatDoorQ12
import Derived.Test.YtifobiajjhknbaaGreatDoorQ8
import Derived.Test.YtifobiajjhknbaaGreatDoorQ7
namespace Go.Proofs.YtifobiajjhknbaaGreatDoor.M
open Go.RowKit Go.Shelf W
attribute [local go_sem] Oper.semAt_some

theorem indexByte_ten (S : ByteArray) (W : World) : Calls Tryz.prog 65 #[.string S, .int .u8 10] W fun e w' => e = .returned (.int .i64 (Lib.indexByte S.data.toList 10)) ∧ w' = W := Tryz.strings_IndexByte S 10 W
theorem slines_any (S : ByteArray) (w : World) : Calls Tryz.prog 31 #[.string S] w fun e w' =>
    e = .returned (.func (.func 64) #[] #[.pointer (some ⟨w.heap.size, 0, none⟩)]) ∧ w' = w.alloc (.cells #[.string S] 9) := by
  go_enter Tryz.func31, Tryz.ntmps31
  go_wp2
  go_ret
  exact ⟨rfl, rfl⟩
theorem trimLF_any (S : ByteArray) (w : World) (hs : S.size ≤ 9223372036854775807) : Calls Tryz.prog 32 #[.string S, .string ⟨#[10]⟩] w fun e w' => e = .returned (.string (str (Lib.trimSuffix S.data.toList [10]))) ∧ w' = w :=
  Tryz.strings_TrimSuffix S ⟨#[10]⟩ w hs
theorem hasLF_any (S : ByteArray) (w : World) (hs : S.size ≤ 140000) (hC : O.CutAt w) : Calls Tryz.prog 30 #[.string S, .string ⟨#[10]⟩] w fun e w' => e = .returned (.bool (!noLF S.data.toList)) ∧ w' = w := by
  obtain ⟨m, hm⟩ := hC
  refine (Tryz.strings_Contains S ⟨#[10]⟩ m w (by omega) hm).mono ?_
  rintro e w' ⟨rfl, rfl⟩
  refine ⟨?_, rfl⟩
  have : Lib.contains S.data.toList [10] = !noLF S.data.toList := by
    unfold Lib.contains
    rw [Lib.index_one]
    rcases index_lf S.data.toList with ⟨i, h1, h2, h3, _⟩ | ⟨h1, h2⟩
    · rw [h1]
      have hno : noLF S.data.toList = false := by
        rw [h3]
        unfold noLF
        rw [List.all_append]
        simp
      rw [hno]
      simp
    · rw [h1, h2]
      rfl
  rw [show (⟨#[10]⟩ : ByteArray).data.toList = [10] from rfl, this]

set_option maxRecDepth 100000 in
set_option maxHeartbeats 4000000 in
theorem notes_short (T : World → Prop) (hT : ∀ W W', T W → Keep NoB W W' → T W') (HA : Hid (AliveT T)) (HC : ∀ W, T W → O.CutAt W) (S N : ByteArray) (w : World) (hw : T w) (h : ¬ (S.size ≤ 4000 ∧ N.size ≤ 100 ∧ noLF N.data.toList = true)) :
    Calls Tryz.prog 6 #[.string S, .string N] w fun e w' => e = .returned (.bool true) ∧ Keep NoB w w' := by
  have HT := Lib.hid (fun W (hk : Keep NoB w W) => hT w W hw hk)
  have HAl := Lib.hid (fun W (hk : Keep NoB w W) => HA.out W (HT.out W hk))
  have HCt := Lib.hid (fun W (hk : Keep NoB w W) => HC W (HT.out W hk))
  have bn := Blk.new w 9 #[.string N]
  have k0 := (Keep.refl NoB w).alloc (.cells #[.string N] 9)
  clear HA HT hT HC hw
  go_enter Tryz.func6, Tryz.ntmps6
  go_wp2_with fail
  refine (HAl.out _ k0).mono ?_
  rintro e w1 ⟨rfl, k1'⟩
  have bn1 := bn.keep k1' id
  have c1 : w1.cell? ⟨w.heap.size, 0, none⟩ = some (.string N) := bn1.cell 0
  have k1 := keepM k0 k1'
  clear k1' bn bn1 k0 HAl
  by_cases h1 : S.size ≤ 4000
  · by_cases h2 : N.size ≤ 100
    · have h3 : noLF N.data.toList = false := by
        cases hq : noLF N.data.toList with
        | false => rfl
        | true => exact absurd ⟨h1, h2, hq⟩ h
      have HL := Lib.hid (hasLF_any N w1 (by omega) (HCt.out w1 k1))
      rw [h3] at HL
      clear h h3 HCt
      go_wp2_with fail
      refine HL.out.mono ?_
      rintro e w2 ⟨rfl, rfl⟩
      go_wp2
      go_ret
      exact ⟨rfl, k1⟩
    · go_wp2
      go_ret
      exact ⟨rfl, k1⟩
  · go_wp2
    go_ret
    exact ⟨rfl, k1⟩

/-- Where the range stands, with a piece in hand. -/
def noteAct (S N : ByteArray) (nb b bx : Nat) (q1 q2 : Bool) (x : Value) : Act := { tmps := #[.string S, .string N, undef, .pointer (some ⟨nb, 0, none⟩), .bool false, .bool true, .pointer (some ⟨b, 0, none⟩), x, undef, undef, undef, undef, undef, undef, .bool true, .string S, .int .i64 (S.size : Int), .bool q1, .bool q1, .string N, .int .i64 (N.size : Int), .bool q2, .bool (q1 || q2), .bool (q1 || q2), .string N, .bool false, .bool (q1 || q2), .bool (q1 || q2), .bool true, .bool false, .bool (q1 || q2), undef, .string S, .func (.func 64) #[] #[.pointer (some ⟨bx, 0, none⟩)], x, undef, undef, undef, undef, undef, undef, undef, undef, undef, undef, undef, undef, undef, undef, undef, undef, undef, undef, undef, undef, undef, undef, undef, undef, undef, undef, undef, undef, undef, undef, undef, undef, undef, undef, undef, undef, undef, undef, undef, undef, undef, undef, undef, undef, undef, undef, undef, undef, undef, undef, undef], defers := [] }
theorem keep_below {w W W' : World} {b : Nat} (hk : Keep NoB w W) (hb : Below b W W') (h : w.heap.size ≤ b) : Keep NoB w W' :=
  hk.trans (O' := fun k => b ≤ k) ⟨hb.os, hb.tape, hb.output, hb.size, fun k _ hn => hb.block k (by omega)⟩ (fun k hk hl => by omega)
theorem keep_putM {w W : World} {D : Nat} {o : Obj} (h : Keep NoB w W) (hD : w.heap.size ≤ D) : Keep NoB w (W.putObj D o) := h.grown (grownBy_putObj' W D o) (fun g e hl => by cases e; omega)
theorem keepsFrom_others {b B : Nat} {W W' : World} (hb : Below b W W') (ho : Lib.OthersKept 5 (some b) W W') (hB : b < B) : KeepsFrom B W W' :=
  ⟨hb.size, fun k o hk h hc => ho k o h (by simp; omega) (fun c fz e => by subst e; cases hc)⟩
/-- What holds in the range. -/
def NotI (w : World) (N : ByteArray) (n : Bs) (nb b bx : Nat) (pre : List Bs) (W : World) : Prop := BldX b bx (notT n pre) W ∧ Blk W nb 9 #[.string N] ∧ Keep NoB w W
theorem notI_own (w : World) (N : ByteArray) (n : Bs) (nb b bx B : Nat) (h1 : nb < B) (h2 : b < B) (h3 : w.heap.size ≤ B) : OwnFrom B (NotI w N n nb b bx) := by
  rintro pre W W' row ⟨a1, a2, a3⟩ hg hr
  refine ⟨bldX_row a1 hg (fun e => ?_) (fun g e => .inr (hr g e).2), a2.grown hg (fun e => ?_), a3.grown hg (fun g e hl => ?_)⟩
  · have := (hr b e.symm).1; omega
  · have := (hr nb e.symm).1; omega
  · have := (hr g e).1; omega
theorem notI_box {w : World} {N : ByteArray} {n : Bs} {nb b bx : Nat} (h1 : nb ≠ bx) (h2 : b ≠ bx) (h3 : w.heap.size ≤ bx) (pre : List Bs) (W W' : World) (h : NotI w N n nb b bx pre W) (hg : W.grownBy W' (some bx)) : NotI w N n nb b bx pre W' := by
  obtain ⟨a1, a2, a3⟩ := h
  refine ⟨bldX_row a1 hg (fun e => ?_) (fun g e => .inl (by simpa using e.symm)), a2.grown hg (fun e => ?_), a3.grown hg (fun g e hl => ?_)⟩
  · cases e; exact h2 rfl
  · cases e; exact h1 rfl
  · cases e; omega

/-- What Parse answers, laid open. -/
def ParseO (p : I.Im) (l : Nat) (c : Int) (w : World) (e : Ending) (w' : World) : Prop :=
  ∃ X nx cx Y ny cy, ∃ (es : List I.SE) (fs : List I.FE), e = .returned (.tuple #[.agg #[.slice X nx cx, .slice Y ny cy], .int .i64 (l : Int), .int .i64 c]) ∧ I.OwnIm w' (Fresh w) ⟨X, nx, cx, Y, ny, cy⟩ es fs ∧ I.SmI es fs ∧ I.imOf es fs = p ∧ Keep NoB w w'
theorem parseO_of {p : I.Im} {l : Nat} {c : Int} {w w' : World} {e : Ending} (h : ParseR (p, l, c) w e w') : ParseO p l c w e w' := by
  obtain ⟨⟨X, nx, cx, Y, ny, cy⟩, es, fs, h1, h2⟩ := h
  exact ⟨X, nx, cx, Y, ny, cy, es, fs, h1, h2⟩
/-- What holds behind the range. -/
def NF (w : World) (b D : Nat) (t : Bs) (W : World) : Prop := Keep NoB w W ∧ Bld b t W ∧ W.heap[D]? = some (.deferred (some []))
theorem NF.keep {w W W' : World} {b D : Nat} {t : Bs} (h : NF w b D t W) (hk : Keep NoB W W') : NF w b D t W' :=
  ⟨keepM h.1 hk, bld_keep h.2.1 hk, (hk.block D (Array.getElem?_eq_some_iff.1 h.2.2).1 id).trans h.2.2⟩
theorem NF.str {w W W' : World} {b D : Nat} {t : Bs} (h : NF w b D t W) (h1 : Bld b t W') (h2 : Below b W W') (h3 : Lib.OthersKept 5 (some b) W W') (hb : w.heap.size ≤ b) (hD : b < D) : NF w b D t W' :=
  ⟨keep_below h.1 h2 hb, h1, h3 D _ h.2.2 (by simp; omega) (fun c fz e => by cases e)⟩
/-- Lines' numbers are no greater than the text is long. -/
theorem ones_le : ∀ (ls : List Bs) (n : Nat), ∀ l ∈ ones n ls, l.1 < n + ls.length
  | [], n, l, hl => by cases hl
  | s :: r, n, l, hl => by
    rw [ones, List.mem_append] at hl
    rcases hl with hl | hl
    · by_cases h : wordsL s = []
      · rw [one_none h] at hl; cases hl
      · rw [one_some h, List.mem_singleton] at hl
        subst hl
        simp
    · have := ones_le r (n + 1) l hl
      simp
      omega
theorem sayL_le {ls : List Ln} {M : Nat} (h : ∀ l ∈ ls, l.1 ≤ M) : (sayL ls).2.1 ≤ M := by
  have e : ls.map (reL fun x => min x M) = ls := by
    conv => rhs; rw [← List.map_id ls]
    refine List.map_congr_left fun l hl => ?_
    unfold reL
    exact Prod.ext (Nat.min_eq_left (h l hl)) rfl
  have h2 := sayL_re (fun x => min x M) (Nat.min_eq_left (Nat.zero_le M)) ls
  rw [e] at h2
  have h3 := congrArg (fun x => x.2.1) h2
  dsimp only at h3
  omega
theorem parse_line (s : Bs) : (parseL s).2.1 ≤ s.length + 1 := by
  by_cases h : 131072 < s.length
  · rw [parse_long h]; exact Nat.zero_le _
  · rw [parse_else h]
    refine sayL_le fun l hl => ?_
    rw [lines_segs] at hl
    have h1 := ones_le _ _ l hl
    have h2 := pcs_count s
    have h3 := congrArg List.length (pcs_trim s)
    rw [List.length_map] at h3
    omega

set_option maxRecDepth 100000 in
set_option maxHeartbeats 4000000 in
theorem notes_main (T : World → Prop) (hT : ∀ W W', T W → Keep NoB W W' → T W') (HA : Hid (AliveT T)) (HN : Hid (NormT T)) (HP : Hid (ParseT T)) (HC : ∀ W, T W → O.CutAt W) (S N : ByteArray) (s n : Bs) (w : World) (hw : T w)
    (hs : S.data.toList = s) (hn : N.data.toList = n) (h1 : S.size ≤ 4000) (h2 : N.size ≤ 100) (h3 : noLF n = true) :
    Calls Tryz.prog 6 #[.string S, .string N] w fun e w' => e = .returned (.bool true) ∧ Keep NoB w w' := by
  have HT := Lib.hid (fun W (hk : Keep NoB w W) => hT w W hw hk)
  have HAl := Lib.hid (fun W (hk : Keep NoB w W) => HA.out W (HT.out W hk))
  have HCt := Lib.hid (fun W (hk : Keep NoB w W) => HC W (HT.out W hk))
  have HLF := Lib.hid (fun W (hk : Keep NoB w W) => hasLF_any N W (by omega) (HCt.out W hk))
  rw [hn, h3] at HLF
  have bn := Blk.new w 9 #[.string N]
  have k0 := (Keep.refl NoB w).alloc (.cells #[.string N] 9)
  have HSs : Hid (S.data.toList = s ∧ N.data.toList = n ∧ noLF n = true) := ⟨hs, hn, h3⟩
  clear HA hT HC hw HCt hs hn h3
  refine (callsIn_wide (n := 4)).1 ?_
  refine callsIn_of_wp_marks Tryz.func6 rfl trivial ?_ rfl
  simp only [Tryz.ntmps6, List.size_toArray, List.length_cons, List.length_nil, Nat.reduceAdd, Nat.reduceSub, Array.replicate_succ, Array.replicate_zero, List.push_toArray, List.append_toArray, List.nil_append, List.cons_append]
  gi_wp2_with (refine ⟨trivial, ?_⟩; gi_at_call 14; refine (callsIn_wide.2 (HAl.out _ k0)).mono ?_; rintro e w1 ⟨rfl, k1'⟩; have bn1 := bn.keep k1' id; have c1 : w1.cell? ⟨w.heap.size, 0, none⟩ = some (.string N) := bn1.cell 0; have k1 := keepM k0 k1')
  gi_wp2_with (refine ⟨trivial, ?_⟩; gi_at_call 30; refine (callsIn_wide.2 (HLF.out _ k1)).mono ?_; rintro e w2 ⟨rfl, rfl⟩)
  gi_wp2_with (refine ⟨trivial, ?_⟩; gi_at_call 31; refine (callsIn_wide.2 (slines_any S _)).mono ?_; rintro e w3 ⟨rfl, rfl⟩)
  obtain ⟨nb, hnb⟩ : ∃ nb, w.heap.size = nb := ⟨_, rfl⟩
  obtain ⟨b, hb⟩ : ∃ b, w2.heap.size = b := ⟨_, rfl⟩
  obtain ⟨q1, hq1⟩ : ∃ q1, decide ((4000 : Int) < (S.size : Int)) = q1 := ⟨_, rfl⟩
  obtain ⟨q2, hq2⟩ : ∃ q2, decide ((100 : Int) < (N.size : Int)) = q2 := ⟨_, rfl⟩
  have hlt : nb < b := by have := bn1.lt; omega
  have hB0 := bld_new w2
  obtain ⟨w4, hw4⟩ : ∃ w4, (w2.alloc (.cells #[.pointer none, .slice none 0 0] 52)).alloc (.cells #[.string S] 9) = w4 := ⟨_, rfl⟩
  have h4s : w4.heap.size = b + 2 := by rw [← hw4]; simp; omega
  have h4x : w4.heap[b + 1]? = some (.cells #[.string S] 9 (0, 0)) := by
    have := Blk.new (w2.alloc (.cells #[.pointer none, .slice none 0 0] 52)) 9 #[.string S]
    rw [World.size_alloc, hb, hw4] at this
    exact this
  have h4k : Keep NoB w w4 := by rw [← hw4]; exact (k1.alloc _).alloc _
  have h4n : Blk w4 nb 9 #[.string N] := by rw [← hw4, ← hnb]; exact (bn1.alloc _).alloc _
  have h4b : BldX b (b + 1) (notT n []) w4 := by
    refine bldX_of ?_ ⟨_, h4x, _, rfl⟩
    rw [← hw4, ← hb]
    exact bld_keep hB0 ((Keep.refl NoB _).alloc _)
  rw [hnb, hb, hq1, hq2, hw4]
  have hhs : str s = S := (str_of HSs.out.1).symm
  have hbx4 : w4.heap[b + 1]? = some (.cells #[.string (str s)] 9 (0, 0)) := by rw [hhs]; exact h4x
  have hsl : s.length ≤ 4000 := by rw [← size_of HSs.out.1]; exact h1
  have hnl : n.length ≤ 100 := by rw [← size_of HSs.out.2.1]; exact h2
  have hI := notI_own w N n nb b (b + 1) w4.heap.size (by omega) (by omega) (by omega)
  clear hB0 bn bn1 c1 hw4
  refine wpIn_rangeFunc_box (m := 2) (gf := 64) (lb := #[.pointer (some ⟨b + 1, 0, none⟩)]) rfl (enters_of Tryz.func64 rfl rfl)
    (lines_brings 2 3 (b + 1) (by decide) rfl s (by omega) indexByte_ten) (fun _ => rfl) hI (notI_box (by omega) (by omega) (by omega)) hbx4 ⟨h4b, h4n, h4k⟩
    (fun pre x a' W => NotI w N n nb b (b + 1) pre W ∧ a' = noteAct S N nb b (b + 1) q1 q2 (.string (str x))) ?hax ?assign ?body ?done
  case hax =>
    rintro pre x a' s X Y row ⟨g1, g2⟩ hg hrow
    exact ⟨hI _ _ _ _ g1 hg hrow, g2⟩
  case assign =>
    rintro l pre x W hi hen hok
    unfold noteAct
    gi_wp2
    exact ⟨⟨hi, trivial⟩, KeepsFrom.refl _ _, trivial⟩
  case body =>
    rintro l pre x a' W ⟨post, hpost⟩ ⟨⟨g1, g2, g3⟩, rfl⟩ hok
    obtain ⟨hbl, hxl⟩ := notT_pre hpost hnl hsl
    have HTr := Lib.hid (trimLF_any (str x) W (by rw [size_of (S := str x) (s := x) (by simp)]; omega))
    rw [show (str x).data.toList = x from by simp] at HTr
    have htl := trim_len x
    have hnd := noted_len n (Lib.trimSuffix x [10])
    have cN : W.cell? ⟨nb, 0, none⟩ = some (.string N) := g2.cell 0
    have HNN : Hid (str n = N) := (str_of HSs.out.2.1).symm
    have hns := notT_snoc n pre x
    generalize Lib.trimSuffix x [10] = y at *
    have HX : Hid ((⟨#[59]⟩ : ByteArray) ++ N ++ (⟨#[10, 10, 32, 9]⟩ : ByteArray) ++ str y ++ (⟨#[32, 59]⟩ : ByteArray) ++ N ++ (⟨#[10]⟩ : ByteArray) = str (noted n y)) := by
      show _ = _
      rw [← HNN.out, show (⟨#[59]⟩ : ByteArray) = str [59] from rfl, show (⟨#[10, 10, 32, 9]⟩ : ByteArray) = str [10, 10, 32, 9] from rfl, show (⟨#[32, 59]⟩ : ByteArray) = str [32, 59] from rfl, show (⟨#[10]⟩ : ByteArray) = str [10] from rfl, str_add, str_add, str_add, str_add, str_add, str_add]
      unfold noted
      simp
    have hys : (str y).size = y.length := size_of (by simp)
    have HW := Lib.hid (fun Z hz => write_any b (notT n pre) (noted n y) Z W g1.1 hz (by omega) (by have := (hI.alloc (.cells #[] 0) ⟨g1, g2, g3⟩); have h9 := bld_cells g1.1; obtain ⟨_, _, h9, _⟩ := h9; exact Nat.le_of_lt (Array.getElem?_eq_some_iff.1 h9).1))
    generalize str y = Y at *
    generalize noted n y = z at *
    unfold noteAct
    gi_wp2_with (refine ⟨trivial, ?_⟩; gi_at_call 32; refine (CallsIn.inRound l (callsIn_wide.2 HTr.out)).mono ?_; rintro e w5 ⟨rfl, rfl⟩)
    gi_wp2_with (refine ⟨trivial, ?_⟩; gi_at_call 19; refine (CallsIn.inRound l (callsIn_wide.2 (HW.out _ HX.out))).mono ?_; rintro e w6 ⟨⟨u, v, rfl⟩, p1, p2, p3⟩)
    obtain ⟨o, ho, c, rfl⟩ := hok
    have hx6 := p3 _ _ ho (by simp) (fun c' fz e => by cases e)
    refine ⟨⟨bldX_of (by rw [hns]; exact p1) ⟨_, hx6, _, rfl⟩, blk_others g2 p3 (by omega) (by decide), keep_below g3 p2 (by omega)⟩, keepsFrom_others p2 p3 (by omega), hx6.trans ho.symm⟩
  case done =>
    rintro D xs W hD rfl ⟨⟨g1, _⟩, g2, g3⟩ hK
    rw [notT_all] at g1
    have hF : NF w b D (noteL n s) W := ⟨g3, g1, hK⟩
    have hnz := notT_size hnl hsl
    have hlen : (Lib.byteCells (noteL n s)).length = (noteL n s).length := Lib.byteCells_length _
    have HLn := Lib.hid (Tryz.Builder_Len_f b b _ W g1)
    rw [hlen] at HLn
    clear hI hlen g1 g2 g3 h4b h4n h4k h4x hbx4
    by_cases hbig : 131072 < (noteL n s).length
    · gi_wp2_with (refine ⟨trivial, ?_⟩; gi_at_call 28; refine (callsIn_wide.2 HLn.out).mono ?_; rintro e w6 ⟨rfl, rfl⟩)
      refine ⟨by simp, .inl ⟨_, _, rfl, run_takeDeferred hK, ?_⟩⟩
      exact ⟨_, results_tmp rfl _ _ _, rfl, keep_putM hF.1 (by omega)⟩
    · gi_wp2_with (refine ⟨trivial, ?_⟩; gi_at_call 28; refine (callsIn_wide.2 HLn.out).mono ?_; rintro e w6 ⟨rfl, rfl⟩)
      obtain ⟨p, ln, e0, hPs⟩ : ∃ p ln e, parseL s = (p, ln, e) := ⟨_, _, _, rfl⟩
      have hpn := parse_notes (note := n) (s := s) HSs.out.2.2 (by omega) (by omega)
      have hpl := parse_line s
      rw [hPs] at hpn hpl
      dsimp only at hpn hpl
      have hnn := norm_notes (note := n) HSs.out.2.2 s
      have hts : (str (noteL n s)).data.toList = noteL n s := by simp
      have htz : (str (noteL n s)).size ≤ 131072 := by rw [size_of hts]; omega
      have H1 := Lib.hid (fun W hk => HP.out S s W (HT.out W hk) (Lib.hid HSs.out.1) (by omega))
      have H2 := Lib.hid (fun W hk => HP.out (str (noteL n s)) (noteL n s) W (HT.out W hk) (Lib.hid hts) (by omega))
      have H3 := Lib.hid (fun W hk => HN.out (str (noteL n s)) (noteL n s) W (HT.out W hk) (Lib.hid hts) (by omega))
      have H4 := Lib.hid (fun W hk => HN.out S s W (HT.out W hk) (Lib.hid HSs.out.1) (by omega))
      have HSt := Lib.hid (fun W (h : Bld b (noteL n s) W) => string_any b (noteL n s) W h (by obtain ⟨_, _, h9, _⟩ := bld_cells h; exact Nat.le_of_lt (Array.getElem?_eq_some_iff.1 h9).1))
      rw [hPs] at H1
      rw [hpn] at H2
      rw [hnn] at H3
      have H1 := Lib.hid (fun W hk => (H1.out W hk).mono (fun _ _ h => parseO_of h))
      have H2 := Lib.hid (fun W hk => (H2.out W hk).mono (fun _ _ h => parseO_of h))
      have HFF := Lib.hid hF
      obtain ⟨TX, hTX⟩ : ∃ TX, str (noteL n s) = TX := ⟨_, rfl⟩
      rw [hTX] at H2 H3 HSt
      generalize str (normL s) = NS at H3 H4
      have hwb : w.heap.size ≤ b := by omega
      have hbD : b < D := by omega
      clear hPs hpn hnn hts htz hTX hF HN HP HT HAl HLF hnz
      gi_wp2_with (refine ⟨trivial, ?_⟩; gi_at_call 8; refine (callsIn_wide.2 (H1.out _ HFF.out.1)).mono ?_; rintro e w7 ⟨X, nx, cx, Y, ny, cy, es, fs, rfl, hio, hsm, him, k7⟩)
      have b8 := Blk.new w7 27 #[.slice X nx cx, .slice Y ny cy]
      have ka := (Keep.refl NoB w7).alloc (.cells #[.slice X nx cx, .slice Y ny cy] 27)
      have F8 := (HFF.out.keep k7).keep ka
      have i8 := hio.keepN ka
      have hb7 : b < w7.heap.size := by obtain ⟨_, _, h9, _⟩ := bld_cells (HFF.out.keep k7).2.1; exact (Array.getElem?_eq_some_iff.1 h9).1
      gi_wp2_with (refine ⟨trivial, ?_⟩; gi_at_call 29; refine (callsIn_wide.2 (HSt.out _ F8.2.1)).mono ?_; rintro e w9 ⟨rfl, p1, p2, p3⟩)
      have F9 := F8.str p1 p2 p3 hwb hbD
      have b9 := blk_others b8 p3 (by omega) (by decide)
      have i9 := im_others i8 p3 (by obtain ⟨p, u, h9, _⟩ := bld_cells F8.2.1; exact ⟨p, u, h9⟩)
      clear F8 b8 i8 p1 p2 p3 hio k7 ka HFF HLn hK
      gi_wp2_with (refine ⟨trivial, ?_⟩; gi_at_call 8; refine (callsIn_wide.2 (H2.out _ F9.1)).mono ?_; rintro e w10 ⟨X5, nx5, cx5, Y5, ny5, cy5, es5, fs5, rfl, hio5, hsm5, him5, k10⟩; have b11 := (b9.keep k10 id).alloc (.cells #[.slice X5 nx5 cx5, .slice Y5 ny5 cy5] 27); have bq := Blk.new w10 27 #[.slice X5 nx5 cx5, .slice Y5 ny5 cy5]; have kb := (Keep.refl NoB w10).alloc (.cells #[.slice X5 nx5 cx5, .slice Y5 ny5 cy5] 27); have F11 := (F9.keep k10).keep kb; obtain ⟨r0, r1⟩ := I.blk2 (v := ⟨X, nx, cx, Y, ny, cy⟩) b11; obtain ⟨s0, s1⟩ := I.blk2 (v := ⟨X5, nx5, cx5, Y5, ny5, cy5⟩) bq; dsimp only at r0 r1 s0 s1; have HSm := Lib.hid (I.same_any ⟨X, nx, cx, Y, ny, cy⟩ ⟨X5, nx5, cx5, Y5, ny5, cy5⟩ es es5 fs fs5 _ ((i9.keepN k10).keepN kb).im (hio5.keepN kb).im hsm hsm5); rw [him, him5, same_self] at HSm; clear i9 b9 hio5 hsm hsm5 him him5 b11 bq)
      gi_wp2_with (refine ⟨trivial, ?_⟩; gi_at_call 18; refine (callsIn_wide.2 HSm.out).mono ?_; rintro e w12 ⟨rfl, k12⟩; have F12 := F11.keep k12; have h3l : ((ln : Int) * 3 = ((3 * ln : Nat) : Int)) := by omega)
      gi_wp2_with (refine ⟨trivial, ?_⟩; gi_at_call 29; refine (callsIn_wide.2 (HSt.out _ F12.2.1)).mono ?_; rintro e w13 ⟨rfl, p1, p2, p3⟩; have F13 := F12.str p1 p2 p3 hwb hbD; have kk13 : Keep NoB w w13 := F13.1)
      clear F12 F11 p1 p2 p3 r0 r1 s0 s1 HSm HSt H1 H2
      refine ⟨trivial, (callsIn_wide.2 (H3.out w13 kk13)).mono ?_⟩
      rintro e w14 ⟨rfl, k14⟩
      have F14 := F13.keep k14
      have kk14 : Keep NoB w w14 := F14.1
      gi_wp2_with (fail)
      refine ⟨trivial, (callsIn_wide.2 (H4.out w14 kk14)).mono ?_⟩
      rintro e w15 ⟨rfl, k15⟩
      gi_wp2
      have F15 := F14.keep k15
      refine ⟨by simp, .inl ⟨_, _, rfl, run_takeDeferred F15.2.2, ?_⟩⟩
      exact ⟨_, results_tmp rfl _ _ _, rfl, keep_putM F15.1 (by omega)⟩

theorem notes_walk (T : World → Prop) (hT : ∀ W W', T W → Keep NoB W W' → T W') (HA : Hid (AliveT T)) (HN : Hid (NormT T)) (HP : Hid (ParseT T)) (HC : ∀ W, T W → O.CutAt W) (S N : ByteArray) (w : World) (hw : T w) :
    Calls Tryz.prog 6 #[.string S, .string N] w fun e w' => e = .returned (.bool true) ∧ Keep NoB w w' := by
  by_cases h : S.size ≤ 4000 ∧ N.size ≤ 100 ∧ noLF N.data.toList = true
  · exact notes_main T hT HA HN HP HC S N _ _ w hw rfl rfl h.1 h.2.1 h.2.2
  · exact notes_short T hT HA HC S N w hw h

end Go.Proofs.YtifobiajjhknbaaGreatDoor.M

namespace Go.Proofs.YtifobiajjhknbaaGreatDoor.M
open Go.RowKit W

theorem im_none {W : World} {P : Nat → Prop} {X Y : Option Addr} {nx cx ny cy : Nat} {es : List I.SE} {fs : List I.FE} (h : I.OwnIm W P ⟨X, nx, cx, Y, ny, cy⟩ es fs) (hi : I.imOf es fs = I.nilI) : nx = 0 ∧ ny = 0 := by
  have h1 : (es.map fun e => e.2) = [] := congrArg I.Im.sh hi
  have h2 : (fs.map fun e => e.2) = [] := congrArg I.Im.fn hi
  rw [List.map_eq_nil_iff] at h1 h2
  subst h1 h2
  have h3 := h.ox.1.1
  have h4 := h.oy.1.1
  simp [I.svs, I.fvs] at h3 h4
  exact ⟨by omega, by omega⟩
/-- The library's Join of words in memory. -/
theorem join_any (A : Option Addr) (ls : List Bs) (n c : Nat) (sep : ByteArray) (w : World) (hr : Rd w A (sv ls)) (hn : ls.length = n) (hm : n ≤ 1000) (hc : n ≤ c) (t : Bs) (ht : Lib.join ls sep.data.toList = t) (hl : t.length ≤ 1000000) :
    Calls Tryz.prog 27 #[.slice A n c, .string sep] w fun e w' => e = .returned (.string (str t)) ∧ Keep NoB w w' := by
  subst hn ht
  by_cases h0 : ls = []
  · subst h0
    refine (Tryz.strings_Join_none A c sep w).mono ?_
    rintro e w' ⟨rfl, rfl⟩
    exact ⟨rfl, Keep.refl _ _⟩
  · have hpos : 0 < ls.length := by cases ls with | nil => exact absurd rfl h0 | cons _ _ => simp
    obtain ⟨g, off, rfl, hcs⟩ := sv_at hr hpos
    have e1 : (ls.map str).map (·.data.toList) = ls := by rw [List.map_map]; simp [Function.comp_def]
    have hg : g < w.heap.size := by
      have := hcs 0 hpos
      unfold World.cell? at this
      cases hh : w.heap[g]? with
      | none => simp [hh] at this
      | some o => exact (Array.getElem?_eq_some_iff.1 hh).1
    have hJ := Tryz.strings_Join g off c (ls.map str) sep w (fun j x hx => by
      rw [List.getElem?_map] at hx
      rcases Nat.lt_or_ge j ls.length with hj | hj
      · rw [List.getElem?_eq_getElem hj] at hx
        injection hx with hx
        rw [← hx]
        exact hcs j hj
      · rw [List.getElem?_eq_none hj] at hx; cases hx) hg (by simp; omega) (by simpa using hc) (by rw [e1]; omega)
    rw [e1, List.length_map] at hJ
    exact hJ.mono (by rintro e w' ⟨rfl, hb⟩; exact ⟨rfl, Keep.of_below hb⟩)

set_option maxRecDepth 100000 in
set_option maxHeartbeats 2000000 in
theorem wrong_yes (T : World → Prop) (hT : ∀ W W', T W → Keep NoB W W' → T W') (HP : Hid (ParseT T)) (c : Int) (line : Nat) (A : Option Addr) (ls : List Bs) (n cp : Nat) (w : World) (hw : T w) (hr : Rd w A (sv ls)) (hn : Hid (ls.length = n)) (hm : n ≤ 1000) (hc : n ≤ cp)
    (t : Bs) (ht : Lib.join ls [10] = t) (hl : t.length ≤ 140000) (hp : parseL t = (I.nilI, line, c)) :
    Calls Tryz.prog 7 #[.int .i64 c, .int .i64 (line : Int), .slice A n cp] w fun e w' => e = .returned (.bool true) ∧ Keep NoB w w' := by
  have HJ := Lib.hid (join_any A ls n cp ⟨#[10]⟩ w hr hn.out hm hc t ht (by omega))
  have hts : (str t).data.toList = t := by simp
  have HPa := Lib.hid (fun W (hk : Keep NoB w W) => (show ParseR (parseL t) W = ParseR (I.nilI, line, c) W by rw [hp]) ▸ HP.out (str t) t W (hT w W hw hk) (Lib.hid hts) (by rw [size_of hts]; exact hl))
  have HPa := Lib.hid (fun W hk => (HPa.out W hk).mono (fun _ _ h => parseO_of h))
  generalize str t = TX at HJ HPa
  clear ht hl hp hts hr hw hT HP
  go_enter Tryz.func7, Tryz.ntmps7
  go_wp2_with fail
  refine HJ.out.mono ?_
  rintro e w1 ⟨rfl, k1⟩
  go_wp2_with fail
  refine (HPa.out _ k1).mono ?_
  rintro e w2 ⟨X, nx, cx, Y, ny, cy, es, fs, rfl, hio, hsm, him, k2⟩
  have b3 := Blk.new w2 27 #[.slice X nx cx, .slice Y ny cy]
  have k3 := (keepM k1 k2).alloc (.cells #[.slice X nx cx, .slice Y ny cy] 27)
  obtain ⟨rfl, rfl⟩ := im_none hio him
  obtain ⟨r0, r1⟩ := I.blk2 (v := ⟨X, 0, cx, Y, 0, cy⟩) b3
  dsimp only at r0 r1
  clear hio hsm him b3 k2 HPa HJ
  go_wp2
  go_ret
  exact ⟨rfl, k3⟩

/-! ### The chapter's examples -/

theorem ex1 : parseL [102, 117, 110, 99, 32, 109, 97, 105, 110, 32, 62, 10, 114, 101, 116] = (⟨[], [⟨[109, 97, 105, 110], [], [], [], [(24, 0, 0)]⟩]⟩, 0, 0) := by kernel_rfl
theorem ex2 : parseL ([102, 117, 110, 99, 32, 109, 97, 105, 110, 32, 62, 10] ++ [116, 111, 112, 58, 32, 10] ++ [106, 109, 112, 32, 116, 111, 112, 32, 59, 32, 114, 111, 117, 110, 100, 10]) = (⟨[], [⟨[109, 97, 105, 110], [], [], [], [(18, 0, 0)]⟩]⟩, 0, 0) := by kernel_rfl
theorem ex3 : parseL (Lib.join [[102, 117, 110, 99, 32, 109, 97, 105, 110, 32, 62], [106, 109, 112, 32, 101, 110, 100]] [10]) = (I.nilI, 2, 91) := by kernel_rfl
theorem ex4 : parseL (Lib.join [[114, 101, 116]] [10]) = (I.nilI, 1, 90) := by kernel_rfl
theorem ex5 : parseL (Lib.join [] [10]) = (I.nilI, 0, 93) := by kernel_rfl

end Go.Proofs.YtifobiajjhknbaaGreatDoor.M

namespace Go.Proofs.YtifobiajjhknbaaGreatDoor.M
open Go.RowKit W

/-- An image of one function, in memory: its name, its body's only instruction. -/
theorem one_fn {W : World} {P : Nat → Prop} {X Y : Option Addr} {nx cx ny cy : Nat} {es : List I.SE} {fs : List I.FE} {f : F.Fu} {x : C.I3} (h : I.OwnIm W P ⟨X, nx, cx, Y, ny, cy⟩ es fs) (hi : I.imOf es fs = ⟨[], [f]⟩) (hb : f.bd = [x]) :
    nx = 0 ∧ ny = 1 ∧ ∃ g, Y = some ⟨g, 0, none⟩ ∧ ∃ A na ca B nb cb L nl cl d cd, W.cell? ⟨g, 0, none⟩ = some (.string (str f.nm)) ∧ W.cell? ⟨g, 1, none⟩ = some (.slice A na ca) ∧ W.cell? ⟨g, 2, none⟩ = some (.slice B nb cb) ∧ W.cell? ⟨g, 3, none⟩ = some (.slice L nl cl) ∧
      W.cell? ⟨g, 4, none⟩ = some (.slice (some ⟨d, 0, none⟩) 1 cd) ∧ W.cell? ⟨d, 0, none⟩ = some (.int .i64 x.1) ∧ W.cell? ⟨d, 1, none⟩ = some (.int .i64 x.2.1) ∧ W.cell? ⟨d, 2, none⟩ = some (.int .i64 x.2.2) := by
  have h1 : (es.map fun e => e.2) = [] := congrArg I.Im.sh hi
  have h2 : (fs.map fun e => e.2) = [f] := congrArg I.Im.fn hi
  rw [List.map_eq_nil_iff] at h1
  subst h1
  obtain ⟨v, rfl⟩ : ∃ v, fs = [(v, f)] := by
    rcases fs with _ | ⟨⟨v, g⟩, _ | ⟨e, r⟩⟩
    · simp at h2
    · simp at h2; subst h2; exact ⟨v, rfl⟩
    · simp at h2
  have h3 := h.ox.1.1
  have h4 := h.oy.1.1
  rw [I.fvs_length] at h4
  simp [I.svs] at h3
  have hny : ny = 1 := by simp at h4; omega
  have hnx : nx = 0 := by omega
  subst hny hnx
  have hF := h.hf (v, f) (by simp)
  obtain ⟨A1, c1, e1, _, _, hr1, ha1⟩ := h.oy.form
  injection e1 with e1 _ e3
  subst e1
  obtain ⟨g, off, rfl, hc1⟩ := hr1 (by rw [I.fvs_length]; simp)
  have o1 := (ha1 _ rfl).2
  injection o1 with _ o1 _
  subst o1
  have hcell : ∀ i, i < 5 → ∀ u, v.cells.toList[i]? = some u → W.cell? ⟨g, i, none⟩ = some u := fun i hi u hu => by
    have := hc1 i u (by have := I.fvs_at [(v, f)] 0 i (by simp) hi; rw [Nat.zero_mul, Nat.zero_add] at this; rw [this]; exact hu)
    rwa [Nat.zero_add] at this
  obtain ⟨A2, c2, e2, _, _, hr2, ha2⟩ := hF.od.form
  obtain ⟨S, A, na, ca, B, nb, cb, L, nl, cl, D, nd, cd⟩ := v
  dsimp only at hF e2 hr2
  have hnd : nd = 1 := by
    have := hF.od.1.1
    rw [C.iis_length, hb] at this
    simp at this
    omega
  subst hnd
  injection e2 with e2 _ e4
  subst e2
  rw [hb, C.iis_one] at hr2
  obtain ⟨d, off2, rfl, hc2⟩ := hr2 (by simp)
  have o2 := (ha2 _ rfl).2
  injection o2 with _ o2 _
  subst o2
  have hS : S = str f.nm := str_of hF.nm
  refine ⟨rfl, rfl, g, rfl, A, na, ca, B, nb, cb, L, nl, cl, d, cd, ?_, hcell 1 (by omega) _ rfl, hcell 2 (by omega) _ rfl, hcell 3 (by omega) _ rfl, hcell 4 (by omega) _ rfl, ?_, ?_, ?_⟩
  · rw [← hS]; exact hcell 0 (by omega) _ rfl
  · exact hc2 0 _ rfl
  · exact hc2 1 _ rfl
  · exact hc2 2 _ rfl

set_option maxRecDepth 100000 in
set_option maxHeartbeats 4000000 in
theorem alive_any (T : World → Prop) (hT : ∀ W W', T W → Keep NoB W W' → T W') (HP : Hid (ParseT T)) : AliveT T := by
  intro w hw
  have HT := Lib.hid (fun W (hk : Keep NoB w W) => hT w W hw hk)
  have P1 := Lib.hid (fun W (hk : Keep NoB w W) => (ex1 ▸ HP.out ⟨#[102, 117, 110, 99, 32, 109, 97, 105, 110, 32, 62, 10, 114, 101, 116]⟩ _ W (HT.out W hk) (Lib.hid rfl) (by decide)))
  have P2 := Lib.hid (fun W (hk : Keep NoB w W) => (ex2 ▸ HP.out ⟨#[102, 117, 110, 99, 32, 109, 97, 105, 110, 32, 62, 10, 116, 111, 112, 58, 32, 10, 106, 109, 112, 32, 116, 111, 112, 32, 59, 32, 114, 111, 117, 110, 100, 10]⟩ _ W (HT.out W hk) (Lib.hid rfl) (by decide)))
  have P1 := Lib.hid (fun W hk => (P1.out W hk).mono (fun _ _ h => parseO_of h))
  have P2 := Lib.hid (fun W hk => (P2.out W hk).mono (fun _ _ h => parseO_of h))
  have W1 := Lib.hid (fun W (hk : Keep NoB w W) (A : Option Addr) c (hr : Rd W A (sv [[102, 117, 110, 99, 32, 109, 97, 105, 110, 32, 62], [106, 109, 112, 32, 101, 110, 100]])) (hc : 2 ≤ c) => wrong_yes T hT HP 91 2 A _ 2 c W (HT.out W hk) hr (Lib.hid rfl) (by decide) hc _ rfl (by decide) ex3)
  have W2 := Lib.hid (fun W (hk : Keep NoB w W) (A : Option Addr) c (hr : Rd W A (sv [[114, 101, 116]])) (hc : 1 ≤ c) => wrong_yes T hT HP 90 1 A _ 1 c W (HT.out W hk) hr (Lib.hid rfl) (by decide) hc _ rfl (by decide) ex4)
  have W3 := Lib.hid (fun W (hk : Keep NoB w W) => wrong_yes T hT HP 93 0 none [] 0 0 W (HT.out W hk) (Rd.none_ _ _) (Lib.hid rfl) (by decide) (Nat.le_refl _) _ rfl (by decide) ex5)
  clear HT HP hw hT
  go_enter Tryz.func14, Tryz.ntmps14
  go_wp2_with fail
  refine (P1.out _ (Keep.refl _ _)).mono ?_
  rintro e w1 ⟨X, nx, cx, Y, ny, cy, es, fs, rfl, hio, _, him, k1⟩
  obtain ⟨rfl, rfl, g, rfl, A1, na1, ca1, B1, nb1, cb1, L1, nl1, cl1, d, cd, c0, c1, c2, c3, c4, d0, d1, d2⟩ := one_fn hio him rfl
  have b2 := Blk.new w1 27 #[.slice X 0 cx, .slice (some ⟨g, 0, none⟩) 1 cy]
  have ka := (Keep.refl NoB w1).alloc (.cells #[.slice X 0 cx, .slice (some ⟨g, 0, none⟩) 1 cy] 27)
  have k2 := keepM k1 ka
  clear hio him P1
  go_wp2_with fail
  refine (P2.out _ k2).mono ?_
  rintro e w3 ⟨X5, nx5, cx5, Y5, ny5, cy5, es5, fs5, rfl, hio, _, him, k3⟩
  obtain ⟨rfl, rfl, g5, rfl, A5, na5, ca5, B5, nb5, cb5, L5, nl5, cl5, f, cf, q0, q1, q2, q3, q4, f0, f1, f2⟩ := one_fn hio him rfl
  have b4 := (b2.keep k3 id).alloc (.cells #[.slice X5 0 cx5, .slice (some ⟨g5, 0, none⟩) 1 cy5] 27)
  have b5 := Blk.new w3 27 #[.slice X5 0 cx5, .slice (some ⟨g5, 0, none⟩) 1 cy5]
  have kb := (Keep.refl NoB w3).alloc (.cells #[.slice X5 0 cx5, .slice (some ⟨g5, 0, none⟩) 1 cy5] 27)
  have k4 := keepM (keepM k2 k3) kb
  have kc := keepM (keepM ka k3) kb
  obtain ⟨r0, r1⟩ := I.blk2 (v := ⟨X, 0, cx, some ⟨g, 0, none⟩, 1, cy⟩) b4
  obtain ⟨s0, s1⟩ := I.blk2 (v := ⟨X5, 0, cx5, some ⟨g5, 0, none⟩, 1, cy5⟩) b5
  dsimp only at r0 r1 s0 s1 c0 d0 d1 d2 q0 f0 f1 f2
  have c0 := kc.cell c0 id
  have c4 := kc.cell c4 id
  have d0 := kc.cell d0 id
  have d1 := kc.cell d1 id
  have d2 := kc.cell d2 id
  have q4 := kb.cell q4 id
  have f0 := kb.cell f0 id
  have f1 := kb.cell f1 id
  have f2 := kb.cell f2 id
  clear c1 c2 c3 q0 q1 q2 q3 hio him b2 b4 b5 ka kb kc k1 k2 k3 P2
  go_wp2_with fail
  refine (W1.out _ (k4.alloc _) _ 2 (rd_made (by simp) rfl) (Nat.le_refl _)).mono ?_
  rintro e w5 ⟨rfl, k5⟩
  have k6 := keepM (k4.alloc _) k5
  clear k4 k5 W1
  go_wp2_with fail
  refine (W2.out _ (k6.alloc _) _ 1 (rd_made rfl rfl) (Nat.le_refl _)).mono ?_
  rintro e w7 ⟨rfl, k7⟩
  have k8 := keepM (k6.alloc _) k7
  clear k6 k7 W2
  go_wp2_with fail
  refine (W3.out _ k8).mono ?_
  rintro e w9 ⟨rfl, k9⟩
  go_wp2
  go_ret
  exact ⟨rfl, keepM k8 k9⟩

end Go.Proofs.YtifobiajjhknbaaGreatDoor.M

namespace Go.Proofs.YtifobiajjhknbaaGreatDoor.M
open Go.RowKit W

theorem env_keep : ∀ W W', EnvM W → Keep NoB W W' → EnvM W' := fun _ _ h hk => h.keep hk
theorem env_cut : ∀ W, EnvM W → O.CutAt W := fun _ h => h.2
theorem parse_t : ParseT EnvM := fun S s W hE hs hl => by
  rw [← parse_read]
  exact parse_any S s W (Lib.hid hE) hs hl
theorem norm_t : NormT EnvM := fun S s W _ hs hl => normal_any S s W hs hl
theorem alive_t : AliveT EnvM := alive_any EnvM env_keep (Lib.hid parse_t)
theorem asmNormal_walk (S : ByteArray) (w : World) (hw : EnvM w) : Calls Tryz.prog 5 #[.string S] w fun e w' => e = .returned (.bool true) ∧ Keep NoB w w' :=
  normal_walk EnvM env_keep (Lib.hid alive_t) (Lib.hid norm_t) (Lib.hid parse_t) env_cut S w hw
theorem asmNotes_walk (S N : ByteArray) (w : World) (hw : EnvM w) : Calls Tryz.prog 6 #[.string S, .string N] w fun e w' => e = .returned (.bool true) ∧ Keep NoB w w' :=
  notes_walk EnvM env_keep (Lib.hid alive_t) (Lib.hid norm_t) (Lib.hid parse_t) env_cut S N w hw

end Go.Proofs.YtifobiajjhknbaaGreatDoor.M

namespace Go.Proofs.YtifobiajjhknbaaGreatDoor.O
open Go.ChangeShapes Go.WideShapes Go.ChangeAt Go.RowKit

theorem handed_and {H : Type} {enc : TypeId × Value → H} {a : Assume} {C : Checked} {os : Os} {f : FuncId} {fn : Func} {s : ChangeSpec} {conds : List PathCond} {apart fresh handsOn again : Bool} {X : World → Array Value → Prop}
    (hX : ∀ (w w' : World) (args : Array Value), w.heap = w'.heap → X w args → X w' args) (own : ownKnob C.prog.godebug = none) (started : os.Started) (noInit : C.prog.inits.idxOf? f = none) (hfn : C.prog.funcs[f]? = some fn)
    (witness : ∃ (w : World) (tape : Tape) (i : Input), w.os = os ∧ (w.forCall tape i).Shaped C.prog ∧ i.vars = [] ∧ Input.okWide C.prog (w.forCall tape i) .any w.heap.size f i ∧
      ((s.pre enc C.prog fn conds apart (w.forCall tape i).memory i.args ∧ X (w.forCall tape i).memory i.args) ∧ sizedMet enc C.prog fn (OpenSpec.ofChange s) apart (w.forCall tape i).memory i.args) ∧ a.holds C.prog (lone (Frame.enter C.prog f i.args .normal) [] (w.forCall tape i)))
    (contract : ∀ (W : World) (base : Nat) (args : Array Value) (ds gs : List (DataW H)) (before : List MemPlace),
      (∀ (j : Nat) t v, fn.params[j]? = some t → args[j]? = some v → Value.okWide C.prog W .any base t v) → DataW.Whole enc C.prog fn.params.toList s.vars apart W args.toList ds gs before →
      W.ShapedOpen C.prog → X W args → Calls C.prog f args W fun e W' => ∃ v, e = .returned v ∧ s.post enc C.prog fn apart fresh handsOn again W args v W') :
    ReturnsInHanded a C os f .any (fun w args => (s.pre enc C.prog fn conds apart w args ∧ X w args) ∧ sizedMet enc C.prog fn (OpenSpec.ofChange s) apart w args) (s.post enc C.prog fn apart fresh handsOn again) := by
  refine returnsInHanded_of_calls own started noInit witness ?_
  intro w tape i _ hsh _ hok hpre _
  obtain ⟨_, _, _, fn', hfn', _, _, _, _, hval⟩ := hok
  obtain rfl : fn' = fn := Option.some.inj (hfn'.symm.trans hfn)
  obtain ⟨⟨⟨ds, gs, before, hw, _⟩, hx⟩, _⟩ := hpre
  refine (contract (w.forCall tape i) w.heap.size i.args ds gs before hval (DataW.Whole.of_heap (w' := w.forCall tape i) (by rfl) hw) hsh (hX _ _ _ (by rfl) hx)).mono fun e W' ⟨v, he, hp⟩ => ?_
  subst he
  exact ChangeSpec.post_blind hp

/-- Function 218 asks for it. -/
theorem cutAt_of {w : World} (h : w.ShapedOpen Tryz.prog) : CutAt w :=
  cell_of_shapedOpen_int (t := 3) (zero := #[.int .i64 0]) h (by decide +kernel) (by kernel_rfl) rfl (by kernel_rfl) (by kernel_rfl) Tryz.underlying3

end Go.Proofs.YtifobiajjhknbaaGreatDoor.O
