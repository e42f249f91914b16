/-
  Part 18 of the proofs of LBackRow, LLabelsRow: what is laid, and what the functions that the law runs answer. Conditions: each theorem names its own.
-/
import Derived.Test.YtgnooffedmeenaaGreatDoorQB17
import Derived.Test.YtgnooffedmeenaaGreatDoorQB13
namespace Go.Proofs.YtgnooffedmeenaaGreatDoor.O
open Go.RowKit Go.Shelf
attribute [local go_sem] Oper.semAt_some

def OfI (w : World) (bs bn be : Nat) (S : ByteArray) (pre : List Rn) (W : World) : Prop :=
 (Blk W bs 9 #[.string S] ∧ Blk W bn 3 #[.int .i64 0] ∧ Blk W be 40 #[.int .i64 40]) ∧ Keep NoB w W ∧ ∀ x ∈ pre, nm x.1 ≠ S
def OfX (w : World) (bn be : Nat) (S : ByteArray) (c : Code) (W : World) : Prop :=
 c = .exit 0 ∧ ∃ x : Rn, nm x.1 = S ∧ (Blk W bn 3 #[.int .i64 (x.1 : Int)] ∧ Blk W be 40 #[.int .i64 0]) ∧ Keep NoB w W
def OfA (S : ByteArray) (bs bn be : Nat) (x : Rn) (Bo : Nat) : Act :=
 { tmps := #[.string S, .pointer (some ⟨bs, 0, none⟩), .int .i64 0, .int .i64 0, .pointer (some ⟨bn, 0, none⟩), .pointer (some ⟨be, 0, none⟩), .int .i64 (x.1 : Int), .pointer (some ⟨Bo, 0, none⟩), .func (.func 332) #[] #[], .int .i64 (x.1 : Int), rowV (rowAt (x.1 : Int)), undef, undef, undef, undef, undef, undef, undef], defers := [] }
theorem ofI_own {w : World} {bs bn be B : Nat} {S : ByteArray} (hB : w.heap.size ≤ B) : OwnFrom B (OfI w bs bn be S) := by
 intro s X Y row ⟨⟨h1, h2, h3⟩, h4, h5⟩ hg hrow
 exact ⟨⟨blk_own (β := Unit) _ _ _ (fun _ => _) () _ _ _ h1 hg hrow, blk_own (β := Unit) _ _ _ (fun _ => _) () _ _ _ h2 hg hrow, blk_own (β := Unit) _ _ _ (fun _ => _) () _ _ _ h3 hg hrow⟩, keep_own (β := Unit) _ hB () _ _ _ h4 hg hrow, h5⟩
theorem ofX_own {w : World} {bn be B : Nat} {S : ByteArray} (hB : w.heap.size ≤ B) (c : Code) : OwnFrom B (fun (_ : List Rn) W => OfX w bn be S c W) := by
 intro s X Y row ⟨h0, x, h1, ⟨h2, h3⟩, h4⟩ hg hrow
 exact ⟨h0, x, h1, ⟨blk_own (β := Unit) _ _ _ (fun _ => _) () _ _ _ h2 hg hrow, blk_own (β := Unit) _ _ _ (fun _ => _) () _ _ _ h3 hg hrow⟩, keep_own (β := Unit) _ hB () _ _ _ h4 hg hrow⟩
theorem abides_keep {B : Nat} {J : List Rn → World → Prop} (h : AbidesFrom B J) : ∀ pre W W', J pre W → Keep NoB W W' → J pre W' := fun pre W W' hj hk => h pre W W' none hj hk.grows (fun r e => by cases e)
theorem rows_stops (m : Nat) (hm : 1 ≤ m) (w : World) :
  SeqStopsK Fence.wide m Tryz.prog 332 #[] rowE (fun _ _ => True) (fun ys : List Rn => ys.map (·.1) = List.range 30) (fun _ => True) 30 w := fun l J Jx W _ hJ _ hY h0 =>
 rows1_in m l hm J Jx (abides_keep hJ) hY W h0
theorem rows_any (m : Nat) (w : World) :
  CallsIn Fence.wide m Tryz.prog 322 #[] w fun e w' => e = .returned (.func (.func 332) #[] #[]) ∧ w' = w := by
 refine callsIn_of_wp Tryz.func322 rfl trivial ?_ rfl
 simp only [Tryz.ntmps322, List.size_toArray, List.length_nil, Nat.reduceSub, Array.replicate_succ, Array.replicate_zero, List.push_toArray, List.append_toArray, List.nil_append]
 gi_wp2
 go_ret
 exact ⟨rfl, rfl⟩
theorem nm_ne {S T : ByteArray} (h : T ≠ S) : (T.toList == S.toList) = false := by
 rw [beq_eq_false_iff_ne]
 intro e
 rw [ByteArray.toList_eq, ByteArray.toList_eq] at e
 exact h (by cases T; cases S; simp at e; rw [e])
theorem findI_hit {S : ByteArray} (x : Rn) (h : nm x.1 = S) : findI S = (x.1 : Int) := by
 rw [← h]; exact findI_of (rn_op x)
theorem findI_miss {S : ByteArray} {ys : List Rn} (h : ys.map (·.1) = List.range 30) (h2 : ∀ x ∈ ys, nm x.1 ≠ S) : findI S = -1 := by
 rcases find_spec S 30 0 with ⟨h1, _⟩ | ⟨j, _, hj, _, h4⟩
 ·exact h1
 ·have hm : j ∈ ys.map (·.1) := by rw [h]; simp; omega
  obtain ⟨x, hx, rfl⟩ := List.mem_map.1 hm
  exact absurd h4 (h2 x hx)

set_option maxRecDepth 100000 in
set_option maxHeartbeats 4000000 in
theorem opOf_any (S : ByteArray) (w : World) :
  Calls Tryz.prog 296 #[.string S] w fun e w' => e = .returned (.tuple #[.int .i64 (ofN S), .int .i64 (ofE S)]) ∧ Keep NoB w w' := by
 refine (callsIn_wide (n := 4)).1 ?_
 refine callsIn_of_wp_marks Tryz.func296 rfl trivial ?_ rfl
 simp only [Tryz.ntmps296, List.size_toArray, List.length_cons, List.length_nil, Nat.reduceAdd, Nat.reduceSub, Array.replicate_succ, Array.replicate_zero, List.push_toArray, List.append_toArray, List.nil_append, List.cons_append]
 gi_wp2
 refine V.wpIn_scope_wide ?_
 have hs := ((Blk.new w 9 #[.string S]).alloc (.cells #[.int .i64 0] 3)).alloc (.cells #[.int .i64 40] 40)
 have hn := (Blk.new (w.alloc (.cells #[.string S] 9)) 3 #[.int .i64 0]).alloc (.cells #[.int .i64 40] 40)
 have he := Blk.new ((w.alloc (.cells #[.string S] 9)).alloc (.cells #[.int .i64 0] 3)) 40 #[.int .i64 40]
 simp only [World.size_alloc] at hn he
 have hK := (((Keep.refl NoB w).alloc (.cells #[.string S] 9)).alloc (.cells #[.int .i64 0] 3)).alloc (.cells #[.int .i64 40] 40)
 have hI0 : OfI w w.heap.size (w.heap.size + 1) (w.heap.size + 1 + 1) S [] (((w.alloc (.cells #[.string S] 9)).alloc (.cells #[.int .i64 0] 3)).alloc (.cells #[.int .i64 40] 40)) := ⟨⟨hs, hn, he⟩, hK, fun x hx => by simp at hx⟩
 gi_wp2
 refine wpIn_label ?_
 gi_wp2_with (refine ⟨trivial, ?_⟩; gi_at_call 322; refine (rows_any _ _).mono ?_; rintro e w1 ⟨rfl, rfl⟩)
 clear hs hn he hK
 refine wpIn_rangeFunc_ownH rfl (by omega) (gf := 332) (lb := #[]) rfl trivial (enters_of Tryz.func332 (by kernel_rfl) rfl)
  (rows_stops _ (by omega) _) (fun _ _ => trivial) (fun _ _ _ _ _ _ _ _ => trivial) (Below.refl _ _) (fun _ => rfl)
  (OfI w w.heap.size (w.heap.size + 1) (w.heap.size + 1 + 1) S) (fun c _ W => OfX w (w.heap.size + 1) (w.heap.size + 1 + 1) S c W) (ofI_own (by simp; omega)) (fun c => ofX_own (by simp; omega) c) hI0
  (fun x a' W => ∃ Bo, Blk W Bo 137 (cells9 (rowAt (x.1 : Int))) ∧ a' = OfA S w.heap.size (w.heap.size + 1) (w.heap.size + 1 + 1) x Bo) ?hax ?assign ?body ?done ?stop
 case hax =>
  rintro x a' s X Y row ⟨Bo, h1, h2⟩ hg hrow
  exact ⟨Bo, blk_own (β := Unit) _ _ _ (fun _ => _) () _ _ _ h1 hg hrow, h2⟩
 case assign =>
  intro l pre x W K hi hK
  have HI := Lib.hid (fun W' hk => ofI_own (w := w) (bs := w.heap.size) (bn := w.heap.size + 1) (be := w.heap.size + 1 + 1) (S := S) (Nat.le_refl _) pre W W' none hi (Keep.grows hk) (fun r e => by cases e))
  have HB := Lib.hid (Blk.new W 137 (cells9 (rowAt (x.1 : Int))))
  gi_wp2
  exact hK _ _ (keepsFrom_keep ((Keep.refl NoB W).alloc _)) trivial (HI.out _ ((Keep.refl NoB W).alloc _)) ⟨_, HB.out, rfl⟩
 case body =>
  rintro l pre x a' W hl _ ⟨⟨hs, hn, he⟩, hK, hall⟩ ⟨Bo, hb, rfl⟩ _
  have cs : W.cell? ⟨w.heap.size, 0, none⟩ = some (.string S) := hs.cell 0
  have cb : W.cell? ⟨Bo, 0, none⟩ = some (.string (nm x.1)) := hb.cell 0
  have hzn := hn.lt
  have hze := he.lt
  have fn := fun i => hn.frozen i
  have fe := fun i => he.frozen i
  have cn := hn.cell 0
  have ce := he.cell 0
  dsimp only [OfA]
  by_cases hx : nm x.1 = S
  ·have hq : ((nm x.1).toList == S.toList) = true := by rw [hx]; simp
   have hn2 := (hn.put 0 (.int .i64 (x.1 : Int))).far (p := ⟨w.heap.size + 1 + 1, 0, none⟩) (by simp) (.int .i64 0)
   have he2 := (he.far (p := ⟨w.heap.size + 1, 0, none⟩) (by simp) (.int .i64 (x.1 : Int))).put 0 (.int .i64 0)
   have HX : Hid (OfX w (w.heap.size + 1) (w.heap.size + 1 + 1) S (.exit 0) ((W.setCell ⟨w.heap.size + 1, 0, none⟩ (.int .i64 (x.1 : Int))).setCell ⟨w.heap.size + 1 + 1, 0, none⟩ (.int .i64 0))) :=
    ⟨rfl, x, hx, ⟨hn2, he2⟩, (hK.setCell (fun h => absurd h (by simp)) _).setCell (fun h => absurd h (by simp; omega)) _⟩
   clear hx hs hn he hn2 he2 hK hall
   generalize nm x.1 = T at cb hq
   gi_wp2
   refine ⟨⟨?_, ?_⟩, HX.out⟩
   ·simp
   ·intro k o hk1 hk2 hk3
    have hk1' : w.heap.size + 3 ≤ k := by simp at hk1; omega
    exact ((Below.heap_setCell _ _ _ _ (by show k ≠ w.heap.size + 1 + 1; omega)).trans (Below.heap_setCell _ _ _ _ (by show k ≠ w.heap.size + 1; omega))).trans hk2
  ·have hq := nm_ne hx
   have HX : Hid (OfI w w.heap.size (w.heap.size + 1) (w.heap.size + 1 + 1) S (pre ++ [x]) W) := ⟨⟨hs, hn, he⟩, hK, fun y hy => by
    rcases List.mem_append.1 hy with h | h
    ·exact hall y h
    ·rw [List.mem_singleton.1 h]; exact hx⟩
   clear hx hs hn he hK hall
   generalize nm x.1 = T at cb hq
   gi_wp2
   exact ⟨KeepsFrom.refl _ _, trivial, HX.out⟩
 case done =>
  rintro D ys W hD hS ⟨⟨hs, hn, he⟩, hK, hall⟩ hDf
  have hf := findI_miss hS hall
  have HX : Hid (ofN S = 0 ∧ ofE S = 40) := ⟨by unfold ofN; rw [if_pos (by omega)], by unfold ofE; rw [if_pos (by omega)]⟩
  have cn : W.cell? ⟨w.heap.size + 1, 0, none⟩ = some (.int .i64 0) := hn.cell 0
  have ce : W.cell? ⟨w.heap.size + 1 + 1, 0, none⟩ = some (.int .i64 40) := he.cell 0
  have hmix : Tryz.prog.follows .mixedOrders = true := by kernel_rfl
  gi_wp2
  gi_region
  gi_wp2
  refine ⟨by simp, .inl ⟨_, _, rfl, run_takeDeferred (w := W.drew) hDf, ?_⟩⟩
  refine ⟨_, results_tmp2 rfl _ _ _, ?_, Keep_putObj hK.drew (by simp at hD; omega)⟩
  exact pr_ii HX.out.1.symm HX.out.2.symm
 case stop =>
  rintro D c pre W hD _ ⟨rfl, x, hx, ⟨hn, he⟩, hK⟩ hDf
  have hf := findI_hit x hx
  have HX : Hid (ofN S = (x.1 : Int) ∧ ofE S = 0) := ⟨by unfold ofN; rw [if_neg (by omega), hf], by unfold ofE; rw [if_neg (by omega)]⟩
  have cn : W.cell? ⟨w.heap.size + 1, 0, none⟩ = some (.int .i64 (x.1 : Int)) := hn.cell 0
  have ce : W.cell? ⟨w.heap.size + 1 + 1, 0, none⟩ = some (.int .i64 0) := he.cell 0
  have hmix : Tryz.prog.follows .mixedOrders = true := by kernel_rfl
  gi_wp2
  gi_region
  gi_wp2
  refine ⟨by simp, .inl ⟨_, _, rfl, run_takeDeferred (w := W.drew) hDf, ?_⟩⟩
  refine ⟨_, results_tmp2 rfl _ _ _, ?_, Keep_putObj hK.drew (by simp at hD; omega)⟩
  exact pr_ii HX.out.1.symm HX.out.2.symm

end Go.Proofs.YtgnooffedmeenaaGreatDoor.O

namespace Go.Proofs.YtgnooffedmeenaaGreatDoor.O
open Go.RowKit

theorem ka_cases (op : Int) : (rowAt op).ka = 0 ∨ digK (rowAt op).ka = true ∨ (wordK (rowAt op).ka = true ∧ (rowAt op).kb = 0) := by
 have := rowAt_all (p := fun r => decide (r.ka = 0 ∨ digK r.ka = true ∨ (wordK r.ka = true ∧ r.kb = 0))) (by decide) (by decide) op
 simpa using this

theorem guess_any (op : Int) (S : ByteArray) (s : List UInt8) (w : World) (hs : S.data.toList = s) (hl : S.size ≤ 200000) (hL : LaidO w) (hC : CutAt w) :
  Calls Tryz.prog 297 #[.int .i64 op, .string S] w fun e w' => e = .returned (instV op (gA op s) (gB op s)) ∧ Keep NoB w w' := by
 have hk := kinds_ok op
 have HK := Lib.hid (fun w => kinds_any op w)
 have eA : gA op s = if (rowAt op).ka = 0 then 0 else gK (rowAt op).ka (Lib.cut s [32]).1 := rfl
 have eB : gB op s = if (rowAt op).kb = 0 then 0 else gK (rowAt op).kb (Lib.cut s [32]).2.1 := rfl
 rcases ka_cases op with h0 | hd | ⟨hw, h1⟩
 ·have h1 := kinds_none op h0
  rw [if_pos h0] at eA
  rw [if_pos h1] at eB
  exact guess_00 op (rowAt op).ka (rowAt op).kb _ _ S s w hs hl hL hC HK eA eB h0 h1
 ·have h0 := dig_0 hd
  rw [if_neg h0] at eA
  rcases kb_cases op with h1 | h3
  ·rw [if_pos h1] at eB
   exact guess_d0 op (rowAt op).ka (rowAt op).kb _ _ S s w hs hl hL hC HK eA eB h0 h1 ⟨hd, hk.1, hk.2.1⟩
  ·have h1 : (rowAt op).kb ≠ 0 := by omega
   rw [if_neg h1] at eB
   exact guess_dw op (rowAt op).ka (rowAt op).kb _ _ S s w hs hl hL hC HK eA eB h0 h1 ⟨hd, hk.1, hk.2.1⟩ ⟨by rw [h3]; decide, hk.2.2.1, hk.2.2.2⟩
 ·have h0 := word_0 hw
  rw [if_neg h0] at eA
  rw [if_pos h1] at eB
  exact guess_w0 op (rowAt op).ka (rowAt op).kb _ _ S s w hs hl hL hC HK eA eB h0 h1 ⟨hw, hk.1, hk.2.1⟩

theorem eq_text {S : ByteArray} {s t : List UInt8} (hs : S.data.toList = s) : ((str t).toList == S.toList) = decide (t = s) := by
 rw [ByteArray.toList_eq, ByteArray.toList_eq, hs, str_list]
 by_cases h : t = s
 ·subst h; simp
 ·simp [h]
theorem out3N {w w1 : World} {B : Nat} (hk : Keep NoB w w1) (hB : w.heap.size ≤ B) (u0 u1 u2 : Value) : Keep NoB w (((w1.setCell ⟨B, 0, none⟩ u0).setCell ⟨B, 1, none⟩ u1).setCell ⟨B, 2, none⟩ u2) := by
 have hn : ∀ i, (⟨B, i, none⟩ : Addr).block < w.heap.size → NoB (⟨B, i, none⟩ : Addr).block := fun i hl => by have : B < w.heap.size := hl; omega
 exact ((hk.setCell (hn 0) _).setCell (hn 1) _).setCell (hn 2) _

set_option maxRecDepth 100000 in
set_option maxHeartbeats 2000000 in
theorem read_text (S : ByteArray) (s : List UInt8) (w : World) (hs : S.data.toList = s) (hl : S.size ≤ 200000) (hL : LaidO w) (hC : CutAt w) :
  Calls Tryz.prog 258 #[.string S] w fun e w' => ∃ v, e = .returned v ∧ ReadV s v ∧ Keep NoB w w' := by
 have hK := (Keep.refl NoB w).alloc (.cells #[.int .i64 0, .int .i64 0, .int .i64 0] 55)
 have bo := Blk.new w 55 #[.int .i64 0, .int .i64 0, .int .i64 0]
 have HL := Lib.hid hL
 have HCt := Lib.hid (cut_any S s _ hs hl (hC.keep hK))
 have HC := Lib.hid hC
 have hcl := Lib.hid (cut_len s)
 have hsz : Hid (S.size = s.length) := Lib.hid (_root_.Go.Proofs.YtgnooffedmeenaaGreatDoor.W.size_of hs)
 have hl := Lib.hid hl
 have HN := Lib.hid (fun h => read_nameless (s := s) h)
 have HY := Lib.hid (fun op a b h1 h2 h3 => read_yes (s := s) (op := op) (a := a) (b := b) h1 h2 h3)
 have HM := Lib.hid (fun op h1 h2 => read_miss (s := s) (op := op) h1 h2)
 have HE := Lib.hid (fun t => eq_text (t := t) hs)
 clear hL hC hs
 generalize (Lib.cut s [32]).1 = s1 at *
 generalize (Lib.cut s [32]).2.1 = s2 at *
 have HO := Lib.hid (fun w => opOf_any (str s1) w)
 rcases findI_spec (str s1) with ⟨hf, _⟩ | ⟨ho, hn⟩
 ·have HX : Hid (ofN (str s1) = 0 ∧ ofE (str s1) = 40) := ⟨by unfold ofN; rw [if_pos (by omega)], by unfold ofE; rw [if_pos (by omega)]⟩
  have HR := Lib.hid (HN.out (by omega))
  rw [HX.out.1, HX.out.2] at HO
  clear hf HX HN HY HM HE
  go_enter Tryz.func258, Tryz.ntmps258
  go_wp2_with fail
  refine HCt.out.mono ?_
  rintro e w1 ⟨bb, rfl, k1⟩
  replace hK := keepN hK k1
  replace bo := bo.keep k1 id
  clear k1
  go_wp2_with fail
  refine (HO.out _).mono ?_
  rintro e w2 ⟨rfl, k1⟩
  replace hK := keepN hK k1
  replace bo := bo.keep k1 id
  clear k1
  have hz := bo.lt
  have fo := fun i => bo.frozen i
  obtain ⟨o0, o1, o2⟩ := blk_inst bo
  go_wp2
  exact bodyPost_ret (v := .tuple #[instV 0 0 0, .int .i64 40]) (by simp [results, Tryz.results258, go_sem, o0, o1, o2]) rfl ⟨_, rfl, HR.out, out3N hK (Nat.le_refl _) _ _ _⟩
 ·have hb := isOp_yes ho
  have HX : Hid (ofN (str s1) = findI (str s1) ∧ ofE (str s1) = 0) := ⟨by unfold ofN; rw [if_neg (by omega)], by unfold ofE; rw [if_neg (by omega)]⟩
  rw [HX.out.1, HX.out.2] at HO
  obtain ⟨op, hop⟩ : ∃ op, findI (str s1) = op := ⟨_, rfl⟩
  rw [hop] at HO ho hn
  have HG := Lib.hid (fun w hL hC => guess_any op (str s2) s2 w (str_list _) (by rw [str_size]; have := hcl.out; have := hsz.out; have := hl.out; omega) hL hC)
  have HS := Lib.hid (fun w hL => show_any op (gA op s2) (gB op s2) w (gA_bounds op s2) (gB_bounds op s2) hL)
  have HY := Lib.hid (HY.out op (gA op s2) (gB op s2) ho hn)
  have HM := Lib.hid (HM.out op hop)
  have HE := Lib.hid (HE.out (showI op (gA op s2) (gB op s2)))
  clear HX HN hb hop ho hn hcl hsz hl
  generalize gA op s2 = a at *
  generalize gB op s2 = b at *
  generalize showI op a b = t at *
  by_cases ht : t = s
  ·have hq : ((str t).toList == S.toList) = true := by rw [HE.out]; simpa using ht
   have HR := Lib.hid (HY.out ht)
   clear HE HM HY ht
   generalize str t = T at *
   go_enter Tryz.func258, Tryz.ntmps258
   go_wp2_with fail
   refine HCt.out.mono ?_
   rintro e w1 ⟨bb, rfl, k1⟩
   replace hK := keepN hK k1
   replace bo := bo.keep k1 id
   clear k1
   go_wp2_with fail
   refine (HO.out _).mono ?_
   rintro e w2 ⟨rfl, k1⟩
   replace hK := keepN hK k1
   replace bo := bo.keep k1 id
   clear k1
   go_wp2_with fail
   refine (HG.out _ (HL.out.keep hK) (HC.out.keep hK)).mono ?_
   rintro e w3 ⟨rfl, k1⟩
   replace hK := (keepN hK k1).alloc (.cells #[.int .i64 op, .int .i64 a, .int .i64 b] 55)
   replace bo := (bo.keep k1 id).alloc (.cells #[.int .i64 op, .int .i64 a, .int .i64 b] 55)
   have bx := Blk.new w3 55 #[.int .i64 op, .int .i64 a, .int .i64 b]
   clear k1
   go_wp2_with fail
   refine (HS.out _ (HL.out.keep hK)).mono ?_
   rintro e w4 ⟨rfl, k1⟩
   replace hK := keepN hK k1
   replace bo := bo.keep k1 id
   replace bx := bx.keep k1 id
   clear k1
   have hz := bo.lt
   have fo := fun i => bo.frozen i
   obtain ⟨o0, o1, o2⟩ := blk_inst bo
   obtain ⟨x0, x1, x2⟩ := blk_inst bx
   go_wp2
   exact bodyPost_ret (v := .tuple #[instV op a b, .int .i64 0]) (by simp [results, Tryz.results258, go_sem, o0, o1, o2]) rfl ⟨_, rfl, HR.out, out3N hK (Nat.le_refl _) _ _ _⟩
  ·have hq : ((str t).toList == S.toList) = false := by rw [HE.out]; simpa using ht
   have HR := Lib.hid (HM.out ht)
   clear HE HM HY ht
   generalize str t = T at *
   go_enter Tryz.func258, Tryz.ntmps258
   go_wp2_with fail
   refine HCt.out.mono ?_
   rintro e w1 ⟨bb, rfl, k1⟩
   replace hK := keepN hK k1
   replace bo := bo.keep k1 id
   clear k1
   go_wp2_with fail
   refine (HO.out _).mono ?_
   rintro e w2 ⟨rfl, k1⟩
   replace hK := keepN hK k1
   replace bo := bo.keep k1 id
   clear k1
   go_wp2_with fail
   refine (HG.out _ (HL.out.keep hK) (HC.out.keep hK)).mono ?_
   rintro e w3 ⟨rfl, k1⟩
   replace hK := (keepN hK k1).alloc (.cells #[.int .i64 op, .int .i64 a, .int .i64 b] 55)
   replace bo := (bo.keep k1 id).alloc (.cells #[.int .i64 op, .int .i64 a, .int .i64 b] 55)
   clear k1
   go_wp2_with fail
   refine (HS.out _ (HL.out.keep hK)).mono ?_
   rintro e w4 ⟨rfl, k1⟩
   replace hK := keepN hK k1
   replace bo := bo.keep k1 id
   clear k1
   have hz := bo.lt
   have fo := fun i => bo.frozen i
   obtain ⟨o0, o1, o2⟩ := blk_inst bo
   go_wp2
   exact bodyPost_ret (v := .tuple #[instV 0 0 0, .int .i64 40]) (by simp [results, Tryz.results258, go_sem, o0, o1, o2]) rfl ⟨_, rfl, HR.out, out3N hK (Nat.le_refl _) _ _ _⟩

end Go.Proofs.YtgnooffedmeenaaGreatDoor.O

namespace Go.Proofs.YtgnooffedmeenaaGreatDoor.M
open Go.RowKit W

theorem str_inj' {a b : Bs} (h : str a = str b) : a = b := by
 have := congrArg (fun S => S.data.toList) h
 simpa using this
theorem ofA_find (s : Bs) : (O.ofE (str s) = 40 ∧ ofA s = none) ∨ (∃ op : Nat, O.ofN (str s) = (op : Int) ∧ O.ofE (str s) = 0 ∧ op < 30 ∧ ofA s = some op) := by
 rcases O.findI_spec (str s) with ⟨h1, h2⟩ | ⟨h1, h2⟩
 ·refine .inl ⟨by unfold O.ofE; rw [h1]; rfl, ?_⟩
  cases hf : ofA s with
  | none => rfl
  | some k =>
   unfold ofA at hf
   rw [List.findIdx?_eq_some_iff_getElem] at hf
   obtain ⟨hk, h3, _⟩ := hf
   have h4 := of_decide_eq_true h3
   have hk30 : k < 30 := by have : O.rowsL.length = 30 := rfl; omega
   have h5 : O.isOp (k : Int) = true := by unfold O.isOp; exact decide_eq_true ⟨by omega, by omega⟩
   have h6 : (O.rowAt (k : Int)).name = s := by
    unfold O.rowAt
    rw [if_pos h5, show ((k : Int)).toNat = k from rfl, ← h4]
    rw [List.getD_eq_getElem?_getD, List.getElem?_eq_getElem hk]
    rfl
   exact absurd (by rw [h6]) (h2 _ h5)
 ·have hb := O.isOp_yes h1
  refine .inr ⟨(O.findI (str s)).toNat, ?_, ?_, by omega, ?_⟩
  ·unfold O.ofN; rw [if_neg (by omega)]; omega
  ·unfold O.ofE; rw [if_neg (by omega)]
  ·have h3 := ofA_row h1
   rw [str_inj' h2] at h3
   exact h3
theorem kinds_kind {op : Nat} (h : op < 30) : ((O.rowAt (op : Int)).ka = 10 ∧ kindA (op : Int) = 1) ∨ ((O.rowAt (op : Int)).ka = 7 ∧ kindA (op : Int) = 2) ∨ ((O.rowAt (op : Int)).ka ≠ 10 ∧ (O.rowAt (op : Int)).ka ≠ 7 ∧ kindA (op : Int) = 0) := by
 have key : ∀ j : Fin 30, ((O.rowAt (j.1 : Int)).ka = 10 ∧ kindA (j.1 : Int) = 1) ∨ ((O.rowAt (j.1 : Int)).ka = 7 ∧ kindA (j.1 : Int) = 2) ∨ ((O.rowAt (j.1 : Int)).ka ≠ 10 ∧ (O.rowAt (j.1 : Int)).ka ≠ 7 ∧ kindA (j.1 : Int) = 0) := by decide
 exact key ⟨op, h⟩
theorem pNamed_no1 {ws : List Bs} (h : ws.length ≠ 2) : pNamed ws = none := by
 unfold pNamed; split
 ·exact absurd rfl h
 ·rfl
theorem pNamed_no2 {a b : Bs} (h : _root_.Go.Proofs.YtgnooffedmeenaaGreatDoor.F.okN b = false) : pNamed [a, b] = none := if_neg (by rw [h]; decide)
theorem pNamed_no3 {a b : Bs} (h : ofA a = none) : pNamed [a, b] = none := by
 unfold pNamed; dsimp only; rw [h]; split <;> rfl
theorem pNamed_no4 {a b : Bs} {op : Nat} (h : ofA a = some op) (h2 : kindA (op : Int) = 0) : pNamed [a, b] = none := by
 unfold pNamed; dsimp only; rw [h]; dsimp only; rw [h2]; split <;> rfl
theorem pNamed_yes {a b : Bs} {op : Nat} (h0 : _root_.Go.Proofs.YtgnooffedmeenaaGreatDoor.F.okN b = true) (h : ofA a = some op) (h2 : kindA (op : Int) ≠ 0) : pNamed [a, b] = some (op, b) := by
 unfold pNamed; dsimp only; rw [if_pos h0, h]; dsimp only; rw [if_pos h2]
theorem readV_rd {s : Bs} {v : Value} (h : O.ReadV s v) : (∃ x, rdA s = some x ∧ C.ok1 x = true ∧ v = .tuple #[O.instV x.1 x.2.1 x.2.2, .int .i64 0]) ∨ (rdA s = none ∧ v = .tuple #[O.instV 0 0 0, .int .i64 40]) := by
 rcases h with ⟨op, a, b, h1, h2, rfl⟩ | ⟨h1, rfl⟩
 ·have h3 : C.ok1 (op, a, b) = true := by unfold C.ok1; exact h1
  have h4 := rdA_text h3
  rw [show O.textI (op, a, b).1 (op, a, b).2.1 (op, a, b).2.2 = s from h2] at h4
  exact .inl ⟨(op, a, b), h4, h3, rfl⟩
 ·exact .inr ⟨rdA_none (fun x hx => h1 x.1 x.2.1 x.2.2 hx), rfl⟩

end Go.Proofs.YtgnooffedmeenaaGreatDoor.M

namespace Go.Proofs.YtgnooffedmeenaaGreatDoor.M
open Go.RowKit W

def SPe (Pe : Value → World → Prop) : List Value → Nat → Value → World → Prop
 | x :: _, 0 => fun u _ => u = x
 | _ :: r, i + 1 => SPe Pe r i
 | [], 0 => Pe
 | [], _ + 1 => fun _ _ => True
theorem SPe_stable {Pe : Value → World → Prop} (hP : ∀ u w w', Pe u w → Keep NoB w w' → Pe u w') : ∀ (vs : List Value) i u (w w' : World), SPe Pe vs i u w → Keep NoB w w' → SPe Pe vs i u w'
 | _ :: _, 0, _, _, _, h, _ => h
 | _ :: r, i + 1, u, w, w', h, hk => SPe_stable hP r i u w w' h hk
 | [], 0, _, _, _, h, hk => hP _ _ _ h hk
 | [], _ + 1, _, _, _, h, _ => h
def NewB (W0 : World) (t : TypeId) (cs : Array Value) (u : Value) (w : World) : Prop := ∃ g, u = .pointer (some ⟨g, 0, none⟩) ∧ W0.heap.size ≤ g ∧ Blk w g t cs
theorem NewB.keepN {W0 : World} {t : TypeId} {cs : Array Value} (u : Value) (w w' : World) (h : NewB W0 t cs u w) (hk : Keep NoB w w') : NewB W0 t cs u w' := by
 obtain ⟨g, h1, h2, h3⟩ := h
 exact ⟨g, h1, h2, h3.keep hk id⟩
theorem RdAt.box {w0 W : World} {T : Nat → Tg} {rb : Nat} {p : PS} {N ln b j : Nat} {u : Value} (h : RdAt w0 W T rb p N ln) (hb : T b = .no) (hl : w0.heap.size ≤ b) : RdAt w0 (W.setCell ⟨b, j, none⟩ u) T rb p N ln ∧ Rnd (fun k => BS T k ∨ k = b) (fun k => BS T k ∨ k = b) W (W.setCell ⟨b, j, none⟩ u) := by
 obtain ⟨h1, v, es, fs, ls, R, F, h2, h3⟩ := h
 have hk : Keep (fun k => k = b) W (W.setCell ⟨b, j, none⟩ u) := (Keep.refl (fun k => k = b) W).setCell (p := ⟨b, j, none⟩) (fun _ => rfl) u
 have hne : rb ≠ b := by rintro rfl; rw [h3.tb] at hb; cases hb
 exact ⟨⟨h1.setCell (p := ⟨b, j, none⟩) (fun h => by have h : b < w0.heap.size := h; omega) u, v, es, fs, ls, R, F, h2, { h3 with pa := h3.pa.keep hk (fun k (e : k = b) => by rw [e, hb]; exact fun h => h.1 rfl), bk := h3.bk.far (p := ⟨b, j, none⟩) hne u }⟩, Rnd.of_keep (hk.mono (fun k e _ => .inr e))⟩
def MenR (w0 W : World) (T : Nat → Tg) (rb : Nat) (p : PS) (N ln : Nat) (q : Option (Nat × Bs)) (e : Ending) (W' : World) : Prop :=
 ∃ T', Rnd (BS T) (BS T') W W' ∧ ((q = none ∧ e = .returned (.tuple #[O.instV 0 0 0, .int .i64 90]) ∧ RdAt w0 W' T' rb p N ln) ∨ (∃ op b, q = some (op, b) ∧ e = .returned (.tuple #[O.instV (op : Int) 0 0, .int .i64 0]) ∧ RdAt w0 W' T' rb ⟨p.im, p.last, p.nums, p.labs, p.ms ++ [⟨ln, p.im.fn.length - 1, (lastFn p).bd.length, b, kindA (op : Int)⟩]⟩ (N + 1) ln))

set_option maxRecDepth 100000 in
set_option maxHeartbeats 8000000 in
theorem mentioning_any (w0 W : World) (T : Nat → Tg) (rb : Nat) (p : PS) (N ln : Nat) (h : RdAt w0 W T rb p N ln) (hN : N ≤ 300000) (hfn : p.im.fn ≠ []) (hln : ln ≤ 300000) (A : Option Addr) (ws : List Bs) (n c : Nat) (hw : Rd W A (sv ws)) (hn : ws.length = n) (hnc : n ≤ c) (hwl : ∀ x ∈ ws, x.length ≤ 140000) :
  Calls Tryz.prog 259 #[.pointer (some ⟨rb, 0, none⟩), .slice A n c] W (MenR w0 W T rb p N ln (pNamed ws)) := by
 have HR := Lib.hid h
 have hK := (Keep.refl NoB W).alloc (.cells #[.int .i64 0, .int .i64 0, .int .i64 0] 55)
 have bo := Blk.new W 55 #[.int .i64 0, .int .i64 0, .int .i64 0]
 have hNo : ∀ W', Keep NoB W W' → pNamed ws = none → MenR w0 W T rb p N ln (pNamed ws) (.returned (.tuple #[O.instV 0 0 0, .int .i64 90])) W' := fun W' hk hq => ⟨T, rnd_keep hk, .inl ⟨hq, rfl, HR.out.keepN hk⟩⟩
 have HNo := Lib.hid hNo
 clear hNo h
 by_cases h1 : n = 2
 ·subst h1
  obtain ⟨a, b, rfl⟩ : ∃ a b, ws = [a, b] := by
   match ws, hn with
   | [a, b], _ => exact ⟨a, b, rfl⟩
  have hwk := hw
  obtain ⟨g, off, rfl, hcs⟩ := sv_at hw (by simp)
  have s0 := hcs 0 (by simp)
  have s1 := hcs 1 (by simp)
  simp only [List.getElem_cons_zero, List.getElem_cons_succ, Nat.add_zero] at s0 s1
  have hbl : b.length ≤ 140000 := hwl b (by simp)
  have hbs : (str b).data.toList = b := by simp
  have hbz : (str b).size ≤ 140000 := by rw [size_of hbs]; exact hbl
  have HN := Lib.hid (fun W => _root_.Go.Proofs.YtgnooffedmeenaaGreatDoor.F.named_any (str b) b W (Lib.hid hbs) (by omega) _ (Lib.hid rfl))
  have HO := Lib.hid (fun W => O.opOf_any (str a) W)
  have HBS := Lib.hid hbs
  have s0 := hK.cell s0 id
  have s1 := hK.cell s1 id
  clear hwl hcs hw hn hbs hwk
  have hfind := ofA_find a
  generalize str b = SB at *
  generalize str a = SA at *
  cases hok : _root_.Go.Proofs.YtgnooffedmeenaaGreatDoor.F.okN b with
  | false =>
   have HQ := Lib.hid (pNamed_no2 (a := a) hok)
   rw [_root_.Go.Proofs.YtgnooffedmeenaaGreatDoor.F.chkN_no hok] at HN
   go_enter Tryz.func259, Tryz.ntmps259
   go_wp2_with fail
   refine (HN.out _).mono ?_
   rintro e w1 ⟨rfl, rfl⟩
   have hz := bo.lt
   have fo := fun i => bo.frozen i
   obtain ⟨o0, o1, o2⟩ := O.blk_inst bo
   go_wp2
   exact bodyPost_ret (v := .tuple #[O.instV 0 0 0, .int .i64 90]) (by simp [results, Tryz.results259, go_sem, o0, o1, o2]) rfl (HNo.out _ hK HQ.out)
  | true =>
   rw [_root_.Go.Proofs.YtgnooffedmeenaaGreatDoor.F.chkN_ok hok] at HN
   rcases hfind with ⟨e1, e2⟩ | ⟨op, e0, e1, hop, e2⟩
   ·have HQ := Lib.hid (pNamed_no3 (b := b) e2)
    rw [e1] at HO
    obtain ⟨x0, hx0⟩ : ∃ x0, O.ofN SA = x0 := ⟨_, rfl⟩
    rw [hx0] at HO
    clear hx0 e1
    go_enter Tryz.func259, Tryz.ntmps259
    go_wp2_with fail
    refine (HN.out _).mono ?_
    rintro e w1 ⟨rfl, rfl⟩
    go_wp2_with fail
    refine (HO.out _).mono ?_
    rintro e w1 ⟨rfl, k1⟩
    replace hK := keepN hK k1
    replace bo := bo.keep k1 id
    have hz := bo.lt
    have fo := fun i => bo.frozen i
    obtain ⟨o0, o1, o2⟩ := O.blk_inst bo
    go_wp2
    exact bodyPost_ret (v := .tuple #[O.instV 0 0 0, .int .i64 90]) (by simp [results, Tryz.results259, go_sem, o0, o1, o2]) rfl (HNo.out _ (O.out3N hK (Nat.le_refl _) _ _ _) HQ.out)
   ·rw [e0, e1] at HO
    clear e0 e1
    have HKi := Lib.hid (fun W => O.kinds_any (op : Int) W)
    go_enter Tryz.func259, Tryz.ntmps259
    go_wp2_with fail
    refine (HN.out _).mono ?_
    rintro e w1 ⟨rfl, rfl⟩
    go_wp2_with fail
    refine (HO.out _).mono ?_
    rintro e w1 ⟨rfl, k1⟩
    replace hK := keepN hK k1
    replace bo := bo.keep k1 id
    have s0 := k1.cell s0 id
    have s1 := k1.cell s1 id
    clear k1
    have HR1 := Lib.hid (HR.out.keepN hK)
    obtain ⟨hk0, v, es, fs, ls, R, F, hln2, hr⟩ := HR1.out
    subst hln2
    obtain ⟨fs', e0, g1, hfs, hY, hny, hcl, _⟩ := rdr_split hr hfn
    obtain ⟨ls', l, gl, hls, hL, hnll, q0, q1, hfz, hlast⟩ := rdr_lsplit hr hfn
    have hnyb := hr.by_
    have hlf := hr.lf
    have hkk : ls'.length = fs'.length := by rw [hls, hfs] at hlf; simpa using hlf
    rw [hkk] at q0 q1 hnll
    obtain ⟨_, d1, d2, _, d4, d5, d6⟩ := rd_cells hr.bk
    rw [hY, hny] at d1
    rw [hL, hnll] at d5
    have hkb : fs'.length ≤ 300000 := by rw [hfs] at hnyb; simp at hnyb; omega
    have HCur := Lib.hid (fun w2 (k2 : Keep NoB w1 w2) => current_any w2 rb g1 fs'.length v.cy (k2.cell d1 id) (by omega))
    have x4 := hcl 4 _ (by omega) (show e0.1.cells.toList[4]? = some (.slice e0.1.D e0.1.nd e0.1.cd) from rfl)
    have hnd : e0.1.nd = (lastFn p).bd.length ∧ e0.1.nd ≤ 300001 := by
     have h5 := hr.rbd fs'.length (by rw [hfs]; simp)
     have h6 := (hr.pa.row (.bd fs'.length) ⟨Tg.noConfusion, Tg.noConfusion⟩).1.1
     rw [h5] at h6
     have hl0 : fs[fs'.length]'(by rw [hfs]; simp) = e0 := by simp [hfs]
     rw [hl0] at h6
     have h7 : (C.iis e0.2.bd).length = e0.1.nd * 3 := h6
     rw [C.iis_length] at h7
     have h8 := hr.bd fs'.length (by rw [hfs]; simp)
     rw [hl0] at h8
     have h9 : lastFn p = e0.2 := by
      unfold lastFn
      rw [← hr.im, hfs]
      simp [I.imOf]
     rw [h9]
     omega
    have HND := Lib.hid hnd.1
    have hndb := hnd.2
    have hfl : p.im.fn.length - 1 = fs'.length := by rw [← hr.im, hfs]; simp [I.imOf]
    have HFL := Lib.hid hfl
    have HW := Lib.hid hr
    have HHK := Lib.hid hK
    have HK0 := Lib.hid hk0
    have HB := Lib.hid bo
    have hnl : ∀ g9 i, w1.heap.size ≤ g9 → (⟨g9, i, none⟩ : Addr).block < w1.heap.size → NoB (⟨g9, i, none⟩ : Addr).block := fun g9 i h hl => by have h2 : g9 < w1.heap.size := hl; omega
    have hif : (0 : Int) ≤ (fs'.length : Int) ∧ (fs'.length : Int) < (fs'.length : Int) + 1 := by omega
    clear hr hk0 hcl hfz hnd hfl hnyb hlf hK bo
    go_wp2_with fail
    refine wp_region_tail (fun i => [40, 41, 42, 43, 44, 45, 46, 47, 48, 49, 50, 51, 52, 53, 54, 9].getD i 0) 16 (by kernel_rfl) (by kernel_rfl) (by kernel_rfl) (by kernel_rfl) (by kernel_rfl) (SPe (NewB w1 239 #[.int .i64 0, .int .i64 0, .int .i64 0, .string ⟨#[]⟩, .map none, .int .i64 0]) [.pointer (some ⟨rb, 0, none⟩), .pointer (some ⟨rb, 0, none⟩), .pointer (some ⟨rb, 2, none⟩), .int .i64 (v.ln : Int), .int .i64 (fs'.length : Int), .pointer (some ⟨rb, 0, none⟩), .pointer (some ⟨g1, fs'.length * 5, none⟩), .pointer (some ⟨g1, fs'.length * 5, none⟩), .pointer (some ⟨g1, fs'.length * 5 + 4, none⟩), .slice e0.1.D e0.1.nd e0.1.cd, .int .i64 (e0.1.nd : Int), .slice (some ⟨g, off, none⟩) 2 c, .pointer (some ⟨g, off + 1, none⟩), .string SB, .agg #[.int .i64 (v.ln : Int), .int .i64 (fs'.length : Int), .int .i64 (e0.1.nd : Int), .string SB, .map none, .int .i64 0]]) (fun i u x y h hk => SPe_stable NewB.keepN _ i u x y h hk) rfl ?step ?fin
    case step =>
     intro i o a w' hoo hi hF hK hA
     by_cases h0 : i = 0
     ·subst h0
      simp only [List.getElem?_toArray, List.getElem?_cons_zero, Option.some.injEq] at hoo
      subst hoo
      have e0 : a.tmps.getD 0 undef = .pointer (some ⟨rb, 0, none⟩) := hF.2.2 0 (by decide)
      refine Does.plain rfl ?_
      unfold yieldsK
      go_simp
      exact ⟨rfl, Keep.refl _ _⟩
     by_cases h1 : i = 1
     ·subst h1
      simp only [List.getElem?_toArray, List.getElem?_cons_zero, List.getElem?_cons_succ, Option.some.injEq] at hoo
      subst hoo
      have e40 : a.tmps.getD 40 undef = .pointer (some ⟨rb, 0, none⟩) := hA ⟨0, .data⟩ (by simp) rfl
      refine Does.plain rfl ?_
      unfold yieldsK
      go_simp
      exact ⟨rfl, Keep.refl _ _⟩
     by_cases h2 : i = 2
     ·subst h2
      simp only [List.getElem?_toArray, List.getElem?_cons_zero, List.getElem?_cons_succ, Option.some.injEq] at hoo
      subst hoo
      have e41 : a.tmps.getD 41 undef = .pointer (some ⟨rb, 0, none⟩) := hA ⟨1, .data⟩ (by simp) rfl
      refine Does.plain rfl ?_
      unfold yieldsK
      go_simp
      exact ⟨rfl, Keep.refl _ _⟩
     by_cases h3 : i = 3
     ·subst h3
      simp only [List.getElem?_toArray, List.getElem?_cons_zero, List.getElem?_cons_succ, Option.some.injEq] at hoo
      subst hoo
      have e42 : a.tmps.getD 42 undef = .pointer (some ⟨rb, 2, none⟩) := hA ⟨2, .data⟩ (by simp) rfl
      have q0 := Keep.cell hK d2 id
      refine Does.plain rfl ?_
      unfold yieldsK
      go_simp
      exact ⟨rfl, Keep.refl _ _⟩
     by_cases h4 : i = 4
     ·subst h4
      simp only [List.getElem?_toArray, List.getElem?_cons_zero, List.getElem?_cons_succ, Option.some.injEq] at hoo
      subst hoo
      have e8 : a.tmps.getD 8 undef = .int .i64 (fs'.length : Int) := hF.2.2 8 (by decide)
      refine Does.plain rfl ?_
      unfold yieldsK
      go_simp
      exact ⟨rfl, Keep.refl _ _⟩
     by_cases h5 : i = 5
     ·subst h5
      simp only [List.getElem?_toArray, List.getElem?_cons_zero, List.getElem?_cons_succ, Option.some.injEq] at hoo
      subst hoo
      have e0 : a.tmps.getD 0 undef = .pointer (some ⟨rb, 0, none⟩) := hF.2.2 0 (by decide)
      refine Does.plain rfl ?_
      unfold yieldsK
      go_simp
      exact ⟨rfl, Keep.refl _ _⟩
     by_cases h6 : i = 6
     ·subst h6
      simp only [List.getElem?_toArray, List.getElem?_cons_zero, List.getElem?_cons_succ, Option.some.injEq] at hoo
      subst hoo
      have e45 : a.tmps.getD 45 undef = .pointer (some ⟨rb, 0, none⟩) := hA ⟨5, .data⟩ (by simp) rfl
      refine Does.plain rfl ?_
      unfold yieldsK
      go_simp
      refine (HCur.out w' hK).mono ?_
      rintro e w9 ⟨rfl, q, rfl⟩
      exact ⟨_, rfl, rfl, (Keep.refl NoB _).drewN q⟩
     by_cases h7 : i = 7
     ·subst h7
      simp only [List.getElem?_toArray, List.getElem?_cons_zero, List.getElem?_cons_succ, Option.some.injEq] at hoo
      subst hoo
      have e46 : a.tmps.getD 46 undef = .pointer (some ⟨g1, fs'.length * 5, none⟩) := hA ⟨6, .data⟩ (by simp) rfl
      refine Does.plain rfl ?_
      unfold yieldsK
      go_simp
      exact ⟨rfl, Keep.refl _ _⟩
     by_cases h8 : i = 8
     ·subst h8
      simp only [List.getElem?_toArray, List.getElem?_cons_zero, List.getElem?_cons_succ, Option.some.injEq] at hoo
      subst hoo
      have e47 : a.tmps.getD 47 undef = .pointer (some ⟨g1, fs'.length * 5, none⟩) := hA ⟨7, .data⟩ (by simp) rfl
      refine Does.plain rfl ?_
      unfold yieldsK
      go_simp
      exact ⟨rfl, Keep.refl _ _⟩
     by_cases h9 : i = 9
     ·subst h9
      simp only [List.getElem?_toArray, List.getElem?_cons_zero, List.getElem?_cons_succ, Option.some.injEq] at hoo
      subst hoo
      have e48 : a.tmps.getD 48 undef = .pointer (some ⟨g1, fs'.length * 5 + 4, none⟩) := hA ⟨8, .data⟩ (by simp) rfl
      have q0 := Keep.cell hK x4 id
      refine Does.plain rfl ?_
      unfold yieldsK
      go_simp
      exact ⟨rfl, Keep.refl _ _⟩
     by_cases h10 : i = 10
     ·subst h10
      simp only [List.getElem?_toArray, List.getElem?_cons_zero, List.getElem?_cons_succ, Option.some.injEq] at hoo
      subst hoo
      have e49 : a.tmps.getD 49 undef = .slice e0.1.D e0.1.nd e0.1.cd := hA ⟨9, .data⟩ (by simp) rfl
      refine Does.plain rfl ?_
      unfold yieldsK
      go_simp
      exact ⟨rfl, Keep.refl _ _⟩
     by_cases h11 : i = 11
     ·subst h11
      simp only [List.getElem?_toArray, List.getElem?_cons_zero, List.getElem?_cons_succ, Option.some.injEq] at hoo
      subst hoo
      have e1 : a.tmps.getD 1 undef = .slice (some ⟨g, off, none⟩) 2 c := hF.2.2 1 (by decide)
      refine Does.plain rfl ?_
      unfold yieldsK
      go_simp
      exact ⟨rfl, Keep.refl _ _⟩
     by_cases h12 : i = 12
     ·subst h12
      simp only [List.getElem?_toArray, List.getElem?_cons_zero, List.getElem?_cons_succ, Option.some.injEq] at hoo
      subst hoo
      have e51 : a.tmps.getD 51 undef = .slice (some ⟨g, off, none⟩) 2 c := hA ⟨11, .data⟩ (by simp) rfl
      refine Does.plain rfl ?_
      unfold yieldsK
      go_simp
      exact ⟨rfl, Keep.refl _ _⟩
     by_cases h13 : i = 13
     ·subst h13
      simp only [List.getElem?_toArray, List.getElem?_cons_zero, List.getElem?_cons_succ, Option.some.injEq] at hoo
      subst hoo
      have e52 : a.tmps.getD 52 undef = .pointer (some ⟨g, off + 1, none⟩) := hA ⟨12, .data⟩ (by simp) rfl
      have q0 := Keep.cell hK s1 id
      refine Does.plain rfl ?_
      unfold yieldsK
      go_simp
      exact ⟨rfl, Keep.refl _ _⟩
     by_cases h14 : i = 14
     ·subst h14
      simp only [List.getElem?_toArray, List.getElem?_cons_zero, List.getElem?_cons_succ, Option.some.injEq] at hoo
      subst hoo
      have e43 : a.tmps.getD 43 undef = .int .i64 (v.ln : Int) := hA ⟨3, .data⟩ (by simp) rfl
      have e44 : a.tmps.getD 44 undef = .int .i64 (fs'.length : Int) := hA ⟨4, .data⟩ (by simp) rfl
      have e50 : a.tmps.getD 50 undef = .int .i64 (e0.1.nd : Int) := hA ⟨10, .data⟩ (by simp) rfl
      have e53 : a.tmps.getD 53 undef = .string SB := hA ⟨13, .data⟩ (by simp) rfl
      refine Does.plain rfl ?_
      unfold yieldsK
      simp only [Array.getD_eq_getD_getElem?] at e43 e44 e50 e53
      go_simp
      exact ⟨rfl, Keep.refl _ _⟩
     by_cases h15 : i = 15
     ·subst h15
      simp only [List.getElem?_toArray, List.getElem?_cons_zero, List.getElem?_cons_succ, Option.some.injEq] at hoo
      subst hoo
      refine Does.plain rfl ?_
      unfold yieldsK
      go_simp
      exact ⟨⟨w'.heap.size, rfl, hK.size, Blk.new _ _ _⟩, (Keep.refl _ _).alloc _⟩
     omega
    case fin =>
     intro a w' hF gK hA
     have e54 : a.tmps.getD 54 undef = .agg #[.int .i64 (v.ln : Int), .int .i64 (fs'.length : Int), .int .i64 (e0.1.nd : Int), .string SB, .map none, .int .i64 0] := hA 14 (by decide)
     obtain ⟨g9, e9, hg9, b9⟩ := hA 15 (by decide)
     have e9 : a.tmps.getD 9 undef = .pointer (some ⟨g9, 0, none⟩) := e9
     have ha := frameD_list (l := [40, 41, 42, 43, 44, 45, 46, 47, 48, 49, 50, 51, 52, 53, 54, 9]) rfl hF
     rw [ha]
     simp only [List.map_cons, List.map_nil, e54, e9]
     generalize a.tmps.getD 40 undef = u0
     generalize a.tmps.getD 41 undef = u1
     generalize a.tmps.getD 42 undef = u2
     generalize a.tmps.getD 43 undef = u3
     generalize a.tmps.getD 44 undef = u4
     generalize a.tmps.getD 45 undef = u5
     generalize a.tmps.getD 46 undef = u6
     generalize a.tmps.getD 47 undef = u7
     generalize a.tmps.getD 48 undef = u8
     generalize a.tmps.getD 49 undef = u9
     generalize a.tmps.getD 50 undef = u10
     generalize a.tmps.getD 51 undef = u11
     generalize a.tmps.getD 52 undef = u12
     generalize a.tmps.getD 53 undef = u13
     simp only [fillD, List.setIfInBounds_toArray, List.set_cons_zero, List.set_cons_succ]
     have z0 := b9.cell 0
     have z1 := b9.cell 1
     have z2 := b9.cell 2
     have z3 := b9.cell 3
     have z4 := b9.cell 4
     have z5 := b9.cell 5
     have zf := fun i => b9.frozen i
     have zl := b9.lt
     simp only [List.getElem?_toArray, List.getElem?_cons_zero, List.getElem?_cons_succ] at z0 z1 z2 z3 z4 z5
     clear hA hF ha e54 e9
     simp only [List.drop_succ_cons, List.drop_zero]
     have k5 : Keep NoB w1 ((((((w'.setCell ⟨g9, 0, none⟩ (.int .i64 (v.ln : Int))).setCell ⟨g9, 1, none⟩ (.int .i64 (fs'.length : Int))).setCell ⟨g9, 2, none⟩ (.int .i64 (e0.1.nd : Int))).setCell ⟨g9, 3, none⟩ (.string SB)).setCell ⟨g9, 4, none⟩ (.map none)).setCell ⟨g9, 5, none⟩ (.int .i64 0)) := (((((gK.setCell (hnl g9 0 hg9) _).setCell (hnl g9 1 hg9) _).setCell (hnl g9 2 hg9) _).setCell (hnl g9 3 hg9) _).setCell (hnl g9 4 hg9) _).setCell (hnl g9 5 hg9) _
     have b5 : Blk ((((((w'.setCell ⟨g9, 0, none⟩ (.int .i64 (v.ln : Int))).setCell ⟨g9, 1, none⟩ (.int .i64 (fs'.length : Int))).setCell ⟨g9, 2, none⟩ (.int .i64 (e0.1.nd : Int))).setCell ⟨g9, 3, none⟩ (.string SB)).setCell ⟨g9, 4, none⟩ (.map none)).setCell ⟨g9, 5, none⟩ (.int .i64 0)) g9 239 #[.int .i64 (v.ln : Int), .int .i64 (fs'.length : Int), .int .i64 (e0.1.nd : Int), .string SB, .map none, .int .i64 0] := (((((b9.put 0 _).put 1 _).put 2 _).put 3 _).put 4 _).put 5 _
     clear b9 gK
     go_wp2_with fail
     refine (HKi.out _).mono ?_
     rintro e w6 ⟨rfl, k6'⟩
     have k6 := keepN k5 k6'
     have b6 := b5.keep k6' id
     clear k5 b5 k6' z0 z1 z2 z3 z4 z5 zf zl
     have zf := fun i => b6.frozen i
     have zl := b6.lt
     have z4 := b6.cell 4
     have z5 := b6.cell 5
     simp only [List.getElem?_toArray, List.getElem?_cons_zero, List.getElem?_cons_succ] at z4 z5
     rcases kinds_kind hop with ⟨e1, e2'⟩ | ⟨e1, e2'⟩ | ⟨e1, e1', e2'⟩
     ·have HQ := Lib.hid (pNamed_yes hok e2 (by rw [e2']; decide))
      rw [e1]
      have HKd := Lib.hid e2'
      have x5 := k6.cell d5 id
      have xq := k6.cell q1 id
      go_wp2_with fail
      have k7 : Keep NoB w1 ((w6.setCell ⟨g9, 4, none⟩ (.map (some l.b))).setCell ⟨g9, 5, none⟩ (.int .i64 91)) := (k6.setCell (hnl g9 4 hg9) _).setCell (hnl g9 5 hg9) _
      have b7 : Blk ((w6.setCell ⟨g9, 4, none⟩ (.map (some l.b))).setCell ⟨g9, 5, none⟩ (.int .i64 91)) g9 239 #[.int .i64 (v.ln : Int), .int .i64 (fs'.length : Int), .int .i64 (e0.1.nd : Int), .string SB, .map (some l.b), .int .i64 91] := (b6.put 4 _).put 5 _
      obtain ⟨W7, hW7⟩ : ∃ W7, ((w6.setCell ⟨g9, 4, none⟩ (.map (some l.b))).setCell ⟨g9, 5, none⟩ (.int .i64 91)) = W7 := ⟨_, rfl⟩
      rw [hW7] at k7 b7
      simp only [hW7]
      clear hW7 zf zl z4 z5 x5 b6 k6
      have z0 := b7.cell 0
      have z1 := b7.cell 1
      have z2 := b7.cell 2
      have z3 := b7.cell 3
      have z4 := b7.cell 4
      have z5 := b7.cell 5
      simp only [List.getElem?_toArray, List.getElem?_cons_zero, List.getElem?_cons_succ] at z0 z1 z2 z3 z4 z5
      obtain ⟨i0, hi0, hz0, hz1, hz2⟩ := info_parts mnM_info
      have hroO : Own W7 239 6 (fun k => T k = .mn) (.slice v.M v.nm v.cm) v.nm (mvs v.mb ls p.ms) := by
       have h5 := HW.out.pa.row .mn ⟨Tg.noConfusion, Tg.noConfusion⟩
       rw [HW.out.rmn] at h5
       exact Own.keepN h5 k7
      have hro := hroO.1
      have hOl : ∀ k, some k = (Value.slice v.M v.nm v.cm).ownBlock → k < W7.heap.size := fun k e => by
       have h5 : T k = .mn := hroO.2 k e.symm
       exact Nat.lt_of_lt_of_le (HW.out.pa.fit k (by rw [h5]; exact Tg.noConfusion)).2 k7.size
      have hb1 := HW.out.bk.keep k7 id
      have hnR : ¬ some rb = (Value.slice v.M v.nm v.cm).ownBlock := own_ne_blk hro hb1 (by decide)
      have hnG : ¬ some g9 = (Value.slice v.M v.nm v.cm).ownBlock := fun e => by
       have h5 : T g9 = .mn := hroO.2 g9 e.symm
       rw [HW.out.pa.new hg9] at h5; cases h5
      have hnm : v.nm ≤ 300001 := by
       have h5 := hro.1
       rw [mvs_length] at h5
       have h7 := HW.out.bm
       omega
      obtain ⟨_, _, _, _, _, _, y6⟩ := rd_cells hb1
      clear hroO hb1
      refine wp_region_tail7 (fun i => [82, 83, 84, 85, 86, 87, 88, 89].getD i 0) 8 (by kernel_rfl) (by kernel_rfl) (by kernel_rfl) (by kernel_rfl) (by kernel_rfl) 7 (fun k => some k = (Value.slice v.M v.nm v.cm).ownBlock) (SAp W7 239 6 (.slice v.M v.nm v.cm) v.nm (mvs v.mb ls p.ms) [.int .i64 (v.ln : Int), .int .i64 (fs'.length : Int), .int .i64 (e0.1.nd : Int), .string SB, .map (some l.b), .int .i64 91] [.pointer (some ⟨rb, 0, none⟩), .pointer (some ⟨rb, 0, none⟩), .pointer (some ⟨rb, 0, none⟩), .pointer (some ⟨rb, 6, none⟩), .slice v.M v.nm v.cm, .agg #[.int .i64 (v.ln : Int), .int .i64 (fs'.length : Int), .int .i64 (e0.1.nd : Int), .string SB, .map (some l.b), .int .i64 91]]) (fun i u x y hne h hk => SAp_stable W7 hOl _ _ _ _ _ _ _ i u x y hne h hk) (fun u x y h hk => AppR.keepN h hk) rfl ?step ?spec ?fin
      case step =>
       intro i o a w' hoo hi hic hF hK hA
       by_cases h0 : i = 0
       ·subst h0
        simp only [List.getElem?_toArray, List.getElem?_cons_zero, Option.some.injEq] at hoo
        subst hoo
        have e0 : a.tmps.getD 0 undef = .pointer (some ⟨rb, 0, none⟩) := hF.2.2 0 (by decide)
        refine Does.plain rfl ?_
        unfold yieldsK
        go_simp
        exact ⟨rfl, Keep.refl _ _⟩
       by_cases h1 : i = 1
       ·subst h1
        simp only [List.getElem?_toArray, List.getElem?_cons_zero, List.getElem?_cons_succ, Option.some.injEq] at hoo
        subst hoo
        have e0 : a.tmps.getD 0 undef = .pointer (some ⟨rb, 0, none⟩) := hF.2.2 0 (by decide)
        refine Does.plain rfl ?_
        unfold yieldsK
        go_simp
        exact ⟨rfl, Keep.refl _ _⟩
       by_cases h2 : i = 2
       ·subst h2
        simp only [List.getElem?_toArray, List.getElem?_cons_zero, List.getElem?_cons_succ, Option.some.injEq] at hoo
        subst hoo
        have e83 : a.tmps.getD 83 undef = .pointer (some ⟨rb, 0, none⟩) := hA ⟨1, .data⟩ (by simp) rfl
        refine Does.plain rfl ?_
        unfold yieldsK
        go_simp
        exact ⟨rfl, Keep.refl _ _⟩
       by_cases h3 : i = 3
       ·subst h3
        simp only [List.getElem?_toArray, List.getElem?_cons_zero, List.getElem?_cons_succ, Option.some.injEq] at hoo
        subst hoo
        have e84 : a.tmps.getD 84 undef = .pointer (some ⟨rb, 0, none⟩) := hA ⟨2, .data⟩ (by simp) rfl
        refine Does.plain rfl ?_
        unfold yieldsK
        go_simp
        exact ⟨rfl, Keep.refl _ _⟩
       by_cases h4 : i = 4
       ·subst h4
        simp only [List.getElem?_toArray, List.getElem?_cons_zero, List.getElem?_cons_succ, Option.some.injEq] at hoo
        subst hoo
        have e85 : a.tmps.getD 85 undef = .pointer (some ⟨rb, 6, none⟩) := hA ⟨3, .data⟩ (by simp) rfl
        have q0 := Keep.cell hK y6 hnR
        refine Does.plain rfl ?_
        unfold yieldsK
        go_simp
        exact ⟨rfl, Keep.refl _ _⟩
       by_cases h5 : i = 5
       ·subst h5
        simp only [List.getElem?_toArray, List.getElem?_cons_zero, List.getElem?_cons_succ, Option.some.injEq] at hoo
        subst hoo
        have e9 : a.tmps.getD 9 undef = .pointer (some ⟨g9, 0, none⟩) := hF.2.2 9 (by decide)
        have q0 := Keep.cell hK z0 hnG
        have q1 := Keep.cell hK z1 hnG
        have q2 := Keep.cell hK z2 hnG
        have q3 := Keep.cell hK z3 hnG
        have q4 := Keep.cell hK z4 hnG
        have q5 := Keep.cell hK z5 hnG
        refine Does.plain rfl ?_
        unfold yieldsK
        go_simp
        exact ⟨rfl, Keep.refl _ _⟩
       by_cases h6 : i = 6
       ·subst h6
        simp only [List.getElem?_toArray, List.getElem?_cons_zero, List.getElem?_cons_succ, Option.some.injEq] at hoo
        subst hoo
        have e87 : a.tmps.getD 87 undef = .agg #[.int .i64 (v.ln : Int), .int .i64 (fs'.length : Int), .int .i64 (e0.1.nd : Int), .string SB, .map (some l.b), .int .i64 91] := hA ⟨5, .data⟩ (by simp) rfl
        refine Does.plain rfl ?_
        unfold yieldsK
        simp only [Array.getD_eq_getD_getElem?] at e87
        go_simp
        exact ⟨⟨w'.heap.size, hK.size, rfl, Blk.new _ _ _⟩, (Keep.refl _ _).alloc _⟩
       omega
      case spec =>
       intro o a w' hoo hF hK hA
       simp only [List.getElem?_toArray, List.getElem?_cons_zero, List.getElem?_cons_succ, Option.some.injEq] at hoo
       subst hoo
       have e86 : a.tmps.getD 86 undef = .slice v.M v.nm v.cm := hA ⟨4, .data⟩ (by simp) rfl
       obtain ⟨g8, hg8, e88, b8⟩ := hA ⟨6, .data⟩ (by simp) rfl
       have e88 : a.tmps.getD 88 undef = .slice (some ⟨g8, 0, none⟩) 1 1 := e88
       refine Does.plain rfl ?_
       refine yields_append (.tmp 86) (.tmp 88) _ rfl 239 6 56 i0 _ Tryz.underlying113 hi0 hz0 hz1 hz2 rfl (by decide) (.slice v.M v.nm v.cm) v.nm (mvs v.mb ls p.ms) (some ⟨g8, 0, none⟩) 1 1 [.int .i64 (v.ln : Int), .int .i64 (fs'.length : Int), .int .i64 (e0.1.nd : Int), .string SB, .map (some l.b), .int .i64 91] e86 (ownsRow_keep hro hK (fun _ _ => id)) e88 (rd_blkM (xs := [.int .i64 (v.ln : Int), .int .i64 (fs'.length : Int), .int .i64 (e0.1.nd : Int), .string SB, .map (some l.b), .int .i64 91]) b8) rfl (by simp [Value.oneCell']) (by unfold maxLen; omega) (by omega) ?_
       intro A3 c3 W3a h2 h3 h4
       exact ⟨⟨w', W3a, A3, c3, rfl, hK, h3, h2, h4, Keep.refl _ _⟩, (Keep.refl _ _).grown h3 (fun g e _ => e.symm)⟩
      case fin =>
       intro a w' hF gK hA
       have e82 : a.tmps.getD 82 undef = .pointer (some ⟨rb, 0, none⟩) := hA 0 (by decide)
       obtain ⟨Wd, Wc, Y9, cy9, e89, kd, hg5, hrow5, hv5, ke⟩ := hA 7 (by decide)
       have e89 : a.tmps.getD 89 undef = .slice Y9 (v.nm + 1) cy9 := e89
       have ha := frameD_list (l := [82, 83, 84, 85, 86, 87, 88, 89]) rfl hF
       rw [ha]
       simp only [List.map_cons, List.map_nil, e82, e89]
       generalize a.tmps.getD 83 undef = u1
       generalize a.tmps.getD 84 undef = u2
       generalize a.tmps.getD 85 undef = u3
       generalize a.tmps.getD 86 undef = u4
       generalize a.tmps.getD 87 undef = u5
       generalize a.tmps.getD 88 undef = u6
       simp only [fillD, List.setIfInBounds_toArray, List.set_cons_zero, List.set_cons_succ]
       have hbw := (((HW.out.bk.keep k7 id).keep kd id).grown hg5 hnR).keep ke id
       have y1 := hbw.cell 6
       have f1 := hbw.frozen 6
       have l1 := hbw.lt
       simp only [RV.cells, List.getElem?_toArray, List.getElem?_cons_zero, List.getElem?_cons_succ] at y1
       have hTb : T W.heap.size = .no := by
        apply Classical.byContradiction
        intro hne
        obtain ⟨_, v2, es2, fs2, ls2, R2, F2, _, hr2⟩ := HR.out
        have := (hr2.pa.fit W.heap.size hne).2
        omega
       have hnB : ¬ some W.heap.size = (Value.slice v.M v.nm v.cm).ownBlock := fun e => by
        have h5 := HW.out.pa.row .mn ⟨Tg.noConfusion, Tg.noConfusion⟩
        rw [HW.out.rmn] at h5
        have h6 : T W.heap.size = .mn := h5.2 _ e.symm
        rw [hTb] at h6; cases h6
       obtain ⟨g1', g2, g3, g4, g5⟩ : Keep NoB w1 Wd ∧ Wd.grownBy Wc (Value.slice v.M v.nm v.cm).ownBlock ∧ Wc.ownsRow 0 239 6 (.slice Y9 (v.nm + 1) cy9) (v.nm + 1) (mvs v.mb ls p.ms ++ [.int .i64 (v.ln : Int), .int .i64 (fs'.length : Int), .int .i64 (e0.1.nd : Int), .string SB, .map (some l.b), .int .i64 91]) ∧ ((Value.slice Y9 (v.nm + 1) cy9).ownBlock = (Value.slice v.M v.nm v.cm).ownBlock ∨ (Value.slice Y9 (v.nm + 1) cy9).ownBlock = some Wd.heap.size) ∧ Keep NoB Wc w' := ⟨keepN k7 kd, hg5, hrow5, hv5, ke⟩
       obtain ⟨T', r1, v', R', hv', hr'⟩ := rdr_mention (m := ⟨v.ln, fs'.length, e0.1.nd, b, 1⟩) HW.out HK0.out.size g1' (fun _ => by rw [hls]; simp; omega) g2 (by rw [show mnC v.mb ls ⟨v.ln, fs'.length, e0.1.nd, b, 1⟩ = [.int .i64 (v.ln : Int), .int .i64 (fs'.length : Int), .int .i64 (e0.1.nd : Int), .string SB, .map (some l.b), .int .i64 91] from by rw [hls]; unfold mnC among wrongM; rw [← str_of HBS.out]; simp [hkk]]; exact g3) g4 g5
       have HR' := Lib.hid hr'
       have HV' := Lib.hid hv'
       have HR1b := Lib.hid r1
       have bo := (((HB.out.keep k7 id).keep kd id).grown hg5 hnB).keep ke id
       have hrb0 : W.heap.size ≠ rb := fun e => by rw [← e] at hbw; exact absurd (bo.symm.trans hbw) (by simp)
       have bo2 := bo.far (p := ⟨rb, 6, none⟩) hrb0 (.slice Y9 (v.nm + 1) cy9)
       obtain ⟨o0, o1, o2⟩ := O.blk_inst bo2
       have fo := fun i => bo2.frozen i
       have hz := bo2.lt
       have HTB := Lib.hid hTb
       have HBL := Lib.hid HB.out.lt
       have HWP := Lib.hid HW.out.pa
       clear hA hF ha e82 e89 y6 gK kd hg5 hrow5 hv5 ke hro hnR hnG hbw g1' g2 g3 g4 g5 hr' hv' r1 bo bo2 z0 z1 z2 z3 z4 z5 b7 hnB hTb
       simp only [List.drop_succ_cons, List.drop_zero]
       go_wp2_with fail
       obtain ⟨Wm, hWm⟩ : ∃ Wm, w'.setCell ⟨rb, 6, none⟩ (.slice Y9 (v.nm + 1) cy9) = Wm := ⟨_, rfl⟩
       simp only [hWm] at HR' HR1b o0 o1 o2 fo hz ⊢
       go_wp2
       refine bodyPost_ret (v := .tuple #[O.instV (op : Int) 0 0, .int .i64 0]) (by simp [results, Tryz.results259, go_sem, o0, o1, o2]) rfl ?_
       have hTb' : T' W.heap.size = .no := Classical.byContradiction fun hne => by
        have := HR1b.out.own W.heap.size HBL.out hne
        exact this HTB.out
       have hw0l : w0.heap.size ≤ W.heap.size := HR.out.1.size
       have hA0 : RdAt w0 Wm T' rb ⟨p.im, p.last, p.nums, p.labs, p.ms ++ [⟨v.ln, fs'.length, e0.1.nd, b, 1⟩]⟩ (N + 1) v.ln := ⟨keep_rnd HWP.out HK0.out HR1b.out, v', es, fs, ls, R', F, HV'.out, HR'.out⟩
       have hA1 := ((hA0.box (j := 0) (u := .int .i64 (op : Int)) hTb' hw0l).1.box (j := 1) (u := .int .i64 0) hTb' hw0l).1.box (j := 2) (u := .int .i64 0) hTb' hw0l
       refine ⟨T', ⟨fun k hk h2 => HR1b.out.own k (Nat.lt_of_lt_of_le hk HHK.out.size) h2, ?_⟩, .inr ⟨op, b, HQ.out, rfl, ?_⟩⟩
       ·have hn0 : ∀ i, (⟨W.heap.size, i, none⟩ : Addr).block < W.heap.size → BS T (⟨W.heap.size, i, none⟩ : Addr).block := fun i h => absurd h (Nat.lt_irrefl _)
        exact (((HHK.out.noB.trans HR1b.out.keep (fun k h _ => h)).setCell (hn0 0) _).setCell (hn0 1) _).setCell (hn0 2) _
       ·rw [HFL.out, ← HND.out, HKd.out]; exact hA1.1
     ·have HQ := Lib.hid (pNamed_yes hok e2 (by rw [e2']; decide))
      rw [e1]
      have HKd := Lib.hid e2'
      have x5 := k6.cell d4 id
      go_wp2_with fail
      have k7 : Keep NoB w1 ((w6.setCell ⟨g9, 4, none⟩ (.map (some v.mb))).setCell ⟨g9, 5, none⟩ (.int .i64 92)) := (k6.setCell (hnl g9 4 hg9) _).setCell (hnl g9 5 hg9) _
      have b7 : Blk ((w6.setCell ⟨g9, 4, none⟩ (.map (some v.mb))).setCell ⟨g9, 5, none⟩ (.int .i64 92)) g9 239 #[.int .i64 (v.ln : Int), .int .i64 (fs'.length : Int), .int .i64 (e0.1.nd : Int), .string SB, .map (some v.mb), .int .i64 92] := (b6.put 4 _).put 5 _
      obtain ⟨W7, hW7⟩ : ∃ W7, ((w6.setCell ⟨g9, 4, none⟩ (.map (some v.mb))).setCell ⟨g9, 5, none⟩ (.int .i64 92)) = W7 := ⟨_, rfl⟩
      rw [hW7] at k7 b7
      simp only [hW7]
      clear hW7 zf zl z4 z5 x5 b6 k6
      have z0 := b7.cell 0
      have z1 := b7.cell 1
      have z2 := b7.cell 2
      have z3 := b7.cell 3
      have z4 := b7.cell 4
      have z5 := b7.cell 5
      simp only [List.getElem?_toArray, List.getElem?_cons_zero, List.getElem?_cons_succ] at z0 z1 z2 z3 z4 z5
      obtain ⟨i0, hi0, hz0, hz1, hz2⟩ := info_parts mnM_info
      have hroO : Own W7 239 6 (fun k => T k = .mn) (.slice v.M v.nm v.cm) v.nm (mvs v.mb ls p.ms) := by
       have h5 := HW.out.pa.row .mn ⟨Tg.noConfusion, Tg.noConfusion⟩
       rw [HW.out.rmn] at h5
       exact Own.keepN h5 k7
      have hro := hroO.1
      have hOl : ∀ k, some k = (Value.slice v.M v.nm v.cm).ownBlock → k < W7.heap.size := fun k e => by
       have h5 : T k = .mn := hroO.2 k e.symm
       exact Nat.lt_of_lt_of_le (HW.out.pa.fit k (by rw [h5]; exact Tg.noConfusion)).2 k7.size
      have hb1 := HW.out.bk.keep k7 id
      have hnR : ¬ some rb = (Value.slice v.M v.nm v.cm).ownBlock := own_ne_blk hro hb1 (by decide)
      have hnG : ¬ some g9 = (Value.slice v.M v.nm v.cm).ownBlock := fun e => by
       have h5 : T g9 = .mn := hroO.2 g9 e.symm
       rw [HW.out.pa.new hg9] at h5; cases h5
      have hnm : v.nm ≤ 300001 := by
       have h5 := hro.1
       rw [mvs_length] at h5
       have h7 := HW.out.bm
       omega
      obtain ⟨_, _, _, _, _, _, y6⟩ := rd_cells hb1
      clear hroO hb1
      refine wp_region_tail7 (fun i => [82, 83, 84, 85, 86, 87, 88, 89].getD i 0) 8 (by kernel_rfl) (by kernel_rfl) (by kernel_rfl) (by kernel_rfl) (by kernel_rfl) 7 (fun k => some k = (Value.slice v.M v.nm v.cm).ownBlock) (SAp W7 239 6 (.slice v.M v.nm v.cm) v.nm (mvs v.mb ls p.ms) [.int .i64 (v.ln : Int), .int .i64 (fs'.length : Int), .int .i64 (e0.1.nd : Int), .string SB, .map (some v.mb), .int .i64 92] [.pointer (some ⟨rb, 0, none⟩), .pointer (some ⟨rb, 0, none⟩), .pointer (some ⟨rb, 0, none⟩), .pointer (some ⟨rb, 6, none⟩), .slice v.M v.nm v.cm, .agg #[.int .i64 (v.ln : Int), .int .i64 (fs'.length : Int), .int .i64 (e0.1.nd : Int), .string SB, .map (some v.mb), .int .i64 92]]) (fun i u x y hne h hk => SAp_stable W7 hOl _ _ _ _ _ _ _ i u x y hne h hk) (fun u x y h hk => AppR.keepN h hk) rfl ?step ?spec ?fin
      case step =>
       intro i o a w' hoo hi hic hF hK hA
       by_cases h0 : i = 0
       ·subst h0
        simp only [List.getElem?_toArray, List.getElem?_cons_zero, Option.some.injEq] at hoo
        subst hoo
        have e0 : a.tmps.getD 0 undef = .pointer (some ⟨rb, 0, none⟩) := hF.2.2 0 (by decide)
        refine Does.plain rfl ?_
        unfold yieldsK
        go_simp
        exact ⟨rfl, Keep.refl _ _⟩
       by_cases h1 : i = 1
       ·subst h1
        simp only [List.getElem?_toArray, List.getElem?_cons_zero, List.getElem?_cons_succ, Option.some.injEq] at hoo
        subst hoo
        have e0 : a.tmps.getD 0 undef = .pointer (some ⟨rb, 0, none⟩) := hF.2.2 0 (by decide)
        refine Does.plain rfl ?_
        unfold yieldsK
        go_simp
        exact ⟨rfl, Keep.refl _ _⟩
       by_cases h2 : i = 2
       ·subst h2
        simp only [List.getElem?_toArray, List.getElem?_cons_zero, List.getElem?_cons_succ, Option.some.injEq] at hoo
        subst hoo
        have e83 : a.tmps.getD 83 undef = .pointer (some ⟨rb, 0, none⟩) := hA ⟨1, .data⟩ (by simp) rfl
        refine Does.plain rfl ?_
        unfold yieldsK
        go_simp
        exact ⟨rfl, Keep.refl _ _⟩
       by_cases h3 : i = 3
       ·subst h3
        simp only [List.getElem?_toArray, List.getElem?_cons_zero, List.getElem?_cons_succ, Option.some.injEq] at hoo
        subst hoo
        have e84 : a.tmps.getD 84 undef = .pointer (some ⟨rb, 0, none⟩) := hA ⟨2, .data⟩ (by simp) rfl
        refine Does.plain rfl ?_
        unfold yieldsK
        go_simp
        exact ⟨rfl, Keep.refl _ _⟩
       by_cases h4 : i = 4
       ·subst h4
        simp only [List.getElem?_toArray, List.getElem?_cons_zero, List.getElem?_cons_succ, Option.some.injEq] at hoo
        subst hoo
        have e85 : a.tmps.getD 85 undef = .pointer (some ⟨rb, 6, none⟩) := hA ⟨3, .data⟩ (by simp) rfl
        have q0 := Keep.cell hK y6 hnR
        refine Does.plain rfl ?_
        unfold yieldsK
        go_simp
        exact ⟨rfl, Keep.refl _ _⟩
       by_cases h5 : i = 5
       ·subst h5
        simp only [List.getElem?_toArray, List.getElem?_cons_zero, List.getElem?_cons_succ, Option.some.injEq] at hoo
        subst hoo
        have e9 : a.tmps.getD 9 undef = .pointer (some ⟨g9, 0, none⟩) := hF.2.2 9 (by decide)
        have q0 := Keep.cell hK z0 hnG
        have q1 := Keep.cell hK z1 hnG
        have q2 := Keep.cell hK z2 hnG
        have q3 := Keep.cell hK z3 hnG
        have q4 := Keep.cell hK z4 hnG
        have q5 := Keep.cell hK z5 hnG
        refine Does.plain rfl ?_
        unfold yieldsK
        go_simp
        exact ⟨rfl, Keep.refl _ _⟩
       by_cases h6 : i = 6
       ·subst h6
        simp only [List.getElem?_toArray, List.getElem?_cons_zero, List.getElem?_cons_succ, Option.some.injEq] at hoo
        subst hoo
        have e87 : a.tmps.getD 87 undef = .agg #[.int .i64 (v.ln : Int), .int .i64 (fs'.length : Int), .int .i64 (e0.1.nd : Int), .string SB, .map (some v.mb), .int .i64 92] := hA ⟨5, .data⟩ (by simp) rfl
        refine Does.plain rfl ?_
        unfold yieldsK
        simp only [Array.getD_eq_getD_getElem?] at e87
        go_simp
        exact ⟨⟨w'.heap.size, hK.size, rfl, Blk.new _ _ _⟩, (Keep.refl _ _).alloc _⟩
       omega
      case spec =>
       intro o a w' hoo hF hK hA
       simp only [List.getElem?_toArray, List.getElem?_cons_zero, List.getElem?_cons_succ, Option.some.injEq] at hoo
       subst hoo
       have e86 : a.tmps.getD 86 undef = .slice v.M v.nm v.cm := hA ⟨4, .data⟩ (by simp) rfl
       obtain ⟨g8, hg8, e88, b8⟩ := hA ⟨6, .data⟩ (by simp) rfl
       have e88 : a.tmps.getD 88 undef = .slice (some ⟨g8, 0, none⟩) 1 1 := e88
       refine Does.plain rfl ?_
       refine yields_append (.tmp 86) (.tmp 88) _ rfl 239 6 56 i0 _ Tryz.underlying113 hi0 hz0 hz1 hz2 rfl (by decide) (.slice v.M v.nm v.cm) v.nm (mvs v.mb ls p.ms) (some ⟨g8, 0, none⟩) 1 1 [.int .i64 (v.ln : Int), .int .i64 (fs'.length : Int), .int .i64 (e0.1.nd : Int), .string SB, .map (some v.mb), .int .i64 92] e86 (ownsRow_keep hro hK (fun _ _ => id)) e88 (rd_blkM (xs := [.int .i64 (v.ln : Int), .int .i64 (fs'.length : Int), .int .i64 (e0.1.nd : Int), .string SB, .map (some v.mb), .int .i64 92]) b8) rfl (by simp [Value.oneCell']) (by unfold maxLen; omega) (by omega) ?_
       intro A3 c3 W3a h2 h3 h4
       exact ⟨⟨w', W3a, A3, c3, rfl, hK, h3, h2, h4, Keep.refl _ _⟩, (Keep.refl _ _).grown h3 (fun g e _ => e.symm)⟩
      case fin =>
       intro a w' hF gK hA
       have e82 : a.tmps.getD 82 undef = .pointer (some ⟨rb, 0, none⟩) := hA 0 (by decide)
       obtain ⟨Wd, Wc, Y9, cy9, e89, kd, hg5, hrow5, hv5, ke⟩ := hA 7 (by decide)
       have e89 : a.tmps.getD 89 undef = .slice Y9 (v.nm + 1) cy9 := e89
       have ha := frameD_list (l := [82, 83, 84, 85, 86, 87, 88, 89]) rfl hF
       rw [ha]
       simp only [List.map_cons, List.map_nil, e82, e89]
       generalize a.tmps.getD 83 undef = u1
       generalize a.tmps.getD 84 undef = u2
       generalize a.tmps.getD 85 undef = u3
       generalize a.tmps.getD 86 undef = u4
       generalize a.tmps.getD 87 undef = u5
       generalize a.tmps.getD 88 undef = u6
       simp only [fillD, List.setIfInBounds_toArray, List.set_cons_zero, List.set_cons_succ]
       have hbw := (((HW.out.bk.keep k7 id).keep kd id).grown hg5 hnR).keep ke id
       have y1 := hbw.cell 6
       have f1 := hbw.frozen 6
       have l1 := hbw.lt
       simp only [RV.cells, List.getElem?_toArray, List.getElem?_cons_zero, List.getElem?_cons_succ] at y1
       have hTb : T W.heap.size = .no := by
        apply Classical.byContradiction
        intro hne
        obtain ⟨_, v2, es2, fs2, ls2, R2, F2, _, hr2⟩ := HR.out
        have := (hr2.pa.fit W.heap.size hne).2
        omega
       have hnB : ¬ some W.heap.size = (Value.slice v.M v.nm v.cm).ownBlock := fun e => by
        have h5 := HW.out.pa.row .mn ⟨Tg.noConfusion, Tg.noConfusion⟩
        rw [HW.out.rmn] at h5
        have h6 : T W.heap.size = .mn := h5.2 _ e.symm
        rw [hTb] at h6; cases h6
       obtain ⟨g1', g2, g3, g4, g5⟩ : Keep NoB w1 Wd ∧ Wd.grownBy Wc (Value.slice v.M v.nm v.cm).ownBlock ∧ Wc.ownsRow 0 239 6 (.slice Y9 (v.nm + 1) cy9) (v.nm + 1) (mvs v.mb ls p.ms ++ [.int .i64 (v.ln : Int), .int .i64 (fs'.length : Int), .int .i64 (e0.1.nd : Int), .string SB, .map (some v.mb), .int .i64 92]) ∧ ((Value.slice Y9 (v.nm + 1) cy9).ownBlock = (Value.slice v.M v.nm v.cm).ownBlock ∨ (Value.slice Y9 (v.nm + 1) cy9).ownBlock = some Wd.heap.size) ∧ Keep NoB Wc w' := ⟨keepN k7 kd, hg5, hrow5, hv5, ke⟩
       obtain ⟨T', r1, v', R', hv', hr'⟩ := rdr_mention (m := ⟨v.ln, fs'.length, e0.1.nd, b, 2⟩) HW.out HK0.out.size g1' (fun _ => by rw [hls]; simp; omega) g2 (by rw [show mnC v.mb ls ⟨v.ln, fs'.length, e0.1.nd, b, 2⟩ = [.int .i64 (v.ln : Int), .int .i64 (fs'.length : Int), .int .i64 (e0.1.nd : Int), .string SB, .map (some v.mb), .int .i64 92] from by rw [hls]; unfold mnC among wrongM; rw [← str_of HBS.out]; simp]; exact g3) g4 g5
       have HR' := Lib.hid hr'
       have HV' := Lib.hid hv'
       have HR1b := Lib.hid r1
       have bo := (((HB.out.keep k7 id).keep kd id).grown hg5 hnB).keep ke id
       have hrb0 : W.heap.size ≠ rb := fun e => by rw [← e] at hbw; exact absurd (bo.symm.trans hbw) (by simp)
       have bo2 := bo.far (p := ⟨rb, 6, none⟩) hrb0 (.slice Y9 (v.nm + 1) cy9)
       obtain ⟨o0, o1, o2⟩ := O.blk_inst bo2
       have fo := fun i => bo2.frozen i
       have hz := bo2.lt
       have HTB := Lib.hid hTb
       have HBL := Lib.hid HB.out.lt
       have HWP := Lib.hid HW.out.pa
       clear hA hF ha e82 e89 y6 gK kd hg5 hrow5 hv5 ke hro hnR hnG hbw g1' g2 g3 g4 g5 hr' hv' r1 bo bo2 z0 z1 z2 z3 z4 z5 b7 hnB hTb
       simp only [List.drop_succ_cons, List.drop_zero]
       go_wp2_with fail
       obtain ⟨Wm, hWm⟩ : ∃ Wm, w'.setCell ⟨rb, 6, none⟩ (.slice Y9 (v.nm + 1) cy9) = Wm := ⟨_, rfl⟩
       simp only [hWm] at HR' HR1b o0 o1 o2 fo hz ⊢
       go_wp2
       refine bodyPost_ret (v := .tuple #[O.instV (op : Int) 0 0, .int .i64 0]) (by simp [results, Tryz.results259, go_sem, o0, o1, o2]) rfl ?_
       have hTb' : T' W.heap.size = .no := Classical.byContradiction fun hne => by
        have := HR1b.out.own W.heap.size HBL.out hne
        exact this HTB.out
       have hw0l : w0.heap.size ≤ W.heap.size := HR.out.1.size
       have hA0 : RdAt w0 Wm T' rb ⟨p.im, p.last, p.nums, p.labs, p.ms ++ [⟨v.ln, fs'.length, e0.1.nd, b, 2⟩]⟩ (N + 1) v.ln := ⟨keep_rnd HWP.out HK0.out HR1b.out, v', es, fs, ls, R', F, HV'.out, HR'.out⟩
       have hA1 := ((hA0.box (j := 0) (u := .int .i64 (op : Int)) hTb' hw0l).1.box (j := 1) (u := .int .i64 0) hTb' hw0l).1.box (j := 2) (u := .int .i64 0) hTb' hw0l
       refine ⟨T', ⟨fun k hk h2 => HR1b.out.own k (Nat.lt_of_lt_of_le hk HHK.out.size) h2, ?_⟩, .inr ⟨op, b, HQ.out, rfl, ?_⟩⟩
       ·have hn0 : ∀ i, (⟨W.heap.size, i, none⟩ : Addr).block < W.heap.size → BS T (⟨W.heap.size, i, none⟩ : Addr).block := fun i h => absurd h (Nat.lt_irrefl _)
        exact (((HHK.out.noB.trans HR1b.out.keep (fun k h _ => h)).setCell (hn0 0) _).setCell (hn0 1) _).setCell (hn0 2) _
       ·rw [HFL.out, ← HND.out, HKd.out]; exact hA1.1
     ·have HQ := Lib.hid (pNamed_no4 (b := b) e2 e2')
      obtain ⟨ka, hka⟩ : ∃ ka, (O.rowAt (op : Int)).ka = ka := ⟨_, rfl⟩
      rw [hka] at e1 e1' ⊢
      have n1 : (ka == 10) = false := by rw [beq_eq_false_iff_ne]; exact e1
      have n2 : (ka == 7) = false := by rw [beq_eq_false_iff_ne]; exact e1'
      have hKK := keepN HHK.out k6
      have bo := HB.out.keep k6 id
      have hz := bo.lt
      have fo := fun i => bo.frozen i
      obtain ⟨o0, o1, o2⟩ := O.blk_inst bo
      clear zf zl z4 z5
      go_wp2
      exact bodyPost_ret (v := .tuple #[O.instV 0 0 0, .int .i64 90]) (by simp [results, Tryz.results259, go_sem, o0, o1, o2]) rfl (HNo.out _ (O.out3N hKK (Nat.le_refl _) _ _ _) HQ.out)
 ·have HQ := Lib.hid (pNamed_no1 (ws := ws) (by omega))
  have hn2 : ((n : Int) == 2) = false := by rw [beq_eq_false_iff_ne]; omega
  have hz := bo.lt
  have fo := fun i => bo.frozen i
  obtain ⟨o0, o1, o2⟩ := O.blk_inst bo
  go_enter Tryz.func259, Tryz.ntmps259
  go_wp2
  exact bodyPost_ret (v := .tuple #[O.instV 0 0 0, .int .i64 90]) (by simp [results, Tryz.results259, go_sem, o0, o1, o2]) rfl (HNo.out _ hK HQ.out)

end Go.Proofs.YtgnooffedmeenaaGreatDoor.M
