/-
  Part 11 of the proofs of GLoopsRow, GReachRow, GMustRow, GNamesRow: what is laid, and what the functions that the law runs answer. Conditions: each theorem names its own.
-/
import Derived.Test.YtghdibbooegocaaGreatDoorQA10
namespace Go.Proofs.YtghdibbooegocaaGreatDoor.O
open Go.RowKit Go.Shelf
attribute [local go_sem] Oper.semAt_some

def OfI (w : World) (bs bn be : Nat) (S : ByteArray) (pre : List Rn) (W : World) : Prop :=
 (Blk W bs 9 #[.string S] ∧ Blk W bn 3 #[.int .i64 0] ∧ Blk W be 24 #[.int .i64 40]) ∧ Keep NoB w W ∧ ∀ x ∈ pre, nm x.1 ≠ S
def OfX (w : World) (bn be : Nat) (S : ByteArray) (c : Code) (W : World) : Prop :=
 c = .exit 0 ∧ ∃ x : Rn, nm x.1 = S ∧ (Blk W bn 3 #[.int .i64 (x.1 : Int)] ∧ Blk W be 24 #[.int .i64 0]) ∧ Keep NoB w W
def OfA (S : ByteArray) (bs bn be : Nat) (x : Rn) (Bo : Nat) : Act :=
 { tmps := #[.string S, .pointer (some ⟨bs, 0, none⟩), .int .i64 0, .int .i64 0, .pointer (some ⟨bn, 0, none⟩), .pointer (some ⟨be, 0, none⟩), .int .i64 (x.1 : Int), .pointer (some ⟨Bo, 0, none⟩), .func (.func 92) #[] #[], .int .i64 (x.1 : Int), rowV (rowAt (x.1 : Int)), undef, undef, undef, undef, undef, undef, undef], defers := [] }
theorem ofI_own {w : World} {bs bn be B : Nat} {S : ByteArray} (hB : w.heap.size ≤ B) : OwnFrom B (OfI w bs bn be S) := by
 intro s X Y row ⟨⟨h1, h2, h3⟩, h4, h5⟩ hg hrow
 exact ⟨⟨blk_own (β := Unit) _ _ _ (fun _ => _) () _ _ _ h1 hg hrow, blk_own (β := Unit) _ _ _ (fun _ => _) () _ _ _ h2 hg hrow, blk_own (β := Unit) _ _ _ (fun _ => _) () _ _ _ h3 hg hrow⟩, keep_own (β := Unit) _ hB () _ _ _ h4 hg hrow, h5⟩
theorem ofX_own {w : World} {bn be B : Nat} {S : ByteArray} (hB : w.heap.size ≤ B) (c : Code) : OwnFrom B (fun (_ : List Rn) W => OfX w bn be S c W) := by
 intro s X Y row ⟨h0, x, h1, ⟨h2, h3⟩, h4⟩ hg hrow
 exact ⟨h0, x, h1, ⟨blk_own (β := Unit) _ _ _ (fun _ => _) () _ _ _ h2 hg hrow, blk_own (β := Unit) _ _ _ (fun _ => _) () _ _ _ h3 hg hrow⟩, keep_own (β := Unit) _ hB () _ _ _ h4 hg hrow⟩
theorem abides_keep {B : Nat} {J : List Rn → World → Prop} (h : AbidesFrom B J) : ∀ pre W W', J pre W → Keep NoB W W' → J pre W' := fun pre W W' hj hk => h pre W W' none hj hk.grows (fun r e => by cases e)
theorem rows_stops (m : Nat) (hm : 1 ≤ m) (w : World) :
  SeqStopsK Fence.wide m Tryz.prog 92 #[] rowE (fun _ _ => True) (fun ys : List Rn => ys.map (·.1) = List.range 30) (fun _ => True) 30 w := fun l J Jx W _ hJ _ hY h0 =>
 rows1_in m l hm J Jx (abides_keep hJ) hY W h0
theorem rows_any (m : Nat) (w : World) :
  CallsIn Fence.wide m Tryz.prog 77 #[] w fun e w' => e = .returned (.func (.func 92) #[] #[]) ∧ w' = w := by
 refine callsIn_of_wp Tryz.func77 rfl trivial ?_ rfl
 simp only [Tryz.ntmps77, List.size_toArray, List.length_nil, Nat.reduceSub, Array.replicate_succ, Array.replicate_zero, List.push_toArray, List.append_toArray, List.nil_append]
 gi_wp2
 go_ret
 exact ⟨rfl, rfl⟩
theorem nm_ne {S T : ByteArray} (h : T ≠ S) : (T.toList == S.toList) = false := by
 rw [beq_eq_false_iff_ne]
 intro e
 rw [ByteArray.toList_eq, ByteArray.toList_eq] at e
 exact h (by cases T; cases S; simp at e; rw [e])
theorem findI_hit {S : ByteArray} (x : Rn) (h : nm x.1 = S) : findI S = (x.1 : Int) := by
 rw [← h]; exact findI_of (rn_op x)
theorem findI_miss {S : ByteArray} {ys : List Rn} (h : ys.map (·.1) = List.range 30) (h2 : ∀ x ∈ ys, nm x.1 ≠ S) : findI S = -1 := by
 rcases find_spec S 30 0 with ⟨h1, _⟩ | ⟨j, _, hj, _, h4⟩
 ·exact h1
 ·have hm : j ∈ ys.map (·.1) := by rw [h]; simp; omega
  obtain ⟨x, hx, rfl⟩ := List.mem_map.1 hm
  exact absurd h4 (h2 x hx)

set_option maxRecDepth 100000 in
set_option maxHeartbeats 4000000 in
theorem opOf_any (S : ByteArray) (w : World) :
  Calls Tryz.prog 58 #[.string S] w fun e w' => e = .returned (.tuple #[.int .i64 (ofN S), .int .i64 (ofE S)]) ∧ Keep NoB w w' := by
 refine (callsIn_wide (n := 4)).1 ?_
 refine callsIn_of_wp_marks Tryz.func58 rfl trivial ?_ rfl
 simp only [Tryz.ntmps58, List.size_toArray, List.length_cons, List.length_nil, Nat.reduceAdd, Nat.reduceSub, Array.replicate_succ, Array.replicate_zero, List.push_toArray, List.append_toArray, List.nil_append, List.cons_append]
 gi_wp2
 refine V.wpIn_scope_wide ?_
 have hs := ((Blk.new w 9 #[.string S]).alloc (.cells #[.int .i64 0] 3)).alloc (.cells #[.int .i64 40] 24)
 have hn := (Blk.new (w.alloc (.cells #[.string S] 9)) 3 #[.int .i64 0]).alloc (.cells #[.int .i64 40] 24)
 have he := Blk.new ((w.alloc (.cells #[.string S] 9)).alloc (.cells #[.int .i64 0] 3)) 24 #[.int .i64 40]
 simp only [World.size_alloc] at hn he
 have hK := (((Keep.refl NoB w).alloc (.cells #[.string S] 9)).alloc (.cells #[.int .i64 0] 3)).alloc (.cells #[.int .i64 40] 24)
 have hI0 : OfI w w.heap.size (w.heap.size + 1) (w.heap.size + 1 + 1) S [] (((w.alloc (.cells #[.string S] 9)).alloc (.cells #[.int .i64 0] 3)).alloc (.cells #[.int .i64 40] 24)) := ⟨⟨hs, hn, he⟩, hK, fun x hx => by simp at hx⟩
 gi_wp2
 refine wpIn_label ?_
 gi_wp2_with (refine ⟨trivial, ?_⟩; gi_at_call 77; refine (rows_any _ _).mono ?_; rintro e w1 ⟨rfl, rfl⟩)
 clear hs hn he hK
 refine wpIn_rangeFunc_ownH rfl (by omega) (gf := 92) (lb := #[]) rfl trivial (enters_of Tryz.func92 (by kernel_rfl) rfl)
  (rows_stops _ (by omega) _) (fun _ _ => trivial) (fun _ _ _ _ _ _ _ _ => trivial) (Below.refl _ _) (fun _ => rfl)
  (OfI w w.heap.size (w.heap.size + 1) (w.heap.size + 1 + 1) S) (fun c _ W => OfX w (w.heap.size + 1) (w.heap.size + 1 + 1) S c W) (ofI_own (by simp; omega)) (fun c => ofX_own (by simp; omega) c) hI0
  (fun x a' W => ∃ Bo, Blk W Bo 82 (cells9 (rowAt (x.1 : Int))) ∧ a' = OfA S w.heap.size (w.heap.size + 1) (w.heap.size + 1 + 1) x Bo) ?hax ?assign ?body ?done ?stop
 case hax =>
  rintro x a' s X Y row ⟨Bo, h1, h2⟩ hg hrow
  exact ⟨Bo, blk_own (β := Unit) _ _ _ (fun _ => _) () _ _ _ h1 hg hrow, h2⟩
 case assign =>
  intro l pre x W K hi hK
  have HI := Lib.hid (fun W' hk => ofI_own (w := w) (bs := w.heap.size) (bn := w.heap.size + 1) (be := w.heap.size + 1 + 1) (S := S) (Nat.le_refl _) pre W W' none hi (Keep.grows hk) (fun r e => by cases e))
  have HB := Lib.hid (Blk.new W 82 (cells9 (rowAt (x.1 : Int))))
  gi_wp2
  exact hK _ _ (keepsFrom_keep ((Keep.refl NoB W).alloc _)) trivial (HI.out _ ((Keep.refl NoB W).alloc _)) ⟨_, HB.out, rfl⟩
 case body =>
  rintro l pre x a' W hl _ ⟨⟨hs, hn, he⟩, hK, hall⟩ ⟨Bo, hb, rfl⟩ _
  have cs : W.cell? ⟨w.heap.size, 0, none⟩ = some (.string S) := hs.cell 0
  have cb : W.cell? ⟨Bo, 0, none⟩ = some (.string (nm x.1)) := hb.cell 0
  have hzn := hn.lt
  have hze := he.lt
  have fn := fun i => hn.frozen i
  have fe := fun i => he.frozen i
  have cn := hn.cell 0
  have ce := he.cell 0
  dsimp only [OfA]
  by_cases hx : nm x.1 = S
  ·have hq : ((nm x.1).toList == S.toList) = true := by rw [hx]; simp
   have hn2 := (hn.put 0 (.int .i64 (x.1 : Int))).far (p := ⟨w.heap.size + 1 + 1, 0, none⟩) (by simp) (.int .i64 0)
   have he2 := (he.far (p := ⟨w.heap.size + 1, 0, none⟩) (by simp) (.int .i64 (x.1 : Int))).put 0 (.int .i64 0)
   have HX : Hid (OfX w (w.heap.size + 1) (w.heap.size + 1 + 1) S (.exit 0) ((W.setCell ⟨w.heap.size + 1, 0, none⟩ (.int .i64 (x.1 : Int))).setCell ⟨w.heap.size + 1 + 1, 0, none⟩ (.int .i64 0))) :=
    ⟨rfl, x, hx, ⟨hn2, he2⟩, (hK.setCell (fun h => absurd h (by simp)) _).setCell (fun h => absurd h (by simp; omega)) _⟩
   clear hx hs hn he hn2 he2 hK hall
   generalize nm x.1 = T at cb hq
   gi_wp2
   refine ⟨⟨?_, ?_⟩, HX.out⟩
   ·simp
   ·intro k o hk1 hk2 hk3
    have hk1' : w.heap.size + 3 ≤ k := by simp at hk1; omega
    exact ((Below.heap_setCell _ _ _ _ (by show k ≠ w.heap.size + 1 + 1; omega)).trans (Below.heap_setCell _ _ _ _ (by show k ≠ w.heap.size + 1; omega))).trans hk2
  ·have hq := nm_ne hx
   have HX : Hid (OfI w w.heap.size (w.heap.size + 1) (w.heap.size + 1 + 1) S (pre ++ [x]) W) := ⟨⟨hs, hn, he⟩, hK, fun y hy => by
    rcases List.mem_append.1 hy with h | h
    ·exact hall y h
    ·rw [List.mem_singleton.1 h]; exact hx⟩
   clear hx hs hn he hK hall
   generalize nm x.1 = T at cb hq
   gi_wp2
   exact ⟨KeepsFrom.refl _ _, trivial, HX.out⟩
 case done =>
  rintro D ys W hD hS ⟨⟨hs, hn, he⟩, hK, hall⟩ hDf
  have hf := findI_miss hS hall
  have HX : Hid (ofN S = 0 ∧ ofE S = 40) := ⟨by unfold ofN; rw [if_pos (by omega)], by unfold ofE; rw [if_pos (by omega)]⟩
  have cn : W.cell? ⟨w.heap.size + 1, 0, none⟩ = some (.int .i64 0) := hn.cell 0
  have ce : W.cell? ⟨w.heap.size + 1 + 1, 0, none⟩ = some (.int .i64 40) := he.cell 0
  have hmix : Tryz.prog.follows .mixedOrders = true := by kernel_rfl
  gi_wp2
  gi_region
  gi_wp2
  refine ⟨by simp, .inl ⟨_, _, rfl, run_takeDeferred (w := W.drew) hDf, ?_⟩⟩
  refine ⟨_, results_tmp2 rfl _ _ _, ?_, Keep_putObj hK.drew (by simp at hD; omega)⟩
  exact pr_ii HX.out.1.symm HX.out.2.symm
 case stop =>
  rintro D c pre W hD _ ⟨rfl, x, hx, ⟨hn, he⟩, hK⟩ hDf
  have hf := findI_hit x hx
  have HX : Hid (ofN S = (x.1 : Int) ∧ ofE S = 0) := ⟨by unfold ofN; rw [if_neg (by omega), hf], by unfold ofE; rw [if_neg (by omega)]⟩
  have cn : W.cell? ⟨w.heap.size + 1, 0, none⟩ = some (.int .i64 (x.1 : Int)) := hn.cell 0
  have ce : W.cell? ⟨w.heap.size + 1 + 1, 0, none⟩ = some (.int .i64 0) := he.cell 0
  have hmix : Tryz.prog.follows .mixedOrders = true := by kernel_rfl
  gi_wp2
  gi_region
  gi_wp2
  refine ⟨by simp, .inl ⟨_, _, rfl, run_takeDeferred (w := W.drew) hDf, ?_⟩⟩
  refine ⟨_, results_tmp2 rfl _ _ _, ?_, Keep_putObj hK.drew (by simp at hD; omega)⟩
  exact pr_ii HX.out.1.symm HX.out.2.symm

end Go.Proofs.YtghdibbooegocaaGreatDoor.O

namespace Go.Proofs.YtghdibbooegocaaGreatDoor.O
open Go.RowKit

theorem ka_cases (op : Int) : (rowAt op).ka = 0 ∨ digK (rowAt op).ka = true ∨ (wordK (rowAt op).ka = true ∧ (rowAt op).kb = 0) := by
 have := rowAt_all (p := fun r => decide (r.ka = 0 ∨ digK r.ka = true ∨ (wordK r.ka = true ∧ r.kb = 0))) (by decide) (by decide) op
 simpa using this

theorem guess_any (op : Int) (S : ByteArray) (s : List UInt8) (w : World) (hs : S.data.toList = s) (hl : S.size ≤ 200000) (hL : LaidO w) (hC : CutAt w) :
  Calls Tryz.prog 59 #[.int .i64 op, .string S] w fun e w' => e = .returned (instV op (gA op s) (gB op s)) ∧ Keep NoB w w' := by
 have hk := kinds_ok op
 have HK := Lib.hid (fun w => kinds_any op w)
 have eA : gA op s = if (rowAt op).ka = 0 then 0 else gK (rowAt op).ka (Lib.cut s [32]).1 := rfl
 have eB : gB op s = if (rowAt op).kb = 0 then 0 else gK (rowAt op).kb (Lib.cut s [32]).2.1 := rfl
 rcases ka_cases op with h0 | hd | ⟨hw, h1⟩
 ·have h1 := kinds_none op h0
  rw [if_pos h0] at eA
  rw [if_pos h1] at eB
  exact guess_00 op (rowAt op).ka (rowAt op).kb _ _ S s w hs hl hL hC HK eA eB h0 h1
 ·have h0 := dig_0 hd
  rw [if_neg h0] at eA
  rcases kb_cases op with h1 | h3
  ·rw [if_pos h1] at eB
   exact guess_d0 op (rowAt op).ka (rowAt op).kb _ _ S s w hs hl hL hC HK eA eB h0 h1 ⟨hd, hk.1, hk.2.1⟩
  ·have h1 : (rowAt op).kb ≠ 0 := by omega
   rw [if_neg h1] at eB
   exact guess_dw op (rowAt op).ka (rowAt op).kb _ _ S s w hs hl hL hC HK eA eB h0 h1 ⟨hd, hk.1, hk.2.1⟩ ⟨by rw [h3]; decide, hk.2.2.1, hk.2.2.2⟩
 ·have h0 := word_0 hw
  rw [if_neg h0] at eA
  rw [if_pos h1] at eB
  exact guess_w0 op (rowAt op).ka (rowAt op).kb _ _ S s w hs hl hL hC HK eA eB h0 h1 ⟨hw, hk.1, hk.2.1⟩

theorem eq_text {S : ByteArray} {s t : List UInt8} (hs : S.data.toList = s) : ((str t).toList == S.toList) = decide (t = s) := by
 rw [ByteArray.toList_eq, ByteArray.toList_eq, hs, str_list]
 by_cases h : t = s
 ·subst h; simp
 ·simp [h]
theorem out3N {w w1 : World} {B : Nat} (hk : Keep NoB w w1) (hB : w.heap.size ≤ B) (u0 u1 u2 : Value) : Keep NoB w (((w1.setCell ⟨B, 0, none⟩ u0).setCell ⟨B, 1, none⟩ u1).setCell ⟨B, 2, none⟩ u2) := by
 have hn : ∀ i, (⟨B, i, none⟩ : Addr).block < w.heap.size → NoB (⟨B, i, none⟩ : Addr).block := fun i hl => by have : B < w.heap.size := hl; omega
 exact ((hk.setCell (hn 0) _).setCell (hn 1) _).setCell (hn 2) _

set_option maxRecDepth 100000 in
set_option maxHeartbeats 2000000 in
theorem read_text (S : ByteArray) (s : List UInt8) (w : World) (hs : S.data.toList = s) (hl : S.size ≤ 200000) (hL : LaidO w) (hC : CutAt w) :
  Calls Tryz.prog 43 #[.string S] w fun e w' => ∃ v, e = .returned v ∧ ReadV s v ∧ Keep NoB w w' := by
 have hK := (Keep.refl NoB w).alloc (.cells #[.int .i64 0, .int .i64 0, .int .i64 0] 45)
 have bo := Blk.new w 45 #[.int .i64 0, .int .i64 0, .int .i64 0]
 have HL := Lib.hid hL
 have HCt := Lib.hid (cut_any S s _ hs hl (hC.keep hK))
 have HC := Lib.hid hC
 have hcl := Lib.hid (cut_len s)
 have hsz : Hid (S.size = s.length) := Lib.hid (_root_.Go.Proofs.YtghdibbooegocaaGreatDoor.W.size_of hs)
 have hl := Lib.hid hl
 have HN := Lib.hid (fun h => read_nameless (s := s) h)
 have HY := Lib.hid (fun op a b h1 h2 h3 => read_yes (s := s) (op := op) (a := a) (b := b) h1 h2 h3)
 have HM := Lib.hid (fun op h1 h2 => read_miss (s := s) (op := op) h1 h2)
 have HE := Lib.hid (fun t => eq_text (t := t) hs)
 clear hL hC hs
 generalize (Lib.cut s [32]).1 = s1 at *
 generalize (Lib.cut s [32]).2.1 = s2 at *
 have HO := Lib.hid (fun w => opOf_any (str s1) w)
 rcases findI_spec (str s1) with ⟨hf, _⟩ | ⟨ho, hn⟩
 ·have HX : Hid (ofN (str s1) = 0 ∧ ofE (str s1) = 40) := ⟨by unfold ofN; rw [if_pos (by omega)], by unfold ofE; rw [if_pos (by omega)]⟩
  have HR := Lib.hid (HN.out (by omega))
  rw [HX.out.1, HX.out.2] at HO
  clear hf HX HN HY HM HE
  go_enter Tryz.func43, Tryz.ntmps43
  go_wp2_with fail
  refine HCt.out.mono ?_
  rintro e w1 ⟨bb, rfl, k1⟩
  replace hK := keepN hK k1
  replace bo := bo.keep k1 id
  clear k1
  go_wp2_with fail
  refine (HO.out _).mono ?_
  rintro e w2 ⟨rfl, k1⟩
  replace hK := keepN hK k1
  replace bo := bo.keep k1 id
  clear k1
  have hz := bo.lt
  have fo := fun i => bo.frozen i
  obtain ⟨o0, o1, o2⟩ := blk_inst bo
  go_wp2
  exact bodyPost_ret (v := .tuple #[instV 0 0 0, .int .i64 40]) (by simp [results, Tryz.results43, go_sem, o0, o1, o2]) rfl ⟨_, rfl, HR.out, out3N hK (Nat.le_refl _) _ _ _⟩
 ·have hb := isOp_yes ho
  have HX : Hid (ofN (str s1) = findI (str s1) ∧ ofE (str s1) = 0) := ⟨by unfold ofN; rw [if_neg (by omega)], by unfold ofE; rw [if_neg (by omega)]⟩
  rw [HX.out.1, HX.out.2] at HO
  obtain ⟨op, hop⟩ : ∃ op, findI (str s1) = op := ⟨_, rfl⟩
  rw [hop] at HO ho hn
  have HG := Lib.hid (fun w hL hC => guess_any op (str s2) s2 w (str_list _) (by rw [str_size]; have := hcl.out; have := hsz.out; have := hl.out; omega) hL hC)
  have HS := Lib.hid (fun w hL => show_any op (gA op s2) (gB op s2) w (gA_bounds op s2) (gB_bounds op s2) hL)
  have HY := Lib.hid (HY.out op (gA op s2) (gB op s2) ho hn)
  have HM := Lib.hid (HM.out op hop)
  have HE := Lib.hid (HE.out (showI op (gA op s2) (gB op s2)))
  clear HX HN hb hop ho hn hcl hsz hl
  generalize gA op s2 = a at *
  generalize gB op s2 = b at *
  generalize showI op a b = t at *
  by_cases ht : t = s
  ·have hq : ((str t).toList == S.toList) = true := by rw [HE.out]; simpa using ht
   have HR := Lib.hid (HY.out ht)
   clear HE HM HY ht
   generalize str t = T at *
   go_enter Tryz.func43, Tryz.ntmps43
   go_wp2_with fail
   refine HCt.out.mono ?_
   rintro e w1 ⟨bb, rfl, k1⟩
   replace hK := keepN hK k1
   replace bo := bo.keep k1 id
   clear k1
   go_wp2_with fail
   refine (HO.out _).mono ?_
   rintro e w2 ⟨rfl, k1⟩
   replace hK := keepN hK k1
   replace bo := bo.keep k1 id
   clear k1
   go_wp2_with fail
   refine (HG.out _ (HL.out.keep hK) (HC.out.keep hK)).mono ?_
   rintro e w3 ⟨rfl, k1⟩
   replace hK := (keepN hK k1).alloc (.cells #[.int .i64 op, .int .i64 a, .int .i64 b] 45)
   replace bo := (bo.keep k1 id).alloc (.cells #[.int .i64 op, .int .i64 a, .int .i64 b] 45)
   have bx := Blk.new w3 45 #[.int .i64 op, .int .i64 a, .int .i64 b]
   clear k1
   go_wp2_with fail
   refine (HS.out _ (HL.out.keep hK)).mono ?_
   rintro e w4 ⟨rfl, k1⟩
   replace hK := keepN hK k1
   replace bo := bo.keep k1 id
   replace bx := bx.keep k1 id
   clear k1
   have hz := bo.lt
   have fo := fun i => bo.frozen i
   obtain ⟨o0, o1, o2⟩ := blk_inst bo
   obtain ⟨x0, x1, x2⟩ := blk_inst bx
   go_wp2
   exact bodyPost_ret (v := .tuple #[instV op a b, .int .i64 0]) (by simp [results, Tryz.results43, go_sem, o0, o1, o2]) rfl ⟨_, rfl, HR.out, out3N hK (Nat.le_refl _) _ _ _⟩
  ·have hq : ((str t).toList == S.toList) = false := by rw [HE.out]; simpa using ht
   have HR := Lib.hid (HM.out ht)
   clear HE HM HY ht
   generalize str t = T at *
   go_enter Tryz.func43, Tryz.ntmps43
   go_wp2_with fail
   refine HCt.out.mono ?_
   rintro e w1 ⟨bb, rfl, k1⟩
   replace hK := keepN hK k1
   replace bo := bo.keep k1 id
   clear k1
   go_wp2_with fail
   refine (HO.out _).mono ?_
   rintro e w2 ⟨rfl, k1⟩
   replace hK := keepN hK k1
   replace bo := bo.keep k1 id
   clear k1
   go_wp2_with fail
   refine (HG.out _ (HL.out.keep hK) (HC.out.keep hK)).mono ?_
   rintro e w3 ⟨rfl, k1⟩
   replace hK := (keepN hK k1).alloc (.cells #[.int .i64 op, .int .i64 a, .int .i64 b] 45)
   replace bo := (bo.keep k1 id).alloc (.cells #[.int .i64 op, .int .i64 a, .int .i64 b] 45)
   clear k1
   go_wp2_with fail
   refine (HS.out _ (HL.out.keep hK)).mono ?_
   rintro e w4 ⟨rfl, k1⟩
   replace hK := keepN hK k1
   replace bo := bo.keep k1 id
   clear k1
   have hz := bo.lt
   have fo := fun i => bo.frozen i
   obtain ⟨o0, o1, o2⟩ := blk_inst bo
   go_wp2
   exact bodyPost_ret (v := .tuple #[instV 0 0 0, .int .i64 40]) (by simp [results, Tryz.results43, go_sem, o0, o1, o2]) rfl ⟨_, rfl, HR.out, out3N hK (Nat.le_refl _) _ _ _⟩

end Go.Proofs.YtghdibbooegocaaGreatDoor.O

namespace Go.Proofs.YtghdibbooegocaaGreatDoor.O
open Go.RowKit

theorem partL_len (k n : Int) (hn : I64 n) : (partL k n).length ≤ 22 := by
 unfold partL
 have := word_len k n hn
 split
 ·simp
 ·simp; omega
theorem textI_len (op a b : Int) (ha : I64 a) (hb : I64 b) : (textI op a b).length ≤ 51 := by
 unfold textI
 have h1 := name_len op
 have h2 := partL_len (rowAt op).ka a ha
 have h3 := partL_len (rowAt op).kb b hb
 simp
 omega
theorem read_own (op a b : Int) (w : World) (hok : okI op a b = true) (ha : I64 a) (hb : I64 b) (hL : LaidO w) (hC : CutAt w) :
  Calls Tryz.prog 43 #[.string (str (textI op a b))] w fun e w' => e = .returned (.tuple #[instV op a b, .int .i64 0]) ∧ Keep NoB w w' := by
 have hl := textI_len op a b ha hb
 refine (read_text (str (textI op a b)) (textI op a b) w (str_list _) (by rw [str_size]; omega) hL hC).mono ?_
 rintro e w' ⟨v, rfl, hv, hk⟩
 rw [readV_one hv (.inl ⟨op, a, b, hok, rfl, rfl⟩)]
 exact ⟨rfl, hk⟩
end Go.Proofs.YtghdibbooegocaaGreatDoor.O

namespace Go.Proofs.YtghdibbooegocaaGreatDoor.G
open Go.RowKit O

theorem instr_info : (Tryz.prog.info? 45).map (fun i => (i.zero, i.size, i.bytes)) = some (some (.agg #[.int .i64 0, .int .i64 0, .int .i64 0]), 3, 24) := by kernel_rfl
theorem ok1_I {x : C.I3} (h : C.ok1 x = true) : O.I64 x.2.1 ∧ O.I64 x.2.2 := ⟨(in_bounds (O.ok_op h).2.1).1, (in_bounds (O.ok_op h).2.2).1⟩
def txI (x : C.I3) : List UInt8 := textI x.1 x.2.1 x.2.2
def txs (l : List C.I3) : List Value := l.map fun x => .string (str (txI x))
theorem read1 (op a b : Int) (w : World) (h : C.ok1 (op, a, b) = true) (hL : LaidO w) (hC : CutAt w) :
  Calls Tryz.prog 43 #[.string (str (txI (op, a, b)))] w fun e w' => e = .returned (.tuple #[instV op a b, .int .i64 0]) ∧ Keep NoB w w' :=
 O.read_own op a b w h (ok1_I h).1 (ok1_I h).2 hL hC

set_option maxRecDepth 100000 in
set_option maxHeartbeats 4000000 in
theorem texts_any (l : List C.I3) (n : Nat) (B : Option Addr) (c : Nat) (w : World) (hr : Rd w B (txs l)) (hok : Hid (∀ x ∈ l, C.ok1 x = true)) (hn : Hid (l.length = n)) (hm : n ≤ 1000) (hL : LaidO w) (hC : CutAt w) :
  Calls Tryz.prog 25 #[.slice B n c] w fun e w' => ∃ v, e = .returned v ∧ Own w' 45 3 (Fresh w) v n (C.iis l) ∧ Keep NoB w w' := by
 obtain ⟨i0, hi, hz0, hz1, hz2⟩ := info_parts instr_info
 have HR := Lib.hid hr
 have HL := Lib.hid hL
 have HC := Lib.hid hC
 clear hr hL hC
 go_enter Tryz.func25, Tryz.ntmps25
 go_wp2
 go_loopw [3, 10] (fun v i wr => ∃ k : Nat, k ≤ n ∧ i = .int .i64 k ∧ (∃ B d, v = .slice B k d ∧ Own wr 45 3 (Fresh w) (.slice B k d) k (C.iis (l.take k))) ∧ Keep NoB w wr) (fun _ i _ => n - (intOf i).toNat)
 case atStart => exact ⟨0, Nat.zero_le _, rfl, ⟨none, 0, rfl, Own.nil _ _ _ _⟩, Keep.refl _ _⟩
 case round =>
  obtain ⟨k, hk, rfl, ⟨D, d, rfl, hO⟩, hK⟩ := hrel
  by_cases hlt : k < n
  ·have hkl : k < l.length := by rw [hn.out]; exact hlt
   have hR := HR.out.keepN hK
   obtain ⟨g, off, rfl, hc⟩ := hR (by unfold txs; rw [List.length_map]; omega)
   have c0 := hc k (.string (str (txI l[k]))) (by unfold txs; rw [List.getElem?_map, List.getElem?_eq_getElem hkl]; rfl)
   have hT := List.take_succ_eq_append_getElem hkl
   have ho := hok.out l[k] (List.getElem_mem hkl)
   clear hc hR
   generalize l[k] = x at c0 hT ho
   obtain ⟨op, a, b⟩ := x
   have HE := Lib.hid (fun w hL hC => read1 op a b w ho hL hC)
   have hLr := HL.out.keep hK
   have hCr := HC.out.keep hK
   have HX : Hid (C.iis (l.take (k + 1)) = C.iis (l.take k) ++ [.int .i64 op, .int .i64 a, .int .i64 b]) := by show _ = _; rw [hT, C.iis_append]; rfl
   generalize str (txI (op, a, b)) = S at c0 HE
   clear hT ho
   go_wp2_with fail
   refine (HE.out _ hLr hCr).mono ?_
   rintro e w4 ⟨rfl, k4⟩
   have hO4 := (hO.keepN k4).keepN ((Keep.refl NoB w4).alloc (.cells #[.int .i64 op, .int .i64 a, .int .i64 b] 45))
   have hK4 := (keepN hK k4).alloc (.cells #[.int .i64 op, .int .i64 a, .int .i64 b] 45)
   clear hO hK k4 c0 hLr hCr
   go_wp2_with (at_builtin; refine wpList_append_rd _ rfl (.tmp 21) (.tmp 23) _ rfl 45 3 24 i0 _ Tryz.underlying22 hi hz0 hz1 hz2 rfl (by decide) _ k _ _ 1 _ [.int .i64 op, .int .i64 a, .int .i64 b] rfl (hO4.1.alloc _) rfl (W.rd_made (by simp) rfl) rfl (by simp [Value.oneCell']) (by unfold maxLen; omega) (by omega) ?_; intro B5 d5 w5 hrow5 hg5 hv5; obtain ⟨hO5, hK5⟩ := W.own_after hO4.2 (hK4.alloc _) hg5 hv5 hrow5; clear hrow5 hg5 hv5)
   go_roundw
   case rel => exact ⟨k + 1, by omega, by go_num, ⟨B5, d5, rfl, by rw [HX.out]; exact hO5⟩, hK5⟩
   case measure => simp [intOf]; omega
  ·obtain rfl : k = n := by omega
   rw [List.take_of_length_le (by rw [hn.out]; exact Nat.le_refl _)] at hO
   go_wp2
   go_ret
   exact ⟨_, rfl, hO, hK⟩


theorem of_call (l : List C.I3) (n b c : Nat) (vs : Array Value) (E : TypeId) (w W : World) (hW : W = w.alloc (.cells vs E)) (hb : b = w.heap.size) (he : txs l = vs.toList) (hn : l.length = n) (hok : ∀ x ∈ l, C.ok1 x = true) (hm : n ≤ 1000) (hL : LaidO w) (hC : CutAt w) :
  Calls Tryz.prog 25 #[.slice (some ⟨b, 0, none⟩) n c] W fun e w' => ∃ v, e = .returned v ∧ Own w' 45 3 (Fresh w) v n (C.iis l) ∧ Keep NoB w w' := by
 subst hW
 have hk := (Keep.refl NoB w).alloc (.cells vs E)
 refine (texts_any l n _ c _ (W.rd_made hb he) hok hn hm (hL.keep hk) (hC.keep hk)).mono ?_
 rintro e w' ⟨v, rfl, ho, k1⟩
 exact ⟨v, rfl, ho.mono (fun k hf _ => Nat.le_trans hk.size hf), keepN hk k1⟩

end Go.Proofs.YtghdibbooegocaaGreatDoor.G

namespace Go.Proofs.YtghdibbooegocaaGreatDoor.G
open Go.RowKit W

section
variable {l : List C.I3}
theorem way_none {a0 : Int} (h : ¬ ∃ a : Nat, (a : Int) = a0 ∧ nB l ≠ 0 ∧ ∃ t, Way (stepsG l) [0] a t) : atN l a0 = none := by
 cases hat : atN l a0 with
 | none => rfl
 | some a =>
  obtain ⟨rfl, ha⟩ := atN_some hat
  have h0 : nB l ≠ 0 := by have := reach_nB ha; omega
  exact absurd ⟨a, rfl, h0, (reach_iff (nB_pos h0)).1 ha⟩ h
theorem way_reach {a : Nat} {t : List Nat} (h0 : nB l ≠ 0) (hw : Way (stepsG l) [0] a t) : a ∈ reachL l := (reach_iff (nB_pos h0)).2 ⟨t, hw⟩
theorem way_ok {a : Nat} {t : List Nat} (h0 : nB l ≠ 0) (hw : Way (stepsG l) [0] a t) : ∀ y ∈ t, OkN l.length (-1) y := fun y hy => ⟨way_lt (nB_pos h0) (zero_src (nB_pos h0)) hw y hy, by omega⟩
theorem way_dist {a : Nat} {t : List Nat} (h0 : nB l ≠ 0) (hw : Way (stepsG l) [0] a t) (hm : ∀ u, Way (stepsG l) [0] a u → t.length ≤ u.length) : distL l a = ((t.length - 1 : Nat) : Int) := by
 have hp := hw.pos
 have hal := reach_lt (nB_pos h0) (way_reach h0 hw)
 rw [dist_iff (nB_pos h0) hal]
 exact ⟨⟨t, hw, by omega, way_ok h0 hw⟩, fun u hu _ => by have := hm u hu; omega⟩
theorem way_nodup {a : Nat} {t : List Nat} (hw : Way (stepsG l) [0] a t) (hm : ∀ u, Way (stepsG l) [0] a u → t.length ≤ u.length) : t.Nodup :=
 dist_nodup (ok := fun _ => True) t hw (fun _ _ => trivial) fun u hu _ => hm u hu
end

set_option maxRecDepth 100000 in
set_option maxHeartbeats 4000000 in
theorem fDistance_any (A : Option Addr) (l : List C.I3) (n c : Nat) (a0 : Int) (w : World) (hr : Rd w A (C.iis l)) (hn : Hid (l.length = n)) (hm : n ≤ 9223372036854775807) (ha0 : (Lit.int .i64 a0).wf = true) :
  Calls Tryz.prog 12 #[.slice A n c, .int .i64 a0] w fun e w' => e = .returned (.tuple #[.int .i64 (distI l a0), .int .i64 (errI l a0)]) ∧ Keep NoB w w' := by
 have HS := Lib.hid (stepsOf_any A l n c w hr hn hm)
 clear hr hn
 go_enter Tryz.func12, Tryz.ntmps12
 go_wp2_with fail
 refine HS.out.mono ?_
 rintro e w1 hS
 obtain ⟨k1, A1, Bf, cf, c1, rfl, hst⟩ := hS.one
 have HW := Lib.hid (way_any A1 _ Bf cf (nB l) c1 (stepsG l) a0 w1 hst ha0 (by have := nB_le (l := l); omega) nB_steps nB_len)
 clear HS hS hst
 go_wp2_with fail
 refine HW.out.mono ?_
 rintro e w2 ⟨k2, ⟨hno, rfl⟩ | ⟨a, wl, B, cB, rfl, h0, rfl, hrd, hw, hmin⟩⟩
 ·have hat := way_none hno
  have HE : Hid (distI l a0 = 0 ∧ errI l a0 = 110) := ⟨by unfold distI; rw [hat], by unfold errI; rw [hat]; rfl⟩
  have k12 := keepN k1 k2
  clear HW hno hat k1 k2
  go_wp2
  go_ret2
  rw [HE.out.1, HE.out.2]
  exact ⟨rfl, k12⟩
 ·have hat := atN_of (way_reach h0 hw)
  have hd := way_dist h0 hw (fun u hu => by rw [List.length_reverse]; exact hmin u hu)
  rw [List.length_reverse] at hd
  have hp := hw.pos
  rw [List.length_reverse] at hp
  have HE : Hid (distI l (a : Int) = ((wl.length - 1 : Nat) : Int) ∧ errI l (a : Int) = 0) := ⟨by unfold distI; rw [hat]; exact hd, by unfold errI; rw [hat]; rfl⟩
  have hwn : wl.length ≤ nB l := by
   have hnd := way_nodup hw (fun u hu => by rw [List.length_reverse]; exact hmin u hu)
   have := nodup_len (nB l) wl.reverse hnd fun x hx => by
    have := (way_ok h0 hw x hx).1
    rw [nB_ok (nB_pos h0)]; exact this
   rwa [List.length_reverse] at this
  have hnb := nB_le (l := l)
  have k12 := keepN k1 k2
  obtain ⟨ln, hln⟩ : ∃ ln, wl.length = ln := ⟨_, rfl⟩
  rw [hln] at HE hp hwn ⊢
  have q1 : ((ln : Int) == 0) = false := by rw [beq_eq_false_iff_ne]; omega
  clear HW hat hd hw hmin hrd hln k1 k2 h0
  go_wp2
  go_ret2
  rw [HE.out.1, HE.out.2]
  refine ⟨?_, k12⟩
  rw [show ((ln - 1 : Nat) : Int) = (ln : Int) - 1 by omega]
  try rfl

set_option maxRecDepth 100000 in
set_option maxHeartbeats 4000000 in
theorem fMust_any (A : Option Addr) (l : List C.I3) (n c : Nat) (a0 : Int) (w : World) (hr : Rd w A (C.iis l)) (hn : Hid (l.length = n)) (hm : n ≤ 9223372036854775807) (ha0 : (Lit.int .i64 a0).wf = true) :
  Calls Tryz.prog 14 #[.slice A n c, .int .i64 a0] w (TupR w (mustI l a0) (errI l a0)) := by
 have HS := Lib.hid (stepsOf_any A l n c w hr hn hm)
 clear hr hn
 go_enter Tryz.func14, Tryz.ntmps14
 go_wp2_with fail
 refine HS.out.mono ?_
 rintro e w1 hS
 obtain ⟨k1, A1, Bf, cf, c1, rfl, hst⟩ := hS.one
 have HW := Lib.hid (way_any A1 _ Bf cf (nB l) c1 (stepsG l) a0 w1 hst ha0 (by have := nB_le (l := l); omega) nB_steps nB_len)
 have HST := Lib.hid hst
 clear HS hS hst
 go_wp2_with fail
 refine HW.out.mono ?_
 rintro e w2 ⟨k2, ⟨hno, rfl⟩ | ⟨a, wl, B, cB, rfl, h0, rfl, hrd, hw, hmin⟩⟩
 ·have hat := way_none hno
  have HE : Hid (mustI l a0 = [] ∧ errI l a0 = 110) := ⟨by unfold mustI; rw [hat], by unfold errI; rw [hat]; rfl⟩
  have k12 := keepN k1 k2
  clear HW hno hat k1 k2 HST
  go_wp2
  go_ret2
  rw [HE.out.1, HE.out.2]
  exact ⟨none, 0, rfl, Rd.none_ _ _, k12⟩
 ·have har := way_reach h0 hw
  have hat := atN_of har
  have HE : Hid (mustI l (a : Int) = mustL l a ∧ errI l (a : Int) = 0) := ⟨by unfold mustI; rw [hat], by unfold errI; rw [hat]; rfl⟩
  have hnd := way_nodup hw (fun u hu => by rw [List.length_reverse]; exact hmin u hu)
  have hpath : Path (stepsG l) wl 0 a := by have := path_of hw hnd; rwa [List.reverse_reverse] at this
  have hwl : ∀ y ∈ wl, y < nB l := fun y hy => by
   have := (way_ok h0 hw y (List.mem_reverse.2 hy)).1
   rw [nB_ok (nB_pos h0)]; exact this
  have hwn : wl.length ≤ nB l := nodup_len (nB l) wl hpath.nodup hwl
  have hnb := nB_le (l := l)
  have hp := hpath.pos
  have hmu : ∀ y, decide (y ∈ mustL l a) = true ↔ Must (stepsG l) [0] a y := fun y => by rw [decide_eq_true_iff]; exact must_mem (nB_pos h0) har
  have HN := Lib.hid (narrows_any A1 _ Bf cf (nB l) c1 (stepsG l) B wl.length cB a wl (fun y => decide (y ∈ mustL l a)) w2 (HST.out.keepN k2) hrd rfl hpath hwl (by omega) nB_steps nB_len hmu)
  have HX : Hid (sortL (nz (wl.filter fun y => decide (y ∈ mustL l a))) = nz (mustL l a) ∧ (wl.filter fun y => decide (y ∈ mustL l a)).length = (mustL l a).length) := by
   have h1 := nz_sort (l := wl.filter fun y => decide (y ∈ mustL l a)) (t := mustL l a) (hpath.nodup.filter _) (by unfold mustL; exact List.Pairwise.filter _ rise_filter) fun y => by
    rw [List.mem_filter, decide_eq_true_iff]
    exact ⟨fun h => h.2, fun h => ⟨by have := (must_mem (nB_pos h0) har).1 h _ hw; exact List.mem_reverse.1 this, h⟩⟩
   refine ⟨h1, ?_⟩
   have := congrArg List.length h1
   rw [List.length_mergeSort, nz_len, nz_len] at this
   exact this
  have k12 := keepN k1 k2
  have hfl : (wl.filter fun y => decide (y ∈ mustL l a)).length ≤ wl.length := List.length_filter_le _ _
  obtain ⟨ln, hln⟩ : ∃ ln, wl.length = ln := ⟨_, rfl⟩
  rw [hln] at HN hp hwn hfl ⊢
  generalize (wl.filter fun y => decide (y ∈ mustL l a)) = F at HN HX hfl
  have q1 : ((ln : Int) == 0) = false := by rw [beq_eq_false_iff_ne]; omega
  clear HW hat hw hmin hrd hln k1 k2 h0 hnd hpath hwl hmu har HST
  go_wp2_with fail
  refine HN.out.mono ?_
  rintro e w3 ⟨v, rfl, hO, k3⟩
  have HSo := Lib.hid (sort_any (w := w2) (zs := nz F) (by rw [nz_len]; exact hO) k3 (by rw [nz_len]; omega))
  obtain ⟨B3, c3, rfl⟩ := own_form hO.1
  clear HN hO k3
  go_wp2_with fail
  refine HSo.out.mono ?_
  rintro e w5 ⟨rfl, hO5, k5⟩
  have HF := Lib.hid (And.intro hO5 (keepN k12 k5))
  clear hO5 k5 HSo
  go_wp2
  go_ret2
  obtain ⟨hO5, k5⟩ := HF.out
  rw [HX.out.1] at hO5
  rw [HE.out.1, HE.out.2]
  obtain ⟨A5, c5, he5, _, _, hrd, _⟩ := hO5.form
  injection he5 with e1 e2 e3
  subst e1
  exact ⟨B3, c3, by rw [← HX.out.2]; rfl, hrd, k5⟩
end Go.Proofs.YtghdibbooegocaaGreatDoor.G

namespace Go.Proofs.YtghdibbooegocaaGreatDoor.G
open Go.RowKit W

def inN (l : List C.I3) (a0 : Int) : Option Nat := if 0 ≤ a0 ∧ a0 < (l.length : Int) ∧ C.okB l = true then some a0.toNat else none
def behI (l : List C.I3) (a0 : Int) : List Nat := match inN l a0 with
 | some a => stepsG l a
 | none => []
def errB (l : List C.I3) (a0 : Int) : Int := if (inN l a0).isSome = true then 0 else 110
theorem inN_none {l : List C.I3} {a0 : Int} (h : ¬ (0 ≤ a0 ∧ a0 < (l.length : Int) ∧ C.okB l = true)) : behI l a0 = [] ∧ errB l a0 = 110 := by
 have : inN l a0 = none := if_neg h
 exact ⟨by unfold behI; rw [this], by unfold errB; rw [this]; rfl⟩
theorem inN_some {l : List C.I3} {a : Nat} (h : a < l.length) (ho : C.okB l = true) : behI l (a : Int) = stepsG l a ∧ errB l (a : Int) = 0 := by
 have : inN l (a : Int) = some a := by
  unfold inN
  rw [if_pos ⟨by omega, by omega, ho⟩]
  simp
 exact ⟨by unfold behI; rw [this], by unfold errB; rw [this]; rfl⟩

set_option maxRecDepth 100000 in
set_option maxHeartbeats 4000000 in
theorem fBehind_any (A : Option Addr) (l : List C.I3) (n c : Nat) (a0 : Int) (w : World) (hr : Rd w A (C.iis l)) (hn : Hid (l.length = n)) (hm : n ≤ 9223372036854775807) :
  Calls Tryz.prog 8 #[.slice A n c, .int .i64 a0] w (TupR w (behI l a0) (errB l a0)) := by
 by_cases h0 : a0 < 0
 ·have HE := Lib.hid (inN_none (l := l) (a0 := a0) (fun h => by omega))
  clear hr hn
  go_enter Tryz.func8, Tryz.ntmps8
  go_wp2_with fail
  go_ret2
  rw [HE.out.1, HE.out.2]
  exact ⟨none, 0, rfl, Rd.none_ _ _, Keep.refl _ _⟩
 by_cases h1 : (n : Int) ≤ a0
 ·have HE := Lib.hid (inN_none (l := l) (a0 := a0) (fun h => by rw [hn.out] at h; omega))
  clear hr hn
  go_enter Tryz.func8, Tryz.ntmps8
  go_wp2_with fail
  go_ret2
  rw [HE.out.1, HE.out.2]
  exact ⟨none, 0, rfl, Rd.none_ _ _, Keep.refl _ _⟩
 cases ho : C.okB l with
 | false =>
  have HE := Lib.hid (inN_none (l := l) (a0 := a0) (fun h => by rw [ho] at h; cases h.2.2))
  have HC := Lib.hid (C.cchk_any A l n c w hr hn hm 50 (C.chkB_no ho))
  clear hr hn ho
  go_enter Tryz.func8, Tryz.ntmps8
  go_wp2_with fail
  refine HC.out.mono ?_
  rintro e w1 ⟨rfl, k1⟩
  go_wp2
  go_ret2
  rw [HE.out.1, HE.out.2]
  exact ⟨none, 0, rfl, Rd.none_ _ _, k1⟩
 | true =>
  obtain ⟨a, rfl⟩ : ∃ a : Nat, a0 = (a : Int) := ⟨a0.toNat, by omega⟩
  have hal : a < l.length := by rw [hn.out]; omega
  have HE := Lib.hid (inN_some hal ho)
  have hle := (C.okB_parts ho).2.1
  obtain ⟨g0, off, rfl, hc⟩ := C.rdJ_at hr (by omega)
  have HC := Lib.hid (C.cchk_any _ l n c w hr hn hm 0 (C.chkB_ok ho))
  obtain ⟨d0, d1, d2⟩ := hc a hal
  have HX := Lib.hid (steps_at (List.getElem?_eq_getElem hal))
  clear hc hr
  generalize l[a] = x at d0 d1 d2 HX
  obtain ⟨op, y, z⟩ := x
  dsimp only at d0 d1 d2
  have HBe := Lib.hid (fun w => behind_any (op, y, z) a w (by omega))
  dsimp only at HBe
  have han : a < n := by rw [← hn.out]; exact hal
  clear ho hle hal hn
  go_enter Tryz.func8, Tryz.ntmps8
  go_wp2_with fail
  refine HC.out.mono ?_
  rintro e w1 ⟨rfl, k1⟩
  have c0 := k1.cell d0 id
  have c1 := k1.cell d1 id
  have c2 := k1.cell d2 id
  clear d0 d1 d2 HC
  go_wp2_with fail
  refine (HBe.out _).mono ?_
  rintro e w2 ⟨B, cB, rfl, hrd, _, k2⟩
  have HF := Lib.hid (And.intro hrd (keepN k1 k2))
  clear hrd k1 k2 c0 c1 c2 HBe
  go_wp2
  go_ret2
  rw [HE.out.1, HE.out.2, HX.out]
  exact ⟨B, cB, rfl, HF.out.1, HF.out.2⟩
end Go.Proofs.YtghdibbooegocaaGreatDoor.G

namespace Go.Proofs.YtghdibbooegocaaGreatDoor.G
open Go.RowKit O

def xS : List C.I3 := [(19, 3, 0), (0, 0, 0), (18, 0, 0), (29, 0, 0), (27, 0, 0), (0, 0, 0), (24, 0, 0)]
theorem xS_txs : txs xS = [.string ⟨#[106, 122, 32, 51]⟩, .string ⟨#[110, 111, 112]⟩, .string ⟨#[106, 109, 112, 32, 48]⟩, .string ⟨#[105, 110]⟩, .string ⟨#[103, 111, 101, 120, 105, 116]⟩, .string ⟨#[110, 111, 112]⟩, .string ⟨#[114, 101, 116]⟩] := by kernel_rfl
theorem xS_ok : ∀ x ∈ xS, C.ok1 x = true := List.all_eq_true.1 (show xS.all C.ok1 = true by kernel_rfl)
def LstR (l : List C.I3) (w : World) (e : Ending) (w' : World) : Prop := ∃ B c, e = .returned (.slice B l.length c) ∧ Rd w' B (C.iis l) ∧ Keep NoB w w'
theorem some_any (w : World) (hL : LaidO w) (hC : CutAt w) : Calls Tryz.prog 24 #[] w (LstR xS w) := by
 have HE := Lib.hid (fun (W : World) hW => of_call xS 7 w.heap.size 7 _ 9 w W hW rfl xS_txs rfl xS_ok (by decide) hL hC)
 clear hL hC
 go_enter Tryz.func24, Tryz.ntmps24
 go_wp2_with fail
 refine (HE.out _ rfl).mono ?_
 rintro e w1 ⟨v, rfl, hO, k1⟩
 obtain ⟨B, c, rfl⟩ := own_form hO.1
 obtain ⟨A2, c2, hv, hy1, hy2, hrd, hy3⟩ := hO.form
 injection hv with e1 e2 e3
 subst e1
 have HF := Lib.hid (And.intro hrd k1)
 clear hO hrd k1 hy1 hy2 hy3 e2 e3 HE
 go_wp2
 go_ret
 exact ⟨B, c, rfl, HF.out.1, HF.out.2⟩
theorem s_dist : distI xS 4 = 2 ∧ errI xS 4 = 0 := by decide +kernel
theorem s_ahead : aheadI xS 0 = [2] ∧ errI xS 0 = 0 := by decide +kernel
theorem s_reach : reachL xS = [0, 1, 2, 3, 4] := by decide +kernel

set_option maxRecDepth 100000 in
set_option maxHeartbeats 8000000 in
theorem alive_any (w : World) (hL0 : LaidO w) (hC0 : CutAt w) : Calls Tryz.prog 26 #[] w fun e w' => e = .returned (.bool true) ∧ Keep NoB w w' := by
 have HS := Lib.hid (fun W (hk : Keep NoB w W) => some_any W (hL0.keep hk) (hC0.keep hk))
 have HD := Lib.hid (fun A c w hr => fDistance_any A xS 7 c 4 w hr rfl (by decide) (by decide))
 rw [s_dist.1, s_dist.2] at HD
 have HA := Lib.hid (fun A c w hr => fAhead_any A xS 7 c 0 w hr rfl (by decide) (by decide))
 rw [s_ahead.1, s_ahead.2] at HA
 have HR := Lib.hid (fun A c w hr => fReached_any A xS 7 c w hr rfl (by decide))
 rw [s_reach] at HR
 have HZ1 := Lib.hid (fun A1 A2 c1 c2 w h1 h2 => W.ints_any A1 A2 [0, 1, 2, 3, 4] [0, 1, 2, 3, 4] 5 5 c1 c2 w h1 h2 rfl rfl (by decide) (by decide) true (by show _ = _; simp))
 have HZ2 := Lib.hid (fun A1 A2 c1 c2 w h1 h2 => W.ints_any A1 A2 [2] [2] 1 1 c1 c2 w h1 h2 rfl rfl (by decide) (by decide) true (by show _ = _; simp))
 clear hL0 hC0
 go_enter Tryz.func26, Tryz.ntmps26
 go_wp2_with fail
 refine (HS.out w (Keep.refl _ _)).mono ?_
 rintro e w1 ⟨B1, c1, rfl, r1, k1⟩
 go_wp2_with fail
 refine (HD.out B1 c1 w1 r1).mono ?_
 rintro e w2 ⟨rfl, k2⟩
 have g2 := keepN k1 k2
 clear r1 k1 k2
 go_wp2_with fail
 refine (HS.out w2 g2).mono ?_
 rintro e w3 ⟨B3, c3, rfl, r3, k3⟩
 have g3 := keepN g2 k3
 clear g2 k3
 go_wp2_with fail
 refine (HA.out B3 c3 w3 r3).mono ?_
 rintro e w4 ⟨B4, c4, rfl, r4, k4⟩
 have g4 := keepN g3 k4
 clear g3 k4 r3
 go_wp2_with fail
 refine (HS.out w4 g4).mono ?_
 rintro e w5 ⟨B5, c5, rfl, r5, k5⟩
 have g5 := keepN g4 k5
 have r45 := r4.keepN k5
 clear g4 k5 r4
 go_wp2_with fail
 refine (HR.out B5 c5 w5 r5).mono ?_
 rintro e w6 ⟨B6, c6, rfl, o6, k6⟩
 obtain ⟨A6, c6', hv6, hy1, hy2, r6, hy3⟩ := o6.form
 injection hv6 with e1 e2 e3
 subst e1
 clear hy1 hy2 hy3 e2 e3 o6
 have g6 := keepN g5 k6
 have r46 := r45.keepN k6
 clear g5 k6 r45 r5
 have ka := (Keep.refl NoB w6).alloc (.cells #[.int .i64 0, .int .i64 1, .int .i64 2, .int .i64 3, .int .i64 4] 3)
 have r6a := r6.keepN ka
 have r46a := r46.keepN ka
 have g6a := keepN g6 ka
 have rn : Rd (w6.alloc (.cells #[.int .i64 0, .int .i64 1, .int .i64 2, .int .i64 3, .int .i64 4] 3)) (some ⟨w6.heap.size, 0, none⟩) (ivs [0, 1, 2, 3, 4]) := W.rd_made rfl rfl
 clear r6 r46 g6 ka
 go_wp2_with fail
 refine (HZ1.out _ _ _ _ _ r6a rn).mono ?_
 rintro e w7 ⟨rfl, k7⟩
 have g7 := keepN g6a k7
 have r47 := r46a.keepN k7
 clear g6a k7 r6a rn r46a
 have ka := (Keep.refl NoB w7).alloc (.cells #[.int .i64 2] 3)
 have r47a := r47.keepN ka
 have g7a := keepN g7 ka
 have rn : Rd (w7.alloc (.cells #[.int .i64 2] 3)) (some ⟨w7.heap.size, 0, none⟩) (ivs [2]) := W.rd_made rfl rfl
 clear r47 g7 ka
 go_wp2_with fail
 refine (HZ2.out _ _ _ _ _ r47a rn).mono ?_
 rintro e w8 ⟨rfl, k8⟩
 have g8 := keepN g7a k8
 clear g7a k8 r47a rn
 go_wp2
 go_ret
 exact ⟨rfl, g8⟩
end Go.Proofs.YtghdibbooegocaaGreatDoor.G

namespace Go.Proofs.YtghdibbooegocaaGreatDoor.G
open Go.RowKit W

end Go.Proofs.YtghdibbooegocaaGreatDoor.G

namespace Go.Proofs.YtghdibbooegocaaGreatDoor.G
open Go.RowKit W

theorem nz_at {l : List Nat} {j x : Nat} (h : l[j]? = some x) : (nz l)[j]? = some (x : Int) := by rw [List.getElem?_map, h]; rfl
theorem not_in {l : List Nat} {x : Int} (h : ∀ j, j < l.length → (nz l)[j]? ≠ some x) : (nz l).contains x = false := by
 rw [Bool.eq_false_iff]
 intro hc
 rw [List.contains_iff_mem] at hc
 obtain ⟨j, hj⟩ := List.getElem?_of_mem hc
 exact h j (by have := (List.getElem?_eq_some_iff.1 hj).1; rwa [nz_len] at this) hj
theorem is_in {l : List Nat} {x : Int} {j : Nat} (h : (nz l)[j]? = some x) : (nz l).contains x = true := by rw [List.contains_iff_mem]; exact List.mem_of_getElem? h
set_option maxRecDepth 100000 in
set_option maxHeartbeats 4000000 in
theorem rhas_any (B : Option Addr) (c : Nat) (l : List Nat) (x : Int) (w : World) (hr : Rd w B (ivs (nz l))) (hn : l.length ≤ 1000000) :
  Calls Tryz.prog 37 #[.slice B l.length c, .int .i64 x] w fun e w' => e = .returned (.bool ((nz l).contains x)) ∧ w' = w := by
 obtain ⟨n, hnl⟩ : ∃ n, l.length = n := ⟨_, rfl⟩
 rw [hnl] at hn ⊢
 have HR := Lib.hid hr
 clear hr
 go_enter Tryz.func37, Tryz.ntmps37
 go_wp2
 go_loopw [5] (fun i wr => ∃ k : Nat, k ≤ n ∧ i = .int .i64 (k : Int) ∧ wr = w ∧ Hid (∀ j, j < k → (nz l)[j]? ≠ some x)) (fun i _ => n - (intOf i).toNat)
 case atStart => exact ⟨0, Nat.zero_le _, rfl, rfl, fun j hj => absurd hj (Nat.not_lt_zero _)⟩
 case round =>
  obtain ⟨k, hk, rfl, rfl, HN⟩ := hrel
  by_cases hlt : k < n
  ·have hkl : k < l.length := by rw [hnl]; exact hlt
   obtain ⟨g, o, rfl, hc⟩ := rd_steps HR.out (by omega)
   have hz := List.getElem?_eq_getElem hkl
   have cz := hc k _ hz
   have HZ := Lib.hid (nz_at hz)
   generalize l[k] = z at cz HZ
   by_cases hzx : (z : Int) = x
   ·have q1 : ((z : Int) == x) = true := by rw [beq_iff_eq]; exact hzx
    have HI : Hid ((nz l).contains x = true) := is_in (by rw [← hzx]; exact HZ.out)
    clear hz hc hzx HN
    go_wp2
    go_ret
    rw [HI.out]
    exact ⟨rfl, rfl⟩
   ·have q1 : ((z : Int) == x) = false := by rw [beq_eq_false_iff_ne]; exact hzx
    have HN2 : Hid (∀ j, j < k + 1 → (nz l)[j]? ≠ some x) := fun j hj e => by
     rcases Nat.lt_or_eq_of_le (Nat.le_of_lt_succ hj) with h | rfl
     ·exact HN.out j h e
     ·rw [HZ.out] at e; injection e with e; exact hzx e
    clear hz hc hzx HN
    go_wp2
    go_roundw
    case rel => exact ⟨k + 1, by omega, by go_num, trivial, HN2⟩
    case measure => simp [intOf]; omega
  ·obtain rfl : k = n := by omega
   have HI : Hid ((nz l).contains x = false) := not_in (fun j hj => HN.out j (by omega))
   clear HN
   go_wp2
   go_ret
   rw [HI.out]
   exact ⟨rfl, rfl⟩
set_option maxRecDepth 100000 in
set_option maxHeartbeats 4000000 in
theorem has_any (B : Option Addr) (c : Nat) (l : List Nat) (x : Int) (w : World) (hr : Rd w B (ivs (nz l))) (hn : l.length ≤ 1000000) :
  Calls Tryz.prog 28 #[.slice B l.length c, .int .i64 x] w fun e w' => e = .returned (.bool ((nz l).contains x)) ∧ w' = w := by
 obtain ⟨n, hnl⟩ : ∃ n, l.length = n := ⟨_, rfl⟩
 rw [hnl] at hn ⊢
 have HR := Lib.hid hr
 clear hr
 go_enter Tryz.func28, Tryz.ntmps28
 go_wp2
 go_loopw [9] (fun i wr => ∃ k : Nat, k ≤ n ∧ i = .int .i64 (k : Int) ∧ wr = w ∧ Hid (∀ j, j < k → (nz l)[j]? ≠ some x)) (fun i _ => n - (intOf i).toNat)
 case atStart => exact ⟨0, Nat.zero_le _, rfl, rfl, fun j hj => absurd hj (Nat.not_lt_zero _)⟩
 case round =>
  obtain ⟨k, hk, rfl, rfl, HN⟩ := hrel
  by_cases hlt : k < n
  ·have hkl : k < l.length := by rw [hnl]; exact hlt
   obtain ⟨g, o, rfl, hc⟩ := rd_steps HR.out (by omega)
   have hz := List.getElem?_eq_getElem hkl
   have cz := hc k _ hz
   have HZ := Lib.hid (nz_at hz)
   generalize l[k] = z at cz HZ
   by_cases hzx : (z : Int) = x
   ·have q1 : ((z : Int) == x) = true := by rw [beq_iff_eq]; exact hzx
    have HI : Hid ((nz l).contains x = true) := is_in (by rw [← hzx]; exact HZ.out)
    clear hz hc hzx HN
    go_wp2
    go_ret
    rw [HI.out]
    exact ⟨rfl, rfl⟩
   ·have q1 : ((z : Int) == x) = false := by rw [beq_eq_false_iff_ne]; exact hzx
    have HN2 : Hid (∀ j, j < k + 1 → (nz l)[j]? ≠ some x) := fun j hj e => by
     rcases Nat.lt_or_eq_of_le (Nat.le_of_lt_succ hj) with h | rfl
     ·exact HN.out j h e
     ·rw [HZ.out] at e; injection e with e; exact hzx e
    clear hz hc hzx HN
    go_wp2
    go_roundw
    case rel => exact ⟨k + 1, by omega, by go_num, trivial, HN2⟩
    case measure => simp [intOf]; omega
  ·obtain rfl : k = n := by omega
   have HI : Hid ((nz l).contains x = false) := not_in (fun j hj => HN.out j (by omega))
   clear HN
   go_wp2
   go_ret
   rw [HI.out]
   exact ⟨rfl, rfl⟩
end Go.Proofs.YtghdibbooegocaaGreatDoor.G

namespace Go.Proofs.YtghdibbooegocaaGreatDoor.G
open Go.RowKit W

def FwdP (l : List C.I3) (a : Nat) : Prop := ∃ x, l[a]? = some x ∧ C.gB x = true ∧ x.2.1 ≤ (a : Int) ∧ ∀ (i : Nat) (y : C.I3), x.2.1.toNat ≤ i → i < a → l[i]? = some y → C.eB y = false

set_option maxRecDepth 100000 in
set_option maxHeartbeats 4000000 in
theorem forward_any (A : Option Addr) (l : List C.I3) (n c a : Nat) (w : World) (hr : Rd w A (C.iis l)) (hn : Hid (l.length = n)) (ha : a < n) (h1 : n ≤ 1000) :
  Calls Tryz.prog 29 #[.slice A n c, .int .i64 (a : Int)] w fun e w' => ∃ b, e = .returned (.bool b) ∧ (b = true → FwdP l a) ∧ Keep NoB w w' := by
 have hal : a < l.length := by rw [hn.out]; exact ha
 obtain ⟨g, off, rfl, hc⟩ := C.rdJ_at hr (by omega)
 obtain ⟨c0, c1, c2⟩ := hc a hal
 have HCC := Lib.hid (fun (W : World) (hk : Keep NoB w W) (i : Nat) (hi : i < l.length) => And.intro (hk.cell (hc i hi).1 id) (And.intro (hk.cell (hc i hi).2.1 id) (hk.cell (hc i hi).2.2 id)))
 have hx := Lib.hid (List.getElem?_eq_getElem hal)
 clear hc hr
 generalize l[a] = x at c0 c1 c2 hx
 obtain ⟨op, y, z⟩ := x
 dsimp only at c0 c1 c2
 have HG := Lib.hid (fun w => O.goes_any op y z w)
 have hgn : O.goesN op y z = C.gN (op, y, z) := rfl
 have hgi : O.goesI op y z = C.gB (op, y, z) := rfl
 simp only [hgn, hgi] at HG
 clear hgn hgi
 cases hg : C.gB (op, y, z) with
 | false =>
  rw [hg] at HG
  generalize C.gN (op, y, z) = t at HG
  clear hg
  go_enter Tryz.func29, Tryz.ntmps29
  go_wp2_with fail
  refine (HG.out _).mono ?_
  rintro e w1 ⟨rfl, k1⟩
  go_wp2_with fail
  go_ret
  exact ⟨false, rfl, (fun h => by cases h), k1⟩
 | true =>
  have hin := C.gB_in hg
  have hyN := C.gN_yes hg
  rw [hg, hyN] at HG
  dsimp only at HG hin
  obtain ⟨t, rfl⟩ : ∃ t : Nat, y = (t : Int) := ⟨y.toNat, by omega⟩
  have HGB := Lib.hid hg
  clear hg hyN
  by_cases hta : (a : Int) < (t : Int)
  ·go_enter Tryz.func29, Tryz.ntmps29
   go_wp2_with fail
   refine (HG.out _).mono ?_
   rintro e w1 ⟨rfl, k1⟩
   go_wp2_with fail
   go_ret
   exact ⟨false, rfl, (fun h => by cases h), k1⟩
  ·have hta' : ¬ (a : Int) < (t : Int) := hta
   go_enter Tryz.func29, Tryz.ntmps29
   go_wp2_with fail
   refine (HG.out _).mono ?_
   rintro e w1 ⟨rfl, k1⟩
   clear c0 c1 c2 HG
   go_wp2_with fail
   have HTA : Hid (t ≤ a) := by show _ ≤ _; omega
   have q0 : decide (a < t) = false := decide_eq_false (by omega)
   try simp only [q0]
   clear hta hta' q0
   go_loopw [7] (fun i wr => ∃ j : Nat, t ≤ j ∧ j ≤ a ∧ i = .int .i64 (j : Int) ∧ Hid (Keep NoB w wr ∧ ∀ (i : Nat) (y : C.I3), t ≤ i → i < j → l[i]? = some y → C.eB y = false)) (fun i _ => a - (intOf i).toNat)
   case atStart => exact ⟨t, Nat.le_refl _, HTA.out, rfl, k1, fun i y h1 h2 => by omega⟩
   case round =>
    obtain ⟨j, hj1, hj2, rfl, HI⟩ := hrel
    by_cases hlt : j < a
    ·have hjl : j < l.length := by omega
     obtain ⟨d0, d1, d2⟩ := HCC.out wr HI.out.1 j hjl
     have hxj := Lib.hid (List.getElem?_eq_getElem hjl)
     generalize l[j] = xj at d0 d1 d2 hxj
     obtain ⟨o1, y1, z1⟩ := xj
     dsimp only at d0 d1 d2
     have HE := Lib.hid (fun w => O.ends_any o1 y1 z1 w)
     have hei : O.endsI o1 y1 z1 = C.eB (o1, y1, z1) := rfl
     simp only [hei] at HE
     clear hei k1
     have hjn : j < n := by omega
     cases he : C.eB (o1, y1, z1) with
     | true =>
      rw [he] at HE
      have HK := Lib.hid HI.out.1
      clear he HI hxj
      go_wp2_with fail
      refine (HE.out _).mono ?_
      rintro e w3 ⟨rfl, k3⟩
      have HK3 := Lib.hid (keepN HK.out k3)
      clear k3
      go_wp2
      go_ret
      exact ⟨false, rfl, (fun h => by cases h), HK3.out⟩
     | false =>
      rw [he] at HE
      have HQ := Lib.hid HI.out
      have HEB := Lib.hid he
      clear he HI
      go_wp2_with fail
      refine (HE.out _).mono ?_
      rintro e w3 ⟨rfl, k3⟩
      have HN : Hid (Keep NoB w w3 ∧ ∀ (i : Nat) (y : C.I3), t ≤ i → i < j + 1 → l[i]? = some y → C.eB y = false) := by
       refine ⟨keepN HQ.out.1 k3, fun i y h1 h2 h3 => ?_⟩
       rcases Nat.lt_or_eq_of_le (Nat.le_of_lt_succ h2) with h | rfl
       ·exact HQ.out.2 i y h1 h h3
       ·rw [hxj.out] at h3
        injection h3 with h3
        rw [← h3]; exact HEB.out
      clear HQ k3 HE d0 d1 d2
      go_wp2
      go_roundw
      case rel => exact ⟨j + 1, by omega, by omega, by go_num, HN⟩
      case measure => simp [intOf]; omega
    ·obtain rfl : j = a := by omega
     have HQ := Lib.hid HI.out
     clear HI k1
     go_wp2
     go_ret
     exact ⟨true, rfl, fun _ => ⟨_, hx.out, HGB.out, by show (t : Int) ≤ _; omega, fun i y h1 h2 h3 => HQ.out.2 i y (by simpa using h1) h2 h3⟩, HQ.out.1⟩
end Go.Proofs.YtghdibbooegocaaGreatDoor.G
