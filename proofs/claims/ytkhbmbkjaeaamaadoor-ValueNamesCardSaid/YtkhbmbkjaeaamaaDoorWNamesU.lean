/-
  Closed facts that ValueNames meets: texts of the bounds' values, texts that are none, lists of letters. No conditions.
-/
import Derived.Test.YtkhbmbkjaeaamaaDoorWAlive4
import Derived.Test.YtkhbmbkjaeaamaaDoorWFitsLaw
import Derived.Test.YtkhbmbkjaeaamaaDoorWShelf2
import Derived.Test.YtkhbmbkjaeaamaaDoorWMixW
import Derived.Deep.DeepCutAuto
namespace Go.Proofs.YtkhbmbkjaeaamaaDoor
open Go.RowKit

theorem sh1 : showL 1 (-9223372036854775808) = [45, 57, 50, 50, 51, 51, 55, 50, 48, 51, 54, 56, 53, 52, 55, 55, 53, 56, 48, 56] := by decide +kernel
theorem sh2 : showL 1 9223372036854775807 = [57, 50, 50, 51, 51, 55, 50, 48, 51, 54, 56, 53, 52, 55, 55, 53, 56, 48, 55] := by decide +kernel
theorem sh3 : showL 3 9223372036854775807 = [64, 57, 50, 50, 51, 51, 55, 50, 48, 51, 54, 56, 53, 52, 55, 55, 53, 56, 48, 54] := by decide +kernel
theorem sh4 : showL 1 0 = [48] := by decide +kernel
theorem sh5 : showL 4 0 = [110, 105, 108] := by decide +kernel
theorem sh6 : showL 0 0 = [] := by decide +kernel
theorem sh7 : showL 2 (-1) = [] := by decide +kernel
theorem sh8 : showL 5 1 = [] := by decide +kernel

/-- Texts that are no value's. -/
def badI : List (List UInt8) := [[], [45, 48], [43, 49], [49, 46], [32, 49], [110, 105, 108], [57, 50, 50, 51, 51, 55, 50, 48, 51, 54, 56, 53, 52, 55, 55, 53, 56, 48, 56], [45, 57, 50, 50, 51, 51, 55, 50, 48, 51, 54, 56, 53, 52, 55, 55, 53, 56, 48, 57], [35, 49], [45, 45, 49]]
def badR : List (List UInt8) := [[], [55], [35, 48], [35, 45, 49], [35, 48, 55], [64, 49], [35], [35, 57, 50, 50, 51, 51, 55, 50, 48, 51, 54, 56, 53, 52, 55, 55, 53, 56, 48, 56], [110, 105, 108, 108]]
def badP : List (List UInt8) := [[], [38], [48], [38, 49], [35, 49]]
theorem badI_all : ∀ s ∈ badI, rT 1 s = 0 ∧ rN 1 s = 0 ∧ rE 1 s = 21 := by decide +kernel
theorem badR_all : ∀ s ∈ badR, rT 2 s = 0 ∧ rN 2 s = 0 ∧ rE 2 s = 21 := by decide +kernel
theorem badP_all : ∀ s ∈ badP, rT 4 s = 0 ∧ rN 4 s = 0 ∧ rE 4 s = 21 := by decide +kernel
theorem bad_short : ∀ s ∈ badI ++ badR ++ badP, s.length ≤ 100 := by decide +kernel

theorem rd1 : rT 0 [48] = 0 ∧ rN 0 [48] = 0 ∧ rE 0 [48] = 20 := by decide +kernel
theorem rd2 : rT 3 [64, 57, 50, 50, 51, 51, 55, 50, 48, 51, 54, 56, 53, 52, 55, 55, 53, 56, 48, 55] = 0 ∧ rN 3 [64, 57, 50, 50, 51, 51, 55, 50, 48, 51, 54, 56, 53, 52, 55, 55, 53, 56, 48, 55] = 0 ∧ rE 3 [64, 57, 50, 50, 51, 51, 55, 50, 48, 51, 54, 56, 53, 52, 55, 55, 53, 56, 48, 55] = 21 := by decide +kernel
theorem rd3 : rT 3 [64, 57, 50, 50, 51, 51, 55, 50, 48, 51, 54, 56, 53, 52, 55, 55, 53, 56, 48, 54] = 3 ∧ rN 3 [64, 57, 50, 50, 51, 51, 55, 50, 48, 51, 54, 56, 53, 52, 55, 55, 53, 56, 48, 54] = 9223372036854775807 ∧ rE 3 [64, 57, 50, 50, 51, 51, 55, 50, 48, 51, 54, 56, 53, 52, 55, 55, 53, 56, 48, 54] = 0 := by decide +kernel
theorem rd4 : rT 4 [110, 105, 108] = 4 ∧ rN 4 [110, 105, 108] = 0 ∧ rE 4 [110, 105, 108] = 0 := by decide +kernel

/-- A text of the list, read. -/
theorem bad_read (t : Int) (L : List (List UInt8)) (hL : ∀ s ∈ L, rT t s = 0 ∧ rN t s = 0 ∧ rE t s = 21) (hs : ∀ s ∈ L, s.length ≤ 100) (k : Nat) (hk : k < L.length) (w : World) (h : Laid w) :
    Calls Tryd.prog 19 #[.int .i64 t, .string (str (L[k]))] w fun e w' => e = .returned (.tuple #[.agg #[.int .i64 0, .int .i64 0], .int .i64 21]) ∧ Keep NoB w w' := by
  obtain ⟨e1, e2, e3⟩ := hL _ (List.getElem_mem hk)
  have hsz := hs _ (List.getElem_mem hk)
  have e : (str (L[k])).data.toList = L[k] := rfl
  exact read_at t (str (L[k])) 0 0 21 w (by show (L[k]).toArray.size ≤ _; rw [List.size_toArray]; omega) h (by rw [e]; exact e1) (by rw [e]; exact e2) (by rw [e]; exact e3)

abbrev litI : Array Value := #[Value.string { data := #[] }, Value.string { data := #[45, 48] }, Value.string { data := #[43, 49] }, Value.string { data := #[49, 46] }, Value.string { data := #[32, 49] }, Value.string { data := #[110, 105, 108] }, Value.string { data := #[57, 50, 50, 51, 51, 55, 50, 48, 51, 54, 56, 53, 52, 55, 55, 53, 56, 48, 56] }, Value.string { data := #[45, 57, 50, 50, 51, 51, 55, 50, 48, 51, 54, 56, 53, 52, 55, 55, 53, 56, 48, 57] }, Value.string { data := #[35, 49] }, Value.string { data := #[45, 45, 49] }]
theorem litI_at (k : Nat) (hk : k < badI.length) : litI[k]? = some (.string (str (badI[k]))) := by
  have hk' : k < 10 := hk
  have : k = 0 ∨ k = 1 ∨ k = 2 ∨ k = 3 ∨ k = 4 ∨ k = 5 ∨ k = 6 ∨ k = 7 ∨ k = 8 ∨ k = 9 := by omega
  rcases this with rfl | rfl | rfl | rfl | rfl | rfl | rfl | rfl | rfl | rfl <;> rfl
abbrev litR : Array Value := #[Value.string { data := #[] }, Value.string { data := #[55] }, Value.string { data := #[35, 48] }, Value.string { data := #[35, 45, 49] }, Value.string { data := #[35, 48, 55] }, Value.string { data := #[64, 49] }, Value.string { data := #[35] }, Value.string { data := #[35, 57, 50, 50, 51, 51, 55, 50, 48, 51, 54, 56, 53, 52, 55, 55, 53, 56, 48, 56] }, Value.string { data := #[110, 105, 108, 108] }]
theorem litR_at (k : Nat) (hk : k < badR.length) : litR[k]? = some (.string (str (badR[k]))) := by
  have hk' : k < 9 := hk
  have : k = 0 ∨ k = 1 ∨ k = 2 ∨ k = 3 ∨ k = 4 ∨ k = 5 ∨ k = 6 ∨ k = 7 ∨ k = 8 := by omega
  rcases this with rfl | rfl | rfl | rfl | rfl | rfl | rfl | rfl | rfl <;> rfl
abbrev litP : Array Value := #[Value.string { data := #[] }, Value.string { data := #[38] }, Value.string { data := #[48] }, Value.string { data := #[38, 49] }, Value.string { data := #[35, 49] }]
theorem litP_at (k : Nat) (hk : k < badP.length) : litP[k]? = some (.string (str (badP[k]))) := by
  have hk' : k < 5 := hk
  have : k = 0 ∨ k = 1 ∨ k = 2 ∨ k = 3 ∨ k = 4 := by omega
  rcases this with rfl | rfl | rfl | rfl | rfl <;> rfl

theorem read1 (W : World) (h : Laid W) : Calls Tryd.prog 19 #[.int .i64 0, .string { data := #[48] }] W fun e w' => e = .returned (.tuple #[.agg #[.int .i64 0, .int .i64 0], .int .i64 20]) ∧ Keep NoB W w' :=
  read_at 0 ⟨#[48]⟩ 0 0 20 W (by decide) h rd1.1 rd1.2.1 rd1.2.2
theorem read2 (W : World) (h : Laid W) : Calls Tryd.prog 19 #[.int .i64 3, .string { data := #[64, 57, 50, 50, 51, 51, 55, 50, 48, 51, 54, 56, 53, 52, 55, 55, 53, 56, 48, 55] }] W fun e w' => e = .returned (.tuple #[.agg #[.int .i64 0, .int .i64 0], .int .i64 21]) ∧ Keep NoB W w' :=
  read_at 3 ⟨#[64, 57, 50, 50, 51, 51, 55, 50, 48, 51, 54, 56, 53, 52, 55, 55, 53, 56, 48, 55]⟩ 0 0 21 W (by decide) h rd2.1 rd2.2.1 rd2.2.2
theorem read3 (W : World) (h : Laid W) : Calls Tryd.prog 19 #[.int .i64 3, .string { data := #[64, 57, 50, 50, 51, 51, 55, 50, 48, 51, 54, 56, 53, 52, 55, 55, 53, 56, 48, 54] }] W fun e w' => e = .returned (.tuple #[.agg #[.int .i64 3, .int .i64 9223372036854775807], .int .i64 0]) ∧ Keep NoB W w' :=
  read_at 3 ⟨#[64, 57, 50, 50, 51, 51, 55, 50, 48, 51, 54, 56, 53, 52, 55, 55, 53, 56, 48, 54]⟩ 3 9223372036854775807 0 W (by decide) h rd3.1 rd3.2.1 rd3.2.2
theorem read4 (W : World) (h : Laid W) : Calls Tryd.prog 19 #[.int .i64 4, .string { data := #[110, 105, 108] }] W fun e w' => e = .returned (.tuple #[.agg #[.int .i64 4, .int .i64 0], .int .i64 0]) ∧ Keep NoB W w' :=
  read_at 4 ⟨#[110, 105, 108]⟩ 4 0 0 W (by decide) h rd4.1 rd4.2.1 rd4.2.2

/-- So many letters F. -/
def manyF (n : Nat) : List UInt8 := Lib.repeatL [70] n
theorem repeatF (n : Nat) (hn : n ≤ 2000) (W : World) : Calls Tryd.prog 24 #[.string { data := #[70] }, .int .i64 (n : Int)] W fun e w' => e = .returned (.string (str (manyF n))) ∧ Keep NoB W w' :=
  (Tryd.strings_Repeat ⟨#[70]⟩ n W (by omega) (by show 1 * n ≤ _; omega)).mono fun _ _ ⟨he, hb⟩ => ⟨he, Keep.of_below hb⟩
theorem many_a : (manyF 1024).length = 1024 ∧ ((manyF 1024).all fun c => decide (unlet c ≠ 0)) = true := by decide +kernel
theorem many_b : (manyF 1025).length = 1025 := by decide +kernel
theorem types_b : tN (manyF 1025) = 0 ∧ tE (manyF 1025) = 20 := by
  have h : untxt (manyF 1025) = none := untxt_none (by rw [many_b]; omega)
  exact ⟨by unfold tN; rw [h]; rfl, by unfold tE; rw [h]; rfl⟩
theorem types_c : tN [] = 0 ∧ tE [] = 0 := by decide +kernel
theorem many_types : tN (manyF 1024) = 1024 ∧ tE (manyF 1024) = 0 ∧ (tL (manyF 1024)).length = 1024 ∧ txt (tL (manyF 1024)) = manyF 1024 := by
  have h := untxt_some (s := manyF 1024) (by rw [many_a.1]; omega) many_a.2
  have e1 : tN (manyF 1024) = 1024 := by unfold tN; rw [h]; exact many_a.1
  have e3 : tL (manyF 1024) = (manyF 1024).map unlet := by unfold tL; rw [h]; rfl
  refine ⟨e1, by unfold tE; rw [h]; rfl, ?_, ?_⟩
  · rw [e3, List.length_map, many_a.1]
  · rw [e3]; exact txt_untxt h

theorem rd_two (w : World) (x y : Value) (T : TypeId) : Rd (w.alloc (.cells #[x, y] T)) (some ⟨w.heap.size, 0, none⟩) [x, y] := fun _ =>
  ⟨_, 0, rfl, fun j u hu => by rw [Nat.zero_add, (Blk.new w T #[x, y]).cell j, ← hu]; simp⟩
theorem zeros_a (B : Nat) (W : World) (h : Rd W (some ⟨B, 0, none⟩) (ivs [1, 9])) : Calls Tryd.prog 25 #[.slice (some ⟨B, 0, none⟩) 2 2] W fun e w' => e = .returned (.tuple #[.slice none 0 0, .int .i64 20]) ∧ Keep NoB W w' :=
  (zeros_any (some ⟨B, 0, none⟩) [1, 9] 2 2 W h rfl (by omega)).mono fun e w' ⟨hk, hh⟩ => by
    rcases hh with ⟨h1, _⟩ | ⟨_, h2⟩
    · exact absurd h1 (by decide)
    · exact ⟨h2, hk⟩
theorem zeros_b (B : Nat) (W : World) (h : Rd W (some ⟨B, 0, none⟩) (ivs [4, 1])) : Calls Tryd.prog 25 #[.slice (some ⟨B, 0, none⟩) 2 2] W fun e w' => ∃ C d, e = .returned (.tuple #[.slice C 2 d, .int .i64 0]) ∧ Rd w' C (vvs [(4, 0), (1, 0)]) ∧ Keep NoB W w' :=
  (zeros_any (some ⟨B, 0, none⟩) [4, 1] 2 2 W h rfl (by omega)).mono fun e w' ⟨hk, hh⟩ => by
    rcases hh with ⟨_, C, d, he, hO⟩ | ⟨h1, _⟩
    · obtain ⟨A, c, hv, _, _, hr, _⟩ := hO.form
      injection hv with hv1 _ hv2
      subst hv1 hv2
      exact ⟨_, _, he, hr, hk⟩
    · exact absurd h1 (by decide)

theorem rd_blk {w : World} {g : Nat} {T : TypeId} {cs : Array Value} {l : List Value} (h : Blk w g T cs) (hl : cs.toList = l) : Rd w (some ⟨g, 0, none⟩) l := fun _ =>
  ⟨_, 0, rfl, fun j u hu => by rw [Nat.zero_add, h.cell j, ← hu, ← hl]; simp⟩
theorem same_true (A B : Option Addr) (n d e : Nat) (l : List (Int × Int)) (W : World) (ha : Rd W A (vvs l)) (hb : Rd W B (vvs l)) (hn : l.length = n) (h1 : n ≤ 9223372036854775807) :
    Calls Tryd.prog 26 #[.slice A n d, .slice B n e] W fun e w' => e = .returned (.bool true) ∧ Keep NoB W w' :=
  same_any A B l l n n d e W ha hb hn hn h1 h1 true (by show true = decide (l = l); simp)
theorem fits_cl (A B : Option Addr) (n m d e : Nat) (l : List Int) (x : List (Int × Int)) (R : Bool) (W : World) (ha : Rd W A (ivs l)) (hb : Rd W B (vvs x)) (hn : l.length = n) (hm : x.length = m) (h1 : n ≤ 9223372036854775807) (h2 : m ≤ 9223372036854775807) (hR : R = fitsB l x) :
    Calls Tryd.prog 28 #[.slice A n d, .slice B m e] W fun e w' => e = .returned (.bool R) ∧ Keep NoB W w' :=
  fits_any A B l x n m d e W ha hb hn hm h1 h2 R hR

theorem rd_one (w : World) (x : Value) (T : TypeId) : Rd (w.alloc (.cells #[x] T)) (some ⟨w.heap.size, 0, none⟩) [x] := fun _ =>
  ⟨_, 0, rfl, fun j u hu => by rw [Nat.zero_add, (Blk.new w T #[x]).cell j, ← hu]; simp⟩
theorem nl1 : nilB 2 0 = true := by decide
theorem nl2 : nilB 4 0 = true := by decide
theorem nl3 : nilB 1 0 = false := by decide
theorem nl4 : nilB 3 1 = false := by decide
theorem nl5 : nilB 0 0 = false := by decide
theorem ft1 : true = fitsB [1, 2] [(1, -1), (2, 0)] := by decide
theorem ft2 : false = fitsB [1, 2] [(1, -1), (2, -1)] := by decide
theorem ft3 : false = fitsB [1] [] := by decide
theorem ft4 : true = fitsB [] [] := by decide
theorem lt0 : letC 0 = [] := by decide
theorem lt4 : letC 4 = [80] := by decide
theorem tx0 : txt [0] = [] := by decide

end Go.Proofs.YtkhbmbkjaeaamaaDoor
