/-
  What Fits answers. Conditions: the lists lie in memory.
  What the listed package-level variables hold, carried from world to world; Letter and lettered. Conditions: the variables hold what their initialisers lay.
  What Show answers. Conditions: the variables that it reads hold what their initialisers lay; the value's number fits an int64.
  An array of strings among the listed package-level variables, as a list of texts. No conditions.
  What the project's own names of operations and codes answer, and what those that look a name up do. Conditions: the listed package-level variables hold the names.
  What the functions in an operand's fields tell: an operand's text. Conditions: the listed package-level variables hold what their initialisers lay.
  The document's in and Check. Conditions: none but that numbers fit an int64.
  The document's Ends and Goes. Conditions: none but that numbers fit an int64.
  What the document's Check, Count and Head of layer code answer, and its Lists: are two lists the same? Conditions: lists lie in memory; numbers fit an int64.
  A function in memory: its value, its cells, what it reads as. No conditions.
  Names: what letter, digit and Named answer, and the document's letter and Named. No conditions but that the name's length fits an int64.
  every: questions that lie in memory are asked in turn, up to the first no. Conditions: each question answers by its contract.
  Which types shapes and signatures may have: what held and all answer, and the document's held. Conditions: the list lies in memory.
-/
import Derived.IntWalk
import Derived.LaidLaws
import Derived.LaidMore
import Derived.Laws.BitsAllLaws
import Derived.Lib.AppendIntMem
import Derived.Lib.ItoaLen
import Derived.Lib.SmallJoins
import Derived.OpenShut
import Derived.Test.YtbnekeomdhljhaaGreatDoorQ5
import Derived.Test.YtbnekeomdhljhaaGreatDoorShelf
import Derived.Test.YtbnekeomdhljhaaGreatDoorQ4
import Derived.Test.YtbnekeomdhljhaaGreatDoorQ2
namespace Go.Proofs.YtbnekeomdhljhaaGreatDoor.W
open Go.RowKit

/-- May all of the values be, and have they just these types? -/
def allOk (x : List (Int × Int)) : Bool := x.all fun v => okB v.1 v.2
def fitsB (l : List Int) (x : List (Int × Int)) : Bool := decide (l = ts x) && allOk x
theorem fits_true (l : List Int) (x : List (Int × Int)) : fitsB l x = true ↔ l = ts x ∧ allOk x = true := by unfold fitsB; simp
theorem fits_false (l : List Int) (x : List (Int × Int)) (h : ¬ (l = ts x ∧ allOk x = true)) : fitsB l x = false := by
  cases hf : fitsB l x
  · rfl
  · exact absurd ((fits_true l x).1 hf) h

set_option maxRecDepth 100000 in
set_option maxHeartbeats 4000000 in
theorem fits_any (A B : Option Addr) (l : List Int) (x : List (Int × Int)) (n m c d : Nat) (w : World) (ha : Rd w A (ivs l)) (hb : Rd w B (vvs x)) (hn : Hid (l.length = n)) (hm : Hid (x.length = m))
    (h1 : n ≤ 9223372036854775807) (h2 : m ≤ 9223372036854775807) (R : Bool) (hR : Hid (R = fitsB l x)) :
    Calls Tryz.prog 84 #[.slice A n c, .slice B m d] w fun e w' => e = .returned (.bool R) ∧ Keep NoB w w' := by
  by_cases hnm : n = m
  · subst hnm
    go_enter Tryz.func84, Tryz.ntmps84
    go_wp2
    go_loopw [14] (fun i wr => ∃ k : Nat, k ≤ n ∧ i = .int .i64 k ∧ Hid (l.take k = ts (x.take k) ∧ allOk (x.take k) = true) ∧ Keep NoB w wr) (fun i _ => n - (intOf i).toNat)
    case atStart => exact ⟨0, Nat.zero_le _, rfl, ⟨rfl, rfl⟩, Keep.refl _ _⟩
    case round =>
      obtain ⟨k, hk, rfl, ht, hK⟩ := hrel
      by_cases hlt : k < n
      · have hka : k < l.length := by rw [hn.out]; exact hlt
        have hkb : k < x.length := by rw [hm.out]; exact hlt
        obtain ⟨ga, oa, rfl, hca⟩ := rdI_at ha (by omega)
        obtain ⟨gb, ob, rfl, hcb⟩ := rdV_at hb (by omega)
        have ca := hK.cell (hca k hka) id
        have cb0 := hK.cell (hcb k hkb).1 id
        have cb1 := hK.cell (hcb k hkb).2 id
        have HT := Lib.hid (show l.take (k + 1) = l.take k ++ [l[k]] from List.take_succ_eq_append_getElem hka)
        have HU := Lib.hid (show x.take (k + 1) = x.take k ++ [x[k]] from List.take_succ_eq_append_getElem hkb)
        have HX : Hid (l = ts x → l[k] = x[k].1) := fun e => by simp [e, ts]
        have HY : Hid (allOk x = true → okB x[k].1 x[k].2 = true) := fun e => (List.all_eq_true.1 e) _ (List.getElem_mem hkb)
        clear hca hcb
        generalize l[k] = u at ca HT HX
        generalize x[k] = y at cb0 cb1 HU HX HY
        obtain ⟨t, v⟩ := y
        dsimp only at cb0 cb1 HX HY
        have hB := Blk.new wr 68 #[.int .i64 t, .int .i64 v]
        have hKW := hK.alloc (.cells #[.int .i64 t, .int .i64 v] 68)
        have hca := ((Keep.refl NoB wr).alloc (.cells #[.int .i64 t, .int .i64 v] 68)).cell ca id
        by_cases he : t = u
        · subst he
          have HQ : Hid (∀ w', Keep NoB (wr.alloc (.cells #[.int .i64 t, .int .i64 v] 68)) w' → w'.cell? ⟨wr.heap.size, 0, none⟩ = some (.int .i64 t) ∧ w'.cell? ⟨wr.heap.size, 1, none⟩ = some (.int .i64 v) ∧ w'.cell? ⟨ga, oa + k, none⟩ = some (.int .i64 t)) :=
            fun w' hk' => ⟨(hB.keep hk' id).cell 0, (hB.keep hk' id).cell 1, hk'.cell hca id⟩
          have hd0 := (Keep.refl NoB (wr.alloc (.cells #[.int .i64 t, .int .i64 v] 68))).drew
          cases hok : okB t v
          · have hf : R = false := by
              rw [hR.out]
              exact fits_false l x (fun h => by rw [HY.out h.2] at hok; cases hok)
            subst hf
            have HC := Lib.hid (check_bad t v · hok)
            clear HT HU HX HY hok ha hb hB hca
            go_wp2
            go_region_held (fun w' => w'.cell? ⟨wr.heap.size, 0, none⟩ = some (.int .i64 t) ∧ w'.cell? ⟨wr.heap.size, 1, none⟩ = some (.int .i64 v) ∧ w'.cell? ⟨ga, oa + k, none⟩ = some (.int .i64 t))
              (first | exact HQ.out _ hd0 | exact HQ.out _ (keepN hd0 hk2))
              ((go_at_call 135; refine (HC.out _).mono ?_; rintro e w2 ⟨rfl, hk2⟩))
            all_goals go_wp2
            all_goals go_ret
            all_goals exact ⟨rfl, keepN hKW.drew hk2⟩
          · have ht2 : Hid (l.take (k + 1) = ts (x.take (k + 1)) ∧ allOk (x.take (k + 1)) = true) := by
              obtain ⟨e1, e2⟩ := ht.out
              refine ⟨?_, ?_⟩
              · rw [HT.out, HU.out, e1]; simp [ts]
              · unfold allOk at e2 ⊢; rw [HU.out, List.all_append, e2]; simp [hok]
            have HC := Lib.hid (check_ok t v · hok)
            clear HT HU HX HY hok ha hb hB hca
            go_wp2
            go_region_held (fun w' => w'.cell? ⟨wr.heap.size, 0, none⟩ = some (.int .i64 t) ∧ w'.cell? ⟨wr.heap.size, 1, none⟩ = some (.int .i64 v) ∧ w'.cell? ⟨ga, oa + k, none⟩ = some (.int .i64 t))
              (first | exact HQ.out _ hd0 | exact HQ.out _ (keepN hd0 hk2))
              ((go_at_call 135; refine (HC.out _).mono ?_; rintro e w2 ⟨rfl, hk2⟩))
            all_goals go_wp2
            all_goals go_roundw
            all_goals first | (case rel => exact ⟨k + 1, by omega, by go_num, ht2, keepN hKW.drew hk2⟩) | skip
            all_goals first | (case measure => simp [intOf]; omega) | skip
        · have hf : R = false := by
            rw [hR.out]
            exact fits_false l x (fun h => he (HX.out h.1).symm)
          subst hf
          have hne : (t != u) = true := by rw [bne_iff_ne]; exact he
          have hc0 : (wr.alloc (.cells #[.int .i64 t, .int .i64 v] 68)).cell? ⟨wr.heap.size, 0, none⟩ = some (.int .i64 t) := hB.cell 0
          have hc1 : (wr.alloc (.cells #[.int .i64 t, .int .i64 v] 68)).cell? ⟨wr.heap.size, 1, none⟩ = some (.int .i64 v) := hB.cell 1
          clear HT HU HX HY he ha hb hB
          go_wp2
          generalize wr.alloc (.cells #[.int .i64 t, .int .i64 v] 68) = W0 at hca hc0 hc1 hKW ⊢
          go_quiet (fail)
          go_wp2
          go_ret
          exact ⟨rfl, hKW.drewN _⟩
      · have hf : R = true := by
          rw [hR.out, fits_true]
          have e1 := ht.out
          rwa [List.take_of_length_le (by rw [hn.out]; omega), List.take_of_length_le (by rw [hm.out]; omega)] at e1
        subst hf
        go_wp2
        go_ret
        exact ⟨rfl, hK⟩
  · have hf : R = false := by
      rw [hR.out]
      exact fits_false l x (fun h => hnm (by rw [← hn.out, ← hm.out, h.1]; simp [ts]))
    subst hf
    have hne : ((n : Int) != (m : Int)) = true := by rw [bne_iff_ne]; omega
    clear hnm
    go_enter Tryz.func84, Tryz.ntmps84
    go_wp2
    go_ret
    exact ⟨rfl, Keep.refl _ _⟩

end Go.Proofs.YtbnekeomdhljhaaGreatDoor.W

namespace Go.Proofs.YtbnekeomdhljhaaGreatDoor.W
open Go.RowKit

theorem gLet : Tryz.prog.globalNamed "backstay/value.letters" = some 1 := by kernel_rfl
theorem gPow : Tryz.prog.globalNamed "internal/strconv.uint64pow10" = some 4 := by kernel_rfl
theorem gSyn : Tryz.prog.globalNamed "strconv.ErrSyntax" = some 5 := by kernel_rfl
theorem gRng : Tryz.prog.globalNamed "strconv.ErrRange" = some 6 := by kernel_rfl

theorem var_keep {n : String} {g : Nat} {cs : Array Value} {w w' : World} (hg : Tryz.prog.globalNamed n = some g) (h : w.var? Tryz.prog n = some cs) (hk : Keep NoB w w') : w'.var? Tryz.prog n = some cs :=
  Go.Joins.var_stays hg h hk.toBelow (Nat.le_refl _)

def letV : Array Value := #[.int .i32 0, .int .i32 73, .int .i32 82, .int .i32 70, .int .i32 80]
def sigV : Array Value := #[.string ⟨#[]⟩, .string ⟨#[]⟩, .string ⟨#[35]⟩, .string ⟨#[64]⟩, .string ⟨#[38]⟩]

/-- The letters stand. -/
def LetAt (w : World) : Prop := w.var? Tryz.prog "backstay/value.letters" = some letV
theorem LetAt.keep {w w' : World} (h : LetAt w) (hk : Keep NoB w w') : LetAt w' := var_keep gLet h hk
theorem LetAt.cell {w : World} (h : LetAt w) (i : Nat) : w.cell? ⟨1, i, none⟩ = letV[i]? := World.var?_cell gLet h i

/-- What the texts of values are made with stands. -/
structure Laid (w : World) : Prop where
  pow : Lib.TabIs Tryz.prog w "internal/strconv.uint64pow10" .u64 Lib.pow10Tab
  syn : ∃ tp p, w.var? Tryz.prog "strconv.ErrSyntax" = some #[.iface tp p]
  rng : ∃ tp p, w.var? Tryz.prog "strconv.ErrRange" = some #[.iface tp p]
theorem Laid.keep {w w' : World} (h : Laid w) (hk : Keep NoB w w') : Laid w' :=
  ⟨var_keep gPow h.pow hk, h.syn.imp fun _ ⟨p, hp⟩ => ⟨p, var_keep gSyn hp hk⟩, h.rng.imp fun _ ⟨p, hp⟩ => ⟨p, var_keep gRng hp hk⟩⟩
set_option maxRecDepth 100000 in
set_option maxHeartbeats 1000000 in
theorem letter_any (t : Int) (w : World) (h : LetAt w) :
    Calls Tryz.prog 179 #[.int .i64 t] w fun e w' => e = .returned (.string (str (letC t))) ∧ w = w' := by
  cases hk : knownB t
  · have HL := Lib.hid (letC_none hk)
    go_enter Tryz.func179, Tryz.ntmps179
    go_wp2_with (go_at_call 124; refine (known_any _ _).mono ?_; rintro e w' ⟨rfl, rfl⟩)
    go_ret
    exact ⟨by rw [HL.out]; rfl, rfl⟩
  · rcases known_cases hk with rfl | rfl | rfl | rfl
    · have c : w.cell? ⟨1, 1, none⟩ = some (.int .i32 73) := h.cell 1
      go_enter Tryz.func179, Tryz.ntmps179
      go_wp2_with (go_at_call 124; refine (known_any _ _).mono ?_; rintro e w' ⟨rfl, rfl⟩)
      go_ret
      exact ⟨rfl, rfl⟩
    · have c : w.cell? ⟨1, 2, none⟩ = some (.int .i32 82) := h.cell 2
      go_enter Tryz.func179, Tryz.ntmps179
      go_wp2_with (go_at_call 124; refine (known_any _ _).mono ?_; rintro e w' ⟨rfl, rfl⟩)
      go_ret
      exact ⟨rfl, rfl⟩
    · have c : w.cell? ⟨1, 3, none⟩ = some (.int .i32 70) := h.cell 3
      go_enter Tryz.func179, Tryz.ntmps179
      go_wp2_with (go_at_call 124; refine (known_any _ _).mono ?_; rintro e w' ⟨rfl, rfl⟩)
      go_ret
      exact ⟨rfl, rfl⟩
    · have c : w.cell? ⟨1, 4, none⟩ = some (.int .i32 80) := h.cell 4
      go_enter Tryz.func179, Tryz.ntmps179
      go_wp2_with (go_at_call 124; refine (known_any _ _).mono ?_; rintro e w' ⟨rfl, rfl⟩)
      go_ret
      exact ⟨rfl, rfl⟩

end Go.Proofs.YtbnekeomdhljhaaGreatDoor.W

namespace Go.Proofs.YtbnekeomdhljhaaGreatDoor.W
open Go.RowKit

theorem str_app (a b : List UInt8) : str a ++ str b = str (a ++ b) := by
  apply ByteArray.ext
  simp [ByteArray.data_append]

theorem sgn_len (t : Int) : (sgn t).length ≤ 1 := by unfold sgn; split <;> (try split) <;> (try split) <;> simp

end Go.Proofs.YtbnekeomdhljhaaGreatDoor.W

namespace Go.Proofs.YtbnekeomdhljhaaGreatDoor.A
open Go.ChangeShapes Go.WideShapes Go.ChangeAt Go.RowKit

/-- Texts as a datum. -/
def strD (l : List (List UInt8)) : DataW Unit := .agg (l.map fun s => .lit (.string s))

theorem strs_of_head {P : Program} {W : World} {name : String} {l : List (List UInt8)} {rest : List (String × DataW Unit)} {g : Nat} {t e : TypeId} {n : Nat}
    (hg : P.globalNamed name = some g) (hty : (P.globals[g]?).map (·.type) = some t) (ht : P.underlying t = some (.array n e)) (he : P.underlying e = some .string) (hce : P.cellsOf e = 1) (hct : P.cellsOf t = n)
    (h : laidMet P ((name, strD l) :: rest) W) : W.var? P name = some (svs l).toArray := by
  obtain ⟨ps, ⟨g', t', cs, fuel, p, q, hg', ht', hvar, hd, _, _⟩, _⟩ := h
  obtain rfl := Option.some.inj (hg.symm.trans hg')
  obtain rfl := Option.some.inj (hty.symm.trans ht')
  obtain ⟨xs, m, _, ex, hlen, hl, hel⟩ := DataW.trod_array ht hd
  rw [hct] at hlen
  rw [hce] at hel
  have e3 : l.map (fun s => (DataW.lit (.string s) : DataW Unit)) = xs.map (·.1) := DataW.agg.inj (Prod.mk.inj ex).1
  have hll : l.length = n := by have := congrArg List.length e3; simpa [hl] using this
  have key : cs.toList = svs l := by
    refine List.ext_getElem (by simp [hlen, hll]) fun i h1 h2 => ?_
    have hin : i < n := by rw [← hlen]; exact h1
    have k := hel i hin
    have hix : i < xs.length := by rw [hl]; exact hin
    rw [List.getElem?_eq_getElem hix, Nat.mul_one, List.drop_eq_getElem_cons h1] at k
    obtain ⟨z, a0, b0, _⟩ := DataW.trod_string he k
    have a1 : cs.toList[i] = .string z := by simpa using a0
    have hil : i < l.length := by rw [hll]; exact hin
    have b1 : (DataW.lit (.string l[i]) : DataW Unit) = (xs[i]).1 := by
      have := congrArg (fun y => y[i]?) e3
      simpa [hil, hix] using this
    rw [b0] at b1
    simp only [DataW.lit.injEq, Lit.string.injEq] at b1
    rw [a1, List.getElem_map, b1]
  rw [hvar]
  have : cs = (svs l).toArray := by rw [← key]
  rw [this]

theorem strs_cell {P : Program} {W : World} {name : String} {l : List (List UInt8)} {g : Nat} (hg : P.globalNamed name = some g) (h : W.var? P name = some (svs l).toArray) (i : Nat) (hi : i < l.length) :
    W.cell? ⟨g, i, none⟩ = some (.string (str l[i])) := by
  have := World.var?_cell hg h i
  simpa [hi] using this

end Go.Proofs.YtbnekeomdhljhaaGreatDoor.A

namespace Go.Proofs.YtbnekeomdhljhaaGreatDoor.A
open Go.RowKit

theorem gBin : Tryz.prog.globalNamed "backstay/alu.binNames" = some 2 := by kernel_rfl
theorem gUn : Tryz.prog.globalNamed "backstay/alu.unNames" = some 3 := by kernel_rfl
theorem var_keepA {n : String} {g : Nat} {cs : Array Value} {w w' : World} (hg : Tryz.prog.globalNamed n = some g) (h : w.var? Tryz.prog n = some cs) (hk : Keep NoB w w') : w'.var? Tryz.prog n = some cs :=
  Go.Joins.var_stays hg h hk.toBelow (Nat.le_refl _)

/-- The names stand. -/
structure NamesAt (w : World) : Prop where
  bin : w.var? Tryz.prog "backstay/alu.binNames" = some (svs binNs).toArray
  un : w.var? Tryz.prog "backstay/alu.unNames" = some (svs unNs).toArray
theorem NamesAt.keep (w w' : World) (h : NamesAt w) (hk : Keep NoB w w') : NamesAt w' := ⟨var_keepA gBin h.bin hk, var_keepA gUn h.un hk⟩

/-- What a function of names answers, in the same world. -/
def NmS (f : FuncId) (l : List (List UInt8)) : Prop := ∀ (n : Int) (W : World), NamesAt W → -9223372036854775808 ≤ n ∧ n ≤ 9223372036854775807 →
  Calls Tryz.prog f #[.int .i64 n] W fun e w' => e = .returned (.string (str (nameAt l n))) ∧ W = w'
theorem NmS.nmC {f : FuncId} {l : List (List UInt8)} (h : NmS f l) : NmC NamesAt f l := fun n W hW hn => (h n W hW hn).mono fun e w' ⟨he, hw⟩ => ⟨he, by rw [← hw]; exact Keep.refl _ _⟩

set_option maxHeartbeats 4000000 in
theorem binName_any : NmS 181 binNs := fun n w h _ => by
  by_cases hi : 0 ≤ n ∧ n < 14
  · obtain ⟨k, rfl⟩ := Int.eq_ofNat_of_zero_le hi.1
    have hkl : k < binNs.length := by have : binNs.length = 14 := rfl; omega
    have hck := strs_cell gBin h.bin k hkl
    have HD : Hid (nameAt binNs (k : Int) = binNs[k]) := Lib.hid (by unfold nameAt; rw [if_pos hi.1, Int.toNat_natCast, getD_at hkl])
    generalize binNs[k] = x at hck HD
    clear h hkl
    go_enter Tryz.func181, Tryz.ntmps181
    go_wp2
    go_ret
    exact ⟨by rw [HD.out]; rfl, rfl⟩
  · have HD : Hid (nameAt binNs n = []) := Lib.hid (by
      unfold nameAt
      split
      · have : binNs.length ≤ n.toNat := by have : binNs.length = 14 := rfl; omega
        exact getD_past this
      · rfl)
    by_cases h0 : n < 0
    · go_enter Tryz.func181, Tryz.ntmps181
      go_wp2
      go_ret
      exact ⟨by rw [HD.out]; rfl, rfl⟩
    · have h2 : (14 : Int) ≤ n := by omega
      have h0' : decide (n < 0) = false := by simpa using h0
      go_enter Tryz.func181, Tryz.ntmps181
      go_wp2
      go_ret
      exact ⟨by rw [HD.out]; rfl, rfl⟩

set_option maxHeartbeats 4000000 in
theorem unName_any : NmS 183 unNs := fun n w h _ => by
  by_cases hi : 0 ≤ n ∧ n < 9
  · obtain ⟨k, rfl⟩ := Int.eq_ofNat_of_zero_le hi.1
    have hkl : k < unNs.length := by have : unNs.length = 9 := rfl; omega
    have hck := strs_cell gUn h.un k hkl
    have HD : Hid (nameAt unNs (k : Int) = unNs[k]) := Lib.hid (by unfold nameAt; rw [if_pos hi.1, Int.toNat_natCast, getD_at hkl])
    generalize unNs[k] = x at hck HD
    clear h hkl
    go_enter Tryz.func183, Tryz.ntmps183
    go_wp2
    go_ret
    exact ⟨by rw [HD.out]; rfl, rfl⟩
  · have HD : Hid (nameAt unNs n = []) := Lib.hid (by
      unfold nameAt
      split
      · have : unNs.length ≤ n.toNat := by have : unNs.length = 9 := rfl; omega
        exact getD_past this
      · rfl)
    by_cases h0 : n < 0
    · go_enter Tryz.func183, Tryz.ntmps183
      go_wp2
      go_ret
      exact ⟨by rw [HD.out]; rfl, rfl⟩
    · have h2 : (9 : Int) ≤ n := by omega
      have h0' : decide (n < 0) = false := by simpa using h0
      go_enter Tryz.func183, Tryz.ntmps183
      go_wp2
      go_ret
      exact ⟨by rw [HD.out]; rfl, rfl⟩

set_option maxHeartbeats 4000000 in
theorem named_any (f : FuncId) (hcf : ∀ (args : Array Value) (w : World), (callFunc f args).run Tryz.prog w = .ok (.enter f args) w) (l : List (List UInt8)) (n : Nat) (N : Hid (NmS f l)) (S : ByteArray) (s : List UInt8) (w : World) (h : NamesAt w)
    (hn : Hid (l.length = n)) (h1 : n ≤ 100000) (hs : Hid (S.data.toList = s)) :
    Calls Tryz.prog 202 #[.string S, .int .i64 n, .func (.func f) #[] #[]] w fun e w' => e = .returned (.tuple #[.int .i64 (ofI l s), .int .i64 (ofE l s)]) ∧ w = w' := by
  have hS : S.toList = s := by rw [ByteArray.toList_eq, hs.out]
  have HN := Lib.hid (fun n hn => N.out n w h hn)
  clear h N
  go_enter Tryz.func202, Tryz.ntmps202
  go_wp2
  go_loop [10] (fun i => ∃ k : Nat, k ≤ n ∧ i = .int .i64 (k : Int) ∧ Hid (∀ j (_ : j < k), l.getD j [] ≠ s)) (fun i => n - (intOf i).toNat)
  case atStart => exact ⟨0, Nat.zero_le _, rfl, fun j hj => by omega⟩
  case round =>
    obtain ⟨k, hk, rfl, hb⟩ := hrel
    by_cases hlt : k < n
    · have hkl : k < l.length := by rw [hn.out]; exact hlt
      have HK := Lib.hid (HN.out (k : Int) ⟨by omega, by omega⟩)
      have hD : nameAt l (k : Int) = l[k] := by unfold nameAt; rw [if_pos (by omega), Int.toNat_natCast, getD_at hkl]
      have hE : Hid (l.getD k [] = l[k]) := getD_at hkl
      rw [hD] at HK
      clear hD
      by_cases he : l[k] = s
      · have HH := Lib.hid (of_hit hkl he hb.out)
        have hq : (l[k] == S.toList) = true := by rw [hS, he]; simp
        generalize l[k] = x at HK hq
        clear he hE hS
        go_wp2_with fail
        refine HK.out.mono ?_
        rintro e w' ⟨rfl, rfl⟩
        go_wp2
        go_ret2
        exact ⟨ret2 HH.out.1.symm HH.out.2.symm, rfl⟩
      · have hq : (l[k] == S.toList) = false := by rw [hS]; simpa using he
        have HB : Hid (∀ j (_ : j < k + 1), l.getD j [] ≠ s) := fun j hj => by
          rcases Nat.lt_succ_iff_lt_or_eq.1 hj with h | rfl
          · exact hb.out j h
          · rw [hE.out]; exact he
        generalize l[k] = x at HK hq
        clear he hE hS
        go_wp2_with fail
        refine HK.out.mono ?_
        rintro e w' ⟨rfl, rfl⟩
        go_wp2
        go_round
        case rel => exact ⟨k + 1, by omega, by go_num, HB⟩
        case measure => simp [intOf]; omega
    · obtain rfl : k = n := by omega
      have HH := Lib.hid (of_miss (l := l) (s := s) (fun j hj => hb.out j (by rw [← hn.out]; exact hj)))
      clear hS
      go_wp2
      go_ret2
      exact ⟨ret2 HH.out.1.symm HH.out.2.symm, rfl⟩

theorem binOf_any : OfC NamesAt 182 binNs := fun S s w h hs _ => by
  have H := Lib.hid (fun W hW => named_any 181 Tryz.call181 binNs 14 (Lib.hid binName_any) S s W hW rfl (by omega) hs)
  go_enter Tryz.func182, Tryz.ntmps182
  go_wp2_with (go_at_call 202; refine (H.out _ h).mono ?_; rintro e w' ⟨rfl, rfl⟩)
  go_ret2
  exact ⟨rfl, Keep.refl _ _⟩
theorem unOf_any : OfC NamesAt 184 unNs := fun S s w h hs _ => by
  have H := Lib.hid (fun W hW => named_any 183 Tryz.call183 unNs 9 (Lib.hid unName_any) S s W hW rfl (by omega) hs)
  go_enter Tryz.func184, Tryz.ntmps184
  go_wp2_with (go_at_call 202; refine (H.out _ h).mono ?_; rintro e w' ⟨rfl, rfl⟩)
  go_ret2
  exact ⟨rfl, Keep.refl _ _⟩

end Go.Proofs.YtbnekeomdhljhaaGreatDoor.A

namespace Go.Proofs.YtbnekeomdhljhaaGreatDoor.O
open Go.RowKit

/-- What the texts of operands are made with stands. -/
structure LaidO (w : World) : Prop where
  lets : W.LetAt w
  names : A.NamesAt w
  lib : W.Laid w
theorem LaidO.keep {w w' : World} (h : LaidO w) (hk : Keep NoB w w') : LaidO w' := ⟨h.lets.keep hk, A.NamesAt.keep _ _ h.names hk, h.lib.keep hk⟩
def I64 (n : Int) : Prop := -9223372036854775808 ≤ n ∧ n ≤ 9223372036854775807

theorem word_dig {k n : Int} (h : digK k = true) : word k n = Lib.itoa n := by
  have h := of_decide_eq_true h
  unfold word
  rw [if_neg (by omega), if_neg (by omega), if_neg (by omega)]
theorem dig_0 {k : Int} (h : digK k = true) : k ≠ 0 := by have h := of_decide_eq_true h; omega
theorem word_0 {k : Int} (h : wordK k = true) : k ≠ 0 := by have h := of_decide_eq_true h; omega

theorem nameAt_len {l : List (List UInt8)} {m : Nat} (h : l.all (fun s => decide (s.length ≤ m)) = true) (n : Int) : (A.nameAt l n).length ≤ m := by
  unfold A.nameAt
  split
  · rcases Nat.lt_or_ge n.toNat l.length with hlt | hge
    · rw [A.getD_at hlt]
      exact of_decide_eq_true (List.all_eq_true.1 h _ (List.getElem_mem hlt))
    · rw [A.getD_past hge]; exact Nat.zero_le _
  · exact Nat.zero_le _
theorem word_len (k n : Int) (hn : I64 n) : (word k n).length ≤ 21 := by
  unfold word
  split
  · unfold W.letC
    repeat' split
    all_goals simp
  · split
    · exact Nat.le_trans (nameAt_len (m := 6) (by decide) n) (by omega)
    · split
      · exact Nat.le_trans (nameAt_len (m := 6) (by decide) n) (by omega)
      · exact Lib.itoa_length_le n hn.1 hn.2

set_option maxHeartbeats 1000000 in
theorem show_word (k n : Int) (b : Nat) (w : World) (hk : wordK k = true) (hn : I64 n) (h : LaidO w) (hb : w.cell? ⟨b, 0, none⟩ = some (fnV (wordF k))) :
    Calls Tryz.prog 199 #[.int .i64 n, .pointer (some ⟨b, 0, none⟩)] w fun e w' => ∃ d, e = .returned (.string d) ∧ Hid (d = str (word k n)) ∧ Keep NoB w w' := by
  have hk := of_decide_eq_true hk
  have hc : k = 8 ∨ k = 9 ∨ (k = 2 ∨ k = 3) := by omega
  clear hk
  rcases hc with rfl | rfl | hk
  · have HF := Lib.hid (A.binName_any n w h.names hn)
    have hb' : w.cell? ⟨b, 0, none⟩ = some (fnV 181) := hb
    clear h hn hb
    go_enter Tryz.func199, Tryz.ntmps199
    go_wp2_with fail
    refine HF.out.mono ?_
    rintro e w1 ⟨rfl, rfl⟩
    go_wp2
    go_ret
    exact ⟨_, rfl, rfl, Keep.refl _ _⟩
  · have HF := Lib.hid (A.unName_any n w h.names hn)
    have hb' : w.cell? ⟨b, 0, none⟩ = some (fnV 183) := hb
    clear h hn hb
    go_enter Tryz.func199, Tryz.ntmps199
    go_wp2_with fail
    refine HF.out.mono ?_
    rintro e w1 ⟨rfl, rfl⟩
    go_wp2
    go_ret
    exact ⟨_, rfl, rfl, Keep.refl _ _⟩
  · have HF := Lib.hid (W.letter_any n w h.lets)
    have hb' : w.cell? ⟨b, 0, none⟩ = some (fnV 179) := by rw [hb]; unfold wordF; rw [if_neg (by omega), if_neg (by omega)]
    have HW : Hid (word k n = W.letC n) := by show _ = _; unfold word; rw [if_pos (by omega)]
    clear h hn hb hk
    go_enter Tryz.func199, Tryz.ntmps199
    go_wp2_with fail
    refine HF.out.mono ?_
    rintro e w1 ⟨rfl, rfl⟩
    go_wp2
    go_ret
    exact ⟨_, rfl, by show _ = _; rw [HW.out], Keep.refl _ _⟩

end Go.Proofs.YtbnekeomdhljhaaGreatDoor.O

namespace Go.Proofs.YtbnekeomdhljhaaGreatDoor.O
open Go.RowKit

set_option maxHeartbeats 1000000 in
theorem rin_any (k n : Int) (p : Bool) (w : World) (hp : Hid (inK k n = p)) (h0 : 0 ≤ k) (h1 : k ≤ 10) (hI : I64 n) :
    Calls Tryz.prog 161 #[.int .i64 k, .int .i64 n] w fun e w' => e = .returned (.bool p) ∧ Keep NoB w w' := by
  by_cases hk : k = 1
  · subst hk
    have : p = true := by
      rw [← hp.out]
      exact decide_eq_true hI
    subst this
    clear hp h0 h1 hI
    go_enter Tryz.func161, Tryz.ntmps161
    go_wp2
    go_ret
    exact ⟨rfl, Keep.refl _ _⟩
  · have hq : (k == 1) = false := by rw [beq_eq_false_iff_ne]; exact hk
    have HL := Lib.hid (fun w => rleast_any k w h0 h1 hk)
    have HM := Lib.hid (fun w => rmost_any k w h0 h1 hk)
    have hd : Hid (decide (lo k ≤ n ∧ n ≤ hi k) = p) := hp
    clear hp h0 h1 hk hI
    generalize lo k = L at HL hd
    generalize hi k = M at HM hd
    cases d1 : decide (L ≤ n)
    · have : p = false := by rw [← hd.out]; exact decide_eq_false fun h => of_decide_eq_false d1 h.1
      subst this
      clear hd
      go_enter Tryz.func161, Tryz.ntmps161
      go_wp2_with fail
      refine (HL.out _).mono ?_
      rintro e w1 ⟨rfl, rfl⟩
      go_wp2
      go_ret
      exact ⟨rfl, Keep.refl _ _⟩
    · cases d2 : decide (n ≤ M)
      · have : p = false := by rw [← hd.out]; exact decide_eq_false fun h => of_decide_eq_false d2 h.2
        subst this
        clear hd
        go_enter Tryz.func161, Tryz.ntmps161
        go_wp2_with fail
        refine (HL.out _).mono ?_
        rintro e w1 ⟨rfl, rfl⟩
        go_wp2_with fail
        refine (HM.out _).mono ?_
        rintro e w1 ⟨rfl, k1⟩
        go_wp2
        go_ret
        exact ⟨rfl, k1⟩
      · have : p = true := by rw [← hd.out]; exact decide_eq_true ⟨of_decide_eq_true d1, of_decide_eq_true d2⟩
        subst this
        clear hd
        go_enter Tryz.func161, Tryz.ntmps161
        go_wp2_with fail
        refine (HL.out _).mono ?_
        rintro e w1 ⟨rfl, rfl⟩
        go_wp2_with fail
        refine (HM.out _).mono ?_
        rintro e w1 ⟨rfl, k1⟩
        go_wp2
        go_ret
        exact ⟨rfl, k1⟩

theorem blk_inst {w : World} {g : Nat} {t : TypeId} {a0 a1 a2 : Value} (h : Blk w g t #[a0, a1, a2]) : w.cell? ⟨g, 0, none⟩ = some a0 ∧ w.cell? ⟨g, 1, none⟩ = some a1 ∧ w.cell? ⟨g, 2, none⟩ = some a2 := ⟨h.cell 0, h.cell 1, h.cell 2⟩

set_option maxHeartbeats 2000000 in
theorem rcheck_any (op a b : Int) (w : World) (ha : I64 a) (hb : I64 b) :
    Calls Tryz.prog 132 #[instV op a b] w fun e w' => e = .returned (.int .i64 (chk op a b)) ∧ Keep NoB w w' := by
  obtain ⟨j0, j1, l0, l1⟩ := kinds_ok op
  obtain ⟨p, hp⟩ : ∃ p, Hid (inK (rowAt op).ka a = p) := ⟨_, rfl⟩
  obtain ⟨q, hq⟩ : ∃ q, Hid (inK (rowAt op).kb b = q) := ⟨_, rfl⟩
  have HA := Lib.hid (fun w => rin_any (rowAt op).ka a p w hp j0 j1 ha)
  have HB := Lib.hid (fun w => rin_any (rowAt op).kb b q w hq l0 l1 hb)
  have HK := Lib.hid (fun w => rkinds_any op w)
  have HX : Hid (chk op a b = if (isOp op && p && q) = true then 0 else 40) := by show _ = _; unfold chk okI; rw [hp.out, hq.out]
  clear j0 j1 l0 l1 hp hq ha hb
  generalize (rowAt op).ka = j at HA HK
  generalize (rowAt op).kb = l at HB HK
  generalize chk op a b = c at HX ⊢
  have bx0 := Blk.new w 74 #[.int .i64 op, .int .i64 a, .int .i64 b]
  have gK := (Keep.refl NoB w).alloc (.cells #[.int .i64 op, .int .i64 a, .int .i64 b] 74)
  go_enter Tryz.func132, Tryz.ntmps132
  go_wp2_with fail
  refine (HK.out _).mono ?_
  rintro e w1 ⟨rfl, rfl⟩
  go_wp2_with fail
  refine (HA.out _).mono ?_
  rintro e w2 ⟨rfl, k2⟩
  have bx := bx0.keep k2 id
  replace gK := keepN gK k2
  clear k2 bx0
  obtain ⟨x0, x1, x2⟩ := blk_inst bx
  go_wp2_with fail
  refine (HB.out _).mono ?_
  rintro e w3 ⟨rfl, k3⟩
  have bx3 := bx.keep k3 id
  replace gK := keepN gK k3
  clear k3 bx x0 x1 x2 HA HB HK
  obtain ⟨x0, x1, x2⟩ := blk_inst bx3
  cases ho : isOp op
  · have hn := isOp_no ho
    have hc : c = 40 := by rw [HX.out, ho]; rfl
    subst hc
    by_cases h0 : op < 0
    · have d0 : decide (op < 0) = true := by simpa using h0
      clear hn HX ho h0
      go_wp2
      go_ret
      exact ⟨rfl, gK⟩
    · have d0 : decide (op < 0) = false := by simpa using h0
      have d1 : decide (30 ≤ op) = true := by rw [decide_eq_true_iff]; omega
      clear hn HX ho h0
      go_wp2
      go_ret
      exact ⟨rfl, gK⟩
  · have hn := isOp_yes ho
    have d0 : decide (op < 0) = false := by rw [decide_eq_false_iff_not]; omega
    have d1 : decide (30 ≤ op) = false := by rw [decide_eq_false_iff_not]; omega
    cases p
    · have hc : c = 40 := by rw [HX.out, ho]; rfl
      subst hc
      clear hn HX ho
      go_wp2
      go_ret
      exact ⟨rfl, gK⟩
    · cases q
      · have hc : c = 40 := by rw [HX.out, ho]; rfl
        subst hc
        clear hn HX ho
        go_wp2
        go_ret
        exact ⟨rfl, gK⟩
      · have hc : c = 0 := by rw [HX.out, ho]; rfl
        subst hc
        clear hn HX ho
        go_wp2
        go_ret
        exact ⟨rfl, gK⟩

end Go.Proofs.YtbnekeomdhljhaaGreatDoor.O

namespace Go.Proofs.YtbnekeomdhljhaaGreatDoor.O
open Go.RowKit

theorem op_cases {op : Int} (h : isOp op = true) : op = 0 ∨ op = 1 ∨ op = 2 ∨ op = 3 ∨ op = 4 ∨ op = 5 ∨ op = 6 ∨ op = 7 ∨ op = 8 ∨ op = 9 ∨ op = 10 ∨ op = 11 ∨ op = 12 ∨ op = 13 ∨ op = 14 ∨ op = 15 ∨ op = 16 ∨ op = 17 ∨ op = 18 ∨ op = 19 ∨ op = 20 ∨ op = 21 ∨ op = 22 ∨ op = 23 ∨ op = 24 ∨ op = 25 ∨ op = 26 ∨ op = 27 ∨ op = 28 ∨ op = 29 := by
  have := isOp_yes h
  omega
theorem fin_at {op : Int} (h : isOp op = true) : (rowAt op).fin = ((op == 18) || ((op == 24) || ((op == 25) || (op == 27)))) := by
  rcases op_cases h with rfl | rfl | rfl | rfl | rfl | rfl | rfl | rfl | rfl | rfl | rfl | rfl | rfl | rfl | rfl | rfl | rfl | rfl | rfl | rfl | rfl | rfl | rfl | rfl | rfl | rfl | rfl | rfl | rfl | rfl <;> rfl
theorem ten_at {op : Int} (h : isOp op = true) : decide ((rowAt op).ka = 10) = ((op == 18) || (op == 19)) := by
  rcases op_cases h with rfl | rfl | rfl | rfl | rfl | rfl | rfl | rfl | rfl | rfl | rfl | rfl | rfl | rfl | rfl | rfl | rfl | rfl | rfl | rfl | rfl | rfl | rfl | rfl | rfl | rfl | rfl | rfl | rfl | rfl <;> rfl
theorem rcheck_gen (op a b c : Int) (w : World) (h : chk op a b = c) (ha : I64 a) (hb : I64 b) :
    Calls Tryz.prog 132 #[instV op a b] w fun e w' => e = .returned (.int .i64 c) ∧ Keep NoB w w' := by subst h; exact rcheck_any op a b w ha hb

set_option maxHeartbeats 2000000 in
theorem rends_any (op a b : Int) (w : World) (ha : I64 a) (hb : I64 b) :
    Calls Tryz.prog 133 #[instV op a b] w fun e w' => e = .returned (.bool (endsI op a b)) ∧ Keep NoB w w' := by
  have bx0 := Blk.new w 74 #[.int .i64 op, .int .i64 a, .int .i64 b]
  have gK := (Keep.refl NoB w).alloc (.cells #[.int .i64 op, .int .i64 a, .int .i64 b] 74)
  cases hok : okI op a b
  · have HC := Lib.hid (fun w => rcheck_gen op a b 40 w (by unfold chk; rw [hok]; rfl) ha hb)
    have HX : Hid (endsI op a b = false) := by show _ = _; unfold endsI; rw [rowR_no hok]; rfl
    clear hok ha hb
    go_enter Tryz.func133, Tryz.ntmps133
    go_wp2_with fail
    refine (HC.out _).mono ?_
    rintro e w1 ⟨rfl, k1⟩
    go_wp2
    go_ret
    exact ⟨by rw [HX.out]; rfl, keepN gK k1⟩
  · have HC := Lib.hid (fun w => rcheck_gen op a b 0 w (by unfold chk; rw [hok]; rfl) ha hb)
    have HX : Hid (endsI op a b = ((op == 18) || ((op == 24) || ((op == 25) || (op == 27))))) := by show _ = _; unfold endsI; rw [rowR_ok hok, fin_at (ok_op hok).1]
    clear hok ha hb
    cases e1 : op == 18
    · cases e2 : op == 24
      · cases e3 : op == 25
        · cases e4 : op == 27
          · rw [e1, e2, e3, e4] at HX
            go_enter Tryz.func133, Tryz.ntmps133
            go_wp2_with fail
            refine (HC.out _).mono ?_
            rintro e w1 ⟨rfl, k1⟩
            have bx := bx0.keep k1 id
            obtain ⟨x0, x1, x2⟩ := blk_inst bx
            go_wp2
            go_ret
            exact ⟨by rw [HX.out]; rfl, keepN gK k1⟩
          · rw [e1, e2, e3, e4] at HX
            go_enter Tryz.func133, Tryz.ntmps133
            go_wp2_with fail
            refine (HC.out _).mono ?_
            rintro e w1 ⟨rfl, k1⟩
            have bx := bx0.keep k1 id
            obtain ⟨x0, x1, x2⟩ := blk_inst bx
            go_wp2
            go_ret
            exact ⟨by rw [HX.out]; rfl, keepN gK k1⟩
        · rw [e1, e2, e3] at HX
          go_enter Tryz.func133, Tryz.ntmps133
          go_wp2_with fail
          refine (HC.out _).mono ?_
          rintro e w1 ⟨rfl, k1⟩
          have bx := bx0.keep k1 id
          obtain ⟨x0, x1, x2⟩ := blk_inst bx
          go_wp2
          go_ret
          exact ⟨by rw [HX.out]; rfl, keepN gK k1⟩
      · rw [e1, e2] at HX
        go_enter Tryz.func133, Tryz.ntmps133
        go_wp2_with fail
        refine (HC.out _).mono ?_
        rintro e w1 ⟨rfl, k1⟩
        have bx := bx0.keep k1 id
        obtain ⟨x0, x1, x2⟩ := blk_inst bx
        go_wp2
        go_ret
        exact ⟨by rw [HX.out]; rfl, keepN gK k1⟩
    · rw [e1] at HX
      go_enter Tryz.func133, Tryz.ntmps133
      go_wp2_with fail
      refine (HC.out _).mono ?_
      rintro e w1 ⟨rfl, k1⟩
      have bx := bx0.keep k1 id
      obtain ⟨x0, x1, x2⟩ := blk_inst bx
      go_wp2
      go_ret
      exact ⟨by rw [HX.out]; rfl, keepN gK k1⟩

set_option maxHeartbeats 2000000 in
theorem rgoes_any (op a b : Int) (w : World) (ha : I64 a) (hb : I64 b) :
    Calls Tryz.prog 131 #[instV op a b] w fun e w' => e = .returned (.tuple #[.int .i64 (goesN op a b), .bool (goesI op a b)]) ∧ Keep NoB w w' := by
  have bx0 := Blk.new w 74 #[.int .i64 op, .int .i64 a, .int .i64 b]
  have gK := (Keep.refl NoB w).alloc (.cells #[.int .i64 op, .int .i64 a, .int .i64 b] 74)
  cases hok : okI op a b
  · have HC := Lib.hid (fun w => rcheck_gen op a b 40 w (by unfold chk; rw [hok]; rfl) ha hb)
    have h1 : goesI op a b = false := by unfold goesI; rw [rowR_no hok]; rfl
    have HX : Hid (goesN op a b = 0 ∧ goesI op a b = false) := ⟨by unfold goesN; rw [if_neg (by rw [h1]; decide)], h1⟩
    clear hok ha hb h1
    go_enter Tryz.func131, Tryz.ntmps131
    go_wp2_with fail
    refine (HC.out _).mono ?_
    rintro e w1 ⟨rfl, k1⟩
    go_wp2
    go_ret2
    exact ⟨pr2 HX.out.1.symm HX.out.2.symm, keepN gK k1⟩
  · have HC := Lib.hid (fun w => rcheck_gen op a b 0 w (by unfold chk; rw [hok]; rfl) ha hb)
    have h0 : goesI op a b = ((op == 18) || (op == 19)) := by unfold goesI; rw [rowR_ok hok, ten_at (ok_op hok).1]
    clear hok ha hb
    by_cases u1 : op = 18
    · have e1 : (op != 18) = false := by simp [u1]
      have h1 : goesI op a b = true := by rw [h0, u1]; rfl
      have HX : Hid (goesN op a b = a ∧ goesI op a b = true) := ⟨by unfold goesN; rw [if_pos h1], h1⟩
      clear h0 h1 u1
      go_enter Tryz.func131, Tryz.ntmps131
      go_wp2_with fail
      refine (HC.out _).mono ?_
      rintro e w1 ⟨rfl, k1⟩
      have bx := bx0.keep k1 id
      obtain ⟨x0, x1, x2⟩ := blk_inst bx
      go_wp2
      go_ret2
      exact ⟨pr2 HX.out.1.symm HX.out.2.symm, keepN gK k1⟩
    · have e1 : (op != 18) = true := by simp [u1]
      by_cases u2 : op = 19
      · have e2 : (op != 19) = false := by simp [u2]
        have h1 : goesI op a b = true := by rw [h0, u2]; rfl
        have HX : Hid (goesN op a b = a ∧ goesI op a b = true) := ⟨by unfold goesN; rw [if_pos h1], h1⟩
        clear h0 h1 u1 u2
        go_enter Tryz.func131, Tryz.ntmps131
        go_wp2_with fail
        refine (HC.out _).mono ?_
        rintro e w1 ⟨rfl, k1⟩
        have bx := bx0.keep k1 id
        obtain ⟨x0, x1, x2⟩ := blk_inst bx
        go_wp2
        go_ret2
        exact ⟨pr2 HX.out.1.symm HX.out.2.symm, keepN gK k1⟩
      · have e2 : (op != 19) = true := by simp [u2]
        have h1 : goesI op a b = false := by rw [h0]; simp [u1, u2]
        have HX : Hid (goesN op a b = 0 ∧ goesI op a b = false) := ⟨by unfold goesN; rw [if_neg (by rw [h1]; decide)], h1⟩
        clear h0 h1 u1 u2
        go_enter Tryz.func131, Tryz.ntmps131
        go_wp2_with fail
        refine (HC.out _).mono ?_
        rintro e w1 ⟨rfl, k1⟩
        have bx := bx0.keep k1 id
        obtain ⟨x0, x1, x2⟩ := blk_inst bx
        go_wp2
        go_ret2
        exact ⟨pr2 HX.out.1.symm HX.out.2.symm, keepN gK k1⟩

end Go.Proofs.YtbnekeomdhljhaaGreatDoor.O

namespace Go.Proofs.YtbnekeomdhljhaaGreatDoor.C
open Go.RowKit O

theorem rgoes_gen (op a b to : Int) (t : Bool) (w : World) (h1 : goesN op a b = to) (h2 : goesI op a b = t) (ha : O.I64 a) (hb : O.I64 b) :
    Calls Tryz.prog 131 #[instV op a b] w fun e w' => e = .returned (.tuple #[.int .i64 to, .bool t]) ∧ Keep NoB w w' := by subst h1 h2; exact rgoes_any op a b w ha hb
theorem rends_gen (op a b : Int) (t : Bool) (w : World) (h : endsI op a b = t) (ha : O.I64 a) (hb : O.I64 b) :
    Calls Tryz.prog 133 #[instV op a b] w fun e w' => e = .returned (.bool t) ∧ Keep NoB w w' := by subst h; exact rends_any op a b w ha hb
/-- The numbers of a list fit. -/
def AllI (l : List I3) : Prop := ∀ x ∈ l, O.I64 x.2.1 ∧ O.I64 x.2.2

set_option maxRecDepth 100000 in
set_option maxHeartbeats 4000000 in
theorem rcchk_any (A : Option Addr) (l : List I3) (n c : Nat) (w : World) (hr : Rd w A (iis l)) (hn : Hid (l.length = n)) (hI : Hid (AllI l)) (hm : n ≤ 9223372036854775807) (R : Int) (hR : Hid (chkB l = R)) :
    Calls Tryz.prog 75 #[.slice A n c] w fun e w' => e = .returned (.int .i64 R) ∧ Keep NoB w w' := by
  by_cases h0 : n = 0
  · subst h0
    obtain rfl : 50 = R := by rw [← hR.out, List.length_eq_zero_iff.1 hn.out]; rfl
    go_enter Tryz.func75, Tryz.ntmps75
    go_wp2
    go_ret
    exact ⟨rfl, Keep.refl _ _⟩
  by_cases h5 : 512 < n
  · obtain rfl : 50 = R := by rw [← hR.out, chkB_no (okB_long (by rw [hn.out]; omega))]
    have hq : decide ((512 : Int) < (n : Int)) = true := by rw [decide_eq_true_iff]; omega
    have hz : decide ((n : Int) < 1) = false := by rw [decide_eq_false_iff_not]; omega
    clear h5 h0
    go_enter Tryz.func75, Tryz.ntmps75
    go_wp2
    go_ret
    exact ⟨rfl, Keep.refl _ _⟩
  obtain ⟨m, rfl⟩ : ∃ m, n = m + 1 := ⟨n - 1, by omega⟩
  have hz2 : decide ((m : Int) + 1 < 1) = false := by rw [decide_eq_false_iff_not]; omega
  have hq2 : decide ((512 : Int) < (m : Int) + 1) = false := by rw [decide_eq_false_iff_not]; omega
  have hm5 : m + 1 ≤ 512 := by omega
  have hl0 : 0 < l.length := by rw [hn.out]; omega
  obtain ⟨g, off, rfl, hc⟩ := rdJ_at hr hl0
  have HC := Lib.hid hc
  clear hc hr h0 h5
  go_enter Tryz.func75, Tryz.ntmps75
  go_wp2
  go_loopw [4] (fun i wr => ∃ k : Nat, k ≤ m + 1 ∧ i = .int .i64 k ∧ Hid ((l.take k).all (itemB (m + 1)) = true) ∧ Keep NoB w wr) (fun i _ => m + 1 - (intOf i).toNat)
  case atStart => exact ⟨0, Nat.zero_le _, rfl, rfl, Keep.refl _ _⟩
  case round =>
    obtain ⟨k, hk, rfl, hall, hK⟩ := hrel
    by_cases hlt : k < m + 1
    · have hkl : k < l.length := by rw [hn.out]; exact hlt
      obtain ⟨d0, d1, d2⟩ := HC.out k hkl
      have c0 := hK.cell d0 id
      have c1 := hK.cell d1 id
      have c2 := hK.cell d2 id
      have HT := Lib.hid (show l.take (k + 1) = l.take k ++ [l[k]] from List.take_succ_eq_append_getElem hkl)
      have HN : Hid (itemB l.length l[k] = false → 50 = R) := fun h => by rw [← hR.out, chkB_no (okB_item (all_no hkl h))]
      have hab := hI.out l[k] (List.getElem_mem hkl)
      rw [hn.out] at HN
      generalize l[k] = x at d0 d1 d2 c0 c1 c2 HT HN hab
      obtain ⟨op, a, b⟩ := x
      dsimp only at d0 d1 d2 c0 c1 c2 hab
      have ha := Lib.hid hab.1
      have hb' := Lib.hid hab.2
      have HD : Hid (∀ w', Keep NoB w w' → w'.cell? ⟨g, off + k * 3, none⟩ = some (.int .i64 op) ∧ w'.cell? ⟨g, off + k * 3 + 1, none⟩ = some (.int .i64 a) ∧ w'.cell? ⟨g, off + k * 3 + 2, none⟩ = some (.int .i64 b)) := fun w' h => ⟨h.cell d0 id, h.cell d1 id, h.cell d2 id⟩
      obtain ⟨to, hto⟩ : ∃ to, goesN op a b = to := ⟨_, rfl⟩
      have hb : 0 ≤ to ∧ to ≤ 511 := by rw [← hto]; exact gN_in (op, a, b)
      obtain ⟨t, htt⟩ : ∃ t, goesI op a b = t := ⟨_, rfl⟩
      have HG := Lib.hid (fun w => rgoes_gen op a b to t w hto htt ha.out hb'.out)
      clear d0 d1 d2 hab
      cases ho : okI op a b
      · obtain rfl := HN.out (item_no1 ho)
        have HO := Lib.hid (fun w => rcheck_gen op a b 40 w (by unfold chk; rw [ho]; rfl) ha.out hb'.out)
        clear ho hto HN HT hall hR htt
        go_wp2_with fail
        refine (HG.out _).mono ?_
        rintro e w2 ⟨rfl, k2⟩
        have gK := keepN hK k2
        obtain ⟨x0, x1, x2⟩ := HD.out _ gK
        clear c0 c1 c2
        go_wp2_with (go_at_call 132; refine (HO.out _).mono ?_; rintro e w3 ⟨rfl, k3⟩)
        go_ret
        exact ⟨rfl, keepN gK k3⟩
      have HO := Lib.hid (fun w => rcheck_gen op a b 0 w (by unfold chk; rw [ho]; rfl) ha.out hb'.out)
      by_cases ht : to < ((m + 1 : Nat) : Int)
      · have ht2 : ¬ ((m : Int) + 1 ≤ to) := by omega
        have ht3 : decide ((m : Int) + 1 ≤ to) = false := by rw [decide_eq_false_iff_not]; omega
        have ha2 : Hid ((l.take (k + 1)).all (itemB (m + 1)) = true) := by
          show _ = _
          rw [HT.out, List.all_append, hall.out]
          simp only [List.all_cons, List.all_nil, Bool.and_true, Bool.true_and]
          exact item_yes ho (by show goesN op a b < _; rw [hto]; exact ht)
        clear ho hto HN HT hall hR ht htt
        cases t
        all_goals
          go_wp2_with fail
          refine (HG.out _).mono ?_
          rintro e w2 ⟨rfl, k2⟩
          have gK := keepN hK k2
          obtain ⟨x0, x1, x2⟩ := HD.out _ gK
          clear c0 c1 c2
          go_wp2_with (go_at_call 132; refine (HO.out _).mono ?_; rintro e w3 ⟨rfl, k3⟩)
          go_roundw
          case rel => exact ⟨k + 1, by omega, by go_num, ha2, keepN gK k3⟩
          case measure => simp [intOf]; omega
      · obtain rfl := HN.out (item_no2 (by show ¬ goesN op a b < _; rw [hto]; exact ht))
        have ht2 : ((m : Int) + 1 ≤ to) := by omega
        obtain rfl : t = true := by
          cases t
          · have := gN_no (x := (op, a, b)) htt
            rw [show gN (op, a, b) = to from hto] at this
            omega
          · rfl
        clear ho hto HN HT hall hR ht htt
        go_wp2_with fail
        refine (HG.out _).mono ?_
        rintro e w2 ⟨rfl, k2⟩
        have gK := keepN hK k2
        obtain ⟨x0, x1, x2⟩ := HD.out _ gK
        clear c0 c1 c2
        go_wp2_with (go_at_call 132; refine (HO.out _).mono ?_; rintro e w3 ⟨rfl, k3⟩)
        go_ret
        exact ⟨rfl, keepN gK k3⟩
    · obtain rfl : k = m + 1 := by omega
      rw [List.take_of_length_le (by rw [hn.out]; omega)] at hall
      have hml : m < l.length := by rw [hn.out]; omega
      obtain ⟨d0, d1, d2⟩ := HC.out m hml
      have c0 := hK.cell d0 id
      have c1 := hK.cell d1 id
      have c2 := hK.cell d2 id
      have hlast : Hid (lastB l = eB l[m]) := by
        show _ = _
        rw [lastB_at hl0]
        congr 2
        rw [hn.out]; omega
      have hab := hI.out l[m] (List.getElem_mem hml)
      clear d0 d1 d2 HC
      generalize l[m] = x at c0 c1 c2 hlast hab
      obtain ⟨op, a, b⟩ := x
      dsimp only at c0 c1 c2 hab
      cases he : endsI op a b
      · obtain rfl : 50 = R := by rw [← hR.out, chkB_no (okB_last (by rw [hlast.out]; exact he))]
        have HE := Lib.hid (fun w => rends_gen op a b _ w he hab.1 hab.2)
        clear he hlast hR hab hall
        go_wp2_with (go_at_call 133; refine (HE.out _).mono ?_; rintro e w1 ⟨rfl, k1⟩)
        go_ret
        exact ⟨rfl, keepN hK k1⟩
      · obtain rfl : 0 = R := by
          rw [← hR.out, chkB_ok (okB_mk (by rw [hn.out]; exact hm5) (by rw [hlast.out]; exact he) (by rw [hn.out]; exact hall.out))]
        have HE := Lib.hid (fun w => rends_gen op a b _ w he hab.1 hab.2)
        clear he hlast hR hab hall
        go_wp2_with (go_at_call 133; refine (HE.out _).mono ?_; rintro e w1 ⟨rfl, k1⟩)
        go_ret
        exact ⟨rfl, keepN hK k1⟩

set_option maxRecDepth 100000 in
set_option maxHeartbeats 4000000 in
theorem lists_any (A B : Option Addr) (la lb : List I3) (n m c d : Nat) (w : World) (ha : Rd w A (iis la)) (hb : Rd w B (iis lb)) (hn : Hid (la.length = n)) (hm : Hid (lb.length = m))
    (h1 : n ≤ 9223372036854775807) (h2 : m ≤ 9223372036854775807) (R : Bool) (hR : Hid (R = decide (la = lb))) :
    Calls Tryz.prog 79 #[.slice A n c, .slice B m d] w fun e w' => e = .returned (.bool R) ∧ Keep NoB w w' := by
  by_cases hnm : n = m
  · subst hnm
    go_enter Tryz.func79, Tryz.ntmps79
    go_wp2
    go_loopw [5] (fun i wr => ∃ k : Nat, k ≤ n ∧ i = .int .i64 k ∧ Hid (la.take k = lb.take k) ∧ Keep NoB w wr) (fun i _ => n - (intOf i).toNat)
    case atStart => exact ⟨0, Nat.zero_le _, rfl, rfl, Keep.refl _ _⟩
    case round =>
      obtain ⟨k, hk, rfl, ht, hK⟩ := hrel
      by_cases hlt : k < n
      · have hka : k < la.length := by rw [hn.out]; exact hlt
        have hkb : k < lb.length := by rw [hm.out]; exact hlt
        obtain ⟨ga, oa, rfl, hca⟩ := rdJ_at ha (by omega)
        obtain ⟨gb, ob, rfl, hcb⟩ := rdJ_at hb (by omega)
        have ca0 := hK.cell (hca k hka).1 id
        have ca1 := hK.cell (hca k hka).2.1 id
        have ca2 := hK.cell (hca k hka).2.2 id
        have cb0 := hK.cell (hcb k hkb).1 id
        have cb1 := hK.cell (hcb k hkb).2.1 id
        have cb2 := hK.cell (hcb k hkb).2.2 id
        have HT := Lib.hid (show la.take (k + 1) = la.take k ++ [la[k]] from List.take_succ_eq_append_getElem hka)
        have HU := Lib.hid (show lb.take (k + 1) = lb.take k ++ [lb[k]] from List.take_succ_eq_append_getElem hkb)
        clear hca hcb
        by_cases he : la[k] = lb[k]
        · have HV : Hid (la.take (k + 1) = lb.take (k + 1)) := by show _ = _; rw [HT.out, HU.out, ht.out, he]
          rw [he] at ca0 ca1 ca2
          clear he HT HU ha hb
          generalize lb[k] = y at ca0 ca1 ca2 cb0 cb1 cb2
          obtain ⟨y0, y1, y2⟩ := y
          dsimp only at ca0 ca1 ca2 cb0 cb1 cb2
          go_wp2
          go_quiet (fail)
          go_wp2
          go_roundw
          case rel => exact ⟨k + 1, by omega, by go_num, HV, hK.drewN _⟩
          case measure => simp [intOf]; omega
        · have hf : R = false := by
            rw [hR.out, decide_eq_false_iff_not]
            intro e
            exact he (by simp [e])
          subst hf
          clear HT HU ha hb
          generalize la[k] = x at ca0 ca1 ca2 he
          generalize lb[k] = y at cb0 cb1 cb2 he
          obtain ⟨x0, x1, x2⟩ := x
          obtain ⟨y0, y1, y2⟩ := y
          dsimp only at ca0 ca1 ca2 cb0 cb1 cb2
          by_cases h0 : x0 = y0
          · subst h0
            by_cases h3 : x1 = y1
            · subst h3
              have hne : (x2 == y2) = false := by rw [beq_eq_false_iff_ne]; rintro rfl; exact he rfl
              clear he
              go_wp2
              go_quiet (fail)
              go_wp2
              go_ret
              exact ⟨rfl, hK.drewN _⟩
            · have hne : (x1 == y1) = false := by rw [beq_eq_false_iff_ne]; exact h3
              clear he h3
              go_wp2
              go_quiet (fail)
              go_wp2
              go_ret
              exact ⟨rfl, hK.drewN _⟩
          · have hne : (x0 == y0) = false := by rw [beq_eq_false_iff_ne]; exact h0
            clear he h0
            go_wp2
            go_quiet (fail)
            go_wp2
            go_ret
            exact ⟨rfl, hK.drewN _⟩
      · have hf : R = true := by
          rw [hR.out, decide_eq_true_iff]
          have e1 := ht.out
          rwa [List.take_of_length_le (by rw [hn.out]; omega), List.take_of_length_le (by rw [hm.out]; omega)] at e1
        subst hf
        go_wp2
        go_ret
        exact ⟨rfl, hK⟩
  · have hf : R = false := by
      rw [hR.out, decide_eq_false_iff_not]
      intro e
      exact hnm (by rw [← hn.out, ← hm.out, e])
    subst hf
    have hne : ((n : Int) != (m : Int)) = true := by rw [bne_iff_ne]; omega
    clear hnm
    go_enter Tryz.func79, Tryz.ntmps79
    go_wp2
    go_ret
    exact ⟨rfl, Keep.refl _ _⟩

end Go.Proofs.YtbnekeomdhljhaaGreatDoor.C

namespace Go.Proofs.YtbnekeomdhljhaaGreatDoor.F
open Go.RowKit W

/-- A function's value: its name, and where its lists lie. -/
structure FV where
  S : ByteArray
  A : Option Addr
  na : Nat
  ca : Nat
  B : Option Addr
  nb : Nat
  cb : Nat
  L : Option Addr
  nl : Nat
  cl : Nat
  D : Option Addr
  nd : Nat
  cd : Nat
def FV.sig (v : FV) : Value := .agg #[.slice v.A v.na v.ca, .slice v.B v.nb v.cb]
def FV.cells (v : FV) : Array Value := #[.string v.S, .slice v.A v.na v.ca, .slice v.B v.nb v.cb, .slice v.L v.nl v.cl, .slice v.D v.nd v.cd]
def FV.val (v : FV) : Value := .agg v.cells
/-- What its lists hold, wherever the value itself lies; numbers fit an int64. -/
structure FnAt (w : World) (v : FV) (f : Fu) : Prop where
  nm : v.S.data.toList = f.nm
  ra : Rd w v.A (ivs f.ar)
  rb : Rd w v.B (ivs f.rs)
  rl : Rd w v.L (ivs f.lc)
  rd : Rd w v.D (C.iis f.bd)
  la : f.ar.length = v.na
  lb : f.rs.length = v.nb
  ll : f.lc.length = v.nl
  ld : f.bd.length = v.nd
  hI : C.AllI f.bd
/-- It is no greater than statements go through. -/
structure SmF (v : FV) : Prop where
  sz : v.S.size ≤ 100
  na : v.na ≤ 100
  nb : v.nb ≤ 100
  nl : v.nl ≤ 100
  nd : v.nd ≤ 600
theorem FnAt.keep {O : Nat → Prop} {w w' : World} {v : FV} {f : Fu} (h : FnAt w v f) (hk : Keep O w w') (hO : ∀ k, k < w.heap.size → ¬ O k) : FnAt w' v f :=
  have h2 : Keep NoB w w' := hk.mono (fun k ho hl => absurd ho (hO k hl))
  ⟨h.nm, h.ra.keepN h2, h.rb.keepN h2, h.rl.keepN h2, h.rd.keepN h2, h.la, h.lb, h.ll, h.ld, h.hI⟩
theorem FnAt.keepN {w w' : World} {v : FV} {f : Fu} (h : FnAt w v f) (hk : Keep NoB w w') : FnAt w' v f := h.keep hk (fun _ _ => id)
theorem sz_len {S : ByteArray} {s : List UInt8} (h : S.data.toList = s) : S.size = s.length := by rw [← h]; rfl
theorem blk5 {w : World} {g : Nat} {t : TypeId} {v : FV} (h : Blk w g t v.cells) : w.cell? ⟨g, 0, none⟩ = some (.string v.S) ∧ w.cell? ⟨g, 1, none⟩ = some (.slice v.A v.na v.ca) ∧ w.cell? ⟨g, 2, none⟩ = some (.slice v.B v.nb v.cb) ∧
    w.cell? ⟨g, 3, none⟩ = some (.slice v.L v.nl v.cl) ∧ w.cell? ⟨g, 4, none⟩ = some (.slice v.D v.nd v.cd) := ⟨h.cell 0, h.cell 1, h.cell 2, h.cell 3, h.cell 4⟩

end Go.Proofs.YtbnekeomdhljhaaGreatDoor.F

namespace Go.Proofs.YtbnekeomdhljhaaGreatDoor.F
open Go.RowKit W

theorem let_dec (n : Nat) (h : n < 256) : (UInt8.ofNat n).toNat = n := by rw [UInt8.toNat_ofNat', Nat.mod_eq_of_lt h]
theorem letB_yes {c : UInt8} (h : (97 ≤ c.toNat ∧ c.toNat ≤ 122) ∨ (65 ≤ c.toNat ∧ c.toNat ≤ 90)) : letB c = true := (letB_iff c).2 h
theorem letB_no {c : UInt8} (h : ¬ ((97 ≤ c.toNat ∧ c.toNat ≤ 122) ∨ (65 ≤ c.toNat ∧ c.toNat ≤ 90))) : letB c = false := by
  cases hb : letB c
  · rfl
  · exact absurd ((letB_iff c).1 hb) h
theorem digB_yes {c : UInt8} (h : 48 ≤ c.toNat ∧ c.toNat ≤ 57) : digB c = true := (digB_iff c).2 h
theorem digB_no {c : UInt8} (h : ¬ (48 ≤ c.toNat ∧ c.toNat ≤ 57)) : digB c = false := by
  cases hb : digB c
  · rfl
  · exact absurd ((digB_iff c).1 hb) h

set_option maxRecDepth 100000 in
set_option maxHeartbeats 2000000 in
theorem letter_any (c : UInt8) (w : World) : Calls Tryz.prog 64 #[.int .u8 (c.toNat : Int)] w fun e w' => e = .returned (.bool (letB c)) ∧ w = w' := by
  have hc : c.toNat < 256 := UInt8.toNat_lt _
  have HY : Hid ((97 ≤ c.toNat ∧ c.toNat ≤ 122) ∨ (65 ≤ c.toNat ∧ c.toNat ≤ 90) → letB c = true) := letB_yes
  have HN : Hid (¬ ((97 ≤ c.toNat ∧ c.toNat ≤ 122) ∨ (65 ≤ c.toNat ∧ c.toNat ≤ 90)) → letB c = false) := letB_no
  generalize letB c = R at HY HN
  generalize c.toNat = n at hc HY HN
  by_cases h0 : n < 65
  · skip
    obtain rfl : false = R := (HN.out (by omega)).symm
    clear HY HN
    go_enter Tryz.func64, Tryz.ntmps64
    go_wp2
    go_ret
    exact ⟨ret_bool (by first | rfl | (simp; done) | (simp; omega)), rfl⟩
  by_cases h1 : n ≤ 90
  · skip
    obtain rfl : true = R := (HY.out (by omega)).symm
    clear HY HN
    go_enter Tryz.func64, Tryz.ntmps64
    go_wp2
    go_ret
    exact ⟨ret_bool (by first | rfl | (simp; done) | (simp; omega)), rfl⟩
  by_cases h2 : n < 97
  · skip
    obtain rfl : false = R := (HN.out (by omega)).symm
    clear HY HN
    go_enter Tryz.func64, Tryz.ntmps64
    go_wp2
    go_ret
    exact ⟨ret_bool (by first | rfl | (simp; done) | (simp; omega)), rfl⟩
  by_cases h3 : n ≤ 122
  · skip
    obtain rfl : true = R := (HY.out (by omega)).symm
    clear HY HN
    go_enter Tryz.func64, Tryz.ntmps64
    go_wp2
    go_ret
    exact ⟨ret_bool (by first | rfl | (simp; done) | (simp; omega)), rfl⟩
  obtain rfl : false = R := (HN.out (by omega)).symm
  clear HY HN
  go_enter Tryz.func64, Tryz.ntmps64
  go_wp2
  go_ret
  exact ⟨ret_bool (by first | rfl | (simp; done) | (simp; omega)), rfl⟩

set_option maxRecDepth 100000 in
set_option maxHeartbeats 2000000 in
theorem digit_any (c : UInt8) (w : World) : Calls Tryz.prog 65 #[.int .u8 (c.toNat : Int)] w fun e w' => e = .returned (.bool (digB c)) ∧ w = w' := by
  have hc : c.toNat < 256 := UInt8.toNat_lt _
  have HY : Hid (48 ≤ c.toNat ∧ c.toNat ≤ 57 → digB c = true) := digB_yes
  have HN : Hid (¬ (48 ≤ c.toNat ∧ c.toNat ≤ 57) → digB c = false) := digB_no
  generalize digB c = R at HY HN
  generalize c.toNat = n at hc HY HN
  by_cases h0 : n < 48
  · skip
    obtain rfl : false = R := (HN.out (by omega)).symm
    clear HY HN
    go_enter Tryz.func65, Tryz.ntmps65
    go_wp2
    go_ret
    exact ⟨ret_bool (by first | rfl | (simp; done) | (simp; omega)), rfl⟩
  by_cases h1 : n ≤ 57
  · skip
    obtain rfl : true = R := (HY.out (by omega)).symm
    clear HY HN
    go_enter Tryz.func65, Tryz.ntmps65
    go_wp2
    go_ret
    exact ⟨ret_bool (by first | rfl | (simp; done) | (simp; omega)), rfl⟩
  obtain rfl : false = R := (HN.out (by omega)).symm
  clear HY HN
  go_enter Tryz.func65, Tryz.ntmps65
  go_wp2
  go_ret
  exact ⟨ret_bool (by first | rfl | (simp; done) | (simp; omega)), rfl⟩

theorem low_tab : ∀ n : Fin 256, (n.val ≤ 64 → ¬ ((97 ≤ n.val ∧ n.val ≤ 122) ∨ (65 ≤ n.val ∧ n.val ≤ 90))) ∧ (64 < n.val → ((97 ≤ n.val ∧ n.val ≤ 122) ∨ (65 ≤ n.val ∧ n.val ≤ 90) ↔ 97 ≤ (n.val ||| 32) ∧ (n.val ||| 32) ≤ 122)) := by decide +kernel

set_option maxRecDepth 100000 in
set_option maxHeartbeats 2000000 in
theorem rletter_any (c : UInt8) (w : World) : Calls Tryz.prog 66 #[.int .u8 (c.toNat : Int)] w fun e w' => e = .returned (.bool (letB c)) ∧ w = w' := by
  have hc : c.toNat < 256 := UInt8.toNat_lt _
  have HY : Hid ((97 ≤ c.toNat ∧ c.toNat ≤ 122) ∨ (65 ≤ c.toNat ∧ c.toNat ≤ 90) → letB c = true) := letB_yes
  have HN : Hid (¬ ((97 ≤ c.toNat ∧ c.toNat ≤ 122) ∨ (65 ≤ c.toNat ∧ c.toNat ≤ 90)) → letB c = false) := letB_no
  have HT : Hid ((c.toNat ≤ 64 → ¬ ((97 ≤ c.toNat ∧ c.toNat ≤ 122) ∨ (65 ≤ c.toNat ∧ c.toNat ≤ 90))) ∧ (64 < c.toNat → ((97 ≤ c.toNat ∧ c.toNat ≤ 122) ∨ (65 ≤ c.toNat ∧ c.toNat ≤ 90) ↔ 97 ≤ (c.toNat ||| 32) ∧ (c.toNat ||| 32) ≤ 122))) := low_tab ⟨c.toNat, hc⟩
  have hor := u8_or_nat c.toNat 32 hc (by omega)
  generalize letB c = R at HY HN
  generalize c.toNat = n at hc HY HN HT hor
  simp only [show ((32 : Nat) : Int) = 32 from rfl] at hor
  by_cases h0 : n ≤ 64
  · skip
    obtain rfl : false = R := (HN.out (HT.out.1 h0)).symm
    clear HY HN HT hor
    obtain ⟨m, hm⟩ : ∃ m : Int, bits .or .u8 (n : Int) 32 = m := ⟨_, rfl⟩
    go_enter Tryz.func66, Tryz.ntmps66
    go_wp2
    go_ret
    exact ⟨ret_bool (by first | rfl | (simp; done) | (simp; omega)), rfl⟩
  have hiff := HT.out.2 (by omega)
  clear HT
  obtain ⟨m, hm⟩ : ∃ m, n ||| 32 = m := ⟨_, rfl⟩
  rw [hm] at hor hiff
  clear hm
  by_cases k0 : m < 97
  · skip
    obtain rfl : false = R := (HN.out (fun h => by have := hiff.1 h; omega)).symm
    clear HY HN hiff
    go_enter Tryz.func66, Tryz.ntmps66
    go_wp2
    go_ret
    exact ⟨ret_bool (by first | rfl | (simp; done) | (simp; omega)), rfl⟩
  by_cases k1 : m ≤ 122
  · skip
    obtain rfl : true = R := (HY.out (hiff.2 (by omega))).symm
    clear HY HN hiff
    go_enter Tryz.func66, Tryz.ntmps66
    go_wp2
    go_ret
    exact ⟨ret_bool (by first | rfl | (simp; done) | (simp; omega)), rfl⟩
  obtain rfl : false = R := (HN.out (fun h => by have := hiff.1 h; omega)).symm
  clear HY HN hiff
  go_enter Tryz.func66, Tryz.ntmps66
  go_wp2
  go_ret
  exact ⟨ret_bool (by first | rfl | (simp; done) | (simp; omega)), rfl⟩

theorem in_step {l : List UInt8} {k : Nat} (hk : k < l.length) (h : (l.take k).all inB = true) (h2 : inB l[k] = true) : (l.take (k + 1)).all inB = true := by
  rw [List.take_succ_eq_append_getElem hk, List.all_append, h]; simp [h2]
theorem in_no {l : List UInt8} {k : Nat} (hk : k < l.length) (h2 : inB l[k] = false) : l.all inB = false := by
  cases h : l.all inB
  · rfl
  · rw [List.all_eq_true.1 h _ (List.getElem_mem hk)] at h2; cases h2
theorem str_at {S : ByteArray} {s : List UInt8} (hs : S.data.toList = s) {k : Nat} (hk : k < S.size) (hk2 : k < s.length) : S[k] = s[k] := by subst hs; rfl

set_option maxRecDepth 100000 in
set_option maxHeartbeats 4000000 in
theorem named_any (S : ByteArray) (s : List UInt8) (w : World) (hs : Hid (S.data.toList = s)) (hm : S.size ≤ 9223372036854775807) (R : Int) (hR : Hid (chkN s = R)) :
    Calls Tryz.prog 16 #[.string S] w fun e w' => e = .returned (.int .i64 R) ∧ w = w' := by
  have HZ : Hid (S.size = s.length) := sz_len hs.out
  have HL := Lib.hid (fun (c : UInt8) (w : World) => letter_any c w)
  have HD := Lib.hid (fun (c : UInt8) (w : World) => digit_any c w)
  by_cases h0 : S.size = 0
  · obtain rfl : 71 = R := by rw [← hR.out]; exact (chkN_no (by rw [List.length_eq_zero_iff.1 (HZ.out.symm.trans h0)]; rfl)).symm
    clear hR
    go_enter Tryz.func16, Tryz.ntmps16
    go_wp2
    go_ret
    exact ⟨rfl, rfl⟩
  have hq0 : ((S.size : Int) == 0) = false := by rw [beq_eq_false_iff_ne]; omega
  by_cases h1 : 32 < S.size
  · obtain rfl : 71 = R := by rw [← hR.out]; exact (chkN_no (okN_long (by rw [← HZ.out]; omega))).symm
    clear hR
    go_enter Tryz.func16, Tryz.ntmps16
    go_wp2
    go_ret
    exact ⟨rfl, rfl⟩
  have hp : 0 < S.size := by omega
  have HH : Hid (headB s = letB (S[0]'hp)) := by show _ = _; rw [str_at hs.out hp (by rw [← HZ.out]; omega)]; exact headB_at _
  cases hh : letB (S[0]'hp)
  · obtain rfl : 71 = R := by rw [← hR.out]; exact (chkN_no (okN_head (HH.out.trans hh))).symm
    have HC := Lib.hid (fun w => HL.out (S[0]'hp) w)
    rw [hh] at HC
    clear hR HH hh
    go_enter Tryz.func16, Tryz.ntmps16
    go_wp2_with (go_at_call 64; refine (HC.out _).mono ?_; rintro e w1 ⟨rfl, rfl⟩)
    go_ret
    exact ⟨rfl, rfl⟩
  have HHT := Lib.hid (HH.out.trans hh)
  have HC := Lib.hid (fun w => HL.out (S[0]'hp) w)
  rw [hh] at HC
  clear HH hh
  go_enter Tryz.func16, Tryz.ntmps16
  go_wp2_with (go_at_call 64; refine (HC.out _).mono ?_; rintro e w1 ⟨rfl, rfl⟩)
  clear HC
  go_loop [20] (fun i => ∃ k : Nat, k ≤ S.size ∧ i = .int .i64 k ∧ Hid ((s.take k).all inB = true)) (fun i => S.size - (intOf i).toNat)
  case atStart => exact ⟨0, Nat.zero_le _, rfl, rfl⟩
  case round =>
    obtain ⟨k, hk, rfl, ht⟩ := hrel
    by_cases hlt : k < S.size
    · have hks : k < s.length := by rw [← HZ.out]; exact hlt
      have HE := Lib.hid (str_at hs.out hlt hks)
      have HA := Lib.hid (fun w => HL.out (S[k]'hlt) w)
      have HB := Lib.hid (fun w => HD.out (S[k]'hlt) w)
      have HI : Hid (inB s[k] = (letB (S[k]'hlt) || digB (S[k]'hlt))) := by show _ = _; rw [HE.out]; rfl
      have HT := Lib.hid (fun h => in_step hks ht.out h)
      have HN := Lib.hid (fun h => in_no hks h)
      cases hl : letB (S[k]'hlt)
      · rw [hl] at HA HI
        cases hd : digB (S[k]'hlt)
        · rw [hd] at HB HI
          obtain rfl : 71 = R := by rw [← hR.out]; exact (chkN_no (okN_in (HN.out HI.out))).symm
          clear hR HT HN HI HE hl hd HHT ht
          go_wp2_with (first | (go_at_call 64; refine (HA.out _).mono ?_; rintro e w2 ⟨rfl, rfl⟩) | (go_at_call 65; refine (HB.out _).mono ?_; rintro e w2 ⟨rfl, rfl⟩))
          go_ret
          exact ⟨rfl, rfl⟩
        · rw [hd] at HB HI
          have HV := Lib.hid (HT.out HI.out)
          clear HT HN HI HE hl hd
          go_wp2_with (first | (go_at_call 64; refine (HA.out _).mono ?_; rintro e w2 ⟨rfl, rfl⟩) | (go_at_call 65; refine (HB.out _).mono ?_; rintro e w2 ⟨rfl, rfl⟩))
          go_round
          case rel => exact ⟨k + 1, by omega, by go_num, HV⟩
          case measure => simp [intOf]; omega
      · rw [hl] at HA HI
        have HV := Lib.hid (HT.out (by rw [HI.out]; rfl))
        clear HT HN HI HE hl HB
        go_wp2_with (go_at_call 64; refine (HA.out _).mono ?_; rintro e w2 ⟨rfl, rfl⟩)
        go_round
        case rel => exact ⟨k + 1, by omega, by go_num, HV⟩
        case measure => simp [intOf]; omega
    · obtain rfl : 0 = R := by
        rw [← hR.out]
        have e1 := ht.out
        rw [List.take_of_length_le (by rw [← HZ.out]; omega)] at e1
        exact (chkN_ok ((okN_iff s).2 ⟨by rw [← HZ.out]; omega, HHT.out, e1⟩)).symm
      clear hR HHT
      go_wp2
      go_ret
      exact ⟨rfl, rfl⟩

end Go.Proofs.YtbnekeomdhljhaaGreatDoor.F

namespace Go.Proofs.YtbnekeomdhljhaaGreatDoor.F
open Go.RowKit

/-- A function value, with what it has captured. -/
def askV (g : Nat) (caps : Array Value) : Value := .func (.func g) #[] caps

set_option maxRecDepth 100000 in
set_option maxHeartbeats 2000000 in
theorem every_any (A : Option Addr) (qs : List (Nat × Array Value)) (n c : Nat) (w : World) (hn : Hid (qs.length = n)) (hm : n ≤ 1000) (bs : Nat → Bool) (I : Nat → World → Prop) (J : World → Prop)
    (hcf : Hid (∀ q ∈ qs, ∀ args w, (callFunc q.1 args).run Tryz.prog w = .ok (.enter q.1 args) w))
    (hr : Hid (∀ i W, I i W → Rd W A (qs.map fun q => askV q.1 q.2)))
    (hq : Hid (∀ i (h : i < qs.length) W, I i W → Calls Tryz.prog qs[i].1 qs[i].2 W fun e W' => e = .returned (.bool (bs i)) ∧ (bs i = true → I (i + 1) W') ∧ (bs i = false → J W')))
    (h0 : I 0 w) :
    Calls Tryz.prog 41 #[.slice A n c] w fun e w' => (e = .returned (.bool true) ∧ (∀ i, i < n → bs i = true) ∧ I n w') ∨ (e = .returned (.bool false) ∧ (∃ i, i < n ∧ bs i = false) ∧ J w') := by
  go_enter Tryz.func41, Tryz.ntmps41
  go_wp2
  go_loopw [7] (fun i wr => ∃ k : Nat, k ≤ n ∧ i = .int .i64 k ∧ Hid (∀ j, j < k → bs j = true) ∧ Hid (I k wr)) (fun i _ => n - (intOf i).toNat)
  case atStart => exact ⟨0, Nat.zero_le _, rfl, fun j h => absurd h (by omega), h0⟩
  case round =>
    obtain ⟨k, hk, rfl, ht, hI⟩ := hrel
    clear h0
    by_cases hlt : k < n
    · have hkq : k < qs.length := by rw [hn.out]; exact hlt
      obtain ⟨g0, off, rfl, hc⟩ := hr.out k _ hI.out (by simp; omega)
      have ck := hc k (askV qs[k].1 qs[k].2) (by simp [hkq])
      have hg := hcf.out qs[k] (List.getElem_mem hkq)
      have HQ := Lib.hid (hq.out k hkq _ hI.out)
      clear hc
      generalize qs[k] = q at ck hg HQ
      obtain ⟨g, caps⟩ := q
      dsimp only [askV] at ck hg HQ
      obtain ⟨b, hb⟩ : ∃ b, bs k = b := ⟨_, rfl⟩
      have HB := Lib.hid hb
      rw [hb] at HQ
      clear hb hI
      go_wp2_with fail
      refine HQ.out.mono ?_
      rintro e w1 ⟨rfl, hy, hno⟩
      have HY := Lib.hid hy
      have HNO := Lib.hid hno
      clear hy hno
      cases b
      · go_wp2
        go_ret
        exact .inr ⟨rfl, ⟨k, hlt, HB.out⟩, HNO.out trivial⟩
      · go_wp2
        go_roundw
        case rel => exact ⟨k + 1, by omega, by go_num, fun j hj => (by
          rcases Nat.lt_succ_iff_lt_or_eq.1 hj with h | rfl
          · exact ht.out j h
          · exact HB.out), HY.out trivial⟩
        case measure => simp [intOf]; omega
    · obtain rfl : k = n := by omega
      go_wp2
      go_ret
      exact .inl ⟨rfl, ht.out, hI.out⟩

end Go.Proofs.YtbnekeomdhljhaaGreatDoor.F

namespace Go.Proofs.YtbnekeomdhljhaaGreatDoor.S
open Go.RowKit W

theorem all_no {l : List Int} {p : Int → Bool} {k : Nat} (hk : k < l.length) (h : p l[k] = false) : l.all p = false :=
  List.all_eq_false.2 ⟨_, List.getElem_mem hk, by rw [h]; decide⟩
theorem all_step {l : List Int} {p : Int → Bool} {k : Nat} (hk : k < l.length) (h : (l.take k).all p = true) (h2 : p l[k] = true) : (l.take (k + 1)).all p = true := by
  rw [List.take_succ_eq_append_getElem hk, List.all_append, h]
  simp [h2]
theorem knownF_any (t : Int) (w : World) : Calls Tryz.prog 124 #[.int .i64 t] w fun e w' => e = .returned (.bool (knownB t)) ∧ Keep NoB w w' :=
  (known_any t w).mono fun _ _ ⟨he, hw⟩ => ⟨he, by rw [← hw]; exact Keep.refl _ _⟩
set_option maxHeartbeats 1000000 in
theorem heldF_any (t : Int) (w : World) : Calls Tryz.prog 125 #[.int .i64 t] w fun e w' => e = .returned (.bool (heldB t)) ∧ Keep NoB w w' := by
  have HK := Lib.hid (fun w => known_any t w)
  cases hk : knownB t
  · rw [hk] at HK
    have hR : heldB t = false := by rw [known_not] at hk; rw [held_not]; omega
    rw [hR]
    clear hk hR
    go_enter Tryz.func125, Tryz.ntmps125
    go_wp2_with (go_at_call 124; refine (HK.out _).mono ?_; rintro e w1 ⟨rfl, rfl⟩)
    go_ret
    exact ⟨rfl, Keep.refl _ _⟩
  · rw [hk] at HK
    by_cases h4 : t = 4
    · subst h4
      have hR : heldB 4 = false := by decide
      rw [hR]
      clear hk hR
      go_enter Tryz.func125, Tryz.ntmps125
      go_wp2_with (go_at_call 124; refine (HK.out _).mono ?_; rintro e w1 ⟨rfl, rfl⟩)
      go_ret
      exact ⟨rfl, Keep.refl _ _⟩
    · have hR : heldB t = true := by rw [known_iff] at hk; rw [held_iff]; omega
      have hq : (t != 4) = true := by rw [bne_iff_ne]; exact h4
      rw [hR]
      clear hk hR h4
      go_enter Tryz.func125, Tryz.ntmps125
      go_wp2_with (go_at_call 124; refine (HK.out _).mono ?_; rintro e w1 ⟨rfl, rfl⟩)
      go_ret
      exact ⟨rfl, Keep.refl _ _⟩

set_option maxRecDepth 100000 in
set_option maxHeartbeats 2000000 in
theorem allK_any (A : Option Addr) (l : List Int) (n c : Nat) (w : World) (hr : Rd w A (ivs l)) (hn : Hid (l.length = n)) (hm : n ≤ 9223372036854775807) (R : Bool) (hR : Hid (R = l.all knownB)) :
    Calls Tryz.prog 123 #[.slice A n c, .func (.func 124) #[] #[]] w fun e w' => e = .returned (.bool R) ∧ Keep NoB w w' := by
  go_enter Tryz.func123, Tryz.ntmps123
  go_wp2
  go_loopw [9] (fun i wr => ∃ k : Nat, k ≤ n ∧ i = .int .i64 k ∧ Hid ((l.take k).all knownB = true) ∧ Keep NoB w wr) (fun i _ => n - (intOf i).toNat)
  case atStart => exact ⟨0, Nat.zero_le _, rfl, rfl, Keep.refl _ _⟩
  case round =>
    obtain ⟨k, hk, rfl, ht, hK⟩ := hrel
    by_cases hlt : k < n
    · have hka : k < l.length := by rw [hn.out]; exact hlt
      obtain ⟨ga, oa, rfl, hca⟩ := rdI_at hr (by omega)
      have ca := hK.cell (hca k hka) id
      have HT := Lib.hid (fun h => all_step (p := knownB) hka ht.out h)
      have HN := Lib.hid (fun h => all_no (p := knownB) hka h)
      clear hca hr ht
      generalize l[k] = x at ca HT HN
      have HC := Lib.hid (fun w => knownF_any x w)
      cases hx : knownB x
      · rw [hx] at HC
        obtain rfl : R = false := by rw [hR.out]; exact HN.out hx
        clear hx HT HN hR
        go_wp2_with (go_at_call 124; refine (HC.out _).mono ?_; rintro e w3 ⟨rfl, k3⟩)
        go_ret
        exact ⟨rfl, keepN hK k3⟩
      · rw [hx] at HC
        have HV := Lib.hid (HT.out hx)
        clear hx HT HN hR
        go_wp2_with (go_at_call 124; refine (HC.out _).mono ?_; rintro e w3 ⟨rfl, k3⟩)
        go_roundw
        case rel => exact ⟨k + 1, by omega, by go_num, HV, keepN hK k3⟩
        case measure => simp [intOf]; omega
    · obtain rfl : R = true := by
        rw [hR.out]
        have e1 := ht.out
        rwa [List.take_of_length_le (by rw [hn.out]; omega)] at e1
      clear hR
      go_wp2
      go_ret
      exact ⟨rfl, hK⟩

set_option maxRecDepth 100000 in
set_option maxHeartbeats 2000000 in
theorem allH_any (A : Option Addr) (l : List Int) (n c : Nat) (w : World) (hr : Rd w A (ivs l)) (hn : Hid (l.length = n)) (hm : n ≤ 9223372036854775807) (R : Bool) (hR : Hid (R = l.all heldB)) :
    Calls Tryz.prog 123 #[.slice A n c, .func (.func 125) #[] #[]] w fun e w' => e = .returned (.bool R) ∧ Keep NoB w w' := by
  go_enter Tryz.func123, Tryz.ntmps123
  go_wp2
  go_loopw [9] (fun i wr => ∃ k : Nat, k ≤ n ∧ i = .int .i64 k ∧ Hid ((l.take k).all heldB = true) ∧ Keep NoB w wr) (fun i _ => n - (intOf i).toNat)
  case atStart => exact ⟨0, Nat.zero_le _, rfl, rfl, Keep.refl _ _⟩
  case round =>
    obtain ⟨k, hk, rfl, ht, hK⟩ := hrel
    by_cases hlt : k < n
    · have hka : k < l.length := by rw [hn.out]; exact hlt
      obtain ⟨ga, oa, rfl, hca⟩ := rdI_at hr (by omega)
      have ca := hK.cell (hca k hka) id
      have HT := Lib.hid (fun h => all_step (p := heldB) hka ht.out h)
      have HN := Lib.hid (fun h => all_no (p := heldB) hka h)
      clear hca hr ht
      generalize l[k] = x at ca HT HN
      have HC := Lib.hid (fun w => heldF_any x w)
      cases hx : heldB x
      · rw [hx] at HC
        obtain rfl : R = false := by rw [hR.out]; exact HN.out hx
        clear hx HT HN hR
        go_wp2_with (go_at_call 125; refine (HC.out _).mono ?_; rintro e w3 ⟨rfl, k3⟩)
        go_ret
        exact ⟨rfl, keepN hK k3⟩
      · rw [hx] at HC
        have HV := Lib.hid (HT.out hx)
        clear hx HT HN hR
        go_wp2_with (go_at_call 125; refine (HC.out _).mono ?_; rintro e w3 ⟨rfl, k3⟩)
        go_roundw
        case rel => exact ⟨k + 1, by omega, by go_num, HV, keepN hK k3⟩
        case measure => simp [intOf]; omega
    · obtain rfl : R = true := by
        rw [hR.out]
        have e1 := ht.out
        rwa [List.take_of_length_le (by rw [hn.out]; omega)] at e1
      clear hR
      go_wp2
      go_ret
      exact ⟨rfl, hK⟩

set_option maxRecDepth 100000 in
set_option maxHeartbeats 2000000 in
theorem rheld_any (A : Option Addr) (l : List Int) (n c : Nat) (w : World) (hr : Rd w A (ivs l)) (hn : Hid (l.length = n)) (hm : n ≤ 9223372036854775807) (R : Bool) (hR : Hid (R = l.all heldB)) :
    Calls Tryz.prog 130 #[.slice A n c] w fun e w' => e = .returned (.bool R) ∧ Keep NoB w w' := by
  go_enter Tryz.func130, Tryz.ntmps130
  go_wp2
  go_loopw [3] (fun i wr => ∃ k : Nat, k ≤ n ∧ i = .int .i64 k ∧ Hid ((l.take k).all heldB = true) ∧ Keep NoB w wr) (fun i _ => n - (intOf i).toNat)
  case atStart => exact ⟨0, Nat.zero_le _, rfl, rfl, Keep.refl _ _⟩
  case round =>
    obtain ⟨k, hk, rfl, ht, hK⟩ := hrel
    by_cases hlt : k < n
    · have hka : k < l.length := by rw [hn.out]; exact hlt
      obtain ⟨ga, oa, rfl, hca⟩ := rdI_at hr (by omega)
      have ca := hK.cell (hca k hka) id
      have HT := Lib.hid (fun h => all_step (p := heldB) hka ht.out h)
      have HN := Lib.hid (fun h => all_no (p := heldB) hka h)
      clear hca hr ht
      generalize l[k] = x at ca HT HN
      by_cases h1 : x < 1
      · obtain rfl : R = false := by rw [hR.out]; exact HN.out (by rw [held_not]; omega)
        clear HT HN hR
        go_wp2
        go_ret
        exact ⟨rfl, hK⟩
      · by_cases h3 : 3 < x
        · obtain rfl : R = false := by rw [hR.out]; exact HN.out (by rw [held_not]; omega)
          clear HT HN hR
          go_wp2
          go_ret
          exact ⟨rfl, hK⟩
        · have HV := Lib.hid (HT.out (by rw [held_iff]; omega))
          clear HT HN hR
          go_wp2
          go_roundw
          case rel => exact ⟨k + 1, by omega, by go_num, HV, hK⟩
          case measure => simp [intOf]; omega
    · obtain rfl : R = true := by
        rw [hR.out]
        have e1 := ht.out
        rwa [List.take_of_length_le (by rw [hn.out]; omega)] at e1
      clear hR
      go_wp2
      go_ret
      exact ⟨rfl, hK⟩

end Go.Proofs.YtbnekeomdhljhaaGreatDoor.S
