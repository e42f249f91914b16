/-
  What Text answers, the code's and the document's. Conditions: the list lies in memory, the letters stand.
-/
import Derived.Test.YtkhbmbkjaeaamaaDoorWLaid
import Derived.Lib.OthersKept
namespace Go.Proofs.YtkhbmbkjaeaamaaDoor
open Go.RowKit

theorem rune_let {t : Int} (h : knownB t = true) : ∃ r : Int, letV[t.toNat]? = some (.int .i32 r) ∧ 0 ≤ t ∧ t ≤ 4 ∧ -2147483648 ≤ r ∧ r ≤ 2147483647 ∧ Lib.runeCells r = Lib.byteCells (letC t) := by
  rcases known_cases h with rfl | rfl | rfl | rfl
  · exact ⟨73, rfl, by decide, by decide, by decide, by decide, rfl⟩
  · exact ⟨82, rfl, by decide, by decide, by decide, by decide, rfl⟩
  · exact ⟨70, rfl, by decide, by decide, by decide, by decide, rfl⟩
  · exact ⟨80, rfl, by decide, by decide, by decide, by decide, rfl⟩

theorem bc_append (a b : List UInt8) : Lib.byteCells a ++ Lib.byteCells b = Lib.byteCells (a ++ b) := by simp [Lib.byteCells]

set_option maxRecDepth 100000 in
set_option maxHeartbeats 4000000 in
theorem text_any (A : Option Addr) (l : List Int) (n c : Nat) (w : World) (hL : LetAt w) (ha : Rd w A (ivs l)) (hn : Hid (l.length = n)) (h1 : n ≤ 9223372036854775807) :
    Calls Tryd.prog 16 #[.slice A n c] w fun e w' => e = .returned (.string (str (txt l))) ∧ Keep NoB w w' := by
  by_cases hlong : 1024 < n
  · have HT := Lib.hid (txt_long (l := l) (by rw [hn.out]; exact hlong))
    go_enter Tryd.func16, Tryd.ntmps16
    go_wp2
    go_ret
    exact ⟨by rw [HT.out]; rfl, Keep.refl _ _⟩
  · go_enter Tryd.func16, Tryd.ntmps16
    go_wp2
    have hI0 : Lib.IsBuilderF 64 5 w.heap.size w.heap.size (Lib.byteCells ((l.take 0).flatMap letC)) (w.alloc (.cells #[.pointer none, .slice none 0 0] 64)) := Lib.IsBuilderF.of (Lib.fresh_isBuilder 64 5 w)
    have hb0 : Below w.heap.size w (w.alloc (.cells #[.pointer none, .slice none 0 0] 64)) := (Below.refl _ w).alloc (Nat.le_refl _) _
    go_loopw [11] (fun i wr => ∃ k : Nat, k ≤ n ∧ i = .int .i64 k ∧ Lib.IsBuilderF 64 5 w.heap.size w.heap.size (Lib.byteCells ((l.take k).flatMap letC)) wr ∧ Hid ((l.take k).all knownB = true) ∧ Below w.heap.size w wr) (fun i _ => n - (intOf i).toNat)
    case atStart => exact ⟨0, Nat.zero_le _, rfl, hI0, rfl, hb0⟩
    case round =>
      obtain ⟨k, hk, rfl, hI, hall, hB⟩ := hrel
      clear hI0 hb0
      by_cases hlt : k < n
      · have hka : k < l.length := by rw [hn.out]; exact hlt
        obtain ⟨g, off, rfl, hc⟩ := rdI_at ha (by omega)
        have hKr : Keep NoB w wr := Keep.of_below hB
        have ca := hKr.cell (hc k hka) id
        have hLr := hL.keep hKr
        clear hc
        have HT := Lib.hid (show l.take (k + 1) = l.take k ++ [l[k]] from List.take_succ_eq_append_getElem hka)
        have HM := Lib.hid (List.getElem_mem hka)
        generalize l[k] = t at ca HT HM
        cases hkn : knownB t
        · have HX : Hid (txt l = []) := txt_bad (by rw [List.all_eq_false]; exact ⟨t, HM.out, by simp [hkn]⟩)
          go_wp2_with (go_at_call 12; refine (known_any _ _).mono ?_; rintro e w' ⟨rfl, rfl⟩)
          go_ret
          exact ⟨by rw [HX.out]; rfl, hKr⟩
        · have hall2 : Hid ((l.take (k + 1)).all knownB = true) := by show _ = _; rw [HT.out, List.all_append, hall.out]; simp [hkn]
          obtain ⟨r, hr, ht0, ht4, hr0, hr1, hrc⟩ := rune_let hkn
          have HRC := Lib.hid hrc
          have HFM : Hid (Lib.byteCells ((l.take (k + 1)).flatMap letC) = Lib.byteCells ((l.take k).flatMap letC) ++ Lib.runeCells r) := by show _ = _; rw [HT.out, HRC.out, bc_append]; simp
          have hlen : (Lib.byteCells ((l.take k).flatMap letC)).length + 4 ≤ 140737488355328 := by
            rw [Lib.byteCells_length, flat_let_length _ hall.out, List.length_take]; omega
          obtain ⟨tn, rfl⟩ := Int.eq_ofNat_of_zero_le ht0
          have cl : wr.cell? ⟨0, tn, none⟩ = some (.int .i32 r) := (hLr.cell tn).trans (by simpa using hr)
          clear hrc hr HT HM hall HRC ha
          go_wp2_with (first
            | (go_at_call 12; refine (known_any _ _).mono ?_; rintro e w' ⟨rfl, rfl⟩)
            | (go_at_call 33; refine (Tryd.Builder_WriteRune_k w.heap.size w.heap.size _ r hr0 hr1 wr hI hlen hB.size).mono ?_; rintro e w2 ⟨rfl, hI2, hb2, -⟩))
          go_roundw
          case rel => exact ⟨k + 1, by omega, by go_num, by rw [HFM.out]; exact .inr hI2, hall2, hB.trans hb2⟩
          case measure => simp [intOf]; omega
      · obtain rfl : k = n := by omega
        rw [List.take_of_length_le (by rw [hn.out]; omega)] at hI hall
        have HX : Hid (l.flatMap letC = txt l) := by show _ = _; unfold txt; rw [if_pos ⟨by rw [hn.out]; omega, hall.out⟩]
        have hall' := hall.out
        have H := Lib.hid hall'
        clear hall hall'
        rw [HX.out] at hI
        go_wp2_with (go_at_call 34; refine (Tryd.Builder_String_any_k w.heap.size w.heap.size (txt l) wr hI hB.size).mono ?_; rintro e w2 ⟨rfl, -, hb2, -⟩)
        go_ret
        exact ⟨rfl, Keep.of_below (hB.trans hb2)⟩

theorem str_snoc (s : List UInt8) (c : UInt8) : str s ++ ⟨#[c]⟩ = str (s ++ [c]) := by
  apply ByteArray.ext
  simp [ByteArray.data_append]

theorem rletter_at (t : Int) (L : ByteArray) (w : World) (hL : Hid (str (letC t) = L)) :
    Calls Tryd.prog 15 #[.int .i64 t] w fun e w' => e = .returned (.string L) ∧ w = w' := by
  have := rletter_any t w
  rw [hL.out] at this
  exact this

set_option maxRecDepth 100000 in
set_option maxHeartbeats 4000000 in
theorem rtext_any (A : Option Addr) (l : List Int) (n c : Nat) (w : World) (ha : Rd w A (ivs l)) (hn : Hid (l.length = n)) (h1 : n ≤ 9223372036854775807) :
    Calls Tryd.prog 17 #[.slice A n c] w fun e w' => e = .returned (.string (str (txt l))) ∧ Keep NoB w w' := by
  by_cases hlong : 1024 < n
  · have HT := Lib.hid (txt_long (l := l) (by rw [hn.out]; exact hlong))
    go_enter Tryd.func17, Tryd.ntmps17
    go_wp2
    go_ret
    exact ⟨by rw [HT.out]; rfl, Keep.refl _ _⟩
  · go_enter Tryd.func17, Tryd.ntmps17
    go_wp2
    go_loop [3, 4] (fun v i => ∃ (k : Nat) (s : List UInt8), k ≤ n ∧ i = .int .i64 k ∧ v = .string (str s) ∧ s.length ≤ 1024 ∧ Hid (s = (l.take k).flatMap letC ∧ (l.take k).all knownB = true)) (fun _ i => n - (intOf i).toNat)
    case atStart => exact ⟨0, [], Nat.zero_le _, rfl, rfl, Nat.zero_le _, rfl, rfl⟩
    case round =>
      obtain ⟨k, s, hk, rfl, rfl, hs, hI⟩ := hrel
      by_cases hlt : k < n
      · have hka : k < l.length := by rw [hn.out]; exact hlt
        obtain ⟨g, off, rfl, hc⟩ := rdI_at ha (by omega)
        have ca := hc k hka
        clear hc
        have HT := Lib.hid (show l.take (k + 1) = l.take k ++ [l[k]] from List.take_succ_eq_append_getElem hka)
        have HM := Lib.hid (List.getElem_mem hka)
        generalize l[k] = t at ca HT HM
        cases hkn : knownB t
        · have HX : Hid (txt l = []) := txt_bad (by rw [List.all_eq_false]; exact ⟨t, HM.out, by simp [hkn]⟩)
          go_wp2_with fail
          refine (rletter_at t ⟨#[]⟩ w (by show _ = _; rw [letC_none hkn])).mono ?_
          rintro e w' ⟨rfl, rfl⟩
          go_wp2
          go_ret
          exact ⟨by rw [HX.out]; rfl, Keep.refl _ _⟩
        · obtain ⟨c0, hc0, _⟩ := letC_known hkn
          have hI2 : Hid (s ++ [c0] = (l.take (k + 1)).flatMap letC ∧ (l.take (k + 1)).all knownB = true) := by
            refine ⟨?_, ?_⟩
            · rw [HT.out, hI.out.1]; simp [hc0]
            · rw [HT.out, List.all_append, hI.out.2]; simp [hkn]
          have hs2 : Hid ((s ++ [c0]).length ≤ 1024) := by
            show _ ≤ _
            rw [hI2.out.1, flat_let_length _ hI2.out.2, List.length_take]; omega
          have hL : Hid (str (letC t) = ⟨#[c0]⟩) := by show _ = _; rw [hc0]
          clear HT HM hc0 hI ha hkn
          go_wp2_with fail
          refine (rletter_at t ⟨#[c0]⟩ w hL).mono ?_
          rintro e w' ⟨rfl, rfl⟩
          go_wp2
          go_round
          case rel => exact ⟨k + 1, s ++ [c0], by omega, by go_num, by rw [← str_snoc], hs2.out, hI2⟩
          case measure => simp [intOf]; omega
      · obtain rfl : k = n := by omega
        rw [List.take_of_length_le (by rw [hn.out]; omega)] at hI
        have HX : Hid (s = txt l) := by show _ = _; unfold txt; rw [if_pos ⟨by rw [hn.out]; omega, hI.out.2⟩]; exact hI.out.1
        go_wp2
        go_ret
        exact ⟨by rw [← HX.out]; rfl, Keep.refl _ _⟩

end Go.Proofs.YtkhbmbkjaeaamaaDoor
