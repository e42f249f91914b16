/-
  What the document's Show and number answer. Conditions: the value's number fits an int64.
-/
import Derived.Test.YtkhbmbkjaeaamaaDoorWDigits
namespace Go.Proofs.YtkhbmbkjaeaamaaDoor
open Go.RowKit

theorem rcheck_ok (t n : Int) (w : World) (h : okB t n = true) :
    Calls Tryd.prog 39 #[.agg #[.int .i64 t, .int .i64 n]] w fun e w' => e = .returned (.int .i64 0) ∧ Keep NoB w w' := by
  have := rcheck_any t n w
  rw [chk_ok h] at this
  exact this
theorem rcheck_bad (t n : Int) (w : World) (h : okB t n = false) :
    Calls Tryd.prog 39 #[.agg #[.int .i64 t, .int .i64 n]] w fun e w' => e = .returned (.int .i64 21) ∧ Keep NoB w w' := by
  have := rcheck_any t n w
  rw [chk_bad h] at this
  exact this

set_option maxRecDepth 100000 in
set_option maxHeartbeats 8000000 in
theorem rshow_any (t n : Int) (w : World) (hn : I64 n) :
    Calls Tryd.prog 22 #[.agg #[.int .i64 t, .int .i64 n]] w fun e w' => e = .returned (.string (str (showL t n))) ∧ Keep NoB w w' := by
  have hB := Blk.new w 35 #[.int .i64 t, .int .i64 n]
  have hK := (Keep.refl NoB w).alloc (.cells #[.int .i64 t, .int .i64 n] 35)
  cases hok : okB t n
  · have HX := Lib.hid (show_bad hok)
    have HC := Lib.hid (rcheck_bad t n · hok)
    clear hok
    go_enter Tryd.func22, Tryd.ntmps22
    go_wp2_with fail
    refine (HC.out _).mono ?_
    rintro e w2 ⟨rfl, hk2⟩
    go_wp2
    go_ret
    exact ⟨by rw [HX.out]; rfl, keepN hK hk2⟩
  · cases hz : nilB t n
    · rcases known_cases (ok_known hok) with rfl | rfl | rfl | rfl
      · have HX := Lib.hid (show_num hok hz (by decide))
        have hno : I64 (n - 0) := by rw [ok_iff] at hok; rw [nil_not] at hz; obtain ⟨hn0, hn1⟩ := hn; unfold I64; omega
        obtain ⟨hm0, hm1⟩ := hno
        have HC := Lib.hid (rcheck_ok 1 n · hok)
        have HN := Lib.hid (fun W => rnil_any 1 n W)
        rw [hz] at HN
        clear hok hz
        go_enter Tryd.func22, Tryd.ntmps22
        go_wp2_with fail
        refine (HC.out _).mono ?_
        rintro e w2 ⟨rfl, hk2⟩
        have b2 := hB.keep hk2 id
        have c0 : w2.cell? ⟨w.heap.size, 0, none⟩ = some (.int .i64 1) := b2.cell 0
        have c1 : w2.cell? ⟨w.heap.size, 1, none⟩ = some (.int .i64 n) := b2.cell 1
        go_wp2_with fail
        refine (HN.out _).mono ?_
        rintro e w3 ⟨rfl, hk3⟩
        have b3 := b2.keep hk3 id
        have hK3 := keepN (keepN hK hk2) hk3
        clear c0 c1
        have c0 : w3.cell? ⟨w.heap.size, 0, none⟩ = some (.int .i64 1) := b3.cell 0
        have c1 : w3.cell? ⟨w.heap.size, 1, none⟩ = some (.int .i64 n) := b3.cell 1
        go_wp2_with (go_at_call 41; refine (digits_any n _ ⟨by omega, by omega⟩).mono ?_; rintro e w4 ⟨d, rfl, hds, hd, hk4⟩)
        go_ret
        exact ⟨by rw [HX.out]; show _ = Ending.returned (.string (str ([] ++ Lib.itoa (n - 0)))); rw [Int.sub_zero, List.nil_append, ← hd.out]; rfl, keepN hK3 hk4⟩
      · have HX := Lib.hid (show_num hok hz (by decide))
        have hno : I64 (n - 0) := by rw [ok_iff] at hok; rw [nil_not] at hz; obtain ⟨hn0, hn1⟩ := hn; unfold I64; omega
        obtain ⟨hm0, hm1⟩ := hno
        have HC := Lib.hid (rcheck_ok 2 n · hok)
        have HN := Lib.hid (fun W => rnil_any 2 n W)
        rw [hz] at HN
        clear hok hz
        go_enter Tryd.func22, Tryd.ntmps22
        go_wp2_with fail
        refine (HC.out _).mono ?_
        rintro e w2 ⟨rfl, hk2⟩
        have b2 := hB.keep hk2 id
        have c0 : w2.cell? ⟨w.heap.size, 0, none⟩ = some (.int .i64 2) := b2.cell 0
        have c1 : w2.cell? ⟨w.heap.size, 1, none⟩ = some (.int .i64 n) := b2.cell 1
        go_wp2_with fail
        refine (HN.out _).mono ?_
        rintro e w3 ⟨rfl, hk3⟩
        have b3 := b2.keep hk3 id
        have hK3 := keepN (keepN hK hk2) hk3
        clear c0 c1
        have c0 : w3.cell? ⟨w.heap.size, 0, none⟩ = some (.int .i64 2) := b3.cell 0
        have c1 : w3.cell? ⟨w.heap.size, 1, none⟩ = some (.int .i64 n) := b3.cell 1
        go_wp2_with (go_at_call 41; refine (digits_any n _ ⟨by omega, by omega⟩).mono ?_; rintro e w4 ⟨d, rfl, hds, hd, hk4⟩)
        go_ret
        exact ⟨by rw [HX.out]; show _ = Ending.returned (.string (str ([35] ++ Lib.itoa (n - 0)))); rw [Int.sub_zero, ← str_app, ← hd.out]; rfl, keepN hK3 hk4⟩
      · have HX := Lib.hid (show_num hok hz (by decide))
        have hno : I64 (n - 1) := by rw [ok_iff] at hok; rw [nil_not] at hz; obtain ⟨hn0, hn1⟩ := hn; unfold I64; omega
        obtain ⟨hm0, hm1⟩ := hno
        have HC := Lib.hid (rcheck_ok 3 n · hok)
        have HN := Lib.hid (fun W => rnil_any 3 n W)
        rw [hz] at HN
        clear hok hz
        go_enter Tryd.func22, Tryd.ntmps22
        go_wp2_with fail
        refine (HC.out _).mono ?_
        rintro e w2 ⟨rfl, hk2⟩
        have b2 := hB.keep hk2 id
        have c0 : w2.cell? ⟨w.heap.size, 0, none⟩ = some (.int .i64 3) := b2.cell 0
        have c1 : w2.cell? ⟨w.heap.size, 1, none⟩ = some (.int .i64 n) := b2.cell 1
        go_wp2_with fail
        refine (HN.out _).mono ?_
        rintro e w3 ⟨rfl, hk3⟩
        have b3 := b2.keep hk3 id
        have hK3 := keepN (keepN hK hk2) hk3
        clear c0 c1
        have c0 : w3.cell? ⟨w.heap.size, 0, none⟩ = some (.int .i64 3) := b3.cell 0
        have c1 : w3.cell? ⟨w.heap.size, 1, none⟩ = some (.int .i64 n) := b3.cell 1
        go_wp2_with (go_at_call 41; refine (digits_any (n - 1) _ ⟨by omega, by omega⟩).mono ?_; rintro e w4 ⟨d, rfl, hds, hd, hk4⟩)
        go_ret
        exact ⟨by rw [HX.out]; show _ = Ending.returned (.string (str ([64] ++ Lib.itoa (n - 1)))); rw [← str_app, ← hd.out]; rfl, keepN hK3 hk4⟩
      · have HX := Lib.hid (show_ptr (n := n) (by rw [nil_not] at hz; rw [ok_iff] at hok; omega))
        have HC := Lib.hid (rcheck_ok 4 n · hok)
        have HN := Lib.hid (fun W => rnil_any 4 n W)
        rw [hz] at HN
        clear hok hz
        go_enter Tryd.func22, Tryd.ntmps22
        go_wp2_with fail
        refine (HC.out _).mono ?_
        rintro e w2 ⟨rfl, hk2⟩
        have b2 := hB.keep hk2 id
        have c0 : w2.cell? ⟨w.heap.size, 0, none⟩ = some (.int .i64 4) := b2.cell 0
        have c1 : w2.cell? ⟨w.heap.size, 1, none⟩ = some (.int .i64 n) := b2.cell 1
        go_wp2_with fail
        refine (HN.out _).mono ?_
        rintro e w3 ⟨rfl, hk3⟩
        have b3 := b2.keep hk3 id
        have hK3 := keepN (keepN hK hk2) hk3
        clear c0 c1
        have c0 : w3.cell? ⟨w.heap.size, 0, none⟩ = some (.int .i64 4) := b3.cell 0
        have c1 : w3.cell? ⟨w.heap.size, 1, none⟩ = some (.int .i64 n) := b3.cell 1
        go_wp2
        go_ret
        exact ⟨by rw [HX.out]; rfl, hK3⟩
    · have HX := Lib.hid (show_nil hz)
      have HC := Lib.hid (rcheck_ok t n · hok)
      have HN := Lib.hid (fun W => rnil_any t n W)
      rw [hz] at HN
      clear hok hz
      go_enter Tryd.func22, Tryd.ntmps22
      go_wp2_with fail
      refine (HC.out _).mono ?_
      rintro e w2 ⟨rfl, hk2⟩
      have b2 := hB.keep hk2 id
      have c0 : w2.cell? ⟨w.heap.size, 0, none⟩ = some (.int .i64 t) := b2.cell 0
      have c1 : w2.cell? ⟨w.heap.size, 1, none⟩ = some (.int .i64 n) := b2.cell 1
      go_wp2_with fail
      refine (HN.out _).mono ?_
      rintro e w3 ⟨rfl, hk3⟩
      have b3 := b2.keep hk3 id
      have hK3 := keepN (keepN hK hk2) hk3
      clear c0 c1
      have c0 : w3.cell? ⟨w.heap.size, 0, none⟩ = some (.int .i64 t) := b3.cell 0
      have c1 : w3.cell? ⟨w.heap.size, 1, none⟩ = some (.int .i64 n) := b3.cell 1
      go_wp2
      go_ret
      exact ⟨by rw [HX.out]; rfl, hK3⟩

end Go.Proofs.YtkhbmbkjaeaamaaDoor
