/-
  The document's word. Conditions: the operand is one of its kind, and fits an int64.
  What the document's Show and number answer. Conditions: the value's number fits an int64.
  What the document's number answers. No conditions.
-/
import Derived.Test.YtpkcjokkadfhcaaGreatDoorQ10
namespace Go.Proofs.YtpkcjokkadfhcaaGreatDoor.O
open Go.RowKit

theorem word_let {k n : Int} (hk : k = 2 ∨ k = 3) (h0 : 1 ≤ n) (h1 : n ≤ 4) : ∃ j : Nat, n = (j : Int) ∧ j < 5 ∧ (strC letNs)[j]? = some (.string (str (word k n))) := by
  have hc : n = 1 ∨ n = 2 ∨ n = 3 ∨ n = 4 := by omega
  have hw : word k n = W.letC n := by unfold word; rw [if_pos hk]
  rw [hw]
  rcases hc with rfl | rfl | rfl | rfl
  · exact ⟨1, rfl, by decide, by kernel_rfl⟩
  · exact ⟨2, rfl, by decide, by kernel_rfl⟩
  · exact ⟨3, rfl, by decide, by kernel_rfl⟩
  · exact ⟨4, rfl, by decide, by kernel_rfl⟩

set_option maxHeartbeats 2000000 in
theorem rword_let (k n : Int) (w : World) (hk : k = 2 ∨ k = 3) (h0 : 1 ≤ n) (h1 : n ≤ 4) :
    Calls Tryz.prog 60 #[.int .i64 k, .int .i64 n] w fun e w' => e = .returned (.string (str (word k n))) ∧ Keep NoB w w' := by
  obtain ⟨j, rfl, hj, hs⟩ := word_let hk h0 h1
  clear h0 h1
  generalize str (word k (j : Int)) = s at hs ⊢
  have hcell : (w.alloc (.cells (strC letNs) 9)).cell? ⟨w.heap.size, j, none⟩ = some (.string s) := by
    rw [World.cell?_alloc_at _ _ _ _ rfl]; exact hs
  clear hs
  rcases hk with rfl | rfl
  all_goals
    go_enter Tryz.func60, Tryz.ntmps60
    go_wp2_with fail
    refine (rletters_any _).mono ?_
    rintro e w1 ⟨rfl, rfl⟩
    go_wp2
    go_ret
    exact ⟨rfl, (Keep.refl NoB w).alloc _⟩

set_option maxHeartbeats 2000000 in
theorem rword_num (k n : Int) (w : World) (h2 : k ≠ 2) (h3 : k ≠ 3) (h8 : k ≠ 8) (h9 : k ≠ 9) (hn : W.I64 n) :
    Calls Tryz.prog 60 #[.int .i64 k, .int .i64 n] w fun e w' => e = .returned (.string (str (word k n))) ∧ Keep NoB w w' := by
  have HD := Lib.hid (fun w => W.digits_any n w hn)
  have HX : Hid (word k n = Lib.itoa n) := by show _ = _; unfold word; rw [if_neg (by omega), if_neg h8, if_neg h9]
  have q2 : (k == 2) = false := by rw [beq_eq_false_iff_ne]; exact h2
  have q3 : (k == 3) = false := by rw [beq_eq_false_iff_ne]; exact h3
  have q8 : (k == 8) = false := by rw [beq_eq_false_iff_ne]; exact h8
  have q9 : (k == 9) = false := by rw [beq_eq_false_iff_ne]; exact h9
  clear h2 h3 h8 h9 hn
  go_enter Tryz.func60, Tryz.ntmps60
  go_wp2_with fail
  refine (HD.out _).mono ?_
  rintro e w1 ⟨d, rfl, _, hd, k1⟩
  go_wp2
  go_ret
  have hs : str (Lib.itoa n) = d := hd.out.symm
  exact ⟨by rw [HX.out, hs]; rfl, k1⟩

theorem name_cell (l : List (List UInt8)) (j : Nat) (hj : j < l.length) : (strC l)[j]? = some (.string (str (A.nameAt l (j : Int)))) := by
  rw [strC_at l j hj]
  unfold A.nameAt
  rw [if_pos (by omega)]
  simp [hj]

set_option maxHeartbeats 2000000 in
theorem rword_8 (n : Int) (w : World) (h0 : 0 ≤ n) (h1 : n < 14) :
    Calls Tryz.prog 60 #[.int .i64 8, .int .i64 n] w fun e w' => e = .returned (.string (str (word 8 n))) ∧ Keep NoB w w' := by
  obtain ⟨j, rfl⟩ : ∃ j : Nat, n = (j : Int) := ⟨n.toNat, by omega⟩
  have hj : j < 14 := by omega
  have hcell : (w.alloc (.cells (strC A.binNs) 9)).cell? ⟨w.heap.size, j, none⟩ = some (.string (str (word 8 (j : Int)))) := by
    rw [World.cell?_alloc_at _ _ _ _ rfl]; exact name_cell A.binNs j hj
  clear h0 h1
  generalize str (word 8 (j : Int)) = s at hcell ⊢
  go_enter Tryz.func60, Tryz.ntmps60
  go_wp2_with fail
  refine (rbins_any _).mono ?_
  rintro e w1 ⟨rfl, rfl⟩
  go_wp2
  go_ret
  exact ⟨rfl, (Keep.refl NoB w).alloc _⟩

set_option maxHeartbeats 2000000 in
theorem rword_9 (n : Int) (w : World) (h0 : 0 ≤ n) (h1 : n < 9) :
    Calls Tryz.prog 60 #[.int .i64 9, .int .i64 n] w fun e w' => e = .returned (.string (str (word 9 n))) ∧ Keep NoB w w' := by
  obtain ⟨j, rfl⟩ : ∃ j : Nat, n = (j : Int) := ⟨n.toNat, by omega⟩
  have hj : j < 9 := by omega
  have hcell : (w.alloc (.cells (strC A.unNs) 9)).cell? ⟨w.heap.size, j, none⟩ = some (.string (str (word 9 (j : Int)))) := by
    rw [World.cell?_alloc_at _ _ _ _ rfl]; exact name_cell A.unNs j hj
  clear h0 h1
  generalize str (word 9 (j : Int)) = s at hcell ⊢
  go_enter Tryz.func60, Tryz.ntmps60
  go_wp2_with fail
  refine (runs_any _).mono ?_
  rintro e w1 ⟨rfl, rfl⟩
  go_wp2
  go_ret
  exact ⟨rfl, (Keep.refl NoB w).alloc _⟩

theorem rword_any (k n : Int) (w : World) (h : inK k n = true) (hn : W.I64 n) :
    Calls Tryz.prog 60 #[.int .i64 k, .int .i64 n] w fun e w' => e = .returned (.string (str (word k n))) ∧ Keep NoB w w' := by
  have h := of_decide_eq_true h
  by_cases h2 : k = 2
  · rw [h2] at h; exact rword_let k n w (.inl h2) h.1 h.2
  · by_cases h3 : k = 3
    · rw [h3] at h
      have e : hi 3 = 3 := rfl
      exact rword_let k n w (.inr h3) h.1 (by omega)
    · by_cases h8 : k = 8
      · subst h8
        have e : hi 8 = 13 := rfl
        have e0 : lo 8 = 0 := rfl
        exact rword_8 n w (by omega) (by omega)
      · by_cases h9 : k = 9
        · subst h9
          have e : hi 9 = 8 := rfl
          have e0 : lo 9 = 0 := rfl
          exact rword_9 n w (by omega) (by omega)
        · exact rword_num k n w h2 h3 h8 h9 hn

end Go.Proofs.YtpkcjokkadfhcaaGreatDoor.O

namespace Go.Proofs.YtpkcjokkadfhcaaGreatDoor.W
open Go.RowKit

theorem rcheck_ok (t n : Int) (w : World) (h : okB t n = true) :
    Calls Tryz.prog 133 #[.agg #[.int .i64 t, .int .i64 n]] w fun e w' => e = .returned (.int .i64 0) ∧ Keep NoB w w' := by
  have := rcheck_any t n w
  rw [chk_ok h] at this
  exact this
theorem rcheck_bad (t n : Int) (w : World) (h : okB t n = false) :
    Calls Tryz.prog 133 #[.agg #[.int .i64 t, .int .i64 n]] w fun e w' => e = .returned (.int .i64 21) ∧ Keep NoB w w' := by
  have := rcheck_any t n w
  rw [chk_bad h] at this
  exact this

set_option maxRecDepth 100000 in
set_option maxHeartbeats 8000000 in
theorem rshow_any (t n : Int) (w : World) (hn : I64 n) :
    Calls Tryz.prog 117 #[.agg #[.int .i64 t, .int .i64 n]] w fun e w' => e = .returned (.string (str (showL t n))) ∧ Keep NoB w w' := by
  have hB := Blk.new w 146 #[.int .i64 t, .int .i64 n]
  have hK := (Keep.refl NoB w).alloc (.cells #[.int .i64 t, .int .i64 n] 146)
  cases hok : okB t n
  · have HX := Lib.hid (show_bad hok)
    have HC := Lib.hid (rcheck_bad t n · hok)
    clear hok
    go_enter Tryz.func117, Tryz.ntmps117
    go_wp2_with fail
    refine (HC.out _).mono ?_
    rintro e w2 ⟨rfl, hk2⟩
    go_wp2
    go_ret
    exact ⟨by rw [HX.out]; rfl, keepN hK hk2⟩
  · cases hz : nilB t n
    · rcases known_cases (ok_known hok) with rfl | rfl | rfl | rfl
      · have HX := Lib.hid (show_num hok hz (by decide))
        have hno : I64 (n - 0) := by rw [ok_iff] at hok; rw [nil_not] at hz; obtain ⟨hn0, hn1⟩ := hn; unfold I64; omega
        obtain ⟨hm0, hm1⟩ := hno
        have HC := Lib.hid (rcheck_ok 1 n · hok)
        have HN := Lib.hid (fun W => rnil_any 1 n W)
        rw [hz] at HN
        clear hok hz
        go_enter Tryz.func117, Tryz.ntmps117
        go_wp2_with fail
        refine (HC.out _).mono ?_
        rintro e w2 ⟨rfl, hk2⟩
        have b2 := hB.keep hk2 id
        have c0 : w2.cell? ⟨w.heap.size, 0, none⟩ = some (.int .i64 1) := b2.cell 0
        have c1 : w2.cell? ⟨w.heap.size, 1, none⟩ = some (.int .i64 n) := b2.cell 1
        go_wp2_with fail
        refine (HN.out _).mono ?_
        rintro e w3 ⟨rfl, hk3⟩
        have b3 := b2.keep hk3 id
        have hK3 := keepN (keepN hK hk2) hk3
        clear c0 c1
        have c0 : w3.cell? ⟨w.heap.size, 0, none⟩ = some (.int .i64 1) := b3.cell 0
        have c1 : w3.cell? ⟨w.heap.size, 1, none⟩ = some (.int .i64 n) := b3.cell 1
        go_wp2_with (go_at_call 93; refine (digits_any n _ ⟨by omega, by omega⟩).mono ?_; rintro e w4 ⟨d, rfl, hds, hd, hk4⟩)
        go_ret
        exact ⟨by rw [HX.out]; show _ = Ending.returned (.string (str ([] ++ Lib.itoa (n - 0)))); rw [Int.sub_zero, List.nil_append, ← hd.out]; rfl, keepN hK3 hk4⟩
      · have HX := Lib.hid (show_num hok hz (by decide))
        have hno : I64 (n - 0) := by rw [ok_iff] at hok; rw [nil_not] at hz; obtain ⟨hn0, hn1⟩ := hn; unfold I64; omega
        obtain ⟨hm0, hm1⟩ := hno
        have HC := Lib.hid (rcheck_ok 2 n · hok)
        have HN := Lib.hid (fun W => rnil_any 2 n W)
        rw [hz] at HN
        clear hok hz
        go_enter Tryz.func117, Tryz.ntmps117
        go_wp2_with fail
        refine (HC.out _).mono ?_
        rintro e w2 ⟨rfl, hk2⟩
        have b2 := hB.keep hk2 id
        have c0 : w2.cell? ⟨w.heap.size, 0, none⟩ = some (.int .i64 2) := b2.cell 0
        have c1 : w2.cell? ⟨w.heap.size, 1, none⟩ = some (.int .i64 n) := b2.cell 1
        go_wp2_with fail
        refine (HN.out _).mono ?_
        rintro e w3 ⟨rfl, hk3⟩
        have b3 := b2.keep hk3 id
        have hK3 := keepN (keepN hK hk2) hk3
        clear c0 c1
        have c0 : w3.cell? ⟨w.heap.size, 0, none⟩ = some (.int .i64 2) := b3.cell 0
        have c1 : w3.cell? ⟨w.heap.size, 1, none⟩ = some (.int .i64 n) := b3.cell 1
        go_wp2_with (go_at_call 93; refine (digits_any n _ ⟨by omega, by omega⟩).mono ?_; rintro e w4 ⟨d, rfl, hds, hd, hk4⟩)
        go_ret
        exact ⟨by rw [HX.out]; show _ = Ending.returned (.string (str ([35] ++ Lib.itoa (n - 0)))); rw [Int.sub_zero, ← str_app, ← hd.out]; rfl, keepN hK3 hk4⟩
      · have HX := Lib.hid (show_num hok hz (by decide))
        have hno : I64 (n - 1) := by rw [ok_iff] at hok; rw [nil_not] at hz; obtain ⟨hn0, hn1⟩ := hn; unfold I64; omega
        obtain ⟨hm0, hm1⟩ := hno
        have HC := Lib.hid (rcheck_ok 3 n · hok)
        have HN := Lib.hid (fun W => rnil_any 3 n W)
        rw [hz] at HN
        clear hok hz
        go_enter Tryz.func117, Tryz.ntmps117
        go_wp2_with fail
        refine (HC.out _).mono ?_
        rintro e w2 ⟨rfl, hk2⟩
        have b2 := hB.keep hk2 id
        have c0 : w2.cell? ⟨w.heap.size, 0, none⟩ = some (.int .i64 3) := b2.cell 0
        have c1 : w2.cell? ⟨w.heap.size, 1, none⟩ = some (.int .i64 n) := b2.cell 1
        go_wp2_with fail
        refine (HN.out _).mono ?_
        rintro e w3 ⟨rfl, hk3⟩
        have b3 := b2.keep hk3 id
        have hK3 := keepN (keepN hK hk2) hk3
        clear c0 c1
        have c0 : w3.cell? ⟨w.heap.size, 0, none⟩ = some (.int .i64 3) := b3.cell 0
        have c1 : w3.cell? ⟨w.heap.size, 1, none⟩ = some (.int .i64 n) := b3.cell 1
        go_wp2_with (go_at_call 93; refine (digits_any (n - 1) _ ⟨by omega, by omega⟩).mono ?_; rintro e w4 ⟨d, rfl, hds, hd, hk4⟩)
        go_ret
        exact ⟨by rw [HX.out]; show _ = Ending.returned (.string (str ([64] ++ Lib.itoa (n - 1)))); rw [← str_app, ← hd.out]; rfl, keepN hK3 hk4⟩
      · have HX := Lib.hid (show_ptr (n := n) (by rw [nil_not] at hz; rw [ok_iff] at hok; omega))
        have HC := Lib.hid (rcheck_ok 4 n · hok)
        have HN := Lib.hid (fun W => rnil_any 4 n W)
        rw [hz] at HN
        clear hok hz
        go_enter Tryz.func117, Tryz.ntmps117
        go_wp2_with fail
        refine (HC.out _).mono ?_
        rintro e w2 ⟨rfl, hk2⟩
        have b2 := hB.keep hk2 id
        have c0 : w2.cell? ⟨w.heap.size, 0, none⟩ = some (.int .i64 4) := b2.cell 0
        have c1 : w2.cell? ⟨w.heap.size, 1, none⟩ = some (.int .i64 n) := b2.cell 1
        go_wp2_with fail
        refine (HN.out _).mono ?_
        rintro e w3 ⟨rfl, hk3⟩
        have b3 := b2.keep hk3 id
        have hK3 := keepN (keepN hK hk2) hk3
        clear c0 c1
        have c0 : w3.cell? ⟨w.heap.size, 0, none⟩ = some (.int .i64 4) := b3.cell 0
        have c1 : w3.cell? ⟨w.heap.size, 1, none⟩ = some (.int .i64 n) := b3.cell 1
        go_wp2
        go_ret
        exact ⟨by rw [HX.out]; rfl, hK3⟩
    · have HX := Lib.hid (show_nil hz)
      have HC := Lib.hid (rcheck_ok t n · hok)
      have HN := Lib.hid (fun W => rnil_any t n W)
      rw [hz] at HN
      clear hok hz
      go_enter Tryz.func117, Tryz.ntmps117
      go_wp2_with fail
      refine (HC.out _).mono ?_
      rintro e w2 ⟨rfl, hk2⟩
      have b2 := hB.keep hk2 id
      have c0 : w2.cell? ⟨w.heap.size, 0, none⟩ = some (.int .i64 t) := b2.cell 0
      have c1 : w2.cell? ⟨w.heap.size, 1, none⟩ = some (.int .i64 n) := b2.cell 1
      go_wp2_with fail
      refine (HN.out _).mono ?_
      rintro e w3 ⟨rfl, hk3⟩
      have b3 := b2.keep hk3 id
      have hK3 := keepN (keepN hK hk2) hk3
      clear c0 c1
      have c0 : w3.cell? ⟨w.heap.size, 0, none⟩ = some (.int .i64 t) := b3.cell 0
      have c1 : w3.cell? ⟨w.heap.size, 1, none⟩ = some (.int .i64 n) := b3.cell 1
      go_wp2
      go_ret
      exact ⟨by rw [HX.out]; rfl, hK3⟩

end Go.Proofs.YtpkcjokkadfhcaaGreatDoor.W

namespace Go.Proofs.YtpkcjokkadfhcaaGreatDoor.W
open Go.RowKit

theorem extract_one {S : ByteArray} {c : UInt8} {r : List UInt8} (h : S.data.toList = c :: r) : (S.extract 1 S.size).data.toList = r := by
  have hz := size_of h
  rw [ByteArray.data_extract, Array.toList_extract, h]
  simp [List.extract, hz]
theorem num19_long {d : List UInt8} (h : ¬ (1 ≤ d.length ∧ d.length ≤ 19)) : num19 d = none := by unfold num19; rw [if_neg (fun h' => h ⟨h'.1, h'.2.1⟩)]
theorem num19_bad {d : List UInt8} {c : UInt8} (hc : c ∈ d) (h : ¬ (48 ≤ c.toNat ∧ c.toNat ≤ 57)) : num19 d = none := by
  unfold num19
  rw [if_neg]
  intro h'
  have := (List.all_eq_true.1 h'.2.2) c hc
  exact h (by simpa using this)
theorem num19_ok {d : List UInt8} (h1 : 1 ≤ d.length) (h2 : d.length ≤ 19) (h : ∀ c ∈ d, 48 ≤ c.toNat ∧ c.toNat ≤ 57) : num19 d = some (spell 0 d) := by
  unfold num19
  rw [if_pos ⟨h1, h2, by rw [List.all_eq_true]; intro c hc; simpa using h c hc⟩]
theorem neg_w (m : Int) : wrap64 (-(wrap64 m)) = w64 (-m) := by unfold wrap64 w64; omega
theorem spell_take {d : List UInt8} {k : Nat} (hk : k < d.length) : spell 0 (d.take (k + 1)) = spell 0 (d.take k) * 10 + (d[k].toNat - 48) := by
  rw [List.take_succ_eq_append_getElem hk, spell_append]; rfl
theorem spell_bound {d : List UInt8} {k : Nat} (h : ∀ c ∈ d.take k, 48 ≤ c.toNat ∧ c.toNat ≤ 57) : spell 0 (d.take k) < 10 ^ k := by
  have h1 := spell_lt (d.take k) 0 h
  have h2 : 10 ^ (d.take k).length ≤ 10 ^ k := Nat.pow_le_pow_right (by omega) (by rw [List.length_take]; omega)
  omega

set_option maxRecDepth 100000 in
set_option maxHeartbeats 8000000 in
theorem number_any (S : ByteArray) (s : List UInt8) (w : World) (hs : Hid (S.data.toList = s)) (hl : S.size ≤ 281474976710656) :
    Calls Tryz.prog 116 #[.string S] w fun e w' => e = .returned (.tuple #[.int .i64 (numR s).1, .bool (numR s).2]) ∧ w = w' := by
  by_cases h0 : S.size = 0
  · have HN : Hid (numR s = (0, false)) := by
      have := size_of hs.out
      have : s = [] := List.length_eq_zero_iff.1 (by omega)
      show _ = _
      rw [this]; rfl
    go_enter Tryz.func116, Tryz.ntmps116
    go_wp2
    go_ret2
    exact ⟨by rw [HN.out]; rfl, rfl⟩
  · have h0' : 0 < S.size := by omega
    obtain ⟨c, d, hcd⟩ : ∃ c d, s = c :: d := by
      cases hh : s with
      | nil =>
        have h2 := size_of hs.out
        rw [hh] at h2
        simp only [List.length_nil] at h2
        omega
      | cons c d => exact ⟨c, d, rfl⟩
    have hc0 : S[0] = c := by
      have := byte_at hs.out 0 h0' (by rw [hcd]; simp)
      rw [this]; simp [hcd]
    by_cases hm : c = 45
    · have HN : Hid (numR s = match num19 d with | some m => (w64 (-(m : Int)), true) | none => (0, false)) := by show _ = _; rw [hcd]; unfold numR; dsimp only; rw [if_pos hm]; rfl
      have hq : ((S[0].toNat : Int) == 45) = true := by rw [hc0, hm]; rfl
      obtain ⟨DD, hDD⟩ : ∃ DD, S.extract 1 S.size = DD := ⟨_, rfl⟩
      have hd : Hid (DD.data.toList = d) := by show _ = _; rw [← hDD]; exact extract_one (hs.out.trans hcd)
      have HSZ := Lib.hid (size_of hd.out)
      have hDS : S.size - 1 = DD.size := by rw [HSZ.out, size_of hs.out, hcd]; simp
      clear h0 hm hc0 hcd
      by_cases hlen : 1 ≤ DD.size ∧ DD.size ≤ 19
      · obtain ⟨hlen1, hlen2⟩ := hlen
        go_enter Tryz.func116, Tryz.ntmps116
        go_wp2
        go_loop [5, 6] (fun mv iv => ∃ k m : Nat, k ≤ DD.size ∧ iv = .int .i64 k ∧ mv = .int .u64 m ∧ m < 10000000000000000000 ∧ Hid ((∀ c ∈ d.take k, 48 ≤ c.toNat ∧ c.toNat ≤ 57) ∧ m = spell 0 (d.take k))) (fun _ iv => DD.size - (intOf iv).toNat)
        case atStart => exact ⟨0, 0, Nat.zero_le _, rfl, rfl, by omega, by simp, rfl⟩
        case round =>
          obtain ⟨k, m, hk, rfl, rfl, hmb, hI⟩ := hrel
          by_cases hlt : k < DD.size
          · have hkd : k < d.length := by rw [← HSZ.out]; exact hlt
            have HB := Lib.hid (byte_at hd.out k hlt hkd)
            have HM := Lib.hid (List.getElem_mem hkd)
            have HT := Lib.hid (spell_take hkd)
            have HTk := Lib.hid (show d.take (k + 1) = d.take k ++ [d[k]] from List.take_succ_eq_append_getElem hkd)
            have h19 : 10 ^ k ≤ 1000000000000000000 := by
              have h1 : 10 ^ k ≤ 10 ^ 18 := Nat.pow_le_pow_right (by omega) (by omega)
              have h2 : (10 : Nat) ^ 18 = 1000000000000000000 := by decide
              omega
            have hms : m < 1000000000000000000 := by
              have := spell_bound (d := d) (k := k) hI.out.1
              have := hI.out.2
              omega
            clear h19
            by_cases hlo : DD[k].toNat < 48
            · have HR : Hid (num19 d = none) := num19_bad HM.out (by rw [← HB.out]; omega)
              rw [HR.out] at HN
              have hlo' : (DD[k].toNat : Int) < 48 := by omega
              clear HB HM HT HTk hI hlo
              go_wp2
              go_ret2
              exact ⟨by rw [HN.out]; rfl, rfl⟩
            · by_cases hhi : 57 < DD[k].toNat
              · have HR : Hid (num19 d = none) := num19_bad HM.out (by rw [← HB.out]; omega)
                rw [HR.out] at HN
                have hlo' : (48 : Int) ≤ (DD[k].toNat : Int) := by omega
                have hhi' : (57 : Int) < (DD[k].toNat : Int) := by omega
                clear HB HM HT HTk hI hlo hhi
                go_wp2
                go_ret2
                exact ⟨by rw [HN.out]; rfl, rfl⟩
              · have hI2 : Hid ((∀ c ∈ d.take (k + 1), 48 ≤ c.toNat ∧ c.toNat ≤ 57) ∧ 10 * m + (DD[k].toNat - 48) = spell 0 (d.take (k + 1))) := by
                  refine ⟨fun c hc => ?_, ?_⟩
                  · rw [HTk.out] at hc
                    rcases List.mem_append.1 hc with hc | hc
                    · exact hI.out.1 c hc
                    · rw [List.mem_singleton.1 hc, ← HB.out]; omega
                  · rw [HT.out, ← hI.out.2, HB.out]; omega
                have hlo' : (48 : Int) ≤ (DD[k].toNat : Int) := by omega
                have hhi' : (DD[k].toNat : Int) ≤ 57 := by omega
                clear HB HM HT HTk hI
                go_wp2
                go_round
                case rel => exact ⟨k + 1, 10 * m + (DD[k].toNat - 48), by omega, by go_num, by go_num, by omega, hI2⟩
                case measure => simp [intOf]; omega
          · obtain hkn : k = d.length := by rw [← HSZ.out]; omega
            have HA : Hid (num19 d = some m) := by
              have h1 := hI.out.1
              have h2 := hI.out.2
              rw [hkn, List.take_length] at h1 h2
              show _ = _
              rw [num19_ok (by rw [← HSZ.out]; omega) (by rw [← HSZ.out]; omega) h1, h2]
            rw [HA.out] at HN
            clear hkn hI
            go_wp2
            go_ret2
            exact ⟨by rw [HN.out]; rw [← neg_w]; rfl, rfl⟩
      · have HR : Hid (num19 d = none) := num19_long (by rw [← HSZ.out]; exact hlen)
        rw [HR.out] at HN
        have HL := Lib.hid hlen
        clear hlen
        go_enter Tryz.func116, Tryz.ntmps116
        go_wp2
        all_goals first | (go_ret2; exact ⟨by rw [HN.out]; rfl, rfl⟩) | (exfalso; have := HL.out; omega)
    · have HN : Hid (numR s = match num19 s with | some m => (w64 (m : Int), true) | none => (0, false)) := by show _ = _; rw [hcd]; unfold numR; dsimp only; rw [if_neg hm]; rfl
      have hq : ((S[0].toNat : Int) == 45) = false := by
        rw [hc0, beq_eq_false_iff_ne]
        intro e
        exact hm (UInt8.toNat_inj.1 (by have e45 : (45 : UInt8).toNat = 45 := rfl; omega))
      have hd := hs
      have HSZ := Lib.hid (size_of hd.out)
      clear h0 hm hc0 hcd
      by_cases hlen : 1 ≤ S.size ∧ S.size ≤ 19
      · obtain ⟨hlen1, hlen2⟩ := hlen
        go_enter Tryz.func116, Tryz.ntmps116
        go_wp2
        go_loop [5, 6] (fun mv iv => ∃ k m : Nat, k ≤ S.size ∧ iv = .int .i64 k ∧ mv = .int .u64 m ∧ m < 10000000000000000000 ∧ Hid ((∀ c ∈ s.take k, 48 ≤ c.toNat ∧ c.toNat ≤ 57) ∧ m = spell 0 (s.take k))) (fun _ iv => S.size - (intOf iv).toNat)
        case atStart => exact ⟨0, 0, Nat.zero_le _, rfl, rfl, by omega, by simp, rfl⟩
        case round =>
          obtain ⟨k, m, hk, rfl, rfl, hmb, hI⟩ := hrel
          by_cases hlt : k < S.size
          · have hkd : k < s.length := by rw [← HSZ.out]; exact hlt
            have HB := Lib.hid (byte_at hd.out k hlt hkd)
            have HM := Lib.hid (List.getElem_mem hkd)
            have HT := Lib.hid (spell_take hkd)
            have HTk := Lib.hid (show s.take (k + 1) = s.take k ++ [s[k]] from List.take_succ_eq_append_getElem hkd)
            have h19 : 10 ^ k ≤ 1000000000000000000 := by
              have h1 : 10 ^ k ≤ 10 ^ 18 := Nat.pow_le_pow_right (by omega) (by omega)
              have h2 : (10 : Nat) ^ 18 = 1000000000000000000 := by decide
              omega
            have hms : m < 1000000000000000000 := by
              have := spell_bound (d := s) (k := k) hI.out.1
              have := hI.out.2
              omega
            clear h19
            by_cases hlo : S[k].toNat < 48
            · have HR : Hid (num19 s = none) := num19_bad HM.out (by rw [← HB.out]; omega)
              rw [HR.out] at HN
              have hlo' : (S[k].toNat : Int) < 48 := by omega
              clear HB HM HT HTk hI hlo
              go_wp2
              go_ret2
              exact ⟨by rw [HN.out]; rfl, rfl⟩
            · by_cases hhi : 57 < S[k].toNat
              · have HR : Hid (num19 s = none) := num19_bad HM.out (by rw [← HB.out]; omega)
                rw [HR.out] at HN
                have hlo' : (48 : Int) ≤ (S[k].toNat : Int) := by omega
                have hhi' : (57 : Int) < (S[k].toNat : Int) := by omega
                clear HB HM HT HTk hI hlo hhi
                go_wp2
                go_ret2
                exact ⟨by rw [HN.out]; rfl, rfl⟩
              · have hI2 : Hid ((∀ c ∈ s.take (k + 1), 48 ≤ c.toNat ∧ c.toNat ≤ 57) ∧ 10 * m + (S[k].toNat - 48) = spell 0 (s.take (k + 1))) := by
                  refine ⟨fun c hc => ?_, ?_⟩
                  · rw [HTk.out] at hc
                    rcases List.mem_append.1 hc with hc | hc
                    · exact hI.out.1 c hc
                    · rw [List.mem_singleton.1 hc, ← HB.out]; omega
                  · rw [HT.out, ← hI.out.2, HB.out]; omega
                have hlo' : (48 : Int) ≤ (S[k].toNat : Int) := by omega
                have hhi' : (S[k].toNat : Int) ≤ 57 := by omega
                clear HB HM HT HTk hI
                go_wp2
                go_round
                case rel => exact ⟨k + 1, 10 * m + (S[k].toNat - 48), by omega, by go_num, by go_num, by omega, hI2⟩
                case measure => simp [intOf]; omega
          · obtain hkn : k = s.length := by rw [← HSZ.out]; omega
            have HA : Hid (num19 s = some m) := by
              have h1 := hI.out.1
              have h2 := hI.out.2
              rw [hkn, List.take_length] at h1 h2
              show _ = _
              rw [num19_ok (by rw [← HSZ.out]; omega) (by rw [← HSZ.out]; omega) h1, h2]
            rw [HA.out] at HN
            clear hkn hI
            go_wp2
            go_ret2
            exact ⟨by rw [HN.out]; rw [← w64_w]; rfl, rfl⟩
      · have HR : Hid (num19 s = none) := num19_long (by rw [← HSZ.out]; exact hlen)
        rw [HR.out] at HN
        have HL := Lib.hid hlen
        clear hlen
        go_enter Tryz.func116, Tryz.ntmps116
        go_wp2
        all_goals first | (go_ret2; exact ⟨by rw [HN.out]; rfl, rfl⟩) | (exfalso; have := HL.out; omega)

end Go.Proofs.YtpkcjokkadfhcaaGreatDoor.W
