/-
  What OpcodeNames calls: strings.Join of texts between blanks; the law's own text of all effects. Conditions: the letters stand.
-/
import Derived.Test.YtpkcjokkadfhcaaGreatDoorQ6
import Derived.Test.YtpkcjokkadfhcaaGreatDoorQ14
import Derived.Test.YtpkcjokkadfhcaaGreatDoorQ13
import Derived.Test.YtpkcjokkadfhcaaGreatDoorQ9
namespace Go.Proofs.YtpkcjokkadfhcaaGreatDoor.O
open Go.RowKit

theorem join_any (l : List (List UInt8)) (A : Option Addr) (n c : Nat) (w : World) (hn : l.length = n) (h0 : 0 < n) (hb : n ≤ 1000) (hr : Rd w A (sv l)) (hc : n ≤ c) (hlen : (Lib.join l [32]).length ≤ 140737488355328) :
    Calls Tryz.prog 33 #[.slice A n c, .string ⟨#[32]⟩] w fun e w' => e = .returned (.string (str (Lib.join l [32]))) ∧ Keep NoB w w' := by
  obtain ⟨g, off, rfl, hcell⟩ := hr (by simp [sv]; omega)
  have e1 : (l.map str).map (fun x : ByteArray => x.data.toList) = l := by simp [Function.comp_def]
  have hg : g < w.heap.size := by
    have hl0 : 0 < l.length := by omega
    have := hcell 0 (.string (str (l.getD 0 []))) (by simp [sv, hl0])
    exact World.block_lt_of_cell? w _ this
  have h := Tryz.strings_Join g off c (l.map str) ⟨#[32]⟩ w (fun j x hx => hcell j _ (by
    simp only [List.getElem?_map, Option.map_eq_some_iff] at hx
    obtain ⟨y, hy, rfl⟩ := hx
    simp [sv, hy])) hg (by simp; omega) (by simp; omega) (by rw [e1]; exact hlen)
  rw [e1, List.length_map, hn] at h
  exact h.mono fun e w' ⟨he, hb⟩ => ⟨he, Keep.of_below hb⟩

/-- An instruction of an op, with operands that may be; what it takes and leaves, by letters. -/
def efA (op : Int) : Int := if 0 < (rowAt op).ka then 1 else 0
def efB (op : Int) : Int := if 0 < (rowAt op).kb then 3 else 0
def effS (op : Int) : List UInt8 := if fixedI op (efA op) (efB op) = true then W.txt (takesI op (efA op) (efB op)) ++ 58 :: W.txt (leavesI op (efA op) (efB op)) else [63]
def effL : List (List UInt8) := (List.range 30).map fun k : Nat => effS (k : Int)
theorem effL_len : effL.length = 30 := by simp [effL]
theorem effL_get {k : Nat} (h : k < 30) : effL.take (k + 1) = effL.take k ++ [effS (k : Int)] := by
  have hk : k < effL.length := by rw [effL_len]; exact h
  rw [List.take_succ_eq_append_getElem hk]
  simp [effL]
theorem txt_len (l : List Int) : (W.txt l).length ≤ l.length := by
  unfold W.txt
  split
  · rename_i h
    rw [W.flat_let_length l h.2]; exact Nat.le_refl _
  · simp
theorem typesL_le (t u a b : Int) : (typesL t u a b).length ≤ 2 := by
  unfold typesL
  split
  · simp
  · split <;> simp
theorem tk_le (op a b : Int) : (takesI op a b).length ≤ 2 := by
  unfold takesI
  split
  · exact typesL_le _ _ _ _
  · simp
theorem lv_le (op a b : Int) : (leavesI op a b).length ≤ 2 := by
  unfold leavesI
  split
  · exact typesL_le _ _ _ _
  · simp
theorem str_col (s d : List UInt8) : (str s ++ (⟨#[58]⟩ : ByteArray)) ++ str d = str (s ++ 58 :: d) := by
  apply ByteArray.ext
  simp [ByteArray.data_append]
theorem own_rdN {w : World} {O : Nat → Prop} {A : Option Addr} {n c : Nat} {xs : List Value} {t : TypeId} {z : Nat} (h : Own w t z O (.slice A n c) n xs) : Rd w A xs ∧ n ≤ c := by
  obtain ⟨A', c', e, hc, _, hR, _⟩ := h.form
  cases e
  exact ⟨hR, hc⟩

theorem own_not_blk {w : World} {O : Nat → Prop} {v : Value} {n g z : Nat} {E t : TypeId} {xs : List Value} {cs : Array Value} (h : Own w E z O v n xs) (hb : Blk w g t cs) (ht : t ≠ E) : v.ownBlock ≠ some g := by
  rcases h.1.2 with ⟨rfl, _⟩ | ⟨g', cap, cur, rfl, _, hh, _⟩
  · simp [Value.ownBlock]
  · intro e
    obtain rfl : g' = g := by simpa [Value.ownBlock] using e
    exact Blk.ne hb (t' := E) hh ht rfl

set_option maxRecDepth 100000 in
set_option maxHeartbeats 8000000 in
theorem effects_all (w : World) (hL : LaidO w) (hlen : (Lib.join effL [32]).length ≤ 140737488355328) :
    Calls Tryz.prog 34 #[] w fun e w' => e = .returned (.string (str (Lib.join effL [32]))) ∧ Keep NoB w w' := by
  obtain ⟨i0, hi, hz0, hz1, hz2⟩ := info_parts string_info
  have HL := Lib.hid hL
  clear hL
  go_enter Tryz.func34, Tryz.ntmps34
  go_wp2
  go_loopw [1, 2] (fun l i wr => ∃ (k : Nat), k ≤ 30 ∧ i = .int .i64 (k : Int) ∧ (∃ B d, l = .slice B k d ∧ Own wr 9 1 (Fresh w) (.slice B k d) k (sv (effL.take k))) ∧ Keep NoB w wr) (fun _ i _ => 30 - (intOf i).toNat)
  case atStart => exact ⟨0, by omega, rfl, ⟨_, _, rfl, Own.nil _ _ _ _⟩, Keep.refl _ _⟩
  case round =>
    obtain ⟨k, hk, rfl, ⟨B, d, rfl, hO⟩, hK⟩ := hrel
    by_cases hlt : k < 30
    · have HG := Lib.hid (effL_get hlt)
      have HOf := Lib.hid (fun w => of_any (k : Int) 0 0 w)
      have HKn := Lib.hid (fun w => kinds_any (k : Int) w)
      have HEf := Lib.hid (fun a b w => effect_any (k : Int) a b w)
      have HS : Hid (effS (k : Int) = if fixedI (k : Int) (efA k) (efB k) = true then W.txt (takesI (k : Int) (efA k) (efB k)) ++ 58 :: W.txt (leavesI (k : Int) (efA k) (efB k)) else [63]) := rfl
      have eA : efA (k : Int) = if 0 < (rowAt (k : Int)).ka then 1 else 0 := rfl
      have eB : efB (k : Int) = if 0 < (rowAt (k : Int)).kb then 3 else 0 := rfl
      have ht2 := fun a b => tk_le (k : Int) a b
      have hl2 := fun a b => lv_le (k : Int) a b
      by_cases ha : 0 < (rowAt (k : Int)).ka
      · by_cases hb : 0 < (rowAt (k : Int)).kb
        · have hEA : efA (k : Int) = 1 := by rw [eA, if_pos ha]
          have hEB : efB (k : Int) = 3 := by rw [eB, if_pos hb]
          rw [hEA, hEB] at HS
          cases hf : fixedI (k : Int) 1 3
          · have da : decide (0 < (rowAt (k : Int)).ka) = true := by simpa using ha
            have db : decide (0 < (rowAt (k : Int)).kb) = true := by simpa using hb
            have HE2 := Lib.hid (HEf.out 1 3)
            rw [hf] at HE2 HS
            have ht := ht2 1 3
            have hl := hl2 1 3
            generalize takesI (k : Int) 1 3 = tl at *
            generalize leavesI (k : Int) 1 3 = ll at *
            generalize (rowAt (k : Int)).ka = ja at *
            generalize (rowAt (k : Int)).kb = jb at *
            have HZ : Hid (sv (effL.take (k + 1)) = sv (effL.take k) ++ [.string ⟨#[63]⟩]) := by show _ = _; rw [HG.out, HS.out]; simp
            clear HG HS HEf eA eB ht2 hl2 hEA hEB ha hb hf
            go_wp2_with fail
            refine (HOf.out _).mono ?_
            rintro e w1 ⟨rfl, k1⟩
            have hKw1 := Lib.hid (keepN hK k1).size
            replace k1 := k1.alloc (.cells #[.int .i64 (k : Int), .int .i64 0, .int .i64 0] 23)
            have bx := Blk.new w1 23 #[.int .i64 (k : Int), .int .i64 0, .int .i64 0]
            replace hK := keepN hK k1
            replace hO := hO.keepN k1
            clear k1
            go_wp2_with fail
            refine (HKn.out _).mono ?_
            rintro e w2 ⟨rfl, k1⟩
            replace bx := bx.keep k1 id
            replace hK := keepN hK k1
            replace hO := hO.keepN k1
            have hlw : w.heap.size ≤ w1.heap.size := hKw1.out
            clear k1
            have hz := bx.lt
            have fx := fun i => bx.frozen i
            obtain ⟨x0, x1, x2⟩ := blk_inst bx
            have hne : (Value.slice B k d).ownBlock ≠ some w1.heap.size := own_not_blk hO bx (by decide)
            have bx := bx.put 1 (.int .i64 1)
            have hst : Keep (fun k => k = w1.heap.size) w2 (w2.setCell ⟨w1.heap.size, 1, none⟩ (.int .i64 1)) := Keep.setCell (O := fun k => k = w1.heap.size) (p := ⟨w1.heap.size, 1, none⟩) (Keep.refl _ _) (fun _ => rfl) _
            have hO : Own _ 9 1 (Fresh w) (.slice B k d) k (sv (effL.take k)) := ⟨ownsRow_keep hO.1 hst (fun g hg e => hne (e ▸ hg)), hO.2⟩
            have hK : Keep NoB w _ := hK.setCell (p := ⟨w1.heap.size, 1, none⟩) (fun h => absurd h (by simp; omega)) (.int .i64 1)
            have bx := bx.put 2 (.int .i64 3)
            have hst : Keep (fun k => k = w1.heap.size) (w2.setCell ⟨w1.heap.size, 1, none⟩ (.int .i64 1)) ((w2.setCell ⟨w1.heap.size, 1, none⟩ (.int .i64 1)).setCell ⟨w1.heap.size, 2, none⟩ (.int .i64 3)) := Keep.setCell (O := fun k => k = w1.heap.size) (p := ⟨w1.heap.size, 2, none⟩) (Keep.refl _ _) (fun _ => rfl) _
            have hO : Own _ 9 1 (Fresh w) (.slice B k d) k (sv (effL.take k)) := ⟨ownsRow_keep hO.1 hst (fun g hg e => hne (e ▸ hg)), hO.2⟩
            have hK : Keep NoB w _ := hK.setCell (p := ⟨w1.heap.size, 2, none⟩) (fun h => absurd h (by simp; omega)) (.int .i64 3)
            go_wp2_with fail
            refine (HE2.out _).mono ?_
            rintro e w3 ⟨A, ca, Bl, cb, rfl, hT1, hL1, k1⟩
            replace hK := keepN hK k1
            replace hO := hO.keepN k1
            clear k1 hT1 hL1
            go_wp2_with (at_builtin; refine wpList_append_rd _ rfl (.tmp 34) (.tmp 35) _ rfl 9 1 16 i0 _ Tryz.underlying61 hi hz0 hz1 hz2 rfl (by decide) _ k _ _ 1 _ [.string ⟨#[63]⟩] rfl (hO.1.alloc _) rfl rd_one rfl (by simp [Value.oneCell']) (by unfold maxLen; omega) (by omega) ?_; intro B2 d2 w9 hrow3 hg3 hv3; rw [← HZ.out] at hrow3; obtain ⟨hO3, hK3⟩ := _root_.Go.Proofs.YtpkcjokkadfhcaaGreatDoor.W.own_after hO.2 (hK.alloc _) hg3 hv3 hrow3; clear hrow3 hg3 hv3)
            go_roundw
            case rel => exact ⟨k + 1, by omega, by go_num, ⟨B2, d2, rfl, hO3⟩, hK3⟩
            case measure => simp [intOf]; omega
          · have da : decide (0 < (rowAt (k : Int)).ka) = true := by simpa using ha
            have db : decide (0 < (rowAt (k : Int)).kb) = true := by simpa using hb
            have HE2 := Lib.hid (HEf.out 1 3)
            rw [hf] at HE2 HS
            have ht := ht2 1 3
            have hl := hl2 1 3
            generalize takesI (k : Int) 1 3 = tl at *
            generalize leavesI (k : Int) 1 3 = ll at *
            generalize (rowAt (k : Int)).ka = ja at *
            generalize (rowAt (k : Int)).kb = jb at *
            have sT : (str (W.txt tl)).size ≤ 2 := by rw [_root_.Go.Proofs.YtpkcjokkadfhcaaGreatDoor.W.size_of (s := W.txt tl) (by simp)]; exact Nat.le_trans (txt_len tl) ht
            have sL : (str (W.txt ll)).size ≤ 2 := by rw [_root_.Go.Proofs.YtpkcjokkadfhcaaGreatDoor.W.size_of (s := W.txt ll) (by simp)]; exact Nat.le_trans (txt_len ll) hl
            have HZ : Hid (sv (effL.take (k + 1)) = sv (effL.take k) ++ [.string ((str (W.txt tl) ++ (⟨#[58]⟩ : ByteArray)) ++ str (W.txt ll))]) := by show _ = _; rw [HG.out, HS.out, str_col]; simp
            have HT := Lib.hid (fun A n c v0 (h1 : Keep NoB w v0) (h2 : Rd v0 A (ivs tl)) (h3 : Hid (tl.length = n)) => (show Calls Tryz.prog 64 #[.slice A n c] v0 fun e w' => e = .returned (.string (str (W.txt tl))) ∧ Keep NoB v0 w' from _root_.Go.Proofs.YtpkcjokkadfhcaaGreatDoor.W.text_any A tl n c v0 (HL.out.keep h1).lets h2 h3 (by have := h3.out; omega)))
            have HU := Lib.hid (fun A n c v0 (h1 : Keep NoB w v0) (h2 : Rd v0 A (ivs ll)) (h3 : Hid (ll.length = n)) => (show Calls Tryz.prog 64 #[.slice A n c] v0 fun e w' => e = .returned (.string (str (W.txt ll))) ∧ Keep NoB v0 w' from _root_.Go.Proofs.YtpkcjokkadfhcaaGreatDoor.W.text_any A ll n c v0 (HL.out.keep h1).lets h2 h3 (by have := h3.out; omega)))
            generalize str (W.txt tl) = X at *
            generalize str (W.txt ll) = Y at *
            have q1 : ¬ 9223372036854775807 < X.size + 1 := by omega
            have q2 : ¬ 9223372036854775807 < X.size + 1 + Y.size := by omega
            obtain ⟨TT, hTT⟩ : ∃ TT, (X ++ (⟨#[58]⟩ : ByteArray)) ++ Y = TT := ⟨_, rfl⟩
            rw [hTT] at HZ
            clear HG HS HEf eA eB ht2 hl2 hEA hEB ha hb hf
            go_wp2_with fail
            refine (HOf.out _).mono ?_
            rintro e w1 ⟨rfl, k1⟩
            have hKw1 := Lib.hid (keepN hK k1).size
            replace k1 := k1.alloc (.cells #[.int .i64 (k : Int), .int .i64 0, .int .i64 0] 23)
            have bx := Blk.new w1 23 #[.int .i64 (k : Int), .int .i64 0, .int .i64 0]
            replace hK := keepN hK k1
            replace hO := hO.keepN k1
            clear k1
            go_wp2_with fail
            refine (HKn.out _).mono ?_
            rintro e w2 ⟨rfl, k1⟩
            replace bx := bx.keep k1 id
            replace hK := keepN hK k1
            replace hO := hO.keepN k1
            have hlw : w.heap.size ≤ w1.heap.size := hKw1.out
            clear k1
            have hz := bx.lt
            have fx := fun i => bx.frozen i
            obtain ⟨x0, x1, x2⟩ := blk_inst bx
            have hne : (Value.slice B k d).ownBlock ≠ some w1.heap.size := own_not_blk hO bx (by decide)
            have bx := bx.put 1 (.int .i64 1)
            have hst : Keep (fun k => k = w1.heap.size) w2 (w2.setCell ⟨w1.heap.size, 1, none⟩ (.int .i64 1)) := Keep.setCell (O := fun k => k = w1.heap.size) (p := ⟨w1.heap.size, 1, none⟩) (Keep.refl _ _) (fun _ => rfl) _
            have hO : Own _ 9 1 (Fresh w) (.slice B k d) k (sv (effL.take k)) := ⟨ownsRow_keep hO.1 hst (fun g hg e => hne (e ▸ hg)), hO.2⟩
            have hK : Keep NoB w _ := hK.setCell (p := ⟨w1.heap.size, 1, none⟩) (fun h => absurd h (by simp; omega)) (.int .i64 1)
            have bx := bx.put 2 (.int .i64 3)
            have hst : Keep (fun k => k = w1.heap.size) (w2.setCell ⟨w1.heap.size, 1, none⟩ (.int .i64 1)) ((w2.setCell ⟨w1.heap.size, 1, none⟩ (.int .i64 1)).setCell ⟨w1.heap.size, 2, none⟩ (.int .i64 3)) := Keep.setCell (O := fun k => k = w1.heap.size) (p := ⟨w1.heap.size, 2, none⟩) (Keep.refl _ _) (fun _ => rfl) _
            have hO : Own _ 9 1 (Fresh w) (.slice B k d) k (sv (effL.take k)) := ⟨ownsRow_keep hO.1 hst (fun g hg e => hne (e ▸ hg)), hO.2⟩
            have hK : Keep NoB w _ := hK.setCell (p := ⟨w1.heap.size, 2, none⟩) (fun h => absurd h (by simp; omega)) (.int .i64 3)
            go_wp2_with fail
            refine (HE2.out _).mono ?_
            rintro e w3 ⟨A, ca, Bl, cb, rfl, hT1, hL1, k1⟩
            replace hK := keepN hK k1
            replace hO := hO.keepN k1
            have rt := (own_rdN hT1).1
            have rl := (own_rdN hL1).1
            clear k1 hT1 hL1
            go_wp2_with fail
            refine (HT.out _ _ _ _ hK rt rfl).mono ?_
            rintro e w4 ⟨rfl, k1⟩
            replace hK := keepN hK k1
            replace hO := hO.keepN k1
            replace rl := rl.keepN k1
            clear k1 rt
            go_wp2_with fail
            refine (HU.out _ _ _ _ hK rl rfl).mono ?_
            rintro e w5 ⟨rfl, k1⟩
            replace hK := keepN hK k1
            replace hO := hO.keepN k1
            clear k1 rl
            go_wp2_with (at_builtin; refine wpList_append_rd _ rfl (.tmp 37) (.tmp 44) _ rfl 9 1 16 i0 _ Tryz.underlying61 hi hz0 hz1 hz2 rfl (by decide) _ k _ _ 1 _ [.string TT] rfl (hO.1.alloc _) rfl rd_one rfl (by simp [Value.oneCell']) (by unfold maxLen; omega) (by omega) ?_; intro B2 d2 w9 hrow3 hg3 hv3; rw [← HZ.out] at hrow3; obtain ⟨hO3, hK3⟩ := _root_.Go.Proofs.YtpkcjokkadfhcaaGreatDoor.W.own_after hO.2 (hK.alloc _) hg3 hv3 hrow3; clear hrow3 hg3 hv3)
            go_roundw
            case rel => exact ⟨k + 1, by omega, by go_num, ⟨B2, d2, rfl, hO3⟩, hK3⟩
            case measure => simp [intOf]; omega
        · have hEA : efA (k : Int) = 1 := by rw [eA, if_pos ha]
          have hEB : efB (k : Int) = 0 := by rw [eB, if_neg hb]
          rw [hEA, hEB] at HS
          cases hf : fixedI (k : Int) 1 0
          · have da : decide (0 < (rowAt (k : Int)).ka) = true := by simpa using ha
            have db : decide (0 < (rowAt (k : Int)).kb) = false := by simpa using hb
            have HE2 := Lib.hid (HEf.out 1 0)
            rw [hf] at HE2 HS
            have ht := ht2 1 0
            have hl := hl2 1 0
            generalize takesI (k : Int) 1 0 = tl at *
            generalize leavesI (k : Int) 1 0 = ll at *
            generalize (rowAt (k : Int)).ka = ja at *
            generalize (rowAt (k : Int)).kb = jb at *
            have HZ : Hid (sv (effL.take (k + 1)) = sv (effL.take k) ++ [.string ⟨#[63]⟩]) := by show _ = _; rw [HG.out, HS.out]; simp
            clear HG HS HEf eA eB ht2 hl2 hEA hEB ha hb hf
            go_wp2_with fail
            refine (HOf.out _).mono ?_
            rintro e w1 ⟨rfl, k1⟩
            have hKw1 := Lib.hid (keepN hK k1).size
            replace k1 := k1.alloc (.cells #[.int .i64 (k : Int), .int .i64 0, .int .i64 0] 23)
            have bx := Blk.new w1 23 #[.int .i64 (k : Int), .int .i64 0, .int .i64 0]
            replace hK := keepN hK k1
            replace hO := hO.keepN k1
            clear k1
            go_wp2_with fail
            refine (HKn.out _).mono ?_
            rintro e w2 ⟨rfl, k1⟩
            replace bx := bx.keep k1 id
            replace hK := keepN hK k1
            replace hO := hO.keepN k1
            have hlw : w.heap.size ≤ w1.heap.size := hKw1.out
            clear k1
            have hz := bx.lt
            have fx := fun i => bx.frozen i
            obtain ⟨x0, x1, x2⟩ := blk_inst bx
            have hne : (Value.slice B k d).ownBlock ≠ some w1.heap.size := own_not_blk hO bx (by decide)
            have bx := bx.put 1 (.int .i64 1)
            have hst : Keep (fun k => k = w1.heap.size) w2 (w2.setCell ⟨w1.heap.size, 1, none⟩ (.int .i64 1)) := Keep.setCell (O := fun k => k = w1.heap.size) (p := ⟨w1.heap.size, 1, none⟩) (Keep.refl _ _) (fun _ => rfl) _
            have hO : Own _ 9 1 (Fresh w) (.slice B k d) k (sv (effL.take k)) := ⟨ownsRow_keep hO.1 hst (fun g hg e => hne (e ▸ hg)), hO.2⟩
            have hK : Keep NoB w _ := hK.setCell (p := ⟨w1.heap.size, 1, none⟩) (fun h => absurd h (by simp; omega)) (.int .i64 1)
            go_wp2_with fail
            refine (HE2.out _).mono ?_
            rintro e w3 ⟨A, ca, Bl, cb, rfl, hT1, hL1, k1⟩
            replace hK := keepN hK k1
            replace hO := hO.keepN k1
            clear k1 hT1 hL1
            go_wp2_with (at_builtin; refine wpList_append_rd _ rfl (.tmp 34) (.tmp 35) _ rfl 9 1 16 i0 _ Tryz.underlying61 hi hz0 hz1 hz2 rfl (by decide) _ k _ _ 1 _ [.string ⟨#[63]⟩] rfl (hO.1.alloc _) rfl rd_one rfl (by simp [Value.oneCell']) (by unfold maxLen; omega) (by omega) ?_; intro B2 d2 w9 hrow3 hg3 hv3; rw [← HZ.out] at hrow3; obtain ⟨hO3, hK3⟩ := _root_.Go.Proofs.YtpkcjokkadfhcaaGreatDoor.W.own_after hO.2 (hK.alloc _) hg3 hv3 hrow3; clear hrow3 hg3 hv3)
            go_roundw
            case rel => exact ⟨k + 1, by omega, by go_num, ⟨B2, d2, rfl, hO3⟩, hK3⟩
            case measure => simp [intOf]; omega
          · have da : decide (0 < (rowAt (k : Int)).ka) = true := by simpa using ha
            have db : decide (0 < (rowAt (k : Int)).kb) = false := by simpa using hb
            have HE2 := Lib.hid (HEf.out 1 0)
            rw [hf] at HE2 HS
            have ht := ht2 1 0
            have hl := hl2 1 0
            generalize takesI (k : Int) 1 0 = tl at *
            generalize leavesI (k : Int) 1 0 = ll at *
            generalize (rowAt (k : Int)).ka = ja at *
            generalize (rowAt (k : Int)).kb = jb at *
            have sT : (str (W.txt tl)).size ≤ 2 := by rw [_root_.Go.Proofs.YtpkcjokkadfhcaaGreatDoor.W.size_of (s := W.txt tl) (by simp)]; exact Nat.le_trans (txt_len tl) ht
            have sL : (str (W.txt ll)).size ≤ 2 := by rw [_root_.Go.Proofs.YtpkcjokkadfhcaaGreatDoor.W.size_of (s := W.txt ll) (by simp)]; exact Nat.le_trans (txt_len ll) hl
            have HZ : Hid (sv (effL.take (k + 1)) = sv (effL.take k) ++ [.string ((str (W.txt tl) ++ (⟨#[58]⟩ : ByteArray)) ++ str (W.txt ll))]) := by show _ = _; rw [HG.out, HS.out, str_col]; simp
            have HT := Lib.hid (fun A n c v0 (h1 : Keep NoB w v0) (h2 : Rd v0 A (ivs tl)) (h3 : Hid (tl.length = n)) => (show Calls Tryz.prog 64 #[.slice A n c] v0 fun e w' => e = .returned (.string (str (W.txt tl))) ∧ Keep NoB v0 w' from _root_.Go.Proofs.YtpkcjokkadfhcaaGreatDoor.W.text_any A tl n c v0 (HL.out.keep h1).lets h2 h3 (by have := h3.out; omega)))
            have HU := Lib.hid (fun A n c v0 (h1 : Keep NoB w v0) (h2 : Rd v0 A (ivs ll)) (h3 : Hid (ll.length = n)) => (show Calls Tryz.prog 64 #[.slice A n c] v0 fun e w' => e = .returned (.string (str (W.txt ll))) ∧ Keep NoB v0 w' from _root_.Go.Proofs.YtpkcjokkadfhcaaGreatDoor.W.text_any A ll n c v0 (HL.out.keep h1).lets h2 h3 (by have := h3.out; omega)))
            generalize str (W.txt tl) = X at *
            generalize str (W.txt ll) = Y at *
            have q1 : ¬ 9223372036854775807 < X.size + 1 := by omega
            have q2 : ¬ 9223372036854775807 < X.size + 1 + Y.size := by omega
            obtain ⟨TT, hTT⟩ : ∃ TT, (X ++ (⟨#[58]⟩ : ByteArray)) ++ Y = TT := ⟨_, rfl⟩
            rw [hTT] at HZ
            clear HG HS HEf eA eB ht2 hl2 hEA hEB ha hb hf
            go_wp2_with fail
            refine (HOf.out _).mono ?_
            rintro e w1 ⟨rfl, k1⟩
            have hKw1 := Lib.hid (keepN hK k1).size
            replace k1 := k1.alloc (.cells #[.int .i64 (k : Int), .int .i64 0, .int .i64 0] 23)
            have bx := Blk.new w1 23 #[.int .i64 (k : Int), .int .i64 0, .int .i64 0]
            replace hK := keepN hK k1
            replace hO := hO.keepN k1
            clear k1
            go_wp2_with fail
            refine (HKn.out _).mono ?_
            rintro e w2 ⟨rfl, k1⟩
            replace bx := bx.keep k1 id
            replace hK := keepN hK k1
            replace hO := hO.keepN k1
            have hlw : w.heap.size ≤ w1.heap.size := hKw1.out
            clear k1
            have hz := bx.lt
            have fx := fun i => bx.frozen i
            obtain ⟨x0, x1, x2⟩ := blk_inst bx
            have hne : (Value.slice B k d).ownBlock ≠ some w1.heap.size := own_not_blk hO bx (by decide)
            have bx := bx.put 1 (.int .i64 1)
            have hst : Keep (fun k => k = w1.heap.size) w2 (w2.setCell ⟨w1.heap.size, 1, none⟩ (.int .i64 1)) := Keep.setCell (O := fun k => k = w1.heap.size) (p := ⟨w1.heap.size, 1, none⟩) (Keep.refl _ _) (fun _ => rfl) _
            have hO : Own _ 9 1 (Fresh w) (.slice B k d) k (sv (effL.take k)) := ⟨ownsRow_keep hO.1 hst (fun g hg e => hne (e ▸ hg)), hO.2⟩
            have hK : Keep NoB w _ := hK.setCell (p := ⟨w1.heap.size, 1, none⟩) (fun h => absurd h (by simp; omega)) (.int .i64 1)
            go_wp2_with fail
            refine (HE2.out _).mono ?_
            rintro e w3 ⟨A, ca, Bl, cb, rfl, hT1, hL1, k1⟩
            replace hK := keepN hK k1
            replace hO := hO.keepN k1
            have rt := (own_rdN hT1).1
            have rl := (own_rdN hL1).1
            clear k1 hT1 hL1
            go_wp2_with fail
            refine (HT.out _ _ _ _ hK rt rfl).mono ?_
            rintro e w4 ⟨rfl, k1⟩
            replace hK := keepN hK k1
            replace hO := hO.keepN k1
            replace rl := rl.keepN k1
            clear k1 rt
            go_wp2_with fail
            refine (HU.out _ _ _ _ hK rl rfl).mono ?_
            rintro e w5 ⟨rfl, k1⟩
            replace hK := keepN hK k1
            replace hO := hO.keepN k1
            clear k1 rl
            go_wp2_with (at_builtin; refine wpList_append_rd _ rfl (.tmp 37) (.tmp 44) _ rfl 9 1 16 i0 _ Tryz.underlying61 hi hz0 hz1 hz2 rfl (by decide) _ k _ _ 1 _ [.string TT] rfl (hO.1.alloc _) rfl rd_one rfl (by simp [Value.oneCell']) (by unfold maxLen; omega) (by omega) ?_; intro B2 d2 w9 hrow3 hg3 hv3; rw [← HZ.out] at hrow3; obtain ⟨hO3, hK3⟩ := _root_.Go.Proofs.YtpkcjokkadfhcaaGreatDoor.W.own_after hO.2 (hK.alloc _) hg3 hv3 hrow3; clear hrow3 hg3 hv3)
            go_roundw
            case rel => exact ⟨k + 1, by omega, by go_num, ⟨B2, d2, rfl, hO3⟩, hK3⟩
            case measure => simp [intOf]; omega
      · have hb : ¬ 0 < (rowAt (k : Int)).kb := fun h => ha (by have := kinds_none (k : Int); have := (kinds_ok (k : Int)).1; have := (kinds_ok (k : Int)).2.2.1; omega)
        have hEA : efA (k : Int) = 0 := by rw [eA, if_neg ha]
        have hEB : efB (k : Int) = 0 := by rw [eB, if_neg hb]
        rw [hEA, hEB] at HS
        cases hf : fixedI (k : Int) 0 0
        · have da : decide (0 < (rowAt (k : Int)).ka) = false := by simpa using ha
          have db : decide (0 < (rowAt (k : Int)).kb) = false := by simpa using hb
          have HE2 := Lib.hid (HEf.out 0 0)
          rw [hf] at HE2 HS
          have ht := ht2 0 0
          have hl := hl2 0 0
          generalize takesI (k : Int) 0 0 = tl at *
          generalize leavesI (k : Int) 0 0 = ll at *
          generalize (rowAt (k : Int)).ka = ja at *
          generalize (rowAt (k : Int)).kb = jb at *
          have HZ : Hid (sv (effL.take (k + 1)) = sv (effL.take k) ++ [.string ⟨#[63]⟩]) := by show _ = _; rw [HG.out, HS.out]; simp
          clear HG HS HEf eA eB ht2 hl2 hEA hEB ha hb hf
          go_wp2_with fail
          refine (HOf.out _).mono ?_
          rintro e w1 ⟨rfl, k1⟩
          have hKw1 := Lib.hid (keepN hK k1).size
          replace k1 := k1.alloc (.cells #[.int .i64 (k : Int), .int .i64 0, .int .i64 0] 23)
          have bx := Blk.new w1 23 #[.int .i64 (k : Int), .int .i64 0, .int .i64 0]
          replace hK := keepN hK k1
          replace hO := hO.keepN k1
          clear k1
          go_wp2_with fail
          refine (HKn.out _).mono ?_
          rintro e w2 ⟨rfl, k1⟩
          replace bx := bx.keep k1 id
          replace hK := keepN hK k1
          replace hO := hO.keepN k1
          have hlw : w.heap.size ≤ w1.heap.size := hKw1.out
          clear k1
          have hz := bx.lt
          have fx := fun i => bx.frozen i
          obtain ⟨x0, x1, x2⟩ := blk_inst bx
          go_wp2_with fail
          refine (HE2.out _).mono ?_
          rintro e w3 ⟨A, ca, Bl, cb, rfl, hT1, hL1, k1⟩
          replace hK := keepN hK k1
          replace hO := hO.keepN k1
          clear k1 hT1 hL1
          go_wp2_with (at_builtin; refine wpList_append_rd _ rfl (.tmp 34) (.tmp 35) _ rfl 9 1 16 i0 _ Tryz.underlying61 hi hz0 hz1 hz2 rfl (by decide) _ k _ _ 1 _ [.string ⟨#[63]⟩] rfl (hO.1.alloc _) rfl rd_one rfl (by simp [Value.oneCell']) (by unfold maxLen; omega) (by omega) ?_; intro B2 d2 w9 hrow3 hg3 hv3; rw [← HZ.out] at hrow3; obtain ⟨hO3, hK3⟩ := _root_.Go.Proofs.YtpkcjokkadfhcaaGreatDoor.W.own_after hO.2 (hK.alloc _) hg3 hv3 hrow3; clear hrow3 hg3 hv3)
          go_roundw
          case rel => exact ⟨k + 1, by omega, by go_num, ⟨B2, d2, rfl, hO3⟩, hK3⟩
          case measure => simp [intOf]; omega
        · have da : decide (0 < (rowAt (k : Int)).ka) = false := by simpa using ha
          have db : decide (0 < (rowAt (k : Int)).kb) = false := by simpa using hb
          have HE2 := Lib.hid (HEf.out 0 0)
          rw [hf] at HE2 HS
          have ht := ht2 0 0
          have hl := hl2 0 0
          generalize takesI (k : Int) 0 0 = tl at *
          generalize leavesI (k : Int) 0 0 = ll at *
          generalize (rowAt (k : Int)).ka = ja at *
          generalize (rowAt (k : Int)).kb = jb at *
          have sT : (str (W.txt tl)).size ≤ 2 := by rw [_root_.Go.Proofs.YtpkcjokkadfhcaaGreatDoor.W.size_of (s := W.txt tl) (by simp)]; exact Nat.le_trans (txt_len tl) ht
          have sL : (str (W.txt ll)).size ≤ 2 := by rw [_root_.Go.Proofs.YtpkcjokkadfhcaaGreatDoor.W.size_of (s := W.txt ll) (by simp)]; exact Nat.le_trans (txt_len ll) hl
          have HZ : Hid (sv (effL.take (k + 1)) = sv (effL.take k) ++ [.string ((str (W.txt tl) ++ (⟨#[58]⟩ : ByteArray)) ++ str (W.txt ll))]) := by show _ = _; rw [HG.out, HS.out, str_col]; simp
          have HT := Lib.hid (fun A n c v0 (h1 : Keep NoB w v0) (h2 : Rd v0 A (ivs tl)) (h3 : Hid (tl.length = n)) => (show Calls Tryz.prog 64 #[.slice A n c] v0 fun e w' => e = .returned (.string (str (W.txt tl))) ∧ Keep NoB v0 w' from _root_.Go.Proofs.YtpkcjokkadfhcaaGreatDoor.W.text_any A tl n c v0 (HL.out.keep h1).lets h2 h3 (by have := h3.out; omega)))
          have HU := Lib.hid (fun A n c v0 (h1 : Keep NoB w v0) (h2 : Rd v0 A (ivs ll)) (h3 : Hid (ll.length = n)) => (show Calls Tryz.prog 64 #[.slice A n c] v0 fun e w' => e = .returned (.string (str (W.txt ll))) ∧ Keep NoB v0 w' from _root_.Go.Proofs.YtpkcjokkadfhcaaGreatDoor.W.text_any A ll n c v0 (HL.out.keep h1).lets h2 h3 (by have := h3.out; omega)))
          generalize str (W.txt tl) = X at *
          generalize str (W.txt ll) = Y at *
          have q1 : ¬ 9223372036854775807 < X.size + 1 := by omega
          have q2 : ¬ 9223372036854775807 < X.size + 1 + Y.size := by omega
          obtain ⟨TT, hTT⟩ : ∃ TT, (X ++ (⟨#[58]⟩ : ByteArray)) ++ Y = TT := ⟨_, rfl⟩
          rw [hTT] at HZ
          clear HG HS HEf eA eB ht2 hl2 hEA hEB ha hb hf
          go_wp2_with fail
          refine (HOf.out _).mono ?_
          rintro e w1 ⟨rfl, k1⟩
          have hKw1 := Lib.hid (keepN hK k1).size
          replace k1 := k1.alloc (.cells #[.int .i64 (k : Int), .int .i64 0, .int .i64 0] 23)
          have bx := Blk.new w1 23 #[.int .i64 (k : Int), .int .i64 0, .int .i64 0]
          replace hK := keepN hK k1
          replace hO := hO.keepN k1
          clear k1
          go_wp2_with fail
          refine (HKn.out _).mono ?_
          rintro e w2 ⟨rfl, k1⟩
          replace bx := bx.keep k1 id
          replace hK := keepN hK k1
          replace hO := hO.keepN k1
          have hlw : w.heap.size ≤ w1.heap.size := hKw1.out
          clear k1
          have hz := bx.lt
          have fx := fun i => bx.frozen i
          obtain ⟨x0, x1, x2⟩ := blk_inst bx
          go_wp2_with fail
          refine (HE2.out _).mono ?_
          rintro e w3 ⟨A, ca, Bl, cb, rfl, hT1, hL1, k1⟩
          replace hK := keepN hK k1
          replace hO := hO.keepN k1
          have rt := (own_rdN hT1).1
          have rl := (own_rdN hL1).1
          clear k1 hT1 hL1
          go_wp2_with fail
          refine (HT.out _ _ _ _ hK rt rfl).mono ?_
          rintro e w4 ⟨rfl, k1⟩
          replace hK := keepN hK k1
          replace hO := hO.keepN k1
          replace rl := rl.keepN k1
          clear k1 rt
          go_wp2_with fail
          refine (HU.out _ _ _ _ hK rl rfl).mono ?_
          rintro e w5 ⟨rfl, k1⟩
          replace hK := keepN hK k1
          replace hO := hO.keepN k1
          clear k1 rl
          go_wp2_with (at_builtin; refine wpList_append_rd _ rfl (.tmp 37) (.tmp 44) _ rfl 9 1 16 i0 _ Tryz.underlying61 hi hz0 hz1 hz2 rfl (by decide) _ k _ _ 1 _ [.string TT] rfl (hO.1.alloc _) rfl rd_one rfl (by simp [Value.oneCell']) (by unfold maxLen; omega) (by omega) ?_; intro B2 d2 w9 hrow3 hg3 hv3; rw [← HZ.out] at hrow3; obtain ⟨hO3, hK3⟩ := _root_.Go.Proofs.YtpkcjokkadfhcaaGreatDoor.W.own_after hO.2 (hK.alloc _) hg3 hv3 hrow3; clear hrow3 hg3 hv3)
          go_roundw
          case rel => exact ⟨k + 1, by omega, by go_num, ⟨B2, d2, rfl, hO3⟩, hK3⟩
          case measure => simp [intOf]; omega
    · obtain rfl : k = 30 := by omega
      have hR := own_rdN hO
      rw [List.take_of_length_le (by rw [effL_len]; exact Nat.le_refl _)] at hR
      clear hO
      go_wp2_with fail
      refine (join_any effL B 30 d _ effL_len (by omega) (by omega) hR.1 hR.2 hlen).mono ?_
      rintro e w1 ⟨rfl, k1⟩
      go_wp2
      go_ret
      exact ⟨rfl, keepN hK k1⟩

end Go.Proofs.YtpkcjokkadfhcaaGreatDoor.O
