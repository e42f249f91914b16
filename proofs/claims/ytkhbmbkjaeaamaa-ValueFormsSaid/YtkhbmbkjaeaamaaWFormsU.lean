/-
  What the document's Zeros answers, and Int. Conditions: the list lies in memory, no more than 4096 long.
-/
import Derived.Test.YtkhbmbkjaeaamaaWFits
namespace Go.Proofs.Ytkhbmbkjaeaamaa
open Go.RowKit

set_option maxRecDepth 100000 in
set_option maxHeartbeats 4000000 in
theorem rzeros_any (A : Option Addr) (l : List Int) (n c : Nat) (w : World) (ha : Rd w A (ivs l)) (hn : Hid (l.length = n)) (h1 : n ≤ 4096) :
    Calls Try.prog 6 #[.slice A n c] w fun e w' => Keep NoB w w' ∧
      ((l.all knownB = true ∧ ∃ B d, e = .returned (.tuple #[.slice B n d, .int .i64 0]) ∧ Own w' 23 2 (Fresh w) (.slice B n d) n (vvs (zs l))) ∨
       (l.all knownB = false ∧ e = .returned (.tuple #[.slice none 0 0, .int .i64 20]))) := by
  obtain ⟨i0, hi, hz0, hz1, hz2⟩ := info_parts val_info
  go_enter Try.func6, Try.ntmps6
  go_wp2
  go_loopw [4, 5] (fun v i wr => ∃ k : Nat, k ≤ n ∧ i = .int .i64 k ∧ (∃ B d, v = .slice B k d ∧ Own wr 23 2 (Fresh w) (.slice B k d) k (vvs (zs (l.take k)))) ∧ Hid ((l.take k).all knownB = true) ∧ Keep NoB w wr) (fun _ i _ => n - (intOf i).toNat)
  case atStart => exact ⟨0, Nat.zero_le _, rfl, ⟨none, 0, rfl, Own.nil _ _ _ _⟩, rfl, Keep.refl _ _⟩
  case round =>
    obtain ⟨k, hk, rfl, ⟨B, d, rfl, hO⟩, hall, hK⟩ := hrel
    by_cases hlt : k < n
    · have hka : k < l.length := by rw [hn.out]; exact hlt
      obtain ⟨g, off, rfl, hc⟩ := rdI_at ha (by omega)
      have ca := hK.cell (hc k hka) id
      clear hc
      have HT := Lib.hid (show l.take (k + 1) = l.take k ++ [l[k]] from List.take_succ_eq_append_getElem hka)
      have HM := Lib.hid (List.getElem_mem hka)
      generalize l[k] = t at ca HT HM
      cases hkn : knownB t
      · go_wp2_with (go_at_call 8; refine (rknown_any _ _).mono ?_; rintro e w' ⟨rfl, rfl⟩)
        go_ret2
        refine ⟨hK, .inr ⟨?_, rfl⟩⟩
        rw [List.all_eq_false]
        exact ⟨t, HM.out, by simp [hkn]⟩
      · have hall2 : Hid ((l.take (k + 1)).all knownB = true) := by show _ = _; rw [HT.out, List.all_append, hall.out]; simp [hkn]
        have HZ : Hid (vvs (zs (l.take (k + 1))) = vvs (zs (l.take k)) ++ [.int .i64 t, .int .i64 0]) := by show _ = _; rw [HT.out]; simp [zs, vvs]
        clear HT HM hall
        go_wp2_with (first | (go_at_call 8; refine (rknown_any _ _).mono ?_; rintro e w' ⟨rfl, rfl⟩) | (at_builtin; refine wpList_append_rd _ rfl (.tmp 20) (.tmp 26) _ rfl 23 2 16 i0 _ Try.underlying25 hi hz0 hz1 hz2 rfl (by decide) _ k _ _ 1 _ [.int .i64 t, .int .i64 0] rfl (hO.1.alloc _) rfl (rd_made rfl rfl) rfl (by simp [Value.oneCell']) (by unfold maxLen; omega) (by omega) ?_; intro B2 d2 w3 hrow3 hg3 hv3; rw [← HZ.out] at hrow3; obtain ⟨hO3, hK3⟩ := own_after hO.2 (hK.alloc _) hg3 hv3 hrow3; clear hrow3 hg3 hv3))
        go_roundw
        case rel => exact ⟨k + 1, by omega, by go_num, ⟨B2, d2, rfl, hO3⟩, hall2, hK3⟩
        case measure => simp [intOf]; omega
    · obtain rfl : k = n := by omega
      rw [List.take_of_length_le (by rw [hn.out]; omega)] at hO hall
      have hall' := hall.out
      have H := Lib.hid hall'
      clear hall hall'
      go_wp2
      go_ret2
      exact ⟨hK, .inl ⟨H.out, B, d, rfl, hO⟩⟩

theorem rzeros_u (A : Option Addr) (l : List Int) (n c : Nat) (w : World) (ha : Rd w A (ivs l)) (hn : Hid (l.length = n)) (h1 : n ≤ 4096) :
    Calls Try.prog 6 #[.slice A n c] w fun e w' => ∃ B d, e = .returned (.tuple #[.slice B (zN l n) d, .int .i64 (zE l)]) ∧ Own w' 23 2 (Fresh w) (.slice B (zN l n) d) (zN l n) (vvs (zL l)) ∧ Keep NoB w w' :=
  (rzeros_any A l n c w ha hn h1).mono fun _ _ h => zeros_form h

set_option maxHeartbeats 400000 in
theorem vint_any (n : Int) (w : World) :
    Calls Try.prog 17 #[.int .i64 n] w fun e w' => e = .returned (.agg #[.int .i64 1, .int .i64 n]) ∧ Keep NoB w w' := by
  go_enter Try.func17, Try.ntmps17
  go_wp2
  exact bodyPost_ret (v := .agg #[.int .i64 1, .int .i64 n]) (by simp [results, Try.results17, go_sem]) rfl ⟨rfl, (Keep.refl _ _).alloc _⟩

end Go.Proofs.Ytkhbmbkjaeaamaa
