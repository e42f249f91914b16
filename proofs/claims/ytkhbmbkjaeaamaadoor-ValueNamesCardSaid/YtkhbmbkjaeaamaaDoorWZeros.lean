/-
  What Zeros and Of answer: new lists. Conditions: the lists lie in memory, no more than 4096 long.
-/
import Derived.Test.YtkhbmbkjaeaamaaDoorWSame
namespace Go.Proofs.YtkhbmbkjaeaamaaDoor
open Go.RowKit

theorem rd_new (w : World) (E : TypeId) (cs : Array Value) : Rd (w.alloc (.cells cs E)) (some ⟨w.heap.size, 0, none⟩) cs.toList := fun _ =>
  ⟨_, _, rfl, fun j u hu => by rw [Nat.zero_add, (Blk.new w E cs).cell j]; simpa using hu⟩

theorem own_after {w W W' : World} {E size n : Nat} {v v' : Value} {xs : List Value} (ho : ∀ g, v.ownBlock = some g → Fresh w g) (hK : Keep NoB w W) (hg : W.grownBy W' v.ownBlock)
    (hv : v'.ownBlock = v.ownBlock ∨ v'.ownBlock = some W.heap.size) (hrow : W'.ownsRow 0 E size v' n xs) : Own W' E size (Fresh w) v' n xs ∧ Keep NoB w W' := by
  refine ⟨⟨hrow, fun g e => ?_⟩, hK.grown hg (fun g e h => by have := ho g e; unfold Fresh at this; omega)⟩
  rcases hv with h | h
  · exact ho g (h ▸ e)
  · rw [h] at e; cases e; exact hK.size

theorem rd_made {w : World} {E : TypeId} {cs : Array Value} {b : Nat} {xs : List Value} (hb : b = w.heap.size) (hx : xs = cs.toList) : Rd (w.alloc (.cells cs E)) (some ⟨b, 0, none⟩) xs := by
  subst hb hx; exact rd_new w E cs

/-- The zeros of types. -/
def zs (l : List Int) : List (Int × Int) := l.map fun t => (t, 0)

set_option maxRecDepth 100000 in
set_option maxHeartbeats 4000000 in
theorem zeros_any (A : Option Addr) (l : List Int) (n c : Nat) (w : World) (ha : Rd w A (ivs l)) (hn : Hid (l.length = n)) (h1 : n ≤ 4096) :
    Calls Tryd.prog 25 #[.slice A n c] w fun e w' => Keep NoB w w' ∧
      ((l.all knownB = true ∧ ∃ B d, e = .returned (.tuple #[.slice B n d, .int .i64 0]) ∧ Own w' 35 2 (Fresh w) (.slice B n d) n (vvs (zs l))) ∨
       (l.all knownB = false ∧ e = .returned (.tuple #[.slice none 0 0, .int .i64 20]))) := by
  obtain ⟨i0, hi, hz0, hz1, hz2⟩ := info_parts val_info
  go_enter Tryd.func25, Tryd.ntmps25
  go_wp2_with (at_make; refine wpList_make_own _ rfl _ _ 45 rfl w.heap.size 35 i0 _ 2 Tryd.underlying45 hi hz0 hz1 _ _ _ n rfl rfl rfl (by rw [hz2]; omega) (by unfold maxLen; omega) (Nat.le_refl _) ?_; intro w1 hrow1 hg1)
  have hO0 : Own w1 35 2 (Fresh w) (.slice (some ⟨w.heap.size, 0, none⟩) 0 n) 0 (vvs (zs (l.take 0))) := Own.of_row hrow1 (fun _ h => h)
  have hK0 : Keep NoB w w1 := (Keep.refl NoB w).grown hg1 (fun g e _ => by cases e)
  clear hrow1 hg1
  go_loopw [4, 14] (fun v i wr => ∃ k : Nat, k ≤ n ∧ i = .int .i64 k ∧ (∃ B d, v = .slice B k d ∧ Own wr 35 2 (Fresh w) (.slice B k d) k (vvs (zs (l.take k)))) ∧ Hid ((l.take k).all knownB = true) ∧ Keep NoB w wr) (fun _ i _ => n - (intOf i).toNat)
  case atStart => exact ⟨0, Nat.zero_le _, rfl, ⟨_, _, rfl, hO0⟩, rfl, hK0⟩
  case round =>
    obtain ⟨k, hk, rfl, ⟨B, d, rfl, hO⟩, hall, hK⟩ := hrel
    clear hO0 hK0
    by_cases hlt : k < n
    · have hka : k < l.length := by rw [hn.out]; exact hlt
      obtain ⟨g, off, rfl, hc⟩ := rdI_at ha (by omega)
      have ca := hK.cell (hc k hka) id
      clear hc
      have HT := Lib.hid (show l.take (k + 1) = l.take k ++ [l[k]] from List.take_succ_eq_append_getElem hka)
      have HM := Lib.hid (List.getElem_mem hka)
      generalize l[k] = t at ca HT HM
      cases hkn : knownB t
      · go_wp2_with fail
        refine (zero_bad t _ hkn).mono ?_
        rintro e w2 ⟨rfl, hk2⟩
        go_wp2
        go_ret2
        refine ⟨(keepN hK hk2).alloc _, .inr ⟨?_, rfl⟩⟩
        rw [List.all_eq_false]
        exact ⟨t, HM.out, by simp [hkn]⟩
      · have hall2 : Hid ((l.take (k + 1)).all knownB = true) := by show _ = _; rw [HT.out, List.all_append, hall.out]; simp [hkn]
        have HZ : Hid (vvs (zs (l.take (k + 1))) = vvs (zs (l.take k)) ++ [.int .i64 t, .int .i64 0]) := by show _ = _; rw [HT.out]; simp [zs, vvs]
        go_wp2_with fail
        refine (zero_ok t _ hkn).mono ?_
        rintro e w2 ⟨rfl, hk2⟩
        have hO2 := hO.keepN hk2
        have hK2 := keepN hK hk2
        clear hkn HT HM hall hO hK ca
        go_wp2_with (at_builtin; refine wpList_append_rd _ rfl (.tmp 26) (.tmp 28) _ rfl 35 2 16 i0 _ Tryd.underlying45 hi hz0 hz1 hz2 rfl (by decide) _ k _ _ 1 _ [.int .i64 t, .int .i64 0] rfl ((hO2.1.alloc _).alloc _) rfl (rd_made (by simp) rfl) rfl (by simp [Value.oneCell']) (by unfold maxLen; omega) (by omega) ?_; intro B2 d2 w3 hrow3 hg3 hv3; rw [← HZ.out] at hrow3; obtain ⟨hO3, hK3⟩ := own_after hO2.2 ((hK2.alloc _).alloc _) hg3 hv3 hrow3; clear hrow3 hg3 hv3)
        go_roundw
        case rel => exact ⟨k + 1, by omega, by go_num, ⟨B2, d2, rfl, hO3⟩, hall2, hK3⟩
        case measure => simp [intOf]; omega
    · obtain rfl : k = n := by omega
      rw [List.take_of_length_le (by rw [hn.out]; omega)] at hO hall
      have hall' := hall.out
      have H := Lib.hid hall'
      clear hall hall'
      go_wp2
      go_ret2
      exact ⟨hK, .inl ⟨H.out, B, d, rfl, hO⟩⟩

/-- What Zeros answers, in one form. -/
def zN (l : List Int) (n : Nat) : Nat := if l.all knownB = true then n else 0
def zL (l : List Int) : List (Int × Int) := if l.all knownB = true then zs l else []
def zE (l : List Int) : Int := if l.all knownB = true then 0 else 20
theorem zL_length (l : List Int) : (zL l).length = zN l l.length := by unfold zL zN; split <;> simp [zs]
theorem zeros_form {l : List Int} {n : Nat} {w w' : World} {e : Ending} (h : Keep NoB w w' ∧
      ((l.all knownB = true ∧ ∃ B d, e = .returned (.tuple #[.slice B n d, .int .i64 0]) ∧ Own w' 35 2 (Fresh w) (.slice B n d) n (vvs (zs l))) ∨
       (l.all knownB = false ∧ e = .returned (.tuple #[.slice none 0 0, .int .i64 20])))) :
    ∃ B d, e = .returned (.tuple #[.slice B (zN l n) d, .int .i64 (zE l)]) ∧ Own w' 35 2 (Fresh w) (.slice B (zN l n) d) (zN l n) (vvs (zL l)) ∧ Keep NoB w w' := by
  obtain ⟨hK, ⟨h1, B, d, rfl, hO⟩ | ⟨h1, rfl⟩⟩ := h
  · have e1 : zN l n = n := by unfold zN; rw [if_pos h1]
    have e2 : zL l = zs l := by unfold zL; rw [if_pos h1]
    have e3 : zE l = 0 := by unfold zE; rw [if_pos h1]
    rw [e1, e2, e3]
    exact ⟨B, d, rfl, hO, hK⟩
  · have h2 : ¬ l.all knownB = true := by rw [h1]; decide
    have e1 : zN l n = 0 := by unfold zN; rw [if_neg h2]
    have e2 : zL l = [] := by unfold zL; rw [if_neg h2]
    have e3 : zE l = 20 := by unfold zE; rw [if_neg h2]
    rw [e1, e2, e3]
    exact ⟨none, 0, rfl, Own.nil _ _ _ _, hK⟩
theorem zeros_u (A : Option Addr) (l : List Int) (n c : Nat) (w : World) (ha : Rd w A (ivs l)) (hn : Hid (l.length = n)) (h1 : n ≤ 4096) :
    Calls Tryd.prog 25 #[.slice A n c] w fun e w' => ∃ B d, e = .returned (.tuple #[.slice B (zN l n) d, .int .i64 (zE l)]) ∧ Own w' 35 2 (Fresh w) (.slice B (zN l n) d) (zN l n) (vvs (zL l)) ∧ Keep NoB w w' :=
  (zeros_any A l n c w ha hn h1).mono fun _ _ h => zeros_form h

/-- The types of values. -/
def ts (x : List (Int × Int)) : List Int := x.map (·.1)

set_option maxRecDepth 100000 in
set_option maxHeartbeats 4000000 in
theorem of_any (A : Option Addr) (x : List (Int × Int)) (n c : Nat) (w : World) (ha : Rd w A (vvs x)) (hn : Hid (x.length = n)) (h1 : n ≤ 4096) :
    Calls Tryd.prog 31 #[.slice A n c] w fun e w' => Keep NoB w w' ∧ ∃ B d, e = .returned (.slice B n d) ∧ Own w' 3 1 (Fresh w) (.slice B n d) n (ivs (ts x)) := by
  obtain ⟨i0, hi, hz0, hz1, hz2⟩ := info_parts int_info
  go_enter Tryd.func31, Tryd.ntmps31
  go_wp2_with (at_make; refine wpList_make_own _ rfl _ _ 22 rfl w.heap.size 3 i0 _ 1 Tryd.underlying22 hi hz0 hz1 _ _ _ n rfl rfl rfl (by rw [hz2]; omega) (by unfold maxLen; omega) (Nat.le_refl _) ?_; intro w1 hrow1 hg1)
  have hO0 : Own w1 3 1 (Fresh w) (.slice (some ⟨w.heap.size, 0, none⟩) 0 n) 0 (ivs (ts (x.take 0))) := Own.of_row hrow1 (fun _ h => h)
  have hK0 : Keep NoB w w1 := (Keep.refl NoB w).grown hg1 (fun g e _ => by cases e)
  clear hrow1 hg1
  go_loopw [3, 11] (fun v i wr => ∃ k : Nat, k ≤ n ∧ i = .int .i64 k ∧ (∃ B d, v = .slice B k d ∧ Own wr 3 1 (Fresh w) (.slice B k d) k (ivs (ts (x.take k)))) ∧ Keep NoB w wr) (fun _ i _ => n - (intOf i).toNat)
  case atStart => exact ⟨0, Nat.zero_le _, rfl, ⟨_, _, rfl, hO0⟩, hK0⟩
  case round =>
    obtain ⟨k, hk, rfl, ⟨B, d, rfl, hO⟩, hK⟩ := hrel
    clear hO0 hK0
    by_cases hlt : k < n
    · have hka : k < x.length := by rw [hn.out]; exact hlt
      obtain ⟨g, off, rfl, hc⟩ := rdV_at ha (by omega)
      have ca0 := hK.cell (hc k hka).1 id
      have ca1 := hK.cell (hc k hka).2 id
      clear hc
      have HT := Lib.hid (show x.take (k + 1) = x.take k ++ [x[k]] from List.take_succ_eq_append_getElem hka)
      generalize x[k] = y at ca0 ca1 HT
      obtain ⟨t, m⟩ := y
      have HZ : Hid (ivs (ts (x.take (k + 1))) = ivs (ts (x.take k)) ++ [.int .i64 t]) := by show _ = _; rw [HT.out]; simp [ts]
      dsimp only at ca0 ca1
      clear HT
      go_wp2_with (at_builtin; refine wpList_append_rd _ rfl (.tmp 15) (.tmp 18) _ rfl 3 1 8 i0 _ Tryd.underlying22 hi hz0 hz1 hz2 rfl (by decide) _ k _ _ 1 _ [.int .i64 t] rfl ((hO.1.alloc _).alloc _) rfl (rd_made (by simp) rfl) rfl (by simp [Value.oneCell']) (by unfold maxLen; omega) (by omega) ?_; intro B2 d2 w3 hrow3 hg3 hv3; rw [← HZ.out] at hrow3; obtain ⟨hO3, hK3⟩ := own_after hO.2 ((hK.alloc _).alloc _) hg3 hv3 hrow3; clear hrow3 hg3 hv3)
      go_roundw
      case rel => exact ⟨k + 1, by omega, by go_num, ⟨B2, d2, rfl, hO3⟩, hK3⟩
      case measure => simp [intOf]; omega
    · obtain rfl : k = n := by omega
      rw [List.take_of_length_le (by rw [hn.out]; omega)] at hO
      go_wp2
      go_ret
      exact ⟨hK, B, d, rfl, hO⟩

end Go.Proofs.YtkhbmbkjaeaamaaDoor
