/-
  What Fits answers. Conditions: the lists lie in memory.
-/
import Derived.Test.YtkhbmbkjaeaamaaDoorWZeros
namespace Go.Proofs.YtkhbmbkjaeaamaaDoor
open Go.RowKit

/-- May all of the values be, and have they just these types? -/
def allOk (x : List (Int × Int)) : Bool := x.all fun v => okB v.1 v.2
def fitsB (l : List Int) (x : List (Int × Int)) : Bool := decide (l = ts x) && allOk x
theorem fits_true (l : List Int) (x : List (Int × Int)) : fitsB l x = true ↔ l = ts x ∧ allOk x = true := by unfold fitsB; simp
theorem fits_false (l : List Int) (x : List (Int × Int)) (h : ¬ (l = ts x ∧ allOk x = true)) : fitsB l x = false := by
  cases hf : fitsB l x
  · rfl
  · exact absurd ((fits_true l x).1 hf) h

set_option maxRecDepth 100000 in
set_option maxHeartbeats 4000000 in
theorem fits_any (A B : Option Addr) (l : List Int) (x : List (Int × Int)) (n m c d : Nat) (w : World) (ha : Rd w A (ivs l)) (hb : Rd w B (vvs x)) (hn : Hid (l.length = n)) (hm : Hid (x.length = m))
    (h1 : n ≤ 9223372036854775807) (h2 : m ≤ 9223372036854775807) (R : Bool) (hR : Hid (R = fitsB l x)) :
    Calls Tryd.prog 28 #[.slice A n c, .slice B m d] w fun e w' => e = .returned (.bool R) ∧ Keep NoB w w' := by
  by_cases hnm : n = m
  · subst hnm
    go_enter Tryd.func28, Tryd.ntmps28
    go_wp2
    go_loopw [14] (fun i wr => ∃ k : Nat, k ≤ n ∧ i = .int .i64 k ∧ Hid (l.take k = ts (x.take k) ∧ allOk (x.take k) = true) ∧ Keep NoB w wr) (fun i _ => n - (intOf i).toNat)
    case atStart => exact ⟨0, Nat.zero_le _, rfl, ⟨rfl, rfl⟩, Keep.refl _ _⟩
    case round =>
      obtain ⟨k, hk, rfl, ht, hK⟩ := hrel
      by_cases hlt : k < n
      · have hka : k < l.length := by rw [hn.out]; exact hlt
        have hkb : k < x.length := by rw [hm.out]; exact hlt
        obtain ⟨ga, oa, rfl, hca⟩ := rdI_at ha (by omega)
        obtain ⟨gb, ob, rfl, hcb⟩ := rdV_at hb (by omega)
        have ca := hK.cell (hca k hka) id
        have cb0 := hK.cell (hcb k hkb).1 id
        have cb1 := hK.cell (hcb k hkb).2 id
        have HT := Lib.hid (show l.take (k + 1) = l.take k ++ [l[k]] from List.take_succ_eq_append_getElem hka)
        have HU := Lib.hid (show x.take (k + 1) = x.take k ++ [x[k]] from List.take_succ_eq_append_getElem hkb)
        have HX : Hid (l = ts x → l[k] = x[k].1) := fun e => by simp [e, ts]
        have HY : Hid (allOk x = true → okB x[k].1 x[k].2 = true) := fun e => (List.all_eq_true.1 e) _ (List.getElem_mem hkb)
        clear hca hcb
        generalize l[k] = u at ca HT HX
        generalize x[k] = y at cb0 cb1 HU HX HY
        obtain ⟨t, v⟩ := y
        dsimp only at cb0 cb1 HX HY
        have hB := Blk.new wr 35 #[.int .i64 t, .int .i64 v]
        have hKW := hK.alloc (.cells #[.int .i64 t, .int .i64 v] 35)
        have hca := ((Keep.refl NoB wr).alloc (.cells #[.int .i64 t, .int .i64 v] 35)).cell ca id
        by_cases he : t = u
        · subst he
          have HQ : Hid (∀ w', Keep NoB (wr.alloc (.cells #[.int .i64 t, .int .i64 v] 35)) w' → w'.cell? ⟨wr.heap.size, 0, none⟩ = some (.int .i64 t) ∧ w'.cell? ⟨wr.heap.size, 1, none⟩ = some (.int .i64 v) ∧ w'.cell? ⟨ga, oa + k, none⟩ = some (.int .i64 t)) :=
            fun w' hk' => ⟨(hB.keep hk' id).cell 0, (hB.keep hk' id).cell 1, hk'.cell hca id⟩
          have hd0 := (Keep.refl NoB (wr.alloc (.cells #[.int .i64 t, .int .i64 v] 35))).drew
          cases hok : okB t v
          · have hf : R = false := by
              rw [hR.out]
              exact fits_false l x (fun h => by rw [HY.out h.2] at hok; cases hok)
            subst hf
            have HC := Lib.hid (check_bad t v · hok)
            clear HT HU HX HY hok ha hb hB hca
            go_wp2
            go_region_held (fun w' => w'.cell? ⟨wr.heap.size, 0, none⟩ = some (.int .i64 t) ∧ w'.cell? ⟨wr.heap.size, 1, none⟩ = some (.int .i64 v) ∧ w'.cell? ⟨ga, oa + k, none⟩ = some (.int .i64 t))
              (first | exact HQ.out _ hd0 | exact HQ.out _ (keepN hd0 hk2))
              ((go_at_call 30; refine (HC.out _).mono ?_; rintro e w2 ⟨rfl, hk2⟩))
            all_goals go_wp2
            all_goals go_ret
            all_goals exact ⟨rfl, keepN hKW.drew hk2⟩
          · have ht2 : Hid (l.take (k + 1) = ts (x.take (k + 1)) ∧ allOk (x.take (k + 1)) = true) := by
              obtain ⟨e1, e2⟩ := ht.out
              refine ⟨?_, ?_⟩
              · rw [HT.out, HU.out, e1]; simp [ts]
              · unfold allOk at e2 ⊢; rw [HU.out, List.all_append, e2]; simp [hok]
            have HC := Lib.hid (check_ok t v · hok)
            clear HT HU HX HY hok ha hb hB hca
            go_wp2
            go_region_held (fun w' => w'.cell? ⟨wr.heap.size, 0, none⟩ = some (.int .i64 t) ∧ w'.cell? ⟨wr.heap.size, 1, none⟩ = some (.int .i64 v) ∧ w'.cell? ⟨ga, oa + k, none⟩ = some (.int .i64 t))
              (first | exact HQ.out _ hd0 | exact HQ.out _ (keepN hd0 hk2))
              ((go_at_call 30; refine (HC.out _).mono ?_; rintro e w2 ⟨rfl, hk2⟩))
            all_goals go_wp2
            all_goals go_roundw
            all_goals first | (case rel => exact ⟨k + 1, by omega, by go_num, ht2, keepN hKW.drew hk2⟩) | skip
            all_goals first | (case measure => simp [intOf]; omega) | skip
        · have hf : R = false := by
            rw [hR.out]
            exact fits_false l x (fun h => he (HX.out h.1).symm)
          subst hf
          have hne : (t != u) = true := by rw [bne_iff_ne]; exact he
          have hc0 : (wr.alloc (.cells #[.int .i64 t, .int .i64 v] 35)).cell? ⟨wr.heap.size, 0, none⟩ = some (.int .i64 t) := hB.cell 0
          have hc1 : (wr.alloc (.cells #[.int .i64 t, .int .i64 v] 35)).cell? ⟨wr.heap.size, 1, none⟩ = some (.int .i64 v) := hB.cell 1
          clear HT HU HX HY he ha hb hB
          go_wp2
          generalize wr.alloc (.cells #[.int .i64 t, .int .i64 v] 35) = W0 at hca hc0 hc1 hKW ⊢
          go_quiet (fail)
          go_wp2
          go_ret
          exact ⟨rfl, hKW.drewN _⟩
      · have hf : R = true := by
          rw [hR.out, fits_true]
          have e1 := ht.out
          rwa [List.take_of_length_le (by rw [hn.out]; omega), List.take_of_length_le (by rw [hm.out]; omega)] at e1
        subst hf
        go_wp2
        go_ret
        exact ⟨rfl, hK⟩
  · have hf : R = false := by
      rw [hR.out]
      exact fits_false l x (fun h => hnm (by rw [← hn.out, ← hm.out, h.1]; simp [ts]))
    subst hf
    have hne : ((n : Int) != (m : Int)) = true := by rw [bne_iff_ne]; omega
    clear hnm
    go_enter Tryd.func28, Tryd.ntmps28
    go_wp2
    go_ret
    exact ⟨rfl, Keep.refl _ _⟩

end Go.Proofs.YtkhbmbkjaeaamaaDoor
