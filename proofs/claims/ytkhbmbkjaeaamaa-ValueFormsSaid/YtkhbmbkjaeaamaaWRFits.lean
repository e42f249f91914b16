/-
  What the document's Fits answers. Conditions: the lists lie in memory.
-/
import Derived.Test.YtkhbmbkjaeaamaaWFits
namespace Go.Proofs.Ytkhbmbkjaeaamaa
open Go.RowKit

theorem rcheck_ok (t n : Int) (w : World) (h : okB t n = true) :
    Calls Try.prog 11 #[.agg #[.int .i64 t, .int .i64 n]] w fun e w' => e = .returned (.int .i64 0) ∧ Keep NoB w w' := by
  have := rcheck_any t n w
  rw [chk_ok h] at this
  exact this
theorem rcheck_bad (t n : Int) (w : World) (h : okB t n = false) :
    Calls Try.prog 11 #[.agg #[.int .i64 t, .int .i64 n]] w fun e w' => e = .returned (.int .i64 21) ∧ Keep NoB w w' := by
  have := rcheck_any t n w
  rw [chk_bad h] at this
  exact this

section
variable {P : Program} {ops : Array Oper} {Q : Exit → Act → World → Prop} {md : Region.Mode} {S : World → Prop}
/-- An operation that yields its value in every world that meets S comes up first; its slot is named. -/
theorem takeT (i t : Nat) (v : Value) {oi : Oper} {fuel : Nat} {listed : Array Bool} {tmps : Array Value} {defers : List Deferred} {w : World} (hi : ops[i]? = some oi) (ht : oi.dst = some t)
    (hs : Region.noSelect ops = true) (hf : Region.free md ops listed i = true) (hr : (Region.ready md ops listed).contains i = true)
    (hQ : ∀ c a w, Q (.panic c) (a.put oi.dst v) w → Q (.panic c) a w) (hw : Region.wanted oi (yielded ops tmps) = true) (hy : ∀ w, S w → (execOp (Act.mk tmps defers).eval oi).run P w = .ok (.value v) w) (hS : S w)
    (h : wpAnyH P md ops Q S fuel (listed.setIfInBounds i true) ⟨tmps.setIfInBounds t v, defers⟩ w) : wpAnyH P md ops Q S (fuel + 1) listed ⟨tmps, defers⟩ w :=
  wpAnyH_take hi hs hf hr hQ (Or.inl ⟨hw, hy⟩) hS (by rw [ht]; exact h)
/-- An operation whose guard does not hold comes up first. -/
theorem skipT (i t : Nat) {oi : Oper} {fuel : Nat} {listed : Array Bool} {tmps : Array Value} {defers : List Deferred} {w : World} (hi : ops[i]? = some oi) (ht : oi.dst = some t)
    (hs : Region.noSelect ops = true) (hf : Region.free md ops listed i = true) (hr : (Region.ready md ops listed).contains i = true)
    (hQ : ∀ c a w, Q (.panic c) (a.put oi.dst undef) w → Q (.panic c) a w) (hw : Region.wanted oi (yielded ops tmps) = false) (hS : S w)
    (h : wpAnyH P md ops Q S fuel (listed.setIfInBounds i true) ⟨tmps.setIfInBounds t undef, defers⟩ w) : wpAnyH P md ops Q S (fuel + 1) listed ⟨tmps, defers⟩ w :=
  wpAnyH_take hi hs hf hr hQ (Or.inr ⟨hw, rfl⟩) hS (by rw [ht]; exact h)
end

set_option maxRecDepth 100000 in
set_option maxHeartbeats 2000000 in
theorem rfits_any (A B : Option Addr) (l : List Int) (x : List (Int × Int)) (n m c d : Nat) (w : World) (ha : Rd w A (ivs l)) (hb : Rd w B (vvs x)) (hn : Hid (l.length = n)) (hm : Hid (x.length = m))
    (h1 : n ≤ 9223372036854775807) (h2 : m ≤ 9223372036854775807) (R : Bool) (hR : Hid (R = fitsB l x)) :
    Calls Try.prog 16 #[.slice A n c, .slice B m d] w fun e w' => e = .returned (.bool R) ∧ Keep NoB w w' := by
  by_cases hnm : n = m
  · subst hnm
    go_enter Try.func16, Try.ntmps16
    go_wp2
    go_loopw [5] (fun i wr => ∃ k : Nat, k ≤ n ∧ i = .int .i64 k ∧ Hid (l.take k = ts (x.take k) ∧ allOk (x.take k) = true) ∧ Keep NoB w wr) (fun i _ => n - (intOf i).toNat)
    case atStart => exact ⟨0, Nat.zero_le _, rfl, ⟨rfl, rfl⟩, Keep.refl _ _⟩
    case round =>
      obtain ⟨k, hk, rfl, ht, hK⟩ := hrel
      by_cases hlt : k < n
      · have hka : k < l.length := by rw [hn.out]; exact hlt
        have hkb : k < x.length := by rw [hm.out]; exact hlt
        obtain ⟨ga, oa, rfl, hca⟩ := rdI_at ha (by omega)
        obtain ⟨gb, ob, rfl, hcb⟩ := rdV_at hb (by omega)
        have ca := hK.cell (hca k hka) id
        have cb0 := hK.cell (hcb k hkb).1 id
        have cb1 := hK.cell (hcb k hkb).2 id
        have HT := Lib.hid (show l.take (k + 1) = l.take k ++ [l[k]] from List.take_succ_eq_append_getElem hka)
        have HU := Lib.hid (show x.take (k + 1) = x.take k ++ [x[k]] from List.take_succ_eq_append_getElem hkb)
        have HX : Hid (l = ts x → l[k] = x[k].1) := fun e => by simp [e, ts]
        have HY : Hid (allOk x = true → okB x[k].1 x[k].2 = true) := fun e => (List.all_eq_true.1 e) _ (List.getElem_mem hkb)
        clear hca hcb
        generalize l[k] = u at ca HT HX
        generalize x[k] = y at cb0 cb1 HU HX HY
        obtain ⟨t, v⟩ := y
        dsimp only at cb0 cb1 HX HY
        have HQ : Hid (∀ w', Keep NoB wr w' → w'.cell? ⟨gb, ob + k * 2, none⟩ = some (.int .i64 t) ∧ w'.cell? ⟨gb, ob + k * 2 + 1, none⟩ = some (.int .i64 v) ∧ w'.cell? ⟨ga, oa + k, none⟩ = some (.int .i64 u)) :=
          fun w' hk' => ⟨hk'.cell cb0 id, hk'.cell cb1 id, hk'.cell ca id⟩
        have hd0 := (Keep.refl NoB wr).drew
        cases hok : okB t v
        · have hf : R = false := by
            rw [hR.out]
            exact fits_false l x (fun h => by rw [HY.out h.2] at hok; cases hok)
          subst hf
          have HC := Lib.hid (rcheck_bad t v · hok)
          clear HT HU HX HY hok ha hb
          go_wp2
          refine wp_region_held_drew (S := fun w' => w'.cell? ⟨gb, ob + k * 2, none⟩ = some (.int .i64 t) ∧ w'.cell? ⟨gb, ob + k * 2 + 1, none⟩ = some (.int .i64 v)) (by kernel_rfl) ⟨(HQ.out _ hd0).1, (HQ.out _ hd0).2.1⟩ (fun hS => ?_)
          refine takeT 0 17 (.slice (some ⟨gb, ob, none⟩) n d) rfl rfl (by kernel_rfl) (by kernel_rfl) (by kernel_rfl) (fun _ _ _ h => h) (by rfl) (fun w _ => by go_simp) hS ?_
          simp only [List.setIfInBounds_toArray, List.set_cons_zero, List.set_cons_succ]
          refine takeT 1 18 (.int .i64 k) rfl rfl (by kernel_rfl) (by kernel_rfl) (by kernel_rfl) (fun _ _ _ h => h) (by rfl) (fun w _ => by go_simp) hS ?_
          simp only [List.setIfInBounds_toArray, List.set_cons_zero, List.set_cons_succ]
          refine takeT 2 19 (.pointer (some ⟨gb, ob + k * 2, none⟩)) rfl rfl (by kernel_rfl) (by kernel_rfl) (by kernel_rfl) (fun _ _ _ h => h) (by rfl) (fun w _ => by go_simp) hS ?_
          simp only [List.setIfInBounds_toArray, List.set_cons_zero, List.set_cons_succ]
          refine takeT 3 20 (.agg #[.int .i64 t, .int .i64 v]) rfl rfl (by kernel_rfl) (by kernel_rfl) (by kernel_rfl) (fun _ _ _ h => h) (by rfl) (fun w hSw => by obtain ⟨e0, e1⟩ := hSw; go_simp) hS ?_
          simp only [List.setIfInBounds_toArray, List.set_cons_zero, List.set_cons_succ]
          refine wpAnyH_ready (rs := [4]) (by kernel_rfl) (by simp) ?_
          refine AllReadyH.cons rfl (fun K hK => ?_) AllReadyH.nil
          go_simp
          go_wp2_with (go_at_call 11; refine (HC.out _).mono ?_; rintro e w2 ⟨rfl, hk2⟩)
          refine hK.out _ _ ⟨(HQ.out _ (keepN hd0 hk2)).1, (HQ.out _ (keepN hd0 hk2)).2.1⟩ (fun hS2 => ?_)
          clear hK K
          refine takeT 5 22 (.bool true) rfl rfl (by kernel_rfl) (by kernel_rfl) (by kernel_rfl) (fun _ _ _ h => h) (by rfl) (fun w _ => by go_simp) hS2 ?_
          simp only [List.setIfInBounds_toArray, List.set_cons_zero, List.set_cons_succ]
          refine takeT 6 23 (.bool true) rfl rfl (by kernel_rfl) (by kernel_rfl) (by kernel_rfl) (fun _ _ _ h => h) (by rfl) (fun w _ => by go_simp) hS2 ?_
          simp only [List.setIfInBounds_toArray, List.set_cons_zero, List.set_cons_succ]
          refine skipT 7 24 rfl rfl (by kernel_rfl) (by kernel_rfl) (by kernel_rfl) (fun _ _ _ h => h) (by rfl) hS2 ?_
          simp only [List.setIfInBounds_toArray, List.set_cons_zero, List.set_cons_succ]
          refine skipT 8 25 rfl rfl (by kernel_rfl) (by kernel_rfl) (by kernel_rfl) (fun _ _ _ h => h) (by rfl) hS2 ?_
          simp only [List.setIfInBounds_toArray, List.set_cons_zero, List.set_cons_succ]
          refine skipT 9 26 rfl rfl (by kernel_rfl) (by kernel_rfl) (by kernel_rfl) (fun _ _ _ h => h) (by rfl) hS2 ?_
          simp only [List.setIfInBounds_toArray, List.set_cons_zero, List.set_cons_succ]
          refine skipT 10 27 rfl rfl (by kernel_rfl) (by kernel_rfl) (by kernel_rfl) (fun _ _ _ h => h) (by rfl) hS2 ?_
          simp only [List.setIfInBounds_toArray, List.set_cons_zero, List.set_cons_succ]
          refine skipT 11 28 rfl rfl (by kernel_rfl) (by kernel_rfl) (by kernel_rfl) (fun _ _ _ h => h) (by rfl) hS2 ?_
          simp only [List.setIfInBounds_toArray, List.set_cons_zero, List.set_cons_succ]
          refine skipT 12 29 rfl rfl (by kernel_rfl) (by kernel_rfl) (by kernel_rfl) (fun _ _ _ h => h) (by rfl) hS2 ?_
          simp only [List.setIfInBounds_toArray, List.set_cons_zero, List.set_cons_succ]
          refine skipT 13 30 rfl rfl (by kernel_rfl) (by kernel_rfl) (by kernel_rfl) (fun _ _ _ h => h) (by rfl) hS2 ?_
          simp only [List.setIfInBounds_toArray, List.set_cons_zero, List.set_cons_succ]
          refine skipT 14 31 rfl rfl (by kernel_rfl) (by kernel_rfl) (by kernel_rfl) (fun _ _ _ h => h) (by rfl) hS2 ?_
          simp only [List.setIfInBounds_toArray, List.set_cons_zero, List.set_cons_succ]
          refine skipT 15 32 rfl rfl (by kernel_rfl) (by kernel_rfl) (by kernel_rfl) (fun _ _ _ h => h) (by rfl) hS2 ?_
          simp only [List.setIfInBounds_toArray, List.set_cons_zero, List.set_cons_succ]
          refine skipT 16 33 rfl rfl (by kernel_rfl) (by kernel_rfl) (by kernel_rfl) (fun _ _ _ h => h) (by rfl) hS2 ?_
          simp only [List.setIfInBounds_toArray, List.set_cons_zero, List.set_cons_succ]
          refine takeT 17 34 (.bool true) rfl rfl (by kernel_rfl) (by kernel_rfl) (by kernel_rfl) (fun _ _ _ h => h) (by rfl) (fun w _ => by go_simp) hS2 ?_
          simp only [List.setIfInBounds_toArray, List.set_cons_zero, List.set_cons_succ]
          refine wpAnyH_done (by kernel_rfl) ?_ _
          go_wp2
          go_ret
          exact ⟨rfl, keepN hK.drew hk2⟩
        · have HC := Lib.hid (rcheck_ok t v · hok)
          by_cases he : t = u
          · subst he
            have ht2 : Hid (l.take (k + 1) = ts (x.take (k + 1)) ∧ allOk (x.take (k + 1)) = true) := by
              obtain ⟨e1, e2⟩ := ht.out
              refine ⟨?_, ?_⟩
              · rw [HT.out, HU.out, e1]; simp [ts]
              · unfold allOk at e2 ⊢; rw [HU.out, List.all_append, e2]; simp [hok]
            clear HT HU HX HY hok ha hb
            go_wp2
            go_region_held (fun w' => w'.cell? ⟨gb, ob + k * 2, none⟩ = some (.int .i64 t) ∧ w'.cell? ⟨gb, ob + k * 2 + 1, none⟩ = some (.int .i64 v) ∧ w'.cell? ⟨ga, oa + k, none⟩ = some (.int .i64 t))
              (first | exact HQ.out _ hd0 | exact HQ.out _ (keepN hd0 hk2))
              ((go_at_call 11; refine (HC.out _).mono ?_; rintro e w2 ⟨rfl, hk2⟩))
            all_goals go_wp2
            all_goals go_roundw
            all_goals first | (case rel => exact ⟨k + 1, by omega, by go_num, ht2, keepN hK.drew hk2⟩) | skip
            all_goals first | (case measure => simp [intOf]; omega) | skip
          · have hf : R = false := by
              rw [hR.out]
              exact fits_false l x (fun h => he (HX.out h.1).symm)
            subst hf
            have hne : (t != u) = true := by rw [bne_iff_ne]; exact he
            clear HT HU HX HY he ha hb hok
            go_wp2
            go_region_held (fun w' => w'.cell? ⟨gb, ob + k * 2, none⟩ = some (.int .i64 t) ∧ w'.cell? ⟨gb, ob + k * 2 + 1, none⟩ = some (.int .i64 v) ∧ w'.cell? ⟨ga, oa + k, none⟩ = some (.int .i64 u))
              (first | exact HQ.out _ hd0 | exact HQ.out _ (keepN hd0 hk2))
              ((go_at_call 11; refine (HC.out _).mono ?_; rintro e w2 ⟨rfl, hk2⟩))
            all_goals go_wp2
            all_goals go_ret
            all_goals exact ⟨rfl, keepN hK.drew hk2⟩
      · have hf : R = true := by
          rw [hR.out, fits_true]
          have e1 := ht.out
          rwa [List.take_of_length_le (by rw [hn.out]; omega), List.take_of_length_le (by rw [hm.out]; omega)] at e1
        subst hf
        go_wp2
        go_ret
        exact ⟨rfl, hK⟩
  · have hf : R = false := by
      rw [hR.out]
      exact fits_false l x (fun h => hnm (by rw [← hn.out, ← hm.out, h.1]; simp [ts]))
    subst hf
    have hne : ((n : Int) != (m : Int)) = true := by rw [bne_iff_ne]; omega
    clear hnm
    go_enter Try.func16, Try.ntmps16
    go_wp2
    go_ret
    exact ⟨rfl, Keep.refl _ _⟩

end Go.Proofs.Ytkhbmbkjaeaamaa
