/-
  A region that draws its order, by what each of its values is, as in KProps5; what binds in the text's order alone, or in the compiler's alone, is not asked about. No program, no conditions.
-/
import Derived.Test.YtbnekeomdhljhaaGreatDoorQ14
namespace Go.Proofs.YtbnekeomdhljhaaGreatDoor
open Go.RowKit
section
variable {P : Program} {md : Region.Mode} {ops : Array Oper}

/-- Number i writes the slot ds i (number c may write none), and stands behind earlier ones alone; no two slots are one. -/
def propsD6 (md : Region.Mode) (ops : Array Oper) (ds : Nat → Nat) (c : Nat) : Bool := (List.range ops.size).all fun i => match ops[i]? with
  | none => false
  | some o => (match o.dst with
    | none => i == c
    | some d => d == ds i) && ((o.after.all fun e => !Region.binds md e || decide (e.on < i)) && (List.range ops.size).all fun j => i == j || !(ds i == ds j))
theorem propsD6_at {ds : Nat → Nat} {c : Nat} (h : propsD6 md ops ds c = true) {i : Nat} {o : Oper} (ho : ops[i]? = some o) : (o.dst = some (ds i) ∨ (o.dst = none ∧ i = c)) ∧ (∀ e ∈ o.after, Region.binds md e = true → e.on < i) ∧ ∀ j, j < ops.size → j ≠ i → ds j ≠ ds i := by
  have hi := (Array.getElem?_eq_some_iff.1 ho).1
  have h1 := List.all_eq_true.1 h i (List.mem_range.2 hi)
  simp only [ho, Bool.and_eq_true] at h1
  obtain ⟨h1, h3, h4⟩ := h1
  refine ⟨?_, fun e he hb => ?_, fun j hj hne e => ?_⟩
  · cases hd : o.dst with
    | none => rw [hd] at h1; exact .inr ⟨rfl, by simpa using h1⟩
    | some d => rw [hd] at h1; exact .inl (by simpa using h1)
  · have := Array.all_eq_true_iff_forall_mem.1 h3 e he
    simpa [hb] using this
  · have h5 := List.all_eq_true.1 h4 j (List.mem_range.2 hj)
    rw [e] at h5
    simp at h5
    exact hne h5.symm
theorem no_readyD6 {ds : Nat → Nat} {c : Nat} (hB : propsD6 md ops ds c = true) {listed : Array Bool} (hs : listed.size = ops.size) (hr : Region.ready md ops listed = []) : ∀ i, i < ops.size → listed.getD i true = true := by
  intro i
  induction i using Nat.strongRecOn with
  | ind i ih =>
    intro hi
    cases hl : listed.getD i true
    · have ho : ops[i]? = some ops[i] := Array.getElem?_eq_getElem hi
      have : i ∈ Region.ready md ops listed := mem_ready.2 ⟨hl, ops[i], ho, fun e he hb => by
        have he2 := (propsD6_at hB ho).2.1 e he hb
        have h1 := ih e.on he2 (by omega)
        have h2 : e.on < listed.size := by omega
        simpa [h2] using h1⟩
      rw [hr] at this; cases this
    · rfl
theorem wpAny_props6 {Q : Exit → Act → World → Prop} (ds : Nat → Nat) (c : Nat) (O : Nat → Prop) (late : Nat → Bool) (hB : propsD6 md ops ds c = true) (hLt : lateG md ops c late = true) (S : Nat → Value → World → Prop) (w0 : World) (a0 : Act) (hS1 : ∀ i v w w', i ≠ c → late i = false → Keep O w0 w → S i v w → Keep O w w' → S i v w') (hS2 : ∀ i v w w', Keep O w0 w → S i v w → Keep NoB w w' → S i v w') (hsz : fitsD ops ds a0.tmps.size = true)
    (hstep : ∀ i o (a : Act) (w : World), ops[i]? = some o → i ≠ c → FrameD a0 ds ops.size a → Keep O w0 w → (∀ e ∈ o.after, Region.binds md e = true → S e.on (a.tmps.getD (ds e.on) undef) w) → Does P ops o a w fun u w' => S i u w' ∧ Keep NoB w w')
    (hspec : ∀ o (a : Act) (w : World), ops[c]? = some o → FrameD a0 ds ops.size a → Keep NoB w0 w → (∀ e ∈ o.after, Region.binds md e = true → S e.on (a.tmps.getD (ds e.on) undef) w) → Does P ops o a w fun u w' => (∀ v, (o.dst.isSome = true → v = u) → S c v w') ∧ Keep O w w')
    (hend : ∀ (a : Act) (w : World), FrameD a0 ds ops.size a → Keep O w0 w → (∀ i, i < ops.size → S i (a.tmps.getD (ds i) undef) w) → Q .normal a w) :
    ∀ (fuel : Nat) (listed : Array Bool) (a : Act) (w : World), listed.size = ops.size → (∃ L : List Nat, L.length ≤ fuel ∧ ∀ i, i < ops.size → listed.getD i true = false → i ∈ L) → FrameD a0 ds ops.size a → Keep O w0 w → (listed.getD c true = false → Keep NoB w0 w) → (∀ i, i < ops.size → late i = true → listed.getD i true = true → listed.getD c true = true) →
      (∀ i, i < ops.size → listed.getD i true = true → S i (a.tmps.getD (ds i) undef) w) → wpAny P md ops Q fuel listed a w := by
  have hNO : ∀ {X Y : World}, Keep NoB X Y → Keep O X Y := fun h => h.mono (fun _ hf _ => hf.elim)
  intro fuel
  induction fuel with
  | zero =>
    intro listed a w hs ⟨L, hL, hin⟩ hF hK hC hLa hA
    obtain rfl : L = [] := List.length_eq_zero_iff.1 (by omega)
    have hall : ∀ i, i < ops.size → listed.getD i true = true := fun i hi => by
      cases h : listed.getD i true
      · cases hin i hi h
      · rfl
    refine ⟨?_, hend a w hF hK fun i hi => hA i hi (hall i hi)⟩
    rw [List.eq_nil_iff_forall_not_mem]
    intro i hi
    obtain ⟨h1, o, ho, _⟩ := mem_ready.1 hi
    rw [hall i (Array.getElem?_eq_some_iff.1 ho).1] at h1; cases h1
  | succ fuel ih =>
    intro listed a w hs ⟨L, hL, hin⟩ hF hK hC hLa hA
    refine ⟨fun h0 => hend a w hF hK fun i hi => hA i hi (no_readyD6 hB hs h0 i hi), fun i hi => ?_⟩
    obtain ⟨h1, o, ho, hall⟩ := mem_ready.1 hi
    have hi' := (Array.getElem?_eq_some_iff.1 ho).1
    obtain ⟨hd, hlt, hdis⟩ := propsD6_at hB ho
    have hdeps : ∀ e ∈ o.after, Region.binds md e = true → S e.on (a.tmps.getD (ds e.on) undef) w := fun e he hb => by
      have h2 := hall e he hb
      have h3 := hlt e he hb
      refine hA e.on (by omega) ?_
      have h4 : e.on < listed.size := by omega
      simpa [h4] using h2
    have hKO : (if i = c then Keep NoB w0 w else True) := by
      split
      · rename_i e; subst e; exact hC h1
      · trivial
    have hdoes : Does P ops o a w fun u w' => (∀ v, (o.dst.isSome = true → v = u) → S i v w') ∧ Keep O w w' ∧ (i ≠ c → Keep NoB w w') := by
      by_cases e : i = c
      · subst e
        rw [if_pos rfl] at hKO
        rcases hspec o a w ho hF hKO hdeps with ⟨hw, hy⟩ | ⟨hw, h2, h3⟩
        · refine .inl ⟨hw, ?_⟩
          unfold yieldsK at hy ⊢
          exact yieldsR_mono (fun u w' ⟨h2, h3⟩ => ⟨h2, h3, fun h => absurd rfl h⟩) _ _ hy
        · exact .inr ⟨hw, h2, h3, fun h => absurd rfl h⟩
      · have hsome : o.dst.isSome = true := by
          rcases hd with h | ⟨_, h⟩
          · rw [h]; rfl
          · exact absurd h e
        rcases hstep i o a w ho e hF hK hdeps with ⟨hw, hy⟩ | ⟨hw, h2, h3⟩
        · refine .inl ⟨hw, ?_⟩
          unfold yieldsK at hy ⊢
          exact yieldsR_mono (fun u w' ⟨h2, h3⟩ => ⟨fun v hv => by rw [hv hsome]; exact h2, hNO h3, fun _ => h3⟩) _ _ hy
        · exact .inr ⟨hw, fun v hv => by rw [hv hsome]; exact h2, hNO h3, fun _ => h3⟩
    have hnext : ∀ u w', (∀ v, (o.dst.isSome = true → v = u) → S i v w') → Keep O w w' → (i ≠ c → Keep NoB w w') → wpAny P md ops Q fuel (listed.setIfInBounds i true) (a.put o.dst u) w' := by
      intro u w' hSu hk hkn
      have hfr : FrameD a0 ds ops.size (a.put o.dst u) ∧ (∀ k, k < ops.size → k ≠ i → (a.put o.dst u).tmps.getD (ds k) undef = a.tmps.getD (ds k) undef) ∧ (o.dst.isSome = true → (a.put o.dst u).tmps.getD (ds i) undef = u) := by
        rcases hd with hd | ⟨hd, _⟩
        · rw [hd]
          have hds : ds i < a.tmps.size := by rw [hF.2.1]; exact fitsD_at hsz ho hd
          have hget : ∀ s, (a.put (some (ds i)) u).tmps.getD s undef = if s = ds i then u else a.tmps.getD s undef := fun s => by
            unfold Act.put
            by_cases e : s = ds i
            · subst e; simp [hds]
            · rw [if_neg e]
              simp only [Array.getD_eq_getD_getElem?, Array.getElem?_setIfInBounds]
              rw [if_neg (fun h => e h.symm)]
          refine ⟨⟨hF.1, by unfold Act.put; simpa using hF.2.1, fun s hs' => ?_⟩, fun k hk' hki => ?_, fun _ => ?_⟩
          · rw [hget, if_neg (hs' i hi')]; exact hF.2.2 s hs'
          · rw [hget, if_neg (hdis k hk' hki)]
          · rw [hget, if_pos rfl]
        · rw [hd]
          exact ⟨hF, fun _ _ _ => rfl, fun h => by cases h⟩
      obtain ⟨hF', hother, hself⟩ := hfr
      refine ih (listed.setIfInBounds i true) _ w' (by simpa using hs) ⟨L.erase i, ?_, fun k hk' hl => ?_⟩ hF' (hK.trans hk (fun _ h _ => h)) (fun hl => ?_) (fun k hk' hlk hl => ?_) fun k hk' hl => ?_
      · rw [List.length_erase_of_mem (hin i hi' h1)]; omega
      · have hki : k ≠ i := by
          rintro rfl
          have : k < listed.size := by omega
          simp [this] at hl
        have hl2 : listed.getD k true = false := by rw [getD_set_ne true (Ne.symm hki)] at hl; exact hl
        exact (List.mem_erase_of_ne hki).2 (hin k hk' hl2)
      · have hci : c ≠ i := by
          rintro rfl
          have : c < listed.size := by omega
          simp [this] at hl
        rw [getD_set_ne true (Ne.symm hci)] at hl
        exact keepN (hC hl) (hkn (Ne.symm hci))
      · have hcl : ∀ n, listed.getD n true = true → (listed.setIfInBounds i true).getD n true = true := fun n hn => by
          by_cases e : i = n
          · subst e
            have h5 : i < listed.size := by omega
            simp [h5]
          · rw [getD_set_ne true e]; exact hn
        by_cases e : k = i
        · subst e
          by_cases ec : k = c
          · rw [← ec]; exact hl
          · obtain ⟨x, hx, hb, h6⟩ := lateG_at hLt ho hlk ec
            have h7 := hall x hx hb
            have h8 := hlt x hx hb
            have h9 : x.on < listed.size := by omega
            have h10 : listed.getD x.on true = true := by simpa [h9] using h7
            refine hcl c ?_
            rcases h6 with h6 | h6
            · rw [← h6]; exact h10
            · exact hLa x.on (by omega) h6 h10
        · rw [getD_set_ne true (Ne.symm e)] at hl
          exact hcl c (hLa k hk' hlk hl)
      · by_cases e : k = i
        · subst e
          exact hSu _ hself
        · rw [hother k hk' e]
          rw [getD_set_ne true (Ne.symm e)] at hl
          by_cases ec : i = c
          · subst ec
            by_cases hlk : late k = true
            · have := hLa k hk' hlk hl
              rw [h1] at this; cases this
            · exact hS1 k _ _ _ e (by simpa using hlk) hK (hA k hk' hl) hk
          · exact hS2 k _ _ _ hK (hA k hk' hl) (hkn ec)
    unfold wpOp
    simp only [ho]
    rcases hdoes with ⟨hw, hy⟩ | ⟨hw, h2, h3, h4⟩
    · rw [if_pos hw]
      exact .inl (Oper.wp_of_yields hy fun u w' ⟨h2, h3, h4⟩ => hnext u w' h2 h3 h4)
    · rw [if_neg (by rw [hw]; decide)]
      exact hnext undef w h2 h3 h4
theorem wp_region_props6 {id : Nat} {Q : Exit → Act → World → Prop} {a0 : Act} {w : World} (ds : Nat → Nat) (c : Nat) (O : Nat → Prop) (late : Nat → Bool) (hm : P.follows .mixedOrders = true) (hB : propsD6 .any ops ds c = true) (hLt : lateG .any ops c late = true) (S : Nat → Value → World → Prop) (hS1 : ∀ i v w1 w', i ≠ c → late i = false → Keep O w w1 → S i v w1 → Keep O w1 w' → S i v w') (hS2 : ∀ i v w1 w', Keep O w w1 → S i v w1 → Keep NoB w1 w' → S i v w') (hsz : fitsD ops ds a0.tmps.size = true)
    (hstep : ∀ i o (a : Act) (w' : World), ops[i]? = some o → i ≠ c → FrameD a0 ds ops.size a → Keep O w w' → (∀ e ∈ o.after, Region.binds .any e = true → S e.on (a.tmps.getD (ds e.on) undef) w') → Does P ops o a w' fun u w'' => S i u w'' ∧ Keep NoB w' w'')
    (hspec : ∀ o (a : Act) (w' : World), ops[c]? = some o → FrameD a0 ds ops.size a → Keep NoB w w' → (∀ e ∈ o.after, Region.binds .any e = true → S e.on (a.tmps.getD (ds e.on) undef) w') → Does P ops o a w' fun u w'' => (∀ v, (o.dst.isSome = true → v = u) → S c v w'') ∧ Keep O w' w'')
    (hend : ∀ (a : Act) (w' : World), FrameD a0 ds ops.size a → Keep O w w' → (∀ i, i < ops.size → S i (a.tmps.getD (ds i) undef) w') → Q .normal a w') : (Code.region id ops true).wp P Q a0 w :=
  wp_region_any hm (wpAny_props6 ds c O late hB hLt S w a0 hS1 hS2 hsz hstep hspec hend _ _ a0 w.drew (by simp) ⟨List.range ops.size, by simp, fun i hi _ => List.mem_range.2 hi⟩ ⟨rfl, rfl, fun _ _ => rfl⟩ (Keep.refl O w).drew (fun _ => (Keep.refl NoB w).drew) (fun i hi _ hl => by simp [hi] at hl) fun i hi hl => by
    simp [hi] at hl)
end
end Go.Proofs.YtbnekeomdhljhaaGreatDoor
