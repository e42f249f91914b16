/-
  What an instruction takes and leaves: plain mathematics. No program, no conditions.
-/
import Derived.Test.YtpkcjokkadfhcaaDoorOEff
namespace Go.Proofs.YtpkcjokkadfhcaaDoor.O

/-- May a row's type stand there? -/
def pT (r : Row) (t : Int) : Bool := decide (t = 0 ∨ (1 ≤ t ∧ t ≤ 4) ∨ (t = -1 ∧ r.ka = 2) ∨ (t = -2 ∧ r.kb = 3))
def pR (r : Row) : Bool := pT r r.ta && pT r r.tb && pT r r.la && pT r r.lb && (decide (¬ (r.ka = 10 ∨ r.fin = true)) || (!r.hop && decide (r.la = 0)))
theorem pR_at (op : Int) : pR (rowAt op) = true := rowAt_all (p := pR) (by decide) (by decide) op
theorem pR_parts {r : Row} (h : pR r = true) : pT r r.ta = true ∧ pT r r.tb = true ∧ pT r r.la = true ∧ pT r r.lb = true ∧ ((r.ka = 10 ∨ r.fin = true) → r.hop = false ∧ r.la = 0) := by
  unfold pR at h
  simp only [Bool.and_eq_true, Bool.or_eq_true, decide_eq_true_eq, Bool.not_eq_true'] at h
  obtain ⟨⟨⟨⟨h1, h2⟩, h3⟩, h4⟩, h5⟩ := h
  exact ⟨h1, h2, h3, h4, fun hg => h5.elim (fun hn => absurd hg hn) id⟩

theorem ty_known {r : Row} {t a b : Int} (hp : pT r t = true) (h0 : t ≠ 0) (ha : r.ka = 2 → 1 ≤ a ∧ a ≤ 4) (hb : r.kb = 3 → 1 ≤ b ∧ b ≤ 4) : W.knownB (tyOf t a b) = true := by
  have hp := of_decide_eq_true hp
  apply decide_eq_true
  unfold tyOf
  rcases hp with h | h | h | h
  · exact absurd h h0
  · rw [if_neg (by omega), if_neg (by omega)]; exact h
  · rw [if_pos h.1]; exact ha h.2
  · rw [if_neg (by omega), if_pos h.1]; exact hb h.2
theorem ty_same {r : Row} {t a b a' b' : Int} (hp : pT r t = true) (ha : r.ka = 2 → a = a') (hb : r.kb = 3 → b = b') : tyOf t a b = tyOf t a' b' := by
  have hp := of_decide_eq_true hp
  unfold tyOf
  rcases hp with h | h | h | h
  · rw [if_neg (by omega), if_neg (by omega), if_neg (by omega), if_neg (by omega)]
  · rw [if_neg (by omega), if_neg (by omega), if_neg (by omega), if_neg (by omega)]
  · rw [if_pos h.1, if_pos h.1]; exact ha h.2
  · rw [if_neg (by omega), if_pos h.1, if_neg (by omega), if_pos h.1]; exact hb h.2
theorem types_len (t u a b : Int) : (typesL t u a b).length = if t = 0 then 0 else if u = 0 then 1 else 2 := by
  unfold typesL
  split
  · rfl
  · split <;> rfl
theorem types_two (t u a b : Int) : (typesL t u a b).length ≤ 2 := by
  rw [types_len]
  split
  · omega
  · split <;> omega
theorem types_known {r : Row} {t u a b : Int} (hp : pT r t = true) (hq : pT r u = true) (ha : r.ka = 2 → 1 ≤ a ∧ a ≤ 4) (hb : r.kb = 3 → 1 ≤ b ∧ b ≤ 4) : ∀ s ∈ typesL t u a b, W.knownB s = true := by
  intro s hs
  unfold typesL at hs
  split at hs
  · cases hs
  · rename_i h0
    split at hs
    · obtain rfl := List.mem_singleton.1 hs
      exact ty_known hp h0 ha hb
    · rename_i h1
      rcases List.mem_cons.1 hs with rfl | hs
      · exact ty_known hp h0 ha hb
      · obtain rfl := List.mem_singleton.1 hs
        exact ty_known hq h1 ha hb
theorem types_same {r : Row} {t u a b a' b' : Int} (hp : pT r t = true) (hq : pT r u = true) (ha : r.ka = 2 → a = a') (hb : r.kb = 3 → b = b') : typesL t u a b = typesL t u a' b' := by
  unfold typesL
  rw [ty_same hp ha hb, ty_same hq ha hb]

theorem in_types {op a b : Int} (h : okI op a b = true) : ((rowAt op).ka = 2 → 1 ≤ a ∧ a ≤ 4) ∧ ((rowAt op).kb = 3 → 1 ≤ b ∧ b ≤ 4) := by
  obtain ⟨_, h1, h2⟩ := ok_op h
  have h1 := of_decide_eq_true h1
  have h2 := of_decide_eq_true h2
  refine ⟨fun e => ?_, fun e => ?_⟩
  · rw [e] at h1; simpa [lo, hi] using h1
  · rw [e] at h2
    have : lo 3 = 1 ∧ hi 3 = 3 := by decide
    omega
theorem fixed_ok {op a b : Int} (h : fixedI op a b = true) : okI op a b = true := by
  unfold fixedI at h; simp only [Bool.and_eq_true] at h; exact h.1

/-- Two types at most. -/
theorem eff_two (op a b : Int) : (takesI op a b).length ≤ 2 ∧ (leavesI op a b).length ≤ 2 := by
  unfold takesI leavesI
  cases fixedI op a b
  · exact ⟨by simp, by simp⟩
  · exact ⟨types_two _ _ _ _, types_two _ _ _ _⟩
/-- Each of them a type. -/
theorem eff_known (op a b : Int) : ∀ t ∈ takesI op a b ++ leavesI op a b, W.knownB t = true := by
  unfold takesI leavesI
  cases h : fixedI op a b
  · intro t ht; simp at ht
  · obtain ⟨p1, p2, p3, p4, _⟩ := pR_parts (pR_at op)
    obtain ⟨ha, hb⟩ := in_types (fixed_ok h)
    intro t ht
    rw [if_pos rfl, if_pos rfl] at ht
    rcases List.mem_append.1 ht with ht | ht
    · exact types_known p1 p2 ha hb t ht
    · exact types_known p3 p4 ha hb t ht
/-- What goes elsewhere, or ends, is fixed and leaves nothing. -/
theorem eff_goes {op a b : Int} (h : goesI op a b = true ∨ endsI op a b = true) : okI op a b = true ∧ fixedI op a b = true ∧ leavesI op a b = [] := by
  cases ho : okI op a b
  · exfalso
    unfold goesI endsI at h
    rw [rowR_no ho] at h
    rcases h with h | h
    · exact absurd h (by decide)
    · exact absurd h (by decide)
  · obtain ⟨_, _, _, _, p5⟩ := pR_parts (pR_at op)
    have hg : (rowAt op).ka = 10 ∨ (rowAt op).fin = true := by
      unfold goesI endsI at h
      rw [rowR_ok ho] at h
      exact h.imp of_decide_eq_true id
    obtain ⟨q1, q2⟩ := p5 hg
    have hf : fixedI op a b = true := by unfold fixedI; rw [ho, q1]; rfl
    refine ⟨rfl, hf, ?_⟩
    unfold leavesI
    rw [if_pos hf]
    unfold typesL
    rw [if_pos q2]
/-- Of one number, all are fixed or none is, and they take and leave as many. -/
theorem eff_alike {op a b a' b' : Int} (h : okI op a b = true) (h' : okI op a' b' = true) :
    fixedI op a b = fixedI op a' b' ∧ (takesI op a b).length = (takesI op a' b').length ∧ (leavesI op a b).length = (leavesI op a' b').length := by
  have e : fixedI op a b = fixedI op a' b' := by unfold fixedI; rw [h, h']
  refine ⟨e, ?_, ?_⟩
  · unfold takesI; rw [e]; split
    · rw [types_len, types_len]
    · rfl
  · unfold leavesI; rw [e]; split
    · rw [types_len, types_len]
    · rfl
/-- And the same, if none names a type, or they name the same. -/
theorem eff_same {op a b a' b' : Int} (h : okI op a b = true) (h' : okI op a' b' = true) (ha : (rowAt op).ka = 2 → a = a') (hb : (rowAt op).kb = 3 → b = b') :
    takesI op a b = takesI op a' b' ∧ leavesI op a b = leavesI op a' b' := by
  obtain ⟨p1, p2, p3, p4, _⟩ := pR_parts (pR_at op)
  have e : fixedI op a b = fixedI op a' b' := (eff_alike h h').1
  unfold takesI leavesI
  rw [e, types_same p1 p2 ha hb, types_same p3 p4 ha hb]
  exact ⟨rfl, rfl⟩

end Go.Proofs.YtpkcjokkadfhcaaDoor.O
