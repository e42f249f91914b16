/-
  The steps of a walk through a region by WMix. No program, no conditions.
-/
import Derived.Test.YtpkcjokkadfhcaaDoorKMix
namespace Go.Proofs.YtpkcjokkadfhcaaDoor
open Go.RowKit

/-- A world of a class. -/
structure KI (I : World → Prop) where
  w : World
  has : I w

section
variable {P : Program} {l tl : List Oper} {Q : Act → World → Prop} {rest : List (Nat × Bool)} {i : Nat} {gen : Bool} {o : Oper} {a : Act} {I : World → Prop}

theorem at_drop (ho : l.drop i = o :: tl) : l.toArray[i]? = some o := by
  rw [List.getElem?_toArray, ← List.head?_drop, ho]; rfl
theorem wpM_skip (ho : l.drop i = o :: tl) (hw : Region.wanted o (yielded l.toArray a.tmps) = false) (h : wpM P l.toArray Q rest (a.put o.dst undef) I) : wpM P l.toArray Q ((i, gen) :: rest) a I := by
  change mOp P l.toArray gen i (wpM P l.toArray Q rest) a I
  have ho := at_drop ho
  unfold mOp
  simp only [ho, hw, Bool.false_eq_true, if_false]
  exact h

/-- An operation that reads, reckons or calls. -/
theorem wpM_step (ho : l.drop i = o :: tl) (hm : isMake o = false) {d : Tmp} (hd : o.dst = some d) (hlt : decide (d < a.tmps.size) = true) (hw : Region.wanted o (yielded l.toArray a.tmps) = true)
    (HH : ∃ A' : Act, (∀ n : KI I, ∀ K : Act → Prop, (∀ a', a' = A' → K a') → o.quiet P a (fun w' => ∃ m : KW n.w, w' = m.w) K) ∧ a.put o.dst (A'.tmps.getD d undef) = A' ∧ wpM P l.toArray Q rest A' I) : wpM P l.toArray Q ((i, gen) :: rest) a I := by
  obtain ⟨A', H, hA, h⟩ := HH
  change mOp P l.toArray gen i (wpM P l.toArray Q rest) a I
  have ho := at_drop ho
  unfold mOp
  simp only [ho, hw, if_true, hm, Bool.false_eq_true, if_false]
  have hlt := of_decide_eq_true hlt
  have key : ∀ n : KI I, ∃ v, a.put o.dst v = A' ∧ yieldsK P o a n.w fun u w' => u = v ∧ Keep NoB n.w w' := fun n => by
    obtain ⟨v, h1, h2⟩ := H n (fun a' => a' = A') (fun _ h => h)
    refine ⟨v, h2, ?_⟩
    have h3 := h1 n.w ⟨⟨n.w, Keep.refl _ _⟩, rfl⟩
    unfold Oper.quietAt at h3
    unfold yieldsK
    generalize (execOp a.eval o).run P n.w = r at *
    cases r with
    | ok x w' =>
      cases x <;> simp only [Oper.quietUpon] at h3 <;> simp only [yieldsR]
      case value u => obtain ⟨rfl, rfl⟩ := h3; exact ⟨rfl, Keep.refl _ _⟩
      case skip => obtain ⟨rfl, rfl⟩ := h3; exact ⟨rfl, Keep.refl _ _⟩
      case enter f args =>
        obtain ⟨rfl, hc⟩ := h3
        exact hc.mono fun e w'' ⟨he, m, hm⟩ => ⟨v, he, rfl, by rw [hm]; exact m.keep⟩
    | halt x w' => simp only [Oper.quietUpon] at h3
  have val : ∀ v, a.put o.dst v = A' → v = A'.tmps.getD d undef := fun v e => by
    rw [← e, hd]
    simp [Act.put, hlt]
  refine .inl ⟨A'.tmps.getD d undef, fun w hw' => ?_, by rw [hA]; exact h⟩
  obtain ⟨v, e, hy⟩ := key ⟨w, hw'⟩
  rw [← val v e]; exact hy

/-- An operation that makes a block. -/
theorem wpM_make (ho : l.drop i = o :: tl) (hm : isMake o = true) (hw : Region.wanted o (yielded l.toArray a.tmps) = true) (mk : Nat → Value) (obj : Obj) (hk : Make1 P o a mk obj)
    (h : ∀ g, wpM P l.toArray Q rest (a.put o.dst (mk g)) fun w => I w ∧ w.heap[g]? = some obj) : wpM P l.toArray Q ((i, gen) :: rest) a I := by
  change mOp P l.toArray gen i (wpM P l.toArray Q rest) a I
  have ho := at_drop ho
  unfold mOp
  simp only [ho, hw, if_true, hm]
  exact ⟨mk, obj, hk, h⟩

/-- One that comes up alone, and yields whatever. -/
theorem wpM_gen (ho : l.drop i = o :: tl) (hm : isMake o = false) (hw : Region.wanted o (yielded l.toArray a.tmps) = true) (V : Value → World → Prop) (hV : ∀ v, StableI (V v))
    (H : ∀ n : KI I, yieldsK P o a n.w fun u w' => V u w' ∧ Keep NoB n.w w') (h : ∀ v, wpM P l.toArray Q rest (a.put o.dst v) fun w => I w ∧ V v w) : wpM P l.toArray Q ((i, true) :: rest) a I := by
  change mOp P l.toArray true i (wpM P l.toArray Q rest) a I
  have ho := at_drop ho
  unfold mOp
  simp only [ho, hw, if_true, hm, Bool.false_eq_true, if_false]
  exact .inr ⟨trivial, V, ⟨hV, fun w hw' => H ⟨w, hw'⟩⟩, h⟩

/-- Less may be known of the worlds. -/
theorem wpM_weak {ops : Array Oper} : ∀ (l : List (Nat × Bool)) (a : Act) (I I' : World → Prop), (∀ w, I w → I' w) → wpM P ops Q l a I' → wpM P ops Q l a I
  | [], _, _, _, hI, h => fun w hw => h w (hI w hw)
  | (i, gen) :: rest, a, I, I', hI, h => by
    change mOp P ops gen i (wpM P ops Q rest) a I
    change mOp P ops gen i (wpM P ops Q rest) a I' at h
    unfold mOp at *
    split
    · rename_i ho; simp only [ho] at h; exact wpM_weak rest a I I' hI h
    · rename_i o ho
      simp only [ho] at h
      split
      · rename_i hw
        simp only [hw, if_true] at h
        split
        · rename_i hm
          simp only [hm, if_true] at h
          obtain ⟨mk, obj, h1, h2⟩ := h
          exact ⟨mk, obj, h1, fun g => wpM_weak rest _ _ _ (fun w hw => ⟨hI w hw.1, hw.2⟩) (h2 g)⟩
        · rename_i hm
          simp only [hm] at h
          rcases h with ⟨v, h1, h2⟩ | ⟨hg, V, h1, h2⟩
          · exact .inl ⟨v, fun w hw => h1 w (hI w hw), wpM_weak rest _ _ _ hI h2⟩
          · exact .inr ⟨hg, V, ⟨h1.1, fun w hw => h1.2 w (hI w hw)⟩, fun v => wpM_weak rest _ _ _ (fun w hw => ⟨hI w hw.1, hw.2⟩) (h2 v)⟩
      · rename_i hw; simp only [hw] at h; exact wpM_weak rest _ _ _ hI h

theorem wpM_nil (h : ∀ n : KI I, Q a n.w) : wpM P l.toArray Q [] a I := fun w hw => h ⟨w, hw⟩

/-! The same laws with the goal shut in a structure: a goal that is laid bare is unfolded, operation by operation, wherever one is not wanted. -/

/-- What is shut in. -/
structure Shut (p : Prop) : Prop where
  out : p

theorem shM_skip (ho : l.drop i = o :: tl) (hw : Region.wanted o (yielded l.toArray a.tmps) = false) (hu : a.put o.dst undef = a) (h : Shut (wpM P l.toArray Q rest a I)) : Shut (wpM P l.toArray Q ((i, gen) :: rest) a I) :=
  ⟨wpM_skip ho hw (by rw [hu]; exact h.out)⟩
theorem shM_step (ho : l.drop i = o :: tl) (hm : isMake o = false) {d : Tmp} (hd : o.dst = some d) (hlt : decide (d < a.tmps.size) = true) (hw : Region.wanted o (yielded l.toArray a.tmps) = true)
    (HH : ∃ A' : Act, (∀ n : KI I, ∀ K : Act → Prop, (∀ a', a' = A' → K a') → o.quiet P a (fun w' => ∃ m : KW n.w, w' = m.w) K) ∧ a.put o.dst (A'.tmps.getD d undef) = A' ∧ Shut (wpM P l.toArray Q rest A' I)) : Shut (wpM P l.toArray Q ((i, gen) :: rest) a I) :=
  ⟨wpM_step ho hm hd hlt hw (HH.imp fun _ h => ⟨h.1, h.2.1, h.2.2.out⟩)⟩
theorem shM_make (ho : l.drop i = o :: tl) (hm : isMake o = true) (hw : Region.wanted o (yielded l.toArray a.tmps) = true) (mk : Nat → Value) (obj : Obj) (hk : Make1 P o a mk obj)
    (h : ∀ g, Shut (wpM P l.toArray Q rest (a.put o.dst (mk g)) fun w => I w ∧ w.heap[g]? = some obj)) : Shut (wpM P l.toArray Q ((i, gen) :: rest) a I) :=
  ⟨wpM_make ho hm hw mk obj hk fun g => (h g).out⟩
theorem shM_gen (ho : l.drop i = o :: tl) (hm : isMake o = false) (hw : Region.wanted o (yielded l.toArray a.tmps) = true) (V : Value → World → Prop) (hV : ∀ v, StableI (V v))
    (H : ∀ n : KI I, yieldsK P o a n.w fun u w' => V u w' ∧ Keep NoB n.w w') (h : ∀ v, Shut (wpM P l.toArray Q rest (a.put o.dst v) fun w => I w ∧ V v w)) : Shut (wpM P l.toArray Q ((i, true) :: rest) a I) :=
  ⟨wpM_gen ho hm hw V hV H fun v => (h v).out⟩
theorem shM_nil (h : ∀ n : KI I, Q a n.w) : Shut (wpM P l.toArray Q [] a I) := ⟨wpM_nil h⟩
theorem wp_region_sh {id : Nat} {Q : Exit → Act → World → Prop} {w : World} {ops : Array Oper} (l : List (Nat × Bool)) (I : World → Prop) (hm : P.follows .mixedOrders = true) (hs : Region.noSelect ops = true) (hl : l.length = ops.size)
    (hB : orderM .any ops l (Array.replicate ops.size false) = true) (hI : StableI I) (hw : I w.drew) (h : Shut (wpM P ops (Q .normal) l a I)) : (Code.region id ops true).wp P Q a w :=
  wp_region_mix l I hm hs hl hB hI hw h.out

end
end Go.Proofs.YtpkcjokkadfhcaaDoor
