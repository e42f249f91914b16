/-
  A region that draws its order, whose operations read, call what may make memory, and make memory themselves, none of them writing what lay: one walk, in an order of one's own choice, serves every order. What was made is known by its block alone. No program, no conditions.
  The steps of a walk through a region by WMix. No program, no conditions.
  What operandOf hands out, and has. Conditions: the kind is from 0 to 10.
  What rowOf and has answer. Conditions: none but that a kind's operand is one.
  What rowFor answers. No conditions.
  What Check, Ends, Goes, Kinds, Name and Effect answer. Conditions: none but that numbers fit an int64.
  The plain mathematics of layer code: instructions as triples, lists of them as cells, which lists are bodies, heads and stretches, what one more and one fewer make, how many have an op. No program, no conditions.
  The plain mathematics of functions: names, which may be, their bytes, their slots. No program, no conditions.
  An instruction's bytes, and its text, tell it: plain mathematics. No program, no conditions.
-/
import Derived.Laws.EntriesVeiled
import Derived.Lib.Hide
import Derived.Lib.Strings
import Derived.Test.YtgifflfjhockaaaGreatDoorQ3
import Derived.Test.YtgifflfjhockaaaGreatDoorQ2
namespace Go.Proofs.YtgifflfjhockaaaGreatDoor
open Go.RowKit

/-- What stays when memory is made. -/
def StableI (I : World → Prop) : Prop := ∀ w w', I w → Keep NoB w w' → I w'
theorem StableI.and {I J : World → Prop} (h : StableI I) (h' : StableI J) : StableI fun w => I w ∧ J w := fun w w' hw hk => ⟨h w w' hw.1 hk, h' w w' hw.2 hk⟩
theorem stable_blk (g : Nat) (o : Obj) : StableI fun w => w.heap[g]? = some o := fun _ _ h hk => (hk.block g (Array.getElem?_eq_some_iff.1 h).1 id).trans h
theorem stable_keep (w0 : World) : StableI fun w => Keep NoB w0 w := fun _ _ h hk => keepN h hk

/-- The operations that make a block. -/
def isMake (o : Oper) : Bool := match o.op with
  | .alloc _ => true
  | .buildSlice .. => true
  | .makeSlice .. => true
  | _ => false

section
variable {P : Program} {ops : Array Oper} {md : Region.Mode}

/-- The operation yields a value, at once or by a call. -/
def yieldsR (R : Value → World → Prop) : Program → Result Next → Prop
  | _, .ok (.value u) w' => R u w'
  | _, .ok .skip w' => R undef w'
  | P, .ok (.enter f args) w' => Calls P f args w' fun e w'' => ∃ u, e = .returned u ∧ R u w''
  | _, _ => False
def yieldsK (P : Program) (o : Oper) (a : Act) (w : World) (R : Value → World → Prop) : Prop := yieldsR R P ((execOp a.eval o).run P w)

def Quiet1 (P : Program) (o : Oper) (a : Act) (I : World → Prop) (v : Value) : Prop := ∀ w, I w → yieldsK P o a w fun u w' => u = v ∧ Keep NoB w w'
def Gen1 (P : Program) (o : Oper) (a : Act) (I : World → Prop) (V : Value → World → Prop) : Prop := (∀ v, StableI (V v)) ∧ ∀ w, I w → yieldsK P o a w fun u w' => V u w' ∧ Keep NoB w w'
def Make1 (P : Program) (o : Oper) (a : Act) (mk : Nat → Value) (obj : Obj) : Prop := ∀ w, (execOp a.eval o).run P w = .ok (.value (mk w.heap.size)) (w.alloc obj)

abbrev Kont := Act → (World → Prop) → Prop

/-- Operation number i comes up. -/
def mOp (P : Program) (ops : Array Oper) (gen : Bool) (i : Nat) (K : Kont) (a : Act) (I : World → Prop) : Prop :=
  match ops[i]? with
  | none => K a I
  | some o =>
    if Region.wanted o (yielded ops a.tmps) then
      (if isMake o then ∃ mk obj, Make1 P o a mk obj ∧ ∀ g, K (a.put o.dst (mk g)) fun w => I w ∧ w.heap[g]? = some obj
       else (∃ v, Quiet1 P o a I v ∧ K (a.put o.dst v) I) ∨ (gen = true ∧ ∃ V, Gen1 P o a I V ∧ ∀ v, K (a.put o.dst v) fun w => I w ∧ V v w))
    else K (a.put o.dst undef) I

theorem mOp_mono {gen gen' : Bool} {i : Nat} {a : Act} {I : World → Prop} {K K' : Kont} (hg : gen = true → gen' = true) (h : ∀ a I, K a I → K' a I) (hh : mOp P ops gen i K a I) : mOp P ops gen' i K' a I := by
  unfold mOp at *
  split
  · rename_i ho; simp only [ho] at hh; exact h _ _ hh
  · rename_i o ho
    simp only [ho] at hh
    split
    · rename_i hw
      simp only [hw, if_true] at hh
      split
      · rename_i hm
        simp only [hm, if_true] at hh
        obtain ⟨mk, obj, h1, h2⟩ := hh
        exact ⟨mk, obj, h1, fun g => h _ _ (h2 g)⟩
      · rename_i hm
        simp only [hm] at hh
        rcases hh with ⟨v, h1, h2⟩ | ⟨hgen, V, h1, h2⟩
        · exact .inl ⟨v, h1, h _ _ h2⟩
        · exact .inr ⟨hg hgen, V, h1, fun v => h _ _ (h2 v)⟩
    · rename_i hw; simp only [hw] at hh; exact h _ _ hh

/-- Whatever order is picked from here on. -/
def wpAnyM (P : Program) (md : Region.Mode) (ops : Array Oper) (Q : Act → World → Prop) : Nat → Array Bool → Act → (World → Prop) → Prop
  | 0, listed, a, I => Region.ready md ops listed = [] ∧ ∀ w, I w → Q a w
  | fuel + 1, listed, a, I =>
    (Region.ready md ops listed = [] → ∀ w, I w → Q a w) ∧
    ∀ i ∈ Region.ready md ops listed, mOp P ops true i (wpAnyM P md ops Q fuel (listed.setIfInBounds i true)) a I

theorem Oper.wp_of_yields {o : Oper} {a : Act} {w : World} {K' : Act → World → Prop} {Q' : Exit → Act → World → Prop} {R : Value → World → Prop} (h : yieldsK P o a w R) (hK : ∀ u w', R u w' → K' (a.put o.dst u) w') : o.wp P a w K' Q' := by
  unfold yieldsK at h
  unfold Oper.wp
  generalize (execOp a.eval o).run P w = r at *
  cases r with
  | ok n w' =>
    cases n <;> simp only [yieldsR] at h <;> simp only [Oper.upon]
    case value u => exact hK _ _ h
    case skip => exact hK _ _ h
    case enter f args => exact h.mono fun e w'' ⟨u, he, hr⟩ => by subst he; exact hK _ _ hr
  | halt x w' => simp only [yieldsR] at h

theorem wpOp_of_mOp {gen : Bool} {i : Nat} {a : Act} {I : World → Prop} {K : Kont} {K' : Act → World → Prop} {Q' : Exit → Act → World → Prop} {w : World} (hI : StableI I) (hw0 : I w)
    (h : ∀ a I w', StableI I → I w' → K a I → K' a w') (hh : mOp P ops gen i K a I) : wpOp P ops Q' i K' a w := by
  unfold mOp at hh
  unfold wpOp
  split
  · rename_i ho; simp only [ho] at hh; exact h _ _ _ hI hw0 hh
  · rename_i o ho
    simp only [ho] at hh
    split
    · rename_i hw
      simp only [hw, if_true] at hh
      refine .inl ?_
      split at hh
      · obtain ⟨mk, obj, h1, h2⟩ := hh
        have hk : Keep NoB w (w.alloc obj) := (Keep.refl _ _).alloc _
        have hy : yieldsK P o a w fun u w' => u = mk w.heap.size ∧ w' = w.alloc obj := by unfold yieldsK; rw [h1 w]; exact ⟨rfl, rfl⟩
        refine Oper.wp_of_yields hy ?_
        rintro u w' ⟨rfl, rfl⟩
        exact h _ _ _ (hI.and (stable_blk _ _)) ⟨hI _ _ hw0 hk, heap_alloc_new w obj⟩ (h2 _)
      · rcases hh with ⟨v, h1, h2⟩ | ⟨_, V, h1, h2⟩
        · refine Oper.wp_of_yields (h1 w hw0) ?_
          rintro u w' ⟨rfl, hk⟩
          exact h _ _ _ hI (hI _ _ hw0 hk) h2
        · refine Oper.wp_of_yields (h1.2 w hw0) ?_
          rintro u w' ⟨hv, hk⟩
          exact h _ _ _ (hI.and (h1.1 u)) ⟨hI _ _ hw0 hk, hv⟩ (h2 u)
    · rename_i hw; simp only [hw] at hh; exact h _ _ _ hI hw0 hh

/-- It is a wpAny, from every world of the class. -/
theorem wpAny_of_M {Q : Act → World → Prop} {Q' : Exit → Act → World → Prop} (hQ : ∀ a w, Q a w → Q' .normal a w) : ∀ (fuel : Nat) (listed : Array Bool) (a : Act) (I : World → Prop) (w : World), StableI I → I w →
    wpAnyM P md ops Q fuel listed a I → wpAny P md ops Q' fuel listed a w
  | 0, _, _, _, _, _, hw, h => ⟨h.1, hQ _ _ (h.2 _ hw)⟩
  | fuel + 1, _, _, _, _, hI, hw, h => ⟨fun h0 => hQ _ _ (h.1 h0 _ hw), fun i hi => wpOp_of_mOp hI hw (fun a' I' w' hI' hw' hk => wpAny_of_M hQ fuel _ a' I' w' hI' hw' hk) (h.2 i hi)⟩

/-- In every world of the class the operation leaves v, and makes memory at most. -/
def YM (P : Program) (ops : Array Oper) (o : Oper) (v : Value) (a : Act) (I : World → Prop) : Prop :=
  (Region.wanted o (yielded ops a.tmps) = true ∧ isMake o = false ∧ Quiet1 P o a I v) ∨ (Region.wanted o (yielded ops a.tmps) = false ∧ v = undef)

theorem YM.mOp {i : Nat} {o : Oper} {v : Value} {a : Act} {I : World → Prop} (hi : ops[i]? = some o) (hy : YM P ops o v a I) {K : Kont} (h : K (a.put o.dst v) I) : mOp P ops true i K a I := by
  unfold Go.Proofs.YtgifflfjhockaaaGreatDoor.mOp
  simp only [hi]
  rcases hy with ⟨hw, hm, hv⟩ | ⟨hw, rfl⟩
  · simp only [hw, if_true, hm, Bool.false_eq_true, if_false]; exact .inl ⟨v, hv, h⟩
  · simp only [hw, Bool.false_eq_true, if_false]; exact h

theorem YM.of_same {o : Oper} {v : Value} {a a' : Act} {I I' : World → Prop} (hy : YM P ops o v a I) (hI : ∀ w, I' w → I w) (he : execOp a'.eval o = execOp a.eval o)
    (hw : Region.wanted o (yielded ops a'.tmps) = Region.wanted o (yielded ops a.tmps)) : YM P ops o v a' I' := by
  unfold YM Quiet1 yieldsK at *
  rw [he, hw]
  exact hy.imp (fun ⟨h1, h2, h3⟩ => ⟨h1, h2, fun w h => h3 w (hI w h)⟩) id

/-- An operation oj, apart from oi: whether oi's value is already there makes no difference to it, and it makes none to oi. -/
theorem mOp_put {j : Nat} {oi oj : Oper} {v : Value} (hj : ops[j]? = some oj) (hap : oi.apart ops oj = true)
    (hsi : ∀ cs b, oi.op ≠ .select cs b) (hsj : ∀ cs b, oj.op ≠ .select cs b) {K : Kont} {a : Act} {I : World → Prop}
    (hy : YM P ops oi v a I) (h : mOp P ops true j K (a.put oi.dst v) I) :
    mOp P ops true j (fun a' I' => YM P ops oi v a' I' ∧ K (a'.put oi.dst v) I') a I := by
  obtain ⟨h1, h2, h3⟩ := Oper.apart_spec hap
  have keep : ∀ u, ∀ I' : World → Prop, (∀ w, I' w → I w) → YM P ops oi v (a.put oj.dst u) I' := fun u I' hI =>
    hy.of_same hI (execOp_put oi hsi a oj.dst u h3) (wanted_put oi a oj.dst u h3)
  unfold mOp at *
  simp only [hj] at *
  rw [wanted_put oj a oi.dst v h1] at h
  split
  · rename_i hw
    simp only [hw, if_true] at h
    split
    · rename_i hm
      simp only [hm, if_true] at h
      obtain ⟨mk, obj, k1, k2⟩ := h
      refine ⟨mk, obj, ?_, fun g => ⟨keep _ _ (fun w hw => hw.1), by rw [← Act.put_comm a v (mk g) h2]; exact k2 g⟩⟩
      unfold Make1 at *
      rwa [execOp_put oj hsj a oi.dst v h1] at k1
    · rename_i hm
      simp only [hm] at h
      rcases h with ⟨u, k1, k2⟩ | ⟨hg, V, k1, k2⟩
      · refine .inl ⟨u, ?_, keep u _ (fun _ h => h), by rw [← Act.put_comm a v u h2]; exact k2⟩
        unfold Quiet1 yieldsK at *
        rwa [execOp_put oj hsj a oi.dst v h1] at k1
      · refine .inr ⟨by simp, V, ?_, fun u => ⟨keep u _ (fun _ h => h.1), by rw [← Act.put_comm a v u h2]; exact k2 u⟩⟩
        unfold Gen1 yieldsK at *
        rwa [execOp_put oj hsj a oi.dst v h1] at k1
  · rename_i hw
    simp only [hw] at h
    exact ⟨keep _ _ (fun _ h => h), by rw [← Act.put_comm a v undef h2]; exact h⟩

theorem not_waits {i : Nat} {oj : Oper} {listed : Array Bool} (hr : i ∈ Region.ready md ops listed) (hall : ∀ e ∈ oj.after, Region.binds md e = true → listed.getD e.on false = true) :
    ∀ e ∈ oj.after, Region.binds md e = true → e.on ≠ i := fun e he hb heq => by
  have h1 := hall e he hb
  have h0 := (mem_ready.1 hr).1
  rw [heq] at h1
  rcases Nat.lt_or_ge i listed.size with h' | h'
  · simp [h'] at h0 h1; rw [h0] at h1; cases h1
  · simp [Array.getElem?_eq_none h'] at h1

/-- A quiet operation that may come up now may be taken first. -/
theorem wpAnyM_first {Q : Act → World → Prop} {i : Nat} {oi : Oper} {v : Value} (hi : ops[i]? = some oi) (hsel : ∀ (j : Nat) (o : Oper) cs b, ops[j]? = some o → o.op ≠ .select cs b) :
    ∀ (fuel : Nat) (listed : Array Bool) (a : Act) (I : World → Prop),
      (∀ j oj, ops[j]? = some oj → j ≠ i → listed.getD j true = false → (∀ e ∈ oj.after, Region.binds md e = true → e.on ≠ i) → oi.apart ops oj = true) →
      i ∈ Region.ready md ops listed → YM P ops oi v a I →
      wpAnyM P md ops Q fuel (listed.setIfInBounds i true) (a.put oi.dst v) I → wpAnyM P md ops Q (fuel + 1) listed a I := by
  intro fuel
  induction fuel with
  | zero =>
    intro listed a I _ hr hy H
    refine ⟨fun h => (by rw [h] at hr; cases hr), fun j hj => ?_⟩
    by_cases hji : j = i
    · subst hji; exact hy.mOp hi H
    · have := ready_mono hj hji
      rw [H.1] at this
      cases this
  | succ fuel ih =>
    intro listed a I hfree hr hy H
    refine ⟨fun h => (by rw [h] at hr; cases hr), fun j hj => ?_⟩
    by_cases hji : j = i
    · subst hji; exact hy.mOp hi H
    · have h1 := H.2 j (ready_mono hj hji)
      obtain ⟨hjun, oj, hoj, hall⟩ := mem_ready.1 hj
      have h2 := mOp_put hoj (hfree j oj hoj hji hjun (not_waits hr hall)) (fun cs b => hsel i oi cs b hi) (fun cs b => hsel j oj cs b hoj) hy h1
      have hfree' : ∀ k ok, ops[k]? = some ok → k ≠ i → (listed.setIfInBounds j true).getD k true = false →
          (∀ e ∈ ok.after, Region.binds md e = true → e.on ≠ i) → oi.apart ops ok = true := fun k ok hk hki hun hno => by
        refine hfree k ok hk hki ?_ hno
        by_cases hjk : j = k
        · subst hjk; exact hjun
        · rw [getD_set_ne true hjk] at hun; exact hun
      refine mOp_mono id (fun a' I' h3 => ih (listed.setIfInBounds j true) a' I' hfree' (ready_mono hr (Ne.symm hji)) h3.1 ?_) h2
      rw [Array.setIfInBounds_comm _ _ hji]
      exact h3.2

/-- Until number i comes up nothing but what makes a block does. -/
def onlyMakes (md : Region.Mode) (ops : Array Oper) (i : Nat) : Nat → Array Bool → Bool
  | 0, _ => false
  | fuel + 1, listed => (Region.ready md ops listed).all fun j => j == i || ((ops[j]?).map isMake).getD false && onlyMakes md ops i fuel (listed.setIfInBounds j true)

theorem make_same {o : Oper} {a : Act} {mk mk' : Nat → Value} {obj obj' : Obj} (h : Make1 P o a mk obj) (h' : Make1 P o a mk' obj') : mk' = mk ∧ obj' = obj := by
  have key : ∀ w : World, mk' w.heap.size = mk w.heap.size ∧ w.alloc obj' = w.alloc obj := fun w => by
    have e := (h' w).symm.trans (h w)
    injection e with e1 e2
    injection e1 with e1
    exact ⟨e1, e2⟩
  refine ⟨funext fun n => ?_, ?_⟩
  · have := (key { heap := Array.replicate n obj, tape := fun _ _ => 0, drawn := 0, os := default, output := #[] }).1
    simpa using this
  · have := (key { heap := #[], tape := fun _ _ => 0, drawn := 0, os := default, output := #[] }).2
    have e := congrArg (fun w : World => w.heap[0]?) this
    have a1 : ∀ (w : World) (o : Obj), w.heap = #[] → (w.alloc o).heap[0]? = some o := fun w o hw => by
      have := heap_alloc_new w o
      rwa [hw] at this
    rw [a1 _ _ rfl, a1 _ _ rfl] at e
    exact Option.some.inj e

/-- An operation that makes a block may be taken first, if nothing else but such may come up ahead of it. -/
theorem wpAnyM_make {Q : Act → World → Prop} {i : Nat} {oi : Oper} (hi : ops[i]? = some oi) (hm : isMake oi = true) (hsel : ∀ (j : Nat) (o : Oper) cs b, ops[j]? = some o → o.op ≠ .select cs b) {mk : Nat → Value} {obj : Obj} :
    ∀ (fuel n : Nat) (listed : Array Bool) (a : Act) (I : World → Prop),
      (∀ j oj, ops[j]? = some oj → j ≠ i → listed.getD j true = false → (∀ e ∈ oj.after, Region.binds md e = true → e.on ≠ i) → oi.apart ops oj = true) →
      onlyMakes md ops i n listed = true → i ∈ Region.ready md ops listed → Region.wanted oi (yielded ops a.tmps) = true → Make1 P oi a mk obj →
      (∀ g, wpAnyM P md ops Q fuel (listed.setIfInBounds i true) (a.put oi.dst (mk g)) fun w => I w ∧ w.heap[g]? = some obj) → wpAnyM P md ops Q (fuel + 1) listed a I := by
  intro fuel
  have own : ∀ (fuel : Nat) (listed : Array Bool) (a : Act) (I : World → Prop), Region.wanted oi (yielded ops a.tmps) = true → Make1 P oi a mk obj →
      (∀ g, wpAnyM P md ops Q fuel (listed.setIfInBounds i true) (a.put oi.dst (mk g)) fun w => I w ∧ w.heap[g]? = some obj) → mOp P ops true i (wpAnyM P md ops Q fuel (listed.setIfInBounds i true)) a I := by
    intro fuel listed a I hw hk H
    unfold mOp
    simp only [hi, hw, if_true, hm]
    exact ⟨mk, obj, hk, H⟩
  induction fuel with
  | zero =>
    intro n listed a I _ _ hr hw hk H
    refine ⟨fun h => (by rw [h] at hr; cases hr), fun j hj => ?_⟩
    by_cases hji : j = i
    · subst hji; exact own _ _ _ _ hw hk H
    · have := ready_mono hj hji
      rw [(H 0).1] at this
      cases this
  | succ fuel ih =>
    intro n listed a I hfree hom hr hw hk H
    refine ⟨fun h => (by rw [h] at hr; cases hr), fun j hj => ?_⟩
    by_cases hji : j = i
    · subst hji; exact own _ _ _ _ hw hk H
    · obtain ⟨m, rfl⟩ : ∃ m, n = m + 1 := by
        cases n with
        | zero => cases hom
        | succ m => exact ⟨m, rfl⟩
      have hom' := List.all_eq_true.1 hom j hj
      obtain ⟨hjun, oj, hoj, hall⟩ := mem_ready.1 hj
      simp only [beq_iff_eq, hji, Bool.or_eq_true, false_or, hoj, Option.map_some, Option.getD_some, Bool.and_eq_true] at hom'
      obtain ⟨hmj, hom2⟩ := hom'
      have hap := hfree j oj hoj hji hjun (not_waits hr hall)
      obtain ⟨h1, h2, h3⟩ := Oper.apart_spec hap
      have hsi := fun cs b => hsel i oi cs b hi
      have hsj := fun cs b => hsel j oj cs b hoj
      have hfree' : ∀ k ok, ops[k]? = some ok → k ≠ i → (listed.setIfInBounds j true).getD k true = false →
          (∀ e ∈ ok.after, Region.binds md e = true → e.on ≠ i) → oi.apart ops ok = true := fun k ok hk hki hun hno => by
        refine hfree k ok hk hki ?_ hno
        by_cases hjk : j = k
        · subst hjk; exact hjun
        · rw [getD_set_ne true hjk] at hun; exact hun
      have on : ∀ (u : Value) (I' : World → Prop), (∀ g, wpAnyM P md ops Q fuel ((listed.setIfInBounds i true).setIfInBounds j true) ((a.put oi.dst (mk g)).put oj.dst u) fun w => I' w ∧ w.heap[g]? = some obj) →
          wpAnyM P md ops Q (fuel + 1) (listed.setIfInBounds j true) (a.put oj.dst u) I' := fun u I' hK => by
        refine ih m (listed.setIfInBounds j true) (a.put oj.dst u) I' hfree' hom2 (ready_mono hr (Ne.symm hji)) ?_ ?_ fun g => ?_
        · rw [wanted_put oi a oj.dst u h3]; exact hw
        · unfold Make1 at *; rw [execOp_put oi hsi a oj.dst u h3]; exact hk
        · rw [Array.setIfInBounds_comm _ _ hji, ← Act.put_comm a (mk g) u h2]; exact hK g
      have H1 : ∀ g, mOp P ops true j (wpAnyM P md ops Q fuel ((listed.setIfInBounds i true).setIfInBounds j true)) (a.put oi.dst (mk g)) fun w => I w ∧ w.heap[g]? = some obj := fun g => (H g).2 j (ready_mono hj hji)
      unfold mOp at H1 ⊢
      simp only [hoj, hmj, if_true] at H1 ⊢
      split
      · rename_i hwj
        have H2 : ∀ g, ∃ mk' obj', Make1 P oj (a.put oi.dst (mk g)) mk' obj' ∧ ∀ g', wpAnyM P md ops Q fuel ((listed.setIfInBounds i true).setIfInBounds j true) ((a.put oi.dst (mk g)).put oj.dst (mk' g')) fun w => (I w ∧ w.heap[g]? = some obj) ∧ w.heap[g']? = some obj' := fun g => by
          have := H1 g
          rwa [wanted_put oj a oi.dst (mk g) h1, if_pos hwj] at this
        have hmk : ∀ g mk' obj', Make1 P oj (a.put oi.dst (mk g)) mk' obj' → Make1 P oj a mk' obj' := fun g mk' obj' h => by
          unfold Make1 at *; rwa [execOp_put oj hsj a oi.dst (mk g) h1] at h
        obtain ⟨mkj, objj, k1, _⟩ := H2 0
        refine ⟨mkj, objj, hmk _ _ _ k1, fun g' => on _ _ fun g => ?_⟩
        obtain ⟨mk', obj', k1', k2⟩ := H2 g
        obtain ⟨rfl, rfl⟩ := make_same (hmk _ _ _ k1) (hmk _ _ _ k1')
        have e : (fun w : World => (I w ∧ w.heap[g']? = some obj') ∧ w.heap[g]? = some obj) = fun w => (I w ∧ w.heap[g]? = some obj) ∧ w.heap[g']? = some obj' := funext fun w => propext (and_right_comm)
        rw [e]
        exact k2 g'
      · rename_i hwj
        refine on _ _ fun g => ?_
        have := H1 g
        rwa [wanted_put oj a oi.dst (mk g) h1, if_neg hwj] at this

/-- The walk, in an order of one's own choice: true stands at an operation that comes up alone. -/
def wpM (P : Program) (ops : Array Oper) (Q : Act → World → Prop) : List (Nat × Bool) → Kont
  | [], a, I => ∀ w, I w → Q a w
  | (i, gen) :: rest, a, I => mOp P ops gen i (wpM P ops Q rest) a I

/-- The order may be chosen. -/
def orderM (md : Region.Mode) (ops : Array Oper) : List (Nat × Bool) → Array Bool → Bool
  | [], listed => (Region.ready md ops listed).isEmpty
  | (i, gen) :: rest, listed => (Region.ready md ops listed).contains i && (if gen then Region.ready md ops listed == [i] else Region.free md ops listed i && (!((ops[i]?).map isMake).getD false || onlyMakes md ops i ops.size listed)) && orderM md ops rest (listed.setIfInBounds i true)

theorem wpAnyM_order {Q : Act → World → Prop} (hs : Region.noSelect ops = true) : ∀ (l : List (Nat × Bool)) (listed : Array Bool) (a : Act) (I : World → Prop),
    orderM md ops l listed = true → wpM P ops Q l a I → wpAnyM P md ops Q l.length listed a I
  | [], _, _, _, hB, h => ⟨by simpa [orderM] using hB, h⟩
  | (i, gen) :: rest, listed, a, I, hB, h => by
    simp only [orderM, Bool.and_eq_true] at hB
    obtain ⟨⟨hr, hc⟩, hB'⟩ := hB
    have hr : i ∈ Region.ready md ops listed := by simpa using hr
    obtain ⟨_, oi, hi, _⟩ := mem_ready.1 hr
    have go := fun a' I' hK => wpAnyM_order (Q := Q) hs rest (listed.setIfInBounds i true) a' I' hB' hK
    cases gen with
    | true =>
      simp only [if_true, beq_iff_eq] at hc
      refine ⟨fun h => (by rw [h] at hr; cases hr), fun j hj => ?_⟩
      rw [hc] at hj
      obtain rfl := List.mem_singleton.1 hj
      exact mOp_mono id go h
    | false =>
      simp only [Bool.false_eq_true, if_false, Bool.and_eq_true, hi, Option.map_some, Option.getD_some, Bool.or_eq_true, Bool.not_eq_true'] at hc
      obtain ⟨hf, hmk⟩ := hc
      have hfree := Region.free_spec (md := md) hi hf
      change mOp P ops false i (wpM P ops Q rest) a I at h
      unfold mOp at h
      simp only [hi] at h
      split at h
      · rename_i hw
        split at h
        · rename_i hm
          obtain ⟨mk, obj, k1, k2⟩ := h
          rcases hmk with hmk | hmk
          · rw [hm] at hmk; cases hmk
          · exact wpAnyM_make hi hm (Region.noSelect_spec hs) rest.length ops.size listed a I hfree hmk hr hw k1 fun g => go _ _ (k2 g)
        · rename_i hm
          rcases h with ⟨v, k1, k2⟩ | ⟨hg, _⟩
          · exact wpAnyM_first hi (Region.noSelect_spec hs) rest.length listed a I hfree hr (.inl ⟨hw, by simpa using hm, k1⟩) (go _ _ k2)
          · cases hg
      · rename_i hw
        exact wpAnyM_first hi (Region.noSelect_spec hs) rest.length listed a I hfree hr (.inr ⟨by simpa using hw, rfl⟩) (go _ _ h)

/-- One walk serves every order. -/
theorem wp_region_mix {id : Nat} {Q : Exit → Act → World → Prop} {a : Act} {w : World} (l : List (Nat × Bool)) (I : World → Prop) (hm : P.follows .mixedOrders = true) (hs : Region.noSelect ops = true) (hl : l.length = ops.size)
    (hB : orderM .any ops l (Array.replicate ops.size false) = true) (hI : StableI I) (hw : I w.drew) (h : wpM P ops (Q .normal) l a I) : (Code.region id ops true).wp P Q a w :=
  wp_region_any hm (wpAny_of_M (Q := Q .normal) (fun _ _ h => h) _ _ _ I _ hI hw (by have := wpAnyM_order hs l _ a I hB h; rwa [hl] at this))

end
end Go.Proofs.YtgifflfjhockaaaGreatDoor

namespace Go.Proofs.YtgifflfjhockaaaGreatDoor
open Go.RowKit

/-- A world of a class. -/
structure KI (I : World → Prop) where
  w : World
  has : I w

section
variable {P : Program} {l tl : List Oper} {Q : Act → World → Prop} {rest : List (Nat × Bool)} {i : Nat} {gen : Bool} {o : Oper} {a : Act} {I : World → Prop}

theorem at_drop (ho : l.drop i = o :: tl) : l.toArray[i]? = some o := by
  rw [List.getElem?_toArray, ← List.head?_drop, ho]; rfl
theorem wpM_skip (ho : l.drop i = o :: tl) (hw : Region.wanted o (yielded l.toArray a.tmps) = false) (h : wpM P l.toArray Q rest (a.put o.dst undef) I) : wpM P l.toArray Q ((i, gen) :: rest) a I := by
  change mOp P l.toArray gen i (wpM P l.toArray Q rest) a I
  have ho := at_drop ho
  unfold mOp
  simp only [ho, hw, Bool.false_eq_true, if_false]
  exact h

/-- An operation that reads, reckons or calls. -/
theorem wpM_step (ho : l.drop i = o :: tl) (hm : isMake o = false) {d : Tmp} (hd : o.dst = some d) (hlt : decide (d < a.tmps.size) = true) (hw : Region.wanted o (yielded l.toArray a.tmps) = true)
    (HH : ∃ A' : Act, (∀ n : KI I, ∀ K : Act → Prop, (∀ a', a' = A' → K a') → o.quiet P a (fun w' => ∃ m : KW n.w, w' = m.w) K) ∧ a.put o.dst (A'.tmps.getD d undef) = A' ∧ wpM P l.toArray Q rest A' I) : wpM P l.toArray Q ((i, gen) :: rest) a I := by
  obtain ⟨A', H, hA, h⟩ := HH
  change mOp P l.toArray gen i (wpM P l.toArray Q rest) a I
  have ho := at_drop ho
  unfold mOp
  simp only [ho, hw, if_true, hm, Bool.false_eq_true, if_false]
  have hlt := of_decide_eq_true hlt
  have key : ∀ n : KI I, ∃ v, a.put o.dst v = A' ∧ yieldsK P o a n.w fun u w' => u = v ∧ Keep NoB n.w w' := fun n => by
    obtain ⟨v, h1, h2⟩ := H n (fun a' => a' = A') (fun _ h => h)
    refine ⟨v, h2, ?_⟩
    have h3 := h1 n.w ⟨⟨n.w, Keep.refl _ _⟩, rfl⟩
    unfold Oper.quietAt at h3
    unfold yieldsK
    generalize (execOp a.eval o).run P n.w = r at *
    cases r with
    | ok x w' =>
      cases x <;> simp only [Oper.quietUpon] at h3 <;> simp only [yieldsR]
      case value u => obtain ⟨rfl, rfl⟩ := h3; exact ⟨rfl, Keep.refl _ _⟩
      case skip => obtain ⟨rfl, rfl⟩ := h3; exact ⟨rfl, Keep.refl _ _⟩
      case enter f args =>
        obtain ⟨rfl, hc⟩ := h3
        exact hc.mono fun e w'' ⟨he, m, hm⟩ => ⟨v, he, rfl, by rw [hm]; exact m.keep⟩
    | halt x w' => simp only [Oper.quietUpon] at h3
  have val : ∀ v, a.put o.dst v = A' → v = A'.tmps.getD d undef := fun v e => by
    rw [← e, hd]
    simp [Act.put, hlt]
  refine .inl ⟨A'.tmps.getD d undef, fun w hw' => ?_, by rw [hA]; exact h⟩
  obtain ⟨v, e, hy⟩ := key ⟨w, hw'⟩
  rw [← val v e]; exact hy

/-- One that comes up alone, and yields whatever. -/
theorem wpM_gen (ho : l.drop i = o :: tl) (hm : isMake o = false) (hw : Region.wanted o (yielded l.toArray a.tmps) = true) (V : Value → World → Prop) (hV : ∀ v, StableI (V v))
    (H : ∀ n : KI I, yieldsK P o a n.w fun u w' => V u w' ∧ Keep NoB n.w w') (h : ∀ v, wpM P l.toArray Q rest (a.put o.dst v) fun w => I w ∧ V v w) : wpM P l.toArray Q ((i, true) :: rest) a I := by
  change mOp P l.toArray true i (wpM P l.toArray Q rest) a I
  have ho := at_drop ho
  unfold mOp
  simp only [ho, hw, if_true, hm, Bool.false_eq_true, if_false]
  exact .inr ⟨trivial, V, ⟨hV, fun w hw' => H ⟨w, hw'⟩⟩, h⟩

theorem wpM_nil (h : ∀ n : KI I, Q a n.w) : wpM P l.toArray Q [] a I := fun w hw => h ⟨w, hw⟩

/-! The same laws with the goal shut in a structure: a goal that is laid bare is unfolded, operation by operation, wherever one is not wanted. -/

/-- What is shut in. -/
structure Shut (p : Prop) : Prop where
  out : p

theorem shM_skip (ho : l.drop i = o :: tl) (hw : Region.wanted o (yielded l.toArray a.tmps) = false) (hu : a.put o.dst undef = a) (h : Shut (wpM P l.toArray Q rest a I)) : Shut (wpM P l.toArray Q ((i, gen) :: rest) a I) :=
  ⟨wpM_skip ho hw (by rw [hu]; exact h.out)⟩
theorem shM_step (ho : l.drop i = o :: tl) (hm : isMake o = false) {d : Tmp} (hd : o.dst = some d) (hlt : decide (d < a.tmps.size) = true) (hw : Region.wanted o (yielded l.toArray a.tmps) = true)
    (HH : ∃ A' : Act, (∀ n : KI I, ∀ K : Act → Prop, (∀ a', a' = A' → K a') → o.quiet P a (fun w' => ∃ m : KW n.w, w' = m.w) K) ∧ a.put o.dst (A'.tmps.getD d undef) = A' ∧ Shut (wpM P l.toArray Q rest A' I)) : Shut (wpM P l.toArray Q ((i, gen) :: rest) a I) :=
  ⟨wpM_step ho hm hd hlt hw (HH.imp fun _ h => ⟨h.1, h.2.1, h.2.2.out⟩)⟩
theorem shM_gen (ho : l.drop i = o :: tl) (hm : isMake o = false) (hw : Region.wanted o (yielded l.toArray a.tmps) = true) (V : Value → World → Prop) (hV : ∀ v, StableI (V v))
    (H : ∀ n : KI I, yieldsK P o a n.w fun u w' => V u w' ∧ Keep NoB n.w w') (h : ∀ v, Shut (wpM P l.toArray Q rest (a.put o.dst v) fun w => I w ∧ V v w)) : Shut (wpM P l.toArray Q ((i, true) :: rest) a I) :=
  ⟨wpM_gen ho hm hw V hV H fun v => (h v).out⟩
theorem shM_nil (h : ∀ n : KI I, Q a n.w) : Shut (wpM P l.toArray Q [] a I) := ⟨wpM_nil h⟩
theorem wp_region_sh {id : Nat} {Q : Exit → Act → World → Prop} {w : World} {ops : Array Oper} (l : List (Nat × Bool)) (I : World → Prop) (hm : P.follows .mixedOrders = true) (hs : Region.noSelect ops = true) (hl : l.length = ops.size)
    (hB : orderM .any ops l (Array.replicate ops.size false) = true) (hI : StableI I) (hw : I w.drew) (h : Shut (wpM P ops (Q .normal) l a I)) : (Code.region id ops true).wp P Q a w :=
  wp_region_mix l I hm hs hl hB hI hw h.out

end
end Go.Proofs.YtgifflfjhockaaaGreatDoor

namespace Go.Proofs.YtgifflfjhockaaaGreatDoor.O
open Go.RowKit

/-- A function value; one with a captured variable, which lies in block n. -/
abbrev fnV (f : Nat) : Value := .func (.func f) #[] #[]
abbrev boxV (f n : Nat) : Value := .func (.func f) #[] #[.pointer (some ⟨n, 0, none⟩)]
/-- Does the kind tell its numbers by digits; by words? -/
def digK (k : Int) : Bool := decide (k = 1 ∨ k = 4 ∨ k = 5 ∨ k = 6 ∨ k = 7 ∨ k = 10)
def wordK (k : Int) : Bool := decide (k = 2 ∨ k = 3 ∨ k = 8 ∨ k = 9)
/-- The functions that tell a kind's words, and read them. -/
def wordF (k : Int) : Nat := if k = 8 then 216 else if k = 9 then 218 else 214
def readF (k : Int) : Nat := if k = 8 then 217 else if k = 9 then 219 else 215

/-- An operand as a value, whatever its functions. -/
def opV (k : Int) (sh gu : Value) : Value := .agg #[.int .i64 k, .int .i64 (lo k), .int .i64 (hi k), sh, gu]
/-- The functions of a kind's operand, as they lie in memory. -/
def FnAt (k : Int) (sh gu : Value) (w : World) : Prop :=
  (k = 0 ∧ sh = .nilFunc ∧ gu = .nilFunc) ∨ (digK k = true ∧ sh = fnV 226 ∧ gu = fnV 228) ∨
    (wordK k = true ∧ ∃ b c, sh = boxV 230 b ∧ gu = boxV 231 c ∧ w.cell? ⟨b, 0, none⟩ = some (fnV (wordF k)) ∧ w.cell? ⟨c, 0, none⟩ = some (fnV (readF k)))
theorem FnAt.keep {k : Int} {sh gu : Value} {w w' : World} (h : FnAt k sh gu w) (hk : Keep NoB w w') : FnAt k sh gu w' := by
  rcases h with h | h | ⟨h, b, c, h1, h2, h3, h4⟩
  · exact .inl h
  · exact .inr (.inl h)
  · exact .inr (.inr ⟨h, b, c, h1, h2, hk.cell h3 id, hk.cell h4 id⟩)

theorem cell_far {w : World} {g b i : Nat} {u v : Value} (h : w.cell? ⟨b, 0, none⟩ = some v) (hn : g ≠ b) : (w.setCell ⟨g, i, none⟩ u).cell? ⟨b, 0, none⟩ = some v :=
  (World.cell?_of_block (Below.heap_setCell _ _ _ _ (fun e => hn e.symm))).trans h
theorem cell_far5 {w : World} {g b : Nat} {u0 u1 u2 u3 u4 v : Value} (h : w.cell? ⟨b, 0, none⟩ = some v) (hn : g ≠ b) :
    (((((w.setCell ⟨g, 0, none⟩ u0).setCell ⟨g, 1, none⟩ u1).setCell ⟨g, 2, none⟩ u2).setCell ⟨g, 3, none⟩ u3).setCell ⟨g, 4, none⟩ u4).cell? ⟨b, 0, none⟩ = some v :=
  cell_far (cell_far (cell_far (cell_far (cell_far h hn) hn) hn) hn) hn

set_option maxHeartbeats 1000000 in
theorem digits_any (k l m : Int) (w : World) :
    Calls Tryz.prog 212 #[.int .i64 k, .int .i64 l, .int .i64 m] w fun e w' => e = .returned (.agg #[.int .i64 k, .int .i64 l, .int .i64 m, fnV 226, fnV 228]) ∧ Keep NoB w w' := by
  go_enter Tryz.func212, Tryz.ntmps212
  go_wp2
  refine bodyPost_ret (v := .agg #[.int .i64 k, .int .i64 l, .int .i64 m, fnV 226, fnV 228]) (by simp [results, Tryz.results212, go_sem]) rfl ⟨rfl, (Keep.refl NoB w).alloc _⟩

set_option maxHeartbeats 1000000 in
theorem worded_any (k l m : Int) (f g : Nat) (w : World) :
    Calls Tryz.prog 213 #[.int .i64 k, .int .i64 l, .int .i64 m, fnV f, fnV g] w fun e w' => ∃ b c, e = .returned (.agg #[.int .i64 k, .int .i64 l, .int .i64 m, boxV 230 b, boxV 231 c]) ∧
      w'.cell? ⟨b, 0, none⟩ = some (fnV f) ∧ w'.cell? ⟨c, 0, none⟩ = some (fnV g) ∧ w.heap.size ≤ b ∧ w.heap.size ≤ c ∧ Keep NoB w w' := by
  go_enter Tryz.func213, Tryz.ntmps213
  go_wp2
  refine bodyPost_ret (v := .agg #[.int .i64 k, .int .i64 l, .int .i64 m, boxV 230 w.heap.size, boxV 231 (w.heap.size + 1)]) (by simp [results, Tryz.results213, go_sem]) rfl
    ⟨w.heap.size, w.heap.size + 1, rfl, by simp [go_sem], by simp [go_sem], Nat.le_refl _, Nat.le_succ _, (((Keep.refl NoB w).alloc _).alloc _).alloc _⟩

/-- What operandOf answers. -/
def OpR (k : Int) (w : World) (e : Ending) (w' : World) : Prop := ∃ sh gu, e = .returned (opV k sh gu) ∧ FnAt k sh gu w' ∧ Keep NoB w w'

set_option maxRecDepth 100000 in
set_option maxHeartbeats 4000000 in
theorem operandOf_any (k : Int) (hk : 0 ≤ k ∧ k ≤ 10) (w : World) : Calls Tryz.prog 198 #[.int .i64 k] w (OpR k w) := by
  have hK := (Keep.refl NoB w).alloc (.cells #[.int .i64 0, .int .i64 0, .int .i64 0, .nilFunc, .nilFunc] 268)
  obtain rfl | rfl | rfl | rfl | rfl | rfl | rfl | rfl | rfl | rfl | rfl : k = 0 ∨ k = 1 ∨ k = 2 ∨ k = 3 ∨ k = 4 ∨ k = 5 ∨ k = 6 ∨ k = 7 ∨ k = 8 ∨ k = 9 ∨ k = 10 := by omega
  all_goals clear hk
  · go_enter Tryz.func198, Tryz.ntmps198
    go_wp2
    exact bodyPost_ret (v := opV 0 .nilFunc .nilFunc) (by simp [results, Tryz.results198, go_sem, opV, lo, hi]) rfl ⟨_, _, rfl, .inl ⟨rfl, rfl, rfl⟩, hK⟩
  case inr.inl | inr.inr.inr.inr.inl | inr.inr.inr.inr.inr.inl | inr.inr.inr.inr.inr.inr.inl | inr.inr.inr.inr.inr.inr.inr.inl | inr.inr.inr.inr.inr.inr.inr.inr.inr.inr =>
    go_enter Tryz.func198, Tryz.ntmps198
    go_wp2_with fail
    refine (digits_any _ _ _ _).mono ?_
    rintro e w1 ⟨rfl, k1⟩
    have b1 := (Blk.new w 268 #[.int .i64 0, .int .i64 0, .int .i64 0, .nilFunc, .nilFunc]).keep k1 id
    have c0 := b1.cell 0
    have c1 := b1.cell 1
    have c2 := b1.cell 2
    have c3 := b1.cell 3
    have c4 := b1.cell 4
    have f0 := fun i => b1.frozen i
    simp at c0 c1 c2 c3 c4
    go_wp2
    exact bodyPost_ret (v := opV _ (fnV 226) (fnV 228)) (by simp [results, Tryz.results198, go_sem, opV, lo, hi, c0, c1, c2, c3, c4]) rfl
      ⟨_, _, rfl, .inr (.inl ⟨rfl, rfl, rfl⟩), (((((keepN hK k1).setCell (fun h => by simp at h) _).setCell (fun h => by simp at h) _).setCell (fun h => by simp at h) _).setCell (fun h => by simp at h) _).setCell (fun h => by simp at h) _⟩
  all_goals
    go_enter Tryz.func198, Tryz.ntmps198
    go_wp2_with fail
    refine (worded_any _ _ _ _ _ _).mono ?_
    rintro e w1 ⟨b, c, rfl, cb, cc, hb, hc, k1⟩
    have nb : w.heap.size ≠ b := by simp at hb; omega
    have nc : w.heap.size ≠ c := by simp at hc; omega
    have hC : Hid (w1.cell? ⟨b, 0, none⟩ = some _ ∧ w1.cell? ⟨c, 0, none⟩ = some _) := Lib.hid ⟨cb, cc⟩
    clear cb cc hb hc
    have b1 := (Blk.new w 268 #[.int .i64 0, .int .i64 0, .int .i64 0, .nilFunc, .nilFunc]).keep k1 id
    have c0 := b1.cell 0
    have c1 := b1.cell 1
    have c2 := b1.cell 2
    have c3 := b1.cell 3
    have c4 := b1.cell 4
    have f0 := fun i => b1.frozen i
    simp at c0 c1 c2 c3 c4
    go_wp2
    exact bodyPost_ret (v := opV _ (boxV 230 b) (boxV 231 c)) (by simp [results, Tryz.results198, go_sem, opV, lo, hi, c0, c1, c2, c3, c4]) rfl
      ⟨_, _, rfl, .inr (.inr ⟨rfl, b, c, rfl, rfl, cell_far5 hC.out.1 nb, cell_far5 hC.out.2 nc⟩), (((((keepN hK k1).setCell (fun h => by simp at h) _).setCell (fun h => by simp at h) _).setCell (fun h => by simp at h) _).setCell (fun h => by simp at h) _).setCell (fun h => by simp at h) _⟩

end Go.Proofs.YtgifflfjhockaaaGreatDoor.O

namespace Go.Proofs.YtgifflfjhockaaaGreatDoor.O
open Go.RowKit

/-- A row as a value. -/
abbrev rowV (r : Row) : Value := .agg #[.string (str r.name), .int .i64 r.ka, .int .i64 r.kb, .int .i64 r.ta, .int .i64 r.tb, .int .i64 r.la, .int .i64 r.lb, .bool r.hop, .bool r.fin]
abbrev rowZ : Array Value := #[.string ⟨#[]⟩, .int .i64 0, .int .i64 0, .int .i64 0, .int .i64 0, .int .i64 0, .int .i64 0, .bool false, .bool false]
theorem blk9 {w : World} {g : Nat} {t : TypeId} {a0 a1 a2 a3 a4 a5 a6 a7 a8 : Value} (h : Blk w g t #[a0, a1, a2, a3, a4, a5, a6, a7, a8]) :
    w.cell? ⟨g, 0, none⟩ = some a0 ∧ w.cell? ⟨g, 1, none⟩ = some a1 ∧ w.cell? ⟨g, 2, none⟩ = some a2 ∧ w.cell? ⟨g, 3, none⟩ = some a3 ∧ w.cell? ⟨g, 4, none⟩ = some a4 ∧ w.cell? ⟨g, 5, none⟩ = some a5 ∧
      w.cell? ⟨g, 6, none⟩ = some a6 ∧ w.cell? ⟨g, 7, none⟩ = some a7 ∧ w.cell? ⟨g, 8, none⟩ = some a8 := ⟨h.cell 0, h.cell 1, h.cell 2, h.cell 3, h.cell 4, h.cell 5, h.cell 6, h.cell 7, h.cell 8⟩
theorem keep9 {w w1 : World} {g : Nat} (h : Keep NoB w w1) (hg : w.heap.size ≤ g) (u0 u1 u2 u3 u4 u5 u6 u7 u8 : Value) :
    Keep NoB w (((((((((w1.setCell ⟨g, 0, none⟩ u0).setCell ⟨g, 1, none⟩ u1).setCell ⟨g, 2, none⟩ u2).setCell ⟨g, 3, none⟩ u3).setCell ⟨g, 4, none⟩ u4).setCell ⟨g, 5, none⟩ u5).setCell ⟨g, 6, none⟩ u6).setCell ⟨g, 7, none⟩ u7).setCell ⟨g, 8, none⟩ u8) := by
  have hn : ∀ i, (⟨g, i, none⟩ : Addr).block < w.heap.size → NoB (⟨g, i, none⟩ : Addr).block := fun i hl => by have : g < w.heap.size := hl; omega
  exact ((((((((h.setCell (hn 0) _).setCell (hn 1) _).setCell (hn 2) _).setCell (hn 3) _).setCell (hn 4) _).setCell (hn 5) _).setCell (hn 6) _).setCell (hn 7) _).setCell (hn 8) _

set_option maxRecDepth 100000 in
set_option maxHeartbeats 4000000 in
theorem rowOf_any (op : Int) (r : Row) (w : World) (hr : Hid (rowAt op = r)) :
    Calls Tryz.prog 208 #[.int .i64 op] w fun e w' => e = .returned (.tuple #[rowV r, .bool (isOp op)]) ∧ Keep NoB w w' := by
  have hK := (Keep.refl NoB w).alloc (.cells rowZ 259)
  cases ho : isOp op
  · have hb := isOp_no ho
    have hr0 := hr.out
    rw [rowAt_no ho] at hr0
    subst hr0
    clear ho hr
    by_cases h0 : op < 0
    · clear hb
      go_enter Tryz.func208, Tryz.ntmps208
      go_wp2
      exact bodyPost_ret (v := .tuple #[rowV row0, .bool false]) (by simp [results, Tryz.results208, go_sem, row0]) rfl ⟨rfl, hK⟩
    · have h0' : decide (op < 0) = false := by simpa using h0
      have h1 : 30 ≤ op := by omega
      clear hb
      go_enter Tryz.func208, Tryz.ntmps208
      go_wp2
      exact bodyPost_ret (v := .tuple #[rowV row0, .bool false]) (by simp [results, Tryz.results208, go_sem, row0]) rfl ⟨rfl, hK⟩
  · obtain ⟨h0, h1⟩ := isOp_yes ho
    have hix : ∀ w, (Instr.index 300 (.agg tableC) (.int .i64 op)).run Tryz.prog w = .ok (rowV r) w := fun w => by
      have := run_index_row op ho w
      rw [hr.out] at this
      exact this
    clear ho hr
    have h0' : decide (op < 0) = false := by simpa using h0
    have h1' : decide (30 ≤ op) = false := by simpa using h1
    go_enter Tryz.func208, Tryz.ntmps208
    go_wp2_with fail
    refine (table_any _).mono ?_
    rintro e w1 ⟨rfl, k1⟩
    have b1 := (Blk.new w 259 rowZ).keep k1 id
    have f0 := fun i => b1.frozen i
    obtain ⟨c0, c1, c2, c3, c4, c5, c6, c7, c8⟩ := blk9 b1
    have hz := b1.lt
    go_wp2
    exact bodyPost_ret (v := .tuple #[rowV r, .bool true]) (by simp [results, Tryz.results208, go_sem, c0, c1, c2, c3, c4, c5, c6, c7, c8]) rfl ⟨rfl, keep9 (keepN hK k1) (Nat.le_refl _) _ _ _ _ _ _ _ _ _⟩

set_option maxHeartbeats 1000000 in
theorem has_any (k n : Int) (v : Value) (w : World) (hv : ∃ sh gu, v = opV k sh gu) :
    Calls Tryz.prog 209 #[v, .int .i64 n] w fun e w' => e = .returned (.bool (inK k n)) ∧ Keep NoB w w' := by
  obtain ⟨sh, gu, rfl⟩ := hv
  unfold opV
  by_cases h1 : lo k ≤ n
  · by_cases h2 : n ≤ hi k
    · have HX : Hid (inK k n = true) := decide_eq_true ⟨h1, h2⟩
      go_enter Tryz.func209, Tryz.ntmps209
      go_wp2
      go_ret
      exact ⟨by rw [HX.out]; rfl, (Keep.refl NoB w).alloc _⟩
    · have HX : Hid (inK k n = false) := decide_eq_false fun h => h2 h.2
      have h2' : decide (n ≤ hi k) = false := by simpa using h2
      clear h2
      go_enter Tryz.func209, Tryz.ntmps209
      go_wp2
      go_ret
      exact ⟨by rw [HX.out]; rfl, (Keep.refl NoB w).alloc _⟩
  · have HX : Hid (inK k n = false) := decide_eq_false fun h => h1 h.1
    have h1' : decide (lo k ≤ n) = false := by simpa using h1
    clear h1
    go_enter Tryz.func209, Tryz.ntmps209
    go_wp2
    go_ret
    exact ⟨by rw [HX.out]; rfl, (Keep.refl NoB w).alloc _⟩

end Go.Proofs.YtgifflfjhockaaaGreatDoor.O

namespace Go.Proofs.YtgifflfjhockaaaGreatDoor.O
open Go.RowKit

/-- An instruction as a value. -/
abbrev instV (op a b : Int) : Value := .agg #[.int .i64 op, .int .i64 a, .int .i64 b]
/-- The row of an instruction, if that may be. -/
def rowR (op a b : Int) : Row := if okI op a b = true then rowAt op else row0
theorem rowR_ok {op a b : Int} (h : okI op a b = true) : rowR op a b = rowAt op := by unfold rowR; rw [if_pos h]
theorem rowR_no {op a b : Int} (h : okI op a b = false) : rowR op a b = row0 := by unfold rowR; rw [if_neg (by rw [h]; decide)]
theorem kinds_ok (op : Int) : 0 ≤ (rowAt op).ka ∧ (rowAt op).ka ≤ 10 ∧ 0 ≤ (rowAt op).kb ∧ (rowAt op).kb ≤ 10 := by
  have := rowAt_all (p := fun r => decide (0 ≤ r.ka ∧ r.ka ≤ 10 ∧ 0 ≤ r.kb ∧ r.kb ≤ 10)) (by decide) (by decide) op
  simpa using this

theorem has_gen (k n : Int) (v : Value) (t : Bool) (w : World) (ht : inK k n = t) (hv : ∃ sh gu, v = opV k sh gu) :
    Calls Tryz.prog 209 #[v, .int .i64 n] w fun e w' => e = .returned (.bool t) ∧ Keep NoB w w' := by
  subst ht; exact has_any k n v w hv
theorem op_gen (k : Int) (hk : 0 ≤ k ∧ k ≤ 10) (w : World) :
    Calls Tryz.prog 198 #[.int .i64 k] w fun e w' => ∃ u, e = .returned u ∧ (∃ sh gu, u = opV k sh gu) ∧ Keep NoB w w' :=
  (operandOf_any k hk w).mono fun _ _ ⟨sh, gu, he, _, hk⟩ => ⟨_, he, ⟨sh, gu, rfl⟩, hk⟩
abbrev cells9 (q : Row) : Array Value := #[.string (str q.name), .int .i64 q.ka, .int .i64 q.kb, .int .i64 q.ta, .int .i64 q.tb, .int .i64 q.la, .int .i64 q.lb, .bool q.hop, .bool q.fin]

/-- What rowFor answers. -/
def ForR (q : Row) (t : Bool) (w : World) (e : Ending) (w' : World) : Prop := e = .returned (.tuple #[rowV q, .bool t]) ∧ Keep NoB w w'

set_option maxRecDepth 100000 in
set_option maxHeartbeats 1000000 in
theorem rowFor_a (op a b : Int) (q : Row) (w : World) (HQ : Hid (rowAt op = q)) (HI : Hid (isOp op = false)) :
    Calls Tryz.prog 193 #[instV op a b] w (ForR row0 false w) := by
  go_enter Tryz.func193, Tryz.ntmps193
  go_wp2_with fail
  refine (rowOf_any op q _ HQ).mono ?_
  rw [HI.out]
  rintro e w1 ⟨rfl, k1⟩
  have bx := ((Blk.new w 63 #[.int .i64 op, .int .i64 a, .int .i64 b]).alloc (.cells rowZ 259)).keep k1 id
  have br := (Blk.new (w.alloc (.cells #[.int .i64 op, .int .i64 a, .int .i64 b] 63)) 259 rowZ).keep k1 id
  rw [World.size_alloc] at br
  have hK := keepN (((Keep.refl NoB w).alloc _).alloc _) k1
  have hz := br.lt
  go_wp2_with fail
  have b2 := Blk.new w1 259 #[.string (str q.name), .int .i64 q.ka, .int .i64 q.kb, .int .i64 q.ta, .int .i64 q.tb, .int .i64 q.la, .int .i64 q.lb, .bool q.hop, .bool q.fin]
  have bx2 := bx.alloc (.cells #[.string (str q.name), .int .i64 q.ka, .int .i64 q.kb, .int .i64 q.ta, .int .i64 q.tb, .int .i64 q.la, .int .i64 q.lb, .bool q.hop, .bool q.fin] 259)
  have br2 := br.alloc (.cells #[.string (str q.name), .int .i64 q.ka, .int .i64 q.kb, .int .i64 q.ta, .int .i64 q.tb, .int .i64 q.la, .int .i64 q.lb, .bool q.hop, .bool q.fin] 259)
  have hK2 := hK.alloc (.cells #[.string (str q.name), .int .i64 q.ka, .int .i64 q.kb, .int .i64 q.ta, .int .i64 q.tb, .int .i64 q.la, .int .i64 q.lb, .bool q.hop, .bool q.fin] 259)
  obtain ⟨w2, hw2⟩ : ∃ w2, w1.alloc (.cells #[.string (str q.name), .int .i64 q.ka, .int .i64 q.kb, .int .i64 q.ta, .int .i64 q.tb, .int .i64 q.la, .int .i64 q.lb, .bool q.hop, .bool q.fin] 259) = w2 := ⟨_, rfl⟩
  rw [hw2] at b2 bx2 br2 hK2
  have HW := Lib.hid hw2
  rw [hw2]
  clear hw2 bx br hK k1
  · refine wp_region_sh ((0, false) :: (1, false) :: (2, false) :: (3, false) :: (4, false) :: (5, false) :: (7, false) :: (8, false) :: (6, true) :: (9, false) :: (10, false) :: (11, false) :: (12, false) :: (13, false) :: (14, false) :: (15, false) :: (17, false) :: (18, false) :: (16, true) :: (19, false) :: (20, false) :: (21, false) :: []) (fun w' => Keep NoB w2 w') (by kernel_rfl) (by kernel_rfl) (by rfl) (by kernel_rfl) (stable_keep w2) (Keep.refl NoB w2).drew ?_
    refine shM_step rfl rfl rfl (by rfl) (by rfl) ?_
    apply Exists.intro
    refine ⟨fun n K hK => ?_, ?_, ?_⟩
    · go_big_quiet_op
      exact hK _ rfl
    · kernel_rfl
    refine shM_step rfl rfl rfl (by rfl) (by rfl) ?_
    apply Exists.intro
    refine ⟨fun n K hK => ?_, ?_, ?_⟩
    · go_big_quiet_op
      exact hK _ rfl
    · kernel_rfl
    refine shM_step rfl rfl rfl (by rfl) (by rfl) ?_
    apply Exists.intro
    refine ⟨fun n K hK => ?_, ?_, ?_⟩
    · go_big_quiet_op
      exact hK _ rfl
    · kernel_rfl
    refine shM_skip rfl (by kernel_rfl) (by kernel_rfl) ?_
    refine shM_skip rfl (by kernel_rfl) (by kernel_rfl) ?_
    refine shM_skip rfl (by kernel_rfl) (by kernel_rfl) ?_
    refine shM_skip rfl (by kernel_rfl) (by kernel_rfl) ?_
    refine shM_skip rfl (by kernel_rfl) (by kernel_rfl) ?_
    refine shM_skip rfl (by kernel_rfl) (by kernel_rfl) ?_
    refine shM_skip rfl (by kernel_rfl) (by kernel_rfl) ?_
    refine shM_skip rfl (by kernel_rfl) (by kernel_rfl) ?_
    refine shM_step rfl rfl rfl (by rfl) (by rfl) ?_
    apply Exists.intro
    refine ⟨fun n K hK => ?_, ?_, ?_⟩
    · go_big_quiet_op
      exact hK _ rfl
    · kernel_rfl
    refine shM_step rfl rfl rfl (by rfl) (by rfl) ?_
    apply Exists.intro
    refine ⟨fun n K hK => ?_, ?_, ?_⟩
    · go_big_quiet_op
      exact hK _ rfl
    · kernel_rfl
    refine shM_skip rfl (by kernel_rfl) (by kernel_rfl) ?_
    refine shM_skip rfl (by kernel_rfl) (by kernel_rfl) ?_
    refine shM_skip rfl (by kernel_rfl) (by kernel_rfl) ?_
    refine shM_skip rfl (by kernel_rfl) (by kernel_rfl) ?_
    refine shM_skip rfl (by kernel_rfl) (by kernel_rfl) ?_
    refine shM_skip rfl (by kernel_rfl) (by kernel_rfl) ?_
    refine shM_skip rfl (by kernel_rfl) (by kernel_rfl) ?_
    refine shM_skip rfl (by kernel_rfl) (by kernel_rfl) ?_
    refine shM_step rfl rfl rfl (by rfl) (by rfl) ?_
    apply Exists.intro
    refine ⟨fun n K hK => ?_, ?_, ?_⟩
    · go_big_quiet_op
      exact hK _ rfl
    · kernel_rfl
    refine shM_nil (fun n => ?_)
    have k3 := n.has
    generalize n.w = w3 at k3 ⊢
    have b3 := b2.keep k3 id
    have br3 := br2.keep k3 id
    have hK3 := keepN hK2 k3
    have f0 := fun i => br3.frozen i
    obtain ⟨c0, c1, c2, c3, c4, c5, c6, c7, c8⟩ := blk9 br3
    have hz3 := br3.lt
    clear k3 b2 br2 hK2 bx2
    go_wp2
    exact bodyPost_ret (v := .tuple #[rowV row0, .bool false]) (by simp [results, Tryz.results193, go_sem, c0, c1, c2, c3, c4, c5, c6, c7, c8, row0]) rfl ⟨rfl, keep9 hK3 (Nat.le_succ _) _ _ _ _ _ _ _ _ _⟩

set_option maxRecDepth 100000 in
set_option maxHeartbeats 1000000 in
theorem rowFor_b (op a b : Int) (q : Row) (w : World) (HQ : Hid (rowAt op = q)) (HI : Hid (isOp op = true)) (HA : Hid (inK q.ka a = false)) (hka : 0 ≤ q.ka ∧ q.ka ≤ 10) :
    Calls Tryz.prog 193 #[instV op a b] w (ForR row0 false w) := by
  go_enter Tryz.func193, Tryz.ntmps193
  go_wp2_with fail
  refine (rowOf_any op q _ HQ).mono ?_
  rw [HI.out]
  rintro e w1 ⟨rfl, k1⟩
  have bx := ((Blk.new w 63 #[.int .i64 op, .int .i64 a, .int .i64 b]).alloc (.cells rowZ 259)).keep k1 id
  have br := (Blk.new (w.alloc (.cells #[.int .i64 op, .int .i64 a, .int .i64 b] 63)) 259 rowZ).keep k1 id
  rw [World.size_alloc] at br
  have hK := keepN (((Keep.refl NoB w).alloc _).alloc _) k1
  have hz := br.lt
  go_wp2_with fail
  have b2 := Blk.new w1 259 #[.string (str q.name), .int .i64 q.ka, .int .i64 q.kb, .int .i64 q.ta, .int .i64 q.tb, .int .i64 q.la, .int .i64 q.lb, .bool q.hop, .bool q.fin]
  have bx2 := bx.alloc (.cells #[.string (str q.name), .int .i64 q.ka, .int .i64 q.kb, .int .i64 q.ta, .int .i64 q.tb, .int .i64 q.la, .int .i64 q.lb, .bool q.hop, .bool q.fin] 259)
  have br2 := br.alloc (.cells #[.string (str q.name), .int .i64 q.ka, .int .i64 q.kb, .int .i64 q.ta, .int .i64 q.tb, .int .i64 q.la, .int .i64 q.lb, .bool q.hop, .bool q.fin] 259)
  have hK2 := hK.alloc (.cells #[.string (str q.name), .int .i64 q.ka, .int .i64 q.kb, .int .i64 q.ta, .int .i64 q.tb, .int .i64 q.la, .int .i64 q.lb, .bool q.hop, .bool q.fin] 259)
  obtain ⟨w2, hw2⟩ : ∃ w2, w1.alloc (.cells #[.string (str q.name), .int .i64 q.ka, .int .i64 q.kb, .int .i64 q.ta, .int .i64 q.tb, .int .i64 q.la, .int .i64 q.lb, .bool q.hop, .bool q.fin] 259) = w2 := ⟨_, rfl⟩
  rw [hw2] at b2 bx2 br2 hK2
  have HW := Lib.hid hw2
  rw [hw2]
  clear hw2 bx br hK k1
  · refine wp_region_sh ((0, false) :: (1, false) :: (2, false) :: (3, false) :: (4, false) :: (5, false) :: (7, false) :: (8, false) :: (6, true) :: (9, false) :: (10, false) :: (11, false) :: (12, false) :: (13, false) :: (14, false) :: (15, false) :: (17, false) :: (18, false) :: (16, true) :: (19, false) :: (20, false) :: (21, false) :: []) (fun w' => Keep NoB w2 w') (by kernel_rfl) (by kernel_rfl) (by rfl) (by kernel_rfl) (stable_keep w2) (Keep.refl NoB w2).drew ?_
    refine shM_step rfl rfl rfl (by rfl) (by rfl) ?_
    apply Exists.intro
    refine ⟨fun n K hK => ?_, ?_, ?_⟩
    · go_big_quiet_op
      exact hK _ rfl
    · kernel_rfl
    refine shM_step rfl rfl rfl (by rfl) (by rfl) ?_
    apply Exists.intro
    refine ⟨fun n K hK => ?_, ?_, ?_⟩
    · go_big_quiet_op
      exact hK _ rfl
    · kernel_rfl
    refine shM_step rfl rfl rfl (by rfl) (by rfl) ?_
    apply Exists.intro
    refine ⟨fun n K hK => ?_, ?_, ?_⟩
    · go_big_quiet_op
      exact hK _ rfl
    · kernel_rfl
    refine shM_step rfl rfl rfl (by rfl) (by rfl) ?_
    apply Exists.intro
    refine ⟨fun n K hK => ?_, ?_, ?_⟩
    · go_big_quiet_op
      exact hK _ rfl
    · kernel_rfl
    refine shM_step rfl rfl rfl (by rfl) (by rfl) ?_
    apply Exists.intro
    refine ⟨fun n K hK => ?_, ?_, ?_⟩
    · go_big_quiet_op
      exact hK _ rfl
    · kernel_rfl
    refine shM_step rfl rfl rfl (by rfl) (by rfl) ?_
    apply Exists.intro
    refine ⟨fun n K hK => ?_, ?_, ?_⟩
    · have q1 : ∀ m : KW n.w, m.w.cell? ⟨w1.heap.size, 1, none⟩ = some (.int .i64 q.ka) := fun m => (b2.keep (keepN n.has m.keep) id).cell 1
      go_big_quiet_op
      exact hK _ rfl
    · kernel_rfl
    refine shM_step rfl rfl rfl (by rfl) (by rfl) ?_
    apply Exists.intro
    refine ⟨fun n K hK => ?_, ?_, ?_⟩
    · go_big_quiet_op
      exact hK _ rfl
    · kernel_rfl
    refine shM_step rfl rfl rfl (by rfl) (by rfl) ?_
    apply Exists.intro
    refine ⟨fun n K hK => ?_, ?_, ?_⟩
    · have x1 : ∀ m : KW n.w, m.w.cell? ⟨w.heap.size, 1, none⟩ = some (.int .i64 a) := fun m => (bx2.keep (keepN n.has m.keep) id).cell 1
      go_big_quiet_op
      exact hK _ rfl
    · kernel_rfl
    refine shM_gen rfl rfl (by kernel_rfl) (fun v _ => ∃ sh gu, v = opV q.ka sh gu) (fun v w w' h _ => h) (fun n => ?_) (fun v1 => ?_)
    · unfold yieldsK
      go_simp
      exact op_gen q.ka hka _
    simp only [Act.put, List.setIfInBounds_toArray, List.set_cons_zero, List.set_cons_succ]
    refine shM_step rfl rfl rfl (by rfl) (by rfl) ?_
    apply Exists.intro
    refine ⟨fun n K hK => ?_, ?_, ?_⟩
    · go_big_quiet_op
      apply Exists.intro
      refine ⟨fun m => ?_, ?_⟩
      · go_at_call 209
        exact kept_of (has_gen q.ka a v1 false _ HA.out n.has.2)
      · exact hK _ rfl
    · kernel_rfl
    refine shM_step rfl rfl rfl (by rfl) (by rfl) ?_
    apply Exists.intro
    refine ⟨fun n K hK => ?_, ?_, ?_⟩
    · go_big_quiet_op
      exact hK _ rfl
    · kernel_rfl
    refine shM_step rfl rfl rfl (by rfl) (by rfl) ?_
    apply Exists.intro
    refine ⟨fun n K hK => ?_, ?_, ?_⟩
    · go_big_quiet_op
      exact hK _ rfl
    · kernel_rfl
    refine shM_step rfl rfl rfl (by rfl) (by rfl) ?_
    apply Exists.intro
    refine ⟨fun n K hK => ?_, ?_, ?_⟩
    · go_big_quiet_op
      exact hK _ rfl
    · kernel_rfl
    refine shM_skip rfl (by kernel_rfl) (by kernel_rfl) ?_
    refine shM_skip rfl (by kernel_rfl) (by kernel_rfl) ?_
    refine shM_skip rfl (by kernel_rfl) (by kernel_rfl) ?_
    refine shM_skip rfl (by kernel_rfl) (by kernel_rfl) ?_
    refine shM_skip rfl (by kernel_rfl) (by kernel_rfl) ?_
    refine shM_skip rfl (by kernel_rfl) (by kernel_rfl) ?_
    refine shM_skip rfl (by kernel_rfl) (by kernel_rfl) ?_
    refine shM_skip rfl (by kernel_rfl) (by kernel_rfl) ?_
    refine shM_step rfl rfl rfl (by rfl) (by rfl) ?_
    apply Exists.intro
    refine ⟨fun n K hK => ?_, ?_, ?_⟩
    · go_big_quiet_op
      exact hK _ rfl
    · kernel_rfl
    refine shM_nil (fun n => ?_)
    have k3 := n.has.1
    generalize n.w = w3 at k3 ⊢
    have b3 := b2.keep k3 id
    have br3 := br2.keep k3 id
    have hK3 := keepN hK2 k3
    have f0 := fun i => br3.frozen i
    obtain ⟨c0, c1, c2, c3, c4, c5, c6, c7, c8⟩ := blk9 br3
    have hz3 := br3.lt
    clear k3 b2 br2 hK2 bx2
    go_wp2
    exact bodyPost_ret (v := .tuple #[rowV row0, .bool false]) (by simp [results, Tryz.results193, go_sem, c0, c1, c2, c3, c4, c5, c6, c7, c8, row0]) rfl ⟨rfl, keep9 hK3 (Nat.le_succ _) _ _ _ _ _ _ _ _ _⟩

set_option maxRecDepth 100000 in
set_option maxHeartbeats 1000000 in
theorem rowFor_c (op a b : Int) (q : Row) (w : World) (HQ : Hid (rowAt op = q)) (HI : Hid (isOp op = true)) (HA : Hid (inK q.ka a = true)) (HB : Hid (inK q.kb b = false)) (hka : 0 ≤ q.ka ∧ q.ka ≤ 10) (hkb : 0 ≤ q.kb ∧ q.kb ≤ 10) :
    Calls Tryz.prog 193 #[instV op a b] w (ForR row0 false w) := by
  go_enter Tryz.func193, Tryz.ntmps193
  go_wp2_with fail
  refine (rowOf_any op q _ HQ).mono ?_
  rw [HI.out]
  rintro e w1 ⟨rfl, k1⟩
  have bx := ((Blk.new w 63 #[.int .i64 op, .int .i64 a, .int .i64 b]).alloc (.cells rowZ 259)).keep k1 id
  have br := (Blk.new (w.alloc (.cells #[.int .i64 op, .int .i64 a, .int .i64 b] 63)) 259 rowZ).keep k1 id
  rw [World.size_alloc] at br
  have hK := keepN (((Keep.refl NoB w).alloc _).alloc _) k1
  have hz := br.lt
  go_wp2_with fail
  have b2 := Blk.new w1 259 #[.string (str q.name), .int .i64 q.ka, .int .i64 q.kb, .int .i64 q.ta, .int .i64 q.tb, .int .i64 q.la, .int .i64 q.lb, .bool q.hop, .bool q.fin]
  have bx2 := bx.alloc (.cells #[.string (str q.name), .int .i64 q.ka, .int .i64 q.kb, .int .i64 q.ta, .int .i64 q.tb, .int .i64 q.la, .int .i64 q.lb, .bool q.hop, .bool q.fin] 259)
  have br2 := br.alloc (.cells #[.string (str q.name), .int .i64 q.ka, .int .i64 q.kb, .int .i64 q.ta, .int .i64 q.tb, .int .i64 q.la, .int .i64 q.lb, .bool q.hop, .bool q.fin] 259)
  have hK2 := hK.alloc (.cells #[.string (str q.name), .int .i64 q.ka, .int .i64 q.kb, .int .i64 q.ta, .int .i64 q.tb, .int .i64 q.la, .int .i64 q.lb, .bool q.hop, .bool q.fin] 259)
  obtain ⟨w2, hw2⟩ : ∃ w2, w1.alloc (.cells #[.string (str q.name), .int .i64 q.ka, .int .i64 q.kb, .int .i64 q.ta, .int .i64 q.tb, .int .i64 q.la, .int .i64 q.lb, .bool q.hop, .bool q.fin] 259) = w2 := ⟨_, rfl⟩
  rw [hw2] at b2 bx2 br2 hK2
  have HW := Lib.hid hw2
  rw [hw2]
  clear hw2 bx br hK k1
  · refine wp_region_sh ((0, false) :: (1, false) :: (2, false) :: (3, false) :: (4, false) :: (5, false) :: (7, false) :: (8, false) :: (6, true) :: (9, false) :: (10, false) :: (11, false) :: (12, false) :: (13, false) :: (14, false) :: (15, false) :: (17, false) :: (18, false) :: (16, true) :: (19, false) :: (20, false) :: (21, false) :: []) (fun w' => Keep NoB w2 w') (by kernel_rfl) (by kernel_rfl) (by rfl) (by kernel_rfl) (stable_keep w2) (Keep.refl NoB w2).drew ?_
    refine shM_step rfl rfl rfl (by rfl) (by rfl) ?_
    apply Exists.intro
    refine ⟨fun n K hK => ?_, ?_, ?_⟩
    · go_big_quiet_op
      exact hK _ rfl
    · kernel_rfl
    refine shM_step rfl rfl rfl (by rfl) (by rfl) ?_
    apply Exists.intro
    refine ⟨fun n K hK => ?_, ?_, ?_⟩
    · go_big_quiet_op
      exact hK _ rfl
    · kernel_rfl
    refine shM_step rfl rfl rfl (by rfl) (by rfl) ?_
    apply Exists.intro
    refine ⟨fun n K hK => ?_, ?_, ?_⟩
    · go_big_quiet_op
      exact hK _ rfl
    · kernel_rfl
    refine shM_step rfl rfl rfl (by rfl) (by rfl) ?_
    apply Exists.intro
    refine ⟨fun n K hK => ?_, ?_, ?_⟩
    · go_big_quiet_op
      exact hK _ rfl
    · kernel_rfl
    refine shM_step rfl rfl rfl (by rfl) (by rfl) ?_
    apply Exists.intro
    refine ⟨fun n K hK => ?_, ?_, ?_⟩
    · go_big_quiet_op
      exact hK _ rfl
    · kernel_rfl
    refine shM_step rfl rfl rfl (by rfl) (by rfl) ?_
    apply Exists.intro
    refine ⟨fun n K hK => ?_, ?_, ?_⟩
    · have q1 : ∀ m : KW n.w, m.w.cell? ⟨w1.heap.size, 1, none⟩ = some (.int .i64 q.ka) := fun m => (b2.keep (keepN n.has m.keep) id).cell 1
      go_big_quiet_op
      exact hK _ rfl
    · kernel_rfl
    refine shM_step rfl rfl rfl (by rfl) (by rfl) ?_
    apply Exists.intro
    refine ⟨fun n K hK => ?_, ?_, ?_⟩
    · go_big_quiet_op
      exact hK _ rfl
    · kernel_rfl
    refine shM_step rfl rfl rfl (by rfl) (by rfl) ?_
    apply Exists.intro
    refine ⟨fun n K hK => ?_, ?_, ?_⟩
    · have x1 : ∀ m : KW n.w, m.w.cell? ⟨w.heap.size, 1, none⟩ = some (.int .i64 a) := fun m => (bx2.keep (keepN n.has m.keep) id).cell 1
      go_big_quiet_op
      exact hK _ rfl
    · kernel_rfl
    refine shM_gen rfl rfl (by kernel_rfl) (fun v _ => ∃ sh gu, v = opV q.ka sh gu) (fun v w w' h _ => h) (fun n => ?_) (fun v1 => ?_)
    · unfold yieldsK
      go_simp
      exact op_gen q.ka hka _
    simp only [Act.put, List.setIfInBounds_toArray, List.set_cons_zero, List.set_cons_succ]
    refine shM_step rfl rfl rfl (by rfl) (by rfl) ?_
    apply Exists.intro
    refine ⟨fun n K hK => ?_, ?_, ?_⟩
    · go_big_quiet_op
      apply Exists.intro
      refine ⟨fun m => ?_, ?_⟩
      · go_at_call 209
        exact kept_of (has_gen q.ka a v1 true _ HA.out n.has.2)
      · exact hK _ rfl
    · kernel_rfl
    refine shM_step rfl rfl rfl (by rfl) (by rfl) ?_
    apply Exists.intro
    refine ⟨fun n K hK => ?_, ?_, ?_⟩
    · go_big_quiet_op
      exact hK _ rfl
    · kernel_rfl
    refine shM_step rfl rfl rfl (by rfl) (by rfl) ?_
    apply Exists.intro
    refine ⟨fun n K hK => ?_, ?_, ?_⟩
    · go_big_quiet_op
      exact hK _ rfl
    · kernel_rfl
    refine shM_step rfl rfl rfl (by rfl) (by rfl) ?_
    apply Exists.intro
    refine ⟨fun n K hK => ?_, ?_, ?_⟩
    · go_big_quiet_op
      exact hK _ rfl
    · kernel_rfl
    refine shM_step rfl rfl rfl (by rfl) (by rfl) ?_
    apply Exists.intro
    refine ⟨fun n K hK => ?_, ?_, ?_⟩
    · go_big_quiet_op
      exact hK _ rfl
    · kernel_rfl
    refine shM_step rfl rfl rfl (by rfl) (by rfl) ?_
    apply Exists.intro
    refine ⟨fun n K hK => ?_, ?_, ?_⟩
    · go_big_quiet_op
      exact hK _ rfl
    · kernel_rfl
    refine shM_step rfl rfl rfl (by rfl) (by rfl) ?_
    apply Exists.intro
    refine ⟨fun n K hK => ?_, ?_, ?_⟩
    · have q1 : ∀ m : KW n.w, m.w.cell? ⟨w1.heap.size, 2, none⟩ = some (.int .i64 q.kb) := fun m => (b2.keep (keepN n.has.1 m.keep) id).cell 2
      go_big_quiet_op
      exact hK _ rfl
    · kernel_rfl
    refine shM_step rfl rfl rfl (by rfl) (by rfl) ?_
    apply Exists.intro
    refine ⟨fun n K hK => ?_, ?_, ?_⟩
    · go_big_quiet_op
      exact hK _ rfl
    · kernel_rfl
    refine shM_step rfl rfl rfl (by rfl) (by rfl) ?_
    apply Exists.intro
    refine ⟨fun n K hK => ?_, ?_, ?_⟩
    · have x1 : ∀ m : KW n.w, m.w.cell? ⟨w.heap.size, 2, none⟩ = some (.int .i64 b) := fun m => (bx2.keep (keepN n.has.1 m.keep) id).cell 2
      go_big_quiet_op
      exact hK _ rfl
    · kernel_rfl
    refine shM_gen rfl rfl (by kernel_rfl) (fun v _ => ∃ sh gu, v = opV q.kb sh gu) (fun v w w' h _ => h) (fun n => ?_) (fun v2 => ?_)
    · unfold yieldsK
      go_simp
      exact op_gen q.kb hkb _
    simp only [Act.put, List.setIfInBounds_toArray, List.set_cons_zero, List.set_cons_succ]
    refine shM_step rfl rfl rfl (by rfl) (by rfl) ?_
    apply Exists.intro
    refine ⟨fun n K hK => ?_, ?_, ?_⟩
    · go_big_quiet_op
      apply Exists.intro
      refine ⟨fun m => ?_, ?_⟩
      · go_at_call 209
        exact kept_of (has_gen q.kb b v2 false _ HB.out n.has.2)
      · exact hK _ rfl
    · kernel_rfl
    refine shM_step rfl rfl rfl (by rfl) (by rfl) ?_
    apply Exists.intro
    refine ⟨fun n K hK => ?_, ?_, ?_⟩
    · go_big_quiet_op
      exact hK _ rfl
    · kernel_rfl
    refine shM_step rfl rfl rfl (by rfl) (by rfl) ?_
    apply Exists.intro
    refine ⟨fun n K hK => ?_, ?_, ?_⟩
    · go_big_quiet_op
      exact hK _ rfl
    · kernel_rfl
    refine shM_nil (fun n => ?_)
    have k3 := n.has.1.1
    generalize n.w = w3 at k3 ⊢
    have b3 := b2.keep k3 id
    have br3 := br2.keep k3 id
    have hK3 := keepN hK2 k3
    have f0 := fun i => br3.frozen i
    obtain ⟨c0, c1, c2, c3, c4, c5, c6, c7, c8⟩ := blk9 br3
    have hz3 := br3.lt
    clear k3 b2 br2 hK2 bx2
    go_wp2
    exact bodyPost_ret (v := .tuple #[rowV row0, .bool false]) (by simp [results, Tryz.results193, go_sem, c0, c1, c2, c3, c4, c5, c6, c7, c8, row0]) rfl ⟨rfl, keep9 hK3 (Nat.le_succ _) _ _ _ _ _ _ _ _ _⟩

set_option maxRecDepth 100000 in
set_option maxHeartbeats 1000000 in
theorem rowFor_d (op a b : Int) (q : Row) (w : World) (HQ : Hid (rowAt op = q)) (HI : Hid (isOp op = true)) (HA : Hid (inK q.ka a = true)) (HB : Hid (inK q.kb b = true)) (hka : 0 ≤ q.ka ∧ q.ka ≤ 10) (hkb : 0 ≤ q.kb ∧ q.kb ≤ 10) :
    Calls Tryz.prog 193 #[instV op a b] w (ForR q true w) := by
  go_enter Tryz.func193, Tryz.ntmps193
  go_wp2_with fail
  refine (rowOf_any op q _ HQ).mono ?_
  rw [HI.out]
  rintro e w1 ⟨rfl, k1⟩
  have bx := ((Blk.new w 63 #[.int .i64 op, .int .i64 a, .int .i64 b]).alloc (.cells rowZ 259)).keep k1 id
  have br := (Blk.new (w.alloc (.cells #[.int .i64 op, .int .i64 a, .int .i64 b] 63)) 259 rowZ).keep k1 id
  rw [World.size_alloc] at br
  have hK := keepN (((Keep.refl NoB w).alloc _).alloc _) k1
  have hz := br.lt
  go_wp2_with fail
  have b2 := Blk.new w1 259 #[.string (str q.name), .int .i64 q.ka, .int .i64 q.kb, .int .i64 q.ta, .int .i64 q.tb, .int .i64 q.la, .int .i64 q.lb, .bool q.hop, .bool q.fin]
  have bx2 := bx.alloc (.cells #[.string (str q.name), .int .i64 q.ka, .int .i64 q.kb, .int .i64 q.ta, .int .i64 q.tb, .int .i64 q.la, .int .i64 q.lb, .bool q.hop, .bool q.fin] 259)
  have br2 := br.alloc (.cells #[.string (str q.name), .int .i64 q.ka, .int .i64 q.kb, .int .i64 q.ta, .int .i64 q.tb, .int .i64 q.la, .int .i64 q.lb, .bool q.hop, .bool q.fin] 259)
  have hK2 := hK.alloc (.cells #[.string (str q.name), .int .i64 q.ka, .int .i64 q.kb, .int .i64 q.ta, .int .i64 q.tb, .int .i64 q.la, .int .i64 q.lb, .bool q.hop, .bool q.fin] 259)
  obtain ⟨w2, hw2⟩ : ∃ w2, w1.alloc (.cells #[.string (str q.name), .int .i64 q.ka, .int .i64 q.kb, .int .i64 q.ta, .int .i64 q.tb, .int .i64 q.la, .int .i64 q.lb, .bool q.hop, .bool q.fin] 259) = w2 := ⟨_, rfl⟩
  rw [hw2] at b2 bx2 br2 hK2
  have HW := Lib.hid hw2
  rw [hw2]
  clear hw2 bx br hK k1
  · refine wp_region_sh ((0, false) :: (1, false) :: (2, false) :: (3, false) :: (4, false) :: (5, false) :: (7, false) :: (8, false) :: (6, true) :: (9, false) :: (10, false) :: (11, false) :: (12, false) :: (13, false) :: (14, false) :: (15, false) :: (17, false) :: (18, false) :: (16, true) :: (19, false) :: (20, false) :: (21, false) :: []) (fun w' => Keep NoB w2 w') (by kernel_rfl) (by kernel_rfl) (by rfl) (by kernel_rfl) (stable_keep w2) (Keep.refl NoB w2).drew ?_
    refine shM_step rfl rfl rfl (by rfl) (by rfl) ?_
    apply Exists.intro
    refine ⟨fun n K hK => ?_, ?_, ?_⟩
    · go_big_quiet_op
      exact hK _ rfl
    · kernel_rfl
    refine shM_step rfl rfl rfl (by rfl) (by rfl) ?_
    apply Exists.intro
    refine ⟨fun n K hK => ?_, ?_, ?_⟩
    · go_big_quiet_op
      exact hK _ rfl
    · kernel_rfl
    refine shM_step rfl rfl rfl (by rfl) (by rfl) ?_
    apply Exists.intro
    refine ⟨fun n K hK => ?_, ?_, ?_⟩
    · go_big_quiet_op
      exact hK _ rfl
    · kernel_rfl
    refine shM_step rfl rfl rfl (by rfl) (by rfl) ?_
    apply Exists.intro
    refine ⟨fun n K hK => ?_, ?_, ?_⟩
    · go_big_quiet_op
      exact hK _ rfl
    · kernel_rfl
    refine shM_step rfl rfl rfl (by rfl) (by rfl) ?_
    apply Exists.intro
    refine ⟨fun n K hK => ?_, ?_, ?_⟩
    · go_big_quiet_op
      exact hK _ rfl
    · kernel_rfl
    refine shM_step rfl rfl rfl (by rfl) (by rfl) ?_
    apply Exists.intro
    refine ⟨fun n K hK => ?_, ?_, ?_⟩
    · have q1 : ∀ m : KW n.w, m.w.cell? ⟨w1.heap.size, 1, none⟩ = some (.int .i64 q.ka) := fun m => (b2.keep (keepN n.has m.keep) id).cell 1
      go_big_quiet_op
      exact hK _ rfl
    · kernel_rfl
    refine shM_step rfl rfl rfl (by rfl) (by rfl) ?_
    apply Exists.intro
    refine ⟨fun n K hK => ?_, ?_, ?_⟩
    · go_big_quiet_op
      exact hK _ rfl
    · kernel_rfl
    refine shM_step rfl rfl rfl (by rfl) (by rfl) ?_
    apply Exists.intro
    refine ⟨fun n K hK => ?_, ?_, ?_⟩
    · have x1 : ∀ m : KW n.w, m.w.cell? ⟨w.heap.size, 1, none⟩ = some (.int .i64 a) := fun m => (bx2.keep (keepN n.has m.keep) id).cell 1
      go_big_quiet_op
      exact hK _ rfl
    · kernel_rfl
    refine shM_gen rfl rfl (by kernel_rfl) (fun v _ => ∃ sh gu, v = opV q.ka sh gu) (fun v w w' h _ => h) (fun n => ?_) (fun v1 => ?_)
    · unfold yieldsK
      go_simp
      exact op_gen q.ka hka _
    simp only [Act.put, List.setIfInBounds_toArray, List.set_cons_zero, List.set_cons_succ]
    refine shM_step rfl rfl rfl (by rfl) (by rfl) ?_
    apply Exists.intro
    refine ⟨fun n K hK => ?_, ?_, ?_⟩
    · go_big_quiet_op
      apply Exists.intro
      refine ⟨fun m => ?_, ?_⟩
      · go_at_call 209
        exact kept_of (has_gen q.ka a v1 true _ HA.out n.has.2)
      · exact hK _ rfl
    · kernel_rfl
    refine shM_step rfl rfl rfl (by rfl) (by rfl) ?_
    apply Exists.intro
    refine ⟨fun n K hK => ?_, ?_, ?_⟩
    · go_big_quiet_op
      exact hK _ rfl
    · kernel_rfl
    refine shM_step rfl rfl rfl (by rfl) (by rfl) ?_
    apply Exists.intro
    refine ⟨fun n K hK => ?_, ?_, ?_⟩
    · go_big_quiet_op
      exact hK _ rfl
    · kernel_rfl
    refine shM_step rfl rfl rfl (by rfl) (by rfl) ?_
    apply Exists.intro
    refine ⟨fun n K hK => ?_, ?_, ?_⟩
    · go_big_quiet_op
      exact hK _ rfl
    · kernel_rfl
    refine shM_step rfl rfl rfl (by rfl) (by rfl) ?_
    apply Exists.intro
    refine ⟨fun n K hK => ?_, ?_, ?_⟩
    · go_big_quiet_op
      exact hK _ rfl
    · kernel_rfl
    refine shM_step rfl rfl rfl (by rfl) (by rfl) ?_
    apply Exists.intro
    refine ⟨fun n K hK => ?_, ?_, ?_⟩
    · go_big_quiet_op
      exact hK _ rfl
    · kernel_rfl
    refine shM_step rfl rfl rfl (by rfl) (by rfl) ?_
    apply Exists.intro
    refine ⟨fun n K hK => ?_, ?_, ?_⟩
    · have q1 : ∀ m : KW n.w, m.w.cell? ⟨w1.heap.size, 2, none⟩ = some (.int .i64 q.kb) := fun m => (b2.keep (keepN n.has.1 m.keep) id).cell 2
      go_big_quiet_op
      exact hK _ rfl
    · kernel_rfl
    refine shM_step rfl rfl rfl (by rfl) (by rfl) ?_
    apply Exists.intro
    refine ⟨fun n K hK => ?_, ?_, ?_⟩
    · go_big_quiet_op
      exact hK _ rfl
    · kernel_rfl
    refine shM_step rfl rfl rfl (by rfl) (by rfl) ?_
    apply Exists.intro
    refine ⟨fun n K hK => ?_, ?_, ?_⟩
    · have x1 : ∀ m : KW n.w, m.w.cell? ⟨w.heap.size, 2, none⟩ = some (.int .i64 b) := fun m => (bx2.keep (keepN n.has.1 m.keep) id).cell 2
      go_big_quiet_op
      exact hK _ rfl
    · kernel_rfl
    refine shM_gen rfl rfl (by kernel_rfl) (fun v _ => ∃ sh gu, v = opV q.kb sh gu) (fun v w w' h _ => h) (fun n => ?_) (fun v2 => ?_)
    · unfold yieldsK
      go_simp
      exact op_gen q.kb hkb _
    simp only [Act.put, List.setIfInBounds_toArray, List.set_cons_zero, List.set_cons_succ]
    refine shM_step rfl rfl rfl (by rfl) (by rfl) ?_
    apply Exists.intro
    refine ⟨fun n K hK => ?_, ?_, ?_⟩
    · go_big_quiet_op
      apply Exists.intro
      refine ⟨fun m => ?_, ?_⟩
      · go_at_call 209
        exact kept_of (has_gen q.kb b v2 true _ HB.out n.has.2)
      · exact hK _ rfl
    · kernel_rfl
    refine shM_step rfl rfl rfl (by rfl) (by rfl) ?_
    apply Exists.intro
    refine ⟨fun n K hK => ?_, ?_, ?_⟩
    · go_big_quiet_op
      exact hK _ rfl
    · kernel_rfl
    refine shM_step rfl rfl rfl (by rfl) (by rfl) ?_
    apply Exists.intro
    refine ⟨fun n K hK => ?_, ?_, ?_⟩
    · go_big_quiet_op
      exact hK _ rfl
    · kernel_rfl
    refine shM_nil (fun n => ?_)
    have k3 := n.has.1.1
    generalize n.w = w3 at k3 ⊢
    have b3 := b2.keep k3 id
    have br3 := br2.keep k3 id
    have hK3 := keepN hK2 k3
    have f0 := fun i => br3.frozen i
    obtain ⟨c0, c1, c2, c3, c4, c5, c6, c7, c8⟩ := blk9 br3
    obtain ⟨d0, d1, d2, d3, d4, d5, d6, d7, d8⟩ := blk9 b3
    have hz3 := br3.lt
    clear k3 b2 br2 hK2 bx2
    go_wp2
    exact bodyPost_ret (v := .tuple #[rowV q, .bool true]) (by simp [results, Tryz.results193, go_sem, c0, c1, c2, c3, c4, c5, c6, c7, c8]) rfl ⟨rfl, keep9 hK3 (Nat.le_succ _) _ _ _ _ _ _ _ _ _⟩

theorem rowFor_any (op a b : Int) (r : Row) (w : World) (hr : Hid (rowR op a b = r)) : Calls Tryz.prog 193 #[instV op a b] w (ForR r (okI op a b) w) := by
  obtain ⟨h1, h2, h3, h4⟩ := kinds_ok op
  have hr := hr.out
  subst hr
  cases ho : isOp op
  · have hok : okI op a b = false := by unfold okI; rw [ho]; rfl
    rw [rowR_no hok, hok]
    exact rowFor_a op a b _ w rfl ho
  · cases ha : inK (rowAt op).ka a
    · have hok : okI op a b = false := by unfold okI; rw [ho, ha]; rfl
      rw [rowR_no hok, hok]
      exact rowFor_b op a b _ w rfl ho ha ⟨h1, h2⟩
    · cases hb : inK (rowAt op).kb b
      · have hok : okI op a b = false := by unfold okI; rw [ho, ha, hb]; rfl
        rw [rowR_no hok, hok]
        exact rowFor_c op a b _ w rfl ho ha hb ⟨h1, h2⟩ ⟨h3, h4⟩
      · have hok : okI op a b = true := by unfold okI; rw [ho, ha, hb]; rfl
        rw [rowR_ok hok, hok]
        exact rowFor_d op a b _ w rfl ho ha hb ⟨h1, h2⟩ ⟨h3, h4⟩

end Go.Proofs.YtgifflfjhockaaaGreatDoor.O

namespace Go.Proofs.YtgifflfjhockaaaGreatDoor.O
open Go.RowKit

def chk (op a b : Int) : Int := if okI op a b = true then 0 else 40
def endsI (op a b : Int) : Bool := (rowR op a b).fin
def goesI (op a b : Int) : Bool := decide ((rowR op a b).ka = 10)
def goesN (op a b : Int) : Int := if goesI op a b = true then a else 0
theorem pr2 {a a' : Int} {b b' : Bool} (h1 : a = a') (h2 : b = b') : Ending.returned (.tuple #[.int .i64 a, .bool b]) = .returned (.tuple #[.int .i64 a', .bool b']) := by rw [h1, h2]

set_option maxHeartbeats 1000000 in
theorem check_any (op a b : Int) (w : World) :
    Calls Tryz.prog 169 #[instV op a b] w fun e w' => e = .returned (.int .i64 (chk op a b)) ∧ Keep NoB w w' := by
  have hK := (Keep.refl NoB w).alloc (.cells #[.int .i64 op, .int .i64 a, .int .i64 b] 63)
  obtain ⟨r, hr⟩ : ∃ r, Hid (rowR op a b = r) := ⟨_, rfl⟩
  have HR := Lib.hid (fun w => rowFor_any op a b r w hr)
  cases hok : okI op a b
  · have HX : Hid (chk op a b = 40) := by show _ = _; unfold chk; rw [if_neg (by rw [hok]; decide)]
    rw [hok] at HR
    clear hok hr
    go_enter Tryz.func169, Tryz.ntmps169
    go_wp2_with fail
    refine (HR.out _).mono ?_
    rintro e w1 ⟨rfl, k1⟩
    go_wp2
    go_ret
    exact ⟨by rw [HX.out]; rfl, (keepN hK k1).alloc _⟩
  · have HX : Hid (chk op a b = 0) := by show _ = _; unfold chk; rw [if_pos hok]
    rw [hok] at HR
    clear hok hr
    go_enter Tryz.func169, Tryz.ntmps169
    go_wp2_with fail
    refine (HR.out _).mono ?_
    rintro e w1 ⟨rfl, k1⟩
    go_wp2
    go_ret
    exact ⟨by rw [HX.out]; rfl, (keepN hK k1).alloc _⟩

set_option maxHeartbeats 1000000 in
theorem ends_any (op a b : Int) (w : World) :
    Calls Tryz.prog 167 #[instV op a b] w fun e w' => e = .returned (.bool (endsI op a b)) ∧ Keep NoB w w' := by
  have hK := (Keep.refl NoB w).alloc (.cells #[.int .i64 op, .int .i64 a, .int .i64 b] 63)
  obtain ⟨r, hr⟩ : ∃ r, Hid (rowR op a b = r) := ⟨_, rfl⟩
  have HR := Lib.hid (fun w => rowFor_any op a b r w hr)
  have HX : Hid (endsI op a b = r.fin) := by show _ = _; unfold endsI; rw [hr.out]
  clear hr
  go_enter Tryz.func167, Tryz.ntmps167
  go_wp2_with fail
  refine (HR.out _).mono ?_
  rintro e w1 ⟨rfl, k1⟩
  go_wp2
  go_ret
  exact ⟨by rw [HX.out]; rfl, (keepN hK k1).alloc _⟩

set_option maxHeartbeats 1000000 in
theorem goes_any (op a b : Int) (w : World) :
    Calls Tryz.prog 168 #[instV op a b] w fun e w' => e = .returned (.tuple #[.int .i64 (goesN op a b), .bool (goesI op a b)]) ∧ Keep NoB w w' := by
  have hB := Blk.new w 63 #[.int .i64 op, .int .i64 a, .int .i64 b]
  have hK := (Keep.refl NoB w).alloc (.cells #[.int .i64 op, .int .i64 a, .int .i64 b] 63)
  obtain ⟨r, hr⟩ : ∃ r, Hid (rowR op a b = r) := ⟨_, rfl⟩
  have HR := Lib.hid (fun w => rowFor_any op a b r w hr)
  by_cases hg : r.ka = 10
  · have h1 : goesI op a b = true := decide_eq_true (by rw [hr.out]; exact hg)
    have HX : Hid (goesN op a b = a ∧ goesI op a b = true) := ⟨by unfold goesN; rw [if_pos h1], h1⟩
    have hq : (r.ka != 10) = false := by rw [bne_eq_false_iff_eq]; exact hg
    clear hg h1 hr
    go_enter Tryz.func168, Tryz.ntmps168
    go_wp2_with fail
    refine (HR.out _).mono ?_
    rintro e w1 ⟨rfl, k1⟩
    have b1 := hB.keep k1 id
    have c1 : w1.cell? ⟨w.heap.size, 1, none⟩ = some (.int .i64 a) := b1.cell 1
    have hz := b1.lt
    have c2 : ∀ o, (w1.alloc o).cell? ⟨w.heap.size, 1, none⟩ = some (.int .i64 a) := fun o => (World.cell?_alloc_lt _ _ _ hz).trans c1
    go_wp2
    go_ret2
    exact ⟨pr2 HX.out.1.symm HX.out.2.symm, (keepN hK k1).alloc _⟩
  · have h1 : goesI op a b = false := decide_eq_false (by rw [hr.out]; exact hg)
    have HX : Hid (goesN op a b = 0 ∧ goesI op a b = false) := ⟨by unfold goesN; rw [if_neg (by rw [h1]; decide)], h1⟩
    have hq : (r.ka != 10) = true := by rw [bne_iff_ne]; exact hg
    clear hg h1 hr
    go_enter Tryz.func168, Tryz.ntmps168
    go_wp2_with fail
    refine (HR.out _).mono ?_
    rintro e w1 ⟨rfl, k1⟩
    go_wp2
    go_ret2
    exact ⟨pr2 HX.out.1.symm HX.out.2.symm, (keepN hK k1).alloc _⟩

set_option maxHeartbeats 1000000 in
theorem kinds_any (op : Int) (w : World) :
    Calls Tryz.prog 197 #[.int .i64 op] w fun e w' => e = .returned (.tuple #[.int .i64 (rowAt op).ka, .int .i64 (rowAt op).kb]) ∧ Keep NoB w w' := by
  obtain ⟨r, hr⟩ : ∃ r, Hid (rowAt op = r) := ⟨_, rfl⟩
  have HR := Lib.hid (fun w => rowOf_any op r w hr)
  rw [hr.out]
  clear hr
  go_enter Tryz.func197, Tryz.ntmps197
  go_wp2_with fail
  refine (HR.out _).mono ?_
  rintro e w1 ⟨rfl, k1⟩
  have b2 := Blk.new w1 259 (cells9 r)
  go_wp2
  go_quiet (fail)
  go_wp2
  go_ret2
  exact ⟨rfl, (k1.alloc _).drewN _⟩

end Go.Proofs.YtgifflfjhockaaaGreatDoor.O

namespace Go.Proofs.YtgifflfjhockaaaGreatDoor.C
open Go.RowKit O

/-- An instruction: its op, and its operands. -/
abbrev I3 := Int × Int × Int
/-- Instructions as cells. -/
def iis (l : List I3) : List Value := l.flatMap fun x => [.int .i64 x.1, .int .i64 x.2.1, .int .i64 x.2.2]
theorem iis_nil : iis [] = [] := rfl
theorem iis_cons (x : I3) (l : List I3) : iis (x :: l) = [.int .i64 x.1, .int .i64 x.2.1, .int .i64 x.2.2] ++ iis l := by unfold iis; rw [List.flatMap_cons]
theorem iis_append (l r : List I3) : iis (l ++ r) = iis l ++ iis r := by unfold iis; rw [List.flatMap_append]
theorem iis_one (x : I3) : iis [x] = [.int .i64 x.1, .int .i64 x.2.1, .int .i64 x.2.2] := rfl
theorem iis_length (l : List I3) : (iis l).length = l.length * 3 := by
  induction l with
  | nil => rfl
  | cons v l ih => rw [iis_cons, List.length_append, ih]; simp; omega
theorem iis_at : ∀ (l : List I3) (i : Nat) (h : i < l.length), (iis l)[i * 3]? = some (.int .i64 l[i].1) ∧ (iis l)[i * 3 + 1]? = some (.int .i64 l[i].2.1) ∧ (iis l)[i * 3 + 2]? = some (.int .i64 l[i].2.2)
  | v :: l, 0, _ => by rw [iis_cons]; exact ⟨rfl, rfl, rfl⟩
  | v :: l, i + 1, h => by
    have := iis_at l i (by simpa using h)
    rw [iis_cons, show (i + 1) * 3 = i * 3 + 3 by omega]
    exact ⟨by simpa using this.1, by simpa using this.2.1, by simpa using this.2.2⟩
theorem iis_take (l : List I3) (k : Nat) : (iis l).take (k * 3) = iis (l.take k) := by
  induction l generalizing k with
  | nil => simp [iis]
  | cons x l ih =>
    cases k with
    | zero => simp [iis]
    | succ k => rw [iis_cons, show (k + 1) * 3 = [Value.int .i64 x.1, .int .i64 x.2.1, .int .i64 x.2.2].length + k * 3 by simp; omega, List.take_length_add_append, ih, List.take_succ_cons, iis_cons]
theorem rdJ_at {w : World} {A : Option Addr} {l : List I3} (h : Rd w A (iis l)) (h0 : 0 < l.length) : ∃ g off, A = some ⟨g, off, none⟩ ∧
    ∀ (i : Nat) (hi : i < l.length), w.cell? ⟨g, off + i * 3, none⟩ = some (.int .i64 l[i].1) ∧ w.cell? ⟨g, off + i * 3 + 1, none⟩ = some (.int .i64 l[i].2.1) ∧ w.cell? ⟨g, off + i * 3 + 2, none⟩ = some (.int .i64 l[i].2.2) := by
  obtain ⟨g, off, e, hc⟩ := h (by rw [iis_length]; omega)
  refine ⟨g, off, e, fun i hi => ?_⟩
  obtain ⟨h1, h2, h3⟩ := iis_at l i hi
  exact ⟨hc _ _ h1, hc _ _ h2, hc _ _ h3⟩

/-- May it be; does it end; does it go, and where to? -/
def ok1 (x : I3) : Bool := okI x.1 x.2.1 x.2.2
def eB (x : I3) : Bool := endsI x.1 x.2.1 x.2.2
def gB (x : I3) : Bool := goesI x.1 x.2.1 x.2.2
def gN (x : I3) : Int := goesN x.1 x.2.1 x.2.2
theorem gB_ka {x : I3} (h : gB x = true) : ok1 x = true ∧ (O.rowAt x.1).ka = 10 := by
  have h := of_decide_eq_true h
  cases hk : okI x.1 x.2.1 x.2.2
  · rw [rowR_no hk] at h; exact absurd h (by decide)
  · rw [rowR_ok hk] at h; exact ⟨hk, h⟩
theorem gB_in {x : I3} (h : gB x = true) : 0 ≤ x.2.1 ∧ x.2.1 ≤ 511 := by
  obtain ⟨h1, h2⟩ := gB_ka h
  have h3 := (ok_op h1).2.1
  rw [h2] at h3
  exact of_decide_eq_true h3
theorem gN_yes {x : I3} (h : gB x = true) : gN x = x.2.1 := if_pos h
theorem gN_no {x : I3} (h : gB x = false) : gN x = 0 := if_neg (by unfold gB at h; rw [h]; decide)
theorem gN_in (x : I3) : 0 ≤ gN x ∧ gN x ≤ 511 := by
  cases h : gB x
  · rw [gN_no h]; decide
  · rw [gN_yes h]; exact gB_in h
/-- Is a list a body? -/
def itemB (n : Nat) (x : I3) : Bool := ok1 x && decide (gN x < (n : Int))
def lastB (l : List I3) : Bool := match l.getLast? with | some x => eB x | none => false
def okB (l : List I3) : Bool := decide (l.length ≤ 512) && lastB l && l.all (itemB l.length)
def chkB (l : List I3) : Int := if okB l = true then 0 else 50
theorem chkB_ok {l : List I3} (h : okB l = true) : chkB l = 0 := if_pos h
theorem chkB_no {l : List I3} (h : okB l = false) : chkB l = 50 := if_neg (by rw [h]; decide)
theorem okB_parts {l : List I3} (h : okB l = true) : 1 ≤ l.length ∧ l.length ≤ 512 ∧ lastB l = true ∧ l.all (itemB l.length) = true := by
  unfold okB at h
  simp only [Bool.and_eq_true, decide_eq_true_eq] at h
  refine ⟨?_, h.1.1, h.1.2, h.2⟩
  rcases l with _ | ⟨x, l⟩
  · exact absurd h.1.2 (by decide)
  · simp
theorem okB_mk {l : List I3} (h1 : l.length ≤ 512) (h2 : lastB l = true) (h3 : l.all (itemB l.length) = true) : okB l = true := by
  unfold okB; rw [decide_eq_true h1, h2, h3]; rfl
theorem okB_long {l : List I3} (h : ¬ l.length ≤ 512) : okB l = false := by unfold okB; rw [decide_eq_false h]; rfl
theorem okB_last {l : List I3} (h : lastB l = false) : okB l = false := by unfold okB; rw [h]; simp
theorem okB_item {l : List I3} (h : l.all (itemB l.length) = false) : okB l = false := by unfold okB; rw [h]; simp
theorem lastB_at {l : List I3} (h : 0 < l.length) : lastB l = eB (l[l.length - 1]'(by omega)) := by
  unfold lastB
  rw [List.getLast?_eq_getElem?, List.getElem?_eq_getElem (by omega)]
theorem item_parts {n : Nat} {x : I3} (h : itemB n x = true) : ok1 x = true ∧ gN x < (n : Int) := by
  unfold itemB at h
  simp only [Bool.and_eq_true, decide_eq_true_eq] at h
  exact h
theorem item_no1 {n : Nat} {x : I3} (h : ok1 x = false) : itemB n x = false := by unfold itemB; rw [h]; rfl
theorem item_no2 {n : Nat} {x : I3} (h : ¬ gN x < (n : Int)) : itemB n x = false := by unfold itemB; rw [decide_eq_false h]; simp
theorem item_yes {n : Nat} {x : I3} (h1 : ok1 x = true) (h2 : gN x < (n : Int)) : itemB n x = true := by unfold itemB; rw [h1, decide_eq_true h2]; rfl
theorem all_no {n : Nat} {l : List I3} {k : Nat} (hk : k < l.length) (h : itemB n l[k] = false) : l.all (itemB n) = false := by
  rw [List.all_eq_false]; exact ⟨_, List.getElem_mem hk, by rw [h]; decide⟩
theorem okB_at {l : List I3} (h : okB l = true) {k : Nat} (hk : k < l.length) : itemB l.length l[k] = true := List.all_eq_true.1 (okB_parts h).2.2.2 _ (List.getElem_mem hk)

/-- A body's bytes. -/
def byt (l : List I3) : List UInt8 := l.flatMap fun x => bytesI x.1 x.2.1 x.2.2
theorem byt_snoc (l : List I3) (x : I3) : byt (l ++ [x]) = byt l ++ bytesI x.1 x.2.1 x.2.2 := by unfold byt; simp
def bytesB (l : List I3) : List UInt8 := V.encL l.length ++ byt l
def encB (l : List I3) : List UInt8 := if okB l = true then bytesB l else []
end Go.Proofs.YtgifflfjhockaaaGreatDoor.C

namespace Go.Proofs.YtgifflfjhockaaaGreatDoor.F
open Go.RowKit W

/-- A letter; a digit; a name. -/
def letB (c : UInt8) : Bool := decide ((97 ≤ c.toNat ∧ c.toNat ≤ 122) ∨ (65 ≤ c.toNat ∧ c.toNat ≤ 90))
def digB (c : UInt8) : Bool := decide (48 ≤ c.toNat ∧ c.toNat ≤ 57)
def inB (c : UInt8) : Bool := letB c || digB c
def headB : List UInt8 → Bool
  | [] => false
  | c :: _ => letB c
def okN (s : List UInt8) : Bool := decide (s.length ≤ 32) && (headB s && s.all inB)
def chkN (s : List UInt8) : Int := if okN s = true then 0 else 71
theorem okN_iff (s : List UInt8) : okN s = true ↔ s.length ≤ 32 ∧ headB s = true ∧ s.all inB = true := by unfold okN; rw [Bool.and_eq_true, Bool.and_eq_true, decide_eq_true_iff]
theorem chkN_ok {s : List UInt8} (h : okN s = true) : chkN s = 0 := if_pos h
theorem chkN_no {s : List UInt8} (h : okN s = false) : chkN s = 71 := if_neg (by rw [h]; decide)
theorem okN_long {s : List UInt8} (h : ¬ s.length ≤ 32) : okN s = false := by unfold okN; rw [decide_eq_false h]; rfl
theorem okN_head {s : List UInt8} (h : headB s = false) : okN s = false := by unfold okN; rw [h]; simp
theorem okN_in {s : List UInt8} (h : s.all inB = false) : okN s = false := by unfold okN; rw [h]; simp
theorem headB_at {s : List UInt8} (h : 0 < s.length) : headB s = letB s[0] := by
  cases s with
  | nil => simp at h
  | cons c l => rfl
theorem letB_iff (c : UInt8) : letB c = true ↔ (97 ≤ c.toNat ∧ c.toNat ≤ 122) ∨ (65 ≤ c.toNat ∧ c.toNat ≤ 90) := by unfold letB; rw [decide_eq_true_iff]
theorem digB_iff (c : UInt8) : digB c = true ↔ 48 ≤ c.toNat ∧ c.toNat ≤ 57 := by unfold digB; rw [decide_eq_true_iff]

/-- A function. -/
structure Fu where
  nm : List UInt8
  ar : List Int
  rs : List Int
  lc : List Int
  bd : List C.I3
/-- It may be. -/
def okF (f : Fu) : Bool := okN f.nm && (S.okG f.ar f.rs && (f.lc.all knownB && (C.okB f.bd && decide (f.ar.length + f.rs.length + f.lc.length ≤ 64))))
def chkF (f : Fu) : Int := if okF f = true then 0 else 70
theorem okF_iff (f : Fu) : okF f = true ↔ okN f.nm = true ∧ S.okG f.ar f.rs = true ∧ f.lc.all knownB = true ∧ C.okB f.bd = true ∧ f.ar.length + f.rs.length + f.lc.length ≤ 64 := by
  unfold okF; rw [Bool.and_eq_true, Bool.and_eq_true, Bool.and_eq_true, Bool.and_eq_true, decide_eq_true_iff]
theorem chkF_ok {f : Fu} (h : okF f = true) : chkF f = 0 := if_pos h
theorem chkF_no {f : Fu} (h : okF f = false) : chkF f = 70 := if_neg (by rw [h]; decide)
theorem okF_not {f : Fu} (h : ¬ (okN f.nm = true ∧ S.okG f.ar f.rs = true ∧ f.lc.all knownB = true ∧ C.okB f.bd = true ∧ f.ar.length + f.rs.length + f.lc.length ≤ 64)) : okF f = false := by
  cases ho : okF f
  · rfl
  · exact absurd ((okF_iff f).1 ho) h
/-- Locals are checked as the arguments of a signature. -/
theorem okG_one (l : List Int) : S.okG l [] = true ↔ l.length ≤ 64 ∧ l.all knownB = true := by rw [S.okG_iff]; simp

/-- A function's bytes. -/
def bytesF (f : Fu) : List UInt8 := (((V.encL f.nm.length ++ f.nm) ++ S.bytesG f.ar f.rs) ++ S.bytesG f.lc []) ++ C.bytesB f.bd
def encF (f : Fu) : List UInt8 := if okF f = true then bytesF f else []
theorem encF_ok {f : Fu} (h : okF f = true) : encF f = bytesF f := if_pos h
theorem encF_no {f : Fu} (h : okF f = false) : encF f = [] := if_neg (by rw [h]; decide)

/-- Its slots' types; what each is. -/
def sl (f : Fu) : List Int := (f.ar ++ f.rs) ++ f.lc
theorem sl_length (f : Fu) : (sl f).length = f.ar.length + f.rs.length + f.lc.length := by simp [sl]; omega
/-- Are both the same? -/
def sameF (f g : Fu) : Bool := decide (f.nm = g.nm ∧ (f.ar = g.ar ∧ f.rs = g.rs) ∧ f.lc = g.lc ∧ f.bd = g.bd)
theorem sameF_iff (f g : Fu) : sameF f g = true ↔ f = g := by
  unfold sameF
  rw [decide_eq_true_iff]
  constructor
  · rintro ⟨h1, ⟨h2, h3⟩, h4, h5⟩
    cases f; cases g
    simp only at h1 h2 h3 h4 h5
    subst h1 h2 h3 h4 h5; rfl
  · rintro rfl; exact ⟨rfl, ⟨rfl, rfl⟩, rfl, rfl⟩

end Go.Proofs.YtgifflfjhockaaaGreatDoor.F

namespace Go.Proofs.YtgifflfjhockaaaGreatDoor.O

theorem in_bounds {k n : Int} (h : inK k n = true) : (-9223372036854775808 ≤ n ∧ n ≤ 9223372036854775807) ∧ (k ≠ 1 → 0 ≤ n ∧ n ≤ 511) ∧ (k = 0 → n = 0) := by
  have h := of_decide_eq_true h
  unfold lo hi at h
  repeat' split at h
  all_goals omega

/-- A text up to its first blank. -/
def upto (l : List UInt8) : List UInt8 := l.takeWhile (fun c => decide (c ≠ 32))
theorem upto_of {s r : List UInt8} (hs : ∀ c ∈ s, c ≠ 32) (hr : r = [] ∨ ∃ r', r = 32 :: r') : upto (s ++ r) = s := by
  unfold upto
  rw [List.takeWhile_append_of_pos (by intro c hc; simpa using hs c hc)]
  rcases hr with rfl | ⟨r', rfl⟩
  · simp
  · simp
theorem split_at {s t r q : List UInt8} (hs : ∀ c ∈ s, c ≠ 32) (ht : ∀ c ∈ t, c ≠ 32) (hr : r = [] ∨ ∃ r', r = 32 :: r') (hq : q = [] ∨ ∃ q', q = 32 :: q') (h : s ++ r = t ++ q) : s = t ∧ r = q := by
  have e := congrArg upto h
  rw [upto_of hs hr, upto_of ht hq] at e
  subst e
  exact ⟨rfl, List.append_cancel_left h⟩

end Go.Proofs.YtgifflfjhockaaaGreatDoor.O
