/-
  A region that draws its order, whose operations read, call what may make memory, and make memory themselves, none of them writing what lay: one walk, in an order of one's own choice, serves every order. What was made is known by its block alone. No program, no conditions.
-/
import Derived.Test.YtpkcjokkadfhcaaDoorKKept
namespace Go.Proofs.YtpkcjokkadfhcaaDoor
open Go.RowKit

/-- What stays when memory is made. -/
def StableI (I : World → Prop) : Prop := ∀ w w', I w → Keep NoB w w' → I w'
theorem StableI.and {I J : World → Prop} (h : StableI I) (h' : StableI J) : StableI fun w => I w ∧ J w := fun w w' hw hk => ⟨h w w' hw.1 hk, h' w w' hw.2 hk⟩
theorem stable_blk (g : Nat) (o : Obj) : StableI fun w => w.heap[g]? = some o := fun _ _ h hk => (hk.block g (Array.getElem?_eq_some_iff.1 h).1 id).trans h
theorem stable_keep (w0 : World) : StableI fun w => Keep NoB w0 w := fun _ _ h hk => keepN h hk

/-- The operations that make a block. -/
def isMake (o : Oper) : Bool := match o.op with
  | .alloc _ => true
  | .buildSlice .. => true
  | .makeSlice .. => true
  | _ => false

section
variable {P : Program} {ops : Array Oper} {md : Region.Mode}

/-- The operation yields a value, at once or by a call. -/
def yieldsR (R : Value → World → Prop) : Program → Result Next → Prop
  | _, .ok (.value u) w' => R u w'
  | _, .ok .skip w' => R undef w'
  | P, .ok (.enter f args) w' => Calls P f args w' fun e w'' => ∃ u, e = .returned u ∧ R u w''
  | _, _ => False
def yieldsK (P : Program) (o : Oper) (a : Act) (w : World) (R : Value → World → Prop) : Prop := yieldsR R P ((execOp a.eval o).run P w)

def Quiet1 (P : Program) (o : Oper) (a : Act) (I : World → Prop) (v : Value) : Prop := ∀ w, I w → yieldsK P o a w fun u w' => u = v ∧ Keep NoB w w'
def Gen1 (P : Program) (o : Oper) (a : Act) (I : World → Prop) (V : Value → World → Prop) : Prop := (∀ v, StableI (V v)) ∧ ∀ w, I w → yieldsK P o a w fun u w' => V u w' ∧ Keep NoB w w'
def Make1 (P : Program) (o : Oper) (a : Act) (mk : Nat → Value) (obj : Obj) : Prop := ∀ w, (execOp a.eval o).run P w = .ok (.value (mk w.heap.size)) (w.alloc obj)

abbrev Kont := Act → (World → Prop) → Prop

/-- Operation number i comes up. -/
def mOp (P : Program) (ops : Array Oper) (gen : Bool) (i : Nat) (K : Kont) (a : Act) (I : World → Prop) : Prop :=
  match ops[i]? with
  | none => K a I
  | some o =>
    if Region.wanted o (yielded ops a.tmps) then
      (if isMake o then ∃ mk obj, Make1 P o a mk obj ∧ ∀ g, K (a.put o.dst (mk g)) fun w => I w ∧ w.heap[g]? = some obj
       else (∃ v, Quiet1 P o a I v ∧ K (a.put o.dst v) I) ∨ (gen = true ∧ ∃ V, Gen1 P o a I V ∧ ∀ v, K (a.put o.dst v) fun w => I w ∧ V v w))
    else K (a.put o.dst undef) I

theorem mOp_mono {gen gen' : Bool} {i : Nat} {a : Act} {I : World → Prop} {K K' : Kont} (hg : gen = true → gen' = true) (h : ∀ a I, K a I → K' a I) (hh : mOp P ops gen i K a I) : mOp P ops gen' i K' a I := by
  unfold mOp at *
  split
  · rename_i ho; simp only [ho] at hh; exact h _ _ hh
  · rename_i o ho
    simp only [ho] at hh
    split
    · rename_i hw
      simp only [hw, if_true] at hh
      split
      · rename_i hm
        simp only [hm, if_true] at hh
        obtain ⟨mk, obj, h1, h2⟩ := hh
        exact ⟨mk, obj, h1, fun g => h _ _ (h2 g)⟩
      · rename_i hm
        simp only [hm] at hh
        rcases hh with ⟨v, h1, h2⟩ | ⟨hgen, V, h1, h2⟩
        · exact .inl ⟨v, h1, h _ _ h2⟩
        · exact .inr ⟨hg hgen, V, h1, fun v => h _ _ (h2 v)⟩
    · rename_i hw; simp only [hw] at hh; exact h _ _ hh

/-- Whatever order is picked from here on. -/
def wpAnyM (P : Program) (md : Region.Mode) (ops : Array Oper) (Q : Act → World → Prop) : Nat → Array Bool → Act → (World → Prop) → Prop
  | 0, listed, a, I => Region.ready md ops listed = [] ∧ ∀ w, I w → Q a w
  | fuel + 1, listed, a, I =>
    (Region.ready md ops listed = [] → ∀ w, I w → Q a w) ∧
    ∀ i ∈ Region.ready md ops listed, mOp P ops true i (wpAnyM P md ops Q fuel (listed.setIfInBounds i true)) a I

theorem Oper.wp_of_yields {o : Oper} {a : Act} {w : World} {K' : Act → World → Prop} {Q' : Exit → Act → World → Prop} {R : Value → World → Prop} (h : yieldsK P o a w R) (hK : ∀ u w', R u w' → K' (a.put o.dst u) w') : o.wp P a w K' Q' := by
  unfold yieldsK at h
  unfold Oper.wp
  generalize (execOp a.eval o).run P w = r at *
  cases r with
  | ok n w' =>
    cases n <;> simp only [yieldsR] at h <;> simp only [Oper.upon]
    case value u => exact hK _ _ h
    case skip => exact hK _ _ h
    case enter f args => exact h.mono fun e w'' ⟨u, he, hr⟩ => by subst he; exact hK _ _ hr
  | halt x w' => simp only [yieldsR] at h

theorem wpOp_of_mOp {gen : Bool} {i : Nat} {a : Act} {I : World → Prop} {K : Kont} {K' : Act → World → Prop} {Q' : Exit → Act → World → Prop} {w : World} (hI : StableI I) (hw0 : I w)
    (h : ∀ a I w', StableI I → I w' → K a I → K' a w') (hh : mOp P ops gen i K a I) : wpOp P ops Q' i K' a w := by
  unfold mOp at hh
  unfold wpOp
  split
  · rename_i ho; simp only [ho] at hh; exact h _ _ _ hI hw0 hh
  · rename_i o ho
    simp only [ho] at hh
    split
    · rename_i hw
      simp only [hw, if_true] at hh
      refine .inl ?_
      split at hh
      · obtain ⟨mk, obj, h1, h2⟩ := hh
        have hk : Keep NoB w (w.alloc obj) := (Keep.refl _ _).alloc _
        have hy : yieldsK P o a w fun u w' => u = mk w.heap.size ∧ w' = w.alloc obj := by unfold yieldsK; rw [h1 w]; exact ⟨rfl, rfl⟩
        refine Oper.wp_of_yields hy ?_
        rintro u w' ⟨rfl, rfl⟩
        exact h _ _ _ (hI.and (stable_blk _ _)) ⟨hI _ _ hw0 hk, heap_alloc_new w obj⟩ (h2 _)
      · rcases hh with ⟨v, h1, h2⟩ | ⟨_, V, h1, h2⟩
        · refine Oper.wp_of_yields (h1 w hw0) ?_
          rintro u w' ⟨rfl, hk⟩
          exact h _ _ _ hI (hI _ _ hw0 hk) h2
        · refine Oper.wp_of_yields (h1.2 w hw0) ?_
          rintro u w' ⟨hv, hk⟩
          exact h _ _ _ (hI.and (h1.1 u)) ⟨hI _ _ hw0 hk, hv⟩ (h2 u)
    · rename_i hw; simp only [hw] at hh; exact h _ _ _ hI hw0 hh

/-- It is a wpAny, from every world of the class. -/
theorem wpAny_of_M {Q : Act → World → Prop} {Q' : Exit → Act → World → Prop} (hQ : ∀ a w, Q a w → Q' .normal a w) : ∀ (fuel : Nat) (listed : Array Bool) (a : Act) (I : World → Prop) (w : World), StableI I → I w →
    wpAnyM P md ops Q fuel listed a I → wpAny P md ops Q' fuel listed a w
  | 0, _, _, _, _, _, hw, h => ⟨h.1, hQ _ _ (h.2 _ hw)⟩
  | fuel + 1, _, _, _, _, hI, hw, h => ⟨fun h0 => hQ _ _ (h.1 h0 _ hw), fun i hi => wpOp_of_mOp hI hw (fun a' I' w' hI' hw' hk => wpAny_of_M hQ fuel _ a' I' w' hI' hw' hk) (h.2 i hi)⟩

/-- In every world of the class the operation leaves v, and makes memory at most. -/
def YM (P : Program) (ops : Array Oper) (o : Oper) (v : Value) (a : Act) (I : World → Prop) : Prop :=
  (Region.wanted o (yielded ops a.tmps) = true ∧ isMake o = false ∧ Quiet1 P o a I v) ∨ (Region.wanted o (yielded ops a.tmps) = false ∧ v = undef)

theorem YM.mOp {i : Nat} {o : Oper} {v : Value} {a : Act} {I : World → Prop} (hi : ops[i]? = some o) (hy : YM P ops o v a I) {K : Kont} (h : K (a.put o.dst v) I) : mOp P ops true i K a I := by
  unfold Go.Proofs.YtpkcjokkadfhcaaDoor.mOp
  simp only [hi]
  rcases hy with ⟨hw, hm, hv⟩ | ⟨hw, rfl⟩
  · simp only [hw, if_true, hm, Bool.false_eq_true, if_false]; exact .inl ⟨v, hv, h⟩
  · simp only [hw, Bool.false_eq_true, if_false]; exact h

theorem YM.of_same {o : Oper} {v : Value} {a a' : Act} {I I' : World → Prop} (hy : YM P ops o v a I) (hI : ∀ w, I' w → I w) (he : execOp a'.eval o = execOp a.eval o)
    (hw : Region.wanted o (yielded ops a'.tmps) = Region.wanted o (yielded ops a.tmps)) : YM P ops o v a' I' := by
  unfold YM Quiet1 yieldsK at *
  rw [he, hw]
  exact hy.imp (fun ⟨h1, h2, h3⟩ => ⟨h1, h2, fun w h => h3 w (hI w h)⟩) id

/-- An operation oj, apart from oi: whether oi's value is already there makes no difference to it, and it makes none to oi. -/
theorem mOp_put {j : Nat} {oi oj : Oper} {v : Value} (hj : ops[j]? = some oj) (hap : oi.apart ops oj = true)
    (hsi : ∀ cs b, oi.op ≠ .select cs b) (hsj : ∀ cs b, oj.op ≠ .select cs b) {K : Kont} {a : Act} {I : World → Prop}
    (hy : YM P ops oi v a I) (h : mOp P ops true j K (a.put oi.dst v) I) :
    mOp P ops true j (fun a' I' => YM P ops oi v a' I' ∧ K (a'.put oi.dst v) I') a I := by
  obtain ⟨h1, h2, h3⟩ := Oper.apart_spec hap
  have keep : ∀ u, ∀ I' : World → Prop, (∀ w, I' w → I w) → YM P ops oi v (a.put oj.dst u) I' := fun u I' hI =>
    hy.of_same hI (execOp_put oi hsi a oj.dst u h3) (wanted_put oi a oj.dst u h3)
  unfold mOp at *
  simp only [hj] at *
  rw [wanted_put oj a oi.dst v h1] at h
  split
  · rename_i hw
    simp only [hw, if_true] at h
    split
    · rename_i hm
      simp only [hm, if_true] at h
      obtain ⟨mk, obj, k1, k2⟩ := h
      refine ⟨mk, obj, ?_, fun g => ⟨keep _ _ (fun w hw => hw.1), by rw [← Act.put_comm a v (mk g) h2]; exact k2 g⟩⟩
      unfold Make1 at *
      rwa [execOp_put oj hsj a oi.dst v h1] at k1
    · rename_i hm
      simp only [hm] at h
      rcases h with ⟨u, k1, k2⟩ | ⟨hg, V, k1, k2⟩
      · refine .inl ⟨u, ?_, keep u _ (fun _ h => h), by rw [← Act.put_comm a v u h2]; exact k2⟩
        unfold Quiet1 yieldsK at *
        rwa [execOp_put oj hsj a oi.dst v h1] at k1
      · refine .inr ⟨by simp, V, ?_, fun u => ⟨keep u _ (fun _ h => h.1), by rw [← Act.put_comm a v u h2]; exact k2 u⟩⟩
        unfold Gen1 yieldsK at *
        rwa [execOp_put oj hsj a oi.dst v h1] at k1
  · rename_i hw
    simp only [hw] at h
    exact ⟨keep _ _ (fun _ h => h), by rw [← Act.put_comm a v undef h2]; exact h⟩

theorem not_waits {i : Nat} {oj : Oper} {listed : Array Bool} (hr : i ∈ Region.ready md ops listed) (hall : ∀ e ∈ oj.after, Region.binds md e = true → listed.getD e.on false = true) :
    ∀ e ∈ oj.after, Region.binds md e = true → e.on ≠ i := fun e he hb heq => by
  have h1 := hall e he hb
  have h0 := (mem_ready.1 hr).1
  rw [heq] at h1
  rcases Nat.lt_or_ge i listed.size with h' | h'
  · simp [h'] at h0 h1; rw [h0] at h1; cases h1
  · simp [Array.getElem?_eq_none h'] at h1

/-- A quiet operation that may come up now may be taken first. -/
theorem wpAnyM_first {Q : Act → World → Prop} {i : Nat} {oi : Oper} {v : Value} (hi : ops[i]? = some oi) (hsel : ∀ (j : Nat) (o : Oper) cs b, ops[j]? = some o → o.op ≠ .select cs b) :
    ∀ (fuel : Nat) (listed : Array Bool) (a : Act) (I : World → Prop),
      (∀ j oj, ops[j]? = some oj → j ≠ i → listed.getD j true = false → (∀ e ∈ oj.after, Region.binds md e = true → e.on ≠ i) → oi.apart ops oj = true) →
      i ∈ Region.ready md ops listed → YM P ops oi v a I →
      wpAnyM P md ops Q fuel (listed.setIfInBounds i true) (a.put oi.dst v) I → wpAnyM P md ops Q (fuel + 1) listed a I := by
  intro fuel
  induction fuel with
  | zero =>
    intro listed a I _ hr hy H
    refine ⟨fun h => (by rw [h] at hr; cases hr), fun j hj => ?_⟩
    by_cases hji : j = i
    · subst hji; exact hy.mOp hi H
    · have := ready_mono hj hji
      rw [H.1] at this
      cases this
  | succ fuel ih =>
    intro listed a I hfree hr hy H
    refine ⟨fun h => (by rw [h] at hr; cases hr), fun j hj => ?_⟩
    by_cases hji : j = i
    · subst hji; exact hy.mOp hi H
    · have h1 := H.2 j (ready_mono hj hji)
      obtain ⟨hjun, oj, hoj, hall⟩ := mem_ready.1 hj
      have h2 := mOp_put hoj (hfree j oj hoj hji hjun (not_waits hr hall)) (fun cs b => hsel i oi cs b hi) (fun cs b => hsel j oj cs b hoj) hy h1
      have hfree' : ∀ k ok, ops[k]? = some ok → k ≠ i → (listed.setIfInBounds j true).getD k true = false →
          (∀ e ∈ ok.after, Region.binds md e = true → e.on ≠ i) → oi.apart ops ok = true := fun k ok hk hki hun hno => by
        refine hfree k ok hk hki ?_ hno
        by_cases hjk : j = k
        · subst hjk; exact hjun
        · rw [getD_set_ne true hjk] at hun; exact hun
      refine mOp_mono id (fun a' I' h3 => ih (listed.setIfInBounds j true) a' I' hfree' (ready_mono hr (Ne.symm hji)) h3.1 ?_) h2
      rw [Array.setIfInBounds_comm _ _ hji]
      exact h3.2

/-- Until number i comes up nothing but what makes a block does. -/
def onlyMakes (md : Region.Mode) (ops : Array Oper) (i : Nat) : Nat → Array Bool → Bool
  | 0, _ => false
  | fuel + 1, listed => (Region.ready md ops listed).all fun j => j == i || ((ops[j]?).map isMake).getD false && onlyMakes md ops i fuel (listed.setIfInBounds j true)

theorem make_same {o : Oper} {a : Act} {mk mk' : Nat → Value} {obj obj' : Obj} (h : Make1 P o a mk obj) (h' : Make1 P o a mk' obj') : mk' = mk ∧ obj' = obj := by
  have key : ∀ w : World, mk' w.heap.size = mk w.heap.size ∧ w.alloc obj' = w.alloc obj := fun w => by
    have e := (h' w).symm.trans (h w)
    injection e with e1 e2
    injection e1 with e1
    exact ⟨e1, e2⟩
  refine ⟨funext fun n => ?_, ?_⟩
  · have := (key { heap := Array.replicate n obj, tape := fun _ _ => 0, drawn := 0, os := default, output := #[] }).1
    simpa using this
  · have := (key { heap := #[], tape := fun _ _ => 0, drawn := 0, os := default, output := #[] }).2
    have e := congrArg (fun w : World => w.heap[0]?) this
    have a1 : ∀ (w : World) (o : Obj), w.heap = #[] → (w.alloc o).heap[0]? = some o := fun w o hw => by
      have := heap_alloc_new w o
      rwa [hw] at this
    rw [a1 _ _ rfl, a1 _ _ rfl] at e
    exact Option.some.inj e

/-- An operation that makes a block may be taken first, if nothing else but such may come up ahead of it. -/
theorem wpAnyM_make {Q : Act → World → Prop} {i : Nat} {oi : Oper} (hi : ops[i]? = some oi) (hm : isMake oi = true) (hsel : ∀ (j : Nat) (o : Oper) cs b, ops[j]? = some o → o.op ≠ .select cs b) {mk : Nat → Value} {obj : Obj} :
    ∀ (fuel n : Nat) (listed : Array Bool) (a : Act) (I : World → Prop),
      (∀ j oj, ops[j]? = some oj → j ≠ i → listed.getD j true = false → (∀ e ∈ oj.after, Region.binds md e = true → e.on ≠ i) → oi.apart ops oj = true) →
      onlyMakes md ops i n listed = true → i ∈ Region.ready md ops listed → Region.wanted oi (yielded ops a.tmps) = true → Make1 P oi a mk obj →
      (∀ g, wpAnyM P md ops Q fuel (listed.setIfInBounds i true) (a.put oi.dst (mk g)) fun w => I w ∧ w.heap[g]? = some obj) → wpAnyM P md ops Q (fuel + 1) listed a I := by
  intro fuel
  have own : ∀ (fuel : Nat) (listed : Array Bool) (a : Act) (I : World → Prop), Region.wanted oi (yielded ops a.tmps) = true → Make1 P oi a mk obj →
      (∀ g, wpAnyM P md ops Q fuel (listed.setIfInBounds i true) (a.put oi.dst (mk g)) fun w => I w ∧ w.heap[g]? = some obj) → mOp P ops true i (wpAnyM P md ops Q fuel (listed.setIfInBounds i true)) a I := by
    intro fuel listed a I hw hk H
    unfold mOp
    simp only [hi, hw, if_true, hm]
    exact ⟨mk, obj, hk, H⟩
  induction fuel with
  | zero =>
    intro n listed a I _ _ hr hw hk H
    refine ⟨fun h => (by rw [h] at hr; cases hr), fun j hj => ?_⟩
    by_cases hji : j = i
    · subst hji; exact own _ _ _ _ hw hk H
    · have := ready_mono hj hji
      rw [(H 0).1] at this
      cases this
  | succ fuel ih =>
    intro n listed a I hfree hom hr hw hk H
    refine ⟨fun h => (by rw [h] at hr; cases hr), fun j hj => ?_⟩
    by_cases hji : j = i
    · subst hji; exact own _ _ _ _ hw hk H
    · obtain ⟨m, rfl⟩ : ∃ m, n = m + 1 := by
        cases n with
        | zero => cases hom
        | succ m => exact ⟨m, rfl⟩
      have hom' := List.all_eq_true.1 hom j hj
      obtain ⟨hjun, oj, hoj, hall⟩ := mem_ready.1 hj
      simp only [beq_iff_eq, hji, Bool.or_eq_true, false_or, hoj, Option.map_some, Option.getD_some, Bool.and_eq_true] at hom'
      obtain ⟨hmj, hom2⟩ := hom'
      have hap := hfree j oj hoj hji hjun (not_waits hr hall)
      obtain ⟨h1, h2, h3⟩ := Oper.apart_spec hap
      have hsi := fun cs b => hsel i oi cs b hi
      have hsj := fun cs b => hsel j oj cs b hoj
      have hfree' : ∀ k ok, ops[k]? = some ok → k ≠ i → (listed.setIfInBounds j true).getD k true = false →
          (∀ e ∈ ok.after, Region.binds md e = true → e.on ≠ i) → oi.apart ops ok = true := fun k ok hk hki hun hno => by
        refine hfree k ok hk hki ?_ hno
        by_cases hjk : j = k
        · subst hjk; exact hjun
        · rw [getD_set_ne true hjk] at hun; exact hun
      have on : ∀ (u : Value) (I' : World → Prop), (∀ g, wpAnyM P md ops Q fuel ((listed.setIfInBounds i true).setIfInBounds j true) ((a.put oi.dst (mk g)).put oj.dst u) fun w => I' w ∧ w.heap[g]? = some obj) →
          wpAnyM P md ops Q (fuel + 1) (listed.setIfInBounds j true) (a.put oj.dst u) I' := fun u I' hK => by
        refine ih m (listed.setIfInBounds j true) (a.put oj.dst u) I' hfree' hom2 (ready_mono hr (Ne.symm hji)) ?_ ?_ fun g => ?_
        · rw [wanted_put oi a oj.dst u h3]; exact hw
        · unfold Make1 at *; rw [execOp_put oi hsi a oj.dst u h3]; exact hk
        · rw [Array.setIfInBounds_comm _ _ hji, ← Act.put_comm a (mk g) u h2]; exact hK g
      have H1 : ∀ g, mOp P ops true j (wpAnyM P md ops Q fuel ((listed.setIfInBounds i true).setIfInBounds j true)) (a.put oi.dst (mk g)) fun w => I w ∧ w.heap[g]? = some obj := fun g => (H g).2 j (ready_mono hj hji)
      unfold mOp at H1 ⊢
      simp only [hoj, hmj, if_true] at H1 ⊢
      split
      · rename_i hwj
        have H2 : ∀ g, ∃ mk' obj', Make1 P oj (a.put oi.dst (mk g)) mk' obj' ∧ ∀ g', wpAnyM P md ops Q fuel ((listed.setIfInBounds i true).setIfInBounds j true) ((a.put oi.dst (mk g)).put oj.dst (mk' g')) fun w => (I w ∧ w.heap[g]? = some obj) ∧ w.heap[g']? = some obj' := fun g => by
          have := H1 g
          rwa [wanted_put oj a oi.dst (mk g) h1, if_pos hwj] at this
        have hmk : ∀ g mk' obj', Make1 P oj (a.put oi.dst (mk g)) mk' obj' → Make1 P oj a mk' obj' := fun g mk' obj' h => by
          unfold Make1 at *; rwa [execOp_put oj hsj a oi.dst (mk g) h1] at h
        obtain ⟨mkj, objj, k1, _⟩ := H2 0
        refine ⟨mkj, objj, hmk _ _ _ k1, fun g' => on _ _ fun g => ?_⟩
        obtain ⟨mk', obj', k1', k2⟩ := H2 g
        obtain ⟨rfl, rfl⟩ := make_same (hmk _ _ _ k1) (hmk _ _ _ k1')
        have e : (fun w : World => (I w ∧ w.heap[g']? = some obj') ∧ w.heap[g]? = some obj) = fun w => (I w ∧ w.heap[g]? = some obj) ∧ w.heap[g']? = some obj' := funext fun w => propext (and_right_comm)
        rw [e]
        exact k2 g'
      · rename_i hwj
        refine on _ _ fun g => ?_
        have := H1 g
        rwa [wanted_put oj a oi.dst (mk g) h1, if_neg hwj] at this

/-- The walk, in an order of one's own choice: true stands at an operation that comes up alone. -/
def wpM (P : Program) (ops : Array Oper) (Q : Act → World → Prop) : List (Nat × Bool) → Kont
  | [], a, I => ∀ w, I w → Q a w
  | (i, gen) :: rest, a, I => mOp P ops gen i (wpM P ops Q rest) a I

/-- The order may be chosen. -/
def orderM (md : Region.Mode) (ops : Array Oper) : List (Nat × Bool) → Array Bool → Bool
  | [], listed => (Region.ready md ops listed).isEmpty
  | (i, gen) :: rest, listed => (Region.ready md ops listed).contains i && (if gen then Region.ready md ops listed == [i] else Region.free md ops listed i && (!((ops[i]?).map isMake).getD false || onlyMakes md ops i ops.size listed)) && orderM md ops rest (listed.setIfInBounds i true)

theorem wpAnyM_order {Q : Act → World → Prop} (hs : Region.noSelect ops = true) : ∀ (l : List (Nat × Bool)) (listed : Array Bool) (a : Act) (I : World → Prop),
    orderM md ops l listed = true → wpM P ops Q l a I → wpAnyM P md ops Q l.length listed a I
  | [], _, _, _, hB, h => ⟨by simpa [orderM] using hB, h⟩
  | (i, gen) :: rest, listed, a, I, hB, h => by
    simp only [orderM, Bool.and_eq_true] at hB
    obtain ⟨⟨hr, hc⟩, hB'⟩ := hB
    have hr : i ∈ Region.ready md ops listed := by simpa using hr
    obtain ⟨_, oi, hi, _⟩ := mem_ready.1 hr
    have go := fun a' I' hK => wpAnyM_order (Q := Q) hs rest (listed.setIfInBounds i true) a' I' hB' hK
    cases gen with
    | true =>
      simp only [if_true, beq_iff_eq] at hc
      refine ⟨fun h => (by rw [h] at hr; cases hr), fun j hj => ?_⟩
      rw [hc] at hj
      obtain rfl := List.mem_singleton.1 hj
      exact mOp_mono id go h
    | false =>
      simp only [Bool.false_eq_true, if_false, Bool.and_eq_true, hi, Option.map_some, Option.getD_some, Bool.or_eq_true, Bool.not_eq_true'] at hc
      obtain ⟨hf, hmk⟩ := hc
      have hfree := Region.free_spec (md := md) hi hf
      change mOp P ops false i (wpM P ops Q rest) a I at h
      unfold mOp at h
      simp only [hi] at h
      split at h
      · rename_i hw
        split at h
        · rename_i hm
          obtain ⟨mk, obj, k1, k2⟩ := h
          rcases hmk with hmk | hmk
          · rw [hm] at hmk; cases hmk
          · exact wpAnyM_make hi hm (Region.noSelect_spec hs) rest.length ops.size listed a I hfree hmk hr hw k1 fun g => go _ _ (k2 g)
        · rename_i hm
          rcases h with ⟨v, k1, k2⟩ | ⟨hg, _⟩
          · exact wpAnyM_first hi (Region.noSelect_spec hs) rest.length listed a I hfree hr (.inl ⟨hw, by simpa using hm, k1⟩) (go _ _ k2)
          · cases hg
      · rename_i hw
        exact wpAnyM_first hi (Region.noSelect_spec hs) rest.length listed a I hfree hr (.inr ⟨by simpa using hw, rfl⟩) (go _ _ h)

/-- One walk serves every order. -/
theorem wp_region_mix {id : Nat} {Q : Exit → Act → World → Prop} {a : Act} {w : World} (l : List (Nat × Bool)) (I : World → Prop) (hm : P.follows .mixedOrders = true) (hs : Region.noSelect ops = true) (hl : l.length = ops.size)
    (hB : orderM .any ops l (Array.replicate ops.size false) = true) (hI : StableI I) (hw : I w.drew) (h : wpM P ops (Q .normal) l a I) : (Code.region id ops true).wp P Q a w :=
  wp_region_any hm (wpAny_of_M (Q := Q .normal) (fun _ _ h => h) _ _ _ I _ hI hw (by have := wpAnyM_order hs l _ a I hB h; rwa [hl] at this))

end
end Go.Proofs.YtpkcjokkadfhcaaDoor
