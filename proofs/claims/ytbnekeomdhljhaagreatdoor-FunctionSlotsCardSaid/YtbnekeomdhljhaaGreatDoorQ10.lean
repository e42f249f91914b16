/-
  What the laws' own alive answers: true. No conditions.
  A region that draws its order, by what each of its values is, where one operation, number c, writes another slot, that lies ahead of them. No program, no conditions.
  FunctionSlots' walk: what slots are, which are pointers, what they hold at the begin, and results are the document's; what is handed in stays. Conditions: the function's lists, and the values, lie in memory.
  What the rows of opcode share: the condition on the listed package-level variables, opened; an instruction as an argument. No conditions.
  An argument that is a slice of bytes, opened: an address from which a list of bytes stands. No conditions.
  What the rows of opcode share where strings.Cut is called, or bytes come in: the wrap that keeps the world's shape beside the laid variables. No conditions.
-/
import Derived.HandedShaped
import Derived.LaidLaws
import Derived.LaidMore
import Derived.Lib.LaidTab
import Derived.Lib.SmallJoins
import Derived.OpenShut
import Derived.ProofKit
import Derived.Shelf.Vars
import Derived.SizedLaws
import Derived.Stop.LaidErr
import Derived.Test.YtbnekeomdhljhaaGreatDoorQ7
import Derived.Test.YtbnekeomdhljhaaGreatDoorQ9
import Derived.Test.YtbnekeomdhljhaaGreatDoorQ8
import Derived.Test.YtbnekeomdhljhaaGreatDoorQ5
import Derived.Test.YtbnekeomdhljhaaGreatDoorQ6
import Derived.Test.YtbnekeomdhljhaaGreatDoorRows
import Derived.Test.YtbnekeomdhljhaaGreatDoorQ2
namespace Go.Proofs.YtbnekeomdhljhaaGreatDoor.F
open Go.RowKit W

/-- A list of numbers that is owned, as a slice that reads. -/
theorem own_ivs {w : World} {O : Nat → Prop} {u : Value} {l l' : List Int} {n : Nat} (h : Own w 3 1 O u l.length (ivs l)) (he : l = l') (hn : l'.length = n) : ∃ A c, u = .slice A n c ∧ Rd w A (ivs l') := by
  subst he hn
  obtain ⟨A, c, e, _, _, hr, _⟩ := h.form
  exact ⟨A, c, e, hr⟩
theorem own_vvs {w : World} {O : Nat → Prop} {u : Value} {l l' : List (Int × Int)} {n : Nat} (h : Own w 68 2 O u l.length (vvs l)) (he : l = l') (hn : l'.length = n) : ∃ A c, u = .slice A n c ∧ n ≤ c ∧ Rd w A (vvs l') := by
  subst he hn
  obtain ⟨A, c, e, hc, _, hr, _⟩ := h.form
  exact ⟨A, c, e, hc, hr⟩
theorem slots_lit (f : Fu) (l : List Int) (n : Nat) (v : FV) (w : World) (h : FnV f v w) (he : slF f = l) (hn : l.length = n) : Calls Tryz.prog 31 #[v.val] w fun e w' => ∃ A c, e = .returned (.slice A n c) ∧ Rd w' A (ivs l) ∧ Keep NoB w w' := by
  refine (slotsF_any v f w h.1 h.2).mono ?_
  rintro e w' ⟨u, rfl, hO, hk⟩
  obtain ⟨A, c, rfl, hr⟩ := own_ivs hO he hn
  exact ⟨A, c, rfl, hr, hk⟩
theorem pointers_lit (f : Fu) (l : List Int) (n : Nat) (v : FV) (w : World) (h : FnV f v w) (he : ptZ f = l) (hn : l.length = n) : Calls Tryz.prog 33 #[v.val] w fun e w' => ∃ A c, e = .returned (.slice A n c) ∧ Rd w' A (ivs l) ∧ Keep NoB w w' := by
  refine (pointers_any v f w h.1 h.2).mono ?_
  rintro e w' ⟨u, rfl, hO, hk⟩
  obtain ⟨A, c, rfl, hr⟩ := own_ivs hO he hn
  exact ⟨A, c, rfl, hr, hk⟩
theorem begin_lit (f : Fu) (x l : List (Int × Int)) (E : Int) (n m c : Nat) (X : Option Addr) (v : FV) (w : World) (h : FnV f v w) (hx : Rd w X (vvs x)) (hm : x.length = m) (hm1 : m ≤ 100) (he : begL f x = l ∧ begE f x = E) (hn : l.length = n) :
    Calls Tryz.prog 26 #[v.val, .slice X m c] w fun e w' => ∃ A d, e = .returned (.tuple #[.slice A n d, .int .i64 E]) ∧ n ≤ d ∧ Rd w' A (vvs l) ∧ Keep NoB w w' := by
  obtain ⟨he, rfl⟩ := he
  refine (begin_any v f X x m c w h.1 h.2 hx hm hm1).mono ?_
  rintro e w' ⟨u, rfl, hO, hk⟩
  obtain ⟨A, d, rfl, hc, hr⟩ := own_vvs hO he hn
  exact ⟨A, d, rfl, hc, hr, hk⟩

set_option maxRecDepth 100000 in
set_option maxHeartbeats 8000000 in
theorem alive_any (w : World) : Calls Tryz.prog 38 #[] w fun e w' => e = .returned (.bool true) ∧ Keep NoB w w' := by
  have HS := Lib.hid (fun w => some_any w)
  have HI4 := Lib.hid (fun A1 A2 c1 c2 w h1 h2 => ints_any A1 A2 [1, 4, 2, 3] [1, 4, 2, 3] 4 4 c1 c2 w h1 h2 rfl rfl (by decide) (by decide) true (show _ = _ by simp))
  have HI1 := Lib.hid (fun A1 A2 c1 c2 w h1 h2 => ints_any A1 A2 [1] [1] 1 1 c1 c2 w h1 h2 rfl rfl (by decide) (by decide) true (show _ = _ by simp))
  have HV4 := Lib.hid (fun A1 A2 c1 c2 w h1 h2 => W.same_any A1 A2 [(1, 5), (4, 9), (2, 0), (3, 0)] [(1, 5), (4, 9), (2, 0), (3, 0)] 4 4 c1 c2 w h1 h2 rfl rfl (by decide) (by decide) true (show _ = _ by simp))
  go_enter Tryz.func38, Tryz.ntmps38
  go_wp2_with fail
  refine (HS.out _).mono ?_
  rintro e w1 ⟨v1, rfl, h1, gK⟩
  go_wp2_with fail
  refine (slot_any v1 fSome 2 w1 h1.1 h1.2 2 2 0 (by show _ ∧ _; exact ⟨by kernel_rfl, by kernel_rfl, by kernel_rfl⟩)).mono ?_
  rintro e w2 ⟨rfl, k1⟩
  replace gK := keepN gK k1
  clear k1 h1
  go_wp2_with fail
  refine (HS.out _).mono ?_
  rintro e w3 ⟨v2, rfl, h2, k1⟩
  replace gK := keepN gK k1
  clear k1
  go_wp2_with fail
  refine (slot_any v2 fSome 4 w3 h2.1 h2.2 0 0 72 (by show _ ∧ _; exact ⟨by kernel_rfl, by kernel_rfl, by kernel_rfl⟩)).mono ?_
  rintro e w4 ⟨rfl, k1⟩
  replace gK := keepN gK k1
  clear k1 h2
  go_wp2_with fail
  refine (HS.out _).mono ?_
  rintro e w5 ⟨v3, rfl, h3, k1⟩
  replace gK := keepN gK k1
  clear k1
  have kA := (Keep.refl NoB w5).alloc (.cells #[.int .i64 1, .int .i64 5, .int .i64 4, .int .i64 9] 68)
  go_wp2_with fail
  refine (begin_lit fSome [(1, 5), (4, 9)] [(1, 5), (4, 9), (2, 0), (3, 0)] 0 4 2 _ _ v3 _ (h3.keepN kA) (rd_made rfl rfl) rfl (by decide) ⟨by kernel_rfl, by kernel_rfl⟩ rfl).mono ?_
  rintro e w6 ⟨A6, c6, rfl, _, r6, k1⟩
  replace gK := keepN gK (keepN kA k1)
  clear k1 kA h3
  go_wp2_with fail
  refine (HS.out _).mono ?_
  rintro e w7 ⟨v4, rfl, h4, k1⟩
  replace gK := keepN gK k1
  replace r6 := r6.keepN k1
  clear k1
  have kA := (Keep.refl NoB w7).alloc (.cells #[.int .i64 1, .int .i64 5] 68)
  go_wp2_with fail
  refine (begin_lit fSome [(1, 5)] [] 73 0 1 _ _ v4 _ (h4.keepN kA) (rd_made rfl rfl) rfl (by decide) ⟨by kernel_rfl, by kernel_rfl⟩ rfl).mono ?_
  rintro e w8 ⟨A8, c8, rfl, _, _, k1⟩
  replace gK := keepN gK (keepN kA k1)
  replace r6 := r6.keepN (keepN kA k1)
  clear k1 kA h4
  go_wp2_with fail
  refine (HS.out _).mono ?_
  rintro e w9 ⟨v5, rfl, h5, k1⟩
  replace gK := keepN gK k1
  replace r6 := r6.keepN k1
  clear k1
  go_wp2_with fail
  refine (slots_lit fSome [1, 4, 2, 3] 4 v5 w9 h5 (by kernel_rfl) rfl).mono ?_
  rintro e w10 ⟨A10, c10, rfl, r10, k1⟩
  replace gK := keepN gK k1
  replace r6 := r6.keepN k1
  clear k1 h5
  have kA := (Keep.refl NoB w10).alloc (.cells #[.int .i64 1, .int .i64 4, .int .i64 2, .int .i64 3] 3)
  go_wp2_with fail
  refine (HI4.out _ _ _ _ _ (r10.keepN kA) (rd_made rfl rfl)).mono ?_
  rintro e w11 ⟨rfl, k1⟩
  replace gK := keepN gK (keepN kA k1)
  replace r6 := r6.keepN (keepN kA k1)
  clear k1 kA r10
  go_wp2_with fail
  refine (HS.out _).mono ?_
  rintro e w12 ⟨v6, rfl, h6, k1⟩
  replace gK := keepN gK k1
  replace r6 := r6.keepN k1
  clear k1
  go_wp2_with fail
  refine (pointers_lit fSome [1] 1 v6 w12 h6 (by kernel_rfl) rfl).mono ?_
  rintro e w13 ⟨A13, c13, rfl, r13, k1⟩
  replace gK := keepN gK k1
  replace r6 := r6.keepN k1
  clear k1 h6
  have kA := (Keep.refl NoB w13).alloc (.cells #[.int .i64 1] 3)
  go_wp2_with fail
  refine (HI1.out _ _ _ _ _ (r13.keepN kA) (rd_made rfl rfl)).mono ?_
  rintro e w14 ⟨rfl, k1⟩
  replace gK := keepN gK (keepN kA k1)
  replace r6 := r6.keepN (keepN kA k1)
  clear k1 kA r13
  have kA := (Keep.refl NoB w14).alloc (.cells #[.int .i64 1, .int .i64 5, .int .i64 4, .int .i64 9, .int .i64 2, .int .i64 0, .int .i64 3, .int .i64 0] 68)
  go_wp2_with fail
  refine (HV4.out _ _ _ _ _ (r6.keepN kA) (rd_made rfl rfl)).mono ?_
  rintro e w15 ⟨rfl, k1⟩
  replace gK := keepN gK (keepN kA k1)
  clear k1 kA r6
  go_wp2
  go_ret
  exact ⟨rfl, gK⟩

end Go.Proofs.YtbnekeomdhljhaaGreatDoor.F

namespace Go.Proofs.YtbnekeomdhljhaaGreatDoor
open Go.RowKit
section
variable {P : Program} {md : Region.Mode} {ops : Array Oper}

/-- The slot of an operation: that of its number, and number c's. -/
def slX (d0 c e0 i : Nat) : Nat := if i = c then e0 else d0 + i
def propsX (ops : Array Oper) (d0 c e0 : Nat) : Bool := (List.range ops.size).all fun i => match ops[i]? with
  | none => false
  | some o => (match o.dst with
    | none => i == c
    | some d => d == slX d0 c e0 i) && o.after.all fun e => decide (e.on < i)
theorem propsX_at {d0 c e0 : Nat} (h : propsX ops d0 c e0 = true) {i : Nat} {o : Oper} (ho : ops[i]? = some o) : (o.dst = some (slX d0 c e0 i) ∨ (o.dst = none ∧ i = c)) ∧ ∀ e ∈ o.after, e.on < i := by
  have hi := (Array.getElem?_eq_some_iff.1 ho).1
  have h1 := List.all_eq_true.1 h i (List.mem_range.2 hi)
  simp only [ho, Bool.and_eq_true] at h1
  obtain ⟨h1, h3⟩ := h1
  refine ⟨?_, fun e he => ?_⟩
  · cases hd : o.dst with
    | none => rw [hd] at h1; exact .inr ⟨rfl, by simpa using h1⟩
    | some d => rw [hd] at h1; exact .inl (by simpa using h1)
  · have := Array.all_eq_true_iff_forall_mem.1 h3 e he
    simpa using this
theorem no_readyX {d0 c e0 : Nat} (hB : propsX ops d0 c e0 = true) {listed : Array Bool} (hs : listed.size = ops.size) (hr : Region.ready md ops listed = []) : ∀ i, i < ops.size → listed.getD i true = true := by
  intro i
  induction i using Nat.strongRecOn with
  | ind i ih =>
    intro hi
    cases hl : listed.getD i true
    · have ho : ops[i]? = some ops[i] := Array.getElem?_eq_getElem hi
      have : i ∈ Region.ready md ops listed := mem_ready.2 ⟨hl, ops[i], ho, fun e he _ => by
        have he2 := (propsX_at hB ho).2 e he
        have h1 := ih e.on he2 (by omega)
        have h2 : e.on < listed.size := by omega
        simpa [h2] using h1⟩
      rw [hr] at this; cases this
    · rfl
/-- What stands in no operation's slot stays. -/
def FrameX (a0 : Act) (d0 n e0 : Nat) (a : Act) : Prop := a.defers = a0.defers ∧ a.tmps.size = a0.tmps.size ∧ ∀ s, (s < d0 ∨ d0 + n ≤ s) → s ≠ e0 → a.tmps.getD s undef = a0.tmps.getD s undef
theorem FrameX.frame {a0 a : Act} {d0 n e0 : Nat} (h : FrameX a0 d0 n e0 a) (he : e0 < a0.tmps.size) : FrameI (a0.put (some e0) (a.tmps.getD e0 undef)) d0 n a := by
  obtain ⟨h1, h2, h3⟩ := h
  refine ⟨h1, by unfold Act.put; simpa using h2, fun s hs => ?_⟩
  unfold Act.put
  by_cases e : s = e0
  · subst e; simp [he]
  · rw [h3 s hs e]
    simp only [Array.getD_eq_getD_getElem?, Array.getElem?_setIfInBounds]
    rw [if_neg (fun h => e h.symm)]

theorem wpAny_props3 {Q : Exit → Act → World → Prop} (d0 c e0 : Nat) (he0 : e0 < d0) (O : Nat → Prop) (hB : propsX ops d0 c e0 = true) (S : Nat → Value → World → Prop) (w0 : World) (a0 : Act) (hS : ∀ i v w w', Keep O w0 w → S i v w → Keep O w w' → S i v w') (hsz : d0 + ops.size ≤ a0.tmps.size)
    (hstep : ∀ i o (a : Act) (w : World), ops[i]? = some o → i ≠ c → FrameX a0 d0 ops.size e0 a → Keep O w0 w → (∀ e ∈ o.after, Region.binds md e = true → S e.on (a.tmps.getD (slX d0 c e0 e.on) undef) w) → Does P ops o a w fun u w' => S i u w' ∧ Keep NoB w w')
    (hspec : ∀ o (a : Act) (w : World), ops[c]? = some o → FrameX a0 d0 ops.size e0 a → Keep NoB w0 w → (∀ e ∈ o.after, Region.binds md e = true → S e.on (a.tmps.getD (slX d0 c e0 e.on) undef) w) → Does P ops o a w fun u w' => (∀ v, (o.dst.isSome = true → v = u) → S c v w') ∧ Keep O w w')
    (hend : ∀ (a : Act) (w : World), FrameX a0 d0 ops.size e0 a → Keep O w0 w → (∀ i, i < ops.size → S i (a.tmps.getD (slX d0 c e0 i) undef) w) → Q .normal a w) :
    ∀ (fuel : Nat) (listed : Array Bool) (a : Act) (w : World), listed.size = ops.size → (∃ L : List Nat, L.length ≤ fuel ∧ ∀ i, i < ops.size → listed.getD i true = false → i ∈ L) → FrameX a0 d0 ops.size e0 a → Keep O w0 w → (listed.getD c true = false → Keep NoB w0 w) →
      (∀ i, i < ops.size → listed.getD i true = true → S i (a.tmps.getD (slX d0 c e0 i) undef) w) → wpAny P md ops Q fuel listed a w := by
  have hNO : ∀ {X Y : World}, Keep NoB X Y → Keep O X Y := fun h => h.mono (fun _ hf _ => hf.elim)
  intro fuel
  induction fuel with
  | zero =>
    intro listed a w hs ⟨L, hL, hin⟩ hF hK hC hA
    obtain rfl : L = [] := List.length_eq_zero_iff.1 (by omega)
    have hall : ∀ i, i < ops.size → listed.getD i true = true := fun i hi => by
      cases h : listed.getD i true
      · cases hin i hi h
      · rfl
    refine ⟨?_, hend a w hF hK fun i hi => hA i hi (hall i hi)⟩
    rw [List.eq_nil_iff_forall_not_mem]
    intro i hi
    obtain ⟨h1, o, ho, _⟩ := mem_ready.1 hi
    rw [hall i (Array.getElem?_eq_some_iff.1 ho).1] at h1; cases h1
  | succ fuel ih =>
    intro listed a w hs ⟨L, hL, hin⟩ hF hK hC hA
    refine ⟨fun h0 => hend a w hF hK fun i hi => hA i hi (no_readyX hB hs h0 i hi), fun i hi => ?_⟩
    obtain ⟨h1, o, ho, hall⟩ := mem_ready.1 hi
    have hi' := (Array.getElem?_eq_some_iff.1 ho).1
    obtain ⟨hd, hlt⟩ := propsX_at hB ho
    have hdeps : ∀ e ∈ o.after, Region.binds md e = true → S e.on (a.tmps.getD (slX d0 c e0 e.on) undef) w := fun e he hb => by
      have h2 := hall e he hb
      have h3 := hlt e he
      refine hA e.on (by omega) ?_
      have h4 : e.on < listed.size := by omega
      simpa [h4] using h2
    have hKO : (if i = c then Keep NoB w0 w else True) := by
      split
      · rename_i e; subst e; exact hC h1
      · trivial
    have hdoes : Does P ops o a w fun u w' => (∀ v, (o.dst.isSome = true → v = u) → S i v w') ∧ Keep O w w' ∧ (i ≠ c → Keep NoB w w') := by
      by_cases e : i = c
      · subst e
        rw [if_pos rfl] at hKO
        rcases hspec o a w ho hF hKO hdeps with ⟨hw, hy⟩ | ⟨hw, h2, h3⟩
        · refine .inl ⟨hw, ?_⟩
          unfold yieldsK at hy ⊢
          exact yieldsR_mono (fun u w' ⟨h2, h3⟩ => ⟨h2, h3, fun h => absurd rfl h⟩) _ _ hy
        · exact .inr ⟨hw, h2, h3, fun h => absurd rfl h⟩
      · have hsome : o.dst.isSome = true := by
          rcases hd with h | ⟨_, h⟩
          · rw [h]; rfl
          · exact absurd h e
        rcases hstep i o a w ho e hF hK hdeps with ⟨hw, hy⟩ | ⟨hw, h2, h3⟩
        · refine .inl ⟨hw, ?_⟩
          unfold yieldsK at hy ⊢
          exact yieldsR_mono (fun u w' ⟨h2, h3⟩ => ⟨fun v hv => by rw [hv hsome]; exact h2, hNO h3, fun _ => h3⟩) _ _ hy
        · exact .inr ⟨hw, fun v hv => by rw [hv hsome]; exact h2, hNO h3, fun _ => h3⟩
    have hnext : ∀ u w', (∀ v, (o.dst.isSome = true → v = u) → S i v w') → Keep O w w' → (i ≠ c → Keep NoB w w') → wpAny P md ops Q fuel (listed.setIfInBounds i true) (a.put o.dst u) w' := by
      intro u w' hSu hk hkn
      have hfr : FrameX a0 d0 ops.size e0 (a.put o.dst u) ∧ (∀ k, k < ops.size → k ≠ i → (a.put o.dst u).tmps.getD (slX d0 c e0 k) undef = a.tmps.getD (slX d0 c e0 k) undef) ∧ (o.dst.isSome = true → (a.put o.dst u).tmps.getD (slX d0 c e0 i) undef = u) := by
        rcases hd with hd | ⟨hd, _⟩
        · rw [hd]
          have hds : slX d0 c e0 i < a.tmps.size := by rw [hF.2.1]; unfold slX; split <;> omega
          have hget : ∀ s, (a.put (some (slX d0 c e0 i)) u).tmps.getD s undef = if s = slX d0 c e0 i then u else a.tmps.getD s undef := fun s => by
            unfold Act.put
            by_cases e : s = slX d0 c e0 i
            · subst e; simp [hds]
            · rw [if_neg e]
              simp only [Array.getD_eq_getD_getElem?, Array.getElem?_setIfInBounds]
              rw [if_neg (fun h => e h.symm)]
          refine ⟨⟨hF.1, by unfold Act.put; simpa using hF.2.1, fun s hs' hse => ?_⟩, fun k hk' hki => ?_, fun _ => ?_⟩
          · rw [hget, if_neg (by unfold slX; split <;> omega)]; exact hF.2.2 s hs' hse
          · rw [hget, if_neg (by unfold slX; split <;> split <;> omega)]
          · rw [hget, if_pos rfl]
        · rw [hd]
          exact ⟨hF, fun _ _ _ => rfl, fun h => by cases h⟩
      obtain ⟨hF', hother, hself⟩ := hfr
      refine ih (listed.setIfInBounds i true) _ w' (by simpa using hs) ⟨L.erase i, ?_, fun k hk' hl => ?_⟩ hF' (hK.trans hk (fun _ h _ => h)) (fun hl => ?_) fun k hk' hl => ?_
      · rw [List.length_erase_of_mem (hin i hi' h1)]; omega
      · have hki : k ≠ i := by
          rintro rfl
          have : k < listed.size := by omega
          simp [this] at hl
        have hl2 : listed.getD k true = false := by rw [getD_set_ne true (Ne.symm hki)] at hl; exact hl
        exact (List.mem_erase_of_ne hki).2 (hin k hk' hl2)
      · have hci : c ≠ i := by
          rintro rfl
          have : c < listed.size := by omega
          simp [this] at hl
        rw [getD_set_ne true (Ne.symm hci)] at hl
        exact keepN (hC hl) (hkn (Ne.symm hci))
      · by_cases e : k = i
        · subst e
          exact hSu _ hself
        · rw [hother k hk' e]
          exact hS k _ _ _ hK (hA k hk' (by rw [getD_set_ne true (Ne.symm e)] at hl; exact hl)) hk
    unfold wpOp
    simp only [ho]
    rcases hdoes with ⟨hw, hy⟩ | ⟨hw, h2, h3, h4⟩
    · rw [if_pos hw]
      exact .inl (Oper.wp_of_yields hy fun u w' ⟨h2, h3, h4⟩ => hnext u w' h2 h3 h4)
    · rw [if_neg (by rw [hw]; decide)]
      exact hnext undef w h2 h3 h4
theorem wp_region_props3 {id : Nat} {Q : Exit → Act → World → Prop} {a0 : Act} {w : World} (d0 c e0 : Nat) (he0 : e0 < d0) (O : Nat → Prop) (hm : P.follows .mixedOrders = true) (hB : propsX ops d0 c e0 = true) (S : Nat → Value → World → Prop) (hS : ∀ i v w1 w', Keep O w w1 → S i v w1 → Keep O w1 w' → S i v w') (hsz : d0 + ops.size ≤ a0.tmps.size)
    (hstep : ∀ i o (a : Act) (w' : World), ops[i]? = some o → i ≠ c → FrameX a0 d0 ops.size e0 a → Keep O w w' → (∀ e ∈ o.after, Region.binds .any e = true → S e.on (a.tmps.getD (slX d0 c e0 e.on) undef) w') → Does P ops o a w' fun u w'' => S i u w'' ∧ Keep NoB w' w'')
    (hspec : ∀ o (a : Act) (w' : World), ops[c]? = some o → FrameX a0 d0 ops.size e0 a → Keep NoB w w' → (∀ e ∈ o.after, Region.binds .any e = true → S e.on (a.tmps.getD (slX d0 c e0 e.on) undef) w') → Does P ops o a w' fun u w'' => (∀ v, (o.dst.isSome = true → v = u) → S c v w'') ∧ Keep O w' w'')
    (hend : ∀ (a : Act) (w' : World), FrameX a0 d0 ops.size e0 a → Keep O w w' → (∀ i, i < ops.size → S i (a.tmps.getD (slX d0 c e0 i) undef) w') → Q .normal a w') : (Code.region id ops true).wp P Q a0 w :=
  wp_region_any hm (wpAny_props3 d0 c e0 he0 O hB S w a0 hS hsz hstep hspec hend _ _ a0 w.drew (by simp) ⟨List.range ops.size, by simp, fun i hi _ => List.mem_range.2 hi⟩ ⟨rfl, rfl, fun _ _ _ => rfl⟩ (Keep.refl O w).drew (fun _ => (Keep.refl NoB w).drew) fun i hi hl => by
    simp [hi] at hl)
end
end Go.Proofs.YtbnekeomdhljhaaGreatDoor

namespace Go.Proofs.YtbnekeomdhljhaaGreatDoor.F
open Go.RowKit W

theorem rd_after {w w' : World} {O : Nat → Prop} {A : Option Addr} {xs : List Value} (h : Rd w A xs) (hk : Keep O w w') (hO : ∀ k, O k → w.heap.size ≤ k) : Rd w' A xs := fun h0 => by
  obtain ⟨g, off, e, hc⟩ := h h0
  refine ⟨g, off, e, fun j u hu => hk.cell (hc j u hu) (fun ho => ?_)⟩
  have := World.block_lt_of_cell? w _ (hc j u hu)
  have := hO _ ho
  simp at *; omega
theorem own_bare {W : World} {E : TypeId} {size b : Nat} (hb : b = W.heap.size) : (W.alloc (.cells #[] E)).ownsRow 0 E size (.slice (some ⟨b, 0, none⟩) 0 0) 0 [] := by
  subst hb; exact World.ownsRow_made W #[] 0 (Nat.zero_le _) (Nat.zero_le _) (by simp)
/-- A row of values whose numbers may be written: its block, whole. -/
def WipeV (A : Option Addr) (m lo hi : Nat) (w : World) : Prop := 0 < m → ∃ g, A = some ⟨g, 0, none⟩ ∧ lo ≤ g ∧ g < hi ∧ ∃ cur, Blk w g 68 cur ∧ ∀ j, j < m → ∃ t : Int, cur[j * 2 + 1]? = some (.int .i64 t)
theorem wipeV_of {w0 w : World} {A : Option Addr} {m c : Nat} {l : List (Int × Int)} (hm : l.length = m) (h : Own w 68 2 (Fresh w0) (.slice A m c) m (vvs l)) : WipeV A m w0.heap.size w.heap.size w := fun h0 => by
  obtain ⟨A', c', e, _, _, hr, ha⟩ := h.form
  injection e with e1 e2 e3
  subst e1
  obtain ⟨g, off, rfl, hc⟩ := rdV_at hr (by omega)
  obtain ⟨h1, h2⟩ := ha _ rfl
  obtain rfl : off = 0 := congrArg Addr.off h2
  have hl := own_lt h (g := g) rfl
  rcases h.1.2 with ⟨e, _⟩ | ⟨g', cap, cur, e, _, hh, _⟩
  · cases e
  · injection e with e1 _ _
    injection e1 with e1
    injection e1 with e1
    subst e1
    refine ⟨g, rfl, h1, hl, cur, hh, fun j hj => ?_⟩
    have h3 := (hc j (by omega)).2
    have h4 := Blk.cell (show Blk w g 68 cur from hh) (j * 2 + 1)
    rw [Nat.zero_add] at h3
    exact ⟨_, h4.symm.trans h3⟩
theorem WipeV.keep {A : Option Addr} {m lo hi : Nat} {w w' : World} {O : Nat → Prop} (h : WipeV A m lo hi w) (hk : Keep O w w') (hO : ∀ k, lo ≤ k → k < hi → ¬ O k) : WipeV A m lo hi w' := fun hm => by
  obtain ⟨g, e, h1, h2, cur, hb, hc⟩ := h hm
  exact ⟨g, e, h1, h2, cur, hb.keep hk (hO g h1 h2), hc⟩
/-- One number put into it. -/
theorem WipeV.put {m lo hi g : Nat} {w : World} {cur : Array Value} (h1 : lo ≤ g) (h2 : g < hi) (hb : Blk w g 68 cur) (hc : ∀ j, j < m → ∃ t : Int, cur[j * 2 + 1]? = some (.int .i64 t)) (i : Nat) (z : Int) : WipeV (some ⟨g, 0, none⟩) m lo hi (w.setCell ⟨g, i, none⟩ (.int .i64 z)) := fun _ =>
  ⟨g, rfl, h1, h2, _, hb.put i _, fun j hj => by
    obtain ⟨t, ht⟩ := hc j hj
    have hsz := (Array.getElem?_eq_some_iff.1 ht).1
    by_cases e : i = j * 2 + 1
    · subst e; exact ⟨z, by simp [hsz]⟩
    · exact ⟨t, by rw [Array.getElem?_setIfInBounds, if_neg e]; exact ht⟩⟩

/-- What the values are that the law's region yields. -/
def SF (v : FV) (ls lp : List Int) (W0 T0 E0 eb er : Int) (a b c d : Value) : Nat → Value → World → Prop
  | 0 => fun u _ => u = v.val
  | 1 => fun u w => ∃ A c, u = .slice A ls.length c ∧ Rd w A (ivs ls)
  | 2 => fun u _ => u = v.val
  | 3 => fun u w => ∃ A c, u = .slice A ls.length c ∧ Rd w A (ivs ls)
  | 4 => fun u _ => u = .bool true
  | 5 => fun u _ => u = .bool true
  | 6 => fun u _ => u = v.val
  | 7 => fun u w => ∃ A c, u = .slice A lp.length c ∧ Rd w A (ivs lp)
  | 8 => fun u _ => u = v.val
  | 9 => fun u w => ∃ A c, u = .slice A lp.length c ∧ Rd w A (ivs lp)
  | 10 => fun u _ => u = .bool true
  | 11 => fun u _ => u = .bool true
  | 12 => fun u _ => u = .bool true
  | 13 => fun u _ => u = .int .i64 W0
  | 14 => fun u _ => u = .int .i64 W0
  | 15 => fun u _ => u = .bool true
  | 16 => fun u _ => u = .bool true
  | 17 => fun u _ => u = .bool true
  | 18 => fun u _ => u = .int .i64 T0
  | 19 => fun u _ => u = .int .i64 T0
  | 20 => fun u _ => u = .bool true
  | 21 => fun u _ => u = .bool true
  | 22 => fun u _ => u = .bool true
  | 23 => fun u _ => u = .int .i64 E0
  | 24 => fun u _ => u = .int .i64 E0
  | 25 => fun u _ => u = .bool true
  | 26 => fun u _ => u = .bool true
  | 27 => fun u _ => u = .bool true
  | 28 => fun u _ => u = a
  | 29 => fun u _ => u = b
  | 30 => fun u _ => u = .bool true
  | 31 => fun u _ => u = .bool true
  | 32 => fun u _ => u = .bool true
  | 33 => fun u _ => u = .int .i64 eb
  | 34 => fun u _ => u = .int .i64 eb
  | 35 => fun u _ => u = .bool true
  | 36 => fun u _ => u = .bool true
  | 37 => fun u _ => u = .bool true
  | 38 => fun u _ => u = c
  | 39 => fun u _ => u = d
  | 40 => fun u _ => u = .bool true
  | 41 => fun u _ => u = .bool true
  | 42 => fun u _ => u = .bool true
  | 43 => fun u _ => u = .int .i64 er
  | 44 => fun u _ => u = .int .i64 er
  | 45 => fun u _ => u = .bool true
  | 46 => fun u _ => u = .bool true
  | 47 => fun u _ => u = .bool true
  | _ => fun _ _ => True
theorem SF_stable (v : FV) (ls lp : List Int) (W0 T0 E0 eb er : Int) (a b c d : Value) : ∀ i u w w', SF v ls lp W0 T0 E0 eb er a b c d i u w → Keep NoB w w' → SF v ls lp W0 T0 E0 eb er a b c d i u w'
  | 0, _, _, _, h, _ => h
  | 1, _, _, _, ⟨A, c, e, h⟩, hk => ⟨A, c, e, h.keepN hk⟩
  | 2, _, _, _, h, _ => h
  | 3, _, _, _, ⟨A, c, e, h⟩, hk => ⟨A, c, e, h.keepN hk⟩
  | 4, _, _, _, h, _ => h
  | 5, _, _, _, h, _ => h
  | 6, _, _, _, h, _ => h
  | 7, _, _, _, ⟨A, c, e, h⟩, hk => ⟨A, c, e, h.keepN hk⟩
  | 8, _, _, _, h, _ => h
  | 9, _, _, _, ⟨A, c, e, h⟩, hk => ⟨A, c, e, h.keepN hk⟩
  | 10, _, _, _, h, _ => h
  | 11, _, _, _, h, _ => h
  | 12, _, _, _, h, _ => h
  | 13, _, _, _, h, _ => h
  | 14, _, _, _, h, _ => h
  | 15, _, _, _, h, _ => h
  | 16, _, _, _, h, _ => h
  | 17, _, _, _, h, _ => h
  | 18, _, _, _, h, _ => h
  | 19, _, _, _, h, _ => h
  | 20, _, _, _, h, _ => h
  | 21, _, _, _, h, _ => h
  | 22, _, _, _, h, _ => h
  | 23, _, _, _, h, _ => h
  | 24, _, _, _, h, _ => h
  | 25, _, _, _, h, _ => h
  | 26, _, _, _, h, _ => h
  | 27, _, _, _, h, _ => h
  | 28, _, _, _, h, _ => h
  | 29, _, _, _, h, _ => h
  | 30, _, _, _, h, _ => h
  | 31, _, _, _, h, _ => h
  | 32, _, _, _, h, _ => h
  | 33, _, _, _, h, _ => h
  | 34, _, _, _, h, _ => h
  | 35, _, _, _, h, _ => h
  | 36, _, _, _, h, _ => h
  | 37, _, _, _, h, _ => h
  | 38, _, _, _, h, _ => h
  | 39, _, _, _, h, _ => h
  | 40, _, _, _, h, _ => h
  | 41, _, _, _, h, _ => h
  | 42, _, _, _, h, _ => h
  | 43, _, _, _, h, _ => h
  | 44, _, _, _, h, _ => h
  | 45, _, _, _, h, _ => h
  | 46, _, _, _, h, _ => h
  | 47, _, _, _, h, _ => h
  | _ + 48, _, _, _, h, _ => h

set_option maxRecDepth 100000 in
set_option maxHeartbeats 16000000 in
theorem slots_walk (v : FV) (f : Fu) (i : Int) (X1 : Option Addr) (x1 : List (Int × Int)) (cx1 : Nat) (X2 : Option Addr) (x2 : List (Int × Int)) (cx2 : Nat) (w : World) (h : FnAt w v f) (hx1 : Rd w X1 (vvs x1)) (hx2 : Rd w X2 (vvs x2)) :
    Calls Tryz.prog 4 #[v.val, .int .i64 i, .slice X1 x1.length cx1, .slice X2 x2.length cx2] w fun e w' => e = .returned (.bool true) ∧ Keep NoB w w' := by
  have bx := Blk.new w 27 v.cells
  have k0 := (Keep.refl NoB w).alloc (.cells v.cells 27)
  have HF := Lib.hid (h.keepN k0)
  have HX := Lib.hid bx
  have HR1 := Lib.hid (hx1.keepN k0)
  have HR2 := Lib.hid (hx2.keepN k0)
  obtain ⟨m1, hm1⟩ : ∃ m, x1.length = m := ⟨_, rfl⟩
  obtain ⟨m2, hm2⟩ : ∃ m, x2.length = m := ⟨_, rfl⟩
  rw [hm1, hm2]
  have HM1 := Lib.hid hm1
  have HM2 := Lib.hid hm2
  clear hm1 hm2 hx1 hx2
  by_cases hs : SmF v
  · have HG := Lib.hid (fun w => great_no v w hs)
    by_cases hq1 : m1 ≤ 100
    · by_cases hq2 : m2 ≤ 100
      · skip
        obtain ⟨i0, hi, hz0, hz1, hz2⟩ := info_parts val_info
        obtain ⟨W0, hW0⟩ : ∃ z, slW f i = z := ⟨_, rfl⟩
        obtain ⟨T0, hT0⟩ : ∃ z, slT f i = z := ⟨_, rfl⟩
        obtain ⟨E0, hE0⟩ : ∃ z, slE f i = z := ⟨_, rfl⟩
        have HSl := Lib.hid (fun w1 hk => slot_any v f i w1 (HF.out.keepN hk) hs W0 T0 E0 (Lib.hid ⟨hW0, hT0, hE0⟩))
        have HRs := Lib.hid (fun w1 hk => rslot_any v f i w1 (HF.out.keepN hk) hs W0 T0 E0 (Lib.hid ⟨hW0, hT0, hE0⟩))
        have HBg := Lib.hid (fun A c w1 hk hr => begin_any v f A x1 m1 c w1 (HF.out.keepN hk) hs hr HM1 hq1)
        have HRb := Lib.hid (fun w1 hk => rbegin_any v f X1 x1 m1 cx1 w1 (HF.out.keepN hk) hs (HR1.out.keepN hk) HM1 hq1)
        have HRe := Lib.hid (fun A c w1 hk hr hc => results_any v f A x2 m2 c w1 (HF.out.keepN hk) hs hr HM2 (by omega) hc)
        have HRr := Lib.hid (fun w1 hk => rresults_any v f X2 x2 m2 cx2 w1 (HF.out.keepN hk) hs (HR2.out.keepN hk) HM2 (by omega))
        have HSs := Lib.hid (fun w1 hk => slotsF_any v f w1 (HF.out.keepN hk) hs)
        have HRS := Lib.hid (fun w1 hk => rslots_any v f w1 (HF.out.keepN hk) hs)
        have HPt := Lib.hid (fun w1 hk => pointers_any v f w1 (HF.out.keepN hk) hs)
        have HRP := Lib.hid (fun w1 hk => rpointers_any v f w1 (HF.out.keepN hk) hs)
        have HS1 := Lib.hid (fun A c w1 hk hr => same_any A X1 x1 x1 m1 m1 c cx1 w1 hr (rd_after (HR1.out.keepN hk) (Keep.refl (Fresh w1) w1) (fun _ h => h)) HM1 HM1 (by omega) (by omega) true (Lib.hid (by simp)))
        have HbL : (begL f x1).length ≤ 400 := by
          unfold begL
          split
          · rename_i hh
            rw [begV_len hh.2, sl_length, h.la, h.lb, h.ll]; have := hs.na; have := hs.nb; have := hs.nl; omega
          · simp
        have HrL : (resL f x2).length ≤ 400 := by
          unfold resL
          split
          · rename_i hh
            rw [resV_len hh.2, h.lb]; have := hs.nb; omega
          · simp
        have HlS : Hid ((slF f).length ≤ 400) := by
          show _ ≤ _
          cases ho : okF f
          · rw [slF_no ho]; simp
          · rw [slF_ok ho, sl_length, h.la, h.lb, h.ll]; have := hs.na; have := hs.nb; have := hs.nl; omega
        have HlP : Hid ((ptZ f).length ≤ 400) := by
          show _ ≤ _
          have h2 : (ptZ f).length ≤ (sl f).length := by
            unfold ptZ ptrF
            rw [List.length_map]
            split
            · unfold ptr; exact Nat.le_trans (List.length_filter_le _ _) (by simp)
            · simp
          rw [sl_length, h.la, h.lb, h.ll] at h2; have := hs.na; have := hs.nb; have := hs.nl; omega
        generalize slF f = ls at HSs HRS HlS
        generalize ptZ f = lp at HPt HRP HlP
        generalize begL f x1 = bl at HBg HRb HbL
        generalize resL f x2 = rl at HRe HRr HrL
        generalize begE f x1 = eb at HBg HRb
        generalize resE f x2 = er at HRe HRr
        obtain ⟨nb1, hnb1⟩ : ∃ m, bl.length = m := ⟨_, rfl⟩
        obtain ⟨nr1, hnr1⟩ : ∃ m, rl.length = m := ⟨_, rfl⟩
        rw [hnb1] at HBg HRb HbL
        rw [hnr1] at HRe HRr HrL
        have HNB := Lib.hid hnb1
        have HNR := Lib.hid hnr1
        have HXL1 : Hid ((vvs x1).length = m1 * 2) := by show _ = _; rw [vvs_length, HM1.out]
        have HV1 := Lib.hid (vvs_one x1)
        have HXL2 : Hid ((vvs x2).length = m2 * 2) := by show _ = _; rw [vvs_length, HM2.out]
        have HV2 := Lib.hid (vvs_one x2)
        obtain ⟨s0, A, na, ca, B, nb, cb, L, nl, cl, D, nd, cd⟩ := v
        unfold FV.val FV.cells at *
        clear bx h hs hW0 hT0 hE0 hnb1 hnr1 HS1
        go_enter Tryz.func4, Tryz.ntmps4
        obtain ⟨c0, c1, c2, c3, c4⟩ := blk5 (v := ⟨s0, A, na, ca, B, nb, cb, L, nl, cl, D, nd, cd⟩) HX.out
        dsimp only at c0 c1 c2 c3 c4
        go_wp2_with fail
        refine (HG.out _).mono ?_
        rintro e w1 ⟨rfl, k1⟩
        have HY1 := Lib.hid (HR1.out.keepN k1)
        have HY2 := Lib.hid (HR2.out.keepN k1)
        clear c0 c1 c2 c3 c4
        obtain ⟨c0, c1, c2, c3, c4⟩ := blk5 (v := ⟨s0, A, na, ca, B, nb, cb, L, nl, cl, D, nd, cd⟩) (HX.out.keep k1 id)
        dsimp only at c0 c1 c2 c3 c4
        go_wp2_with (first
          | (at_builtin; refine wpList_append_rd _ rfl (.tmp 42) (.tmp 43) _ rfl 68 2 16 i0 _ Tryz.underlying53 hi hz0 hz1 hz2 rfl (by decide) _ 0 [] X1 m1 cx1 (vvs x1) rfl (own_bare rfl) rfl (HY1.out.keepN ((Keep.refl NoB w1).alloc _)) HXL1.out HV1.out (by unfold maxLen; omega) (by omega) ?_; intro A5 c5 w5 hrow5 hg5 hv5; rw [Nat.zero_add] at hrow5 hv5 ⊢; rw [List.nil_append] at hrow5; obtain ⟨hO5, hK5⟩ := own_after (w := w1) (fun g e => by cases e; exact Nat.le_refl _) ((Keep.refl NoB w1).alloc _) hg5 hv5 hrow5; have hY2 := HY2.out.keepN hK5; clear hrow5 hg5 hv5)
          | (at_builtin; refine wpList_append_rd _ rfl (.tmp 45) (.tmp 46) _ rfl 68 2 16 i0 _ Tryz.underlying53 hi hz0 hz1 hz2 rfl (by decide) _ 0 [] X2 m2 cx2 (vvs x2) rfl (own_bare rfl) rfl (hY2.keepN ((Keep.refl NoB w5).alloc _)) HXL2.out HV2.out (by unfold maxLen; omega) (by omega) ?_; intro A7 c7 w7 hrow7 hg7 hv7; rw [Nat.zero_add] at hrow7 hv7 ⊢; rw [List.nil_append] at hrow7; obtain ⟨hO7, hK7⟩ := own_after (w := w5) (fun g e => by cases e; exact Nat.le_refl _) ((Keep.refl NoB w5).alloc _) hg7 hv7 hrow7; clear hrow7 hg7 hv7; have hk7 := keepN k1 (keepN hK5 hK7); clear c0 c1 c2 c3 c4; obtain ⟨c0, c1, c2, c3, c4⟩ := blk5 (v := ⟨s0, A, na, ca, B, nb, cb, L, nl, cl, D, nd, cd⟩) (HX.out.keep hk7 id); dsimp only at c0 c1 c2 c3 c4))
        obtain ⟨A5', c5', e5, _, _, r5, _⟩ := (hO5.keepN hK7).form
        injection e5 with e51 _ e52
        subst e51 e52
        obtain ⟨A7', c7', e7, hc7, _, r7, _⟩ := hO7.form
        injection e7 with e71 _ e72
        subst e71 e72
        have HO5 := Lib.hid r5
        have HO7 := Lib.hid r7
        have HC7 := Lib.hid hc7
        have HK7 := Lib.hid hk7
        clear hO5 hO7 hK5 hK7 hk7 k1 r5 r7 hc7 hY2 HY1 HY2 HG
        refine (HSl.out _ HK7.out).mono ?_
        rintro e w8 ⟨rfl, k8⟩
        have g8 := keepN HK7.out k8
        clear c0 c1 c2 c3 c4
        obtain ⟨c0, c1, c2, c3, c4⟩ := blk5 (v := ⟨s0, A, na, ca, B, nb, cb, L, nl, cl, D, nd, cd⟩) (HX.out.keep g8 id)
        dsimp only at c0 c1 c2 c3 c4
        go_wp2_with fail
        refine (HRs.out _ g8).mono ?_
        rintro e w9 ⟨rfl, k9⟩
        replace k9 := keepN k8 k9
        have g9 := keepN HK7.out k9
        clear g8 k8
        clear c0 c1 c2 c3 c4
        obtain ⟨c0, c1, c2, c3, c4⟩ := blk5 (v := ⟨s0, A, na, ca, B, nb, cb, L, nl, cl, D, nd, cd⟩) (HX.out.keep g9 id)
        dsimp only at c0 c1 c2 c3 c4
        go_wp2_with fail
        refine (HBg.out _ _ _ g9 (HO5.out.keepN k9)).mono ?_
        rintro e w10 ⟨u, rfl, hOa, k10⟩
        obtain ⟨Ba, ba, rfl, _, _, ra, _⟩ := hOa.form
        have WA := Lib.hid (wipeV_of HNB.out hOa)
        have z9 := k9.size
        have z9' := k10.size
        replace k10 := keepN k9 k10
        have g10 := keepN HK7.out k10
        clear g9 k9 hOa
        clear c0 c1 c2 c3 c4
        obtain ⟨c0, c1, c2, c3, c4⟩ := blk5 (v := ⟨s0, A, na, ca, B, nb, cb, L, nl, cl, D, nd, cd⟩) (HX.out.keep g10 id)
        dsimp only at c0 c1 c2 c3 c4
        go_wp2_with fail
        refine (HRb.out _ g10).mono ?_
        rintro e w11 ⟨u, rfl, hOb, k11⟩
        obtain ⟨Bb, bb, rfl, _, _, rb, _⟩ := hOb.form
        have WA2 := Lib.hid (WA.out.keep k11 (fun _ _ _ => id))
        replace ra := ra.keepN k11
        have z10 := k11.size
        replace k11 := keepN k10 k11
        have g11 := keepN HK7.out k11
        clear g10 k10 hOb WA
        clear c0 c1 c2 c3 c4
        obtain ⟨c0, c1, c2, c3, c4⟩ := blk5 (v := ⟨s0, A, na, ca, B, nb, cb, L, nl, cl, D, nd, cd⟩) (HX.out.keep g11 id)
        dsimp only at c0 c1 c2 c3 c4
        go_wp2_with fail
        refine (HRe.out _ _ _ g11 (HO7.out.keepN k11) HC7.out).mono ?_
        rintro e w12 ⟨u, rfl, hOc, k12⟩
        obtain ⟨Ca, cc, rfl, _, _, rc, _⟩ := hOc.form
        have WC := Lib.hid (wipeV_of HNR.out hOc)
        have WA := Lib.hid (WA2.out.keep k12 (fun _ _ _ => id))
        replace ra := ra.keepN k12
        replace rb := rb.keepN k12
        have z11b := k12.size
        replace k12 := keepN k11 k12
        have g12 := keepN HK7.out k12
        clear g11 k11 hOc WA2
        clear c0 c1 c2 c3 c4
        obtain ⟨c0, c1, c2, c3, c4⟩ := blk5 (v := ⟨s0, A, na, ca, B, nb, cb, L, nl, cl, D, nd, cd⟩) (HX.out.keep g12 id)
        dsimp only at c0 c1 c2 c3 c4
        go_wp2_with fail
        refine (HRr.out _ g12).mono ?_
        rintro e w13 ⟨u, rfl, hOd, k13⟩
        obtain ⟨Da, dd, rfl, _, _, rd, _⟩ := hOd.form
        have WC2 := Lib.hid (WC.out.keep k13 (fun _ _ _ => id))
        have WA2 := Lib.hid (WA.out.keep k13 (fun _ _ _ => id))
        have HRa := Lib.hid (ra.keepN k13)
        have HRB := Lib.hid (rb.keepN k13)
        have HRc := Lib.hid (rc.keepN k13)
        have HRd := Lib.hid rd
        have z12 := k13.size
        replace k13 := keepN k12 k13
        have HG13 := Lib.hid (keepN HK7.out k13)
        have HK13 := Lib.hid k13
        clear g12 k12 hOd WC WA ra rb rc rd k13 HBg HRb HRe HRr HSl HRs
        clear c0 c1 c2 c3 c4
        obtain ⟨q0, q1, q2, q3, q4⟩ := blk5 (v := ⟨s0, A, na, ca, B, nb, cb, L, nl, cl, D, nd, cd⟩) (HX.out.keep HG13.out id)
        dsimp only at q0 q1 q2 q3 q4
        go_wp2_with fail
        refine wp_region_props3 86 47 25 (by decide) (NoB) (by kernel_rfl) (by kernel_rfl) (SF ⟨s0, A, na, ca, B, nb, cb, L, nl, cl, D, nd, cd⟩ ls lp W0 T0 E0 eb er (.slice Ba nb1 ba) (.slice Bb nb1 bb) (.slice Ca nr1 cc) (.slice Da nr1 dd)) (fun i u x y _ h hk => SF_stable _ _ _ _ _ _ _ _ _ _ _ _ i u x y h hk) (of_decide_eq_true rfl) ?step ?spec ?fin
        case step =>
          intro i o a w' ho hic hF hK hA
          have hi : i < 48 := by simpa using (Array.getElem?_eq_some_iff.1 ho).1
          by_cases h0 : i = 0
          · subst h0
            simp only [List.getElem?_toArray, List.getElem?_cons_zero, Option.some.injEq] at ho
            subst ho
            have e4 : a.tmps.getD 4 undef = .pointer (some ⟨w.heap.size, 0, none⟩) := hF.2.2 4 (.inl (by decide)) (by decide)
            have c0 := Keep.cell hK q0 id
            have c1 := Keep.cell hK q1 id
            have c2 := Keep.cell hK q2 id
            have c3 := Keep.cell hK q3 id
            have c4 := Keep.cell hK q4 id
            refine Does.plain rfl ?_
            unfold yieldsK
            go_simp
            exact ⟨rfl, Keep.refl _ _⟩
          by_cases h1 : i = 1
          · subst h1
            simp only [List.getElem?_toArray, List.getElem?_cons_zero, List.getElem?_cons_succ, Option.some.injEq] at ho
            subst ho
            have e86 : a.tmps.getD 86 undef = .agg #[.string s0, .slice A na ca, .slice B nb cb, .slice L nl cl, .slice D nd cd] := hA ⟨0, .data⟩ (by simp) rfl
            refine Does.plain rfl ?_
            unfold yieldsK
            go_simp
            refine (HSs.out w' (keepN HG13.out hK)).mono ?_
            rintro e w2 ⟨u, rfl, hO, h2⟩
            obtain ⟨A2, c2, rfl, _, _, hr, _⟩ := hO.form
            exact ⟨_, rfl, ⟨A2, c2, rfl, hr⟩, h2⟩
          by_cases h2 : i = 2
          · subst h2
            simp only [List.getElem?_toArray, List.getElem?_cons_zero, List.getElem?_cons_succ, Option.some.injEq] at ho
            subst ho
            have e4 : a.tmps.getD 4 undef = .pointer (some ⟨w.heap.size, 0, none⟩) := hF.2.2 4 (.inl (by decide)) (by decide)
            have c0 := Keep.cell hK q0 id
            have c1 := Keep.cell hK q1 id
            have c2 := Keep.cell hK q2 id
            have c3 := Keep.cell hK q3 id
            have c4 := Keep.cell hK q4 id
            refine Does.plain rfl ?_
            unfold yieldsK
            go_simp
            exact ⟨rfl, Keep.refl _ _⟩
          by_cases h3 : i = 3
          · subst h3
            simp only [List.getElem?_toArray, List.getElem?_cons_zero, List.getElem?_cons_succ, Option.some.injEq] at ho
            subst ho
            have e88 : a.tmps.getD 88 undef = .agg #[.string s0, .slice A na ca, .slice B nb cb, .slice L nl cl, .slice D nd cd] := hA ⟨2, .data⟩ (by simp) rfl
            refine Does.plain rfl ?_
            unfold yieldsK
            go_simp
            refine (HRS.out w' (keepN HG13.out hK)).mono ?_
            rintro e w2 ⟨u, rfl, hO, h2⟩
            obtain ⟨A2, c2, rfl, _, _, hr, _⟩ := hO.form
            exact ⟨_, rfl, ⟨A2, c2, rfl, hr⟩, h2⟩
          by_cases h4 : i = 4
          · subst h4
            simp only [List.getElem?_toArray, List.getElem?_cons_zero, List.getElem?_cons_succ, Option.some.injEq] at ho
            subst ho
            obtain ⟨A1, b1, e87, r1⟩ := hA ⟨1, .data⟩ (by simp) rfl
            have e87 : a.tmps.getD 87 undef = .slice A1 ls.length b1 := e87
            obtain ⟨A3, b3, e89, r3⟩ := hA ⟨3, .data⟩ (by simp) rfl
            have e89 : a.tmps.getD 89 undef = .slice A3 ls.length b3 := e89
            refine Does.plain rfl ?_
            unfold yieldsK
            go_simp
            refine (ints_any A1 A3 ls ls _ _ b1 b3 w' r1 r3 (Lib.hid rfl) (Lib.hid rfl) (by have := HlS.out; omega) (by have := HlS.out; omega) true (Lib.hid (by simp))).mono ?_
            rintro e w2 ⟨rfl, h2⟩
            exact ⟨_, rfl, rfl, h2⟩
          by_cases h5 : i = 5
          · subst h5
            simp only [List.getElem?_toArray, List.getElem?_cons_zero, List.getElem?_cons_succ, Option.some.injEq] at ho
            subst ho
            have e90 : a.tmps.getD 90 undef = .bool true := hA ⟨4, .data⟩ (by simp) rfl
            refine Does.plain rfl ?_
            unfold yieldsK
            go_simp
            exact ⟨rfl, Keep.refl _ _⟩
          by_cases h6 : i = 6
          · subst h6
            simp only [List.getElem?_toArray, List.getElem?_cons_zero, List.getElem?_cons_succ, Option.some.injEq] at ho
            subst ho
            have e4 : a.tmps.getD 4 undef = .pointer (some ⟨w.heap.size, 0, none⟩) := hF.2.2 4 (.inl (by decide)) (by decide)
            have c0 := Keep.cell hK q0 id
            have c1 := Keep.cell hK q1 id
            have c2 := Keep.cell hK q2 id
            have c3 := Keep.cell hK q3 id
            have c4 := Keep.cell hK q4 id
            refine Does.yes (j := 5) (d := 91) (want := true) rfl rfl (hA ⟨5, .guard⟩ (by simp) rfl) ?_
            unfold yieldsK
            go_simp
            exact ⟨rfl, Keep.refl _ _⟩
          by_cases h7 : i = 7
          · subst h7
            simp only [List.getElem?_toArray, List.getElem?_cons_zero, List.getElem?_cons_succ, Option.some.injEq] at ho
            subst ho
            have e92 : a.tmps.getD 92 undef = .agg #[.string s0, .slice A na ca, .slice B nb cb, .slice L nl cl, .slice D nd cd] := hA ⟨6, .data⟩ (by simp) rfl
            refine Does.yes (j := 5) (d := 91) (want := true) rfl rfl (hA ⟨5, .guard⟩ (by simp) rfl) ?_
            unfold yieldsK
            go_simp
            refine (HPt.out w' (keepN HG13.out hK)).mono ?_
            rintro e w2 ⟨u, rfl, hO, h2⟩
            obtain ⟨A2, c2, rfl, _, _, hr, _⟩ := hO.form
            exact ⟨_, rfl, ⟨A2, c2, rfl, hr⟩, h2⟩
          by_cases h8 : i = 8
          · subst h8
            simp only [List.getElem?_toArray, List.getElem?_cons_zero, List.getElem?_cons_succ, Option.some.injEq] at ho
            subst ho
            have e4 : a.tmps.getD 4 undef = .pointer (some ⟨w.heap.size, 0, none⟩) := hF.2.2 4 (.inl (by decide)) (by decide)
            have c0 := Keep.cell hK q0 id
            have c1 := Keep.cell hK q1 id
            have c2 := Keep.cell hK q2 id
            have c3 := Keep.cell hK q3 id
            have c4 := Keep.cell hK q4 id
            refine Does.yes (j := 5) (d := 91) (want := true) rfl rfl (hA ⟨5, .guard⟩ (by simp) rfl) ?_
            unfold yieldsK
            go_simp
            exact ⟨rfl, Keep.refl _ _⟩
          by_cases h9 : i = 9
          · subst h9
            simp only [List.getElem?_toArray, List.getElem?_cons_zero, List.getElem?_cons_succ, Option.some.injEq] at ho
            subst ho
            have e94 : a.tmps.getD 94 undef = .agg #[.string s0, .slice A na ca, .slice B nb cb, .slice L nl cl, .slice D nd cd] := hA ⟨8, .data⟩ (by simp) rfl
            refine Does.yes (j := 5) (d := 91) (want := true) rfl rfl (hA ⟨5, .guard⟩ (by simp) rfl) ?_
            unfold yieldsK
            go_simp
            refine (HRP.out w' (keepN HG13.out hK)).mono ?_
            rintro e w2 ⟨u, rfl, hO, h2⟩
            obtain ⟨A2, c2, rfl, _, _, hr, _⟩ := hO.form
            exact ⟨_, rfl, ⟨A2, c2, rfl, hr⟩, h2⟩
          by_cases h10 : i = 10
          · subst h10
            simp only [List.getElem?_toArray, List.getElem?_cons_zero, List.getElem?_cons_succ, Option.some.injEq] at ho
            subst ho
            obtain ⟨A1, b1, e93, r1⟩ := hA ⟨7, .data⟩ (by simp) rfl
            have e93 : a.tmps.getD 93 undef = .slice A1 lp.length b1 := e93
            obtain ⟨A3, b3, e95, r3⟩ := hA ⟨9, .data⟩ (by simp) rfl
            have e95 : a.tmps.getD 95 undef = .slice A3 lp.length b3 := e95
            refine Does.yes (j := 5) (d := 91) (want := true) rfl rfl (hA ⟨5, .guard⟩ (by simp) rfl) ?_
            unfold yieldsK
            go_simp
            refine (ints_any A1 A3 lp lp _ _ b1 b3 w' r1 r3 (Lib.hid rfl) (Lib.hid rfl) (by have := HlP.out; omega) (by have := HlP.out; omega) true (Lib.hid (by simp))).mono ?_
            rintro e w2 ⟨rfl, h2⟩
            exact ⟨_, rfl, rfl, h2⟩
          by_cases h11 : i = 11
          · subst h11
            simp only [List.getElem?_toArray, List.getElem?_cons_zero, List.getElem?_cons_succ, Option.some.injEq] at ho
            subst ho
            have e91 : a.tmps.getD 91 undef = .bool true := hA ⟨5, .data⟩ (by simp) rfl
            have e96 : a.tmps.getD 96 undef = .bool true := hA ⟨10, .data⟩ (by simp) rfl
            refine Does.plain rfl ?_
            unfold yieldsK
            go_simp
            exact ⟨rfl, Keep.refl _ _⟩
          by_cases h12 : i = 12
          · subst h12
            simp only [List.getElem?_toArray, List.getElem?_cons_zero, List.getElem?_cons_succ, Option.some.injEq] at ho
            subst ho
            have e97 : a.tmps.getD 97 undef = .bool true := hA ⟨11, .data⟩ (by simp) rfl
            refine Does.plain rfl ?_
            unfold yieldsK
            go_simp
            exact ⟨rfl, Keep.refl _ _⟩
          by_cases h13 : i = 13
          · subst h13
            simp only [List.getElem?_toArray, List.getElem?_cons_zero, List.getElem?_cons_succ, Option.some.injEq] at ho
            subst ho
            have e11 : a.tmps.getD 11 undef = .int .i64 W0 := hF.2.2 11 (.inl (by decide)) (by decide)
            refine Does.yes (j := 12) (d := 98) (want := true) rfl rfl (hA ⟨12, .guard⟩ (by simp) rfl) ?_
            unfold yieldsK
            go_simp
            exact ⟨rfl, Keep.refl _ _⟩
          by_cases h14 : i = 14
          · subst h14
            simp only [List.getElem?_toArray, List.getElem?_cons_zero, List.getElem?_cons_succ, Option.some.injEq] at ho
            subst ho
            have e14 : a.tmps.getD 14 undef = .int .i64 W0 := hF.2.2 14 (.inl (by decide)) (by decide)
            refine Does.yes (j := 12) (d := 98) (want := true) rfl rfl (hA ⟨12, .guard⟩ (by simp) rfl) ?_
            unfold yieldsK
            go_simp
            exact ⟨rfl, Keep.refl _ _⟩
          by_cases h15 : i = 15
          · subst h15
            simp only [List.getElem?_toArray, List.getElem?_cons_zero, List.getElem?_cons_succ, Option.some.injEq] at ho
            subst ho
            have e99 : a.tmps.getD 99 undef = .int .i64 W0 := hA ⟨13, .data⟩ (by simp) rfl
            have e100 : a.tmps.getD 100 undef = .int .i64 W0 := hA ⟨14, .data⟩ (by simp) rfl
            refine Does.yes (j := 12) (d := 98) (want := true) rfl rfl (hA ⟨12, .guard⟩ (by simp) rfl) ?_
            unfold yieldsK
            go_simp
            exact ⟨rfl, Keep.refl _ _⟩
          by_cases h16 : i = 16
          · subst h16
            simp only [List.getElem?_toArray, List.getElem?_cons_zero, List.getElem?_cons_succ, Option.some.injEq] at ho
            subst ho
            have e98 : a.tmps.getD 98 undef = .bool true := hA ⟨12, .data⟩ (by simp) rfl
            have e101 : a.tmps.getD 101 undef = .bool true := hA ⟨15, .data⟩ (by simp) rfl
            refine Does.plain rfl ?_
            unfold yieldsK
            go_simp
            exact ⟨rfl, Keep.refl _ _⟩
          by_cases h17 : i = 17
          · subst h17
            simp only [List.getElem?_toArray, List.getElem?_cons_zero, List.getElem?_cons_succ, Option.some.injEq] at ho
            subst ho
            have e102 : a.tmps.getD 102 undef = .bool true := hA ⟨16, .data⟩ (by simp) rfl
            refine Does.plain rfl ?_
            unfold yieldsK
            go_simp
            exact ⟨rfl, Keep.refl _ _⟩
          by_cases h18 : i = 18
          · subst h18
            simp only [List.getElem?_toArray, List.getElem?_cons_zero, List.getElem?_cons_succ, Option.some.injEq] at ho
            subst ho
            have e12 : a.tmps.getD 12 undef = .int .i64 T0 := hF.2.2 12 (.inl (by decide)) (by decide)
            refine Does.yes (j := 17) (d := 103) (want := true) rfl rfl (hA ⟨17, .guard⟩ (by simp) rfl) ?_
            unfold yieldsK
            go_simp
            exact ⟨rfl, Keep.refl _ _⟩
          by_cases h19 : i = 19
          · subst h19
            simp only [List.getElem?_toArray, List.getElem?_cons_zero, List.getElem?_cons_succ, Option.some.injEq] at ho
            subst ho
            have e15 : a.tmps.getD 15 undef = .int .i64 T0 := hF.2.2 15 (.inl (by decide)) (by decide)
            refine Does.yes (j := 17) (d := 103) (want := true) rfl rfl (hA ⟨17, .guard⟩ (by simp) rfl) ?_
            unfold yieldsK
            go_simp
            exact ⟨rfl, Keep.refl _ _⟩
          by_cases h20 : i = 20
          · subst h20
            simp only [List.getElem?_toArray, List.getElem?_cons_zero, List.getElem?_cons_succ, Option.some.injEq] at ho
            subst ho
            have e104 : a.tmps.getD 104 undef = .int .i64 T0 := hA ⟨18, .data⟩ (by simp) rfl
            have e105 : a.tmps.getD 105 undef = .int .i64 T0 := hA ⟨19, .data⟩ (by simp) rfl
            refine Does.yes (j := 17) (d := 103) (want := true) rfl rfl (hA ⟨17, .guard⟩ (by simp) rfl) ?_
            unfold yieldsK
            go_simp
            exact ⟨rfl, Keep.refl _ _⟩
          by_cases h21 : i = 21
          · subst h21
            simp only [List.getElem?_toArray, List.getElem?_cons_zero, List.getElem?_cons_succ, Option.some.injEq] at ho
            subst ho
            have e103 : a.tmps.getD 103 undef = .bool true := hA ⟨17, .data⟩ (by simp) rfl
            have e106 : a.tmps.getD 106 undef = .bool true := hA ⟨20, .data⟩ (by simp) rfl
            refine Does.plain rfl ?_
            unfold yieldsK
            go_simp
            exact ⟨rfl, Keep.refl _ _⟩
          by_cases h22 : i = 22
          · subst h22
            simp only [List.getElem?_toArray, List.getElem?_cons_zero, List.getElem?_cons_succ, Option.some.injEq] at ho
            subst ho
            have e107 : a.tmps.getD 107 undef = .bool true := hA ⟨21, .data⟩ (by simp) rfl
            refine Does.plain rfl ?_
            unfold yieldsK
            go_simp
            exact ⟨rfl, Keep.refl _ _⟩
          by_cases h23 : i = 23
          · subst h23
            simp only [List.getElem?_toArray, List.getElem?_cons_zero, List.getElem?_cons_succ, Option.some.injEq] at ho
            subst ho
            have e13 : a.tmps.getD 13 undef = .int .i64 E0 := hF.2.2 13 (.inl (by decide)) (by decide)
            refine Does.yes (j := 22) (d := 108) (want := true) rfl rfl (hA ⟨22, .guard⟩ (by simp) rfl) ?_
            unfold yieldsK
            go_simp
            exact ⟨rfl, Keep.refl _ _⟩
          by_cases h24 : i = 24
          · subst h24
            simp only [List.getElem?_toArray, List.getElem?_cons_zero, List.getElem?_cons_succ, Option.some.injEq] at ho
            subst ho
            have e16 : a.tmps.getD 16 undef = .int .i64 E0 := hF.2.2 16 (.inl (by decide)) (by decide)
            refine Does.yes (j := 22) (d := 108) (want := true) rfl rfl (hA ⟨22, .guard⟩ (by simp) rfl) ?_
            unfold yieldsK
            go_simp
            exact ⟨rfl, Keep.refl _ _⟩
          by_cases h25 : i = 25
          · subst h25
            simp only [List.getElem?_toArray, List.getElem?_cons_zero, List.getElem?_cons_succ, Option.some.injEq] at ho
            subst ho
            have e109 : a.tmps.getD 109 undef = .int .i64 E0 := hA ⟨23, .data⟩ (by simp) rfl
            have e110 : a.tmps.getD 110 undef = .int .i64 E0 := hA ⟨24, .data⟩ (by simp) rfl
            refine Does.yes (j := 22) (d := 108) (want := true) rfl rfl (hA ⟨22, .guard⟩ (by simp) rfl) ?_
            unfold yieldsK
            go_simp
            exact ⟨rfl, Keep.refl _ _⟩
          by_cases h26 : i = 26
          · subst h26
            simp only [List.getElem?_toArray, List.getElem?_cons_zero, List.getElem?_cons_succ, Option.some.injEq] at ho
            subst ho
            have e108 : a.tmps.getD 108 undef = .bool true := hA ⟨22, .data⟩ (by simp) rfl
            have e111 : a.tmps.getD 111 undef = .bool true := hA ⟨25, .data⟩ (by simp) rfl
            refine Does.plain rfl ?_
            unfold yieldsK
            go_simp
            exact ⟨rfl, Keep.refl _ _⟩
          by_cases h27 : i = 27
          · subst h27
            simp only [List.getElem?_toArray, List.getElem?_cons_zero, List.getElem?_cons_succ, Option.some.injEq] at ho
            subst ho
            have e112 : a.tmps.getD 112 undef = .bool true := hA ⟨26, .data⟩ (by simp) rfl
            refine Does.plain rfl ?_
            unfold yieldsK
            go_simp
            exact ⟨rfl, Keep.refl _ _⟩
          by_cases h28 : i = 28
          · subst h28
            simp only [List.getElem?_toArray, List.getElem?_cons_zero, List.getElem?_cons_succ, Option.some.injEq] at ho
            subst ho
            have e17 : a.tmps.getD 17 undef = .slice Ba nb1 ba := hF.2.2 17 (.inl (by decide)) (by decide)
            refine Does.yes (j := 27) (d := 113) (want := true) rfl rfl (hA ⟨27, .guard⟩ (by simp) rfl) ?_
            unfold yieldsK
            go_simp
            exact ⟨rfl, Keep.refl _ _⟩
          by_cases h29 : i = 29
          · subst h29
            simp only [List.getElem?_toArray, List.getElem?_cons_zero, List.getElem?_cons_succ, Option.some.injEq] at ho
            subst ho
            have e19 : a.tmps.getD 19 undef = .slice Bb nb1 bb := hF.2.2 19 (.inl (by decide)) (by decide)
            refine Does.yes (j := 27) (d := 113) (want := true) rfl rfl (hA ⟨27, .guard⟩ (by simp) rfl) ?_
            unfold yieldsK
            go_simp
            exact ⟨rfl, Keep.refl _ _⟩
          by_cases h30 : i = 30
          · subst h30
            simp only [List.getElem?_toArray, List.getElem?_cons_zero, List.getElem?_cons_succ, Option.some.injEq] at ho
            subst ho
            have e114 : a.tmps.getD 114 undef = .slice Ba nb1 ba := hA ⟨28, .data⟩ (by simp) rfl
            have e115 : a.tmps.getD 115 undef = .slice Bb nb1 bb := hA ⟨29, .data⟩ (by simp) rfl
            refine Does.yes (j := 27) (d := 113) (want := true) rfl rfl (hA ⟨27, .guard⟩ (by simp) rfl) ?_
            unfold yieldsK
            go_simp
            refine (same_any Ba Bb bl bl nb1 nb1 ba bb w' (HRa.out.keepN hK) (HRB.out.keepN hK) HNB HNB (by have := HbL; omega) (by have := HbL; omega) true (Lib.hid (by simp))).mono ?_
            rintro e w2 ⟨rfl, h2⟩
            exact ⟨_, rfl, rfl, h2⟩
          by_cases h31 : i = 31
          · subst h31
            simp only [List.getElem?_toArray, List.getElem?_cons_zero, List.getElem?_cons_succ, Option.some.injEq] at ho
            subst ho
            have e113 : a.tmps.getD 113 undef = .bool true := hA ⟨27, .data⟩ (by simp) rfl
            have e116 : a.tmps.getD 116 undef = .bool true := hA ⟨30, .data⟩ (by simp) rfl
            refine Does.plain rfl ?_
            unfold yieldsK
            go_simp
            exact ⟨rfl, Keep.refl _ _⟩
          by_cases h32 : i = 32
          · subst h32
            simp only [List.getElem?_toArray, List.getElem?_cons_zero, List.getElem?_cons_succ, Option.some.injEq] at ho
            subst ho
            have e117 : a.tmps.getD 117 undef = .bool true := hA ⟨31, .data⟩ (by simp) rfl
            refine Does.plain rfl ?_
            unfold yieldsK
            go_simp
            exact ⟨rfl, Keep.refl _ _⟩
          by_cases h33 : i = 33
          · subst h33
            simp only [List.getElem?_toArray, List.getElem?_cons_zero, List.getElem?_cons_succ, Option.some.injEq] at ho
            subst ho
            have e18 : a.tmps.getD 18 undef = .int .i64 eb := hF.2.2 18 (.inl (by decide)) (by decide)
            refine Does.yes (j := 32) (d := 118) (want := true) rfl rfl (hA ⟨32, .guard⟩ (by simp) rfl) ?_
            unfold yieldsK
            go_simp
            exact ⟨rfl, Keep.refl _ _⟩
          by_cases h34 : i = 34
          · subst h34
            simp only [List.getElem?_toArray, List.getElem?_cons_zero, List.getElem?_cons_succ, Option.some.injEq] at ho
            subst ho
            have e20 : a.tmps.getD 20 undef = .int .i64 eb := hF.2.2 20 (.inl (by decide)) (by decide)
            refine Does.yes (j := 32) (d := 118) (want := true) rfl rfl (hA ⟨32, .guard⟩ (by simp) rfl) ?_
            unfold yieldsK
            go_simp
            exact ⟨rfl, Keep.refl _ _⟩
          by_cases h35 : i = 35
          · subst h35
            simp only [List.getElem?_toArray, List.getElem?_cons_zero, List.getElem?_cons_succ, Option.some.injEq] at ho
            subst ho
            have e119 : a.tmps.getD 119 undef = .int .i64 eb := hA ⟨33, .data⟩ (by simp) rfl
            have e120 : a.tmps.getD 120 undef = .int .i64 eb := hA ⟨34, .data⟩ (by simp) rfl
            refine Does.yes (j := 32) (d := 118) (want := true) rfl rfl (hA ⟨32, .guard⟩ (by simp) rfl) ?_
            unfold yieldsK
            go_simp
            exact ⟨rfl, Keep.refl _ _⟩
          by_cases h36 : i = 36
          · subst h36
            simp only [List.getElem?_toArray, List.getElem?_cons_zero, List.getElem?_cons_succ, Option.some.injEq] at ho
            subst ho
            have e118 : a.tmps.getD 118 undef = .bool true := hA ⟨32, .data⟩ (by simp) rfl
            have e121 : a.tmps.getD 121 undef = .bool true := hA ⟨35, .data⟩ (by simp) rfl
            refine Does.plain rfl ?_
            unfold yieldsK
            go_simp
            exact ⟨rfl, Keep.refl _ _⟩
          by_cases h37 : i = 37
          · subst h37
            simp only [List.getElem?_toArray, List.getElem?_cons_zero, List.getElem?_cons_succ, Option.some.injEq] at ho
            subst ho
            have e122 : a.tmps.getD 122 undef = .bool true := hA ⟨36, .data⟩ (by simp) rfl
            refine Does.plain rfl ?_
            unfold yieldsK
            go_simp
            exact ⟨rfl, Keep.refl _ _⟩
          by_cases h38 : i = 38
          · subst h38
            simp only [List.getElem?_toArray, List.getElem?_cons_zero, List.getElem?_cons_succ, Option.some.injEq] at ho
            subst ho
            have e21 : a.tmps.getD 21 undef = .slice Ca nr1 cc := hF.2.2 21 (.inl (by decide)) (by decide)
            refine Does.yes (j := 37) (d := 123) (want := true) rfl rfl (hA ⟨37, .guard⟩ (by simp) rfl) ?_
            unfold yieldsK
            go_simp
            exact ⟨rfl, Keep.refl _ _⟩
          by_cases h39 : i = 39
          · subst h39
            simp only [List.getElem?_toArray, List.getElem?_cons_zero, List.getElem?_cons_succ, Option.some.injEq] at ho
            subst ho
            have e23 : a.tmps.getD 23 undef = .slice Da nr1 dd := hF.2.2 23 (.inl (by decide)) (by decide)
            refine Does.yes (j := 37) (d := 123) (want := true) rfl rfl (hA ⟨37, .guard⟩ (by simp) rfl) ?_
            unfold yieldsK
            go_simp
            exact ⟨rfl, Keep.refl _ _⟩
          by_cases h40 : i = 40
          · subst h40
            simp only [List.getElem?_toArray, List.getElem?_cons_zero, List.getElem?_cons_succ, Option.some.injEq] at ho
            subst ho
            have e124 : a.tmps.getD 124 undef = .slice Ca nr1 cc := hA ⟨38, .data⟩ (by simp) rfl
            have e125 : a.tmps.getD 125 undef = .slice Da nr1 dd := hA ⟨39, .data⟩ (by simp) rfl
            refine Does.yes (j := 37) (d := 123) (want := true) rfl rfl (hA ⟨37, .guard⟩ (by simp) rfl) ?_
            unfold yieldsK
            go_simp
            refine (same_any Ca Da rl rl nr1 nr1 cc dd w' (HRc.out.keepN hK) (HRd.out.keepN hK) HNR HNR (by have := HrL; omega) (by have := HrL; omega) true (Lib.hid (by simp))).mono ?_
            rintro e w2 ⟨rfl, h2⟩
            exact ⟨_, rfl, rfl, h2⟩
          by_cases h41 : i = 41
          · subst h41
            simp only [List.getElem?_toArray, List.getElem?_cons_zero, List.getElem?_cons_succ, Option.some.injEq] at ho
            subst ho
            have e123 : a.tmps.getD 123 undef = .bool true := hA ⟨37, .data⟩ (by simp) rfl
            have e126 : a.tmps.getD 126 undef = .bool true := hA ⟨40, .data⟩ (by simp) rfl
            refine Does.plain rfl ?_
            unfold yieldsK
            go_simp
            exact ⟨rfl, Keep.refl _ _⟩
          by_cases h42 : i = 42
          · subst h42
            simp only [List.getElem?_toArray, List.getElem?_cons_zero, List.getElem?_cons_succ, Option.some.injEq] at ho
            subst ho
            have e127 : a.tmps.getD 127 undef = .bool true := hA ⟨41, .data⟩ (by simp) rfl
            refine Does.plain rfl ?_
            unfold yieldsK
            go_simp
            exact ⟨rfl, Keep.refl _ _⟩
          by_cases h43 : i = 43
          · subst h43
            simp only [List.getElem?_toArray, List.getElem?_cons_zero, List.getElem?_cons_succ, Option.some.injEq] at ho
            subst ho
            have e22 : a.tmps.getD 22 undef = .int .i64 er := hF.2.2 22 (.inl (by decide)) (by decide)
            refine Does.yes (j := 42) (d := 128) (want := true) rfl rfl (hA ⟨42, .guard⟩ (by simp) rfl) ?_
            unfold yieldsK
            go_simp
            exact ⟨rfl, Keep.refl _ _⟩
          by_cases h44 : i = 44
          · subst h44
            simp only [List.getElem?_toArray, List.getElem?_cons_zero, List.getElem?_cons_succ, Option.some.injEq] at ho
            subst ho
            have e24 : a.tmps.getD 24 undef = .int .i64 er := hF.2.2 24 (.inl (by decide)) (by decide)
            refine Does.yes (j := 42) (d := 128) (want := true) rfl rfl (hA ⟨42, .guard⟩ (by simp) rfl) ?_
            unfold yieldsK
            go_simp
            exact ⟨rfl, Keep.refl _ _⟩
          by_cases h45 : i = 45
          · subst h45
            simp only [List.getElem?_toArray, List.getElem?_cons_zero, List.getElem?_cons_succ, Option.some.injEq] at ho
            subst ho
            have e129 : a.tmps.getD 129 undef = .int .i64 er := hA ⟨43, .data⟩ (by simp) rfl
            have e130 : a.tmps.getD 130 undef = .int .i64 er := hA ⟨44, .data⟩ (by simp) rfl
            refine Does.yes (j := 42) (d := 128) (want := true) rfl rfl (hA ⟨42, .guard⟩ (by simp) rfl) ?_
            unfold yieldsK
            go_simp
            exact ⟨rfl, Keep.refl _ _⟩
          by_cases h46 : i = 46
          · subst h46
            simp only [List.getElem?_toArray, List.getElem?_cons_zero, List.getElem?_cons_succ, Option.some.injEq] at ho
            subst ho
            have e128 : a.tmps.getD 128 undef = .bool true := hA ⟨42, .data⟩ (by simp) rfl
            have e131 : a.tmps.getD 131 undef = .bool true := hA ⟨45, .data⟩ (by simp) rfl
            refine Does.plain rfl ?_
            unfold yieldsK
            go_simp
            exact ⟨rfl, Keep.refl _ _⟩
          omega
        case spec =>
          intro o a w' ho hF hK hA
          simp only [List.getElem?_toArray, List.getElem?_cons_zero, List.getElem?_cons_succ, Option.some.injEq] at ho
          subst ho
          have e132 : a.tmps.getD 132 undef = .bool true := hA ⟨46, .data⟩ (by simp) rfl
          refine Does.plain rfl ?_
          unfold yieldsK
          go_simp
          exact ⟨rfl, Keep.refl _ _⟩
        case fin =>
          intro a w' hF gK hA
          have e25 : a.tmps.getD 25 undef = .bool true := hA 47 (by decide)
          have hF2 := hF.frame (of_decide_eq_true rfl)
          rw [e25] at hF2
          have ha := frame_fill (n := 48) hF2 (of_decide_eq_true rfl)
          rw [ha]
          rw [show List.range 48 = [0, 1, 2, 3, 4, 5, 6, 7, 8, 9, 10, 11, 12, 13, 14, 15, 16, 17, 18, 19, 20, 21, 22, 23, 24, 25, 26, 27, 28, 29, 30, 31, 32, 33, 34, 35, 36, 37, 38, 39, 40, 41, 42, 43, 44, 45, 46, 47] from rfl]
          simp only [List.map_cons, List.map_nil]
          generalize a.tmps.getD (86 + 0) undef = u0
          generalize a.tmps.getD (86 + 1) undef = u1
          generalize a.tmps.getD (86 + 2) undef = u2
          generalize a.tmps.getD (86 + 3) undef = u3
          generalize a.tmps.getD (86 + 4) undef = u4
          generalize a.tmps.getD (86 + 5) undef = u5
          generalize a.tmps.getD (86 + 6) undef = u6
          generalize a.tmps.getD (86 + 7) undef = u7
          generalize a.tmps.getD (86 + 8) undef = u8
          generalize a.tmps.getD (86 + 9) undef = u9
          generalize a.tmps.getD (86 + 10) undef = u10
          generalize a.tmps.getD (86 + 11) undef = u11
          generalize a.tmps.getD (86 + 12) undef = u12
          generalize a.tmps.getD (86 + 13) undef = u13
          generalize a.tmps.getD (86 + 14) undef = u14
          generalize a.tmps.getD (86 + 15) undef = u15
          generalize a.tmps.getD (86 + 16) undef = u16
          generalize a.tmps.getD (86 + 17) undef = u17
          generalize a.tmps.getD (86 + 18) undef = u18
          generalize a.tmps.getD (86 + 19) undef = u19
          generalize a.tmps.getD (86 + 20) undef = u20
          generalize a.tmps.getD (86 + 21) undef = u21
          generalize a.tmps.getD (86 + 22) undef = u22
          generalize a.tmps.getD (86 + 23) undef = u23
          generalize a.tmps.getD (86 + 24) undef = u24
          generalize a.tmps.getD (86 + 25) undef = u25
          generalize a.tmps.getD (86 + 26) undef = u26
          generalize a.tmps.getD (86 + 27) undef = u27
          generalize a.tmps.getD (86 + 28) undef = u28
          generalize a.tmps.getD (86 + 29) undef = u29
          generalize a.tmps.getD (86 + 30) undef = u30
          generalize a.tmps.getD (86 + 31) undef = u31
          generalize a.tmps.getD (86 + 32) undef = u32
          generalize a.tmps.getD (86 + 33) undef = u33
          generalize a.tmps.getD (86 + 34) undef = u34
          generalize a.tmps.getD (86 + 35) undef = u35
          generalize a.tmps.getD (86 + 36) undef = u36
          generalize a.tmps.getD (86 + 37) undef = u37
          generalize a.tmps.getD (86 + 38) undef = u38
          generalize a.tmps.getD (86 + 39) undef = u39
          generalize a.tmps.getD (86 + 40) undef = u40
          generalize a.tmps.getD (86 + 41) undef = u41
          generalize a.tmps.getD (86 + 42) undef = u42
          generalize a.tmps.getD (86 + 43) undef = u43
          generalize a.tmps.getD (86 + 44) undef = u44
          generalize a.tmps.getD (86 + 45) undef = u45
          generalize a.tmps.getD (86 + 46) undef = u46
          generalize a.tmps.getD (86 + 47) undef = u47
          simp only [Act.put, fillT, List.setIfInBounds_toArray, List.set_cons_zero, List.set_cons_succ]
          have HK14 := Lib.hid (keepN HK13.out gK)
          have WA := Lib.hid (WA2.out.keep gK (fun _ _ _ => id))
          have WC := Lib.hid (WC2.out.keep gK (fun _ _ _ => id))
          have z14 := gK.size
          have z11 := HK13.out.size
          clear hF hF2 ha e25 hA q0 q1 q2 q3 q4 WA2 WC2 HRa HRB HRc HRd HSs HRS HPt HRP HlS HlP
          clear gK
          generalize hw14 : w' = w14 at HK14 WA WC z14
          clear hw14
          have hb9 : w9.heap.size ≤ w10.heap.size := z9'
          have HBx := Lib.hid (Blk.new w14 53 #[.slice Ba nb1 ba, .slice Ca nr1 cc])
          have HAa := Lib.hid (WA.out.keep ((Keep.refl NoB w14).alloc (.cells #[.slice Ba nb1 ba, .slice Ca nr1 cc] 53)) (fun _ _ _ => id))
          have HCa := Lib.hid (WC.out.keep ((Keep.refl NoB w14).alloc (.cells #[.slice Ba nb1 ba, .slice Ca nr1 cc] 53)) (fun _ _ _ => id))
          have HGa : Hid (Keep (Fresh w7) w7 (w14.alloc (.cells #[.slice Ba nb1 ba, .slice Ca nr1 cc] 53))) := (HK14.out.mono (fun _ h _ => h.elim)).alloc _
          go_wp2
          go_loopw [137] (fun i wr => ∃ k : Nat, k ≤ 2 ∧ i = .int .i64 (k : Int) ∧ WipeV Ba nb1 w9.heap.size w10.heap.size wr ∧ WipeV Ca nr1 w11.heap.size w12.heap.size wr ∧ Keep (Fresh w7) w7 wr ∧ Blk wr w14.heap.size 53 #[.slice Ba nb1 ba, .slice Ca nr1 cc]) (fun i _ => 2 - (intOf i).toNat)
          case atStart => exact ⟨0, by decide, rfl, HAa.out, HCa.out, HGa.out, HBx.out⟩
          case round =>
            obtain ⟨k, hk, rfl, hA, hC, hG, hB⟩ := hrel
            have d0 : wr.cell? ⟨w14.heap.size, 0, none⟩ = some (.slice Ba nb1 ba) := hB.cell 0
            have d1 : wr.cell? ⟨w14.heap.size, 1, none⟩ = some (.slice Ca nr1 cc) := hB.cell 1
            have hk3 : k = 0 ∨ k = 1 ∨ k = 2 := by omega
            rcases hk3 with rfl | rfl | rfl
            · skip
              go_wp2
              go_loopw [143] (fun i wr => ∃ j : Nat, j ≤ nb1 ∧ i = .int .i64 (j : Int) ∧ WipeV Ba nb1 w9.heap.size w10.heap.size wr ∧ WipeV Ca nr1 w11.heap.size w12.heap.size wr ∧ Keep (Fresh w7) w7 wr ∧ Blk wr w14.heap.size 53 #[.slice Ba nb1 ba, .slice Ca nr1 cc]) (fun i _ => nb1 - (intOf i).toNat)
              case atStart => exact ⟨0, Nat.zero_le _, rfl, hA, hC, hG, hB⟩
              case round =>
                clear hA hC hG hB
                obtain ⟨j, hj, rfl, hA, hC, hG, hB⟩ := hrel
                by_cases hlt : j < nb1
                · obtain ⟨g, rfl, hg1, hg2, cur, hb, hc⟩ := hA (by omega)
                  obtain ⟨t, ht⟩ := hc j hlt
                  have cx : wr.cell? ⟨g, j * 2 + 1, none⟩ = some (.int .i64 t) := (hb.cell (j * 2 + 1)).trans ht
                  have hf := fun i => hb.frozen i
                  have HA : Hid (∀ z : Int, WipeV (some ⟨g, 0, none⟩) nb1 w9.heap.size w10.heap.size (wr.setCell ⟨g, j * 2 + 1, none⟩ (.int .i64 z))) := fun z => WipeV.put hg1 hg2 hb hc _ z
                  have HC : Hid (∀ z : Value, WipeV Ca nr1 w11.heap.size w12.heap.size (wr.setCell ⟨g, j * 2 + 1, none⟩ z)) := fun z => hC.keep ((Keep.refl (fun x => x = g) wr).setCell (fun _ => rfl) _) (fun k h1 h2 e => by omega)
                  have HK : Hid (∀ z : Value, Keep (Fresh w7) w7 (wr.setCell ⟨g, j * 2 + 1, none⟩ z)) := fun z => hG.setCell (fun h => by unfold Fresh; simp at h ⊢; omega) _
                  have HB : Hid (∀ z : Value, Blk (wr.setCell ⟨g, j * 2 + 1, none⟩ z) w14.heap.size 53 #[.slice (some ⟨g, 0, none⟩) nb1 ba, .slice Ca nr1 cc]) := fun z => hB.far (p := ⟨g, j * 2 + 1, none⟩) (show w14.heap.size ≠ g by omega) z
                  clear hb hc hA hC hG hB ht
                  go_wp2
                  go_roundw
                  case rel => exact ⟨j + 1, by omega, by go_num, HA.out _, HC.out _, HK.out _, HB.out _⟩
                  case measure => simp [intOf]; omega
                · go_wp2
                  go_roundw
                  case rel => exact ⟨1, by omega, by go_num, hA, hC, hG, hB⟩
                  case measure => simp [intOf]
            · skip
              go_wp2
              go_loopw [143] (fun i wr => ∃ j : Nat, j ≤ nr1 ∧ i = .int .i64 (j : Int) ∧ WipeV Ba nb1 w9.heap.size w10.heap.size wr ∧ WipeV Ca nr1 w11.heap.size w12.heap.size wr ∧ Keep (Fresh w7) w7 wr ∧ Blk wr w14.heap.size 53 #[.slice Ba nb1 ba, .slice Ca nr1 cc]) (fun i _ => nr1 - (intOf i).toNat)
              case atStart => exact ⟨0, Nat.zero_le _, rfl, hA, hC, hG, hB⟩
              case round =>
                clear hA hC hG hB
                obtain ⟨j, hj, rfl, hA, hC, hG, hB⟩ := hrel
                by_cases hlt : j < nr1
                · obtain ⟨g, rfl, hg1, hg2, cur, hb, hc⟩ := hC (by omega)
                  obtain ⟨t, ht⟩ := hc j hlt
                  have cx : wr.cell? ⟨g, j * 2 + 1, none⟩ = some (.int .i64 t) := (hb.cell (j * 2 + 1)).trans ht
                  have hf := fun i => hb.frozen i
                  have HA : Hid (∀ z : Int, WipeV (some ⟨g, 0, none⟩) nr1 w11.heap.size w12.heap.size (wr.setCell ⟨g, j * 2 + 1, none⟩ (.int .i64 z))) := fun z => WipeV.put hg1 hg2 hb hc _ z
                  have HC : Hid (∀ z : Value, WipeV Ba nb1 w9.heap.size w10.heap.size (wr.setCell ⟨g, j * 2 + 1, none⟩ z)) := fun z => hA.keep ((Keep.refl (fun x => x = g) wr).setCell (fun _ => rfl) _) (fun k h1 h2 e => by omega)
                  have HK : Hid (∀ z : Value, Keep (Fresh w7) w7 (wr.setCell ⟨g, j * 2 + 1, none⟩ z)) := fun z => hG.setCell (fun h => by unfold Fresh; simp at h ⊢; omega) _
                  have HB : Hid (∀ z : Value, Blk (wr.setCell ⟨g, j * 2 + 1, none⟩ z) w14.heap.size 53 #[.slice Ba nb1 ba, .slice (some ⟨g, 0, none⟩) nr1 cc]) := fun z => hB.far (p := ⟨g, j * 2 + 1, none⟩) (show w14.heap.size ≠ g by omega) z
                  clear hb hc hA hC hG hB ht
                  go_wp2
                  go_roundw
                  case rel => exact ⟨j + 1, by omega, by go_num, HC.out _, HA.out _, HK.out _, HB.out _⟩
                  case measure => simp [intOf]; omega
                · go_wp2
                  go_roundw
                  case rel => exact ⟨2, by omega, by go_num, hA, hC, hG, hB⟩
                  case measure => simp [intOf]
            · have y5 := Lib.hid (rd_after HO5.out hG (fun _ h => h))
              have y7 := Lib.hid (rd_after HO7.out hG (fun _ h => h))
              have y1 := Lib.hid (rd_after (HR1.out.keepN HK7.out) hG (fun _ h => h))
              have y2 := Lib.hid (rd_after (HR2.out.keepN HK7.out) hG (fun _ h => h))
              have hKr := Lib.hid ((keepN k0 HK7.out).trans hG (fun k h hl => by have := (keepN k0 HK7.out).size; unfold Fresh at h; omega))
              clear hA hC hG hB d0 d1
              go_wp2_with fail
              refine (same_any _ X1 x1 x1 m1 m1 _ cx1 wr y5.out y1.out HM1 HM1 (by omega) (by omega) true (Lib.hid (by simp))).mono ?_
              rintro e wa ⟨rfl, ka⟩
              go_wp2_with fail
              refine (same_any _ X2 x2 x2 m2 m2 _ cx2 wa (y7.out.keepN ka) (y2.out.keepN ka) HM2 HM2 (by omega) (by omega) true (Lib.hid (by simp))).mono ?_
              rintro e wb ⟨rfl, kb⟩
              go_wp2
              go_ret
              exact ⟨rfl, keepN hKr.out (keepN ka kb)⟩
      · obtain ⟨s0, A, na, ca, B, nb, cb, L, nl, cl, D, nd, cd⟩ := v
        unfold FV.val FV.cells at *
        clear bx h hs
        go_enter Tryz.func4, Tryz.ntmps4
        obtain ⟨c0, c1, c2, c3, c4⟩ := blk5 (v := ⟨s0, A, na, ca, B, nb, cb, L, nl, cl, D, nd, cd⟩) HX.out
        dsimp only at c0 c1 c2 c3 c4
        go_wp2_with fail
        refine (HG.out _).mono ?_
        rintro e w1 ⟨rfl, k1⟩
        go_wp2
        go_ret
        exact ⟨rfl, keepN k0 k1⟩
    · obtain ⟨s0, A, na, ca, B, nb, cb, L, nl, cl, D, nd, cd⟩ := v
      unfold FV.val FV.cells at *
      clear bx h hs
      go_enter Tryz.func4, Tryz.ntmps4
      obtain ⟨c0, c1, c2, c3, c4⟩ := blk5 (v := ⟨s0, A, na, ca, B, nb, cb, L, nl, cl, D, nd, cd⟩) HX.out
      dsimp only at c0 c1 c2 c3 c4
      go_wp2_with fail
      refine (HG.out _).mono ?_
      rintro e w1 ⟨rfl, k1⟩
      go_wp2
      go_ret
      exact ⟨rfl, keepN k0 k1⟩
  · have HG := Lib.hid (fun w => great_yes v w hs)
    obtain ⟨s0, A, na, ca, B, nb, cb, L, nl, cl, D, nd, cd⟩ := v
    unfold FV.val FV.cells at *
    clear bx h hs
    go_enter Tryz.func4, Tryz.ntmps4
    obtain ⟨c0, c1, c2, c3, c4⟩ := blk5 (v := ⟨s0, A, na, ca, B, nb, cb, L, nl, cl, D, nd, cd⟩) HX.out
    dsimp only at c0 c1 c2 c3 c4
    go_wp2_with fail
    refine (HG.out _).mono ?_
    rintro e w1 ⟨rfl, k1⟩
    go_wp2
    go_ret
    exact ⟨rfl, keepN k0 k1⟩

end Go.Proofs.YtbnekeomdhljhaaGreatDoor.F

namespace Go.Proofs.YtbnekeomdhljhaaGreatDoor.O
open Go.ChangeShapes Go.WideShapes Go.ChangeAt Go.RowKit

theorem seatOwn : ownKnob Tryz.prog.godebug = none := by kernel_rfl
theorem seatLaidOut : laidOutB Tryz.prog = true := by kernel_rfl
theorem i64_of_wf {n : Int} (h : (Lit.int .i64 n).wf = true) : I64 n := by
  have hmin : IntKind.i64.min = -9223372036854775808 := rfl
  have hmax : IntKind.i64.max = 9223372036854775807 := rfl
  simp only [Lit.wf, Bool.and_eq_true, decide_eq_true_eq] at h
  unfold I64; omega
theorem tLet : (Tryz.prog.globals[1]?).map (·.type) = some 268 := by kernel_rfl
theorem tPow : (Tryz.prog.globals[4]?).map (·.type) = some 289 := by kernel_rfl
theorem tSyn : (Tryz.prog.globals[5]?).map (·.type) = some 139 := by kernel_rfl
theorem tRng : (Tryz.prog.globals[6]?).map (·.type) = some 139 := by kernel_rfl
theorem tBin : (Tryz.prog.globals[2]?).map (·.type) = some 270 := by kernel_rfl
theorem tUn : (Tryz.prog.globals[3]?).map (·.type) = some 272 := by kernel_rfl
theorem errStar : "*" ++ "errors.errorString" = "*errors.errorString" := by decide
theorem errRow (u : TypeId) (h : Tryz.prog.typeName? 3 u = some "*errors.errorString") : u = 299 :=
  typeName_ptr_named (nm := "errors.errorString") (by rw [errStar]; kernel_rfl) (by kernel_rfl) (by decide) u (by rw [errStar]; exact h)

set_option maxRecDepth 100000 in
theorem laidO_of {W0 : World} {x y : String × DataW Unit}
    (h : laidMet Tryz.prog [("backstay/alu.binNames", Rows.laid_backstay_alu_binNames), ("backstay/alu.unNames", Rows.laid_backstay_alu_unNames), x, y, ("internal/strconv.uint64pow10", Rows.laid_internal_strconv_uint64pow10), ("strconv.ErrRange", Rows.laid_strconv_ErrRange), ("strconv.ErrSyntax", Rows.laid_strconv_ErrSyntax), ("backstay/value.letters", Rows.laid_backstay_value_letters)] W0) : LaidO W0 := by
  have h4 := h.tail.tail.tail.tail
  have h5 := h4.tail
  have h6 := h5.tail
  refine ⟨Lib.tabIs_of_head (zs := [0, 73, 82, 70, 80]) (k := .i32) _root_.Go.Proofs.YtbnekeomdhljhaaGreatDoor.W.gLet tLet Tryz.underlying268 Tryz.underlying21 (by kernel_rfl) (by kernel_rfl) h6.tail,
    ⟨A.strs_of_head (l := A.binNs) A.gBin tBin Tryz.underlying270 Tryz.underlying9 (by kernel_rfl) (by kernel_rfl) h,
     A.strs_of_head (l := A.unNs) A.gUn tUn Tryz.underlying272 Tryz.underlying9 (by kernel_rfl) (by kernel_rfl) h.tail⟩,
    Lib.tabIs_of_head (zs := Lib.pow10Tab) (k := .u64) _root_.Go.Proofs.YtbnekeomdhljhaaGreatDoor.W.gPow tPow Tryz.underlying289 Tryz.underlying152 (by kernel_rfl) (by kernel_rfl) h4, ?_, ?_⟩
  · obtain ⟨a, s, hv, _⟩ := laid_sentinel h6 _root_.Go.Proofs.YtbnekeomdhljhaaGreatDoor.W.gSyn tSyn Tryz.underlying139 errRow Tryz.underlying299 Tryz.underlying301 rfl rfl Tryz.underlying9 (by kernel_rfl) (by kernel_rfl)
    exact ⟨_, _, hv⟩
  · obtain ⟨a, s, hv, _⟩ := laid_sentinel h5 _root_.Go.Proofs.YtbnekeomdhljhaaGreatDoor.W.gRng tRng Tryz.underlying139 errRow Tryz.underlying299 Tryz.underlying301 rfl rfl Tryz.underlying9 (by kernel_rfl) (by kernel_rfl)
    exact ⟨_, _, hv⟩

section
variable {H : Type} {enc : TypeId × Value → H} {w : World} {base b0 : Nat} {spare : Nat → Bool} {held : Bool} {r : Reach} {v : Value} {d : DataW H} {p : List MemPlace}
set_option maxRecDepth 100000 in
theorem open_inst (hv : Value.okWide Tryz.prog w r b0 74 v) (h : DataW.Trod enc Tryz.prog w base spare held 74 v d p) :
    ∃ op a b, v = .agg #[.int .i64 op, .int .i64 a, .int .i64 b] ∧ d = .agg [.lit (.int .i64 op), .lit (.int .i64 a), .lit (.int .i64 b)] ∧ p = [] ∧ I64 op ∧ I64 a ∧ I64 b := by
  obtain ⟨v0, v1, v2, y0, y1, y2, n, rfl, rfl, rfl, h0, h1, h2⟩ := Joins.open_agg3 Tryz.underlying74 (by kernel_rfl) (by kernel_rfl) hv h
  obtain ⟨a, e0, rfl, w0⟩ := DataW.trod_int Tryz.underlying3 h0
  obtain ⟨b, e1, rfl, w1⟩ := DataW.trod_int Tryz.underlying2 h1
  obtain ⟨c, e2, rfl, w2⟩ := DataW.trod_int Tryz.underlying2 h2
  injection e0 with e0 _
  injection e1 with e1 _
  injection e2 with e2 _
  subst e0 e1 e2
  exact ⟨a, b, c, rfl, rfl, rfl, i64_of_wf w0, i64_of_wf w1, i64_of_wf w2⟩
end

end Go.Proofs.YtbnekeomdhljhaaGreatDoor.O

namespace Go.Proofs.YtbnekeomdhljhaaGreatDoor.V
open Go.ChangeShapes Go.WideShapes Go.ChangeAt Go.RowKit

theorem cellsU8 : Tryz.prog.cellsOf 5 = 1 := by kernel_rfl

theorem u8_bounds {n : Int} (h : (Lit.int .u8 n).wf = true) : 0 ≤ n ∧ n < 256 := by
  have hmin : IntKind.u8.min = 0 := rfl
  have hmax : IntKind.u8.max = 255 := rfl
  simp only [Lit.wf, Bool.and_eq_true, decide_eq_true_eq] at h
  omega

/-- The bytes of a list of numbers that fit bytes. -/
def toU8 (zs : List Int) : List UInt8 := zs.map fun z => UInt8.ofNat z.toNat
theorem bvs_toU8 (zs : List Int) (h : ∀ n ∈ zs, (Lit.int .u8 n).wf = true) : bvs (toU8 zs) = zs.map (Value.int .u8) := by
  unfold bvs toU8
  rw [List.map_map]
  apply List.map_congr_left
  intro z hz
  obtain ⟨h0, h1⟩ := u8_bounds (h z hz)
  show Value.int .u8 (((UInt8.ofNat z.toNat).toNat : Nat) : Int) = _
  rw [UInt8.toNat_ofNat', Nat.mod_eq_of_lt (show z.toNat < 2 ^ 8 by omega)]
  congr 1
  omega

set_option maxRecDepth 100000 in
theorem read_bytes {H : Type} {enc : TypeId × Value → H} {W : World} {base : Nat} {spare : Nat → Bool} {held : Bool} {fuel : Nat} {cs : List Value} {x : DataW H × List MemPlace}
    (h : DataW.trod enc Tryz.prog W base spare held fuel 28 cs = some x) : ∃ A l c, cs = [.slice A l.length c] ∧ Rd W A l ∧ l.length ≤ c ∧ c ≤ maxLen := by
  rcases open_ints Tryz.underlying28 Tryz.underlying5 cellsU8 h with ⟨hcs, _⟩ | ⟨a, len, cap, zs, hcs, _, hl, hm, hz, _, hcell, hwz⟩
  · exact ⟨none, [], 0, hcs, Rd.none_ _ _, Nat.le_refl _, Nat.zero_le _⟩
  · have hzl : len ≤ zs.length := by rw [hz]; split <;> omega
    have hlen : (toU8 (zs.take len)).length = len := by simp [toU8]; omega
    refine ⟨some a, toU8 (zs.take len), cap, by rw [hlen]; exact hcs, fun _ => ⟨a, rfl, fun j u hu => ?_⟩, by rw [hlen]; exact hl, hm⟩
    rw [bvs_toU8 _ (fun n hn => hwz n (List.mem_of_mem_take hn))] at hu
    obtain ⟨hj, hju⟩ := List.getElem?_eq_some_iff.1 hu
    have hj' : j < len := by simp at hj; omega
    have hc := hcell j (by omega)
    rw [hc]
    simp at hju
    rw [← hju]
    simp [List.getD, List.getElem?_eq_getElem (show j < zs.length by omega)]

section
variable {H : Type} {enc : TypeId × Value → H} {w : World} {base b0 : Nat} {spare : Nat → Bool} {held : Bool} {r : Reach} {v : Value} {d : DataW H} {p : List MemPlace}
set_option maxRecDepth 100000 in
theorem open_bytes (hv : Value.okWide Tryz.prog w r b0 28 v) (h : DataW.Trod enc Tryz.prog w base spare held 28 v d p) : ∃ A l c, v = .slice A l.length c ∧ Rd w A l ∧ l.length ≤ c ∧ c ≤ maxLen := by
  obtain ⟨a0, len, cap, rfl⟩ := okWide_slice Tryz.underlying28 hv
  obtain ⟨fuel, hf⟩ := h
  obtain ⟨A, l, c, hcs, hr, hc, hm⟩ := read_bytes hf
  simp only [Value.cells, List.cons.injEq, Value.slice.injEq, and_true] at hcs
  obtain ⟨rfl, rfl, rfl⟩ := hcs
  exact ⟨_, l, _, rfl, hr, hc, hm⟩
end

end Go.Proofs.YtbnekeomdhljhaaGreatDoor.V

namespace Go.Proofs.YtbnekeomdhljhaaGreatDoor.O
open Go.ChangeShapes Go.WideShapes Go.ChangeAt Go.RowKit

theorem handed_and {H : Type} {enc : TypeId × Value → H} {a : Assume} {C : Checked} {os : Os} {f : FuncId} {fn : Func} {s : ChangeSpec} {conds : List PathCond} {apart fresh handsOn again : Bool} {X : World → Array Value → Prop}
    (hX : ∀ (w w' : World) (args : Array Value), w.heap = w'.heap → X w args → X w' args) (own : ownKnob C.prog.godebug = none) (started : os.Started) (noInit : C.prog.inits.idxOf? f = none) (hfn : C.prog.funcs[f]? = some fn)
    (witness : ∃ (w : World) (tape : Tape) (i : Input), w.os = os ∧ (w.forCall tape i).Shaped C.prog ∧ i.vars = [] ∧ Input.okWide C.prog (w.forCall tape i) .any w.heap.size f i ∧
      ((s.pre enc C.prog fn conds apart (w.forCall tape i).memory i.args ∧ X (w.forCall tape i).memory i.args) ∧ sizedMet enc C.prog fn (OpenSpec.ofChange s) apart (w.forCall tape i).memory i.args) ∧ a.holds C.prog (lone (Frame.enter C.prog f i.args .normal) [] (w.forCall tape i)))
    (contract : ∀ (W : World) (base : Nat) (args : Array Value) (ds gs : List (DataW H)) (before : List MemPlace),
      (∀ (j : Nat) t v, fn.params[j]? = some t → args[j]? = some v → Value.okWide C.prog W .any base t v) → DataW.Whole enc C.prog fn.params.toList s.vars apart W args.toList ds gs before →
      W.ShapedOpen C.prog → X W args → Calls C.prog f args W fun e W' => ∃ v, e = .returned v ∧ s.post enc C.prog fn apart fresh handsOn again W args v W') :
    ReturnsInHanded a C os f .any (fun w args => (s.pre enc C.prog fn conds apart w args ∧ X w args) ∧ sizedMet enc C.prog fn (OpenSpec.ofChange s) apart w args) (s.post enc C.prog fn apart fresh handsOn again) := by
  refine returnsInHanded_of_calls own started noInit witness ?_
  intro w tape i _ hsh _ hok hpre _
  obtain ⟨_, _, _, fn', hfn', _, _, _, _, hval⟩ := hok
  obtain rfl : fn' = fn := Option.some.inj (hfn'.symm.trans hfn)
  obtain ⟨⟨⟨ds, gs, before, hw, _⟩, hx⟩, _⟩ := hpre
  refine (contract (w.forCall tape i) w.heap.size i.args ds gs before hval (DataW.Whole.of_heap (w' := w.forCall tape i) (by rfl) hw) hsh (hX _ _ _ (by rfl) hx)).mono fun e W' ⟨v, he, hp⟩ => ?_
  subst he
  exact ChangeSpec.post_blind hp

end Go.Proofs.YtbnekeomdhljhaaGreatDoor.O
