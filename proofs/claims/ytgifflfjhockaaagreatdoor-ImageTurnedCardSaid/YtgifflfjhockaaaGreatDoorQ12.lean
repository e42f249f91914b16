/-
  slices.Concat of parts of bytes, and slices.Grow of the nil slice. Conditions: the parts lie in memory; no more than 2^46 bytes in all.
  A region that draws its order, by what each of its values is, as in KProps4, but each operation writes a slot of its own, in no order (ds). No program, no conditions.
  A region that draws its order, by what each of its values is, as in KProps5; what binds in the text's order alone, or in the compiler's alone, is not asked about. No program, no conditions.
  A region that draws its order, by what each of its values is, as in KProps6; one operation changes the world by a relation of one's own. No program, no conditions.
  What Encode of layer image answers: an image's bytes. Conditions: the image's lists lie in memory, each below 2^47.
  What the rows of opcode share: the condition on the listed package-level variables, opened; an instruction as an argument. No conditions.
  An argument that is a list of instructions, opened: an address from which its cells stand; its numbers fit. No conditions.
-/
import Derived.ChangeSame
import Derived.Deep.Fields
import Derived.Deep.Slices
import Derived.Deep.Strs
import Derived.LaidLaws
import Derived.LaidMore
import Derived.Lib.AppendZeros
import Derived.Lib.LaidTab
import Derived.Lib.SmallJoins
import Derived.OpenShut
import Derived.ProofKit
import Derived.SizedLaws
import Derived.Stop.LaidErr
import Derived.Test.YtgifflfjhockaaaGreatDoorQ10
import Derived.Test.YtgifflfjhockaaaGreatDoorQ11
import Derived.Test.YtgifflfjhockaaaGreatDoorQ5
import Derived.Test.YtgifflfjhockaaaGreatDoorRows
namespace Go.Proofs.YtgifflfjhockaaaGreatDoor.I
open Go.RowKit W

theorem byte_info : (Tryz.prog.info? 5).map (fun i => (i.zero, i.size, i.bytes)) = some (some (.int .u8 0), 1, 1) := by kernel_rfl
set_option maxRecDepth 100000 in
set_option maxHeartbeats 2000000 in
theorem grow_any (n : Nat) (w : World) (h1 : 1 ≤ n) (h2 : n ≤ 140737488355328) : Calls Tryz.prog 69 #[.slice none 0 0, .int .i64 (n : Int)] w fun e w' => ∃ v, e = .returned v ∧ V.OwnB w' (Fresh w) v [] ∧ Keep NoB w w' := by
  obtain ⟨i0, hi, hz0, hz1, hz2⟩ := info_parts byte_info
  have happ := Lib.run_append_nil_zeros (P := Tryz.prog) w 26 3 26 5 i0 (.int .u8 0) .i64 .i64 Tryz.underlying26 Tryz.underlying3 hi hz0 n (by omega) (by rw [hz1]; omega) (by omega) (by rw [hz2]; omega)
  generalize hcap : grownCap w n 0 5 = cap2 at happ
  have hcapge : n ≤ cap2 := by rw [← hcap]; exact grownCap_ge w _ 0 5
  have hcaple : cap2 ≤ maxLen := by rw [← hcap]; exact grownCap_le_maxLen w _ 0 5 (by unfold maxLen; omega)
  generalize hZ : (Builtin.zeroCells (Value.int .u8 0).cells n ++ Builtin.zeroCells (Value.int .u8 0).cells (cap2 - n)) = Z at happ
  have hZs : Z.size = cap2 := by rw [← hZ]; simp [size_zeroCells, Value.cells]; omega
  have HZ : Hid (V.OwnB (w.drew.alloc (.cells Z 5)) (Fresh w) (.slice (some ⟨w.heap.size, 0, none⟩) 0 cap2) []) := ⟨⟨rfl, .inr ⟨w.heap.size, cap2, Z, rfl, Nat.zero_le _, heap_alloc_new w.drew _, Nat.zero_le _, hcaple, by rw [hZs, Nat.mul_one], by simp⟩⟩, fun g e => by cases e; exact Nat.le_refl _⟩
  have HK : Hid (Keep NoB w (w.drew.alloc (.cells Z 5))) := (Keep.refl NoB w).drew.alloc _
  clear hcap hZ hZs
  go_enter Tryz.func69, Tryz.ntmps69
  go_wp2_with (at_builtin; refine Lib.wpList_append_run _ rfl _ _ _ _ rfl _ _ rfl rfl _ _ happ ?_)
  go_ret
  exact ⟨_, rfl, HZ.out, HK.out⟩

/-- How many bytes there are. -/
theorem allB_len_take {ps : List PE} {k : Nat} (h : k < ps.length) : (allB (ps.take (k + 1))).length = (allB (ps.take k)).length + ps[k].2.length := by rw [allB_take h, List.length_append]
theorem allB_le {ps : List PE} (k : Nat) : (allB (ps.take k)).length ≤ (allB ps).length := by
  conv => rhs; rw [← List.take_append_drop k ps]
  unfold allB
  rw [List.flatMap_append, List.length_append]; omega

set_option maxRecDepth 100000 in
set_option maxHeartbeats 4000000 in
theorem concat_any (P : Option Addr) (ps : List PE) (m c : Nat) (w : World) (hr : Hid (∀ W, Keep NoB w W → Rd W P (pvs ps))) (hn : Hid (ps.length = m)) (hp : Hid (∀ e ∈ ps, ∀ W, Keep NoB w W → PartAt W e)) (hm : m ≤ 1000) (hl : (allB ps).length ≤ 70368744177664) (h0 : 1 ≤ (allB ps).length) :
    Calls Tryz.prog 35 #[.slice P m c] w fun e w' => ∃ v, e = .returned v ∧ V.OwnB w' (Fresh w) v (allB ps) ∧ Keep NoB w w' := by
  go_enter Tryz.func35, Tryz.ntmps35
  go_wp2
  go_loop [3, 11] (fun s i => ∃ k : Nat, k ≤ m ∧ i = .int .i64 k ∧ s = .int .i64 ((allB (ps.take k)).length : Nat)) (fun _ i => m - (intOf i).toNat)
  case atStart => exact ⟨0, Nat.zero_le _, rfl, rfl⟩
  case round =>
    obtain ⟨k, hk, rfl, rfl⟩ := hrel
    by_cases hlt : k < m
    · have hkp : k < ps.length := by rw [hn.out]; exact hlt
      obtain ⟨g, off, rfl, hc⟩ := part_at (hr.out _ (Keep.refl _ _)) hkp
      have hT := allB_len_take hkp
      have hT2 := allB_le (ps := ps) (k + 1)
      have hP := (hp.out _ (List.getElem_mem hkp) w (Keep.refl _ _)).2
      generalize ps[k] = e at hc hT hP
      obtain ⟨⟨A, n, c'⟩, l⟩ := e
      dsimp only at hc hT hP
      generalize (allB (ps.take k)).length = N at hT ⊢
      have HT := Lib.hid hT
      have hle : N + n ≤ 70368744177664 := by omega
      clear hT hT2
      go_wp2
      go_round
      case rel => exact ⟨k + 1, by omega, by go_num, by rw [HT.out, hP]; go_num⟩
      case measure => simp [intOf]; omega
    · obtain rfl : k = m := by omega
      have hall : ps.take k = ps := List.take_of_length_le (by rw [hn.out]; exact Nat.le_refl _)
      rw [hall]
      have HG := Lib.hid (fun w => grow_any (allB ps).length w h0 (by omega))
      have HL := Lib.hid hl
      generalize hN : (allB ps).length = N at HG
      have HN := Lib.hid hN
      clear hN hl h0 hall
      go_wp2_with fail
      refine (HG.out _).mono ?_
      rintro e w1 ⟨v1, rfl, h1, k1⟩
      go_wp2
      go_loopw [6, 27] (fun v i wr => ∃ j : Nat, j ≤ k ∧ i = .int .i64 j ∧ V.OwnB wr (Fresh w) v (allB (ps.take j)) ∧ Keep NoB w wr) (fun _ i _ => k - (intOf i).toNat)
      case atStart => exact ⟨0, Nat.zero_le _, rfl, by simpa [allB] using h1, k1⟩
      case round =>
        obtain ⟨j, hj, rfl, hO, hK⟩ := hrel
        clear h1 k1
        by_cases hlt : j < k
        · have hjp : j < ps.length := by rw [hn.out]; exact hlt
          obtain ⟨g, off, rfl, hc⟩ := part_at (hr.out _ hK) hjp
          have HT := Lib.hid (allB_take hjp)
          have h2 := allB_len_take hjp
          have h3 := allB_le (ps := ps) (j + 1)
          have h4 := HL.out
          have HP := hp.out _ (List.getElem_mem hjp) wr hK
          have hP1 := HP.2
          have HP1 := Lib.hid HP.1
          clear HP
          generalize ps[j] = e at hc HT h2 hP1 HP1
          obtain ⟨⟨A, n, c'⟩, l⟩ := e
          dsimp only at hc HT h2 hP1 HP1
          subst hP1
          have hle : (allB (ps.take j)).length + l.length ≤ 140737488355328 := by omega
          clear h2 h3 h4
          go_wp2_with (at_builtin; refine V.wpList_append_rd _ rfl _ _ rfl _ (allB (ps.take j)) l A c' rfl hO.1 rfl HP1.out hle ?_; intro v5 w5 hown hg hat; obtain ⟨hO3, hK3⟩ := O.own_app hO hK hown hg hat; rw [← HT.out] at hO3; clear hown hg hat)
          go_roundw
          case rel => exact ⟨j + 1, by omega, by go_num, hO3, hK3⟩
          case measure => simp [intOf]; omega
        · obtain rfl : j = k := by omega
          rw [List.take_of_length_le (by rw [hn.out]; exact Nat.le_refl _)] at hO
          go_wp2
          go_ret
          exact ⟨_, rfl, hO, hK⟩

end Go.Proofs.YtgifflfjhockaaaGreatDoor.I

namespace Go.Proofs.YtgifflfjhockaaaGreatDoor
open Go.RowKit
section
variable {P : Program} {md : Region.Mode} {ops : Array Oper}

/-- What lies in other slots stays. -/
def FrameD (a0 : Act) (ds : Nat → Nat) (n : Nat) (a : Act) : Prop := a.defers = a0.defers ∧ a.tmps.size = a0.tmps.size ∧ ∀ s, (∀ i, i < n → s ≠ ds i) → a.tmps.getD s undef = a0.tmps.getD s undef
def fitsD (ops : Array Oper) (ds : Nat → Nat) (n : Nat) : Bool := (List.range ops.size).all fun i => ((ops[i]?).bind (·.dst)).isNone || decide (ds i < n)
theorem fitsD_at {ds : Nat → Nat} {n : Nat} (h : fitsD ops ds n = true) {i : Nat} {o : Oper} (ho : ops[i]? = some o) {d : Nat} (hd : o.dst = some d) : ds i < n := by
  have hi := (Array.getElem?_eq_some_iff.1 ho).1
  have h1 := List.all_eq_true.1 h i (List.mem_range.2 hi)
  simpa [ho, hd] using h1
/-- The slots' values put one by one. -/
def fillD (t : Array Value) : List (Nat × Value) → Array Value
  | [] => t
  | x :: vs => fillD (t.setIfInBounds x.1 x.2) vs
theorem fillD_size : ∀ (vs : List (Nat × Value)) (t : Array Value), (fillD t vs).size = t.size
  | [], _ => rfl
  | x :: vs, t => by rw [fillD, fillD_size vs]; simp
theorem fillD_get : ∀ (vs : List (Nat × Value)) (t u : Array Value) (s : Nat), t.size = u.size → (∀ x ∈ vs, x.2 = u.getD x.1 undef) → ((∃ x ∈ vs, x.1 = s) ∨ t.getD s undef = u.getD s undef) → (fillD t vs).getD s undef = u.getD s undef
  | [], _, _, _, _, _, h => by
    rcases h with ⟨x, hx, _⟩ | h
    · cases hx
    · exact h
  | x :: vs, t, u, s, hz, hv, h => by
    rw [fillD]
    refine fillD_get vs _ u s (by simpa using hz) (fun y hy => hv y (List.mem_cons_of_mem _ hy)) ?_
    by_cases e : x.1 = s
    · refine .inr ?_
      have h1 := hv x List.mem_cons_self
      by_cases hs : s < t.size
      · rw [h1, e]
        have hs2 : s < u.size := by omega
        simp [hs]
      · have hs2 : ¬ s < u.size := by omega
        simp [hs, hs2]
    · rcases h with ⟨y, hy, hye⟩ | h
      · rcases List.mem_cons.1 hy with rfl | hy
        · exact absurd hye e
        · exact .inl ⟨y, hy, hye⟩
      · refine .inr ?_
        simp only [Array.getD_eq_getD_getElem?, Array.getElem?_setIfInBounds] at h ⊢
        rw [if_neg e]; exact h
theorem frameD_fill {a0 a : Act} {ds : Nat → Nat} {n : Nat} (h : FrameD a0 ds n a) : a = { tmps := fillD a0.tmps ((List.range n).map fun i => (ds i, a.tmps.getD (ds i) undef)), defers := a0.defers } := by
  obtain ⟨h1, h2, h3⟩ := h
  have e : a.tmps = fillD a0.tmps ((List.range n).map fun i => (ds i, a.tmps.getD (ds i) undef)) := by
    apply Array.ext
    · rw [fillD_size, h2]
    · intro s hs1 hs2
      have := fillD_get ((List.range n).map fun i => (ds i, a.tmps.getD (ds i) undef)) a0.tmps a.tmps s h2.symm (fun x hx => by
        obtain ⟨i, _, rfl⟩ := List.mem_map.1 hx; rfl) (by
        by_cases hc : ∃ i, i < n ∧ ds i = s
        · obtain ⟨i, hi, hie⟩ := hc
          exact .inl ⟨_, List.mem_map.2 ⟨i, List.mem_range.2 hi, rfl⟩, hie⟩
        · exact .inr (h3 s (fun i hi e => hc ⟨i, hi, e.symm⟩)).symm)
      rw [Array.getD_eq_getD_getElem?, Array.getD_eq_getD_getElem?, Array.getElem?_eq_getElem hs2, Array.getElem?_eq_getElem hs1] at this
      simpa using this.symm
  cases a
  simp only at h1 e
  rw [h1, ← e]

theorem frameD_list {a0 a : Act} {l : List Nat} {n : Nat} (hn : n = l.length) (h : FrameD a0 (fun i => l.getD i 0) n a) : a = { tmps := fillD a0.tmps (l.map fun d => (d, a.tmps.getD d undef)), defers := a0.defers } := by
  subst hn
  have h1 := frameD_fill h
  have e : ((List.range l.length).map fun i => (l.getD i 0, a.tmps.getD (l.getD i 0) undef)) = l.map fun d => (d, a.tmps.getD d undef) := by
    apply List.ext_getElem?
    intro i
    by_cases hi : i < l.length
    · rw [List.getElem?_map, List.getElem?_range hi, List.getElem?_map, List.getElem?_eq_getElem hi]
      simp [List.getD, List.getElem?_eq_getElem hi]
    · rw [List.getElem?_eq_none (by simp; omega), List.getElem?_eq_none (by simp; omega)]
  rw [e] at h1
  exact h1

end
end Go.Proofs.YtgifflfjhockaaaGreatDoor

namespace Go.Proofs.YtgifflfjhockaaaGreatDoor
open Go.RowKit
section
variable {P : Program} {md : Region.Mode} {ops : Array Oper}

/-- Number i writes the slot ds i (number c may write none), and stands behind earlier ones alone; no two slots are one. -/
def propsD6 (md : Region.Mode) (ops : Array Oper) (ds : Nat → Nat) (c : Nat) : Bool := (List.range ops.size).all fun i => match ops[i]? with
  | none => false
  | some o => (match o.dst with
    | none => i == c
    | some d => d == ds i) && ((o.after.all fun e => !Region.binds md e || decide (e.on < i)) && (List.range ops.size).all fun j => i == j || !(ds i == ds j))
theorem propsD6_at {ds : Nat → Nat} {c : Nat} (h : propsD6 md ops ds c = true) {i : Nat} {o : Oper} (ho : ops[i]? = some o) : (o.dst = some (ds i) ∨ (o.dst = none ∧ i = c)) ∧ (∀ e ∈ o.after, Region.binds md e = true → e.on < i) ∧ ∀ j, j < ops.size → j ≠ i → ds j ≠ ds i := by
  have hi := (Array.getElem?_eq_some_iff.1 ho).1
  have h1 := List.all_eq_true.1 h i (List.mem_range.2 hi)
  simp only [ho, Bool.and_eq_true] at h1
  obtain ⟨h1, h3, h4⟩ := h1
  refine ⟨?_, fun e he hb => ?_, fun j hj hne e => ?_⟩
  · cases hd : o.dst with
    | none => rw [hd] at h1; exact .inr ⟨rfl, by simpa using h1⟩
    | some d => rw [hd] at h1; exact .inl (by simpa using h1)
  · have := Array.all_eq_true_iff_forall_mem.1 h3 e he
    simpa [hb] using this
  · have h5 := List.all_eq_true.1 h4 j (List.mem_range.2 hj)
    rw [e] at h5
    simp at h5
    exact hne h5.symm
theorem no_readyD6 {ds : Nat → Nat} {c : Nat} (hB : propsD6 md ops ds c = true) {listed : Array Bool} (hs : listed.size = ops.size) (hr : Region.ready md ops listed = []) : ∀ i, i < ops.size → listed.getD i true = true := by
  intro i
  induction i using Nat.strongRecOn with
  | ind i ih =>
    intro hi
    cases hl : listed.getD i true
    · have ho : ops[i]? = some ops[i] := Array.getElem?_eq_getElem hi
      have : i ∈ Region.ready md ops listed := mem_ready.2 ⟨hl, ops[i], ho, fun e he hb => by
        have he2 := (propsD6_at hB ho).2.1 e he hb
        have h1 := ih e.on he2 (by omega)
        have h2 : e.on < listed.size := by omega
        simpa [h2] using h1⟩
      rw [hr] at this; cases this
    · rfl
theorem wpAny_props6 {Q : Exit → Act → World → Prop} (ds : Nat → Nat) (c : Nat) (O : Nat → Prop) (late : Nat → Bool) (hB : propsD6 md ops ds c = true) (hLt : lateG md ops c late = true) (S : Nat → Value → World → Prop) (w0 : World) (a0 : Act) (hS1 : ∀ i v w w', i ≠ c → late i = false → Keep O w0 w → S i v w → Keep O w w' → S i v w') (hS2 : ∀ i v w w', Keep O w0 w → S i v w → Keep NoB w w' → S i v w') (hsz : fitsD ops ds a0.tmps.size = true)
    (hstep : ∀ i o (a : Act) (w : World), ops[i]? = some o → i ≠ c → FrameD a0 ds ops.size a → Keep O w0 w → (∀ e ∈ o.after, Region.binds md e = true → S e.on (a.tmps.getD (ds e.on) undef) w) → Does P ops o a w fun u w' => S i u w' ∧ Keep NoB w w')
    (hspec : ∀ o (a : Act) (w : World), ops[c]? = some o → FrameD a0 ds ops.size a → Keep NoB w0 w → (∀ e ∈ o.after, Region.binds md e = true → S e.on (a.tmps.getD (ds e.on) undef) w) → Does P ops o a w fun u w' => (∀ v, (o.dst.isSome = true → v = u) → S c v w') ∧ Keep O w w')
    (hend : ∀ (a : Act) (w : World), FrameD a0 ds ops.size a → Keep O w0 w → (∀ i, i < ops.size → S i (a.tmps.getD (ds i) undef) w) → Q .normal a w) :
    ∀ (fuel : Nat) (listed : Array Bool) (a : Act) (w : World), listed.size = ops.size → (∃ L : List Nat, L.length ≤ fuel ∧ ∀ i, i < ops.size → listed.getD i true = false → i ∈ L) → FrameD a0 ds ops.size a → Keep O w0 w → (listed.getD c true = false → Keep NoB w0 w) → (∀ i, i < ops.size → late i = true → listed.getD i true = true → listed.getD c true = true) →
      (∀ i, i < ops.size → listed.getD i true = true → S i (a.tmps.getD (ds i) undef) w) → wpAny P md ops Q fuel listed a w := by
  have hNO : ∀ {X Y : World}, Keep NoB X Y → Keep O X Y := fun h => h.mono (fun _ hf _ => hf.elim)
  intro fuel
  induction fuel with
  | zero =>
    intro listed a w hs ⟨L, hL, hin⟩ hF hK hC hLa hA
    obtain rfl : L = [] := List.length_eq_zero_iff.1 (by omega)
    have hall : ∀ i, i < ops.size → listed.getD i true = true := fun i hi => by
      cases h : listed.getD i true
      · cases hin i hi h
      · rfl
    refine ⟨?_, hend a w hF hK fun i hi => hA i hi (hall i hi)⟩
    rw [List.eq_nil_iff_forall_not_mem]
    intro i hi
    obtain ⟨h1, o, ho, _⟩ := mem_ready.1 hi
    rw [hall i (Array.getElem?_eq_some_iff.1 ho).1] at h1; cases h1
  | succ fuel ih =>
    intro listed a w hs ⟨L, hL, hin⟩ hF hK hC hLa hA
    refine ⟨fun h0 => hend a w hF hK fun i hi => hA i hi (no_readyD6 hB hs h0 i hi), fun i hi => ?_⟩
    obtain ⟨h1, o, ho, hall⟩ := mem_ready.1 hi
    have hi' := (Array.getElem?_eq_some_iff.1 ho).1
    obtain ⟨hd, hlt, hdis⟩ := propsD6_at hB ho
    have hdeps : ∀ e ∈ o.after, Region.binds md e = true → S e.on (a.tmps.getD (ds e.on) undef) w := fun e he hb => by
      have h2 := hall e he hb
      have h3 := hlt e he hb
      refine hA e.on (by omega) ?_
      have h4 : e.on < listed.size := by omega
      simpa [h4] using h2
    have hKO : (if i = c then Keep NoB w0 w else True) := by
      split
      · rename_i e; subst e; exact hC h1
      · trivial
    have hdoes : Does P ops o a w fun u w' => (∀ v, (o.dst.isSome = true → v = u) → S i v w') ∧ Keep O w w' ∧ (i ≠ c → Keep NoB w w') := by
      by_cases e : i = c
      · subst e
        rw [if_pos rfl] at hKO
        rcases hspec o a w ho hF hKO hdeps with ⟨hw, hy⟩ | ⟨hw, h2, h3⟩
        · refine .inl ⟨hw, ?_⟩
          unfold yieldsK at hy ⊢
          exact yieldsR_mono (fun u w' ⟨h2, h3⟩ => ⟨h2, h3, fun h => absurd rfl h⟩) _ _ hy
        · exact .inr ⟨hw, h2, h3, fun h => absurd rfl h⟩
      · have hsome : o.dst.isSome = true := by
          rcases hd with h | ⟨_, h⟩
          · rw [h]; rfl
          · exact absurd h e
        rcases hstep i o a w ho e hF hK hdeps with ⟨hw, hy⟩ | ⟨hw, h2, h3⟩
        · refine .inl ⟨hw, ?_⟩
          unfold yieldsK at hy ⊢
          exact yieldsR_mono (fun u w' ⟨h2, h3⟩ => ⟨fun v hv => by rw [hv hsome]; exact h2, hNO h3, fun _ => h3⟩) _ _ hy
        · exact .inr ⟨hw, fun v hv => by rw [hv hsome]; exact h2, hNO h3, fun _ => h3⟩
    have hnext : ∀ u w', (∀ v, (o.dst.isSome = true → v = u) → S i v w') → Keep O w w' → (i ≠ c → Keep NoB w w') → wpAny P md ops Q fuel (listed.setIfInBounds i true) (a.put o.dst u) w' := by
      intro u w' hSu hk hkn
      have hfr : FrameD a0 ds ops.size (a.put o.dst u) ∧ (∀ k, k < ops.size → k ≠ i → (a.put o.dst u).tmps.getD (ds k) undef = a.tmps.getD (ds k) undef) ∧ (o.dst.isSome = true → (a.put o.dst u).tmps.getD (ds i) undef = u) := by
        rcases hd with hd | ⟨hd, _⟩
        · rw [hd]
          have hds : ds i < a.tmps.size := by rw [hF.2.1]; exact fitsD_at hsz ho hd
          have hget : ∀ s, (a.put (some (ds i)) u).tmps.getD s undef = if s = ds i then u else a.tmps.getD s undef := fun s => by
            unfold Act.put
            by_cases e : s = ds i
            · subst e; simp [hds]
            · rw [if_neg e]
              simp only [Array.getD_eq_getD_getElem?, Array.getElem?_setIfInBounds]
              rw [if_neg (fun h => e h.symm)]
          refine ⟨⟨hF.1, by unfold Act.put; simpa using hF.2.1, fun s hs' => ?_⟩, fun k hk' hki => ?_, fun _ => ?_⟩
          · rw [hget, if_neg (hs' i hi')]; exact hF.2.2 s hs'
          · rw [hget, if_neg (hdis k hk' hki)]
          · rw [hget, if_pos rfl]
        · rw [hd]
          exact ⟨hF, fun _ _ _ => rfl, fun h => by cases h⟩
      obtain ⟨hF', hother, hself⟩ := hfr
      refine ih (listed.setIfInBounds i true) _ w' (by simpa using hs) ⟨L.erase i, ?_, fun k hk' hl => ?_⟩ hF' (hK.trans hk (fun _ h _ => h)) (fun hl => ?_) (fun k hk' hlk hl => ?_) fun k hk' hl => ?_
      · rw [List.length_erase_of_mem (hin i hi' h1)]; omega
      · have hki : k ≠ i := by
          rintro rfl
          have : k < listed.size := by omega
          simp [this] at hl
        have hl2 : listed.getD k true = false := by rw [getD_set_ne true (Ne.symm hki)] at hl; exact hl
        exact (List.mem_erase_of_ne hki).2 (hin k hk' hl2)
      · have hci : c ≠ i := by
          rintro rfl
          have : c < listed.size := by omega
          simp [this] at hl
        rw [getD_set_ne true (Ne.symm hci)] at hl
        exact keepN (hC hl) (hkn (Ne.symm hci))
      · have hcl : ∀ n, listed.getD n true = true → (listed.setIfInBounds i true).getD n true = true := fun n hn => by
          by_cases e : i = n
          · subst e
            have h5 : i < listed.size := by omega
            simp [h5]
          · rw [getD_set_ne true e]; exact hn
        by_cases e : k = i
        · subst e
          by_cases ec : k = c
          · rw [← ec]; exact hl
          · obtain ⟨x, hx, hb, h6⟩ := lateG_at hLt ho hlk ec
            have h7 := hall x hx hb
            have h8 := hlt x hx hb
            have h9 : x.on < listed.size := by omega
            have h10 : listed.getD x.on true = true := by simpa [h9] using h7
            refine hcl c ?_
            rcases h6 with h6 | h6
            · rw [← h6]; exact h10
            · exact hLa x.on (by omega) h6 h10
        · rw [getD_set_ne true (Ne.symm e)] at hl
          exact hcl c (hLa k hk' hlk hl)
      · by_cases e : k = i
        · subst e
          exact hSu _ hself
        · rw [hother k hk' e]
          rw [getD_set_ne true (Ne.symm e)] at hl
          by_cases ec : i = c
          · subst ec
            by_cases hlk : late k = true
            · have := hLa k hk' hlk hl
              rw [h1] at this; cases this
            · exact hS1 k _ _ _ e (by simpa using hlk) hK (hA k hk' hl) hk
          · exact hS2 k _ _ _ hK (hA k hk' hl) (hkn ec)
    unfold wpOp
    simp only [ho]
    rcases hdoes with ⟨hw, hy⟩ | ⟨hw, h2, h3, h4⟩
    · rw [if_pos hw]
      exact .inl (Oper.wp_of_yields hy fun u w' ⟨h2, h3, h4⟩ => hnext u w' h2 h3 h4)
    · rw [if_neg (by rw [hw]; decide)]
      exact hnext undef w h2 h3 h4
theorem wp_region_props6 {id : Nat} {Q : Exit → Act → World → Prop} {a0 : Act} {w : World} (ds : Nat → Nat) (c : Nat) (O : Nat → Prop) (late : Nat → Bool) (hm : P.follows .mixedOrders = true) (hB : propsD6 .any ops ds c = true) (hLt : lateG .any ops c late = true) (S : Nat → Value → World → Prop) (hS1 : ∀ i v w1 w', i ≠ c → late i = false → Keep O w w1 → S i v w1 → Keep O w1 w' → S i v w') (hS2 : ∀ i v w1 w', Keep O w w1 → S i v w1 → Keep NoB w1 w' → S i v w') (hsz : fitsD ops ds a0.tmps.size = true)
    (hstep : ∀ i o (a : Act) (w' : World), ops[i]? = some o → i ≠ c → FrameD a0 ds ops.size a → Keep O w w' → (∀ e ∈ o.after, Region.binds .any e = true → S e.on (a.tmps.getD (ds e.on) undef) w') → Does P ops o a w' fun u w'' => S i u w'' ∧ Keep NoB w' w'')
    (hspec : ∀ o (a : Act) (w' : World), ops[c]? = some o → FrameD a0 ds ops.size a → Keep NoB w w' → (∀ e ∈ o.after, Region.binds .any e = true → S e.on (a.tmps.getD (ds e.on) undef) w') → Does P ops o a w' fun u w'' => (∀ v, (o.dst.isSome = true → v = u) → S c v w'') ∧ Keep O w' w'')
    (hend : ∀ (a : Act) (w' : World), FrameD a0 ds ops.size a → Keep O w w' → (∀ i, i < ops.size → S i (a.tmps.getD (ds i) undef) w') → Q .normal a w') : (Code.region id ops true).wp P Q a0 w :=
  wp_region_any hm (wpAny_props6 ds c O late hB hLt S w a0 hS1 hS2 hsz hstep hspec hend _ _ a0 w.drew (by simp) ⟨List.range ops.size, by simp, fun i hi _ => List.mem_range.2 hi⟩ ⟨rfl, rfl, fun _ _ => rfl⟩ (Keep.refl O w).drew (fun _ => (Keep.refl NoB w).drew) (fun i hi _ hl => by simp [hi] at hl) fun i hi hl => by
    simp [hi] at hl)
end
end Go.Proofs.YtgifflfjhockaaaGreatDoor

namespace Go.Proofs.YtgifflfjhockaaaGreatDoor
open Go.RowKit
section
variable {P : Program} {md : Region.Mode} {ops : Array Oper}
theorem wpAny_props7 {Q : Exit → Act → World → Prop} (ds : Nat → Nat) (c : Nat) (G : World → Prop) (Kx : World → World → Prop) (late : Nat → Bool) (hB : propsD6 md ops ds c = true) (hLt : lateG md ops c late = true) (S : Nat → Value → World → Prop) (a0 : Act) (hGN : ∀ w w', G w → Keep NoB w w' → G w') (hS1 : ∀ i v w w', i ≠ c → late i = false → G w → S i v w → Kx w w' → S i v w') (hS2 : ∀ i v w w', G w → S i v w → Keep NoB w w' → S i v w') (hsz : fitsD ops ds a0.tmps.size = true)
    (hstep : ∀ i o (a : Act) (w : World), ops[i]? = some o → i ≠ c → FrameD a0 ds ops.size a → G w → (∀ e ∈ o.after, Region.binds md e = true → S e.on (a.tmps.getD (ds e.on) undef) w) → Does P ops o a w fun u w' => S i u w' ∧ Keep NoB w w')
    (hspec : ∀ o (a : Act) (w : World), ops[c]? = some o → FrameD a0 ds ops.size a → G w → (∀ e ∈ o.after, Region.binds md e = true → S e.on (a.tmps.getD (ds e.on) undef) w) → Does P ops o a w fun u w' => (∀ v, (o.dst.isSome = true → v = u) → S c v w') ∧ Kx w w' ∧ G w')
    (hend : ∀ (a : Act) (w : World), FrameD a0 ds ops.size a → G w → (∀ i, i < ops.size → S i (a.tmps.getD (ds i) undef) w) → Q .normal a w) :
    ∀ (fuel : Nat) (listed : Array Bool) (a : Act) (w : World), listed.size = ops.size → (∃ L : List Nat, L.length ≤ fuel ∧ ∀ i, i < ops.size → listed.getD i true = false → i ∈ L) → FrameD a0 ds ops.size a → G w → (∀ i, i < ops.size → late i = true → listed.getD i true = true → listed.getD c true = true) →
      (∀ i, i < ops.size → listed.getD i true = true → S i (a.tmps.getD (ds i) undef) w) → wpAny P md ops Q fuel listed a w := by
  intro fuel
  induction fuel with
  | zero =>
    intro listed a w hs ⟨L, hL, hin⟩ hF hK hLa hA
    obtain rfl : L = [] := List.length_eq_zero_iff.1 (by omega)
    have hall : ∀ i, i < ops.size → listed.getD i true = true := fun i hi => by
      cases h : listed.getD i true
      · cases hin i hi h
      · rfl
    refine ⟨?_, hend a w hF hK fun i hi => hA i hi (hall i hi)⟩
    rw [List.eq_nil_iff_forall_not_mem]
    intro i hi
    obtain ⟨h1, o, ho, _⟩ := mem_ready.1 hi
    rw [hall i (Array.getElem?_eq_some_iff.1 ho).1] at h1; cases h1
  | succ fuel ih =>
    intro listed a w hs ⟨L, hL, hin⟩ hF hK hLa hA
    refine ⟨fun h0 => hend a w hF hK fun i hi => hA i hi (no_readyD6 hB hs h0 i hi), fun i hi => ?_⟩
    obtain ⟨h1, o, ho, hall⟩ := mem_ready.1 hi
    have hi' := (Array.getElem?_eq_some_iff.1 ho).1
    obtain ⟨hd, hlt, hdis⟩ := propsD6_at hB ho
    have hdeps : ∀ e ∈ o.after, Region.binds md e = true → S e.on (a.tmps.getD (ds e.on) undef) w := fun e he hb => by
      have h2 := hall e he hb
      have h3 := hlt e he hb
      refine hA e.on (by omega) ?_
      have h4 : e.on < listed.size := by omega
      simpa [h4] using h2
    have hdoes : Does P ops o a w fun u w' => (∀ v, (o.dst.isSome = true → v = u) → S i v w') ∧ G w' ∧ (i = c → Kx w w') ∧ (i ≠ c → Keep NoB w w') := by
      by_cases e : i = c
      · subst e
        rcases hspec o a w ho hF hK hdeps with ⟨hw, hy⟩ | ⟨hw, h2, h3, h4⟩
        · refine .inl ⟨hw, ?_⟩
          unfold yieldsK at hy ⊢
          exact yieldsR_mono (fun u w' ⟨h2, h3, h4⟩ => ⟨h2, h4, fun _ => h3, fun h => absurd rfl h⟩) _ _ hy
        · exact .inr ⟨hw, h2, h4, fun _ => h3, fun h => absurd rfl h⟩
      · have hsome : o.dst.isSome = true := by
          rcases hd with h | ⟨_, h⟩
          · rw [h]; rfl
          · exact absurd h e
        rcases hstep i o a w ho e hF hK hdeps with ⟨hw, hy⟩ | ⟨hw, h2, h3⟩
        · refine .inl ⟨hw, ?_⟩
          unfold yieldsK at hy ⊢
          exact yieldsR_mono (fun u w' ⟨h2, h3⟩ => ⟨fun v hv => by rw [hv hsome]; exact h2, hGN _ _ hK h3, fun h => absurd h e, fun _ => h3⟩) _ _ hy
        · exact .inr ⟨hw, fun v hv => by rw [hv hsome]; exact h2, hGN _ _ hK h3, fun h => absurd h e, fun _ => h3⟩
    have hnext : ∀ u w', (∀ v, (o.dst.isSome = true → v = u) → S i v w') → G w' → (i = c → Kx w w') → (i ≠ c → Keep NoB w w') → wpAny P md ops Q fuel (listed.setIfInBounds i true) (a.put o.dst u) w' := by
      intro u w' hSu hgw hkx hkn
      have hfr : FrameD a0 ds ops.size (a.put o.dst u) ∧ (∀ k, k < ops.size → k ≠ i → (a.put o.dst u).tmps.getD (ds k) undef = a.tmps.getD (ds k) undef) ∧ (o.dst.isSome = true → (a.put o.dst u).tmps.getD (ds i) undef = u) := by
        rcases hd with hd | ⟨hd, _⟩
        · rw [hd]
          have hds : ds i < a.tmps.size := by rw [hF.2.1]; exact fitsD_at hsz ho hd
          have hget : ∀ s, (a.put (some (ds i)) u).tmps.getD s undef = if s = ds i then u else a.tmps.getD s undef := fun s => by
            unfold Act.put
            by_cases e : s = ds i
            · subst e; simp [hds]
            · rw [if_neg e]
              simp only [Array.getD_eq_getD_getElem?, Array.getElem?_setIfInBounds]
              rw [if_neg (fun h => e h.symm)]
          refine ⟨⟨hF.1, by unfold Act.put; simpa using hF.2.1, fun s hs' => ?_⟩, fun k hk' hki => ?_, fun _ => ?_⟩
          · rw [hget, if_neg (hs' i hi')]; exact hF.2.2 s hs'
          · rw [hget, if_neg (hdis k hk' hki)]
          · rw [hget, if_pos rfl]
        · rw [hd]
          exact ⟨hF, fun _ _ _ => rfl, fun h => by cases h⟩
      obtain ⟨hF', hother, hself⟩ := hfr
      refine ih (listed.setIfInBounds i true) _ w' (by simpa using hs) ⟨L.erase i, ?_, fun k hk' hl => ?_⟩ hF' hgw (fun k hk' hlk hl => ?_) fun k hk' hl => ?_
      · rw [List.length_erase_of_mem (hin i hi' h1)]; omega
      · have hki : k ≠ i := by
          rintro rfl
          have : k < listed.size := by omega
          simp [this] at hl
        have hl2 : listed.getD k true = false := by rw [getD_set_ne true (Ne.symm hki)] at hl; exact hl
        exact (List.mem_erase_of_ne hki).2 (hin k hk' hl2)
      · have hcl : ∀ n, listed.getD n true = true → (listed.setIfInBounds i true).getD n true = true := fun n hn => by
          by_cases e : i = n
          · subst e
            have h5 : i < listed.size := by omega
            simp [h5]
          · rw [getD_set_ne true e]; exact hn
        by_cases e : k = i
        · subst e
          by_cases ec : k = c
          · rw [← ec]; exact hl
          · obtain ⟨x, hx, hb, h6⟩ := lateG_at hLt ho hlk ec
            have h7 := hall x hx hb
            have h8 := hlt x hx hb
            have h9 : x.on < listed.size := by omega
            have h10 : listed.getD x.on true = true := by simpa [h9] using h7
            refine hcl c ?_
            rcases h6 with h6 | h6
            · rw [← h6]; exact h10
            · exact hLa x.on (by omega) h6 h10
        · rw [getD_set_ne true (Ne.symm e)] at hl
          exact hcl c (hLa k hk' hlk hl)
      · by_cases e : k = i
        · subst e
          exact hSu _ hself
        · rw [hother k hk' e]
          rw [getD_set_ne true (Ne.symm e)] at hl
          by_cases ec : i = c
          · subst ec
            by_cases hlk : late k = true
            · have := hLa k hk' hlk hl
              rw [h1] at this; cases this
            · exact hS1 k _ _ _ e (by simpa using hlk) hK (hA k hk' hl) (hkx rfl)
          · exact hS2 k _ _ _ hK (hA k hk' hl) (hkn ec)
    unfold wpOp
    simp only [ho]
    rcases hdoes with ⟨hw, hy⟩ | ⟨hw, h2, h3, h4, h5⟩
    · rw [if_pos hw]
      exact .inl (Oper.wp_of_yields hy fun u w' ⟨h2, h3, h4, h5⟩ => hnext u w' h2 h3 h4 h5)
    · rw [if_neg (by rw [hw]; decide)]
      exact hnext undef w h2 h3 h4 h5
theorem wp_region_props7 {id : Nat} {Q : Exit → Act → World → Prop} {a0 : Act} {w : World} (ds : Nat → Nat) (c : Nat) (Kx : World → World → Prop) (late : Nat → Bool) (hm : P.follows .mixedOrders = true) (hB : propsD6 .any ops ds c = true) (hLt : lateG .any ops c late = true) (S : Nat → Value → World → Prop) (hS1 : ∀ i v w1 w', i ≠ c → late i = false → Keep NoB w w1 → S i v w1 → Kx w1 w' → S i v w') (hS2 : ∀ i v w1 w', Keep NoB w w1 → S i v w1 → Keep NoB w1 w' → S i v w') (hsz : fitsD ops ds a0.tmps.size = true)
    (hstep : ∀ i o (a : Act) (w' : World), ops[i]? = some o → i ≠ c → FrameD a0 ds ops.size a → Keep NoB w w' → (∀ e ∈ o.after, Region.binds .any e = true → S e.on (a.tmps.getD (ds e.on) undef) w') → Does P ops o a w' fun u w'' => S i u w'' ∧ Keep NoB w' w'')
    (hspec : ∀ o (a : Act) (w' : World), ops[c]? = some o → FrameD a0 ds ops.size a → Keep NoB w w' → (∀ e ∈ o.after, Region.binds .any e = true → S e.on (a.tmps.getD (ds e.on) undef) w') → Does P ops o a w' fun u w'' => (∀ v, (o.dst.isSome = true → v = u) → S c v w'') ∧ Kx w' w'' ∧ Keep NoB w w'')
    (hend : ∀ (a : Act) (w' : World), FrameD a0 ds ops.size a → Keep NoB w w' → (∀ i, i < ops.size → S i (a.tmps.getD (ds i) undef) w') → Q .normal a w') : (Code.region id ops true).wp P Q a0 w :=
  wp_region_any hm (wpAny_props7 ds c (fun w' => Keep NoB w w') Kx late hB hLt S a0 (fun _ _ h h' => keepN h h') hS1 hS2 hsz hstep hspec hend _ _ a0 w.drew (by simp) ⟨List.range ops.size, by simp, fun i hi _ => List.mem_range.2 hi⟩ ⟨rfl, rfl, fun _ _ => rfl⟩ (Keep.refl NoB w).drew (fun i hi _ hl => by simp [hi] at hl) fun i hi hl => by
    simp [hi] at hl)
end
end Go.Proofs.YtgifflfjhockaaaGreatDoor

namespace Go.Proofs.YtgifflfjhockaaaGreatDoor.I
open Go.RowKit W

theorem wrBS_eq {es : List SE} {n : Nat} (h : es.length = n) : wrBS n es = shB (es.map fun e => e.2) := by
  unfold wrBS shB; rw [List.length_map, h, List.flatMap_map]
theorem wrBF_eq {fs : List FE} {n : Nat} (h : fs.length = n) : wrBF n fs = fnB (fs.map fun e => e.2) := by
  unfold wrBF fnB; rw [List.length_map, h, List.flatMap_map]
theorem bytesF_le {f : F.Fu} (h : F.okF f = true) : (F.bytesF f).length ≤ 14000 := by
  obtain ⟨h1, h2, h3, h4, h5⟩ := (F.okF_iff f).1 h
  have n0 := V.encL_len f.nm.length
  have n1 := ((F.okN_iff _).1 h1).1
  have g1 := ((S.okG_iff _ _).1 h2).1
  have a1 := S.bytesT_len f.ar (by omega)
  have a2 := S.bytesT_len f.rs (by omega)
  have a3 := S.bytesT_len f.lc (by omega)
  have a4 := S.bytesT_len [] (by simp)
  have a5 := F.bytesB_len h4
  unfold F.bytesF S.bytesG
  simp only [List.length_append]; omega
theorem bytesT_le {l : List Int} (h : S.okS l = true) : (S.bytesT l).length ≤ 14000 := by
  have := ((S.okS_iff l).1 h).1
  have := S.bytesT_len l (by omega)
  omega
theorem okI_get {es : List SE} {fs : List FE} (h : okI (imOf es fs) = true) : es.length ≤ 64 ∧ fs.length ≤ 64 ∧ (∀ e ∈ es, S.okS e.2 = true) ∧ ∀ e ∈ fs, F.okF e.2 = true := by
  obtain ⟨⟨h1, ⟨_, h2⟩, _⟩, h3, h4⟩ := (okI_iff _).1 h
  refine ⟨by simpa [imOf] using h1, by simpa [imOf] using h2, fun e he => List.all_eq_true.1 h3 _ ?_, fun e he => List.all_eq_true.1 h4 _ ?_⟩
  · exact List.mem_map.2 ⟨e, he, rfl⟩
  · exact List.mem_map.2 ⟨e, he, rfl⟩
theorem inI_len {es : List SE} {fs : List FE} (h : okI (imOf es fs) = true) : (bodyI (imOf es fs)).length ≤ 3000000 := by
  obtain ⟨h1, h2, h3, h4⟩ := okI_get h
  have a1 := wrBS_len (n := es.length) (l := es) (fun e he => by have := bytesT_le (h3 e he); omega)
  have a2 : (wrBF fs.length fs).length ≤ 9 + 20000 * fs.length := wrBF_len (fun e he => by have := bytesF_le (h4 e he); omega)
  have e : bodyI (imOf es fs) = magicL ++ (wrBS es.length es ++ wrBF fs.length fs) := by
    rw [wrBS_eq rfl, wrBF_eq rfl]; rfl
  have b2 : (wrBF fs.length fs).length ≤ 9 + 20000 * 64 := by omega
  rw [e, List.length_append, List.length_append]
  have : magicL.length = 5 := rfl
  omega
/-- A slice of bytes that reads as a list. -/
def PtV (l : List UInt8) (u : Value) (w : World) : Prop := ∃ A c, u = .slice A l.length c ∧ V.Rd w A l
theorem PtV.keepN {l : List UInt8} {u : Value} {w w' : World} (h : PtV l u w) (hk : Keep NoB w w') : PtV l u w' := by
  obtain ⟨A, c, e, h⟩ := h
  exact ⟨A, c, e, h.keep hk (fun _ _ _ => id)⟩
theorem PtV.rd {l : List UInt8} {A : Option Addr} {n c : Nat} {w : World} (h : PtV l (.slice A n c) w) : V.Rd w A l := by
  obtain ⟨A', c', e, h⟩ := h
  injection e with e1 e2 e3
  subst e1; exact h
theorem OwnB.ptV {w : World} {O : Nat → Prop} {v : Value} {l : List UInt8} (h : V.OwnB w O v l) : PtV l v w := by
  obtain ⟨A, c, e, _, hr, _, _⟩ := h.form
  exact ⟨A, c, e, hr⟩
theorem rd_three {w : World} {g : Nat} {u0 u1 u2 : Value} (h : Blk w g 26 #[u0, u1, u2]) : Rd w (some ⟨g, 0, none⟩) [u0, u1, u2] := fun _ => ⟨g, 0, rfl, fun j u hu => by
  rw [Nat.zero_add, h.cell j]; simpa using hu⟩
theorem rd_two {w : World} {g : Nat} {u0 u1 : Value} (h : Blk w g 26 #[u0, u1]) : Rd w (some ⟨g, 0, none⟩) [u0, u1] := fun _ => ⟨g, 0, rfl, fun j u hu => by
  rw [Nat.zero_add, h.cell j]; simpa using hu⟩
theorem rd_single {w : World} {g : Nat} {u0 : Value} (h : Blk w g 26 #[u0]) : Rd w (some ⟨g, 0, none⟩) [u0] := fun _ => ⟨g, 0, rfl, fun j u hu => by
  rw [Nat.zero_add, h.cell j]; simpa using hu⟩
/-- One block of bytes gets the run-time's mark. -/
structure MarkK (w w' : World) : Prop where
  os : w'.os = w.os
  tape : w'.tape = w.tape
  output : w'.output = w.output
  size : w'.heap.size = w.heap.size
  block : ∀ k : Nat, w'.heap[k]? = w.heap[k]? ∨ ∃ (cs : Array Value) (t : TypeId) (f f' : Nat × Nat), w.heap[k]? = some (Obj.cells cs t f) ∧ w'.heap[k]? = some (Obj.cells cs t f')
theorem MarkK.cell {w w' : World} (h : MarkK w w') {p : Addr} {v : Value} (hc : w.cell? p = some v) : w'.cell? p = some v := by
  rcases h.block p.block with hb | ⟨cs, t, f, f', h1, h2⟩
  · exact (World.cell?_of_block hb).trans hc
  · unfold World.cell? at hc ⊢
    rw [h1] at hc
    rw [h2]
    exact hc
theorem PtV.mark {l : List UInt8} {u : Value} {w w' : World} (h : PtV l u w) (hk : MarkK w w') : PtV l u w' := by
  obtain ⟨A, c, e, h⟩ := h
  refine ⟨A, c, e, fun h0 => ?_⟩
  obtain ⟨ad, ea, hc⟩ := h h0
  exact ⟨ad, ea, fun j u hu => hk.cell (hc j u hu)⟩
theorem freeze_mark {w : World} {g k : Nat} {cs : Array Value} {t : TypeId} {f : Nat × Nat} (h : w.heap[g]? = some (.cells cs t f)) : MarkK w (w.freeze ⟨g, k, none⟩ 1) ∧ ∀ j, j ≠ g → (w.freeze ⟨g, k, none⟩ 1).heap[j]? = w.heap[j]? := by
  unfold World.freeze
  rw [if_neg (by decide)]
  obtain ⟨lo, hi⟩ := f
  have hj : ∀ (F : Obj → Obj) (j : Nat), j ≠ g → (w.heap.modify g F)[j]? = w.heap[j]? := fun F j hne => by rw [Array.getElem?_modify, if_neg (Ne.symm hne)]
  refine ⟨⟨rfl, rfl, rfl, by simp, fun j => ?_⟩, fun j hne => hj _ j hne⟩
  by_cases e : j = g
  · subst e
    refine .inr ⟨cs, t, (lo, hi), (if lo == hi then (k, k + 1) else (min lo k, max hi (k + 1))), h, ?_⟩
    simp only [Array.getElem?_modify, if_true, h, Option.map_some]
  · exact .inl (hj _ j e)
theorem run_mark {w : World} {g n c : Nat} {cs : Array Value} {f : Nat × Nat} (h : w.heap[g]? = some (.cells cs 5 f)) : (convert 26 26 (.slice (some ⟨g, 0, none⟩) n c)).run Tryz.prog w = .ok (.slice (some ⟨g, 0, none⟩) n c) (w.freeze ⟨g, cs.size, none⟩ 1) := by
  have hsh : w.shape? g = some (5, cs.size) := by unfold World.shape?; rw [h]
  simp [convert, run_underlying Tryz.underlying26, run_underlying Tryz.underlying5, markStringish, hsh]
theorem keep_mark {w0 w : World} {g k : Nat} {cs : Array Value} {t : TypeId} {f : Nat × Nat} (hK : Keep NoB w0 w) (h : w.heap[g]? = some (.cells cs t f)) (hg : w0.heap.size ≤ g) : Keep NoB w0 (w.freeze ⟨g, k, none⟩ 1) := by
  obtain ⟨hm, hj⟩ := freeze_mark (k := k) h
  exact ⟨hm.os.trans hK.os, hm.tape.trans hK.tape, hm.output.trans hK.output, by rw [hm.size]; exact hK.size, fun j hl _ => (hj j (by omega)).trans (hK.block j hl id)⟩
theorem rdB_blk {w : World} {g : Nat} {l : List UInt8} {f : Nat × Nat} (h : w.heap[g]? = some (.cells (V.bvs l).toArray 5 f)) : V.Rd w (some ⟨g, 0, none⟩) l := fun _ => ⟨_, rfl, fun j u hu => by
  have ea : (⟨g, 0, none⟩ : Addr).add j = ⟨g, j, none⟩ := by unfold Addr.add; by_cases hj : j = 0 <;> simp [hj]
  rw [ea, cell_of_row w g j _ _ f h]
  simpa using hu⟩
/-- What the values are that Encode's region yields. -/
def SN (v : IV) (a b d : List UInt8) (x m m2 : Nat) : Nat → Value → World → Prop
  | 0 => fun u w => ∃ g f, u = .slice (some ⟨g, 0, none⟩) 5 5 ∧ m2 ≤ g ∧ w.heap[g]? = some (.cells (V.bvs magicL).toArray 5 f)
  | 1 => PtV a
  | 2 => fun u _ => u = .pointer (some ⟨x, 0, none⟩)
  | 3 => fun u _ => u = .slice v.X v.nx v.cx
  | 4 => fun u _ => u = partS
  | 5 => PtV b
  | 6 => fun u _ => u = .pointer (some ⟨x, 1, none⟩)
  | 7 => fun u _ => u = .slice v.Y v.ny v.cy
  | 8 => fun u _ => u = partF
  | 9 => PtV d
  | 10 => fun u w => ∃ g A1 c1 A2 c2 A3 c3, u = .slice (some ⟨g, 0, none⟩) 3 3 ∧ Blk w g 26 #[.slice A1 a.length c1, .slice A2 b.length c2, .slice A3 d.length c3] ∧ V.Rd w A1 a ∧ V.Rd w A2 b ∧ V.Rd w A3 d
  | 11 => fun u w => ∃ A c, u = .slice A (a ++ (b ++ d)).length c ∧ V.OwnB w (fun k => m ≤ k) (.slice A (a ++ (b ++ d)).length c) (a ++ (b ++ d))
  | 12 => fun u w => ∃ A c, u = .slice A (a ++ (b ++ d)).length c ∧ V.OwnB w (fun k => m ≤ k) (.slice A (a ++ (b ++ d)).length c) (a ++ (b ++ d))
  | _ => fun _ _ => True
theorem SN_stable (v : IV) (a b d : List UInt8) (x m m2 : Nat) : ∀ i u w w', SN v a b d x m m2 i u w → Keep NoB w w' → SN v a b d x m m2 i u w'
  | 0, _, _, _, ⟨g, f, e, h0, h⟩, hk => ⟨g, f, e, h0, (hk.block g (Array.getElem?_eq_some_iff.1 h).1 id).trans h⟩
  | 1, _, _, _, h, hk => PtV.keepN h hk
  | 2, _, _, _, h, _ => h
  | 3, _, _, _, h, _ => h
  | 4, _, _, _, h, _ => h
  | 5, _, _, _, h, hk => PtV.keepN h hk
  | 6, _, _, _, h, _ => h
  | 7, _, _, _, h, _ => h
  | 8, _, _, _, h, _ => h
  | 9, _, _, _, h, hk => PtV.keepN h hk
  | 10, _, _, _, ⟨g, A1, c1, A2, c2, A3, c3, e, hb, r1, r2, r3⟩, hk => ⟨g, A1, c1, A2, c2, A3, c3, e, hb.keep hk id, r1.keep hk (fun _ _ _ => id), r2.keep hk (fun _ _ _ => id), r3.keep hk (fun _ _ _ => id)⟩
  | 11, _, _, _, ⟨A, c, e, h⟩, hk => ⟨A, c, e, h.keep hk (fun _ _ => id)⟩
  | 12, _, _, _, ⟨A, c, e, h⟩, hk => ⟨A, c, e, h.keep hk (fun _ _ => id)⟩
  | _ + 13, _, _, _, h, _ => h

theorem SN_mark (v : IV) (a b d : List UInt8) (x m m2 : Nat) (i : Nat) (u : Value) (w w' : World) (hi : i < 10) (h : SN v a b d x m m2 i u w) (hk : MarkK w w') : SN v a b d x m m2 i u w' := by
  obtain rfl | rfl | rfl | rfl | rfl | rfl | rfl | rfl | rfl | rfl : i = 0 ∨ i = 1 ∨ i = 2 ∨ i = 3 ∨ i = 4 ∨ i = 5 ∨ i = 6 ∨ i = 7 ∨ i = 8 ∨ i = 9 := by omega
  · obtain ⟨g, f, e, h0, h⟩ := h
    rcases hk.block g with hb | ⟨cs, t, f1, f2, h1, h2⟩
    · exact ⟨g, f, e, h0, hb.trans h⟩
    · rw [h1] at h
      cases h
      exact ⟨g, f2, e, h0, h2⟩
  · exact PtV.mark h hk
  · exact h
  · exact h
  · exact h
  · exact PtV.mark h hk
  · exact h
  · exact h
  · exact h
  · exact PtV.mark h hk

theorem smF_ok {W : World} {v : F.FV} {f : F.Fu} (hn : F.FnAt W v f) (hf : F.okF f = true) : F.SmF v := by
  obtain ⟨h1, h2, _, h4, h5⟩ := (F.okF_iff f).1 hf
  have h6 := ((F.okN_iff _).1 h1).1
  have h7 := (C.okB_parts h4).2.1
  have e0 := F.sz_len hn.nm
  have := hn.la
  have := hn.lb
  have := hn.ll
  have := hn.ld
  exact ⟨by omega, by omega, by omega, by omega, by omega⟩
set_option maxRecDepth 100000 in
set_option maxHeartbeats 8000000 in
theorem encode_any (v : IV) (es : List SE) (fs : List FE) (w : World) (h : ImAt w v es fs) (hl : LgI v es fs) :
    Calls Tryz.prog 13 #[v.val] w (S.EncR w (encI (imOf es fs)) (chkI (imOf es fs))) := by
  have bx := Blk.new w 25 v.cells
  have k0 := (Keep.refl NoB w).alloc (.cells v.cells 25)
  have HC := Lib.hid (fun W (hk : Keep NoB w W) => check_any v es fs W (h.keepN hk) hl _ rfl)
  obtain ⟨q0, q1⟩ := blk2 bx
  cases ho : okI (imOf es fs)
  · rw [encI_no ho, chkI_no ho]
    rw [chkI_no ho] at HC
    clear h hl bx ho
    obtain ⟨X, nx, cx, Y, ny, cy⟩ := v
    dsimp only [IV.val, IV.cells] at *
    go_enter Tryz.func13, Tryz.ntmps13
    go_wp2_with fail
    refine (HC.out _ k0).mono ?_
    rintro e w1 ⟨rfl, k1⟩
    go_wp2
    go_ret2
    exact ⟨_, rfl, V.OwnB.nil _ _, keepN k0 k1⟩
  · rw [encI_ok ho, chkI_ok ho]
    rw [chkI_ok ho] at HC
    obtain ⟨g1, g2, g3, g4⟩ := okI_get ho
    have hlx := h.lx
    have hly := h.ly
    have HS := Lib.hid (fun W (hk : Keep NoB w W) => writeS_any v.X es v.nx v.cx W (fun W' hk' => (h.keepN (keepN hk hk')).rx) hlx (by omega) (fun e he => by have := bytesT_le (g3 e he); omega) (fun e he W' hk' => by
      have := S.encodeS_any e.1.A e.2 e.1.n e.1.c W' ((h.keepN (keepN hk hk')).hs e he).1 (h.hs e he).2 (by have := hl.sh e he; omega)
      rw [S.encS_ok (g3 e he), S.chkS_ok (g3 e he)] at this
      exact this))
    have HF := Lib.hid (fun W (hk : Keep NoB w W) => writeF_any v.Y fs v.ny v.cy W (fun W' hk' => (h.keepN (keepN hk hk')).ry) hly (by omega) (fun e he => by have := bytesF_le (g4 e he); omega) (fun e he W' hk' => by
      have hs : F.SmF e.1 := smF_ok (h.hf e he) (g4 e he)
      have := F.encodeF_any e.1 e.2 W' ((h.keepN (keepN hk hk')).hf e he) hs
      rw [F.encF_ok (g4 e he), F.chkF_ok (g4 e he)] at this
      exact this))
    have hbody : Hid (magicL ++ (wrBS v.nx es ++ wrBF v.ny fs) = bodyI (imOf es fs)) := by show _ = _; rw [wrBS_eq hlx, wrBF_eq hly]; rfl
    have hlen : (magicL ++ (wrBS v.nx es ++ wrBF v.ny fs)).length ≤ 3000000 := by rw [hbody.out]; exact inI_len ho
    have hb1 : bytesI (imOf es fs) = (magicL ++ (wrBS v.nx es ++ wrBF v.ny fs)) ++ four (sumN (magicL ++ (wrBS v.nx es ++ wrBF v.ny fs))) := by rw [hbody.out]; rfl
    rw [hb1]
    clear h hl ho g1 g2 g3 g4 hlx hly hb1 hbody
    generalize wrBS v.nx es = bS at *
    generalize wrBF v.ny fs = bF at *
    have HX := Lib.hid bx
    obtain ⟨X, nx, cx, Y, ny, cy⟩ := v
    dsimp only [IV.val, IV.cells] at *
    generalize hw1 : w.alloc (.cells #[.slice X nx cx, .slice Y ny cy] 25) = w1 at k0 q0 q1 HX
    go_enter Tryz.func13, Tryz.ntmps13
    go_wp2_with fail
    refine (HC.out _ k0).mono ?_
    rintro e w2 ⟨rfl, k2⟩
    replace q0 := k2.cell q0 id
    replace q1 := k2.cell q1 id
    have gK0 := keepN k0 k2
    clear HX k0 k2 hw1 bx HC
    go_wp2_with fail
    refine wp_region_props7 (fun i => [8, 9, 10, 11, 12, 13, 14, 15, 16, 17, 18, 19, 4].getD i 0) 1 (MarkK) (fun i => decide (10 ≤ i)) (by kernel_rfl) (by kernel_rfl) (by kernel_rfl) (SN ⟨X, nx, cx, Y, ny, cy⟩ magicL bS bF w.heap.size w.heap.size w2.heap.size) (fun i u x y _ hl _ h hk => SN_mark _ _ _ _ _ _ _ i u x y (by simpa using hl) h hk) (fun i u x y _ h hk => SN_stable _ _ _ _ _ _ _ i u x y h hk) rfl ?step ?spec ?fin
    case step =>
      intro i o a w' hoo hic hF hK hA
      have hi : i < 13 := by simpa using (Array.getElem?_eq_some_iff.1 hoo).1
      by_cases h0 : i = 0
      · subst h0
        simp only [List.getElem?_toArray, List.getElem?_cons_zero, Option.some.injEq] at hoo
        subst hoo
        refine Does.plain rfl ?_
        unfold yieldsK
        go_simp
        exact ⟨⟨w'.heap.size, (0, 0), rfl, hK.size, heap_alloc_new w' _⟩, (Keep.refl _ _).alloc _⟩
      by_cases h2 : i = 2
      · subst h2
        simp only [List.getElem?_toArray, List.getElem?_cons_zero, List.getElem?_cons_succ, Option.some.injEq] at hoo
        subst hoo
        have e1 : a.tmps.getD 1 undef = .pointer (some ⟨w.heap.size, 0, none⟩) := hF.2.2 1 (by decide)
        refine Does.plain rfl ?_
        unfold yieldsK
        go_simp
        exact ⟨rfl, Keep.refl _ _⟩
      by_cases h3 : i = 3
      · subst h3
        simp only [List.getElem?_toArray, List.getElem?_cons_zero, List.getElem?_cons_succ, Option.some.injEq] at hoo
        subst hoo
        have e10 : a.tmps.getD 10 undef = .pointer (some ⟨w.heap.size, 0, none⟩) := hA ⟨2, .data⟩ (by simp) rfl
        have c0 := Keep.cell hK q0 id
        refine Does.plain rfl ?_
        unfold yieldsK
        go_simp
        exact ⟨rfl, Keep.refl _ _⟩
      by_cases h4 : i = 4
      · subst h4
        simp only [List.getElem?_toArray, List.getElem?_cons_zero, List.getElem?_cons_succ, Option.some.injEq] at hoo
        subst hoo
        refine Does.plain rfl ?_
        unfold yieldsK
        go_simp
        refine (partsS_any w').mono ?_
        rintro e w3 ⟨rfl, h3⟩
        exact ⟨_, rfl, rfl, h3⟩
      by_cases h5 : i = 5
      · subst h5
        simp only [List.getElem?_toArray, List.getElem?_cons_zero, List.getElem?_cons_succ, Option.some.injEq] at hoo
        subst hoo
        have e11 : a.tmps.getD 11 undef = .slice X nx cx := hA ⟨3, .data⟩ (by simp) rfl
        have e12 : a.tmps.getD 12 undef = partS := hA ⟨4, .data⟩ (by simp) rfl
        refine Does.plain rfl ?_
        unfold yieldsK
        go_simp
        refine (HS.out w' (keepN gK0 hK)).mono ?_
        rintro e w3 ⟨u, rfl, h2, h3⟩
        exact ⟨_, rfl, OwnB.ptV h2, h3⟩
      by_cases h6 : i = 6
      · subst h6
        simp only [List.getElem?_toArray, List.getElem?_cons_zero, List.getElem?_cons_succ, Option.some.injEq] at hoo
        subst hoo
        have e1 : a.tmps.getD 1 undef = .pointer (some ⟨w.heap.size, 0, none⟩) := hF.2.2 1 (by decide)
        refine Does.plain rfl ?_
        unfold yieldsK
        go_simp
        exact ⟨rfl, Keep.refl _ _⟩
      by_cases h7 : i = 7
      · subst h7
        simp only [List.getElem?_toArray, List.getElem?_cons_zero, List.getElem?_cons_succ, Option.some.injEq] at hoo
        subst hoo
        have e14 : a.tmps.getD 14 undef = .pointer (some ⟨w.heap.size, 1, none⟩) := hA ⟨6, .data⟩ (by simp) rfl
        have c0 := Keep.cell hK q1 id
        refine Does.plain rfl ?_
        unfold yieldsK
        go_simp
        exact ⟨rfl, Keep.refl _ _⟩
      by_cases h8 : i = 8
      · subst h8
        simp only [List.getElem?_toArray, List.getElem?_cons_zero, List.getElem?_cons_succ, Option.some.injEq] at hoo
        subst hoo
        refine Does.plain rfl ?_
        unfold yieldsK
        go_simp
        refine (partsF_any w').mono ?_
        rintro e w3 ⟨rfl, h3⟩
        exact ⟨_, rfl, rfl, h3⟩
      by_cases h9 : i = 9
      · subst h9
        simp only [List.getElem?_toArray, List.getElem?_cons_zero, List.getElem?_cons_succ, Option.some.injEq] at hoo
        subst hoo
        have e15 : a.tmps.getD 15 undef = .slice Y ny cy := hA ⟨7, .data⟩ (by simp) rfl
        have e16 : a.tmps.getD 16 undef = partF := hA ⟨8, .data⟩ (by simp) rfl
        refine Does.plain rfl ?_
        unfold yieldsK
        go_simp
        refine (HF.out w' (keepN gK0 hK)).mono ?_
        rintro e w3 ⟨u, rfl, h2, h3⟩
        exact ⟨_, rfl, OwnB.ptV h2, h3⟩
      by_cases h10 : i = 10
      · subst h10
        simp only [List.getElem?_toArray, List.getElem?_cons_zero, List.getElem?_cons_succ, Option.some.injEq] at hoo
        subst hoo
        obtain ⟨A9, c9, e9, h9⟩ := hA ⟨1, .data⟩ (by simp) rfl
        have e9 : a.tmps.getD 9 undef = .slice A9 magicL.length c9 := e9
        obtain ⟨A13, c13, e13, h13⟩ := hA ⟨5, .data⟩ (by simp) rfl
        have e13 : a.tmps.getD 13 undef = .slice A13 bS.length c13 := e13
        obtain ⟨A17, c17, e17, h17⟩ := hA ⟨9, .data⟩ (by simp) rfl
        have e17 : a.tmps.getD 17 undef = .slice A17 bF.length c17 := e17
        refine Does.plain rfl ?_
        unfold yieldsK
        simp only [Array.getD_eq_getD_getElem?] at e9 e13 e17
        go_simp
        exact ⟨⟨w'.heap.size, A9, c9, A13, c13, A17, c17, rfl, Blk.new _ _ _, h9.keep ((Keep.refl NoB _).alloc _) (fun _ _ _ => id), h13.keep ((Keep.refl NoB _).alloc _) (fun _ _ _ => id), h17.keep ((Keep.refl NoB _).alloc _) (fun _ _ _ => id)⟩, (Keep.refl _ _).alloc _⟩
      by_cases h11 : i = 11
      · subst h11
        simp only [List.getElem?_toArray, List.getElem?_cons_zero, List.getElem?_cons_succ, Option.some.injEq] at hoo
        subst hoo
        obtain ⟨g, A1, c1, A2, c2, A3, c3, e18, hb, r1, r2, r3⟩ := hA ⟨10, .data⟩ (by simp) rfl
        have e18 : a.tmps.getD 18 undef = .slice (some ⟨g, 0, none⟩) 3 3 := e18
        refine Does.plain rfl ?_
        unfold yieldsK
        go_simp
        refine (concat_any (some ⟨g, 0, none⟩) [(⟨A1, magicL.length, c1⟩, magicL), (⟨A2, bS.length, c2⟩, bS), (⟨A3, bF.length, c3⟩, bF)] 3 3 w' (fun W hk => rd_three (hb.keep hk id)) rfl (fun e he W hk => by
          simp only [List.mem_cons, List.not_mem_nil, or_false] at he
          rcases he with rfl | rfl | rfl
          · exact ⟨r1.keep hk (fun _ _ _ => id), rfl⟩
          · exact ⟨r2.keep hk (fun _ _ _ => id), rfl⟩
          · exact ⟨r3.keep hk (fun _ _ _ => id), rfl⟩) (by omega) (by simp only [allB, List.flatMap_cons, List.flatMap_nil, List.append_nil]; omega) (by simp only [allB, List.flatMap_cons, List.length_append]; have : magicL.length = 5 := rfl; omega)).mono ?_
        rintro e w3 ⟨u, rfl, h2, h3⟩
        have e4 : allB [(⟨A1, magicL.length, c1⟩, magicL), (⟨A2, bS.length, c2⟩, bS), (⟨A3, bF.length, c3⟩, bF)] = magicL ++ (bS ++ bF) := by simp [allB]
        rw [e4] at h2
        obtain ⟨A9, c9, rfl, _, _, _, _⟩ := h2.form
        exact ⟨_, rfl, ⟨A9, c9, rfl, h2.mono (fun k (hk : Fresh w' k) _ => (Nat.le_trans (keepN gK0 hK).size hk : w.heap.size ≤ k))⟩, h3⟩
      by_cases h12 : i = 12
      · subst h12
        simp only [List.getElem?_toArray, List.getElem?_cons_zero, List.getElem?_cons_succ, Option.some.injEq] at hoo
        subst hoo
        obtain ⟨A19, c19, e19, h19⟩ := hA ⟨11, .data⟩ (by simp) rfl
        have e19 : a.tmps.getD 19 undef = .slice A19 (magicL ++ (bS ++ bF)).length c19 := e19
        refine Does.plain rfl ?_
        unfold yieldsK
        simp only [Array.getD_eq_getD_getElem?] at e19
        go_simp
        exact ⟨⟨A19, c19, by simp [List.length_append], h19⟩, Keep.refl _ _⟩
      omega
    case spec =>
      intro o a w' hoo hF hK hA
      simp only [List.getElem?_toArray, List.getElem?_cons_zero, List.getElem?_cons_succ, Option.some.injEq] at hoo
      subst hoo
      obtain ⟨g8, f8, e8, hg8, h8⟩ := hA ⟨0, .data⟩ (by simp) rfl
      have e8 : a.tmps.getD 8 undef = .slice (some ⟨g8, 0, none⟩) 5 5 := e8
      have hcv := run_mark (n := 5) (c := 5) h8
      have HM := Lib.hid (freeze_mark (k := magicL.length) h8).1
      have HKM := Lib.hid (keep_mark (k := magicL.length) hK h8 hg8)
      refine Does.plain rfl ?_
      unfold yieldsK
      simp only [Array.getD_eq_getD_getElem?] at e8
      go_simp
      exact ⟨(PtV.mark ⟨some ⟨g8, 0, none⟩, 5, rfl, rdB_blk h8⟩ HM.out : PtV magicL (.slice (some ⟨g8, 0, none⟩) 5 5) _), HM.out, HKM.out⟩
    case fin =>
      intro a w' hF gK hA
      obtain ⟨A4, c4, e4, h4⟩ := hA 12 (by decide)
      have e4 : a.tmps.getD 4 undef = .slice A4 (magicL ++ (bS ++ bF)).length c4 := e4
      have ha := frameD_list (l := [8, 9, 10, 11, 12, 13, 14, 15, 16, 17, 18, 19, 4]) rfl hF
      rw [ha]
      simp only [List.map_cons, List.map_nil, e4]
      generalize a.tmps.getD 8 undef = u0
      generalize a.tmps.getD 9 undef = u1
      generalize a.tmps.getD 10 undef = u2
      generalize a.tmps.getD 11 undef = u3
      generalize a.tmps.getD 12 undef = u4
      generalize a.tmps.getD 13 undef = u5
      generalize a.tmps.getD 14 undef = u6
      generalize a.tmps.getD 15 undef = u7
      generalize a.tmps.getD 16 undef = u8
      generalize a.tmps.getD 17 undef = u9
      generalize a.tmps.getD 18 undef = u10
      generalize a.tmps.getD 19 undef = u11
      simp only [fillD, List.setIfInBounds_toArray, List.set_cons_zero, List.set_cons_succ]
      have gK1 := keepN gK0 gK
      have h4' : V.OwnB w' (Fresh w) (.slice A4 (magicL ++ (bS ++ bF)).length c4) (magicL ++ (bS ++ bF)) := h4
      have hf4 : V.Rd w' A4 (magicL ++ (bS ++ bF)) := by
        obtain ⟨A', c', e, _, hr, _, _⟩ := h4'.form
        injection e with e1 e2 e3; subst e1; exact hr
      clear hA hF ha gK HS HF q0 q1 gK0 h4
      generalize magicL ++ (bS ++ bF) = body at *
      have kA := (Keep.refl NoB w').alloc (.cells #[.slice A4 body.length c4] 26)
      have HL := Lib.hid (seal_any (some ⟨w'.heap.size, 0, none⟩) [(⟨A4, body.length, c4⟩, body)] 1 1 (w'.alloc (.cells #[.slice A4 body.length c4] 26)) (rd_single (Blk.new _ _ _)) rfl (fun e he => by
        simp only [List.mem_cons, List.not_mem_nil, or_false] at he
        subst he
        exact ⟨hf4.keep kA (fun _ _ _ => id), rfl⟩) (by omega) (fun e he => by
        simp only [List.mem_cons, List.not_mem_nil, or_false] at he
        subst he
        show body.length ≤ _; omega))
      have e5 : allB [(⟨A4, body.length, c4⟩, body)] = body := by simp [allB]
      rw [e5] at HL
      have hO1 := O.own_keep h4' kA
      have hK1 := keepN gK1 kA
      clear e5 hf4 h4'
      go_wp2_with fail
      refine HL.out.mono ?_
      rintro e w3 ⟨u3, rfl, h3, k3⟩
      obtain ⟨A9, cp9, rfl, _, hr9, _, _⟩ := h3.form
      have hO2 := O.own_keep hO1 k3
      have hK2 := keepN hK1 k3
      have hle : body.length + (four (sumN body)).length ≤ 140737488355328 := by rw [four_length]; omega
      clear h3 k3 hO1 hK1 kA HL
      generalize four (sumN body) = fr at *
      go_wp2_with (at_builtin; refine V.wpList_append_rd _ rfl _ _ rfl _ body fr A9 cp9 rfl hO2.1 rfl hr9 hle ?_; intro v5 w5 hown hg hat; obtain ⟨hO3, hK3⟩ := O.own_app hO2 hK2 hown hg hat; clear hown hg hat)
      go_ret2
      exact ⟨_, rfl, hO3, hK3⟩

end Go.Proofs.YtgifflfjhockaaaGreatDoor.I

namespace Go.Proofs.YtgifflfjhockaaaGreatDoor.O
open Go.ChangeShapes Go.WideShapes Go.ChangeAt Go.RowKit

theorem seatOwn : ownKnob Tryz.prog.godebug = none := by kernel_rfl
theorem seatLaidOut : laidOutB Tryz.prog = true := by kernel_rfl
theorem i64_of_wf {n : Int} (h : (Lit.int .i64 n).wf = true) : I64 n := by
  have hmin : IntKind.i64.min = -9223372036854775808 := rfl
  have hmax : IntKind.i64.max = 9223372036854775807 := rfl
  simp only [Lit.wf, Bool.and_eq_true, decide_eq_true_eq] at h
  unfold I64; omega
section
variable {H : Type} {enc : TypeId × Value → H} {w : World} {base b0 : Nat} {spare : Nat → Bool} {held : Bool} {r : Reach} {v : Value} {d : DataW H} {p : List MemPlace}
end

end Go.Proofs.YtgifflfjhockaaaGreatDoor.O

namespace Go.Proofs.YtgifflfjhockaaaGreatDoor.C
open Go.ChangeShapes Go.WideShapes Go.ChangeAt Go.RowKit Go.Deep O

theorem addr_of_cell {w : World} {a : Addr} {v : Value} (h : w.cell? a = some v) : a = ⟨a.block, a.off, none⟩ := by
  obtain ⟨b, o, s⟩ := a
  cases s with
  | none => rfl
  | some s => unfold World.cell? at h; split at h <;> simp at h
theorem add_of (b o k : Nat) : (⟨b, o, none⟩ : Addr).add k = ⟨b, o + k, none⟩ := by unfold Addr.add; by_cases hk : k = 0 <;> simp [hk]

section
variable {H : Type} {enc : TypeId × Value → H} {W : World} {base : Nat} {spare : Nat → Bool} {held : Bool} {fuel : Nat} {cs : List Value} {x : DataW H × List MemPlace}
set_option maxRecDepth 100000 in
theorem read_insts (h : DataW.trod enc Tryz.prog W base spare held fuel 59 cs = some x) : ∃ A l c, cs = [.slice A l.length c] ∧ Rd W A (iis l) ∧ l.length ≤ c ∧ c ≤ maxLen ∧ AllI l := by
  rcases open_slice Tryz.underlying59 h with ⟨hcs, _⟩ | ⟨a, len, cap, m, n, D, Pl, hcs, _, hl, hm, hmm, _, hi⟩
  · exact ⟨none, [], 0, hcs, Rd.none_ _ _, Nat.le_refl _, Nat.zero_le _, fun _ h => by simp at h⟩
  · have hlm : len ≤ m := by rw [hmm]; split <;> omega
    have cI : Tryz.prog.cellsOf 63 = 3 := by kernel_rfl
    have c3 : Tryz.prog.cellsOf 3 = 1 := by kernel_rfl
    have c2 : Tryz.prog.cellsOf 2 = 1 := by kernel_rfl
    have each : ∀ i : Nat, ∃ v : I3, i < len → W.cell? (a.add (i * 3)) = some (.int .i64 v.1) ∧ W.cell? ((a.add (i * 3)).add 1) = some (.int .i64 v.2.1) ∧ W.cell? ((a.add (i * 3)).add 2) = some (.int .i64 v.2.2) ∧ O.I64 v.2.1 ∧ O.I64 v.2.2 := by
      intro i
      by_cases hlt : i < len
      · obtain ⟨cs', hc, ht'⟩ := hi i (by omega)
        rw [cI] at hc
        obtain ⟨y0, y1, y2, k, _, hlen, h0, h1, h2⟩ := trod_struct3 Tryz.underlying63 ht'
        obtain ⟨_, hcl, hat⟩ := World.cells?_some hc
        match cs', hcl with
        | [u0, u1, u2], _ =>
          have g0 := hat 0 (by omega)
          have g1 := hat 1 (by omega)
          have g2 := hat 2 (by omega)
          obtain ⟨z0, e0, _, w0⟩ := DataW.trod_int Tryz.underlying3 h0
          obtain ⟨z1, e1, _, w1⟩ := DataW.trod_int Tryz.underlying2 h1
          obtain ⟨z2, e2, _, w2⟩ := DataW.trod_int Tryz.underlying2 h2
          simp [c3] at e0
          simp [c2] at e1
          simp [c2] at e2
          subst e0 e1 e2
          exact ⟨(z0, z1, z2), fun _ => ⟨by simpa [Addr.add] using g0, by simpa using g1, by simpa using g2, i64_of_wf w1, i64_of_wf w2⟩⟩
      · exact ⟨(0, 0, 0), fun h => absurd h hlt⟩
    obtain ⟨f, hf⟩ := Classical.axiomOfChoice each
    have hlen : ((List.range len).map f).length = len := by simp
    refine ⟨some a, (List.range len).map f, cap, by rw [hlen]; exact hcs, fun h0 => ?_, by rw [hlen]; exact hl, hm, fun v hv => ?_⟩
    · have h0' : 0 < len := by rw [iis_length, hlen] at h0; omega
      have ea := addr_of_cell (hf 0 h0').1
      have ea' : a = ⟨a.block, a.off, none⟩ := by simpa [Addr.add] using ea
      refine ⟨a.block, a.off, by rw [← ea'], fun j u hu => ?_⟩
      have hj : j < len * 3 := by have := (List.getElem?_eq_some_iff.1 hu).1; rw [iis_length, hlen] at this; exact this
      have hd : j / 3 < len := by omega
      obtain ⟨k0, k1, k2, _⟩ := hf (j / 3) hd
      obtain ⟨q0, q1, q2⟩ := iis_at ((List.range len).map f) (j / 3) (by rw [hlen]; exact hd)
      rw [ea', add_of] at k0 k1 k2
      rw [add_of] at k1 k2
      simp only [List.getElem_map, List.getElem_range] at q0 q1 q2
      have hm3 : j % 3 = 0 ∨ j % 3 = 1 ∨ j % 3 = 2 := by omega
      rcases hm3 with hr | hr | hr
      · have ej : j = j / 3 * 3 := by omega
        rw [ej, q0] at hu
        rw [ej, k0]; exact hu
      · have ej : j = j / 3 * 3 + 1 := by omega
        rw [ej, q1] at hu
        rw [ej, ← Nat.add_assoc, k1]; exact hu
      · have ej : j = j / 3 * 3 + 2 := by omega
        rw [ej, q2] at hu
        rw [ej, ← Nat.add_assoc, k2]; exact hu
    · obtain ⟨i, hi', rfl⟩ := List.mem_map.1 hv
      exact ⟨(hf i (List.mem_range.1 hi')).2.2.2.1, (hf i (List.mem_range.1 hi')).2.2.2.2⟩
end
section
variable {H : Type} {enc : TypeId × Value → H} {w : World} {base b0 : Nat} {spare : Nat → Bool} {held : Bool} {r : Reach} {v : Value} {d : DataW H} {p : List MemPlace}
end

end Go.Proofs.YtgifflfjhockaaaGreatDoor.C
