/-
  What CodeNames asks, by closed values: lists that are no bodies; a body of 512; an example's heads, stretches, what is put in and taken out; bytes that are no body's. No program, no conditions.
  A region that draws its order, by what each of its values is: whatever order is picked, each operation finds what it stands behind. No program, no conditions.
  CodeNames' walk: the error's number; the chapter's examples; what is no body; stretches; what is put in and taken out; bytes that are none. Conditions: the listed package-level variables hold what their initialisers lay.
-/
import Derived.Lib.SlBytesConst
import Derived.Test.YtonpplpfipfnfaaGreatDoorQ10
import Derived.Test.YtonpplpfipfnfaaGreatDoorQ6
import Derived.Test.YtonpplpfipfnfaaGreatDoorQ11
import Derived.Test.YtonpplpfipfnfaaGreatDoorQ2
import Derived.Test.YtonpplpfipfnfaaGreatDoorQ8
namespace Go.Proofs.YtonpplpfipfnfaaGreatDoor.C
open Go.RowKit O

def yJ1 : List I3 := [(18, 1, 0)]
def yJz : List I3 := [(19, 0, 0)]
def yRn : List I3 := [(24, 0, 0), (0, 0, 0)]
def y30 : List I3 := [(30, 0, 0)]
def yBig : List I3 := List.replicate 513 (0, 0, 0)
def yLong : List I3 := List.replicate 511 (0, 0, 0) ++ [(18, 511, 0)]
def yL : List I3 := [(18, 2, 0), (27, 0, 0), (1, 1, 0), (19, 1, 0), (0, 0, 0), (24, 0, 0)]
def yA : List I3 := [(18, 3, 0), (0, 0, 0), (27, 0, 0), (1, 1, 0), (19, 1, 0), (0, 0, 0), (24, 0, 0)]
def yB : List I3 := [(18, 1, 0), (1, 1, 0), (19, 1, 0), (0, 0, 0), (24, 0, 0)]
theorem nil_no : okB [] = false := by kernel_rfl
theorem nop_no : okB xNop = false := by kernel_rfl
theorem j1_no : okB xJ1 = false := by kernel_rfl
theorem jz_no : okB yJz = false := by kernel_rfl
theorem rn_no : okB yRn = false := by kernel_rfl
theorem y30_no : okB y30 = false := by kernel_rfl
theorem big_no : okB yBig = false := by
  cases h : okB yBig
  · rfl
  · have := (okB_parts h).2.1
    unfold yBig at this
    rw [List.length_replicate] at this; omega
theorem no_all {l : List I3} (h : okB l = false) : encB l = [] ∧ chkB l = 50 ∧ hzG l = [] := ⟨encB_no h, chkB_no h, hzG_no h⟩
theorem long_len : yLong.length = 512 := by unfold yLong; rw [List.length_append, List.length_replicate]; rfl
theorem long_ok : okB yLong = true := by kernel_rfl
theorem insE_two (l : List I3) (p : Int) (x : I3) : (insE l p x = 0 ∧ okB (insL l p.toNat x) = true) ∨ insE l p x = 50 := by
  unfold insE
  split
  · next h => exact .inl ⟨rfl, h.2⟩
  · exact .inr rfl
theorem long_ins : insE yLong 0 (0, 0, 0) = 50 := by
  rcases insE_two yLong 0 (0, 0, 0) with ⟨_, h⟩ | h
  · have := (okB_parts h).2.1
    rw [insL_length, long_len] at this; omega
  · exact h
theorem l_heads2 : hzG yL = [0, 1, 2, 4] := by kernel_rfl
theorem l_s4 : strA yL 4 = 4 ∧ strB yL 4 = 6 ∧ strE yL 4 = 0 := ⟨by kernel_rfl, by kernel_rfl, by kernel_rfl⟩
theorem l_s3 : strE yL 3 = 50 := by kernel_rfl
theorem l_s6 : strE yL 6 = 50 := by kernel_rfl
theorem l_cnt : cntB yL 0 = 1 := by kernel_rfl
theorem l_a : insG yL 1 (0, 0, 0) = yA ∧ insE yL 1 (0, 0, 0) = 0 := ⟨by kernel_rfl, by kernel_rfl⟩
theorem l_b : delG yL 1 = yB ∧ delE yL 1 = 0 := ⟨by kernel_rfl, by kernel_rfl⟩
theorem l_e6 : insE yL 6 (0, 0, 0) = 50 := by kernel_rfl
theorem l_e7 : delE yL 5 = 50 := by kernel_rfl
theorem l_e8 : insE yL 0 (18, 9, 0) = 50 := by kernel_rfl
theorem ret_del : delE xRet 0 = 50 := by kernel_rfl
def noneB : List (List UInt8) := [[], [0], [1], [1, 0], [2, 24], [130, 1], [1, 18, 1]]
theorem none_dec : ∀ b ∈ noneB, decB b 0 = none := by
  have : noneB.all (fun b => (decB b 0).isNone) = true := by kernel_rfl
  intro b hb
  have := List.all_eq_true.1 this b hb
  simpa using this

end Go.Proofs.YtonpplpfipfnfaaGreatDoor.C

namespace Go.Proofs.YtonpplpfipfnfaaGreatDoor
open Go.RowKit
section
variable {P : Program} {md : Region.Mode} {ops : Array Oper}

/-- Each operation writes the slot of its number, has no guard, and stands behind earlier ones alone. -/
def propsB (ops : Array Oper) (d0 : Nat) : Bool := (List.range ops.size).all fun i => match ops[i]? with
  | none => false
  | some o => (match o.dst with
    | none => false
    | some d => d == d0 + i) && o.guard.isNone && o.after.all fun e => decide (e.on < i)
theorem propsB_at {d0 : Nat} (h : propsB ops d0 = true) {i : Nat} {o : Oper} (ho : ops[i]? = some o) : o.dst = some (d0 + i) ∧ o.guard = none ∧ ∀ e ∈ o.after, e.on < i := by
  have hi := (Array.getElem?_eq_some_iff.1 ho).1
  have h1 := List.all_eq_true.1 h i (List.mem_range.2 hi)
  simp only [ho, Bool.and_eq_true] at h1
  obtain ⟨⟨h1, h2⟩, h3⟩ := h1
  refine ⟨?_, by simpa using h2, fun e he => ?_⟩
  · cases hd : o.dst with
    | none => rw [hd] at h1; cases h1
    | some d => rw [hd] at h1; simpa using h1
  · have := Array.all_eq_true_iff_forall_mem.1 h3 e he
    simpa using this
theorem no_ready {d0 : Nat} (hB : propsB ops d0 = true) {listed : Array Bool} (hs : listed.size = ops.size) (hr : Region.ready md ops listed = []) : ∀ i, i < ops.size → listed.getD i true = true := by
  intro i
  induction i using Nat.strongRecOn with
  | ind i ih =>
    intro hi
    cases hl : listed.getD i true
    · have ho : ops[i]? = some ops[i] := Array.getElem?_eq_getElem hi
      have : i ∈ Region.ready md ops listed := mem_ready.2 ⟨hl, ops[i], ho, fun e he _ => by
        have he2 := (propsB_at hB ho).2.2 e he
        have h1 := ih e.on he2 (by omega)
        have h2 : e.on < listed.size := by omega
        simpa [h2] using h1⟩
      rw [hr] at this; cases this
    · rfl
/-- The frame as it was, but for the region's slots. -/
def FrameI (a0 : Act) (d0 n : Nat) (a : Act) : Prop := a.defers = a0.defers ∧ a.tmps.size = a0.tmps.size ∧ ∀ s, (s < d0 ∨ d0 + n ≤ s) → a.tmps.getD s undef = a0.tmps.getD s undef

theorem wpAny_props {Q : Exit → Act → World → Prop} (d0 : Nat) (hB : propsB ops d0 = true) (S : Nat → Value → World → Prop) (hS : ∀ i v, StableI (S i v)) (w0 : World) (a0 : Act) (hsz : d0 + ops.size ≤ a0.tmps.size)
    (hstep : ∀ i o (a : Act) (w : World), ops[i]? = some o → FrameI a0 d0 ops.size a → Keep NoB w0 w → (∀ e ∈ o.after, Region.binds md e = true → S e.on (a.tmps.getD (d0 + e.on) undef) w) → yieldsK P o a w fun u w' => S i u w' ∧ Keep NoB w w')
    (hend : ∀ (a : Act) (w : World), FrameI a0 d0 ops.size a → Keep NoB w0 w → (∀ i, i < ops.size → S i (a.tmps.getD (d0 + i) undef) w) → Q .normal a w) :
    ∀ (fuel : Nat) (listed : Array Bool) (a : Act) (w : World), listed.size = ops.size → (∃ L : List Nat, L.length ≤ fuel ∧ ∀ i, i < ops.size → listed.getD i true = false → i ∈ L) → FrameI a0 d0 ops.size a → Keep NoB w0 w →
      (∀ i, i < ops.size → listed.getD i true = true → S i (a.tmps.getD (d0 + i) undef) w) → wpAny P md ops Q fuel listed a w := by
  intro fuel
  induction fuel with
  | zero =>
    intro listed a w hs ⟨L, hL, hin⟩ hF hK hA
    obtain rfl : L = [] := List.length_eq_zero_iff.1 (by omega)
    have hall : ∀ i, i < ops.size → listed.getD i true = true := fun i hi => by
      cases h : listed.getD i true
      · cases hin i hi h
      · rfl
    refine ⟨?_, hend a w hF hK fun i hi => hA i hi (hall i hi)⟩
    rw [List.eq_nil_iff_forall_not_mem]
    intro i hi
    obtain ⟨h1, o, ho, _⟩ := mem_ready.1 hi
    rw [hall i (Array.getElem?_eq_some_iff.1 ho).1] at h1; cases h1
  | succ fuel ih =>
    intro listed a w hs ⟨L, hL, hin⟩ hF hK hA
    refine ⟨fun h0 => hend a w hF hK fun i hi => hA i hi (no_ready hB hs h0 i hi), fun i hi => ?_⟩
    obtain ⟨h1, o, ho, hall⟩ := mem_ready.1 hi
    have hi' := (Array.getElem?_eq_some_iff.1 ho).1
    obtain ⟨hd, hg, hlt⟩ := propsB_at hB ho
    unfold wpOp
    have hw : Region.wanted o (yielded ops a.tmps) = true := by unfold Region.wanted; rw [hg]
    simp only [ho, hw, if_true]
    refine .inl (Oper.wp_of_yields (hstep i o a w ho hF hK fun e he hb => ?_) ?_)
    · have h2 := hall e he hb
      have h3 := hlt e he
      refine hA e.on (by omega) ?_
      have h4 : e.on < listed.size := by omega
      simpa [h4] using h2
    · rintro u w' ⟨hSu, hk⟩
      rw [hd]
      have hds : d0 + i < a.tmps.size := by rw [hF.2.1]; omega
      have hget : ∀ s, (a.put (some (d0 + i)) u).tmps.getD s undef = if s = d0 + i then u else a.tmps.getD s undef := fun s => by
        unfold Act.put
        by_cases e : s = d0 + i
        · subst e; simp [hds]
        · rw [if_neg e]
          simp only [Array.getD_eq_getD_getElem?, Array.getElem?_setIfInBounds]
          rw [if_neg (fun h => e h.symm)]
      refine ih (listed.setIfInBounds i true) _ w' (by simpa using hs) ⟨L.erase i, ?_, fun k hk' hl => ?_⟩ ⟨?_, ?_, fun s hs' => ?_⟩ (keepN hK hk) fun k hk' hl => ?_
      · rw [List.length_erase_of_mem (hin i hi' h1)]; omega
      · have hki : k ≠ i := by
          rintro rfl
          have : k < listed.size := by omega
          simp [this] at hl
        have hl2 : listed.getD k true = false := by rw [getD_set_ne true (Ne.symm hki)] at hl; exact hl
        exact (List.mem_erase_of_ne hki).2 (hin k hk' hl2)
      · exact hF.1
      · unfold Act.put; simpa using hF.2.1
      · rw [hget, if_neg (by omega)]; exact hF.2.2 s hs'
      · rw [hget]
        by_cases e : k = i
        · subst e; rw [if_pos rfl]; exact hSu
        · rw [if_neg (by omega)]
          exact hS k _ _ _ (hA k hk' (by rw [getD_set_ne true (Ne.symm e)] at hl; exact hl)) hk
theorem wp_region_props {id : Nat} {Q : Exit → Act → World → Prop} {a0 : Act} {w : World} (d0 : Nat) (hm : P.follows .mixedOrders = true) (hB : propsB ops d0 = true) (S : Nat → Value → World → Prop) (hS : ∀ i v, StableI (S i v)) (hsz : d0 + ops.size ≤ a0.tmps.size)
    (hstep : ∀ i o (a : Act) (w' : World), ops[i]? = some o → FrameI a0 d0 ops.size a → Keep NoB w w' → (∀ e ∈ o.after, Region.binds .any e = true → S e.on (a.tmps.getD (d0 + e.on) undef) w') → yieldsK P o a w' fun u w'' => S i u w'' ∧ Keep NoB w' w'')
    (hend : ∀ (a : Act) (w' : World), FrameI a0 d0 ops.size a → Keep NoB w w' → (∀ i, i < ops.size → S i (a.tmps.getD (d0 + i) undef) w') → Q .normal a w') : (Code.region id ops true).wp P Q a0 w :=
  wp_region_any hm (wpAny_props d0 hB S hS w a0 hsz hstep hend _ _ a0 w.drew (by simp) ⟨List.range ops.size, by simp, fun i hi _ => List.mem_range.2 hi⟩ ⟨rfl, rfl, fun _ _ => rfl⟩ (Keep.refl NoB w).drew fun i hi hl => by
    simp [hi] at hl)

/-- The slots from one on, filled. -/
def fillT (t : Array Value) (d : Nat) : List Value → Array Value
  | [] => t
  | v :: vs => fillT (t.setIfInBounds d v) (d + 1) vs
theorem fillT_size : ∀ (vs : List Value) (t : Array Value) (d : Nat), (fillT t d vs).size = t.size
  | [], _, _ => rfl
  | v :: vs, t, d => by rw [fillT, fillT_size vs]; simp
theorem fillT_get : ∀ (vs : List Value) (t : Array Value) (d : Nat), d + vs.length ≤ t.size → ∀ s, (fillT t d vs).getD s undef = if d ≤ s ∧ s < d + vs.length then vs.getD (s - d) undef else t.getD s undef
  | [], t, d, _, s => by rw [fillT, if_neg (by simp)]
  | v :: vs, t, d, h, s => by
    simp only [List.length_cons] at h
    rw [fillT, fillT_get vs _ _ (by simp; omega)]
    by_cases e : s = d
    · subst e
      rw [if_neg (by omega), if_pos (by constructor <;> simp <;> omega)]
      have hs : s < t.size := by omega
      simp [hs]
    · have hset : (t.setIfInBounds d v).getD s undef = t.getD s undef := by
        simp only [Array.getD_eq_getD_getElem?, Array.getElem?_setIfInBounds]
        rw [if_neg (fun h => e h.symm)]
      rw [hset]
      by_cases h2 : d + 1 ≤ s ∧ s < d + 1 + vs.length
      · rw [if_pos h2, if_pos (by simp; omega), show s - d = (s - (d + 1)) + 1 by omega, List.getD_cons_succ]
      · rw [if_neg h2, if_neg (by simp; omega)]
theorem frame_fill {a0 a : Act} {d0 n : Nat} (h : FrameI a0 d0 n a) (hsz : d0 + n ≤ a0.tmps.size) : a = { tmps := fillT a0.tmps d0 ((List.range n).map fun i => a.tmps.getD (d0 + i) undef), defers := a0.defers } := by
  obtain ⟨h1, h2, h3⟩ := h
  have e : a.tmps = fillT a0.tmps d0 ((List.range n).map fun i => a.tmps.getD (d0 + i) undef) := by
    apply Array.ext
    · rw [fillT_size, h2]
    · intro i hi hi'
      have hg := fillT_get ((List.range n).map fun i => a.tmps.getD (d0 + i) undef) a0.tmps d0 (by simpa using hsz) i
      have e1 : (fillT a0.tmps d0 ((List.range n).map fun i => a.tmps.getD (d0 + i) undef)).getD i undef = (fillT a0.tmps d0 ((List.range n).map fun i => a.tmps.getD (d0 + i) undef))[i] := by rw [Array.getD_eq_getD_getElem?, Array.getElem?_eq_getElem hi']; rfl
      have e2 : a.tmps.getD i undef = a.tmps[i] := by rw [Array.getD_eq_getD_getElem?, Array.getElem?_eq_getElem hi]; rfl
      refine e2.symm.trans (Eq.trans ?_ (hg.symm.trans e1))
      simp only [List.length_map, List.length_range]
      by_cases hh : d0 ≤ i ∧ i < d0 + n
      · rw [if_pos hh]
        have hlt : i - d0 < n := by omega
        rw [List.getD_eq_getElem?_getD, List.getElem?_map, List.getElem?_range hlt]
        simp only [Option.map_some, Option.getD_some]
        rw [show d0 + (i - d0) = i by omega]
      · rw [if_neg hh]; exact h3 i (by omega)
  obtain ⟨t, d⟩ := a
  simp only at e h1 ⊢
  rw [← e, h1]
end
end Go.Proofs.YtonpplpfipfnfaaGreatDoor

namespace Go.Proofs.YtonpplpfipfnfaaGreatDoor.C
open Go.RowKit O

theorem made_zero (n : Nat) : (madeCells #[Value.int .i64 0, .int .i64 0, .int .i64 0] (n * 3)).toList = iis (List.replicate n (0, 0, 0)) := by
  have e1 : (madeCells #[Value.int .i64 0, .int .i64 0, .int .i64 0] (n * 3)).toList = List.replicate (n * 3) (.int .i64 0) := by
    rw [List.eq_replicate_iff]
    refine ⟨by simp [madeCells], fun b hb => ?_⟩
    unfold madeCells at hb
    simp only [Array.toList_map, List.mem_map] at hb
    obtain ⟨i, _, rfl⟩ := hb
    have h3 : i % 3 = 0 ∨ i % 3 = 1 ∨ i % 3 = 2 := by omega
    show (#[Value.int .i64 0, .int .i64 0, .int .i64 0] : Array Value)[i % 3]! = _
    rcases h3 with h | h | h <;> rw [h] <;> rfl
  rw [e1]
  symm
  rw [List.eq_replicate_iff]
  refine ⟨by rw [iis_length, List.length_replicate], fun b hb => ?_⟩
  unfold iis at hb
  obtain ⟨x, hx, hb⟩ := List.mem_flatMap.1 hb
  rw [List.eq_of_mem_replicate hx] at hb
  simpa using hb
/-- A list that of has answered. -/
def OfV (l : List I3) (u : Value) (w : World) : Prop := ∃ A c, u = .slice A l.length c ∧ Rd w A (iis l)
theorem OfV.stable (l : List I3) (u : Value) : StableI (OfV l u) := fun _ _ ⟨A, c, e, h⟩ hk => ⟨A, c, e, h.keepN hk⟩
theorem of_gen (l : List I3) (n g c : Nat) (vs : Array Value) (E : TypeId) (w : World) (hB : Blk w g E vs) (he : txs l = vs.toList) (hn : l.length = n) (hok : ∀ x ∈ l, ok1 x = true) (hm : n ≤ 1000) (hL : LaidO w) (hC : CutAt w) :
    Calls Tryz.prog 19 #[.slice (some ⟨g, 0, none⟩) n c] w fun e w' => ∃ u, e = .returned u ∧ OfV l u w' ∧ Keep NoB w w' := by
  have hr : Rd w (some ⟨g, 0, none⟩) (txs l) := fun _ => ⟨g, 0, rfl, fun j u hu => by
    rw [Nat.zero_add, hB.cell]
    rw [he] at hu
    simpa using hu⟩
  refine (texts_any l n _ c w hr hok hn hm hL hC).mono ?_
  rintro e w' ⟨v, rfl, ho, hk⟩
  obtain ⟨A, c', rfl, h⟩ := own_rdI ho
  exact ⟨_, rfl, ⟨A, c', by rw [hn], h⟩, hk⟩
theorem yJ1_txs : txs yJ1 = [.string ⟨#[106, 109, 112, 32, 49]⟩] := by kernel_rfl
theorem yJz_txs : txs yJz = [.string ⟨#[106, 122, 32, 48]⟩] := by kernel_rfl
theorem yRn_txs : txs yRn = [.string ⟨#[114, 101, 116]⟩, .string ⟨#[110, 111, 112]⟩] := by kernel_rfl
theorem yJ1_ok : ∀ x ∈ yJ1, ok1 x = true := List.all_eq_true.1 (show yJ1.all ok1 = true by kernel_rfl)
theorem yJz_ok : ∀ x ∈ yJz, ok1 x = true := List.all_eq_true.1 (show yJz.all ok1 = true by kernel_rfl)
theorem yRn_ok : ∀ x ∈ yRn, ok1 x = true := List.all_eq_true.1 (show yRn.all ok1 = true by kernel_rfl)

theorem rd_rowC (w : World) (l : List UInt8) (C : Array Value) (fr : Nat × Nat) (hC : ∀ (j : Nat) (u : Value), (V.bvs l)[j]? = some u → C[j]? = some u) :
    V.Rd (w.alloc (.cells C 5 fr)) (some ⟨w.heap.size, 0, none⟩) l := fun _ =>
  ⟨_, rfl, fun j u hu => by
    have e : (⟨w.heap.size, 0, none⟩ : Addr).add j = ⟨w.heap.size, j, none⟩ := by unfold Addr.add; split <;> simp_all
    rw [e, World.cell?_alloc_mark]
    exact hC j u hu⟩

theorem conv_strC (w : World) (l : List UInt8) : ∃ w' c, (convert 9 23 (.string (V.str l))).run Tryz.prog w = .ok (.slice (some ⟨w.heap.size, 0, none⟩) l.length c) w' ∧ V.Rd w' (some ⟨w.heap.size, 0, none⟩) l ∧ Keep NoB w w' := by
  have h := run_bytes_of_string w 9 23 5 (V.str l) Tryz.underlying9 Tryz.underlying23 Tryz.underlying5
  refine ⟨_, _, h, ?_, ((Keep.refl NoB w).drew).alloc _⟩
  refine rd_rowC w.drew l _ _ (fun j u hu => ?_)
  obtain ⟨hj, rfl⟩ := List.getElem?_eq_some_iff.1 hu
  rw [bytesRow_at (V.str l) _ j (by simpa using hj)]
  simp

theorem rd_blk {w : World} {g : Nat} {t : TypeId} {l : List I3} (h : Blk w g t (iis l).toArray) : Rd w (some ⟨g, 0, none⟩) (iis l) := fun _ => ⟨g, 0, rfl, fun j u hu => by rw [Nat.zero_add, h.cell]; simpa using hu⟩
theorem long_blk {w w1 : World} {zs : List Value} (hz : zs = iis (List.replicate 512 (0, 0, 0))) (hrow : w1.ownsRow 0 46 3 (.slice (some ⟨w.heap.size, 0, none⟩) 512 512) 512 zs) : Blk w1 w.heap.size 46 (iis (List.replicate 511 (0, 0, 0)) ++ [Value.int .i64 0, .int .i64 0, .int .i64 0]).toArray := by
  obtain ⟨h3, h4⟩ := hrow
  rcases h4 with ⟨h4, _⟩ | ⟨g, cap, cur, h4, _, h6, _, _, h7, h8⟩
  · cases h4
  · injection h4 with h4 _ h9
    injection h4 with h4
    injection h4 with h4 _ _
    subst h4 h9
    have e : cur.toList = iis (List.replicate 511 (0, 0, 0)) ++ [Value.int .i64 0, .int .i64 0, .int .i64 0] := by
      rw [List.take_of_length_le (by simp [h7])] at h8
      rw [h8, hz, List.replicate_succ', iis_append, iis_one]
    rw [← e, Array.toArray_toList]; exact h6
theorem yL_txs : txs yL = [.string ⟨#[106, 109, 112, 32, 50]⟩, .string ⟨#[103, 111, 101, 120, 105, 116]⟩, .string ⟨#[105, 110, 116, 32, 49]⟩, .string ⟨#[106, 122, 32, 49]⟩, .string ⟨#[110, 111, 112]⟩, .string ⟨#[114, 101, 116]⟩] := by kernel_rfl
theorem yL_ok : ∀ x ∈ yL, ok1 x = true := List.all_eq_true.1 (show yL.all ok1 = true by kernel_rfl)
theorem yA_txs : txs yA = [.string ⟨#[106, 109, 112, 32, 51]⟩, .string ⟨#[110, 111, 112]⟩, .string ⟨#[103, 111, 101, 120, 105, 116]⟩, .string ⟨#[105, 110, 116, 32, 49]⟩, .string ⟨#[106, 122, 32, 49]⟩, .string ⟨#[110, 111, 112]⟩, .string ⟨#[114, 101, 116]⟩] := by kernel_rfl
theorem yA_ok : ∀ x ∈ yA, ok1 x = true := List.all_eq_true.1 (show yA.all ok1 = true by kernel_rfl)
theorem yB_txs : txs yB = [.string ⟨#[106, 109, 112, 32, 49]⟩, .string ⟨#[105, 110, 116, 32, 49]⟩, .string ⟨#[106, 122, 32, 49]⟩, .string ⟨#[110, 111, 112]⟩, .string ⟨#[114, 101, 116]⟩] := by kernel_rfl
theorem yB_ok : ∀ x ∈ yB, ok1 x = true := List.all_eq_true.1 (show yB.all ok1 = true by kernel_rfl)
theorem nop_cells {w : World} {A : Option Addr} (h : Rd w A (iis xNop)) : ∃ g off, A = some ⟨g, off, none⟩ ∧ w.cell? ⟨g, off, none⟩ = some (.int .i64 0) ∧ w.cell? ⟨g, off + 1, none⟩ = some (.int .i64 0) ∧ w.cell? ⟨g, off + 2, none⟩ = some (.int .i64 0) := by
  obtain ⟨g, off, e, hc⟩ := rdJ_at h (by decide)
  have := hc 0 (by decide)
  rw [Nat.zero_mul, Nat.add_zero] at this
  exact ⟨g, off, e, this⟩
def BlkT (n : Nat) (vs : Array Value) (u : Value) (w : World) : Prop := ∃ g, u = .slice (some ⟨g, 0, none⟩) n n ∧ Blk w g 9 vs
theorem BlkT.stable (n : Nat) (vs : Array Value) (u : Value) : StableI (BlkT n vs u) := fun _ _ ⟨g, e, h⟩ hk => ⟨g, e, h.keep hk id⟩
/-- A list that is no body. -/
def NoL (u : Value) (w : World) : Prop := ∃ A n c l, u = .slice A n c ∧ Rd w A (iis l) ∧ l.length = n ∧ n ≤ 600 ∧ AllI l ∧ okB l = false
def Seven (u : Value) (w : World) : Prop := ∃ g, u = .slice (some ⟨g, 0, none⟩) 7 7 ∧ ∀ k, k < 7 → ∃ v, w.cell? ⟨g, k, none⟩ = some v ∧ NoL v w
theorem NoL.stable (u : Value) : StableI (NoL u) := fun _ _ ⟨A, n, c, l, e, h, r⟩ hk => ⟨A, n, c, l, e, h.keepN hk, r⟩
theorem Seven.stable (u : Value) : StableI (Seven u) := fun _ _ ⟨g, e, h⟩ hk => ⟨g, e, fun k hk7 => by obtain ⟨v, hc, hn⟩ := h k hk7; exact ⟨v, hk.cell hc id, NoL.stable v _ _ hn hk⟩⟩
theorem y30_I : AllI y30 := fun x hx => by rw [List.mem_singleton.1 hx]; exact ⟨show O.I64 0 by unfold O.I64; omega, show O.I64 0 by unfold O.I64; omega⟩
theorem big_I : AllI yBig := fun x hx => by rw [List.eq_of_mem_replicate hx]; exact ⟨show O.I64 0 by unfold O.I64; omega, show O.I64 0 by unfold O.I64; omega⟩
theorem nil_I : AllI [] := fun x hx => absurd hx (by simp)
theorem big_len : yBig.length ≤ 600 := by unfold yBig; rw [List.length_replicate]; decide
def S2 : Nat → Value → World → Prop
  | 0 => BlkT 1 #[.string ⟨#[110, 111, 112]⟩]
  | 1 => OfV xNop
  | 2 => BlkT 1 #[.string ⟨#[106, 109, 112, 32, 49]⟩]
  | 3 => OfV yJ1
  | 4 => BlkT 1 #[.string ⟨#[106, 122, 32, 48]⟩]
  | 5 => OfV yJz
  | 6 => BlkT 2 #[.string ⟨#[114, 101, 116]⟩, .string ⟨#[110, 111, 112]⟩]
  | 7 => OfV yRn
  | 8 => fun u _ => u = .agg #[.int .i64 30, .int .i64 0, .int .i64 0]
  | 9 => OfV y30
  | 10 => OfV yBig
  | 11 => Seven
  | 12 => fun u _ => u = .int .i64 7
  | 13 => fun u _ => u = .int .i64 0
  | _ => fun _ _ => True
theorem S2_stable : ∀ i v, StableI (S2 i v)
  | 0, _ => BlkT.stable _ _ _
  | 1, _ => OfV.stable _ _
  | 2, _ => BlkT.stable _ _ _
  | 3, _ => OfV.stable _ _
  | 4, _ => BlkT.stable _ _ _
  | 5, _ => OfV.stable _ _
  | 6, _ => BlkT.stable _ _ _
  | 7, _ => OfV.stable _ _
  | 8, _ => fun _ _ h _ => h
  | 9, _ => OfV.stable _ _
  | 10, _ => OfV.stable _ _
  | 11, _ => Seven.stable _
  | 12, _ => fun _ _ h _ => h
  | 13, _ => fun _ _ h _ => h
  | _ + 14, _ => fun _ _ h _ => h

set_option maxRecDepth 100000 in
set_option maxHeartbeats 8000000 in
theorem cnames_walk (w : World) (hL0 : LaidO w) (hC0 : CutAt w) : Calls Tryz.prog 4 #[] w fun e w' => e = .returned (.bool true) ∧ Keep NoB w w' := by
  have hL := Lib.hid hL0
  have hC := Lib.hid hC0
  clear hL0 hC0
  obtain ⟨i0, hi, hz0, hz1, hz2⟩ := info_parts instr_info
  go_enter Tryz.func4, Tryz.ntmps4
  go_wp2_with fail
  refine wp_region_props 39 (by kernel_rfl) (by kernel_rfl) S2 S2_stable (by decide) ?step ?fin
  case step =>
    intro i o a w' ho hF hK hA
    have hi14 : i < 14 := by simpa using (Array.getElem?_eq_some_iff.1 ho).1
    by_cases h0 : i = 0
    · subst h0
      simp only [List.getElem?_toArray, List.getElem?_cons_zero, Option.some.injEq] at ho
      subst ho
      unfold yieldsK
      go_simp
      exact ⟨⟨w'.heap.size, rfl, Blk.new _ _ _⟩, (Keep.refl NoB w').alloc _⟩
    by_cases h1 : i = 1
    · subst h1
      simp only [List.getElem?_toArray, List.getElem?_cons_zero, List.getElem?_cons_succ, Option.some.injEq] at ho
      subst ho
      obtain ⟨g, e, hB⟩ := hA ⟨0, .data⟩ (by simp) rfl
      have e : a.tmps.getD 39 undef = _ := e
      unfold yieldsK
      go_simp
      exact of_gen xNop 1 g 1 #[.string ⟨#[110, 111, 112]⟩] 9 w' hB xNop_txs rfl xNop_ok (by decide) (hL.out.keep hK) (hC.out.keep hK)
    by_cases h2 : i = 2
    · subst h2
      simp only [List.getElem?_toArray, List.getElem?_cons_zero, List.getElem?_cons_succ, Option.some.injEq] at ho
      subst ho
      unfold yieldsK
      go_simp
      exact ⟨⟨w'.heap.size, rfl, Blk.new _ _ _⟩, (Keep.refl NoB w').alloc _⟩
    by_cases h3 : i = 3
    · subst h3
      simp only [List.getElem?_toArray, List.getElem?_cons_zero, List.getElem?_cons_succ, Option.some.injEq] at ho
      subst ho
      obtain ⟨g, e, hB⟩ := hA ⟨2, .data⟩ (by simp) rfl
      have e : a.tmps.getD 41 undef = _ := e
      unfold yieldsK
      go_simp
      exact of_gen yJ1 1 g 1 #[.string ⟨#[106, 109, 112, 32, 49]⟩] 9 w' hB yJ1_txs rfl yJ1_ok (by decide) (hL.out.keep hK) (hC.out.keep hK)
    by_cases h4 : i = 4
    · subst h4
      simp only [List.getElem?_toArray, List.getElem?_cons_zero, List.getElem?_cons_succ, Option.some.injEq] at ho
      subst ho
      unfold yieldsK
      go_simp
      exact ⟨⟨w'.heap.size, rfl, Blk.new _ _ _⟩, (Keep.refl NoB w').alloc _⟩
    by_cases h5 : i = 5
    · subst h5
      simp only [List.getElem?_toArray, List.getElem?_cons_zero, List.getElem?_cons_succ, Option.some.injEq] at ho
      subst ho
      obtain ⟨g, e, hB⟩ := hA ⟨4, .data⟩ (by simp) rfl
      have e : a.tmps.getD 43 undef = _ := e
      unfold yieldsK
      go_simp
      exact of_gen yJz 1 g 1 #[.string ⟨#[106, 122, 32, 48]⟩] 9 w' hB yJz_txs rfl yJz_ok (by decide) (hL.out.keep hK) (hC.out.keep hK)
    by_cases h6 : i = 6
    · subst h6
      simp only [List.getElem?_toArray, List.getElem?_cons_zero, List.getElem?_cons_succ, Option.some.injEq] at ho
      subst ho
      unfold yieldsK
      go_simp
      exact ⟨⟨w'.heap.size, rfl, Blk.new _ _ _⟩, (Keep.refl NoB w').alloc _⟩
    by_cases h7 : i = 7
    · subst h7
      simp only [List.getElem?_toArray, List.getElem?_cons_zero, List.getElem?_cons_succ, Option.some.injEq] at ho
      subst ho
      obtain ⟨g, e, hB⟩ := hA ⟨6, .data⟩ (by simp) rfl
      have e : a.tmps.getD 45 undef = _ := e
      unfold yieldsK
      go_simp
      exact of_gen yRn 2 g 2 #[.string ⟨#[114, 101, 116]⟩, .string ⟨#[110, 111, 112]⟩] 9 w' hB yRn_txs rfl yRn_ok (by decide) (hL.out.keep hK) (hC.out.keep hK)
    by_cases h8 : i = 8
    · subst h8
      simp only [List.getElem?_toArray, List.getElem?_cons_zero, List.getElem?_cons_succ, Option.some.injEq] at ho
      subst ho
      unfold yieldsK
      go_simp
      exact ⟨rfl, Keep.refl NoB w'⟩
    by_cases h9 : i = 9
    · subst h9
      simp only [List.getElem?_toArray, List.getElem?_cons_zero, List.getElem?_cons_succ, Option.some.injEq] at ho
      subst ho
      have e : a.tmps.getD 47 undef = .agg #[.int .i64 30, .int .i64 0, .int .i64 0] := hA ⟨8, .data⟩ (by simp) rfl
      rw [Array.getD_eq_getD_getElem?] at e
      unfold yieldsK
      go_simp
      exact ⟨⟨some ⟨w'.heap.size, 0, none⟩, 1, rfl, W.rd_made rfl rfl⟩, (Keep.refl NoB w').alloc _⟩
    by_cases h10 : i = 10
    · subst h10
      simp only [List.getElem?_toArray, List.getElem?_cons_zero, List.getElem?_cons_succ, Option.some.injEq] at ho
      subst ho
      unfold yieldsK
      simp [execOp]
      refine ⟨⟨some ⟨w'.heap.size, 0, none⟩, 513, rfl, ?_⟩, (Keep.refl NoB w').alloc _⟩
      refine W.rd_made rfl ?_
      exact (made_zero 513).symm
    by_cases h11 : i = 11
    · subst h11
      simp only [List.getElem?_toArray, List.getElem?_cons_zero, List.getElem?_cons_succ, Option.some.injEq] at ho
      subst ho
      obtain ⟨A0, c0, e0, r0⟩ := hA ⟨1, .data⟩ (by simp) rfl
      have e0 : a.tmps.getD 40 undef = _ := e0
      rw [Array.getD_eq_getD_getElem?] at e0
      obtain ⟨A1, c1, e1, r1⟩ := hA ⟨3, .data⟩ (by simp) rfl
      have e1 : a.tmps.getD 42 undef = _ := e1
      rw [Array.getD_eq_getD_getElem?] at e1
      obtain ⟨A2, c2, e2, r2⟩ := hA ⟨5, .data⟩ (by simp) rfl
      have e2 : a.tmps.getD 44 undef = _ := e2
      rw [Array.getD_eq_getD_getElem?] at e2
      obtain ⟨A3, c3, e3, r3⟩ := hA ⟨7, .data⟩ (by simp) rfl
      have e3 : a.tmps.getD 46 undef = _ := e3
      rw [Array.getD_eq_getD_getElem?] at e3
      obtain ⟨A4, c4, e4, r4⟩ := hA ⟨9, .data⟩ (by simp) rfl
      have e4 : a.tmps.getD 48 undef = _ := e4
      rw [Array.getD_eq_getD_getElem?] at e4
      obtain ⟨A5, c5, e5, r5⟩ := hA ⟨10, .data⟩ (by simp) rfl
      have e5 : a.tmps.getD 49 undef = _ := e5
      rw [Array.getD_eq_getD_getElem?] at e5
      unfold yieldsK
      go_simp
      have hk := (Keep.refl NoB w').alloc (.cells #[.slice none 0 0, .slice A0 xNop.length c0, .slice A1 yJ1.length c1, .slice A2 yJz.length c2, .slice A3 yRn.length c3, .slice A4 y30.length c4, .slice A5 yBig.length c5] 22)
      have hB := Blk.new w' 22 #[.slice none 0 0, .slice A0 xNop.length c0, .slice A1 yJ1.length c1, .slice A2 yJz.length c2, .slice A3 yRn.length c3, .slice A4 y30.length c4, .slice A5 yBig.length c5]
      refine ⟨⟨w'.heap.size, rfl, fun k hk7 => ?_⟩, hk⟩
      have hcase : k = 0 ∨ k = 1 ∨ k = 2 ∨ k = 3 ∨ k = 4 ∨ k = 5 ∨ k = 6 := by omega
      rcases hcase with rfl | rfl | rfl | rfl | rfl | rfl | rfl
      · exact ⟨_, (hB.cell 0).trans rfl, none, 0, 0, [], rfl, Rd.none_ _ _, rfl, by decide, nil_I, nil_no⟩
      · exact ⟨_, (hB.cell 1).trans rfl, A0, _, c0, xNop, rfl, r0.keepN hk, rfl, by decide, all_I xNop_ok, nop_no⟩
      · exact ⟨_, (hB.cell 2).trans rfl, A1, _, c1, yJ1, rfl, r1.keepN hk, rfl, by decide, all_I yJ1_ok, j1_no⟩
      · exact ⟨_, (hB.cell 3).trans rfl, A2, _, c2, yJz, rfl, r2.keepN hk, rfl, by decide, all_I yJz_ok, jz_no⟩
      · exact ⟨_, (hB.cell 4).trans rfl, A3, _, c3, yRn, rfl, r3.keepN hk, rfl, by decide, all_I yRn_ok, rn_no⟩
      · exact ⟨_, (hB.cell 5).trans rfl, A4, _, c4, y30, rfl, r4.keepN hk, rfl, by decide, y30_I, y30_no⟩
      · exact ⟨_, (hB.cell 6).trans rfl, A5, _, c5, yBig, rfl, r5.keepN hk, rfl, big_len, big_I, big_no⟩
    by_cases h12 : i = 12
    · subst h12
      simp only [List.getElem?_toArray, List.getElem?_cons_zero, List.getElem?_cons_succ, Option.some.injEq] at ho
      subst ho
      obtain ⟨g, e, _⟩ := hA ⟨11, .data⟩ (by simp) rfl
      have e : a.tmps.getD 50 undef = _ := e
      rw [Array.getD_eq_getD_getElem?] at e
      unfold yieldsK
      go_simp
      exact ⟨rfl, Keep.refl NoB w'⟩
    by_cases h13 : i = 13
    · subst h13
      simp only [List.getElem?_toArray, List.getElem?_cons_zero, List.getElem?_cons_succ, Option.some.injEq] at ho
      subst ho
      unfold yieldsK
      go_simp
      exact ⟨rfl, Keep.refl NoB w'⟩
    omega
  case fin =>
    intro a w' hF gK hA
    obtain ⟨g, e50, h7⟩ := hA 11 (by decide)
    have e51 := hA 12 (by decide)
    have e52 := hA 13 (by decide)
    have e51 : a.tmps.getD (39 + 12) undef = .int .i64 7 := e51
    have e52 : a.tmps.getD (39 + 13) undef = .int .i64 0 := e52
    have ha := frame_fill (n := 14) hF (by decide)
    rw [ha]
    rw [show List.range 14 = [0, 1, 2, 3, 4, 5, 6, 7, 8, 9, 10, 11, 12, 13] from rfl]
    simp only [List.map_cons, List.map_nil, e50, e51, e52]
    generalize a.tmps.getD (39 + 0) undef = u0
    generalize a.tmps.getD (39 + 1) undef = u1
    generalize a.tmps.getD (39 + 2) undef = u2
    generalize a.tmps.getD (39 + 3) undef = u3
    generalize a.tmps.getD (39 + 4) undef = u4
    generalize a.tmps.getD (39 + 5) undef = u5
    generalize a.tmps.getD (39 + 6) undef = u6
    generalize a.tmps.getD (39 + 7) undef = u7
    generalize a.tmps.getD (39 + 8) undef = u8
    generalize a.tmps.getD (39 + 9) undef = u9
    generalize a.tmps.getD (39 + 10) undef = u10
    simp only [fillT, List.setIfInBounds_toArray, List.set_cons_zero, List.set_cons_succ]
    clear ha hA hF e50 e51 e52
    go_wp2
    go_loopw [1, 52] (fun x i wr => ∃ k : Nat, k ≤ 7 ∧ x = .int .i64 (k : Int) ∧ i = .int .i64 (k : Int) ∧ Keep NoB w' wr) (fun _ i _ => 7 - (intOf i).toNat)
    case atStart => exact ⟨0, by decide, rfl, rfl, Keep.refl _ _⟩
    case round =>
      obtain ⟨k, hk, rfl, rfl, hK⟩ := hrel
      by_cases hlt : k < 7
      · obtain ⟨v, hc, A, n, c, l, rfl, hr, hn, h6, hI, hno⟩ := h7 k hlt
        have c0 := hK.cell hc id
        have hr2 := Lib.hid (hr.keepN hK)
        obtain ⟨e1, e2, e3⟩ := no_all hno
        have HE := Lib.hid (fun w hr => cencode_any A l n c w hr hn hI (by omega))
        rw [e1, e2] at HE
        have HC := Lib.hid (fun w hr => cchk_any A l n c w hr hn (by omega) 50 (chkB_no hno))
        have HH := Lib.hid (fun w hr => heads_any A l n c w hr hn (by omega))
        rw [e3] at HH
        clear h7 hc hr hI hno e1 e2 e3
        go_wp2_with fail
        refine (HE.out _ hr2.out).mono ?_
        rintro e w1 ⟨v1, rfl, ho, k1⟩
        obtain ⟨A1, c1, rfl, _⟩ := own_rd ho
        clear ho
        simp only [List.length_nil]
        go_wp2_with fail
        refine (HC.out _ (hr2.out.keepN k1)).mono ?_
        rintro e w2 ⟨rfl, k2⟩
        replace k1 := keepN k1 k2
        go_wp2_with fail
        refine (HH.out _ (hr2.out.keepN k1)).mono ?_
        rintro e w3 ⟨A3, rfl, _, k3⟩
        replace k1 := keepN k1 k3
        simp only [List.length_nil]
        go_wp2
        go_roundw
        case rel => exact ⟨k + 1, by omega, by go_num, by go_num, keepN hK k1⟩
        case measure => simp [intOf]; omega
      · have hk7 : k = 7 := by omega
        have q7 : ((k : Int) == 7) = true := by rw [beq_iff_eq]; omega
        replace gK := keepN gK hK
        clear hK h7
        have gsz := gK.size
        go_wp2_with (first | (at_make; refine wpList_make_full _ rfl _ _ 22 rfl 0 46 i0 _ 3 Tryz.underlying22 hi hz0 hz1 _ _ _ _ 512 rfl rfl rfl rfl (by rw [hz2]; decide) (by decide) (Nat.zero_le _) ?_; intro w4 hrow4 hg4; have hB4 := long_blk (made_zero 512) hrow4; replace gK := gK.grown hg4 (fun g e _ => by cases e); clear hrow4 hg4) | (refine wpList_put3 rfl _ _ rfl hB4 List.length_replicate 18 511 0 rfl rfl ?_; intro w5 hB5 k5))
        replace gK : Keep NoB w w5 := gK.trans k5 (fun b e hl => by omega)
        rw [List.append_nil] at hB5
        obtain ⟨gl, hgl⟩ : ∃ gl, wr.heap.size = gl := ⟨_, rfl⟩
        rw [hgl] at hB5 ⊢
        have rl := rd_blk (l := yLong) hB5
        clear hgl k5 hB5 hB4 gsz
        have HH := Lib.hid (fun A c w hr => heads_any A yL 6 c w hr rfl (by decide))
        rw [l_heads2] at HH
        have HS4 := Lib.hid (fun A c w hr => stretch_any A yL 6 c 4 w hr rfl (by decide))
        rw [l_s4.1, l_s4.2.1, l_s4.2.2] at HS4
        have HS3 := Lib.hid (fun A c w hr => stretch_any A yL 6 c 3 w hr rfl (by decide))
        rw [l_s3] at HS3
        have HS6 := Lib.hid (fun A c w hr => stretch_any A yL 6 c 6 w hr rfl (by decide))
        rw [l_s6] at HS6
        have HCl := Lib.hid (fun A c w hr => cchk_any A yLong 512 c w hr long_len (by decide) 0 (chkB_ok long_ok))
        have HZ := Lib.hid (fun A1 A2 c1 c2 w h1 h2 => W.ints_any A1 A2 [0, 1, 2, 4] [0, 1, 2, 4] 4 4 c1 c2 w h1 h2 rfl rfl (by decide) (by decide) true (by show _ = _; simp))
        have HN1 := Lib.hid (fun A c w hr => count_any A yL 6 c 0 w hr rfl (by decide) 1 (show ((cntB yL 0 : Nat) : Int) = 1 by rw [l_cnt]; rfl))
        have HN0 := Lib.hid (fun w => count_any none [] 0 0 0 w (Rd.none_ _ _) rfl (by decide) 0 rfl)
        refine (of_call yL 6 _ _ _ _ w5 _ rfl rfl yL_txs rfl yL_ok (by decide) (hL.out.keep gK) (hC.out.keep gK)).mono ?_
        rintro e w6 ⟨v6, rfl, ho, k1⟩
        obtain ⟨A6, c6, rfl, r6⟩ := own_rdI ho
        replace gK := keepN gK k1
        replace rl := rl.keepN k1
        clear ho k1
        go_wp2_with fail
        refine (HH.out _ _ _ r6).mono ?_
        rintro e w7 ⟨A7, rfl, r7, k1⟩
        replace gK := keepN gK k1
        replace rl := rl.keepN k1
        replace r6 := r6.keepN k1
        clear k1
        go_wp2_with fail
        refine (HS4.out _ _ _ r6).mono ?_
        rintro e w8 ⟨rfl, k1⟩
        go_wp2_with fail
        refine (HS3.out _ _ _ (r6.keepN k1)).mono ?_
        rintro e w9 ⟨rfl, k2⟩
        replace k1 := keepN k1 k2
        go_wp2_with fail
        refine (HS6.out _ _ _ (r6.keepN k1)).mono ?_
        rintro e w10 ⟨rfl, k2⟩
        replace k1 := keepN k1 k2
        replace gK := keepN gK k1
        replace rl := rl.keepN k1
        replace r6 := r6.keepN k1
        replace r7 := r7.keepN k1
        clear k1 k2
        generalize strA yL 3 = s3a
        generalize strB yL 3 = s3b
        generalize strA yL 6 = s6a
        generalize strB yL 6 = s6b
        go_wp2_with fail
        refine (HCl.out _ _ _ rl).mono ?_
        rintro e w11 ⟨rfl, k1⟩
        go_wp2_with fail
        refine (HZ.out _ _ _ _ _ ((r7.keepN k1).keepN ((Keep.refl NoB w11).alloc _)) (W.rd_made (by simp) rfl)).mono ?_
        rintro e w12 ⟨rfl, k2⟩
        replace k1 := keepN k1 (keepN ((Keep.refl NoB w11).alloc _) k2)
        go_wp2_with fail
        refine (HN1.out _ _ _ (r6.keepN k1)).mono ?_
        rintro e w13 ⟨rfl, k2⟩
        replace k1 := keepN k1 k2
        go_wp2_with fail
        refine (HN0.out _).mono ?_
        rintro e w14 ⟨rfl, k2⟩
        replace k1 := keepN k1 k2
        replace gK := keepN gK k1
        replace rl := rl.keepN k1
        replace r6 := r6.keepN k1
        clear k1 k2 r7
        go_wp2_with fail
        have HIa := Lib.hid (fun A c w hr => insert_any A yL 6 c 1 0 0 0 w hr rfl (by decide))
        rw [l_a.1, l_a.2] at HIa
        have HDb := Lib.hid (fun A c w hr => delete_any A yL 6 c 1 w hr rfl (by decide))
        rw [l_b.1, l_b.2] at HDb
        have HI6 := Lib.hid (fun A c w hr => insert_any A yL 6 c 6 0 0 0 w hr rfl (by decide))
        rw [l_e6] at HI6
        have HD5 := Lib.hid (fun A c w hr => delete_any A yL 6 c 5 w hr rfl (by decide))
        rw [l_e7] at HD5
        have HI9 := Lib.hid (fun A c w hr => insert_any A yL 6 c 0 18 9 0 w hr rfl (by decide))
        rw [l_e8] at HI9
        have HIl := Lib.hid (fun A c w hr => insert_any A yLong 512 c 0 0 0 0 w hr long_len (by decide))
        rw [long_ins] at HIl
        have HDr := Lib.hid (fun A c w hr => delete_any A xRet 1 c 0 w hr rfl (by decide))
        rw [ret_del] at HDr
        have HLa := Lib.hid (fun A1 A2 c1 c2 w h1 h2 => lists_any A1 A2 yA yA 7 7 c1 c2 w h1 h2 rfl rfl (by decide) (by decide) true (by show _ = _; simp))
        have HLb := Lib.hid (fun A1 A2 c1 c2 w h1 h2 => lists_any A1 A2 yB yB 5 5 c1 c2 w h1 h2 rfl rfl (by decide) (by decide) true (by show _ = _; simp))
        refine (of_call xNop 1 _ _ _ _ w14 _ rfl rfl xNop_txs rfl xNop_ok (by decide) (hL.out.keep gK) (hC.out.keep gK)).mono ?_
        rintro e w15 ⟨v6, rfl, ho, k1⟩
        obtain ⟨Ap, cp, rfl, rp⟩ := own_rdI ho
        replace gK := keepN gK k1
        replace rl := rl.keepN k1
        replace r6 := r6.keepN k1
        obtain ⟨gp, op, rfl, d0, d1, d2⟩ := nop_cells rp
        clear ho k1
        go_wp2_with fail
        refine (HIa.out _ _ _ r6).mono ?_
        rintro e w16 ⟨va, rfl, ho, k1⟩
        obtain ⟨Aa, ca, rfl, ra⟩ := own_rdI ho
        replace gK := keepN gK k1
        replace rl := rl.keepN k1
        replace r6 := r6.keepN k1
        clear ho k1 d0 d1 d2 rp
        go_wp2_with fail
        refine (HDb.out _ _ _ r6).mono ?_
        rintro e w17 ⟨vb, rfl, ho, k1⟩
        obtain ⟨Ab, cb, rfl, rb⟩ := own_rdI ho
        replace gK := keepN gK k1
        replace rl := rl.keepN k1
        replace r6 := r6.keepN k1
        replace ra := ra.keepN k1
        clear ho k1
        go_wp2_with fail
        refine (of_call xNop 1 _ _ _ _ w17 _ rfl rfl xNop_txs rfl xNop_ok (by decide) (hL.out.keep gK) (hC.out.keep gK)).mono ?_
        rintro e w18 ⟨v6, rfl, ho, k1⟩
        obtain ⟨Ap, cp2, rfl, rp⟩ := own_rdI ho
        replace gK := keepN gK k1
        replace rl := rl.keepN k1
        replace r6 := r6.keepN k1
        replace ra := ra.keepN k1
        replace rb := rb.keepN k1
        obtain ⟨gq, oq, rfl, d0, d1, d2⟩ := nop_cells rp
        clear ho k1
        go_wp2_with fail
        refine (HI6.out _ _ _ r6).mono ?_
        rintro e w19 ⟨vc, rfl, _, k1⟩
        replace gK := keepN gK k1
        replace rl := rl.keepN k1
        replace r6 := r6.keepN k1
        replace ra := ra.keepN k1
        replace rb := rb.keepN k1
        clear k1 d0 d1 d2 rp
        go_wp2_with fail
        refine (HD5.out _ _ _ r6).mono ?_
        rintro e w20 ⟨vd, rfl, _, k1⟩
        replace gK := keepN gK k1
        replace rl := rl.keepN k1
        replace r6 := r6.keepN k1
        replace ra := ra.keepN k1
        replace rb := rb.keepN k1
        clear k1
        go_wp2_with fail
        refine (HI9.out _ _ _ r6).mono ?_
        rintro e w21 ⟨ve, rfl, _, k1⟩
        replace gK := keepN gK k1
        replace rl := rl.keepN k1
        replace ra := ra.keepN k1
        replace rb := rb.keepN k1
        clear k1
        go_wp2_with fail
        refine (HIl.out _ _ _ rl).mono ?_
        rintro e w22 ⟨vf, rfl, _, k1⟩
        replace gK := keepN gK k1
        replace ra := ra.keepN k1
        replace rb := rb.keepN k1
        clear k1 rl r6
        go_wp2_with fail
        refine (of_call xRet 1 _ _ _ _ w22 _ rfl rfl xRet_txs rfl xRet_ok (by decide) (hL.out.keep gK) (hC.out.keep gK)).mono ?_
        rintro e w23 ⟨v6, rfl, ho, k1⟩
        obtain ⟨Ar, cr, rfl, rr⟩ := own_rdI ho
        replace gK := keepN gK k1
        replace ra := ra.keepN k1
        replace rb := rb.keepN k1
        clear ho k1
        go_wp2_with fail
        refine (HDr.out _ _ _ rr).mono ?_
        rintro e w24 ⟨vg, rfl, _, k1⟩
        replace gK := keepN gK k1
        replace ra := ra.keepN k1
        replace rb := rb.keepN k1
        clear k1 rr
        go_wp2_with fail
        refine (of_call yA 7 _ _ _ _ w24 _ rfl rfl yA_txs rfl yA_ok (by decide) (hL.out.keep gK) (hC.out.keep gK)).mono ?_
        rintro e w25 ⟨v6, rfl, ho, k1⟩
        obtain ⟨Aw, cw, rfl, rw_⟩ := own_rdI ho
        replace gK := keepN gK k1
        replace ra := ra.keepN k1
        replace rb := rb.keepN k1
        clear ho k1
        go_wp2_with fail
        refine (HLa.out _ _ _ _ _ ra rw_).mono ?_
        rintro e w26 ⟨rfl, k1⟩
        replace gK := keepN gK k1
        replace rb := rb.keepN k1
        clear k1 ra rw_
        go_wp2_with fail
        refine (of_call yB 5 _ _ _ _ w26 _ rfl rfl yB_txs rfl yB_ok (by decide) (hL.out.keep gK) (hC.out.keep gK)).mono ?_
        rintro e w27 ⟨v6, rfl, ho, k1⟩
        obtain ⟨Ax, cx, rfl, rx⟩ := own_rdI ho
        replace gK := keepN gK k1
        replace rb := rb.keepN k1
        clear ho k1
        go_wp2_with fail
        refine (HLb.out _ _ _ _ _ rb rx).mono ?_
        rintro e w28 ⟨rfl, k1⟩
        replace gK := keepN gK k1
        clear k1 rb rx
        have hBs := Blk.new w28 9 #[.string ⟨#[]⟩, .string ⟨#[0]⟩, .string ⟨#[1]⟩, .string ⟨#[1, 0]⟩, .string ⟨#[2, 24]⟩, .string ⟨#[130, 1]⟩, .string ⟨#[1, 18, 1]⟩]
        have hst : Hid (∀ k, k < 7 → ∃ b, b ∈ noneB ∧ #[Value.string ⟨#[]⟩, .string ⟨#[0]⟩, .string ⟨#[1]⟩, .string ⟨#[1, 0]⟩, .string ⟨#[2, 24]⟩, .string ⟨#[130, 1]⟩, .string ⟨#[1, 18, 1]⟩][k]? = some (.string (V.str b))) := fun k hk => by
          have hcase : k = 0 ∨ k = 1 ∨ k = 2 ∨ k = 3 ∨ k = 4 ∨ k = 5 ∨ k = 6 := by omega
          rcases hcase with rfl | rfl | rfl | rfl | rfl | rfl | rfl
          · exact ⟨[], by decide, by kernel_rfl⟩
          · exact ⟨[0], by decide, by kernel_rfl⟩
          · exact ⟨[1], by decide, by kernel_rfl⟩
          · exact ⟨[1, 0], by decide, by kernel_rfl⟩
          · exact ⟨[2, 24], by decide, by kernel_rfl⟩
          · exact ⟨[130, 1], by decide, by kernel_rfl⟩
          · exact ⟨[1, 18, 1], by decide, by kernel_rfl⟩
        obtain ⟨gs, hgs⟩ : ∃ gs, w28.heap.size = gs := ⟨_, rfl⟩
        have gA := gK.alloc (.cells #[.string ⟨#[]⟩, .string ⟨#[0]⟩, .string ⟨#[1]⟩, .string ⟨#[1, 0]⟩, .string ⟨#[2, 24]⟩, .string ⟨#[130, 1]⟩, .string ⟨#[1, 18, 1]⟩] 9)
        go_wp2
        rw [hgs] at hBs
        generalize w28.alloc (.cells #[.string ⟨#[]⟩, .string ⟨#[0]⟩, .string ⟨#[1]⟩, .string ⟨#[1, 0]⟩, .string ⟨#[2, 24]⟩, .string ⟨#[130, 1]⟩, .string ⟨#[1, 18, 1]⟩] 9) = w29 at hBs gA ⊢
        go_loopw [34, 231] (fun x i wr => ∃ k : Nat, k ≤ 7 ∧ x = .int .i64 (k : Int) ∧ i = .int .i64 (k : Int) ∧ Keep NoB w29 wr) (fun _ i _ => 7 - (intOf i).toNat)
        case atStart => exact ⟨0, by decide, rfl, rfl, Keep.refl _ _⟩
        case round =>
          obtain ⟨j, hj, rfl, rfl, hK⟩ := hrel
          by_cases hlt : j < 7
          · obtain ⟨b, hbm, hbs⟩ := hst.out j hlt
            have c0 : wr.cell? ⟨gs, j, none⟩ = some (.string (V.str b)) := hK.cell ((hBs.cell j).trans hbs) id
            obtain ⟨d1, d2⟩ := dec_no (none_dec b hbm)
            have hbl : b.length ≤ 3 := of_decide_eq_true (List.all_eq_true.1 (show noneB.all (fun b => decide (b.length ≤ 3)) = true by kernel_rfl) b hbm)
            obtain ⟨wc, cc, hcv, hrc, kc⟩ := conv_strC wr b
            have HD := Lib.hid (fun w br O hO h => cdecode_any w br O b 0 hO h (by omega))
            rw [d1, d2] at HD
            generalize V.str b = S at c0 hcv
            clear hbs d1 d2 hbm
            go_wp2_with fail
            refine (V.on_any _ _ b cc hrc (by omega)).mono ?_
            rintro e x1 ⟨br, rfl, hR, k1⟩
            have hbr : wr.heap.size ≤ br := Nat.le_trans kc.size hR.1
            have hR := O.reel_new hR
            go_wp2_with fail
            refine (HD.out _ br _ (fun k hk => hk.2) hR).mono ?_
            rintro e x2 ⟨v, q, rfl, ho, _, _, k2⟩
            obtain ⟨Av, cv, rfl, _⟩ := own_rdI (m := []) ho
            simp only [List.length_nil]
            have hK2 := keepN hK (keep_br (keepN kc k1) k2 hbr)
            clear ho hcv hrc k1 k2 kc hR
            go_wp2
            go_roundw
            case rel => exact ⟨j + 1, by omega, by go_num, by go_num, hK2⟩
            case measure => simp [intOf]; omega
          · have q7' : ((j : Int) == 7) = true := by rw [beq_iff_eq]; omega
            have gZ := keepN gA hK
            go_wp2_with fail
            refine (alive_any _ (hL.out.keep gZ) (hC.out.keep gZ)).mono ?_
            rintro e x3 ⟨rfl, k1⟩
            go_wp2
            go_ret
            exact ⟨rfl, keepN gZ k1⟩

end Go.Proofs.YtonpplpfipfnfaaGreatDoor.C
