/-
  Part 21 of the proofs of LBackRow, LLabelsRow: what is laid, and what the functions that the law runs answer. Conditions: each theorem names its own.
-/
import Derived.ArgAppend
import Derived.ChangeSame
import Derived.Deep.Fields
import Derived.Deep.OwnRows
import Derived.Deep.Slices
import Derived.Deep.Strs
import Derived.Lib.AppendZeros
import Derived.Lib.LaidTab
import Derived.Lib.SlBytesConst
import Derived.OrdersIn
import Derived.Stop.LaidErr
import Derived.Test.YtgnooffedmeenaaGreatDoorQB20
import Derived.Test.YtgnooffedmeenaaGreatDoorRows
namespace Go.Proofs.YtgnooffedmeenaaGreatDoor
open Go.RowKit
section
variable {P : Program} {md : Region.Mode} {ops : Array Oper}

def propsD6 (md : Region.Mode) (ops : Array Oper) (ds : Nat → Nat) (c : Nat) : Bool := (List.range ops.size).all fun i => match ops[i]? with
 | none => false
 | some o => (match o.dst with
  | none => i == c
  | some d => d == ds i) && ((o.after.all fun e => !Region.binds md e || decide (e.on < i)) && (List.range ops.size).all fun j => i == j || !(ds i == ds j))
theorem propsD6_at {ds : Nat → Nat} {c : Nat} (h : propsD6 md ops ds c = true) {i : Nat} {o : Oper} (ho : ops[i]? = some o) : (o.dst = some (ds i) ∨ (o.dst = none ∧ i = c)) ∧ (∀ e ∈ o.after, Region.binds md e = true → e.on < i) ∧ ∀ j, j < ops.size → j ≠ i → ds j ≠ ds i := by
 have hi := (Array.getElem?_eq_some_iff.1 ho).1
 have h1 := List.all_eq_true.1 h i (List.mem_range.2 hi)
 simp only [ho, Bool.and_eq_true] at h1
 obtain ⟨h1, h3, h4⟩ := h1
 refine ⟨?_, fun e he hb => ?_, fun j hj hne e => ?_⟩
 ·cases hd : o.dst with
  | none => rw [hd] at h1; exact .inr ⟨rfl, by simpa using h1⟩
  | some d => rw [hd] at h1; exact .inl (by simpa using h1)
 ·have := Array.all_eq_true_iff_forall_mem.1 h3 e he
  simpa [hb] using this
 ·have h5 := List.all_eq_true.1 h4 j (List.mem_range.2 hj)
  rw [e] at h5
  simp at h5
  exact hne h5.symm
theorem no_readyD6 {ds : Nat → Nat} {c : Nat} (hB : propsD6 md ops ds c = true) {listed : Array Bool} (hs : listed.size = ops.size) (hr : Region.ready md ops listed = []) : ∀ i, i < ops.size → listed.getD i true = true := by
 intro i
 induction i using Nat.strongRecOn with
 | ind i ih =>
  intro hi
  cases hl : listed.getD i true
  ·have ho : ops[i]? = some ops[i] := Array.getElem?_eq_getElem hi
   have : i ∈ Region.ready md ops listed := mem_ready.2 ⟨hl, ops[i], ho, fun e he hb => by
    have he2 := (propsD6_at hB ho).2.1 e he hb
    have h1 := ih e.on he2 (by omega)
    have h2 : e.on < listed.size := by omega
    simpa [h2] using h1⟩
   rw [hr] at this; cases this
  ·rfl
theorem wpAny_props6 {Q : Exit → Act → World → Prop} (ds : Nat → Nat) (c : Nat) (O : Nat → Prop) (late : Nat → Bool) (hB : propsD6 md ops ds c = true) (hLt : lateG md ops c late = true) (S : Nat → Value → World → Prop) (w0 : World) (a0 : Act) (hS1 : ∀ i v w w', i ≠ c → late i = false → Keep O w0 w → S i v w → Keep O w w' → S i v w') (hS2 : ∀ i v w w', Keep O w0 w → S i v w → Keep NoB w w' → S i v w') (hsz : fitsD ops ds a0.tmps.size = true)
  (hstep : ∀ i o (a : Act) (w : World), ops[i]? = some o → i ≠ c → FrameD a0 ds ops.size a → Keep O w0 w → (∀ e ∈ o.after, Region.binds md e = true → S e.on (a.tmps.getD (ds e.on) undef) w) → Does P ops o a w fun u w' => S i u w' ∧ Keep NoB w w')
  (hspec : ∀ o (a : Act) (w : World), ops[c]? = some o → FrameD a0 ds ops.size a → Keep NoB w0 w → (∀ e ∈ o.after, Region.binds md e = true → S e.on (a.tmps.getD (ds e.on) undef) w) → Does P ops o a w fun u w' => (∀ v, (o.dst.isSome = true → v = u) → S c v w') ∧ Keep O w w')
  (hend : ∀ (a : Act) (w : World), FrameD a0 ds ops.size a → Keep O w0 w → (∀ i, i < ops.size → S i (a.tmps.getD (ds i) undef) w) → Q .normal a w) :
  ∀ (fuel : Nat) (listed : Array Bool) (a : Act) (w : World), listed.size = ops.size → (∃ L : List Nat, L.length ≤ fuel ∧ ∀ i, i < ops.size → listed.getD i true = false → i ∈ L) → FrameD a0 ds ops.size a → Keep O w0 w → (listed.getD c true = false → Keep NoB w0 w) → (∀ i, i < ops.size → late i = true → listed.getD i true = true → listed.getD c true = true) →
   (∀ i, i < ops.size → listed.getD i true = true → S i (a.tmps.getD (ds i) undef) w) → wpAny P md ops Q fuel listed a w := by
 have hNO : ∀ {X Y : World}, Keep NoB X Y → Keep O X Y := fun h => h.mono (fun _ hf _ => hf.elim)
 intro fuel
 induction fuel with
 | zero =>
  intro listed a w hs ⟨L, hL, hin⟩ hF hK hC hLa hA
  obtain rfl : L = [] := List.length_eq_zero_iff.1 (by omega)
  have hall : ∀ i, i < ops.size → listed.getD i true = true := fun i hi => by
   cases h : listed.getD i true
   ·cases hin i hi h
   ·rfl
  refine ⟨?_, hend a w hF hK fun i hi => hA i hi (hall i hi)⟩
  rw [List.eq_nil_iff_forall_not_mem]
  intro i hi
  obtain ⟨h1, o, ho, _⟩ := mem_ready.1 hi
  rw [hall i (Array.getElem?_eq_some_iff.1 ho).1] at h1; cases h1
 | succ fuel ih =>
  intro listed a w hs ⟨L, hL, hin⟩ hF hK hC hLa hA
  refine ⟨fun h0 => hend a w hF hK fun i hi => hA i hi (no_readyD6 hB hs h0 i hi), fun i hi => ?_⟩
  obtain ⟨h1, o, ho, hall⟩ := mem_ready.1 hi
  have hi' := (Array.getElem?_eq_some_iff.1 ho).1
  obtain ⟨hd, hlt, hdis⟩ := propsD6_at hB ho
  have hdeps : ∀ e ∈ o.after, Region.binds md e = true → S e.on (a.tmps.getD (ds e.on) undef) w := fun e he hb => by
   have h2 := hall e he hb
   have h3 := hlt e he hb
   refine hA e.on (by omega) ?_
   have h4 : e.on < listed.size := by omega
   simpa [h4] using h2
  have hKO : (if i = c then Keep NoB w0 w else True) := by
   split
   ·rename_i e; subst e; exact hC h1
   ·trivial
  have hdoes : Does P ops o a w fun u w' => (∀ v, (o.dst.isSome = true → v = u) → S i v w') ∧ Keep O w w' ∧ (i ≠ c → Keep NoB w w') := by
   by_cases e : i = c
   ·subst e
    rw [if_pos rfl] at hKO
    rcases hspec o a w ho hF hKO hdeps with ⟨hw, hy⟩ | ⟨hw, h2, h3⟩
    ·refine .inl ⟨hw, ?_⟩
     unfold yieldsK at hy ⊢
     exact yieldsR_mono (fun u w' ⟨h2, h3⟩ => ⟨h2, h3, fun h => absurd rfl h⟩) _ _ hy
    ·exact .inr ⟨hw, h2, h3, fun h => absurd rfl h⟩
   ·have hsome : o.dst.isSome = true := by
     rcases hd with h | ⟨_, h⟩
     ·rw [h]; rfl
     ·exact absurd h e
    rcases hstep i o a w ho e hF hK hdeps with ⟨hw, hy⟩ | ⟨hw, h2, h3⟩
    ·refine .inl ⟨hw, ?_⟩
     unfold yieldsK at hy ⊢
     exact yieldsR_mono (fun u w' ⟨h2, h3⟩ => ⟨fun v hv => by rw [hv hsome]; exact h2, hNO h3, fun _ => h3⟩) _ _ hy
    ·exact .inr ⟨hw, fun v hv => by rw [hv hsome]; exact h2, hNO h3, fun _ => h3⟩
  have hnext : ∀ u w', (∀ v, (o.dst.isSome = true → v = u) → S i v w') → Keep O w w' → (i ≠ c → Keep NoB w w') → wpAny P md ops Q fuel (listed.setIfInBounds i true) (a.put o.dst u) w' := by
   intro u w' hSu hk hkn
   have hfr : FrameD a0 ds ops.size (a.put o.dst u) ∧ (∀ k, k < ops.size → k ≠ i → (a.put o.dst u).tmps.getD (ds k) undef = a.tmps.getD (ds k) undef) ∧ (o.dst.isSome = true → (a.put o.dst u).tmps.getD (ds i) undef = u) := by
    rcases hd with hd | ⟨hd, _⟩
    ·rw [hd]
     have hds : ds i < a.tmps.size := by rw [hF.2.1]; exact fitsD_at hsz ho hd
     have hget : ∀ s, (a.put (some (ds i)) u).tmps.getD s undef = if s = ds i then u else a.tmps.getD s undef := fun s => by
      unfold Act.put
      by_cases e : s = ds i
      ·subst e; simp [hds]
      ·rw [if_neg e]
       simp only [Array.getD_eq_getD_getElem?, Array.getElem?_setIfInBounds]
       rw [if_neg (fun h => e h.symm)]
     refine ⟨⟨hF.1, by unfold Act.put; simpa using hF.2.1, fun s hs' => ?_⟩, fun k hk' hki => ?_, fun _ => ?_⟩
     ·rw [hget, if_neg (hs' i hi')]; exact hF.2.2 s hs'
     ·rw [hget, if_neg (hdis k hk' hki)]
     ·rw [hget, if_pos rfl]
    ·rw [hd]
     exact ⟨hF, fun _ _ _ => rfl, fun h => by cases h⟩
   obtain ⟨hF', hother, hself⟩ := hfr
   refine ih (listed.setIfInBounds i true) _ w' (by simpa using hs) ⟨L.erase i, ?_, fun k hk' hl => ?_⟩ hF' (hK.trans hk (fun _ h _ => h)) (fun hl => ?_) (fun k hk' hlk hl => ?_) fun k hk' hl => ?_
   ·rw [List.length_erase_of_mem (hin i hi' h1)]; omega
   ·have hki : k ≠ i := by
     rintro rfl
     have : k < listed.size := by omega
     simp [this] at hl
    have hl2 : listed.getD k true = false := by rw [getD_set_ne true (Ne.symm hki)] at hl; exact hl
    exact (List.mem_erase_of_ne hki).2 (hin k hk' hl2)
   ·have hci : c ≠ i := by
     rintro rfl
     have : c < listed.size := by omega
     simp [this] at hl
    rw [getD_set_ne true (Ne.symm hci)] at hl
    exact keepN (hC hl) (hkn (Ne.symm hci))
   ·have hcl : ∀ n, listed.getD n true = true → (listed.setIfInBounds i true).getD n true = true := fun n hn => by
     by_cases e : i = n
     ·subst e
      have h5 : i < listed.size := by omega
      simp [h5]
     ·rw [getD_set_ne true e]; exact hn
    by_cases e : k = i
    ·subst e
     by_cases ec : k = c
     ·rw [← ec]; exact hl
     ·obtain ⟨x, hx, hb, h6⟩ := lateG_at hLt ho hlk ec
      have h7 := hall x hx hb
      have h8 := hlt x hx hb
      have h9 : x.on < listed.size := by omega
      have h10 : listed.getD x.on true = true := by simpa [h9] using h7
      refine hcl c ?_
      rcases h6 with h6 | h6
      ·rw [← h6]; exact h10
      ·exact hLa x.on (by omega) h6 h10
    ·rw [getD_set_ne true (Ne.symm e)] at hl
     exact hcl c (hLa k hk' hlk hl)
   ·by_cases e : k = i
    ·subst e
     exact hSu _ hself
    ·rw [hother k hk' e]
     rw [getD_set_ne true (Ne.symm e)] at hl
     by_cases ec : i = c
     ·subst ec
      by_cases hlk : late k = true
      ·have := hLa k hk' hlk hl
       rw [h1] at this; cases this
      ·exact hS1 k _ _ _ e (by simpa using hlk) hK (hA k hk' hl) hk
     ·exact hS2 k _ _ _ hK (hA k hk' hl) (hkn ec)
  unfold wpOp
  simp only [ho]
  rcases hdoes with ⟨hw, hy⟩ | ⟨hw, h2, h3, h4⟩
  ·rw [if_pos hw]
   exact .inl (Oper.wp_of_yields hy fun u w' ⟨h2, h3, h4⟩ => hnext u w' h2 h3 h4)
  ·rw [if_neg (by rw [hw]; decide)]
   exact hnext undef w h2 h3 h4
theorem wp_region_props6 {id : Nat} {Q : Exit → Act → World → Prop} {a0 : Act} {w : World} (ds : Nat → Nat) (c : Nat) (O : Nat → Prop) (late : Nat → Bool) (hm : P.follows .mixedOrders = true) (hB : propsD6 .any ops ds c = true) (hLt : lateG .any ops c late = true) (S : Nat → Value → World → Prop) (hS1 : ∀ i v w1 w', i ≠ c → late i = false → Keep O w w1 → S i v w1 → Keep O w1 w' → S i v w') (hS2 : ∀ i v w1 w', Keep O w w1 → S i v w1 → Keep NoB w1 w' → S i v w') (hsz : fitsD ops ds a0.tmps.size = true)
  (hstep : ∀ i o (a : Act) (w' : World), ops[i]? = some o → i ≠ c → FrameD a0 ds ops.size a → Keep O w w' → (∀ e ∈ o.after, Region.binds .any e = true → S e.on (a.tmps.getD (ds e.on) undef) w') → Does P ops o a w' fun u w'' => S i u w'' ∧ Keep NoB w' w'')
  (hspec : ∀ o (a : Act) (w' : World), ops[c]? = some o → FrameD a0 ds ops.size a → Keep NoB w w' → (∀ e ∈ o.after, Region.binds .any e = true → S e.on (a.tmps.getD (ds e.on) undef) w') → Does P ops o a w' fun u w'' => (∀ v, (o.dst.isSome = true → v = u) → S c v w'') ∧ Keep O w' w'')
  (hend : ∀ (a : Act) (w' : World), FrameD a0 ds ops.size a → Keep O w w' → (∀ i, i < ops.size → S i (a.tmps.getD (ds i) undef) w') → Q .normal a w') : (Code.region id ops true).wp P Q a0 w :=
 wp_region_any hm (wpAny_props6 ds c O late hB hLt S w a0 hS1 hS2 hsz hstep hspec hend _ _ a0 w.drew (by simp) ⟨List.range ops.size, by simp, fun i hi _ => List.mem_range.2 hi⟩ ⟨rfl, rfl, fun _ _ => rfl⟩ (Keep.refl O w).drew (fun _ => (Keep.refl NoB w).drew) (fun i hi _ hl => by simp [hi] at hl) fun i hi hl => by
  simp [hi] at hl)
end
end Go.Proofs.YtgnooffedmeenaaGreatDoor

namespace Go.Proofs.YtgnooffedmeenaaGreatDoor
open Go.RowKit
section
variable {P : Program} {md : Region.Mode} {ops : Array Oper}

end
end Go.Proofs.YtgnooffedmeenaaGreatDoor

namespace Go.Proofs.YtgnooffedmeenaaGreatDoor
open Go.RowKit
section
variable {P : Program} {md : Region.Mode} {ops : Array Oper}

end
end Go.Proofs.YtgnooffedmeenaaGreatDoor

namespace Go.Proofs.YtgnooffedmeenaaGreatDoor
open Go.RowKit

end Go.Proofs.YtgnooffedmeenaaGreatDoor

namespace Go.Proofs.YtgnooffedmeenaaGreatDoor.F
open Go.RowKit W

end Go.Proofs.YtgnooffedmeenaaGreatDoor.F

namespace Go.Proofs.YtgnooffedmeenaaGreatDoor.I
open Go.RowKit Go.Shelf W
attribute [local go_sem] Oper.semAt_some

end Go.Proofs.YtgnooffedmeenaaGreatDoor.I

namespace Go.Proofs.YtgnooffedmeenaaGreatDoor.I
open Go.RowKit W

theorem own_blk {W : World} {g E sz n : Nat} {P : Nat → Prop} {xs : List Value} (h : Blk W g E xs.toArray) (hl : xs.length = n * sz) (hm : n ≤ maxLen) (hP : P g) : Own W E sz P (.slice (some ⟨g, 0, none⟩) n n) n xs :=
 ⟨⟨hl, .inr ⟨g, n, xs.toArray, rfl, Nat.zero_le _, h, Nat.le_refl _, hm, by simpa using hl, by rw [← hl]; simp⟩⟩, fun k e => by cases e; exact hP⟩
def OwnS (W : World) (P : Nat → Prop) (e : SE) : Prop := Own W 3 1 P (.slice e.1.A e.1.n e.1.c) e.1.n (ivs e.2)
theorem OwnS.mono {W : World} {P P' : Nat → Prop} {e : SE} (h : OwnS W P e) (hP : ∀ k, P k → k < W.heap.size → P' k) : OwnS W P' e := by
 unfold OwnS at *
 exact h.mono hP
def OwnF (W : World) (P : Nat → Prop) (e : FE) : Prop := F.OwnF W P e.1 e.2
theorem OwnF.mono {W : World} {P P' : Nat → Prop} {e : FE} (h : OwnF W P e) (hP : ∀ k, P k → k < W.heap.size → P' k) : OwnF W P' e := by
 unfold OwnF at *
 exact h.mono hP
end Go.Proofs.YtgnooffedmeenaaGreatDoor.I

namespace Go.Proofs.YtgnooffedmeenaaGreatDoor.I
open Go.RowKit W

theorem img_size : (Tryz.prog.info? 25).map (·.size) = some 2 := by kernel_rfl
theorem ret_img {fn : Func} {p : Tmp} {tmps : Array Value} {w : World} {g : Nat} {v : IV} (h : fn.results = #[.cell p 25]) (hp : tmps.getD p undef = .pointer (some ⟨g, 0, none⟩)) (hb : Blk w g 25 v.cells) :
  (results fn tmps).run Tryz.prog w = .ok v.val w :=
 results_cell_row h tmps w g 25 v.cells (0, 0) _ hp hb Tryz.underlying25 rfl img_size
end Go.Proofs.YtgnooffedmeenaaGreatDoor.I

namespace Go.Proofs.YtgnooffedmeenaaGreatDoor.F
open Go.RowKit W

end Go.Proofs.YtgnooffedmeenaaGreatDoor.F

namespace Go.Proofs.YtgnooffedmeenaaGreatDoor.F
open Go.RowKit W

end Go.Proofs.YtgnooffedmeenaaGreatDoor.F

namespace Go.Proofs.YtgnooffedmeenaaGreatDoor.I
open Go.RowKit W

end Go.Proofs.YtgnooffedmeenaaGreatDoor.I

namespace Go.Proofs.YtgnooffedmeenaaGreatDoor.I
open Go.RowKit W

end Go.Proofs.YtgnooffedmeenaaGreatDoor.I

namespace Go.Proofs.YtgnooffedmeenaaGreatDoor.I
open Go.RowKit W

end Go.Proofs.YtgnooffedmeenaaGreatDoor.I

namespace Go.Proofs.YtgnooffedmeenaaGreatDoor.O
open Go.RowKit

end Go.Proofs.YtgnooffedmeenaaGreatDoor.O

namespace Go.Proofs.YtgnooffedmeenaaGreatDoor.C
open Go.RowKit O

end Go.Proofs.YtgnooffedmeenaaGreatDoor.C

namespace Go.Proofs.YtgnooffedmeenaaGreatDoor.C
open Go.RowKit O

end Go.Proofs.YtgnooffedmeenaaGreatDoor.C

namespace Go.Proofs.YtgnooffedmeenaaGreatDoor.F
open Go.RowKit W

end Go.Proofs.YtgnooffedmeenaaGreatDoor.F

namespace Go.Proofs.YtgnooffedmeenaaGreatDoor.F
open Go.RowKit W

end Go.Proofs.YtgnooffedmeenaaGreatDoor.F

namespace Go.Proofs.YtgnooffedmeenaaGreatDoor.F
open Go.RowKit W

end Go.Proofs.YtgnooffedmeenaaGreatDoor.F

namespace Go.Proofs.YtgnooffedmeenaaGreatDoor.F
open Go.RowKit W

end Go.Proofs.YtgnooffedmeenaaGreatDoor.F

namespace Go.Proofs.YtgnooffedmeenaaGreatDoor.I
open Go.RowKit W

end Go.Proofs.YtgnooffedmeenaaGreatDoor.I

namespace Go.Proofs.YtgnooffedmeenaaGreatDoor.I
open Go.RowKit W

end Go.Proofs.YtgnooffedmeenaaGreatDoor.I

namespace Go.Proofs.YtgnooffedmeenaaGreatDoor
open Go.RowKit
section
variable {P : Program} {md : Region.Mode} {ops : Array Oper}
end
end Go.Proofs.YtgnooffedmeenaaGreatDoor

namespace Go.Proofs.YtgnooffedmeenaaGreatDoor.I
open Go.RowKit W

theorem smF_ok {W : World} {v : F.FV} {f : F.Fu} (hn : F.FnAt W v f) (hf : F.okF f = true) : F.SmF v := by
 obtain ⟨h1, h2, _, h4, h5⟩ := (F.okF_iff f).1 hf
 have h6 := ((F.okN_iff _).1 h1).1
 have h7 := (C.okB_parts h4).2.1
 have e0 := F.sz_len hn.nm
 have := hn.la
 have := hn.lb
 have := hn.ll
 have := hn.ld
 exact ⟨by omega, by omega, by omega, by omega, by omega⟩
end Go.Proofs.YtgnooffedmeenaaGreatDoor.I

namespace Go.Proofs.YtgnooffedmeenaaGreatDoor.O
open Go.ChangeShapes Go.WideShapes Go.ChangeAt Go.RowKit

theorem seatOwn : ownKnob Tryz.prog.godebug = none := by kernel_rfl
theorem seatLaidOut : laidOutB Tryz.prog = true := by kernel_rfl
theorem i64_of_wf {n : Int} (h : (Lit.int .i64 n).wf = true) : I64 n := by
 have hmin : IntKind.i64.min = -9223372036854775808 := rfl
 have hmax : IntKind.i64.max = 9223372036854775807 := rfl
 simp only [Lit.wf, Bool.and_eq_true, decide_eq_true_eq] at h
 unfold I64; omega
theorem tLet : (Tryz.prog.globals[1]?).map (·.type) = some 251 := by kernel_rfl
theorem tPow : (Tryz.prog.globals[4]?).map (·.type) = some 352 := by kernel_rfl
theorem tSyn : (Tryz.prog.globals[9]?).map (·.type) = some 128 := by kernel_rfl
theorem tRng : (Tryz.prog.globals[10]?).map (·.type) = some 128 := by kernel_rfl
theorem tBin : (Tryz.prog.globals[5]?).map (·.type) = some 356 := by kernel_rfl
theorem tUn : (Tryz.prog.globals[6]?).map (·.type) = some 358 := by kernel_rfl
theorem errStar : "*" ++ "errors.errorString" = "*errors.errorString" := by decide
theorem errRow (u : TypeId) (h : Tryz.prog.typeName? 3 u = some "*errors.errorString") : u = 400 :=
 typeName_ptr_named (nm := "errors.errorString") (by rw [errStar]; kernel_rfl) (by kernel_rfl) (by decide) u (by rw [errStar]; exact h)

set_option maxRecDepth 100000 in
theorem laidO_of {W0 : World} {x y : String × DataW Unit}
  (h : laidMet Tryz.prog [("backstay/alu.binNames", Rows.laid_backstay_alu_binNames), ("backstay/alu.unNames", Rows.laid_backstay_alu_unNames), x, y, ("internal/strconv.uint64pow10", Rows.laid_internal_strconv_uint64pow10), ("strconv.ErrRange", Rows.laid_strconv_ErrRange), ("strconv.ErrSyntax", Rows.laid_strconv_ErrSyntax), ("backstay/value.letters", Rows.laid_backstay_value_letters)] W0) : LaidO W0 := by
 have h4 := h.tail.tail.tail.tail
 have h5 := h4.tail
 have h6 := h5.tail
 refine ⟨Lib.tabIs_of_head (zs := [0, 73, 82, 70, 80]) (k := .i32) _root_.Go.Proofs.YtgnooffedmeenaaGreatDoor.W.gLet tLet Tryz.underlying251 Tryz.underlying21 (by kernel_rfl) (by kernel_rfl) h6.tail,
  ⟨A.strs_of_head (l := A.binNs) A.gBin tBin Tryz.underlying356 Tryz.underlying9 (by kernel_rfl) (by kernel_rfl) h,
  A.strs_of_head (l := A.unNs) A.gUn tUn Tryz.underlying358 Tryz.underlying9 (by kernel_rfl) (by kernel_rfl) h.tail⟩,
  Lib.tabIs_of_head (zs := Lib.pow10Tab) (k := .u64) _root_.Go.Proofs.YtgnooffedmeenaaGreatDoor.W.gPow tPow Tryz.underlying352 Tryz.underlying194 (by kernel_rfl) (by kernel_rfl) h4, ?_, ?_⟩
 ·obtain ⟨a, s, hv, _⟩ := laid_sentinel h6 _root_.Go.Proofs.YtgnooffedmeenaaGreatDoor.W.gSyn tSyn Tryz.underlying128 errRow Tryz.underlying400 Tryz.underlying402 rfl rfl Tryz.underlying9 (by kernel_rfl) (by kernel_rfl)
  exact ⟨_, _, hv⟩
 ·obtain ⟨a, s, hv, _⟩ := laid_sentinel h5 _root_.Go.Proofs.YtgnooffedmeenaaGreatDoor.W.gRng tRng Tryz.underlying128 errRow Tryz.underlying400 Tryz.underlying402 rfl rfl Tryz.underlying9 (by kernel_rfl) (by kernel_rfl)
  exact ⟨_, _, hv⟩

section
variable {H : Type} {enc : TypeId × Value → H} {w : World} {base b0 : Nat} {spare : Nat → Bool} {held : Bool} {r : Reach} {v : Value} {d : DataW H} {p : List MemPlace}
end

end Go.Proofs.YtgnooffedmeenaaGreatDoor.O

namespace Go.Proofs.YtgnooffedmeenaaGreatDoor.C
open Go.ChangeShapes Go.WideShapes Go.ChangeAt Go.RowKit Go.Deep O

theorem addr_of_cell {w : World} {a : Addr} {v : Value} (h : w.cell? a = some v) : a = ⟨a.block, a.off, none⟩ := by
 obtain ⟨b, o, s⟩ := a
 cases s with
 | none => rfl
 | some s => unfold World.cell? at h; split at h <;> simp at h
theorem add_of (b o k : Nat) : (⟨b, o, none⟩ : Addr).add k = ⟨b, o + k, none⟩ := by unfold Addr.add; by_cases hk : k = 0 <;> simp [hk]

section
variable {H : Type} {enc : TypeId × Value → H} {W : World} {base : Nat} {spare : Nat → Bool} {held : Bool} {fuel : Nat} {cs : List Value} {x : DataW H × List MemPlace}
set_option maxRecDepth 100000 in
theorem read_insts (h : DataW.trod enc Tryz.prog W base spare held fuel 35 cs = some x) : ∃ A l c, cs = [.slice A l.length c] ∧ Rd W A (iis l) ∧ l.length ≤ c ∧ c ≤ maxLen ∧ AllI l := by
 rcases open_slice Tryz.underlying35 h with ⟨hcs, _⟩ | ⟨a, len, cap, m, n, D, Pl, hcs, _, hl, hm, hmm, _, hi⟩
 ·exact ⟨none, [], 0, hcs, Rd.none_ _ _, Nat.le_refl _, Nat.zero_le _, fun _ h => by simp at h⟩
 ·have hlm : len ≤ m := by rw [hmm]; split <;> omega
  have cI : Tryz.prog.cellsOf 55 = 3 := by kernel_rfl
  have c3 : Tryz.prog.cellsOf 3 = 1 := by kernel_rfl
  have c2 : Tryz.prog.cellsOf 2 = 1 := by kernel_rfl
  have each : ∀ i : Nat, ∃ v : I3, i < len → W.cell? (a.add (i * 3)) = some (.int .i64 v.1) ∧ W.cell? ((a.add (i * 3)).add 1) = some (.int .i64 v.2.1) ∧ W.cell? ((a.add (i * 3)).add 2) = some (.int .i64 v.2.2) ∧ O.I64 v.2.1 ∧ O.I64 v.2.2 := by
   intro i
   by_cases hlt : i < len
   ·obtain ⟨cs', hc, ht'⟩ := hi i (by omega)
    rw [cI] at hc
    obtain ⟨y0, y1, y2, k, _, hlen, h0, h1, h2⟩ := trod_struct3 Tryz.underlying55 ht'
    obtain ⟨_, hcl, hat⟩ := World.cells?_some hc
    match cs', hcl with
    | [u0, u1, u2], _ =>
     have g0 := hat 0 (by omega)
     have g1 := hat 1 (by omega)
     have g2 := hat 2 (by omega)
     obtain ⟨z0, e0, _, w0⟩ := DataW.trod_int Tryz.underlying3 h0
     obtain ⟨z1, e1, _, w1⟩ := DataW.trod_int Tryz.underlying2 h1
     obtain ⟨z2, e2, _, w2⟩ := DataW.trod_int Tryz.underlying2 h2
     simp [c3] at e0
     simp [c2] at e1
     simp [c2] at e2
     subst e0 e1 e2
     exact ⟨(z0, z1, z2), fun _ => ⟨by simpa [Addr.add] using g0, by simpa using g1, by simpa using g2, i64_of_wf w1, i64_of_wf w2⟩⟩
   ·exact ⟨(0, 0, 0), fun h => absurd h hlt⟩
  obtain ⟨f, hf⟩ := Classical.axiomOfChoice each
  have hlen : ((List.range len).map f).length = len := by simp
  refine ⟨some a, (List.range len).map f, cap, by rw [hlen]; exact hcs, fun h0 => ?_, by rw [hlen]; exact hl, hm, fun v hv => ?_⟩
  ·have h0' : 0 < len := by rw [iis_length, hlen] at h0; omega
   have ea := addr_of_cell (hf 0 h0').1
   have ea' : a = ⟨a.block, a.off, none⟩ := by simpa [Addr.add] using ea
   refine ⟨a.block, a.off, by rw [← ea'], fun j u hu => ?_⟩
   have hj : j < len * 3 := by have := (List.getElem?_eq_some_iff.1 hu).1; rw [iis_length, hlen] at this; exact this
   have hd : j / 3 < len := by omega
   obtain ⟨k0, k1, k2, _⟩ := hf (j / 3) hd
   obtain ⟨q0, q1, q2⟩ := iis_at ((List.range len).map f) (j / 3) (by rw [hlen]; exact hd)
   rw [ea', add_of] at k0 k1 k2
   rw [add_of] at k1 k2
   simp only [List.getElem_map, List.getElem_range] at q0 q1 q2
   have hm3 : j % 3 = 0 ∨ j % 3 = 1 ∨ j % 3 = 2 := by omega
   rcases hm3 with hr | hr | hr
   ·have ej : j = j / 3 * 3 := by omega
    rw [ej, q0] at hu
    rw [ej, k0]; exact hu
   ·have ej : j = j / 3 * 3 + 1 := by omega
    rw [ej, q1] at hu
    rw [ej, ← Nat.add_assoc, k1]; exact hu
   ·have ej : j = j / 3 * 3 + 2 := by omega
    rw [ej, q2] at hu
    rw [ej, ← Nat.add_assoc, k2]; exact hu
  ·obtain ⟨i, hi', rfl⟩ := List.mem_map.1 hv
   exact ⟨(hf i (List.mem_range.1 hi')).2.2.2.1, (hf i (List.mem_range.1 hi')).2.2.2.2⟩
end
section
variable {H : Type} {enc : TypeId × Value → H} {w : World} {base b0 : Nat} {spare : Nat → Bool} {held : Bool} {r : Reach} {v : Value} {d : DataW H} {p : List MemPlace}
end

end Go.Proofs.YtgnooffedmeenaaGreatDoor.C

namespace Go.Proofs.YtgnooffedmeenaaGreatDoor.I
open Go.RowKit W

theorem sm_of {w : World} {v : IV} {es : List SE} {fs : List FE} (h : ImAt w v es fs) (hs : es.length ≤ 64 ∧ fs.length ≤ 64 ∧ (∀ e ∈ es, S.okS e.2 = true) ∧ ∀ e ∈ fs, F.okF e.2 = true) : SmI es fs ∧ LgI v es fs := by
 obtain ⟨h1, h2, h3, h4⟩ := hs
 have hsh : ∀ e ∈ es, e.1.n ≤ 100 := fun e he => by
  have a := (h.hs e he).2
  have b := ((S.okS_iff _).1 (h3 e he)).1
  omega
 have hfn : ∀ e ∈ fs, F.SmF e.1 := fun e he => smF_ok (h.hf e he) (h4 e he)
 have hx := h.lx
 have hy := h.ly
 exact ⟨⟨by omega, by omega, hsh, hfn⟩, ⟨by omega, by omega, fun e he => by have := hsh e he; omega, fun e he => (hfn e he).lg⟩⟩
end Go.Proofs.YtgnooffedmeenaaGreatDoor.I

namespace Go.Proofs.YtgnooffedmeenaaGreatDoor.F
open Go.RowKit W

end Go.Proofs.YtgnooffedmeenaaGreatDoor.F

namespace Go.Proofs.YtgnooffedmeenaaGreatDoor.I
open Go.RowKit W

end Go.Proofs.YtgnooffedmeenaaGreatDoor.I

namespace Go.Proofs.YtgnooffedmeenaaGreatDoor.I
open Go.RowKit W

end Go.Proofs.YtgnooffedmeenaaGreatDoor.I

namespace Go.Proofs.YtgnooffedmeenaaGreatDoor.I
open Go.RowKit W

theorem made_own {w : World} {E size n b : Nat} {cs : Array Value} {xs : List Value} {P : Nat → Prop} (hb : b = w.heap.size) (hs : cs.size = n * size) (hm : n ≤ maxLen) (hx : xs = cs.toList) (hP : P b) : Own (w.alloc (.cells cs E)) E size P (.slice (some ⟨b, 0, none⟩) n n) n xs := by
 subst hb hx
 exact own_blk (Blk.new w E cs) (by simpa using hs) hm hP
end Go.Proofs.YtgnooffedmeenaaGreatDoor.I

namespace Go.Proofs.YtgnooffedmeenaaGreatDoor.I
open Go.RowKit W

end Go.Proofs.YtgnooffedmeenaaGreatDoor.I

namespace Go.Proofs.YtgnooffedmeenaaGreatDoor.I
open Go.RowKit W

end Go.Proofs.YtgnooffedmeenaaGreatDoor.I

namespace Go.Proofs.YtgnooffedmeenaaGreatDoor.I
open Go.RowKit W

end Go.Proofs.YtgnooffedmeenaaGreatDoor.I

namespace Go.Proofs.YtgnooffedmeenaaGreatDoor.I
open Go.RowKit W

theorem same_self (p : Im) : sameI p p = true := by unfold sameI; simp
end Go.Proofs.YtgnooffedmeenaaGreatDoor.I

namespace Go.Proofs.YtgnooffedmeenaaGreatDoor.M.L
open Go.RowKit W

end Go.Proofs.YtgnooffedmeenaaGreatDoor.M.L

namespace Go.Proofs.YtgnooffedmeenaaGreatDoor.M.L
open Go.RowKit W

def someF : F.Fu := ⟨[109, 97, 105, 110], [], [], [], [(1, 1, 0), (19, 0, 0), (20, 0, 0), (24, 0, 0)]⟩
def someFV (m : Nat) : F.FV := ⟨⟨#[109, 97, 105, 110]⟩, none, 0, 0, none, 0, 0, none, 0, 0, some ⟨m + 1 + 1 + 1, 0, none⟩, 4, 4⟩
def someSV (m : Nat) : I.SV := ⟨some ⟨m + 1, 0, none⟩, 2, 2⟩
def someV (m : Nat) : I.IV := ⟨some ⟨m + 1 + 1, 0, none⟩, 1, 1, some ⟨m + 1 + 1 + 1 + 1, 0, none⟩, 1, 1⟩
theorem somef_I : C.AllI someF.bd := by
 intro x hx
 unfold O.I64
 simp only [someF, List.mem_cons, List.not_mem_nil, or_false] at hx
 rcases hx with rfl | rfl | rfl | rfl <;> decide
def someC : Array Value := #[.int .i64 1, .int .i64 1, .int .i64 0, .int .i64 19, .int .i64 0, .int .i64 0, .int .i64 20, .int .i64 0, .int .i64 0, .int .i64 24, .int .i64 0, .int .i64 0]
set_option maxRecDepth 100000 in
set_option maxHeartbeats 4000000 in
theorem some_any (w : World) : Calls Tryz.prog 27 #[] w fun e w' => e = .returned (someV w.heap.size).val ∧ I.OwnIm w' (Fresh w) (someV w.heap.size) [(someSV w.heap.size, [1, 2])] [(someFV w.heap.size, someF)] ∧ Keep NoB w w' := by
 have k1 := (Keep.refl NoB w).alloc (.cells (someV w.heap.size).cells 25)
 have k2 := k1.alloc (.cells #[.int .i64 1, .int .i64 2] 3)
 have k3 := k2.alloc (.cells #[.slice (some ⟨w.heap.size + 1, 0, none⟩) 2 2] 68)
 have k4 := k3.alloc (.cells someC 55)
 have k5 := k4.alloc (.cells (someFV w.heap.size).cells 37)
 have bz := ((((Blk.new w 25 (someV w.heap.size).cells).alloc (.cells #[.int .i64 1, .int .i64 2] 3)).alloc (.cells #[.slice (some ⟨w.heap.size + 1, 0, none⟩) 2 2] 68)).alloc (.cells someC 55)).alloc (.cells (someFV w.heap.size).cells 37)
 obtain ⟨W1, hW1⟩ : ∃ W1, w.alloc (.cells (someV w.heap.size).cells 25) = W1 := ⟨_, rfl⟩
 rw [hW1] at k1 k2 k3 k4 k5 bz
 have z1 : W1.heap.size = w.heap.size + 1 := by rw [← hW1]; simp
 have a1 := I.made_own (w := W1) (E := 3) (size := 1) (n := 2) (b := w.heap.size + 1) (cs := #[.int .i64 1, .int .i64 2]) (xs := ivs [1, 2]) (P := Fresh w) z1.symm rfl (by decide) rfl (by unfold Fresh; omega)
 obtain ⟨W2, hW2⟩ : ∃ W2, W1.alloc (.cells #[.int .i64 1, .int .i64 2] 3) = W2 := ⟨_, rfl⟩
 rw [hW2] at k2 k3 k4 k5 bz a1
 have z2 : W2.heap.size = w.heap.size + 1 + 1 := by rw [← hW2]; simp [z1]
 have a2 := I.made_own (w := W2) (E := 68) (size := 1) (n := 1) (b := w.heap.size + 1 + 1) (cs := #[.slice (some ⟨w.heap.size + 1, 0, none⟩) 2 2]) (xs := I.svs [(someSV w.heap.size, [1, 2])]) (P := Fresh w) z2.symm rfl (by decide) rfl (by unfold Fresh; omega)
 obtain ⟨W3, hW3⟩ : ∃ W3, W2.alloc (.cells #[.slice (some ⟨w.heap.size + 1, 0, none⟩) 2 2] 68) = W3 := ⟨_, rfl⟩
 rw [hW3] at k3 k4 k5 bz a2
 have z3 : W3.heap.size = w.heap.size + 1 + 1 + 1 := by rw [← hW3]; simp [z2]
 have a3 := I.made_own (w := W3) (E := 55) (size := 3) (n := 4) (b := w.heap.size + 1 + 1 + 1) (cs := someC) (xs := C.iis someF.bd) (P := Fresh w) z3.symm rfl (by decide) rfl (by unfold Fresh; omega)
 obtain ⟨W4, hW4⟩ : ∃ W4, W3.alloc (.cells someC 55) = W4 := ⟨_, rfl⟩
 rw [hW4] at k4 k5 bz a3
 have z4 : W4.heap.size = w.heap.size + 1 + 1 + 1 + 1 := by rw [← hW4]; simp [z3]
 have a4 := I.made_own (w := W4) (E := 37) (size := 5) (n := 1) (b := w.heap.size + 1 + 1 + 1 + 1) (cs := (someFV w.heap.size).cells) (xs := I.fvs [(someFV w.heap.size, someF)]) (P := Fresh w) z4.symm rfl (by decide) rfl (by unfold Fresh; omega)
 have q4 := (Keep.refl NoB W4).alloc (.cells (someFV w.heap.size).cells 37)
 have q3 : Keep NoB W3 (W4.alloc (.cells (someFV w.heap.size).cells 37)) := by
  have h := (Keep.refl NoB W3).alloc (.cells someC 55)
  rw [hW4] at h
  exact keepN h q4
 have q2 : Keep NoB W2 (W4.alloc (.cells (someFV w.heap.size).cells 37)) := by
  have h := (Keep.refl NoB W2).alloc (.cells #[.slice (some ⟨w.heap.size + 1, 0, none⟩) 2 2] 68)
  rw [hW3] at h
  exact keepN h q3
 have b1 := a1.keepN q2
 have b2 := a2.keepN q3
 have b3 := a3.keepN q4
 have HO := Lib.hid (And.intro b1 (And.intro b2 (And.intro b3 a4)))
 have HB := Lib.hid bz
 have HK := Lib.hid k5
 clear a1 a2 a3 a4 b1 b2 b3 k1 k2 k3 k4 k5 bz q4 q3 q2 z1 z2 z3 z4
 subst hW1 hW2 hW3 hW4
 unfold I.IV.cells someV someFV F.FV.cells someSV someC at *
 dsimp only at *
 go_enter Tryz.func27, Tryz.ntmps27
 go_wp2
 refine bodyPost_ret (I.ret_img (v := ⟨some ⟨w.heap.size + 1 + 1, 0, none⟩, 1, 1, some ⟨w.heap.size + 1 + 1 + 1 + 1, 0, none⟩, 1, 1⟩) rfl rfl HB.out) rfl ?_
 obtain ⟨b1, b2, b3, b4⟩ := HO.out
 refine ⟨rfl, ⟨b2, b4, fun e he => ?_, fun e he => ?_⟩, HK.out⟩
 ·obtain rfl := List.mem_singleton.1 he
  exact b1
 ·obtain rfl := List.mem_singleton.1 he
  exact ⟨rfl, Own.nil _ _ _ _, Own.nil _ _ _ _, Own.nil _ _ _ _, b3, somef_I⟩

end Go.Proofs.YtgnooffedmeenaaGreatDoor.M.L

namespace Go.Proofs.YtgnooffedmeenaaGreatDoor.M.L
open Go.RowKit W

def someI : I.Im := ⟨[[1, 2]], [someF]⟩
theorem some_line : (lineN (cutP someI) 0 1 : Nat) = 5 ∧ lineE (cutP someI) 0 1 = 0 := by decide +kernel
theorem some_place3 : placeR (cutP someI) 3 = (0, 0, 100) := by decide +kernel
theorem some_place4 : placeR (cutP someI) 4 = (0, 0, 0) := by decide +kernel
theorem some_plain : textL 1 someI = [115, 104, 97, 112, 101, 32, 73, 82, 10, 102, 117, 110, 99, 32, 109, 97, 105, 110, 32, 62, 10, 105, 110, 116, 32, 49, 10, 106, 122, 32, 48, 10, 99, 97, 108, 108, 32, 48, 10, 114, 101, 116, 10] := by decide +kernel
theorem some_list : textL 0 someI = [115, 104, 97, 112, 101, 32, 73, 82, 10, 102, 117, 110, 99, 32, 109, 97, 105, 110, 32, 62, 10, 76, 48, 58, 10, 105, 110, 116, 32, 49, 10, 106, 122, 32, 76, 48, 10, 99, 97, 108, 108, 32, 109, 97, 105, 110, 10, 114, 101, 116, 10] := by decide +kernel
theorem some_lg (m : Nat) : I.LgI (someV m) [(someSV m, [1, 2])] [(someFV m, someF)] := ⟨by show 1 ≤ _; omega, by show 1 ≤ _; omega, fun e he => by
 obtain rfl := List.mem_singleton.1 he
 show 2 ≤ _; omega, fun e he => by
 obtain rfl := List.mem_singleton.1 he
 exact ⟨by show 4 ≤ _; omega, Nat.zero_le _, Nat.zero_le _, Nat.zero_le _, by show 4 ≤ _; omega⟩⟩

set_option maxRecDepth 100000 in
set_option maxHeartbeats 4000000 in
theorem alive_any (w : World) (hL : O.LaidO w) : Calls Tryz.prog 29 #[] w fun e w' => e = .returned (.bool true) ∧ Keep NoB w w' := by
 have HL := Lib.hid (fun W (hk : Keep NoB w W) => hL.keep hk)
 have HS := Lib.hid (some_any w)
 clear hL
 go_enter Tryz.func29, Tryz.ntmps29
 go_wp2_with fail
 refine HS.out.mono ?_
 rintro e w1 ⟨rfl, hO, k1⟩
 have hI := hO.im
 have hg := some_lg w.heap.size
 generalize someV w.heap.size = v at *
 obtain ⟨es, hes⟩ : ∃ es, [(someSV w.heap.size, ([1, 2] : List Int))] = es := ⟨_, rfl⟩
 obtain ⟨fs, hfs⟩ : ∃ fs, [(someFV w.heap.size, someF)] = fs := ⟨_, rfl⟩
 have hie : I.imOf es fs = someI := by rw [← hes, ← hfs]; rfl
 rw [hes, hfs] at hI hg
 clear hes hfs hO HS
 have HLi := Lib.hid (fun W (hk : Keep NoB w1 W) => line_any v es fs 0 1 W (hI.keepN hk) hg)
 have HP3 := Lib.hid (fun W (hk : Keep NoB w1 W) => place_any v es fs 3 W (hI.keepN hk) hg)
 have HP4 := Lib.hid (fun W (hk : Keep NoB w1 W) => place_any v es fs 4 W (hI.keepN hk) hg)
 have HPl := Lib.hid (fun W (hk : Keep NoB w1 W) => plainApi_any v es fs W (hI.keepN hk) hg (HL.out _ (keepN k1 hk)))
 have HLs := Lib.hid (fun W (hk : Keep NoB w1 W) => listApi_any v es fs W (hI.keepN hk) hg (HL.out _ (keepN k1 hk)))
 rw [hie, some_line.1, some_line.2] at HLi
 rw [hie, some_place3] at HP3
 rw [hie, some_place4] at HP4
 rw [hie, some_plain] at HPl
 rw [hie, some_list] at HLs
 clear hI hg hie
 obtain ⟨X, nx, cx, Y, ny, cy⟩ := v
 dsimp only [I.IV.val, I.IV.cells] at *
 have bx := Blk.new w1 25 #[.slice X nx cx, .slice Y ny cy]
 have gK := (Keep.refl NoB w1).alloc (.cells #[.slice X nx cx, .slice Y ny cy] 25)
 obtain ⟨c0, c1⟩ := And.intro (bx.cell 0) (bx.cell 1)
 simp only [List.getElem?_toArray, List.getElem?_cons_zero, List.getElem?_cons_succ] at c0 c1
 have HB : Hid (∀ W, Keep NoB (w1.alloc (.cells #[.slice X nx cx, .slice Y ny cy] 25)) W → W.cell? ⟨w1.heap.size, 0, none⟩ = some (.slice X nx cx) ∧ W.cell? ⟨w1.heap.size, 1, none⟩ = some (.slice Y ny cy)) := fun W hk => ⟨hk.cell c0 id, hk.cell c1 id⟩
 clear bx
 go_wp2_with fail
 refine (HLi.out _ gK).mono ?_
 rintro e w2 ⟨rfl, k2⟩
 clear c0 c1
 obtain ⟨c0, c1⟩ := HB.out _ k2
 have g2 := keepN gK k2
 go_wp2_with fail
 refine (HP3.out _ g2).mono ?_
 rintro e w3 ⟨rfl, k3⟩
 clear c0 c1
 have q3 := keepN k2 k3
 obtain ⟨c0, c1⟩ := HB.out _ q3
 have g3 := keepN gK q3
 clear k2 k3 g2
 go_wp2_with fail
 refine (HP4.out _ g3).mono ?_
 rintro e w4 ⟨rfl, k4⟩
 clear c0 c1
 have q4 := keepN q3 k4
 obtain ⟨c0, c1⟩ := HB.out _ q4
 have g4 := keepN gK q4
 clear q3 k4 g3
 go_wp2_with fail
 refine (HPl.out _ g4).mono ?_
 rintro e w5 ⟨rfl, k5⟩
 clear c0 c1
 have q5 := keepN q4 k5
 obtain ⟨c0, c1⟩ := HB.out _ q5
 have g5 := keepN gK q5
 clear q4 k5 g4
 go_wp2_with fail
 refine (HLs.out _ g5).mono ?_
 rintro e w6 ⟨rfl, k6⟩
 clear c0 c1
 have q6 := keepN k1 (keepN g5 k6)
 clear q5 k6 g5
 go_wp2
 go_ret
 exact ⟨rfl, q6⟩

end Go.Proofs.YtgnooffedmeenaaGreatDoor.M.L

namespace Go.Proofs.YtgnooffedmeenaaGreatDoor.M.L
open Go.RowKit

theorem txt_le_len (l : List Int) : (W.txt l).length ≤ l.length := by
 unfold W.txt
 split
 ·rename_i h
  rw [W.flat_let_length _ h.2]
  exact Nat.le_refl _
 ·simp
theorem head_le {f : F.Fu} (h : F.okF f = true) : (textOf ((headT f).map joinW)).length ≤ 400 := by
 obtain ⟨h1, h2, _, _, h5⟩ := (F.okF_iff f).1 h
 have e1 := okN_le h1
 have e2 := txt_le_len f.ar
 have e3 := txt_le_len f.rs
 have e4 := txt_le_len f.lc
 have h6 : (joinW [funcW, f.nm, S.shG f.ar f.rs]).length ≤ 110 := by
  show (funcW ++ 32 :: (f.nm ++ 32 :: S.shG f.ar f.rs)).length ≤ 110
  unfold S.shG
  split <;> simp [funcW] <;> omega
 have h7 : (joinW [localW, W.txt f.lc]).length ≤ 110 := by
  show (localW ++ 32 :: W.txt f.lc).length ≤ 110
  simp [localW]
  omega
 refine Nat.le_trans (textOf_le (M := 110) _ fun s hs => ?_) (Nat.le_trans (?_ : _ ≤ 111 * 2) (by omega))
 ·obtain ⟨w, hw, rfl⟩ := List.mem_map.1 hs
  unfold headT at hw
  rcases List.mem_cons.1 hw with rfl | hw
  ·exact h6
  ·split at hw
   ·cases hw
   ·obtain rfl := List.mem_singleton.1 hw
    exact h7
 ·refine Nat.mul_le_mul_left _ ?_
  rw [List.length_map]
  unfold headT
  split <;> simp
theorem body_size {p : I.Im} (hp : I.okI p = true) (kind k : Nat) {t : List Nat} (ht : ∀ i s, labA t i = some s → s.length ≤ 32) : ∀ (b : List C.I3) (i : Nat), i + b.length ≤ 512 → C.AllI b → (textOf ((bodyR kind p t k i b).map Prod.fst)).length ≤ 130 * b.length
 | [], _, _, _ => Nat.le_refl _
 | x :: b, i, h, hI => by
  have h1 := body_size hp kind k ht b (i + 1) (by simp at h; omega) (fun y hy => hI y (List.mem_cons_of_mem _ hy))
  have hx := hI x (List.mem_cons_self ..)
  have h2 : (insS kind p k i x).length ≤ 84 := by
   have h3 : (joinW (insL (if kind = 0 then NWp p k x else none) x)).length ≤ 60 := by
    split
    ·exact insn_len hp k hx
    ·exact insn_none hx
   have h4 : (if kind = 2 then noteB i else []).length ≤ 24 := by
    split
    ·exact note_le (by simp at h; omega)
    ·simp
   unfold insS
   rw [List.length_append]
   omega
  have h5 : (textOf ((itemR kind p t k i x).map Prod.fst)).length ≤ 130 := by
   unfold itemR
   rw [List.map_append, textOf_append, List.length_append]
   have e : (textOf (List.map Prod.fst [(insS kind p k i x, (k : Int), (i : Int))])).length = (insS kind p k i x).length + 1 := by
    unfold textOf; simp
   rw [e]
   have e2 : ∀ z : List LR, z = (if kind = 0 then (match labA t i with | some s => [(s ++ [58], (-1 : Int), (-1 : Int))] | none => []) else []) → (textOf (List.map Prod.fst z)).length ≤ 34 := by
    intro z hz
    subst hz
    split
    ·cases hl : labA t i with
     | none => exact Nat.zero_le _
     | some s =>
      have := ht i s hl
      unfold textOf; simp
      omega
    ·exact Nat.zero_le _
   refine Nat.le_trans (Nat.add_le_add (e2 _ rfl) (Nat.add_le_add_right h2 1)) (by omega)
  rw [bodyR, List.map_append, textOf_append, List.length_append, List.length_cons, Nat.mul_add, Nat.mul_one]
  omega
theorem labA_le {t : List Nat} (h : t.length ≤ 512) {i : Nat} {s : Bs} (hs : labA t i = some s) : s.length ≤ 32 := by
 obtain ⟨n, hn, _, rfl⟩ := labA_some hs
 have := Lib.itoa_length_le ((n : Nat) : Int) (by omega) (by omega)
 unfold lbl
 simp
 omega
theorem funcs_size {p : I.Im} (hp : I.okI p = true) (kind : Nat) : ∀ (q : List F.Fu) (k : Nat), (∀ f ∈ q, F.okF f = true ∧ C.AllI f.bd) → (textOf ((funcsR kind p k q).map Prod.fst)).length ≤ 400 * q.length + 130 * (q.map fun f => f.bd.length).sum
 | [], _, _ => Nat.zero_le _
 | f :: q, k, h => by
  have h1 := funcs_size hp kind q (k + 1) (fun g hg => h g (List.mem_cons_of_mem _ hg))
  obtain ⟨h2, h3⟩ := h f (List.mem_cons_self ..)
  have h4 := (ok_body h2).2.2.1
  have h5 := body_size hp kind k (t := tgs f.bd) (fun i s hs => labA_le (Nat.le_trans (tgs_len f.bd) h4) hs) f.bd 0 (by omega) h3
  have h6 := head_le h2
  have e : (textOf ((funcR kind p k f).map Prod.fst)).length ≤ 400 + 130 * f.bd.length := by
   unfold funcR
   rw [List.map_append, textOf_append, List.length_append, List.map_map]
   have e2 : (headT f).map (Prod.fst ∘ plainR) = (headT f).map joinW := rfl
   rw [e2]
   omega
  rw [funcsR, List.map_append, textOf_append, List.length_append, List.length_cons, List.map_cons, List.sum_cons, Nat.mul_add, Nat.mul_add, Nat.mul_one]
  omega
theorem textR_140 {p : I.Im} (hp : ImOk p) (kind : Nat) (hc : (p.fn.map fun f => f.bd.length).sum ≤ 500) : (textR kind p).length ≤ 140000 := by
 have h1 := funcs_size hp.ok kind p.fn 0 (fun f hf => ⟨List.all_eq_true.1 ((I.okI_iff p).1 hp.ok).2.2 _ hf, hp.hI f hf⟩)
 have h2 := hp.nf
 have h3 := hp.ns
 have h4 : (textOf (p.sh.map fun s => joinW (shapeT s))).length ≤ 61 * p.sh.length := by
  have := textOf_le (M := 60) (p.sh.map fun s => joinW (shapeT s)) fun s hs => by
   obtain ⟨x, hx, rfl⟩ := List.mem_map.1 hs
   have hk := ((S.okS_iff x).1 (List.all_eq_true.1 ((I.okI_iff p).1 hp.ok).2.1 _ hx)).1.2
   have := txt_le_len x
   show (shapeW ++ 32 :: S.shS x).length ≤ 60
   unfold S.shS
   split <;> simp [shapeW] <;> omega
  rwa [List.length_map] at this
 unfold textR allR
 rw [List.map_append, textOf_append, List.length_append, List.map_map]
 have e2 : p.sh.map (Prod.fst ∘ fun s => plainR (shapeT s)) = p.sh.map fun s => joinW (shapeT s) := rfl
 rw [e2]
 have : 61 * p.sh.length ≤ 61 * 64 := Nat.mul_le_mul_left _ h3
 have : 400 * p.fn.length ≤ 400 * 64 := Nat.mul_le_mul_left _ h2
 have : 130 * (p.fn.map fun f => f.bd.length).sum ≤ 130 * 500 := Nat.mul_le_mul_left _ hc
 omega

end Go.Proofs.YtgnooffedmeenaaGreatDoor.M.L

namespace Go.Proofs.YtgnooffedmeenaaGreatDoor.M
open Go.RowKit

theorem last_split {α : Type} {l : List α} (h : l ≠ []) : ∃ i x, l = i ++ [x] := ⟨l.dropLast, l.getLast h, (List.dropLast_concat_getLast h).symm⟩
theorem upd_length {α : Type} (g : α → α) : ∀ l : List α, (upd g l).length = l.length
 | [] => rfl
 | [_] => rfl
 | x :: y :: r => by rw [upd, List.length_cons, upd_length g (y :: r), List.length_cons, List.length_cons, List.length_cons]
theorem upd_mem {α : Type} {g : α → α} {l : List α} {y : α} (h : y ∈ upd g l) : y ∈ l ∨ ∃ x ∈ l, y = g x := by
 by_cases h0 : l = []
 ·subst h0; cases h
 ·obtain ⟨i, x, rfl⟩ := last_split h0
  rw [upd_append] at h
  rcases List.mem_append.1 h with h | h
  ·exact .inl (List.mem_append_left _ h)
  ·exact .inr ⟨x, by simp, List.mem_singleton.1 h⟩
theorem upd_get {α : Type} {g : α → α} {l : List α} {i : Nat} {x : α} (h : l[i]? = some x) : (upd g l)[i]? = some x ∨ (upd g l)[i]? = some (g x) := by
 have h0 : l ≠ [] := by rintro rfl; cases h
 obtain ⟨j, y, rfl⟩ := last_split h0
 rw [upd_append]
 rcases Nat.lt_or_ge i j.length with hi | hi
 ·rw [List.getElem?_append_left hi] at h ⊢; exact .inl h
 ·rw [List.getElem?_append_right hi] at h ⊢
  cases hk : i - j.length with
  | zero => rw [hk] at h; right; cases h; rfl
  | succ k => rw [hk] at h; cases h

theorem pNamed_len {ws : List Bs} {op : Nat} {b : Bs} (h : pNamed ws = some (op, b)) : b.length ≤ 32 := by
 unfold pNamed at h
 split at h
 ·split at h
  ·rename_i hk
   split at h
   ·split at h
    ·injection h with h
     injection h with _ h
     subst h
     exact ((_root_.Go.Proofs.YtgnooffedmeenaaGreatDoor.F.okN_iff _).1 hk).1
    ·cases h
   ·cases h
  ·cases h
 ·cases h
structure GP (p : PS) (L : Nat) : Prop where
 ok : 1 ≤ p.last → p.im.fn ≠ []
 bd : ∀ f ∈ p.im.fn, f.bd.length ≤ L
 fn : p.im.fn.length ≤ L
 lf : p.labs.length = p.im.fn.length
 nu : ∀ s v, p.nums s = some v → v ≤ L
 la : ∀ l ∈ p.labs, ∀ s v, l.2 s = some v → v ≤ L
 ms : ∀ m ∈ p.ms, m.k ≠ 0 → ∃ f, p.im.fn[m.fn]? = some f ∧ m.pl < f.bd.length
 sz : ∀ m ∈ p.ms, m.s.length ≤ 32
theorem GP.start : GP ps0 0 where
 ok h := absurd h (by decide)
 bd f hf := (List.not_mem_nil hf).elim
 fn := Nat.le_refl _
 lf := rfl
 nu s v h := by cases h
 la l hl := (List.not_mem_nil hl).elim
 ms m hm := (List.not_mem_nil hm).elim
 sz m hm := (List.not_mem_nil hm).elim
theorem GP.more {p : PS} {L : Nat} (h : GP p L) : GP p (L + 1) :=
 { h with bd := fun f hf => Nat.le_succ_of_le (h.bd f hf), fn := Nat.le_succ_of_le h.fn, nu := fun s v hv => Nat.le_succ_of_le (h.nu s v hv), la := fun l hl s v hv => Nat.le_succ_of_le (h.la l hl s v hv) }
theorem GP.shape {p p' : PS} {L : Nat} {ws : List Bs} (h : GP p L) (hs : pShape p ws = some p') : GP p' (L + 1) := by
 unfold pShape at hs
 split at hs
 ·split at hs
  ·obtain ⟨x, _, rfl⟩ := Option.map_eq_some_iff.1 hs
   exact { h.more with ok := fun (h2 : 1 ≤ 0) => by omega }
  ·cases hs
 ·cases hs
theorem GP.func {p p' : PS} {L : Nat} {ws : List Bs} (h : GP p L) (hs : pFunc p ws = some p') : GP p' (L + 1) := by
 unfold pFunc at hs
 split at hs
 ·split at hs
  ·obtain ⟨x, _, rfl⟩ := Option.map_eq_some_iff.1 hs
   refine ⟨fun _ => by simp, fun f hf => ?_, by have := h.fn; simp; omega, by have := h.lf; simp; omega, fun s v hv => ?_, fun l hl s v hv => ?_, fun m hm hk => ?_, h.sz⟩
   ·rcases List.mem_append.1 hf with hf | hf
    ·have := h.bd f hf; omega
    ·rw [List.mem_singleton.1 hf]; exact Nat.zero_le _
   ·have hf := h.fn
    have hn := h.nu s v
    dsimp only [numsP] at hv
    split at hv
    ·have := hn hv; omega
    ·unfold setP at hv
     split at hv
     ·cases hv; omega
     ·have := hn hv; omega
   ·rcases List.mem_append.1 hl with hl | hl
    ·have := h.la l hl s v hv; omega
    ·rw [List.mem_singleton.1 hl] at hv; cases hv
   ·obtain ⟨f, h1, h2⟩ := h.ms m hm hk
    exact ⟨f, by
     rw [List.getElem?_append_left (List.getElem?_eq_some_iff.1 h1).1]; exact h1, h2⟩
  ·cases hs
 ·cases hs
theorem GP.updF {p : PS} {L : Nat} {g : F.Fu → F.Fu} {k : Nat} {nums : Pl} {ms : List Mn} (h : GP p L) (h0 : p.im.fn ≠ []) (hg : ∀ f, f.bd.length ≤ (g f).bd.length ∧ (g f).bd.length ≤ f.bd.length + 1)
  (hn : ∀ s v, nums s = some v → v ≤ L + 1) (hz : ∀ m ∈ ms, m.s.length ≤ 32) (hm : ∀ m ∈ ms, m ∈ p.ms ∨ (m.k ≠ 0 → ∃ f, (M.upd g p.im.fn)[m.fn]? = some f ∧ m.pl < f.bd.length)) : GP ⟨⟨p.im.sh, M.upd g p.im.fn⟩, k, nums, p.labs, ms⟩ (L + 1) := by
 refine ⟨fun _ => upd_ne h0, fun f hf => ?_, by have := h.fn; rw [upd_length]; omega, by rw [upd_length]; exact h.lf, hn, fun l hl s v hv => by have := h.la l hl s v hv; omega, fun m hm2 hk => ?_, hz⟩
 ·rcases upd_mem hf with hf | ⟨x, hx, rfl⟩
  ·have := h.bd f hf; omega
  ·have := h.bd x hx; have := (hg x).2; omega
 ·rcases hm m hm2 with h3 | h3
  ·obtain ⟨f, h1, h2⟩ := h.ms m h3 hk
   rcases upd_get (g := g) h1 with h4 | h4
   ·exact ⟨f, h4, h2⟩
   ·exact ⟨g f, h4, Nat.lt_of_lt_of_le h2 (hg f).1⟩
  ·exact h3 hk
theorem GP.local_ {p p' : PS} {L : Nat} {ws : List Bs} (h : GP p L) (hs : pLocal p ws = some p') : GP p' (L + 1) := by
 unfold pLocal at hs
 split at hs
 ·split at hs
  ·rename_i hc
   obtain ⟨x, _, rfl⟩ := Option.map_eq_some_iff.1 hs
   exact h.updF (h.ok (by omega)) (fun f => ⟨Nat.le_refl _, Nat.le_succ _⟩) (fun s v hv => by have := h.nu s v hv; omega) h.sz (fun m hm => .inl hm)
  ·cases hs
 ·cases hs
theorem GP.last {p : PS} {L : Nat} (h : GP p L) (h0 : p.im.fn ≠ []) : (lastFn p).bd.length ≤ L ∧ (∃ i x, p.im.fn = i ++ [x] ∧ lastFn p = x) := by
 obtain ⟨i, x, e⟩ := last_split h0
 have e2 : lastFn p = x := by unfold lastFn; rw [e]; simp
 exact ⟨by rw [e2]; exact h.bd x (by rw [e]; simp), i, x, e, e2⟩
theorem GP.label {p p' : PS} {L n : Nat} {ws : List Bs} (h : GP p L) (hs : pLabel p n ws = some p') : GP p' (L + 1) := by
 unfold pLabel at hs
 split at hs
 ·split at hs
  ·rename_i hc
   injection hs with hs
   subst hs
   have h0 := h.ok hc.1
   obtain ⟨hl, _⟩ := h.last h0
   have hla : ∀ a : Bs, ∀ l ∈ upd (fun l : List Bs × Pl => (l.1 ++ [a], setP l.2 a (lastFn p).bd.length)) p.labs, ∀ s v, l.2 s = some v → v ≤ L + 1 := fun a l hl2 s v hv => by
    rcases upd_mem hl2 with hl3 | ⟨x, hx, rfl⟩
    ·have := h.la l hl3 s v hv; omega
    ·dsimp only [setP] at hv
     split at hv
     ·cases hv; omega
     ·have := h.la x hx s v hv; omega
   unfold pDef
   split
   ·exact { h.more with ok := fun _ => h0, ms := fun m hm hk => (List.mem_append.1 hm).elim (fun hm => h.ms m hm hk) (fun hm => absurd (by rw [List.mem_singleton.1 hm]) hk), sz := fun m hm => (List.mem_append.1 hm).elim (h.sz m) (fun hm => by rw [List.mem_singleton.1 hm]; exact ((_root_.Go.Proofs.YtgnooffedmeenaaGreatDoor.F.okN_iff _).1 hc.2.2).1) }
   ·exact { h.more with ok := fun _ => h0, lf := (upd_length _ _).trans h.lf, la := hla _ }
  ·cases hs
 ·cases hs
theorem GP.instr {p p' : PS} {L n : Nat} {ws : List Bs} (h : GP p L) (hs : pInstr p n ws = some p') : GP p' (L + 1) := by
 unfold pInstr at hs
 split at hs
 ·rename_i hc
  have h0 := h.ok hc
  have hn := fun s v hv => Nat.le_succ_of_le (h.nu s v hv)
  split at hs
  ·injection hs with hs
   subst hs
   exact h.updF h0 (fun f => ⟨by simp, by simp⟩) hn h.sz (fun m hm => .inl hm)
  ·split at hs
   ·rename_i op b hpn
    injection hs with hs
    subst hs
    refine h.updF h0 (fun f => ⟨by simp, by simp⟩) hn (fun m hm => (List.mem_append.1 hm).elim (h.sz m) (fun hm => by rw [List.mem_singleton.1 hm]; exact pNamed_len hpn)) (fun m hm => ?_)
    rcases List.mem_append.1 hm with hm | hm
    ·exact .inl hm
    ·refine .inr fun _ => ?_
     rw [List.mem_singleton.1 hm]
     obtain ⟨_, i, x, e, e2⟩ := h.last h0
     rw [e2, e, upd_append]
     exact ⟨{ x with bd := x.bd ++ [((op : Int), 0, 0)] }, by simp, by simp⟩
   ·cases hs
 ·cases hs
theorem step_try {p p' : PS} {l : Ln} (h : pStep p l = some p') : ∃ k, k < 5 ∧ tryP k p l = some p' := by
 apply Classical.byContradiction
 intro hn
 have hall : ∀ k, k < 5 → ∀ x, tryP k p l = some x → x ≠ p' := fun k hk x hx e => hn ⟨k, hk, e ▸ hx⟩
 unfold pStep at h
 rcases Option.or_eq_some_iff.1 h with h | ⟨_, h⟩
 ·exact hall 0 (by omega) _ h rfl
 rcases Option.or_eq_some_iff.1 h with h | ⟨_, h⟩
 ·exact hall 1 (by omega) _ h rfl
 rcases Option.or_eq_some_iff.1 h with h | ⟨_, h⟩
 ·exact hall 2 (by omega) _ h rfl
 rcases Option.or_eq_some_iff.1 h with h | ⟨_, h⟩
 ·exact hall 3 (by omega) _ h rfl
 ·exact hall 4 (by omega) _ h rfl
theorem GP.step {p p' : PS} {L : Nat} {l : Ln} (h : GP p L) (hs : pStep p l = some p') : GP p' (L + 1) := by
 obtain ⟨k, hk, ht⟩ := step_try hs
 match k, hk with
 | 0, _ => exact h.shape ht
 | 1, _ => exact h.func ht
 | 2, _ => exact h.local_ ht
 | 3, _ => exact h.label ht
 | 4, _ => exact h.instr ht
theorem GP.run : ∀ (ls : List Ln) {p q : PS} {L : Nat}, GP p L → pRun p ls = .inl q → GP q (L + ls.length)
 | [], p, q, L, h, hr => by cases hr; exact h
 | l :: r, p, q, L, h, hr => by
  rw [pRun] at hr
  cases hs : pStep p l with
  | none => rw [hs] at hr; cases hr
  | some p' =>
   rw [hs] at hr
   have := GP.run r (h.step hs) hr
   rw [List.length_cons, show L + (r.length + 1) = L + 1 + r.length by omega]
   exact this

end Go.Proofs.YtgnooffedmeenaaGreatDoor.M

namespace Go.Proofs.YtgnooffedmeenaaGreatDoor.M
open Go.RowKit

structure Sim (st : St) (p : PS) : Prop where
 im : p.im = st.im
 last0 : p.last = 0 ↔ st.im.fn = []
 last1 : p.last = 1 ↔ ∃ f, st.im.fn.getLast? = some f ∧ f.lc = [] ∧ f.bd = [] ∧ hasL st.ns (st.im.fn.length - 1) = false
 nums : ∀ s, p.nums s = I.findI st.im.fn s
 lbl : p.labs.length = st.im.fn.length
 labs : ∀ i, i < st.im.fn.length → p.labs[i]? = some (firsts i [] st.ns, placeOf st.ns i)
 ms : p.ms = notes st.im.fn [] st.ns
 ns : ∀ x ∈ st.ns, x.fn < st.im.fn.length ∧ (x.lb = false → ∃ f y, st.im.fn[x.fn]? = some f ∧ f.bd[x.pl]? = some y)
 kd : ∀ x ∈ st.ns, x.lb = false → kindA (opAt st.im.fn x) ≠ 0
def OSim (a : Option St) (b : Option PS) : Prop := (a = none ∧ b = none) ∨ ∃ st p, a = some st ∧ b = some p ∧ Sim st p
theorem OSim.or {a a' : Option St} {b b' : Option PS} (h : OSim a b) (h' : OSim a' b') : OSim (a.or a') (b.or b') := by
 rcases h with ⟨rfl, rfl⟩ | ⟨st, p, rfl, rfl, h⟩
 ·rw [Option.none_or, Option.none_or]; exact h'
 ·exact .inr ⟨st, p, rfl, rfl, h⟩
theorem OSim.map {α : Type} {f : α → St} {g : α → PS} (h : ∀ x, Sim (f x) (g x)) (o : Option α) : OSim (o.map f) (o.map g) := by
 cases o with
 | none => exact .inl ⟨rfl, rfl⟩
 | some x => exact .inr ⟨_, _, rfl, rfl, h x⟩
theorem Sim.start : Sim st0 ps0 where
 im := rfl
 last0 := ⟨fun _ => rfl, fun _ => rfl⟩
 last1 := ⟨fun h => absurd h (by decide), fun h => by obtain ⟨f, h, _⟩ := h; cases h⟩
 nums := fun _ => rfl
 lbl := rfl
 labs := fun i h => absurd h (Nat.not_lt_zero _)
 ms := rfl
 ns := fun x h => (List.not_mem_nil h).elim
 kd := fun x h => (List.not_mem_nil h).elim

/-! ### Names that stand in other functions -/

theorem firsts_none {fn : Nat} : ∀ (ns pre : List Nm), (∀ x ∈ ns, x.fn ≠ fn) → firsts fn pre ns = []
 | [], _, _ => rfl
 | x :: r, pre, h => by
  rw [firsts, if_neg (fun h2 => h x (by simp) h2.2.1)]
  exact firsts_none r _ (fun y hy => h y (List.mem_cons_of_mem _ hy))
theorem placeOf_none {ns : List Nm} {fn : Nat} (h : ∀ x ∈ ns, x.fn ≠ fn) (s : Bs) : placeOf ns fn s = none := by
 unfold placeOf
 rw [List.find?_eq_none.2]
 ·rfl
 ·intro x hx
  simp [h x hx]
theorem hasL_none {ns : List Nm} {fn : Nat} (h : ∀ x ∈ ns, x.fn ≠ fn) : hasL ns fn = false := by
 unfold hasL
 rw [List.any_eq_false]
 intro x hx
 simp [h x hx]
theorem getLast_upd {α : Type} (g : α → α) (l : List α) : (upd g l).getLast? = l.getLast?.map g := by
 by_cases h : l = []
 ·subst h; rfl
 ·obtain ⟨i, x, rfl⟩ := last_split h
  rw [upd_append]; simp
theorem findI_upd {g : F.Fu → F.Fu} (hg : ∀ f, (g f).nm = f.nm) (l : List F.Fu) (s : Bs) : I.findI (upd g l) s = I.findI l s := by
 by_cases h : l = []
 ·subst h; rfl
 ·obtain ⟨i, x, rfl⟩ := last_split h
  rw [upd_append]
  unfold I.findI
  rw [List.findIdx?_append, List.findIdx?_append]
  simp [List.findIdx?_cons, hg]
theorem opAt_upd {g : F.Fu → F.Fu} (hg : ∀ f, ∃ t, (g f).bd = f.bd ++ t) {l : List F.Fu} {x : Nm} (h : ∃ f y, l[x.fn]? = some f ∧ f.bd[x.pl]? = some y) : opAt (upd g l) x = opAt l x ∧ ∃ f y, (upd g l)[x.fn]? = some f ∧ f.bd[x.pl]? = some y := by
 obtain ⟨f, y, h1, h2⟩ := h
 have h3 : opAt l x = y.1 := by unfold opAt; rw [h1]; simp [h2]
 rcases upd_get (g := g) h1 with h4 | h4
 ·exact ⟨by rw [h3]; unfold opAt; rw [h4]; simp [h2], f, y, h4, h2⟩
 ·obtain ⟨t, ht⟩ := hg f
  have h5 : (g f).bd[x.pl]? = some y := by
   rw [ht, List.getElem?_append_left (List.getElem?_eq_some_iff.1 h2).1]; exact h2
  exact ⟨by rw [h3]; unfold opAt; rw [h4]; simp [h5], g f, y, h4, h5⟩
theorem Sim.updF {st : St} {p : PS} (h : Sim st p) (h0 : st.im.fn ≠ []) {g : F.Fu → F.Fu} (hn : ∀ f, (g f).nm = f.nm) (hb : ∀ f, ∃ t, (g f).bd = f.bd ++ t) {k : Nat} (hk : 2 ≤ k) (hd : ∀ f, (g f).lc ≠ [] ∨ (g f).bd ≠ []) :
  Sim ⟨⟨st.im.sh, M.upd g st.im.fn⟩, st.ns⟩ ⟨⟨p.im.sh, M.upd g p.im.fn⟩, k, p.nums, p.labs, p.ms⟩ := by
 refine ⟨by rw [h.im], ⟨fun h2 => by have h2 : k = 0 := h2; omega, fun h2 => absurd h2 (upd_ne h0)⟩, ⟨fun h2 => by have h2 : k = 1 := h2; omega, fun ⟨f, h2, h3, h4, _⟩ => ?_⟩, fun s => by rw [findI_upd hn]; exact h.nums s, by dsimp only; rw [upd_length]; exact h.lbl, fun i hi => by dsimp only at hi; rw [upd_length] at hi; exact h.labs i hi, ?_, fun x hx => ?_, fun x hx hl => by dsimp only; rw [(opAt_upd hb ((h.ns x hx).2 hl)).1]; exact h.kd x hx hl⟩
 ·dsimp only at h2
  rw [getLast_upd] at h2
  obtain ⟨y, _, rfl⟩ := Option.map_eq_some_iff.1 h2
  rcases hd y with h5 | h5
  ·exact absurd h3 h5
  ·exact absurd h4 h5
 ·dsimp only
  rw [h.ms]
  exact (notes_same _ _ (fun x hx hl => (opAt_upd hb ((h.ns x hx).2 hl)).1)).symm
 ·dsimp only
  rw [upd_length]
  exact ⟨(h.ns x hx).1, fun hl => (opAt_upd hb ((h.ns x hx).2 hl)).2⟩

/-! ### Each kind of line -/

theorem sim_shape {st : St} {p : PS} (h : Sim st p) (n : Nat) (ws : List Bs) : OSim (stShape st (n, ws)) (pShape p ws) := by
 rcases ws with _ | ⟨a, _ | ⟨b, _ | ⟨c, r⟩⟩⟩
 ·exact .inl ⟨rfl, rfl⟩
 ·exact .inl ⟨rfl, rfl⟩
 ·unfold stShape pShape
  dsimp only
  by_cases hc : a = shapeW ∧ st.im.fn = []
  ·rw [if_pos hc, if_pos ⟨h.last0.2 hc.2, hc.1⟩]
   refine OSim.map (fun x => ?_) _
   exact { im := by rw [h.im], last0 := ⟨fun _ => hc.2, fun _ => rfl⟩, last1 := ⟨fun h2 => absurd h2 (by simp), fun h2 => by
     obtain ⟨f, h2, _⟩ := h2
     dsimp only at h2
     rw [hc.2] at h2; cases h2⟩, nums := h.nums, lbl := h.lbl, labs := h.labs, ms := h.ms, ns := h.ns, kd := h.kd }
  ·rw [if_neg hc, if_neg (fun h2 => hc ⟨h2.2, h.last0.1 h2.1⟩)]
   exact .inl ⟨rfl, rfl⟩
 ·exact .inl ⟨rfl, rfl⟩
theorem findI_snoc (l : List F.Fu) (f : F.Fu) (s : Bs) : I.findI (l ++ [f]) s = (I.findI l s).or (if f.nm = s then some l.length else none) := by
 unfold I.findI
 rw [List.findIdx?_append]
 congr 1
 rw [List.findIdx?_singleton]
 by_cases e : f.nm = s <;> simp [e]
theorem sim_func {st : St} {p : PS} (h : Sim st p) (n : Nat) (ws : List Bs) : OSim (stFunc st (n, ws)) (pFunc p ws) := by
 rcases ws with _ | ⟨a, _ | ⟨b, _ | ⟨c, _ | ⟨d, r⟩⟩⟩⟩
 ·exact .inl ⟨rfl, rfl⟩
 ·exact .inl ⟨rfl, rfl⟩
 ·exact .inl ⟨rfl, rfl⟩
 ·unfold stFunc pFunc
  dsimp only
  by_cases hc : a = funcW ∧ F.okN b = true
  ·rw [if_pos hc, if_pos hc]
   refine OSim.map (fun x => ?_) _
   have hlt : ∀ y ∈ st.ns, y.fn ≠ st.im.fn.length := fun y hy e => by have := (h.ns y hy).1; omega
   have hkd : ∀ y ∈ st.ns, y.lb = false → kindA (opAt (st.im.fn ++ [⟨b, x.1, x.2, [], []⟩]) y) ≠ 0 := fun y hy hl => by
    have h2 := h.kd y hy hl
    unfold opAt at h2 ⊢
    rw [List.getElem?_append_left (h.ns y hy).1]; exact h2
   refine { im := by rw [h.im], last0 := ⟨fun h2 => absurd h2 (by simp), fun h2 => absurd h2 (by simp)⟩, last1 := ⟨fun _ => ⟨⟨b, x.1, x.2, [], []⟩, by simp, rfl, rfl, ?_⟩, fun _ => rfl⟩, nums := fun s => ?_, lbl := by have := h.lbl; simp; omega, labs := fun i hi => ?_, ms := ?_, ns := fun y hy => ?_, kd := hkd }
   ·dsimp only
    rw [List.length_append, List.length_singleton, Nat.add_sub_cancel]
    exact hasL_none hlt
   ·dsimp only
    rw [findI_snoc, ← h.nums, h.im.symm]
    unfold numsP
    by_cases hb : (p.nums b).isSome
    ·rw [if_pos hb]
     by_cases e : b = s
     ·subst e
      obtain ⟨v, hv⟩ := Option.isSome_iff_exists.1 hb
      rw [hv]; rfl
     ·dsimp only
      rw [if_neg e, Option.or_none]
    ·rw [if_neg hb]
     unfold setP
     by_cases e : s = b
     ·subst e
      have hv : p.nums s = none := by simpa using hb
      rw [if_pos rfl, hv]
      simp
     ·dsimp only
      rw [if_neg e, if_neg (fun e2 => e e2.symm), Option.or_none]
   ·dsimp only at hi ⊢
    rw [List.length_append, List.length_singleton] at hi
    by_cases e : i = st.im.fn.length
    ·subst e
     rw [List.getElem?_append_right (by rw [h.lbl]; exact Nat.le_refl _), h.lbl, Nat.sub_self, firsts_none _ _ hlt]
     show some lb0 = _
     unfold lb0
     congr 2
     funext s
     exact (placeOf_none hlt s).symm
    ·rw [List.getElem?_append_left (by rw [h.lbl]; omega)]
     exact h.labs i (by omega)
   ·dsimp only
    rw [h.ms]
    refine (notes_same _ _ (fun y hy _ => ?_)).symm
    unfold opAt
    rw [List.getElem?_append_left (h.ns y hy).1]
   ·dsimp only
    rw [List.length_append, List.length_singleton]
    refine ⟨by have := (h.ns y hy).1; omega, fun hl => ?_⟩
    obtain ⟨f, z, h1, h2⟩ := (h.ns y hy).2 hl
    exact ⟨f, z, by rw [List.getElem?_append_left (h.ns y hy).1]; exact h1, h2⟩
  ·rw [if_neg hc, if_neg hc]
   exact .inl ⟨rfl, rfl⟩
 ·exact .inl ⟨rfl, rfl⟩
theorem sim_local {st : St} {p : PS} (h : Sim st p) (n : Nat) (ws : List Bs) (hw : ∀ w ∈ ws, w ≠ []) : OSim (stLocal st (n, ws)) (pLocal p ws) := by
 rcases ws with _ | ⟨a, _ | ⟨b, _ | ⟨c, r⟩⟩⟩
 ·exact .inl ⟨rfl, rfl⟩
 ·exact .inl ⟨rfl, rfl⟩
 ·unfold stLocal pLocal
  dsimp only
  cases hf : st.im.fn.getLast? with
  | none =>
   refine .inl ⟨rfl, if_neg (fun h2 => ?_)⟩
   obtain ⟨f', h3, h4⟩ := h.last1.1 h2.1
   rw [hf] at h3; cases h3
  | some f =>
   dsimp only
   by_cases hc : a = localW ∧ f.lc = [] ∧ f.bd = [] ∧ hasL st.ns (st.im.fn.length - 1) = false
   ·rw [if_pos hc, if_pos ⟨h.last1.2 ⟨f, hf, hc.2⟩, hc.1⟩]
    have h0 : st.im.fn ≠ [] := fun e => by rw [e] at hf; cases hf
    cases hu : W.untxt b with
    | none => exact .inl ⟨rfl, rfl⟩
    | some t =>
     have ht : t ≠ [] := fun e => by
      have h1 := untxt_len hu
      rw [e] at h1
      exact hw b (by simp) (List.length_eq_zero_iff.1 h1.symm)
     exact .inr ⟨_, _, rfl, rfl, h.updF h0 (g := fun f => { f with lc := t }) (fun _ => rfl) (fun f => ⟨[], by simp⟩) (Nat.le_refl _) (fun _ => .inl ht)⟩
   ·rw [if_neg hc, if_neg (fun h2 => hc ⟨h2.2, by
     obtain ⟨f', h3, h4⟩ := h.last1.1 h2.1
     rw [hf] at h3
     cases h3
     exact h4⟩)]
    exact .inl ⟨rfl, rfl⟩
 ·exact .inl ⟨rfl, rfl⟩

theorem upd_at {α : Type} (g : α → α) {l : List α} (h : l ≠ []) (i : Nat) : (upd g l)[i]? = if i = l.length - 1 then l[i]?.map g else l[i]? := by
 obtain ⟨j, x, rfl⟩ := last_split h
 rw [upd_append, List.length_append, List.length_singleton, Nat.add_sub_cancel]
 by_cases e : i = j.length
 ·subst e; simp
 ·rw [if_neg e]
  rcases Nat.lt_or_ge i j.length with hi | hi
  ·rw [List.getElem?_append_left hi, List.getElem?_append_left hi]
  ·rw [List.getElem?_eq_none (by simp; omega), List.getElem?_eq_none (by simp; omega)]
theorem last_at {α : Type} {l : List α} {x : α} (h : l.getLast? = some x) : l ≠ [] ∧ l[l.length - 1]? = some x := by
 have h0 : l ≠ [] := fun e => by rw [e] at h; cases h
 refine ⟨h0, ?_⟩
 rw [List.getLast?_eq_getElem?] at h
 exact h
theorem Sim.lasts {st : St} {p : PS} (h : Sim st p) {f : F.Fu} (hf : st.im.fn.getLast? = some f) : lastFn p = f ∧ lastLb p = (firsts (st.im.fn.length - 1) [] st.ns, placeOf st.ns (st.im.fn.length - 1)) ∧ 1 ≤ p.last ∧ st.im.fn ≠ [] ∧ st.im.fn.length - 1 < st.im.fn.length := by
 have h0 := (last_at hf).1
 have hl : 0 < st.im.fn.length := List.length_pos_iff.2 h0
 refine ⟨by unfold lastFn; rw [h.im, hf]; rfl, ?_, ?_, h0, by omega⟩
 ·unfold lastLb
  rw [List.getLast?_eq_getElem?, h.lbl, h.labs _ (by omega)]; rfl
 ·rcases Nat.eq_zero_or_pos p.last with e | e
  ·exact absurd (h.last0.1 e) h0
  ·exact e
theorem sim_label {st : St} {p : PS} (h : Sim st p) (n : Nat) (ws : List Bs) : OSim (stLabel st (n, ws)) (pLabel p n ws) := by
 rcases ws with _ | ⟨a, _ | ⟨b, r⟩⟩
 ·exact .inl ⟨rfl, rfl⟩
 ·unfold stLabel pLabel
  dsimp only
  cases hf : st.im.fn.getLast? with
  | none =>
   have h0 : st.im.fn = [] := List.getLast?_eq_none_iff.1 hf
   refine .inl ⟨rfl, if_neg (fun h2 => ?_)⟩
   have := h.last0.2 h0
   omega
  | some f =>
   dsimp only
   obtain ⟨l1, l2, l3, h0, hkl⟩ := h.lasts hf
   by_cases hc : a.getLast? = some 58 ∧ F.okN a.dropLast = true
   ·rw [if_pos hc, if_pos ⟨l3, hc⟩]
    refine .inr ⟨_, _, rfl, rfl, ?_⟩
    generalize a.dropLast = s
    obtain ⟨k, hk⟩ : ∃ k, st.im.fn.length - 1 = k := ⟨_, rfl⟩
    rw [hk] at l2 hkl ⊢
    have hag : ∀ ln pl, again st.ns ⟨ln, k, pl, s, true⟩ = (placeOf st.ns k s).isSome := fun ln pl => again_place
    have hl1 : ∀ pl, ¬ (hasL (st.ns ++ [⟨n, k, pl, s, true⟩]) (st.im.fn.length - 1) = false) := fun pl h2 => by
     unfold hasL at h2
     rw [List.any_append, hk] at h2
     simp at h2
    have hns : ∀ pl, ∀ x ∈ st.ns ++ [(⟨n, k, pl, s, true⟩ : Nm)], x.fn < st.im.fn.length ∧ (x.lb = false → ∃ f y, st.im.fn[x.fn]? = some f ∧ f.bd[x.pl]? = some y) := fun pl x hx => by
     rcases List.mem_append.1 hx with hx | hx
     ·exact h.ns x hx
     ·rw [List.mem_singleton.1 hx]
      exact ⟨hkl, fun e => by cases e⟩
    have hkd : ∀ pl, ∀ x ∈ st.ns ++ [(⟨n, k, pl, s, true⟩ : Nm)], x.lb = false → kindA (opAt st.im.fn x) ≠ 0 := fun pl x hx hl => by
     rcases List.mem_append.1 hx with hx | hx
     ·exact h.kd x hx hl
     ·rw [List.mem_singleton.1 hx] at hl; cases hl
    unfold pDef
    rw [l1, l2]
    dsimp only
    by_cases ha : (placeOf st.ns k s).isSome = true
    ·rw [if_pos ha]
     refine { im := h.im, last0 := ⟨fun h2 => absurd h2 (show (3 : Nat) ≠ 0 by decide), fun h2 => absurd h2 h0⟩, last1 := ⟨fun h2 => absurd h2 (show (3 : Nat) ≠ 1 by decide), fun h2 => ?_⟩, nums := h.nums, lbl := h.lbl, labs := fun i hi => ?_, ms := ?_, ns := hns _, kd := hkd _ }
     ·obtain ⟨f', _, _, _, h4⟩ := h2
      exact absurd h4 (hl1 _)
     ·dsimp only [PS.to]
      rw [h.labs i hi, firsts_append, if_neg (fun h2 => by rw [List.nil_append, hag, ha] at h2; cases h2.2.2), List.append_nil]
      congr 2
      funext s'
      rw [placeOf_append]
      split
      ·rfl
      ·rename_i hn
       rw [if_neg (fun h2 => by
        obtain ⟨_, e1, e2⟩ := h2
        dsimp only at e1 e2
        subst e1 e2
        exact hn ha)]
       simpa using hn
     ·dsimp only [PS.to]
      rw [notes_append, if_pos rfl, List.nil_append, hag, if_pos ha, h.ms]
    ·rw [if_neg ha]
     have hl0 : p.labs ≠ [] := fun e => by have := h.lbl; rw [e] at this; simp at this; exact h0 (List.length_eq_zero_iff.1 this.symm)
     have ha2 : (placeOf st.ns k s).isSome = false := by simpa using ha
     refine { im := h.im, last0 := ⟨fun h2 => absurd h2 (show (3 : Nat) ≠ 0 by decide), fun h2 => absurd h2 h0⟩, last1 := ⟨fun h2 => absurd h2 (show (3 : Nat) ≠ 1 by decide), fun h2 => ?_⟩, nums := h.nums, lbl := by dsimp only [PS.to]; rw [upd_length]; exact h.lbl, labs := fun i hi => ?_, ms := ?_, ns := hns _, kd := hkd _ }
     ·obtain ⟨f', _, _, _, h4⟩ := h2
      exact absurd h4 (hl1 _)
     ·dsimp only [PS.to]
      rw [upd_at _ hl0, h.lbl, hk, h.labs i hi, firsts_append]
      by_cases e : i = k
      ·subst e
       rw [if_pos rfl, if_pos ⟨rfl, rfl, by rw [List.nil_append, hag, ha2]⟩]
       simp only [Option.map_some]
       congr 2
       funext s'
       rw [placeOf_append]
       unfold setP
       dsimp only
       by_cases e2 : s' = s
       ·subst e2
        rw [if_pos rfl, ha2]
        simp
       ·rw [if_neg e2]
        split
        ·rfl
        ·rename_i hn
         rw [if_neg (fun h2 => e2 h2.2.2.symm)]
         simpa using hn
      ·rw [if_neg e, if_neg (fun h2 => e h2.2.1.symm), List.append_nil]
       congr 2
       funext s'
       rw [placeOf_append]
       split
       ·rfl
       ·rename_i hn
        rw [if_neg (fun h2 => e h2.2.1.symm)]
        simpa using hn
     ·dsimp only [PS.to]
      rw [notes_append, if_pos rfl, List.nil_append, hag, ha2, if_neg (by decide), List.append_nil, h.ms]
   ·rw [if_neg hc, if_neg (fun h2 => hc h2.2)]
    exact .inl ⟨rfl, rfl⟩
 ·exact .inl ⟨rfl, rfl⟩

theorem Sim.note {st : St} {p : PS} (h : Sim st p) (x : Nm) (hx : x.lb = false) (hx3 : kindA (opAt st.im.fn x) ≠ 0) (hx2 : x.fn < st.im.fn.length ∧ ∃ f y, st.im.fn[x.fn]? = some f ∧ f.bd[x.pl]? = some y) :
  Sim ⟨st.im, st.ns ++ [x]⟩ ⟨p.im, p.last, p.nums, p.labs, p.ms ++ [⟨x.ln, x.fn, x.pl, x.s, kindA (opAt st.im.fn x)⟩]⟩ := by
 have hh : ∀ fn, hasL (st.ns ++ [x]) fn = hasL st.ns fn := fun fn => by
  unfold hasL
  rw [List.any_append]
  simp [hx]
 have hb : ¬ (x.lb = true) := by rw [hx]; decide
 refine { im := h.im, last0 := h.last0, last1 := by dsimp only; rw [hh]; exact h.last1, nums := h.nums, lbl := h.lbl, labs := fun i hi => ?_, ms := ?_, ns := fun y hy => ?_, kd := fun y hy hl => (List.mem_append.1 hy).elim (fun hy => h.kd y hy hl) (fun hy => by rw [List.mem_singleton.1 hy]; exact hx3) }
 ·dsimp only
  rw [h.labs i hi, firsts_append, if_neg (fun h2 => hb h2.1), List.append_nil]
  congr 2
  funext s'
  rw [placeOf_append]
  split
  ·rfl
  ·rename_i hn
   rw [if_neg (fun h2 => hb h2.1)]
   simpa using hn
 ·dsimp only
  rw [notes_append, if_neg hb, h.ms]
 ·rcases List.mem_append.1 hy with hy | hy
  ·exact h.ns y hy
  ·rw [List.mem_singleton.1 hy]
   exact ⟨hx2.1, fun _ => hx2.2⟩
theorem sim_instr {st : St} {p : PS} (h : Sim st p) (n : Nat) (ws : List Bs) : OSim (stInstr st (n, ws)) (pInstr p n ws) := by
 unfold stInstr pInstr
 cases hf : st.im.fn.getLast? with
 | none =>
  have h0 : st.im.fn = [] := List.getLast?_eq_none_iff.1 hf
  refine .inl ⟨rfl, if_neg (fun h2 => ?_)⟩
  have := h.last0.2 h0
  omega
 | some f =>
  obtain ⟨l1, l2, l3, h0, hkl⟩ := h.lasts hf
  rw [if_pos l3]
  dsimp only
  have hU := fun x : C.I3 => h.updF h0 (g := fun f => { f with bd := f.bd ++ [x] }) (fun _ => rfl) (fun f => ⟨[x], rfl⟩) (k := 4) (by decide) (fun _ => .inr (by simp))
  cases hr : rdA (joinW ws) with
  | some x => exact .inr ⟨_, _, rfl, rfl, hU x⟩
  | none =>
   dsimp only
   rcases ws with _ | ⟨a, _ | ⟨b, _ | ⟨c, r⟩⟩⟩
   ·exact .inl ⟨rfl, rfl⟩
   ·exact .inl ⟨rfl, rfl⟩
   ·unfold stName pNamed
    dsimp only
    cases ho : ofA a with
    | none =>
     dsimp only
     refine .inl ⟨rfl, ?_⟩
     by_cases hb : F.okN b = true
     ·rw [if_pos hb]
     ·rw [if_neg hb]
    | some op =>
     dsimp only
     by_cases hc : kindA (op : Int) ≠ 0 ∧ F.okN b = true
     ·rw [if_pos hc, if_pos hc.2, if_pos hc.1]
      refine .inr ⟨_, _, rfl, rfl, ?_⟩
      have hg : (M.upd (fun f : F.Fu => { f with bd := f.bd ++ [((op : Int), 0, 0)] }) st.im.fn)[st.im.fn.length - 1]? = some { f with bd := f.bd ++ [((op : Int), 0, 0)] } := by
       rw [upd_at _ h0, if_pos rfl, (last_at hf).2]; rfl
      have hop : opAt (M.upd (fun f : F.Fu => { f with bd := f.bd ++ [((op : Int), 0, 0)] }) st.im.fn) ⟨n, st.im.fn.length - 1, f.bd.length, b, false⟩ = (op : Int) := by
       unfold opAt
       dsimp only
       rw [hg]
       simp
      have hN := (hU ((op : Int), 0, 0)).note ⟨n, st.im.fn.length - 1, f.bd.length, b, false⟩ rfl (by dsimp only; rw [hop]; exact hc.1) ⟨by dsimp only; rw [upd_length]; exact hkl, _, ((op : Int), 0, 0), hg, by simp⟩
      dsimp only at hN
      rw [hop] at hN
      unfold addX
      rw [l1, h.im]
      rw [h.im] at hN
      exact hN
     ·rw [if_neg hc]
      refine .inl ⟨rfl, ?_⟩
      by_cases hb : F.okN b = true
      ·rw [if_pos hb, if_neg (fun h2 => hc ⟨h2, hb⟩)]
      ·rw [if_neg hb]
   ·exact .inl ⟨rfl, rfl⟩
theorem sim_step {st : St} {p : PS} (h : Sim st p) (l : Ln) (hw : ∀ w ∈ l.2, w ≠ []) : OSim (step st l) (pStep p l) :=
 (sim_shape h l.1 l.2).or ((sim_func h l.1 l.2).or ((sim_local h l.1 l.2 hw).or ((sim_label h l.1 l.2).or (sim_instr h l.1 l.2))))
theorem sim_run : ∀ (ls : List Ln) {st : St} {p : PS}, Sim st p → (∀ l ∈ ls, ∀ w ∈ l.2, w ≠ []) → (∃ n, runL st ls = .inr n ∧ pRun p ls = .inr n) ∨ (∃ st' p', runL st ls = .inl st' ∧ pRun p ls = .inl p' ∧ Sim st' p')
 | [], st, p, h, _ => .inr ⟨st, p, rfl, rfl, h⟩
 | l :: r, st, p, h, hw => by
  rw [runL, pRun]
  rcases sim_step h l (hw l (by simp)) with ⟨e1, e2⟩ | ⟨st', p', e1, e2, h2⟩
  ·rw [e1, e2]; exact .inl ⟨_, rfl, rfl⟩
  ·rw [e1, e2]
   exact sim_run r h2 (fun l hl => hw l (List.mem_cons_of_mem _ hl))

end Go.Proofs.YtgnooffedmeenaaGreatDoor.M

namespace Go.Proofs.YtgnooffedmeenaaGreatDoor.M
open Go.RowKit W

theorem iis_put (x : Int) : ∀ (l : List C.I3) (j : Nat), j < l.length → C.iis (l.modify j (putB x)) = (C.iis l).set (j * 3 + 1) (.int .i64 x)
 | y :: l, 0, _ => rfl
 | y :: l, j + 1, h => by
  have ih := iis_put x l j (by simpa using h)
  rw [List.modify_succ_cons]
  unfold C.iis at ih ⊢
  rw [List.flatMap_cons, List.flatMap_cons, ih, show (j + 1) * 3 + 1 = (j * 3 + 1) + 1 + 1 + 1 by omega]
  rfl
theorem allI_put {x : Int} (hx : O.I64 x) {l : List C.I3} (h : C.AllI l) (j : Nat) : C.AllI (l.modify j (putB x)) := by
 intro y hy
 obtain ⟨k, hk, rfl⟩ := List.getElem_of_mem hy
 rw [List.getElem_modify]
 have hk2 : k < l.length := by simpa using hk
 have h2 := h l[k] (List.getElem_mem hk2)
 split
 ·exact ⟨hx, h2.2⟩
 ·exact h2
def putF (j : Nat) (x : Int) (f : F.Fu) : F.Fu := { f with bd := f.bd.modify j (putB x) }
def putE (j : Nat) (x : Int) (e : I.FE) : I.FE := (e.1, putF j x e.2)
theorem putE_fst (fs : List I.FE) (i j : Nat) (x : Int) : (fs.modify i (putE j x)).map (·.1) = fs.map (·.1) := by
 apply List.ext_getElem?
 intro k
 rw [List.getElem?_map, List.getElem?_map, List.getElem?_modify]
 cases fs[k]? with
 | none => rfl
 | some e => simp only [Option.map_some]; split <;> rfl
theorem putE_snd (fs : List I.FE) (i j : Nat) (x : Int) : (fs.modify i (putE j x)).map (·.2) = (fs.map (·.2)).modify i (putF j x) := by
 apply List.ext_getElem?
 intro k
 rw [List.getElem?_map, List.getElem?_modify, List.getElem?_modify, List.getElem?_map]
 cases fs[k]? with
 | none => rfl
 | some e => simp only [Option.map_some]; split <;> rfl
theorem putE_fvs (fs : List I.FE) (i j : Nat) (x : Int) : I.fvs (fs.modify i (putE j x)) = I.fvs fs := by
 have key : ∀ l : List I.FE, I.fvs l = (l.map (·.1)).flatMap (fun e => e.cells.toList) := fun l => by unfold I.fvs; rw [List.flatMap_map]
 rw [key, key, putE_fst]

theorem rdr_put {B : Nat} {W : World} {T : Nat → Tg} {rb : Nat} {v : RV} {es : List I.SE} {fs : List I.FE} {ls : List LE} {R : Tg → Row} {F : Tg → Option Mp} {p : PS} {N : Nat}
  (h : Rdr B W T rb v es fs ls R F p N) (hB : B ≤ W.heap.size) (i : Nat) (hi : i < fs.length) (j : Nat) (hj : j < fs[i].2.bd.length) (x : Nat) (hx : x ≤ 300000) :
  ∃ d, fs[i].1.D = some ⟨d, 0, none⟩ ∧ T d = .bd i ∧ (∀ k, W.frozen? ⟨d, k, none⟩ = false) ∧ (∃ u, W.cell? ⟨d, j * 3 + 1, none⟩ = some u) ∧ fs[i].1.nd = fs[i].2.bd.length ∧ Rnd (BS T) (BS T) W (W.setCell ⟨d, j * 3 + 1, none⟩ (.int .i64 (x : Int))) ∧
   ∃ fs' R', Rdr B (W.setCell ⟨d, j * 3 + 1, none⟩ (.int .i64 (x : Int))) T rb v es fs' ls R' F ⟨⟨p.im.sh, p.im.fn.modify i (putF j (x : Int))⟩, p.last, p.nums, p.labs, p.ms⟩ N := by
 have s1 : sole (.bd i) := ⟨rfl, by intro t e; cases t <;> first | exact e | cases e⟩
 have o1 : okT (.bd i) := ⟨Tg.noConfusion, Tg.noConfusion⟩
 have hrow := h.pa.row (.bd i) o1
 rw [h.rbd i hi] at hrow
 have hlen : (C.iis fs[i].2.bd).length = fs[i].1.nd * 3 := hrow.1.1
 rw [C.iis_length] at hlen
 obtain ⟨A, c, e, _, _, hr, ho⟩ := Own.form hrow
 injection e with e1 e2 e3
 have hpos : 0 < (C.iis fs[i].2.bd).length := by rw [C.iis_length]; omega
 obtain ⟨d, off, rfl, hcs⟩ := hr hpos
 obtain ⟨h1, h2⟩ := ho _ rfl
 injection h2 with _ h3
 subst h3
 have h1 : T d = .bd i := h1
 refine ⟨d, e1, h1, ?_, ?_, by omega, ?_⟩
 ·intro k
  rcases hrow.1.2 with ⟨e4, _⟩ | ⟨g, cap, cur, e4, _, hh, _⟩
  ·rw [e1] at e4; cases e4
  ·rw [e1] at e4
   injection e4 with e4
   injection e4 with e4
   injection e4 with e4
   subst e4
   unfold World.frozen?
   rw [hh]; rfl
 ·have hl : j * 3 + 1 < (C.iis fs[i].2.bd).length := by rw [C.iis_length]; omega
  have := hcs (j * 3 + 1) _ (List.getElem?_eq_getElem hl)
  rw [Nat.zero_add] at this
  exact ⟨_, this⟩
 have hR : R (.bd i) = ⟨55, 3, .slice (some ⟨d, 0, none⟩) fs[i].1.nd fs[i].1.cd, fs[i].1.nd, C.iis fs[i].2.bd⟩ := by rw [h.rbd i hi, e1]
 obtain ⟨q, r, _⟩ := h.pa.put hB o1 s1 (h.fno _ (fun i => Tg.noConfusion) Tg.noConfusion) hR (j * 3 + 1) (.int .i64 (x : Int))
 have hne : rb ≠ d := by rintro rfl; rw [h.tb] at h1; cases h1
 have hI : O.I64 (x : Int) := by unfold O.I64; omega
 have hg : ∀ (k : Nat) (hk : k < (fs.modify i (putE j (x : Int))).length), ∃ hk2 : k < fs.length, (k = i ∧ (fs.modify i (putE j (x : Int)))[k] = putE j (x : Int) fs[k]) ∨ (k ≠ i ∧ (fs.modify i (putE j (x : Int)))[k] = fs[k]) := fun k hk => by
  refine ⟨by simpa using hk, ?_⟩
  rw [List.getElem_modify]
  by_cases e : i = k
  ·exact .inl ⟨e.symm, if_pos e⟩
  ·exact .inr ⟨fun e2 => e e2.symm, if_neg e⟩
 refine ⟨r, fs.modify i (putE j (x : Int)), _, { h with pa := q, bk := h.bk.far (p := ⟨d, j * 3 + 1, none⟩) hne _, rsh := (upR_ne _ _ Tg.noConfusion).trans h.rsh, rse := fun k hk => (upR_ne _ _ Tg.noConfusion).trans (h.rse k hk), rfn := ?_, rfa := ?_, rfb := ?_, rfl_ := ?_, rbd := ?_, fnm := ?_, rlb := (upR_ne _ _ Tg.noConfusion).trans h.rlb, rnm := fun k hk => (upR_ne _ _ Tg.noConfusion).trans (h.rnm k hk), rmn := (upR_ne _ _ Tg.noConfusion).trans h.rmn, rno := ⟨by rw [upR_ne _ _ Tg.noConfusion]; exact h.rno.1, fun k => by rw [upR_ne _ _ Tg.noConfusion]; exact h.rno.2 k⟩, im := ?_, lf := ?_, by_ := ?_, bd := ?_, fsm := ?_ }⟩
 ·rw [upR_ne _ _ Tg.noConfusion, h.rfn, putE_fvs]
 ·intro k hk
  obtain ⟨hk2, ⟨e, e5⟩ | ⟨e, e5⟩⟩ := hg k hk <;> rw [upR_ne _ _ Tg.noConfusion, e5, h.rfa k hk2] <;> rfl
 ·intro k hk
  obtain ⟨hk2, ⟨e, e5⟩ | ⟨e, e5⟩⟩ := hg k hk <;> rw [upR_ne _ _ Tg.noConfusion, e5, h.rfb k hk2] <;> rfl
 ·intro k hk
  obtain ⟨hk2, ⟨e, e5⟩ | ⟨e, e5⟩⟩ := hg k hk <;> rw [upR_ne _ _ Tg.noConfusion, e5, h.rfl_ k hk2] <;> rfl
 ·intro k hk
  obtain ⟨hk2, ⟨e, e5⟩ | ⟨e, e5⟩⟩ := hg k hk
  ·subst e
   rw [upR_eq, e5, ← iis_put _ _ _ hj, ← e1]; rfl
  ·rw [upR_ne _ _ (by intro e6; injection e6 with e6; exact e e6), e5, h.rbd k hk2]
 ·intro k hk
  obtain ⟨hk2, ⟨e, e5⟩ | ⟨e, e5⟩⟩ := hg k hk
  ·rw [e5]
   exact ⟨(h.fnm k hk2).1, allI_put hI (h.fnm k hk2).2 j⟩
  ·rw [e5]; exact h.fnm k hk2
 ·have := h.im
  unfold I.imOf at this ⊢
  rw [← this]
  dsimp only
  rw [putE_snd]
 ·rw [List.length_modify]; exact h.lf
 ·rw [List.length_modify]; exact h.by_
 ·intro k hk
  obtain ⟨hk2, ⟨e, e5⟩ | ⟨e, e5⟩⟩ := hg k hk
  ·rw [e5]
   have := h.bd k hk2
   unfold putE putF
   simpa using this
  ·rw [e5]; exact h.bd k hk2
 ·intro k hk
  obtain ⟨hk2, ⟨e, e5⟩ | ⟨e, e5⟩⟩ := hg k hk <;> rw [e5] <;> exact h.fsm k hk2

end Go.Proofs.YtgnooffedmeenaaGreatDoor.M
