/-
  What reads and its closures do: what stands next is read and kept. Conditions: what decodes answers by its contract.
  A region that draws its order, by what each of its values is: whatever order is picked, each operation finds what it stands behind. No program, no conditions.
  A region that draws its order, by what each of its values is: whatever order is picked, each operation finds what it stands behind. Operations may be guarded; one of them, number c, may write what lay in the blocks of O, which the others' words don't speak of. No program, no conditions.
  Which functions may be: what Check answers. Conditions: the function's lists lie in memory, and are no longer than statements go through.
  What the laws ask ahead: whether a function is more than statements go through; and the laws' own function. No conditions but those of each statement.
  The plain mathematics of heads and stretches: which places are noted as heads, how often, and where a stretch ends. No program, no conditions.
  The plain mathematics of what is put in and taken out, of counts, and of stretches one behind the other. No program, no conditions.
  What shifted of layer code answers: a new list, in which those that go to a place behind one go so much farther. Conditions: the list lies in memory, of 1 to 512 instructions; by 1, or -1.
-/
import Derived.Laws.CopyOwn
import Derived.OwnWalk
import Derived.Test.YtbnekeomdhljhaaGreatDoorQ8
import Derived.Test.YtbnekeomdhljhaaGreatDoorQ4
import Derived.Test.YtbnekeomdhljhaaGreatDoorQ6
import Derived.Test.YtbnekeomdhljhaaGreatDoorQ5
namespace Go.Proofs.YtbnekeomdhljhaaGreatDoor.F
open Go.RowKit W

/-- A reader: what decodes, the Reel, and where the part goes, each in a cell of its own. -/
def RdV (k : Nat) (tc tp : TypeId) (dec : Value) (rp : Option Addr) (pt : Addr) (v : Value) (w : World) : Prop :=
  ∃ c r q, v = askV k #[.pointer (some ⟨c, 0, none⟩), .pointer (some ⟨r, 0, none⟩), .pointer (some ⟨q, 0, none⟩)] ∧ Blk w c tc #[dec] ∧ Blk w r 37 #[.pointer rp] ∧ Blk w q tp #[.pointer (some pt)]
theorem RdV.keep {k : Nat} {tc tp : TypeId} {dec : Value} {rp : Option Addr} {pt : Addr} {v : Value} {w w' : World} (h : RdV k tc tp dec rp pt v w) (hk : Keep NoB w w') : RdV k tc tp dec rp pt v w' := by
  obtain ⟨c, r, q, e, h1, h2, h3⟩ := h
  exact ⟨c, r, q, e, h1.keep hk id, h2.keep hk id, h3.keep hk id⟩

set_option maxRecDepth 100000 in
set_option maxHeartbeats 4000000 in
theorem readsStr_any (k F i : Nat) (rp : Option Addr) (w : World) :
    Calls Tryz.prog 51 #[.pointer rp, fnV k, .pointer (some ⟨F, i, none⟩)] w fun e w' => ∃ u, e = .returned u ∧ RdV 106 92 93 (fnV k) rp ⟨F, i, none⟩ u w' ∧ Keep NoB w w' := by
  have hmf : ∀ (fn : Go.Fn) (first cap : Array Value) (w : World), (Instr.makeFunc fn first cap).run Tryz.prog w = .ok (.func fn first cap) w := fun _ _ _ _ => rfl
  have b0 := ((Blk.new w 37 #[.pointer rp]).alloc (.cells #[fnV k] 92)).alloc (.cells (#[.pointer (some ⟨F, i, none⟩)]) 93)
  have b1 := (Blk.new (w.alloc (.cells #[.pointer rp] 37)) 92 #[fnV k]).alloc (.cells (#[.pointer (some ⟨F, i, none⟩)]) 93)
  have b2 := Blk.new ((w.alloc (.cells #[.pointer rp] 37)).alloc (.cells #[fnV k] 92)) 93 (#[.pointer (some ⟨F, i, none⟩)])
  simp only [World.size_alloc] at b1 b2
  have k0 := (((Keep.refl NoB w).alloc (.cells #[.pointer rp] 37)).alloc (.cells #[fnV k] 92)).alloc (.cells (#[.pointer (some ⟨F, i, none⟩)]) 93)
  unfold fnV at *
  have HB0 := Lib.hid b0
  have HB1 := Lib.hid b1
  have HB2 := Lib.hid b2
  have HK := Lib.hid k0
  clear b0 b1 b2 k0
  go_enter Tryz.func51, Tryz.ntmps51
  go_wp2
  go_ret
  exact ⟨_, rfl, ⟨w.heap.size + 1, w.heap.size, w.heap.size + 1 + 1, rfl, HB1.out, HB0.out, HB2.out⟩, HK.out⟩

set_option maxRecDepth 100000 in
set_option maxHeartbeats 4000000 in
theorem readStr_any (k : Nat) (hcf : ∀ args w, (callFunc k args).run Tryz.prog w = .ok (.enter k args) w) (O : Nat → Prop) (rp : Option Addr) (cc0 rr qq F : Nat) (v : FV) (w : World) (hc : Blk w cc0 92 #[fnV k]) (hr : Blk w rr 37 #[.pointer rp]) (hq : Blk w qq 93 #[.pointer (some ⟨F, 0, none⟩)])
    (hF : Blk w F 27 v.cells) (hq1 : ¬ O qq) (hF1 : ¬ O F) (G : ByteArray → Int → World → Prop)
    (HG : Hid (Calls Tryz.prog k #[.pointer rp] w fun e w1 => ∃ x E, e = .returned (.tuple #[.string x, .int .i64 E]) ∧ G x E w1 ∧ Keep O w w1)) :
    Calls Tryz.prog 106 #[.pointer (some ⟨cc0, 0, none⟩), .pointer (some ⟨rr, 0, none⟩), .pointer (some ⟨qq, 0, none⟩)] w fun e w' => ∃ x E w1, e = .returned (.bool (E == 0)) ∧ G x E w1 ∧ Keep O w w1 ∧ w' = (w1.setCell ⟨F, 0, none⟩ (.string x)) := by
  have c1 := hc.cell 0
  have c2 := hr.cell 0
  have c3 := hq.cell 0
  unfold fnV at c1
  unfold FV.cells at hF
  have HQ := Lib.hid hq
  have HF := Lib.hid hF
  clear hc hr hq hF
  go_enter Tryz.func106, Tryz.ntmps106
  go_wp2_with fail
  refine HG.out.mono ?_
  rintro e w1 ⟨x, E, rfl, hg, k1⟩
  have q1 := ((HQ.out.keep k1 hq1)).cell 0
  have f1 := (HF.out.keep k1 hF1)
  obtain ⟨d0, d1, d2, d3, d4⟩ := blk5 (v := v) f1
  have fz := fun i => f1.frozen i
  simp at q1
  clear c1 c2 c3 f1 HG
  go_wp2
  go_ret
  exact ⟨x, E, w1, rfl, hg, k1, rfl⟩

set_option maxRecDepth 100000 in
set_option maxHeartbeats 4000000 in
theorem readsSig_any (k F i : Nat) (rp : Option Addr) (w : World) :
    Calls Tryz.prog 53 #[.pointer rp, fnV k, .pointer (some ⟨F, i, none⟩)] w fun e w' => ∃ u, e = .returned u ∧ RdV 108 95 96 (fnV k) rp ⟨F, i, none⟩ u w' ∧ Keep NoB w w' := by
  have hmf : ∀ (fn : Go.Fn) (first cap : Array Value) (w : World), (Instr.makeFunc fn first cap).run Tryz.prog w = .ok (.func fn first cap) w := fun _ _ _ _ => rfl
  have b0 := ((Blk.new w 37 #[.pointer rp]).alloc (.cells #[fnV k] 95)).alloc (.cells (#[.pointer (some ⟨F, i, none⟩)]) 96)
  have b1 := (Blk.new (w.alloc (.cells #[.pointer rp] 37)) 95 #[fnV k]).alloc (.cells (#[.pointer (some ⟨F, i, none⟩)]) 96)
  have b2 := Blk.new ((w.alloc (.cells #[.pointer rp] 37)).alloc (.cells #[fnV k] 95)) 96 (#[.pointer (some ⟨F, i, none⟩)])
  simp only [World.size_alloc] at b1 b2
  have k0 := (((Keep.refl NoB w).alloc (.cells #[.pointer rp] 37)).alloc (.cells #[fnV k] 95)).alloc (.cells (#[.pointer (some ⟨F, i, none⟩)]) 96)
  unfold fnV at *
  have HB0 := Lib.hid b0
  have HB1 := Lib.hid b1
  have HB2 := Lib.hid b2
  have HK := Lib.hid k0
  clear b0 b1 b2 k0
  go_enter Tryz.func53, Tryz.ntmps53
  go_wp2
  go_ret
  exact ⟨_, rfl, ⟨w.heap.size + 1, w.heap.size, w.heap.size + 1 + 1, rfl, HB1.out, HB0.out, HB2.out⟩, HK.out⟩

set_option maxRecDepth 100000 in
set_option maxHeartbeats 4000000 in
theorem readSig_any (k : Nat) (hcf : ∀ args w, (callFunc k args).run Tryz.prog w = .ok (.enter k args) w) (O : Nat → Prop) (rp : Option Addr) (cc0 rr qq F : Nat) (v : FV) (w : World) (hc : Blk w cc0 95 #[fnV k]) (hr : Blk w rr 37 #[.pointer rp]) (hq : Blk w qq 96 #[.pointer (some ⟨F, 1, none⟩)])
    (hF : Blk w F 27 v.cells) (hq1 : ¬ O qq) (hF1 : ¬ O F) (G : Option Addr → Nat → Nat → Option Addr → Nat → Nat → Int → World → Prop)
    (HG : Hid (Calls Tryz.prog k #[.pointer rp] w fun e w1 => ∃ A n c B m d E, e = .returned (.tuple #[.agg #[.slice A n c, .slice B m d], .int .i64 E]) ∧ G A n c B m d E w1 ∧ Keep O w w1)) :
    Calls Tryz.prog 108 #[.pointer (some ⟨cc0, 0, none⟩), .pointer (some ⟨rr, 0, none⟩), .pointer (some ⟨qq, 0, none⟩)] w fun e w' => ∃ A n c B m d E w1, e = .returned (.bool (E == 0)) ∧ G A n c B m d E w1 ∧ Keep O w w1 ∧ w' = (((w1.alloc (.cells #[.slice A n c, .slice B m d] 24)).setCell ⟨F, 1, none⟩ (.slice A n c)).setCell ⟨F, 2, none⟩ (.slice B m d)) := by
  have c1 := hc.cell 0
  have c2 := hr.cell 0
  have c3 := hq.cell 0
  unfold fnV at c1
  unfold FV.cells at hF
  have HQ := Lib.hid hq
  have HF := Lib.hid hF
  clear hc hr hq hF
  go_enter Tryz.func108, Tryz.ntmps108
  go_wp2_with fail
  refine HG.out.mono ?_
  rintro e w1 ⟨A, n, c, B, m, d, E, rfl, hg, k1⟩
  have q1 := ((HQ.out.keep k1 hq1).alloc (.cells #[.slice A n c, .slice B m d] 24)).cell 0
  have f1 := (HF.out.keep k1 hF1).alloc (.cells #[.slice A n c, .slice B m d] 24)
  obtain ⟨d0, d1, d2, d3, d4⟩ := blk5 (v := v) f1
  have fz := fun i => f1.frozen i
  simp at q1
  clear c1 c2 c3 f1 HG
  go_wp2
  go_ret
  exact ⟨A, n, c, B, m, d, E, w1, rfl, hg, k1, rfl⟩

set_option maxRecDepth 100000 in
set_option maxHeartbeats 4000000 in
theorem readsLoc_any (k F i : Nat) (rp : Option Addr) (w : World) :
    Calls Tryz.prog 55 #[.pointer rp, fnV k, .pointer (some ⟨F, i, none⟩)] w fun e w' => ∃ u, e = .returned u ∧ RdV 111 98 99 (fnV k) rp ⟨F, i, none⟩ u w' ∧ Keep NoB w w' := by
  have hmf : ∀ (fn : Go.Fn) (first cap : Array Value) (w : World), (Instr.makeFunc fn first cap).run Tryz.prog w = .ok (.func fn first cap) w := fun _ _ _ _ => rfl
  have b0 := ((Blk.new w 37 #[.pointer rp]).alloc (.cells #[fnV k] 98)).alloc (.cells (#[.pointer (some ⟨F, i, none⟩)]) 99)
  have b1 := (Blk.new (w.alloc (.cells #[.pointer rp] 37)) 98 #[fnV k]).alloc (.cells (#[.pointer (some ⟨F, i, none⟩)]) 99)
  have b2 := Blk.new ((w.alloc (.cells #[.pointer rp] 37)).alloc (.cells #[fnV k] 98)) 99 (#[.pointer (some ⟨F, i, none⟩)])
  simp only [World.size_alloc] at b1 b2
  have k0 := (((Keep.refl NoB w).alloc (.cells #[.pointer rp] 37)).alloc (.cells #[fnV k] 98)).alloc (.cells (#[.pointer (some ⟨F, i, none⟩)]) 99)
  unfold fnV at *
  have HB0 := Lib.hid b0
  have HB1 := Lib.hid b1
  have HB2 := Lib.hid b2
  have HK := Lib.hid k0
  clear b0 b1 b2 k0
  go_enter Tryz.func55, Tryz.ntmps55
  go_wp2
  go_ret
  exact ⟨_, rfl, ⟨w.heap.size + 1, w.heap.size, w.heap.size + 1 + 1, rfl, HB1.out, HB0.out, HB2.out⟩, HK.out⟩

set_option maxRecDepth 100000 in
set_option maxHeartbeats 4000000 in
theorem readLoc_any (k : Nat) (hcf : ∀ args w, (callFunc k args).run Tryz.prog w = .ok (.enter k args) w) (O : Nat → Prop) (rp : Option Addr) (cc0 rr qq F : Nat) (v : FV) (w : World) (hc : Blk w cc0 98 #[fnV k]) (hr : Blk w rr 37 #[.pointer rp]) (hq : Blk w qq 99 #[.pointer (some ⟨F, 3, none⟩)])
    (hF : Blk w F 27 v.cells) (hq1 : ¬ O qq) (hF1 : ¬ O F) (G : Option Addr → Nat → Nat → Int → World → Prop)
    (HG : Hid (Calls Tryz.prog k #[.pointer rp] w fun e w1 => ∃ A n c E, e = .returned (.tuple #[.slice A n c, .int .i64 E]) ∧ G A n c E w1 ∧ Keep O w w1)) :
    Calls Tryz.prog 111 #[.pointer (some ⟨cc0, 0, none⟩), .pointer (some ⟨rr, 0, none⟩), .pointer (some ⟨qq, 0, none⟩)] w fun e w' => ∃ A n c E w1, e = .returned (.bool (E == 0)) ∧ G A n c E w1 ∧ Keep O w w1 ∧ w' = (w1.setCell ⟨F, 3, none⟩ (.slice A n c)) := by
  have c1 := hc.cell 0
  have c2 := hr.cell 0
  have c3 := hq.cell 0
  unfold fnV at c1
  unfold FV.cells at hF
  have HQ := Lib.hid hq
  have HF := Lib.hid hF
  clear hc hr hq hF
  go_enter Tryz.func111, Tryz.ntmps111
  go_wp2_with fail
  refine HG.out.mono ?_
  rintro e w1 ⟨A, n, c, E, rfl, hg, k1⟩
  have q1 := ((HQ.out.keep k1 hq1)).cell 0
  have f1 := (HF.out.keep k1 hF1)
  obtain ⟨d0, d1, d2, d3, d4⟩ := blk5 (v := v) f1
  have fz := fun i => f1.frozen i
  simp at q1
  clear c1 c2 c3 f1 HG
  go_wp2
  go_ret
  exact ⟨A, n, c, E, w1, rfl, hg, k1, rfl⟩

set_option maxRecDepth 100000 in
set_option maxHeartbeats 4000000 in
theorem readsBod_any (k F i : Nat) (rp : Option Addr) (w : World) :
    Calls Tryz.prog 57 #[.pointer rp, fnV k, .pointer (some ⟨F, i, none⟩)] w fun e w' => ∃ u, e = .returned u ∧ RdV 112 101 102 (fnV k) rp ⟨F, i, none⟩ u w' ∧ Keep NoB w w' := by
  have hmf : ∀ (fn : Go.Fn) (first cap : Array Value) (w : World), (Instr.makeFunc fn first cap).run Tryz.prog w = .ok (.func fn first cap) w := fun _ _ _ _ => rfl
  have b0 := ((Blk.new w 37 #[.pointer rp]).alloc (.cells #[fnV k] 101)).alloc (.cells (#[.pointer (some ⟨F, i, none⟩)]) 102)
  have b1 := (Blk.new (w.alloc (.cells #[.pointer rp] 37)) 101 #[fnV k]).alloc (.cells (#[.pointer (some ⟨F, i, none⟩)]) 102)
  have b2 := Blk.new ((w.alloc (.cells #[.pointer rp] 37)).alloc (.cells #[fnV k] 101)) 102 (#[.pointer (some ⟨F, i, none⟩)])
  simp only [World.size_alloc] at b1 b2
  have k0 := (((Keep.refl NoB w).alloc (.cells #[.pointer rp] 37)).alloc (.cells #[fnV k] 101)).alloc (.cells (#[.pointer (some ⟨F, i, none⟩)]) 102)
  unfold fnV at *
  have HB0 := Lib.hid b0
  have HB1 := Lib.hid b1
  have HB2 := Lib.hid b2
  have HK := Lib.hid k0
  clear b0 b1 b2 k0
  go_enter Tryz.func57, Tryz.ntmps57
  go_wp2
  go_ret
  exact ⟨_, rfl, ⟨w.heap.size + 1, w.heap.size, w.heap.size + 1 + 1, rfl, HB1.out, HB0.out, HB2.out⟩, HK.out⟩

set_option maxRecDepth 100000 in
set_option maxHeartbeats 4000000 in
theorem readBod_any (k : Nat) (hcf : ∀ args w, (callFunc k args).run Tryz.prog w = .ok (.enter k args) w) (O : Nat → Prop) (rp : Option Addr) (cc0 rr qq F : Nat) (v : FV) (w : World) (hc : Blk w cc0 101 #[fnV k]) (hr : Blk w rr 37 #[.pointer rp]) (hq : Blk w qq 102 #[.pointer (some ⟨F, 4, none⟩)])
    (hF : Blk w F 27 v.cells) (hq1 : ¬ O qq) (hF1 : ¬ O F) (G : Option Addr → Nat → Nat → Int → World → Prop)
    (HG : Hid (Calls Tryz.prog k #[.pointer rp] w fun e w1 => ∃ A n c E, e = .returned (.tuple #[.slice A n c, .int .i64 E]) ∧ G A n c E w1 ∧ Keep O w w1)) :
    Calls Tryz.prog 112 #[.pointer (some ⟨cc0, 0, none⟩), .pointer (some ⟨rr, 0, none⟩), .pointer (some ⟨qq, 0, none⟩)] w fun e w' => ∃ A n c E w1, e = .returned (.bool (E == 0)) ∧ G A n c E w1 ∧ Keep O w w1 ∧ w' = (w1.setCell ⟨F, 4, none⟩ (.slice A n c)) := by
  have c1 := hc.cell 0
  have c2 := hr.cell 0
  have c3 := hq.cell 0
  unfold fnV at c1
  unfold FV.cells at hF
  have HQ := Lib.hid hq
  have HF := Lib.hid hF
  clear hc hr hq hF
  go_enter Tryz.func112, Tryz.ntmps112
  go_wp2_with fail
  refine HG.out.mono ?_
  rintro e w1 ⟨A, n, c, E, rfl, hg, k1⟩
  have q1 := ((HQ.out.keep k1 hq1)).cell 0
  have f1 := (HF.out.keep k1 hF1)
  obtain ⟨d0, d1, d2, d3, d4⟩ := blk5 (v := v) f1
  have fz := fun i => f1.frozen i
  simp at q1
  clear c1 c2 c3 f1 HG
  go_wp2
  go_ret
  exact ⟨A, n, c, E, w1, rfl, hg, k1, rfl⟩

end Go.Proofs.YtbnekeomdhljhaaGreatDoor.F

namespace Go.Proofs.YtbnekeomdhljhaaGreatDoor
open Go.RowKit
section
variable {P : Program} {md : Region.Mode} {ops : Array Oper}

/-- Each operation writes the slot of its number, has no guard, and stands behind earlier ones alone. -/
def propsB (ops : Array Oper) (d0 : Nat) : Bool := (List.range ops.size).all fun i => match ops[i]? with
  | none => false
  | some o => (match o.dst with
    | none => false
    | some d => d == d0 + i) && o.guard.isNone && o.after.all fun e => decide (e.on < i)
theorem propsB_at {d0 : Nat} (h : propsB ops d0 = true) {i : Nat} {o : Oper} (ho : ops[i]? = some o) : o.dst = some (d0 + i) ∧ o.guard = none ∧ ∀ e ∈ o.after, e.on < i := by
  have hi := (Array.getElem?_eq_some_iff.1 ho).1
  have h1 := List.all_eq_true.1 h i (List.mem_range.2 hi)
  simp only [ho, Bool.and_eq_true] at h1
  obtain ⟨⟨h1, h2⟩, h3⟩ := h1
  refine ⟨?_, by simpa using h2, fun e he => ?_⟩
  · cases hd : o.dst with
    | none => rw [hd] at h1; cases h1
    | some d => rw [hd] at h1; simpa using h1
  · have := Array.all_eq_true_iff_forall_mem.1 h3 e he
    simpa using this
theorem no_ready {d0 : Nat} (hB : propsB ops d0 = true) {listed : Array Bool} (hs : listed.size = ops.size) (hr : Region.ready md ops listed = []) : ∀ i, i < ops.size → listed.getD i true = true := by
  intro i
  induction i using Nat.strongRecOn with
  | ind i ih =>
    intro hi
    cases hl : listed.getD i true
    · have ho : ops[i]? = some ops[i] := Array.getElem?_eq_getElem hi
      have : i ∈ Region.ready md ops listed := mem_ready.2 ⟨hl, ops[i], ho, fun e he _ => by
        have he2 := (propsB_at hB ho).2.2 e he
        have h1 := ih e.on he2 (by omega)
        have h2 : e.on < listed.size := by omega
        simpa [h2] using h1⟩
      rw [hr] at this; cases this
    · rfl
/-- The frame as it was, but for the region's slots. -/
def FrameI (a0 : Act) (d0 n : Nat) (a : Act) : Prop := a.defers = a0.defers ∧ a.tmps.size = a0.tmps.size ∧ ∀ s, (s < d0 ∨ d0 + n ≤ s) → a.tmps.getD s undef = a0.tmps.getD s undef

theorem wpAny_props {Q : Exit → Act → World → Prop} (d0 : Nat) (hB : propsB ops d0 = true) (S : Nat → Value → World → Prop) (hS : ∀ i v, StableI (S i v)) (w0 : World) (a0 : Act) (hsz : d0 + ops.size ≤ a0.tmps.size)
    (hstep : ∀ i o (a : Act) (w : World), ops[i]? = some o → FrameI a0 d0 ops.size a → Keep NoB w0 w → (∀ e ∈ o.after, Region.binds md e = true → S e.on (a.tmps.getD (d0 + e.on) undef) w) → yieldsK P o a w fun u w' => S i u w' ∧ Keep NoB w w')
    (hend : ∀ (a : Act) (w : World), FrameI a0 d0 ops.size a → Keep NoB w0 w → (∀ i, i < ops.size → S i (a.tmps.getD (d0 + i) undef) w) → Q .normal a w) :
    ∀ (fuel : Nat) (listed : Array Bool) (a : Act) (w : World), listed.size = ops.size → (∃ L : List Nat, L.length ≤ fuel ∧ ∀ i, i < ops.size → listed.getD i true = false → i ∈ L) → FrameI a0 d0 ops.size a → Keep NoB w0 w →
      (∀ i, i < ops.size → listed.getD i true = true → S i (a.tmps.getD (d0 + i) undef) w) → wpAny P md ops Q fuel listed a w := by
  intro fuel
  induction fuel with
  | zero =>
    intro listed a w hs ⟨L, hL, hin⟩ hF hK hA
    obtain rfl : L = [] := List.length_eq_zero_iff.1 (by omega)
    have hall : ∀ i, i < ops.size → listed.getD i true = true := fun i hi => by
      cases h : listed.getD i true
      · cases hin i hi h
      · rfl
    refine ⟨?_, hend a w hF hK fun i hi => hA i hi (hall i hi)⟩
    rw [List.eq_nil_iff_forall_not_mem]
    intro i hi
    obtain ⟨h1, o, ho, _⟩ := mem_ready.1 hi
    rw [hall i (Array.getElem?_eq_some_iff.1 ho).1] at h1; cases h1
  | succ fuel ih =>
    intro listed a w hs ⟨L, hL, hin⟩ hF hK hA
    refine ⟨fun h0 => hend a w hF hK fun i hi => hA i hi (no_ready hB hs h0 i hi), fun i hi => ?_⟩
    obtain ⟨h1, o, ho, hall⟩ := mem_ready.1 hi
    have hi' := (Array.getElem?_eq_some_iff.1 ho).1
    obtain ⟨hd, hg, hlt⟩ := propsB_at hB ho
    unfold wpOp
    have hw : Region.wanted o (yielded ops a.tmps) = true := by unfold Region.wanted; rw [hg]
    simp only [ho, hw, if_true]
    refine .inl (Oper.wp_of_yields (hstep i o a w ho hF hK fun e he hb => ?_) ?_)
    · have h2 := hall e he hb
      have h3 := hlt e he
      refine hA e.on (by omega) ?_
      have h4 : e.on < listed.size := by omega
      simpa [h4] using h2
    · rintro u w' ⟨hSu, hk⟩
      rw [hd]
      have hds : d0 + i < a.tmps.size := by rw [hF.2.1]; omega
      have hget : ∀ s, (a.put (some (d0 + i)) u).tmps.getD s undef = if s = d0 + i then u else a.tmps.getD s undef := fun s => by
        unfold Act.put
        by_cases e : s = d0 + i
        · subst e; simp [hds]
        · rw [if_neg e]
          simp only [Array.getD_eq_getD_getElem?, Array.getElem?_setIfInBounds]
          rw [if_neg (fun h => e h.symm)]
      refine ih (listed.setIfInBounds i true) _ w' (by simpa using hs) ⟨L.erase i, ?_, fun k hk' hl => ?_⟩ ⟨?_, ?_, fun s hs' => ?_⟩ (keepN hK hk) fun k hk' hl => ?_
      · rw [List.length_erase_of_mem (hin i hi' h1)]; omega
      · have hki : k ≠ i := by
          rintro rfl
          have : k < listed.size := by omega
          simp [this] at hl
        have hl2 : listed.getD k true = false := by rw [getD_set_ne true (Ne.symm hki)] at hl; exact hl
        exact (List.mem_erase_of_ne hki).2 (hin k hk' hl2)
      · exact hF.1
      · unfold Act.put; simpa using hF.2.1
      · rw [hget, if_neg (by omega)]; exact hF.2.2 s hs'
      · rw [hget]
        by_cases e : k = i
        · subst e; rw [if_pos rfl]; exact hSu
        · rw [if_neg (by omega)]
          exact hS k _ _ _ (hA k hk' (by rw [getD_set_ne true (Ne.symm e)] at hl; exact hl)) hk
theorem wp_region_props {id : Nat} {Q : Exit → Act → World → Prop} {a0 : Act} {w : World} (d0 : Nat) (hm : P.follows .mixedOrders = true) (hB : propsB ops d0 = true) (S : Nat → Value → World → Prop) (hS : ∀ i v, StableI (S i v)) (hsz : d0 + ops.size ≤ a0.tmps.size)
    (hstep : ∀ i o (a : Act) (w' : World), ops[i]? = some o → FrameI a0 d0 ops.size a → Keep NoB w w' → (∀ e ∈ o.after, Region.binds .any e = true → S e.on (a.tmps.getD (d0 + e.on) undef) w') → yieldsK P o a w' fun u w'' => S i u w'' ∧ Keep NoB w' w'')
    (hend : ∀ (a : Act) (w' : World), FrameI a0 d0 ops.size a → Keep NoB w w' → (∀ i, i < ops.size → S i (a.tmps.getD (d0 + i) undef) w') → Q .normal a w') : (Code.region id ops true).wp P Q a0 w :=
  wp_region_any hm (wpAny_props d0 hB S hS w a0 hsz hstep hend _ _ a0 w.drew (by simp) ⟨List.range ops.size, by simp, fun i hi _ => List.mem_range.2 hi⟩ ⟨rfl, rfl, fun _ _ => rfl⟩ (Keep.refl NoB w).drew fun i hi hl => by
    simp [hi] at hl)

/-- The slots from one on, filled. -/
def fillT (t : Array Value) (d : Nat) : List Value → Array Value
  | [] => t
  | v :: vs => fillT (t.setIfInBounds d v) (d + 1) vs
theorem fillT_size : ∀ (vs : List Value) (t : Array Value) (d : Nat), (fillT t d vs).size = t.size
  | [], _, _ => rfl
  | v :: vs, t, d => by rw [fillT, fillT_size vs]; simp
theorem fillT_get : ∀ (vs : List Value) (t : Array Value) (d : Nat), d + vs.length ≤ t.size → ∀ s, (fillT t d vs).getD s undef = if d ≤ s ∧ s < d + vs.length then vs.getD (s - d) undef else t.getD s undef
  | [], t, d, _, s => by rw [fillT, if_neg (by simp)]
  | v :: vs, t, d, h, s => by
    simp only [List.length_cons] at h
    rw [fillT, fillT_get vs _ _ (by simp; omega)]
    by_cases e : s = d
    · subst e
      rw [if_neg (by omega), if_pos (by constructor <;> simp <;> omega)]
      have hs : s < t.size := by omega
      simp [hs]
    · have hset : (t.setIfInBounds d v).getD s undef = t.getD s undef := by
        simp only [Array.getD_eq_getD_getElem?, Array.getElem?_setIfInBounds]
        rw [if_neg (fun h => e h.symm)]
      rw [hset]
      by_cases h2 : d + 1 ≤ s ∧ s < d + 1 + vs.length
      · rw [if_pos h2, if_pos (by simp; omega), show s - d = (s - (d + 1)) + 1 by omega, List.getD_cons_succ]
      · rw [if_neg h2, if_neg (by simp; omega)]
theorem frame_fill {a0 a : Act} {d0 n : Nat} (h : FrameI a0 d0 n a) (hsz : d0 + n ≤ a0.tmps.size) : a = { tmps := fillT a0.tmps d0 ((List.range n).map fun i => a.tmps.getD (d0 + i) undef), defers := a0.defers } := by
  obtain ⟨h1, h2, h3⟩ := h
  have e : a.tmps = fillT a0.tmps d0 ((List.range n).map fun i => a.tmps.getD (d0 + i) undef) := by
    apply Array.ext
    · rw [fillT_size, h2]
    · intro i hi hi'
      have hg := fillT_get ((List.range n).map fun i => a.tmps.getD (d0 + i) undef) a0.tmps d0 (by simpa using hsz) i
      have e1 : (fillT a0.tmps d0 ((List.range n).map fun i => a.tmps.getD (d0 + i) undef)).getD i undef = (fillT a0.tmps d0 ((List.range n).map fun i => a.tmps.getD (d0 + i) undef))[i] := by rw [Array.getD_eq_getD_getElem?, Array.getElem?_eq_getElem hi']; rfl
      have e2 : a.tmps.getD i undef = a.tmps[i] := by rw [Array.getD_eq_getD_getElem?, Array.getElem?_eq_getElem hi]; rfl
      refine e2.symm.trans (Eq.trans ?_ (hg.symm.trans e1))
      simp only [List.length_map, List.length_range]
      by_cases hh : d0 ≤ i ∧ i < d0 + n
      · rw [if_pos hh]
        have hlt : i - d0 < n := by omega
        rw [List.getD_eq_getElem?_getD, List.getElem?_map, List.getElem?_range hlt]
        simp only [Option.map_some, Option.getD_some]
        rw [show d0 + (i - d0) = i by omega]
      · rw [if_neg hh]; exact h3 i (by omega)
  obtain ⟨t, d⟩ := a
  simp only at e h1 ⊢
  rw [← e, h1]
end
end Go.Proofs.YtbnekeomdhljhaaGreatDoor

namespace Go.Proofs.YtbnekeomdhljhaaGreatDoor
open Go.RowKit
section
variable {P : Program} {md : Region.Mode} {ops : Array Oper}

/-- Each operation writes the slot of its number (number c may write none), and stands behind earlier ones alone. -/
def propsG (ops : Array Oper) (d0 c : Nat) : Bool := (List.range ops.size).all fun i => match ops[i]? with
  | none => false
  | some o => (match o.dst with
    | none => i == c
    | some d => d == d0 + i) && o.after.all fun e => decide (e.on < i)
theorem propsG_at {d0 c : Nat} (h : propsG ops d0 c = true) {i : Nat} {o : Oper} (ho : ops[i]? = some o) : (o.dst = some (d0 + i) ∨ (o.dst = none ∧ i = c)) ∧ ∀ e ∈ o.after, e.on < i := by
  have hi := (Array.getElem?_eq_some_iff.1 ho).1
  have h1 := List.all_eq_true.1 h i (List.mem_range.2 hi)
  simp only [ho, Bool.and_eq_true] at h1
  obtain ⟨h1, h3⟩ := h1
  refine ⟨?_, fun e he => ?_⟩
  · cases hd : o.dst with
    | none => rw [hd] at h1; exact .inr ⟨rfl, by simpa using h1⟩
    | some d => rw [hd] at h1; exact .inl (by simpa using h1)
  · have := Array.all_eq_true_iff_forall_mem.1 h3 e he
    simpa using this
theorem no_readyG {d0 c : Nat} (hB : propsG ops d0 c = true) {listed : Array Bool} (hs : listed.size = ops.size) (hr : Region.ready md ops listed = []) : ∀ i, i < ops.size → listed.getD i true = true := by
  intro i
  induction i using Nat.strongRecOn with
  | ind i ih =>
    intro hi
    cases hl : listed.getD i true
    · have ho : ops[i]? = some ops[i] := Array.getElem?_eq_getElem hi
      have : i ∈ Region.ready md ops listed := mem_ready.2 ⟨hl, ops[i], ho, fun e he _ => by
        have he2 := (propsG_at hB ho).2 e he
        have h1 := ih e.on he2 (by omega)
        have h2 : e.on < listed.size := by omega
        simpa [h2] using h1⟩
      rw [hr] at this; cases this
    · rfl
/-- Is a guarded operation wanted? -/
theorem wanted_at {o : Oper} {tmps : Array Value} {j d : Nat} {want b : Bool} (hg : o.guard = some (j, want)) (hd : (ops[j]?).bind (·.dst) = some d) (hv : tmps.getD d undef = .bool b) : Region.wanted o (yielded ops tmps) = (b == want) := by
  have ht : tmps[d]? = some (.bool b) := by
    rw [Array.getD_eq_getD_getElem?] at hv
    cases h : tmps[d]? with
    | none => rw [h] at hv; simp [undef] at hv
    | some x => rw [h] at hv; simp at hv; rw [hv]
  unfold Region.wanted
  rw [hg]
  simp only [yielded, hd, Option.bind_some, ht]
  cases b <;> cases want <;> rfl
theorem yieldsR_mono {R R' : Value → World → Prop} (h : ∀ u w, R u w → R' u w) : ∀ (P : Program) (r : Result Next), yieldsR R P r → yieldsR R' P r := by
  intro P r hr
  cases r with
  | ok n w =>
    cases n with
    | value u => exact h _ _ hr
    | skip => exact h _ _ hr
    | enter f args => exact Calls.mono hr fun e w'' ⟨u, e1, h2⟩ => ⟨u, e1, h _ _ h2⟩
    | _ => exact hr.elim
  | _ => exact hr.elim
/-- What an operation does: it yields a value, or isn't wanted. -/
def Does (P : Program) (ops : Array Oper) (o : Oper) (a : Act) (w : World) (R : Value → World → Prop) : Prop :=
  (Region.wanted o (yielded ops a.tmps) = true ∧ yieldsK P o a w R) ∨ (Region.wanted o (yielded ops a.tmps) = false ∧ R undef w)
theorem Does.plain {o : Oper} {a : Act} {w : World} {R : Value → World → Prop} (hg : o.guard = none) (h : yieldsK P o a w R) : Does P ops o a w R := .inl ⟨by unfold Region.wanted; rw [hg], h⟩
theorem Does.yes {o : Oper} {a : Act} {w : World} {R : Value → World → Prop} {j d : Nat} {want : Bool} (hg : o.guard = some (j, want)) (hd : (ops[j]?).bind (·.dst) = some d) (hv : a.tmps.getD d undef = .bool want) (h : yieldsK P o a w R) : Does P ops o a w R :=
  .inl ⟨by rw [wanted_at hg hd hv]; cases want <;> rfl, h⟩
theorem Does.no {o : Oper} {a : Act} {w : World} {R : Value → World → Prop} {j d : Nat} {want : Bool} (hg : o.guard = some (j, want)) (hd : (ops[j]?).bind (·.dst) = some d) (hv : a.tmps.getD d undef = .bool (!want)) (h : R undef w) : Does P ops o a w R :=
  .inr ⟨by rw [wanted_at hg hd hv]; cases want <;> rfl, h⟩

theorem wpAny_props2 {Q : Exit → Act → World → Prop} (d0 c : Nat) (O : Nat → Prop) (hB : propsG ops d0 c = true) (S : Nat → Value → World → Prop) (w0 : World) (a0 : Act) (hS : ∀ i v w w', Keep O w0 w → S i v w → Keep O w w' → S i v w') (hsz : d0 + ops.size ≤ a0.tmps.size)
    (hstep : ∀ i o (a : Act) (w : World), ops[i]? = some o → i ≠ c → FrameI a0 d0 ops.size a → Keep O w0 w → (∀ e ∈ o.after, Region.binds md e = true → S e.on (a.tmps.getD (d0 + e.on) undef) w) → Does P ops o a w fun u w' => S i u w' ∧ Keep NoB w w')
    (hspec : ∀ o (a : Act) (w : World), ops[c]? = some o → FrameI a0 d0 ops.size a → Keep NoB w0 w → (∀ e ∈ o.after, Region.binds md e = true → S e.on (a.tmps.getD (d0 + e.on) undef) w) → Does P ops o a w fun u w' => (∀ v, (o.dst.isSome = true → v = u) → S c v w') ∧ Keep O w w')
    (hend : ∀ (a : Act) (w : World), FrameI a0 d0 ops.size a → Keep O w0 w → (∀ i, i < ops.size → S i (a.tmps.getD (d0 + i) undef) w) → Q .normal a w) :
    ∀ (fuel : Nat) (listed : Array Bool) (a : Act) (w : World), listed.size = ops.size → (∃ L : List Nat, L.length ≤ fuel ∧ ∀ i, i < ops.size → listed.getD i true = false → i ∈ L) → FrameI a0 d0 ops.size a → Keep O w0 w → (listed.getD c true = false → Keep NoB w0 w) →
      (∀ i, i < ops.size → listed.getD i true = true → S i (a.tmps.getD (d0 + i) undef) w) → wpAny P md ops Q fuel listed a w := by
  have hNO : ∀ {X Y : World}, Keep NoB X Y → Keep O X Y := fun h => h.mono (fun _ hf _ => hf.elim)
  intro fuel
  induction fuel with
  | zero =>
    intro listed a w hs ⟨L, hL, hin⟩ hF hK hC hA
    obtain rfl : L = [] := List.length_eq_zero_iff.1 (by omega)
    have hall : ∀ i, i < ops.size → listed.getD i true = true := fun i hi => by
      cases h : listed.getD i true
      · cases hin i hi h
      · rfl
    refine ⟨?_, hend a w hF hK fun i hi => hA i hi (hall i hi)⟩
    rw [List.eq_nil_iff_forall_not_mem]
    intro i hi
    obtain ⟨h1, o, ho, _⟩ := mem_ready.1 hi
    rw [hall i (Array.getElem?_eq_some_iff.1 ho).1] at h1; cases h1
  | succ fuel ih =>
    intro listed a w hs ⟨L, hL, hin⟩ hF hK hC hA
    refine ⟨fun h0 => hend a w hF hK fun i hi => hA i hi (no_readyG hB hs h0 i hi), fun i hi => ?_⟩
    obtain ⟨h1, o, ho, hall⟩ := mem_ready.1 hi
    have hi' := (Array.getElem?_eq_some_iff.1 ho).1
    obtain ⟨hd, hlt⟩ := propsG_at hB ho
    have hdeps : ∀ e ∈ o.after, Region.binds md e = true → S e.on (a.tmps.getD (d0 + e.on) undef) w := fun e he hb => by
      have h2 := hall e he hb
      have h3 := hlt e he
      refine hA e.on (by omega) ?_
      have h4 : e.on < listed.size := by omega
      simpa [h4] using h2
    have hKO : (if i = c then Keep NoB w0 w else True) := by
      split
      · rename_i e; subst e; exact hC h1
      · trivial
    have hdoes : Does P ops o a w fun u w' => (∀ v, (o.dst.isSome = true → v = u) → S i v w') ∧ Keep O w w' ∧ (i ≠ c → Keep NoB w w') := by
      by_cases e : i = c
      · subst e
        rw [if_pos rfl] at hKO
        rcases hspec o a w ho hF hKO hdeps with ⟨hw, hy⟩ | ⟨hw, h2, h3⟩
        · refine .inl ⟨hw, ?_⟩
          unfold yieldsK at hy ⊢
          exact yieldsR_mono (fun u w' ⟨h2, h3⟩ => ⟨h2, h3, fun h => absurd rfl h⟩) _ _ hy
        · exact .inr ⟨hw, h2, h3, fun h => absurd rfl h⟩
      · have hsome : o.dst.isSome = true := by
          rcases hd with h | ⟨_, h⟩
          · rw [h]; rfl
          · exact absurd h e
        rcases hstep i o a w ho e hF hK hdeps with ⟨hw, hy⟩ | ⟨hw, h2, h3⟩
        · refine .inl ⟨hw, ?_⟩
          unfold yieldsK at hy ⊢
          exact yieldsR_mono (fun u w' ⟨h2, h3⟩ => ⟨fun v hv => by rw [hv hsome]; exact h2, hNO h3, fun _ => h3⟩) _ _ hy
        · exact .inr ⟨hw, fun v hv => by rw [hv hsome]; exact h2, hNO h3, fun _ => h3⟩
    have hnext : ∀ u w', (∀ v, (o.dst.isSome = true → v = u) → S i v w') → Keep O w w' → (i ≠ c → Keep NoB w w') → wpAny P md ops Q fuel (listed.setIfInBounds i true) (a.put o.dst u) w' := by
      intro u w' hSu hk hkn
      have hfr : FrameI a0 d0 ops.size (a.put o.dst u) ∧ (∀ k, k < ops.size → k ≠ i → (a.put o.dst u).tmps.getD (d0 + k) undef = a.tmps.getD (d0 + k) undef) ∧ (o.dst.isSome = true → (a.put o.dst u).tmps.getD (d0 + i) undef = u) := by
        rcases hd with hd | ⟨hd, _⟩
        · rw [hd]
          have hds : d0 + i < a.tmps.size := by rw [hF.2.1]; omega
          have hget : ∀ s, (a.put (some (d0 + i)) u).tmps.getD s undef = if s = d0 + i then u else a.tmps.getD s undef := fun s => by
            unfold Act.put
            by_cases e : s = d0 + i
            · subst e; simp [hds]
            · rw [if_neg e]
              simp only [Array.getD_eq_getD_getElem?, Array.getElem?_setIfInBounds]
              rw [if_neg (fun h => e h.symm)]
          refine ⟨⟨hF.1, by unfold Act.put; simpa using hF.2.1, fun s hs' => ?_⟩, fun k hk' hki => ?_, fun _ => ?_⟩
          · rw [hget, if_neg (by omega)]; exact hF.2.2 s hs'
          · rw [hget, if_neg (by omega)]
          · rw [hget, if_pos rfl]
        · rw [hd]
          exact ⟨hF, fun _ _ _ => rfl, fun h => by cases h⟩
      obtain ⟨hF', hother, hself⟩ := hfr
      refine ih (listed.setIfInBounds i true) _ w' (by simpa using hs) ⟨L.erase i, ?_, fun k hk' hl => ?_⟩ hF' (hK.trans hk (fun _ h _ => h)) (fun hl => ?_) fun k hk' hl => ?_
      · rw [List.length_erase_of_mem (hin i hi' h1)]; omega
      · have hki : k ≠ i := by
          rintro rfl
          have : k < listed.size := by omega
          simp [this] at hl
        have hl2 : listed.getD k true = false := by rw [getD_set_ne true (Ne.symm hki)] at hl; exact hl
        exact (List.mem_erase_of_ne hki).2 (hin k hk' hl2)
      · have hci : c ≠ i := by
          rintro rfl
          have : c < listed.size := by omega
          simp [this] at hl
        rw [getD_set_ne true (Ne.symm hci)] at hl
        exact keepN (hC hl) (hkn (Ne.symm hci))
      · by_cases e : k = i
        · subst e
          exact hSu _ hself
        · rw [hother k hk' e]
          exact hS k _ _ _ hK (hA k hk' (by rw [getD_set_ne true (Ne.symm e)] at hl; exact hl)) hk
    unfold wpOp
    simp only [ho]
    rcases hdoes with ⟨hw, hy⟩ | ⟨hw, h2, h3, h4⟩
    · rw [if_pos hw]
      exact .inl (Oper.wp_of_yields hy fun u w' ⟨h2, h3, h4⟩ => hnext u w' h2 h3 h4)
    · rw [if_neg (by rw [hw]; decide)]
      exact hnext undef w h2 h3 h4
theorem wp_region_props2 {id : Nat} {Q : Exit → Act → World → Prop} {a0 : Act} {w : World} (d0 c : Nat) (O : Nat → Prop) (hm : P.follows .mixedOrders = true) (hB : propsG ops d0 c = true) (S : Nat → Value → World → Prop) (hS : ∀ i v w1 w', Keep O w w1 → S i v w1 → Keep O w1 w' → S i v w') (hsz : d0 + ops.size ≤ a0.tmps.size)
    (hstep : ∀ i o (a : Act) (w' : World), ops[i]? = some o → i ≠ c → FrameI a0 d0 ops.size a → Keep O w w' → (∀ e ∈ o.after, Region.binds .any e = true → S e.on (a.tmps.getD (d0 + e.on) undef) w') → Does P ops o a w' fun u w'' => S i u w'' ∧ Keep NoB w' w'')
    (hspec : ∀ o (a : Act) (w' : World), ops[c]? = some o → FrameI a0 d0 ops.size a → Keep NoB w w' → (∀ e ∈ o.after, Region.binds .any e = true → S e.on (a.tmps.getD (d0 + e.on) undef) w') → Does P ops o a w' fun u w'' => (∀ v, (o.dst.isSome = true → v = u) → S c v w'') ∧ Keep O w' w'')
    (hend : ∀ (a : Act) (w' : World), FrameI a0 d0 ops.size a → Keep O w w' → (∀ i, i < ops.size → S i (a.tmps.getD (d0 + i) undef) w') → Q .normal a w') : (Code.region id ops true).wp P Q a0 w :=
  wp_region_any hm (wpAny_props2 d0 c O hB S w a0 hS hsz hstep hspec hend _ _ a0 w.drew (by simp) ⟨List.range ops.size, by simp, fun i hi _ => List.mem_range.2 hi⟩ ⟨rfl, rfl, fun _ _ => rfl⟩ (Keep.refl O w).drew (fun _ => (Keep.refl NoB w).drew) fun i hi hl => by
    simp [hi] at hl)
end
end Go.Proofs.YtbnekeomdhljhaaGreatDoor

namespace Go.Proofs.YtbnekeomdhljhaaGreatDoor.F
open Go.RowKit W

/-- What each of the questions is answered. -/
def bsF (v : FV) (f : Fu) (i : Nat) : Bool := match i with
  | 0 => decide (v.na + v.nb + v.nl ≤ 64)
  | 1 => okN f.nm
  | 2 => S.okG f.ar f.rs
  | 3 => S.okG f.lc []
  | _ => C.okB f.bd
theorem bsF_all {v : FV} {f : Fu} {w : World} (h : FnAt w v f) (hb : ∀ i, i < 5 → bsF v f i = true) : okF f = true := by
  have h0 := of_decide_eq_true (hb 0 (by omega))
  have h1 : okN f.nm = true := hb 1 (by omega)
  have h2 : S.okG f.ar f.rs = true := hb 2 (by omega)
  have h3 : S.okG f.lc [] = true := hb 3 (by omega)
  have h4 : C.okB f.bd = true := hb 4 (by omega)
  rw [← h.la, ← h.lb, ← h.ll] at h0
  exact (okF_iff f).2 ⟨h1, h2, ((okG_one _).1 h3).2, h4, h0⟩
theorem bsF_not {v : FV} {f : Fu} {w : World} (h : FnAt w v f) (hb : ∃ i, i < 5 ∧ bsF v f i = false) : okF f = false := by
  refine okF_not fun ⟨h1, h2, h3, h4, h5⟩ => ?_
  obtain ⟨i, hi, hb⟩ := hb
  rw [h.la, h.lb, h.ll] at h5
  have hl : S.okG f.lc [] = true := (okG_one _).2 ⟨by rw [h.ll]; omega, h3⟩
  have hi : i = 0 ∨ i = 1 ∨ i = 2 ∨ i = 3 ∨ i = 4 := by omega
  rcases hi with rfl | rfl | rfl | rfl | rfl
  · exact absurd h5 (of_decide_eq_false hb)
  · rw [show bsF v f 1 = okN f.nm from rfl, h1] at hb; cases hb
  · rw [show bsF v f 2 = S.okG f.ar f.rs from rfl, h2] at hb; cases hb
  · rw [show bsF v f 3 = S.okG f.lc [] from rfl, hl] at hb; cases hb
  · rw [show bsF v f 4 = C.okB f.bd from rfl, h4] at hb; cases hb
theorem few_eq (v : FV) (f : Fu) : (((if v.na + v.nb + v.nl ≤ 64 then (0 : Int) else 70)) == 0) = bsF v f 0 := by
  show _ = decide _
  by_cases h : v.na + v.nb + v.nl ≤ 64
  · rw [if_pos h, decide_eq_true h]; rfl
  · rw [if_neg h, decide_eq_false h]; rfl
theorem chkN_eq (s : List UInt8) : (chkN s == 0) = okN s := by
  cases h : okN s
  · rw [chkN_no h]; rfl
  · rw [chkN_ok h]; rfl
theorem chkG_eq (a r : List Int) : (S.chkG a r == 0) = S.okG a r := by
  cases h : S.okG a r
  · rw [S.chkG_no h]; rfl
  · rw [S.chkG_ok h]; rfl
theorem chkB_eq (l : List C.I3) : (C.chkB l == 0) = C.okB l := by
  cases h : C.okB l
  · rw [C.chkB_no h]; rfl
  · rw [C.chkB_ok h]; rfl
theorem chkF_eq (f : Fu) : (chkF f == 0) = okF f := by
  cases h : okF f
  · rw [chkF_no h]; rfl
  · rw [chkF_ok h]; rfl

set_option maxRecDepth 100000 in
set_option maxHeartbeats 4000000 in
theorem checks_any (v : FV) (f : Fu) (w : World) (h : FnAt w v f) (hs : SmF v) (g : Nat) (u0 u1 u2 u3 u4 : Value) (hb : Blk w g 75 #[u0, u1, u2, u3, u4])
    (a0 : AskV 120 48 27 (fnV 68) (v.cells) u0 w)
    (a1 : AskV 121 46 9 (fnV 16) (#[.string v.S]) u1 w)
    (a2 : AskV 122 114 24 (fnV 71) (#[.slice v.A v.na v.ca, .slice v.B v.nb v.cb]) u2 w)
    (a3 : AskV 122 114 24 (fnV 71) (#[.slice v.L v.nl v.cl, .slice none 0 0]) u3 w)
    (a4 : AskV 126 116 25 (fnV 73) (#[.slice v.D v.nd v.cd]) u4 w) :
    Calls Tryz.prog 41 #[.slice (some ⟨g, 0, none⟩) 5 5] w fun e w' => e = .returned (.bool (okF f)) ∧ Keep NoB w w' := by
  obtain ⟨c0, p0, rfl, a0, b0⟩ := a0
  obtain ⟨c1, p1, rfl, a1, b1⟩ := a1
  obtain ⟨c2, p2, rfl, a2, b2⟩ := a2
  obtain ⟨c3, p3, rfl, a3, b3⟩ := a3
  obtain ⟨c4, p4, rfl, a4, b4⟩ := a4
  refine (every_any (some ⟨g, 0, none⟩) [(120, #[.pointer (some ⟨c0, 0, none⟩), .pointer (some ⟨p0, 0, none⟩)]), (121, #[.pointer (some ⟨c1, 0, none⟩), .pointer (some ⟨p1, 0, none⟩)]), (122, #[.pointer (some ⟨c2, 0, none⟩), .pointer (some ⟨p2, 0, none⟩)]), (122, #[.pointer (some ⟨c3, 0, none⟩), .pointer (some ⟨p3, 0, none⟩)]), (126, #[.pointer (some ⟨c4, 0, none⟩), .pointer (some ⟨p4, 0, none⟩)])] 5 5 w rfl (by decide) (bsF v f) (fun _ W => Keep NoB w W) (fun W => Keep NoB w W) ?hcf ?hr ?hq (Keep.refl _ _)).mono ?_
  case hcf =>
    intro q hq
    simp only [List.mem_cons, List.not_mem_nil, or_false] at hq
    rcases hq with rfl | rfl | rfl | rfl | rfl
    · exact enters_of Tryz.func120 (by kernel_rfl) rfl
    · exact enters_of Tryz.func121 (by kernel_rfl) rfl
    · exact enters_of Tryz.func122 (by kernel_rfl) rfl
    · exact enters_of Tryz.func122 (by kernel_rfl) rfl
    · exact enters_of Tryz.func126 (by kernel_rfl) rfl
  case hr =>
    intro i W hK _
    refine ⟨g, 0, rfl, fun j u hu => ?_⟩
    rw [Nat.zero_add, (hb.keep hK id).cell j]
    simpa using hu
  case hq =>
    intro i hi W hK
    have hf := h.keepN hK
    have hi : i = 0 ∨ i = 1 ∨ i = 2 ∨ i = 3 ∨ i = 4 := by simp at hi; omega
    rcases hi with rfl | rfl | rfl | rfl | rfl
    · refine (askedFun_any 68 (enters_of Tryz.func68 (by kernel_rfl) rfl) v c0 p0 W (a0.keep hK id) (b0.keep hK id) _ (bsF v f 0) (few_eq v f) (few_any v W hs _ rfl)).mono ?_
      rintro e W' ⟨rfl, hk⟩
      exact ⟨rfl, fun _ => keepN hK hk, fun _ => keepN hK hk⟩
    · refine (askedStr_any 16 (enters_of Tryz.func16 (by kernel_rfl) rfl) v.S c1 p1 W (a1.keep hK id) (b1.keep hK id) (chkN f.nm) (bsF v f 1) (chkN_eq _) ?_).mono ?_
      · refine (named_any v.S f.nm W hf.nm (by have := hs.sz; omega) _ rfl).mono ?_
        rintro e W' ⟨rfl, rfl⟩
        exact ⟨rfl, Keep.refl _ _⟩
      rintro e W' ⟨rfl, hk⟩
      exact ⟨rfl, fun _ => keepN hK hk, fun _ => keepN hK hk⟩
    · refine (askedSig_any 71 (enters_of Tryz.func71 (by kernel_rfl) rfl) _ _ c2 p2 W (a2.keep hK id) (b2.keep hK id) (S.chkG f.ar f.rs) (bsF v f 2) (chkG_eq _ _) (S.chkG_any v.A f.ar v.na v.ca v.B f.rs v.nb v.cb W hf.ra hf.rb hf.la hf.lb (by have := hs.na; omega) (by have := hs.nb; omega) _ rfl)).mono ?_
      rintro e W' ⟨rfl, hk⟩
      exact ⟨rfl, fun _ => keepN hK hk, fun _ => keepN hK hk⟩
    · refine (askedSig_any 71 (enters_of Tryz.func71 (by kernel_rfl) rfl) _ _ c3 p3 W (a3.keep hK id) (b3.keep hK id) (S.chkG f.lc []) (bsF v f 3) (chkG_eq _ _) (S.chkG_any v.L f.lc v.nl v.cl none [] 0 0 W hf.rl (Rd.none_ _ _) hf.ll rfl (by have := hs.nl; omega) (by omega) _ rfl)).mono ?_
      rintro e W' ⟨rfl, hk⟩
      exact ⟨rfl, fun _ => keepN hK hk, fun _ => keepN hK hk⟩
    · refine (askedBod_any 73 (enters_of Tryz.func73 (by kernel_rfl) rfl) v.D v.nd v.cd c4 p4 W (a4.keep hK id) (b4.keep hK id) (C.chkB f.bd) (bsF v f 4) (chkB_eq _) (C.cchk_any v.D f.bd v.nd v.cd W hf.rd hf.ld (by have := hs.nd; omega) _ rfl)).mono ?_
      rintro e W' ⟨rfl, hk⟩
      exact ⟨rfl, fun _ => keepN hK hk, fun _ => keepN hK hk⟩
  rintro e w' (⟨rfl, hb, hk⟩ | ⟨rfl, hb, hk⟩)
  · exact ⟨by rw [bsF_all h hb], hk⟩
  · exact ⟨by rw [bsF_not h hb], hk⟩

/-- What the values are that Check's region yields. -/
def SC (v : FV) (f : Fu) (b : Nat) : Nat → Value → World → Prop
  | 0 => fun u _ => u = v.val
  | 1 => AskV 120 48 27 (fnV 68) (v.cells)
  | 2 => fun u _ => u = .pointer (some ⟨b, 0, none⟩)
  | 3 => fun u _ => u = .string v.S
  | 4 => AskV 121 46 9 (fnV 16) (#[.string v.S])
  | 5 => fun u _ => u = .pointer (some ⟨b, 1, none⟩)
  | 6 => fun u _ => u = .agg #[.slice v.A v.na v.ca, .slice v.B v.nb v.cb]
  | 7 => AskV 122 114 24 (fnV 71) (#[.slice v.A v.na v.ca, .slice v.B v.nb v.cb])
  | 8 => fun u _ => u = .pointer (some ⟨b, 3, none⟩)
  | 9 => fun u _ => u = .slice v.L v.nl v.cl
  | 10 => fun u _ => u = .agg #[.slice v.L v.nl v.cl, .slice none 0 0]
  | 11 => AskV 122 114 24 (fnV 71) (#[.slice v.L v.nl v.cl, .slice none 0 0])
  | 12 => fun u _ => u = .pointer (some ⟨b, 4, none⟩)
  | 13 => fun u _ => u = .slice v.D v.nd v.cd
  | 14 => AskV 126 116 25 (fnV 73) (#[.slice v.D v.nd v.cd])
  | 15 => fun u w => ∃ g u0 u1 u2 u3 u4, u = .slice (some ⟨g, 0, none⟩) 5 5 ∧ Blk w g 75 #[u0, u1, u2, u3, u4] ∧ AskV 120 48 27 (fnV 68) (v.cells) u0 w ∧ AskV 121 46 9 (fnV 16) (#[.string v.S]) u1 w ∧ AskV 122 114 24 (fnV 71) (#[.slice v.A v.na v.ca, .slice v.B v.nb v.cb]) u2 w ∧ AskV 122 114 24 (fnV 71) (#[.slice v.L v.nl v.cl, .slice none 0 0]) u3 w ∧ AskV 126 116 25 (fnV 73) (#[.slice v.D v.nd v.cd]) u4 w
  | 16 => fun u _ => u = .bool (okF f)
  | 17 => fun u _ => u = .bool (!okF f)
  | _ => fun _ _ => True
theorem SC_stable (v : FV) (f : Fu) (b : Nat) : ∀ i u w w', SC v f b i u w → Keep NoB w w' → SC v f b i u w'
  | 0, _, _, _, h, _ => h
  | 1, _, _, _, h, hk => AskV.keep h hk
  | 2, _, _, _, h, _ => h
  | 3, _, _, _, h, _ => h
  | 4, _, _, _, h, hk => AskV.keep h hk
  | 5, _, _, _, h, _ => h
  | 6, _, _, _, h, _ => h
  | 7, _, _, _, h, hk => AskV.keep h hk
  | 8, _, _, _, h, _ => h
  | 9, _, _, _, h, _ => h
  | 10, _, _, _, h, _ => h
  | 11, _, _, _, h, hk => AskV.keep h hk
  | 12, _, _, _, h, _ => h
  | 13, _, _, _, h, _ => h
  | 14, _, _, _, h, hk => AskV.keep h hk
  | 15, _, _, _, ⟨g, u0, u1, u2, u3, u4, e, hb, a0, a1, a2, a3, a4⟩, hk => ⟨g, u0, u1, u2, u3, u4, e, hb.keep hk id, a0.keep hk, a1.keep hk, a2.keep hk, a3.keep hk, a4.keep hk⟩
  | 16, _, _, _, h, _ => h
  | 17, _, _, _, h, _ => h
  | _ + 18, _, _, _, h, _ => h

set_option maxRecDepth 100000 in
set_option maxHeartbeats 8000000 in
theorem check_any (v : FV) (f : Fu) (w : World) (h : FnAt w v f) (hs : SmF v) (R : Int) (hR : Hid (chkF f = R)) :
    Calls Tryz.prog 18 #[v.val] w fun e w' => e = .returned (.int .i64 R) ∧ Keep NoB w w' := by
  have bx := Blk.new w 27 v.cells
  have k0 := (Keep.refl NoB w).alloc (.cells v.cells 27)
  have HF := Lib.hid (h.keepN k0)
  obtain ⟨S, A, na, ca, B, nb, cb, L, nl, cl, D, nd, cd⟩ := v
  have HE := Lib.hid (fun W hf g u0 u1 u2 u3 u4 hb a0 a1 a2 a3 a4 => checks_any _ f W hf hs g u0 u1 u2 u3 u4 hb a0 a1 a2 a3 a4)
  obtain ⟨q0, q1, q2, q3, q4⟩ := blk5 bx
  dsimp only [FV.val, FV.cells] at bx k0 HF q0 q1 q2 q3 q4 ⊢
  have HX := Lib.hid bx
  clear h hs bx
  generalize hw1 : w.alloc (.cells #[.string S, .slice A na ca, .slice B nb cb, .slice L nl cl, .slice D nd cd] 27) = w1 at k0 HF q0 q1 q2 q3 q4 HX
  go_enter Tryz.func18, Tryz.ntmps18
  go_wp2_with fail
  clear hw1
  refine wp_region_props2 3 99 (NoB) (by kernel_rfl) (by kernel_rfl) (SC ⟨S, A, na, ca, B, nb, cb, L, nl, cl, D, nd, cd⟩ f w.heap.size) (fun i u x y _ h hk => SC_stable _ _ _ i u x y h hk) (of_decide_eq_true rfl) ?step ?spec ?fin
  case step =>
    intro i o a w' ho hic hF hK hA
    have hi : i < 18 := by simpa using (Array.getElem?_eq_some_iff.1 ho).1
    by_cases h0 : i = 0
    · subst h0
      simp only [List.getElem?_toArray, List.getElem?_cons_zero, Option.some.injEq] at ho
      subst ho
      have e1 : a.tmps.getD 1 undef = .pointer (some ⟨w.heap.size, 0, none⟩) := hF.2.2 1 (.inl (by decide))
      have c0 := Keep.cell hK q0 id
      have c1 := Keep.cell hK q1 id
      have c2 := Keep.cell hK q2 id
      have c3 := Keep.cell hK q3 id
      have c4 := Keep.cell hK q4 id
      refine Does.plain rfl ?_
      unfold yieldsK
      go_simp
      exact ⟨rfl, Keep.refl _ _⟩
    by_cases h1 : i = 1
    · subst h1
      simp only [List.getElem?_toArray, List.getElem?_cons_zero, List.getElem?_cons_succ, Option.some.injEq] at ho
      subst ho
      have e3 : a.tmps.getD 3 undef = .agg #[.string S, .slice A na ca, .slice B nb cb, .slice L nl cl, .slice D nd cd] := hA ⟨0, .data⟩ (by simp) rfl
      refine Does.plain rfl ?_
      unfold yieldsK
      go_simp
      refine (passesFun_any 68 ⟨S, A, na, ca, B, nb, cb, L, nl, cl, D, nd, cd⟩ w').mono ?_
      rintro e w2 ⟨u, rfl, h1, h2⟩
      exact ⟨_, rfl, h1, h2⟩
    by_cases h2 : i = 2
    · subst h2
      simp only [List.getElem?_toArray, List.getElem?_cons_zero, List.getElem?_cons_succ, Option.some.injEq] at ho
      subst ho
      have e1 : a.tmps.getD 1 undef = .pointer (some ⟨w.heap.size, 0, none⟩) := hF.2.2 1 (.inl (by decide))
      refine Does.plain rfl ?_
      unfold yieldsK
      go_simp
      exact ⟨rfl, Keep.refl _ _⟩
    by_cases h3 : i = 3
    · subst h3
      simp only [List.getElem?_toArray, List.getElem?_cons_zero, List.getElem?_cons_succ, Option.some.injEq] at ho
      subst ho
      have e5 : a.tmps.getD 5 undef = .pointer (some ⟨w.heap.size, 0, none⟩) := hA ⟨2, .data⟩ (by simp) rfl
      have c0 := Keep.cell hK q0 id
      refine Does.plain rfl ?_
      unfold yieldsK
      go_simp
      exact ⟨rfl, Keep.refl _ _⟩
    by_cases h4 : i = 4
    · subst h4
      simp only [List.getElem?_toArray, List.getElem?_cons_zero, List.getElem?_cons_succ, Option.some.injEq] at ho
      subst ho
      have e6 : a.tmps.getD 6 undef = .string S := hA ⟨3, .data⟩ (by simp) rfl
      refine Does.plain rfl ?_
      unfold yieldsK
      go_simp
      refine (passesStr_any 16 S w').mono ?_
      rintro e w2 ⟨u, rfl, h1, h2⟩
      exact ⟨_, rfl, h1, h2⟩
    by_cases h5 : i = 5
    · subst h5
      simp only [List.getElem?_toArray, List.getElem?_cons_zero, List.getElem?_cons_succ, Option.some.injEq] at ho
      subst ho
      have e1 : a.tmps.getD 1 undef = .pointer (some ⟨w.heap.size, 0, none⟩) := hF.2.2 1 (.inl (by decide))
      refine Does.plain rfl ?_
      unfold yieldsK
      go_simp
      exact ⟨rfl, Keep.refl _ _⟩
    by_cases h6 : i = 6
    · subst h6
      simp only [List.getElem?_toArray, List.getElem?_cons_zero, List.getElem?_cons_succ, Option.some.injEq] at ho
      subst ho
      have e8 : a.tmps.getD 8 undef = .pointer (some ⟨w.heap.size, 1, none⟩) := hA ⟨5, .data⟩ (by simp) rfl
      have c1 := Keep.cell hK q1 id
      have c2 := Keep.cell hK q2 id
      refine Does.plain rfl ?_
      unfold yieldsK
      go_simp
      exact ⟨rfl, Keep.refl _ _⟩
    by_cases h7 : i = 7
    · subst h7
      simp only [List.getElem?_toArray, List.getElem?_cons_zero, List.getElem?_cons_succ, Option.some.injEq] at ho
      subst ho
      have e9 : a.tmps.getD 9 undef = .agg #[.slice A na ca, .slice B nb cb] := hA ⟨6, .data⟩ (by simp) rfl
      refine Does.plain rfl ?_
      unfold yieldsK
      go_simp
      refine (passesSig_any 71 (.slice A na ca) (.slice B nb cb) w').mono ?_
      rintro e w2 ⟨u, rfl, h1, h2⟩
      exact ⟨_, rfl, h1, h2⟩
    by_cases h8 : i = 8
    · subst h8
      simp only [List.getElem?_toArray, List.getElem?_cons_zero, List.getElem?_cons_succ, Option.some.injEq] at ho
      subst ho
      have e1 : a.tmps.getD 1 undef = .pointer (some ⟨w.heap.size, 0, none⟩) := hF.2.2 1 (.inl (by decide))
      refine Does.plain rfl ?_
      unfold yieldsK
      go_simp
      exact ⟨rfl, Keep.refl _ _⟩
    by_cases h9 : i = 9
    · subst h9
      simp only [List.getElem?_toArray, List.getElem?_cons_zero, List.getElem?_cons_succ, Option.some.injEq] at ho
      subst ho
      have e11 : a.tmps.getD 11 undef = .pointer (some ⟨w.heap.size, 3, none⟩) := hA ⟨8, .data⟩ (by simp) rfl
      have c3 := Keep.cell hK q3 id
      refine Does.plain rfl ?_
      unfold yieldsK
      go_simp
      exact ⟨rfl, Keep.refl _ _⟩
    by_cases h10 : i = 10
    · subst h10
      simp only [List.getElem?_toArray, List.getElem?_cons_zero, List.getElem?_cons_succ, Option.some.injEq] at ho
      subst ho
      have e12 : a.tmps.getD 12 undef = .slice L nl cl := hA ⟨9, .data⟩ (by simp) rfl
      refine Does.plain rfl ?_
      unfold yieldsK
      go_simp
      refine (taking_any L nl cl w').mono ?_
      rintro e w2 ⟨rfl, h2⟩
      exact ⟨_, rfl, rfl, h2⟩
    by_cases h11 : i = 11
    · subst h11
      simp only [List.getElem?_toArray, List.getElem?_cons_zero, List.getElem?_cons_succ, Option.some.injEq] at ho
      subst ho
      have e13 : a.tmps.getD 13 undef = .agg #[.slice L nl cl, .slice none 0 0] := hA ⟨10, .data⟩ (by simp) rfl
      refine Does.plain rfl ?_
      unfold yieldsK
      go_simp
      refine (passesSig_any 71 (.slice L nl cl) (.slice none 0 0) w').mono ?_
      rintro e w2 ⟨u, rfl, h1, h2⟩
      exact ⟨_, rfl, h1, h2⟩
    by_cases h12 : i = 12
    · subst h12
      simp only [List.getElem?_toArray, List.getElem?_cons_zero, List.getElem?_cons_succ, Option.some.injEq] at ho
      subst ho
      have e1 : a.tmps.getD 1 undef = .pointer (some ⟨w.heap.size, 0, none⟩) := hF.2.2 1 (.inl (by decide))
      refine Does.plain rfl ?_
      unfold yieldsK
      go_simp
      exact ⟨rfl, Keep.refl _ _⟩
    by_cases h13 : i = 13
    · subst h13
      simp only [List.getElem?_toArray, List.getElem?_cons_zero, List.getElem?_cons_succ, Option.some.injEq] at ho
      subst ho
      have e15 : a.tmps.getD 15 undef = .pointer (some ⟨w.heap.size, 4, none⟩) := hA ⟨12, .data⟩ (by simp) rfl
      have c4 := Keep.cell hK q4 id
      refine Does.plain rfl ?_
      unfold yieldsK
      go_simp
      exact ⟨rfl, Keep.refl _ _⟩
    by_cases h14 : i = 14
    · subst h14
      simp only [List.getElem?_toArray, List.getElem?_cons_zero, List.getElem?_cons_succ, Option.some.injEq] at ho
      subst ho
      have e16 : a.tmps.getD 16 undef = .slice D nd cd := hA ⟨13, .data⟩ (by simp) rfl
      refine Does.plain rfl ?_
      unfold yieldsK
      go_simp
      refine (passesBod_any 73 D nd cd w').mono ?_
      rintro e w2 ⟨u, rfl, h1, h2⟩
      exact ⟨_, rfl, h1, h2⟩
    by_cases h15 : i = 15
    · subst h15
      simp only [List.getElem?_toArray, List.getElem?_cons_zero, List.getElem?_cons_succ, Option.some.injEq] at ho
      subst ho
      obtain ⟨c0, p0, e4, a0, b0⟩ := hA ⟨1, .data⟩ (by simp) rfl
      have e4 : a.tmps.getD 4 undef = askV 120 #[.pointer (some ⟨c0, 0, none⟩), .pointer (some ⟨p0, 0, none⟩)] := e4
      obtain ⟨c1, p1, e7, a1, b1⟩ := hA ⟨4, .data⟩ (by simp) rfl
      have e7 : a.tmps.getD 7 undef = askV 121 #[.pointer (some ⟨c1, 0, none⟩), .pointer (some ⟨p1, 0, none⟩)] := e7
      obtain ⟨c2, p2, e10, a2, b2⟩ := hA ⟨7, .data⟩ (by simp) rfl
      have e10 : a.tmps.getD 10 undef = askV 122 #[.pointer (some ⟨c2, 0, none⟩), .pointer (some ⟨p2, 0, none⟩)] := e10
      obtain ⟨c3, p3, e14, a3, b3⟩ := hA ⟨11, .data⟩ (by simp) rfl
      have e14 : a.tmps.getD 14 undef = askV 122 #[.pointer (some ⟨c3, 0, none⟩), .pointer (some ⟨p3, 0, none⟩)] := e14
      obtain ⟨c4, p4, e17, a4, b4⟩ := hA ⟨14, .data⟩ (by simp) rfl
      have e17 : a.tmps.getD 17 undef = askV 126 #[.pointer (some ⟨c4, 0, none⟩), .pointer (some ⟨p4, 0, none⟩)] := e17
      refine Does.plain rfl ?_
      unfold yieldsK
      unfold askV at *
      simp only [Array.getD_eq_getD_getElem?] at e4 e7 e10 e14 e17
      go_simp
      refine ⟨⟨w'.heap.size, _, _, _, _, _, rfl, Blk.new _ _ _, ⟨c0, p0, rfl, a0.alloc _, b0.alloc _⟩, ⟨c1, p1, rfl, a1.alloc _, b1.alloc _⟩, ⟨c2, p2, rfl, a2.alloc _, b2.alloc _⟩, ⟨c3, p3, rfl, a3.alloc _, b3.alloc _⟩, ⟨c4, p4, rfl, a4.alloc _, b4.alloc _⟩⟩, (Keep.refl _ _).alloc _⟩
    by_cases h16 : i = 16
    · subst h16
      simp only [List.getElem?_toArray, List.getElem?_cons_zero, List.getElem?_cons_succ, Option.some.injEq] at ho
      subst ho
      obtain ⟨g, u0, u1, u2, u3, u4, e18, hb, a0, a1, a2, a3, a4⟩ := hA ⟨15, .data⟩ (by simp) rfl
      have e18 : a.tmps.getD 18 undef = .slice (some ⟨g, 0, none⟩) 5 5 := e18
      refine Does.plain rfl ?_
      unfold yieldsK
      go_simp
      refine (HE.out w' (HF.out.keepN hK) g u0 u1 u2 u3 u4 hb a0 a1 a2 a3 a4).mono ?_
      rintro e w2 ⟨rfl, h2⟩
      exact ⟨_, rfl, rfl, h2⟩
    by_cases h17 : i = 17
    · subst h17
      simp only [List.getElem?_toArray, List.getElem?_cons_zero, List.getElem?_cons_succ, Option.some.injEq] at ho
      subst ho
      have e19 : a.tmps.getD 19 undef = .bool (okF f) := hA ⟨16, .data⟩ (by simp) rfl
      refine Does.plain rfl ?_
      unfold yieldsK
      go_simp
      exact ⟨rfl, Keep.refl _ _⟩
    omega
  case spec =>
    intro o a w' ho
    simp at ho
  case fin =>
    intro a w' hF gK hA
    have e20 : a.tmps.getD (3 + 17) undef = .bool (!okF f) := hA 17 (by decide)
    have ha := frame_fill (n := 18) hF (of_decide_eq_true rfl)
    rw [ha]
    rw [show List.range 18 = [0, 1, 2, 3, 4, 5, 6, 7, 8, 9, 10, 11, 12, 13, 14, 15, 16, 17] from rfl]
    simp only [List.map_cons, List.map_nil, e20]
    generalize a.tmps.getD (3 + 0) undef = u0
    generalize a.tmps.getD (3 + 1) undef = u1
    generalize a.tmps.getD (3 + 2) undef = u2
    generalize a.tmps.getD (3 + 3) undef = u3
    generalize a.tmps.getD (3 + 4) undef = u4
    generalize a.tmps.getD (3 + 5) undef = u5
    generalize a.tmps.getD (3 + 6) undef = u6
    generalize a.tmps.getD (3 + 7) undef = u7
    generalize a.tmps.getD (3 + 8) undef = u8
    generalize a.tmps.getD (3 + 9) undef = u9
    generalize a.tmps.getD (3 + 10) undef = u10
    generalize a.tmps.getD (3 + 11) undef = u11
    generalize a.tmps.getD (3 + 12) undef = u12
    generalize a.tmps.getD (3 + 13) undef = u13
    generalize a.tmps.getD (3 + 14) undef = u14
    generalize a.tmps.getD (3 + 15) undef = u15
    generalize a.tmps.getD (3 + 16) undef = u16
    simp only [fillT, List.setIfInBounds_toArray, List.set_cons_zero, List.set_cons_succ]
    have HR := Lib.hid (keepN k0 gK)
    clear gK k0 hA hF ha e20 HE HF HX q0 q1 q2 q3 q4
    cases ho : okF f
    · obtain rfl : 70 = R := by rw [← hR.out]; exact (chkF_no ho).symm
      clear hR ho
      go_wp2
      go_ret
      exact ⟨rfl, HR.out⟩
    · obtain rfl : 0 = R := by rw [← hR.out]; exact (chkF_ok ho).symm
      clear hR ho
      go_wp2
      go_ret
      exact ⟨rfl, HR.out⟩

end Go.Proofs.YtbnekeomdhljhaaGreatDoor.F

namespace Go.Proofs.YtbnekeomdhljhaaGreatDoor.F
open Go.RowKit W

set_option maxRecDepth 100000 in
set_option maxHeartbeats 4000000 in
theorem great_no (v : FV) (w : World) (hs : SmF v) : Calls Tryz.prog 7 #[v.val] w fun e w' => e = .returned (.int .i64 0) ∧ Keep NoB w w' := by
  obtain ⟨s0, A, na, ca, B, nb, cb, L, nl, cl, D, nd, cd⟩ := v
  obtain ⟨h1, h2, h3, h4, h5⟩ := hs
  dsimp only at h1 h2 h3 h4 h5
  have k0 := (Keep.refl NoB w).alloc (.cells (FV.cells ⟨s0, A, na, ca, B, nb, cb, L, nl, cl, D, nd, cd⟩) 27)
  have HG := Lib.hid (fun w => S.great_no none A B 0 0 na ca nb cb w (Nat.zero_le _) h2 h3)
  unfold FV.val FV.cells at *
  go_enter Tryz.func7, Tryz.ntmps7
  go_wp2_with (go_at_call 39; refine (HG.out _).mono ?_; rintro e w1 ⟨rfl, k1⟩)
  go_ret
  exact ⟨rfl, keepN k0 k1⟩
theorem not_small {v : FV} (hs : ¬ SmF v) : 100 < v.S.size ∨ (v.S.size ≤ 100 ∧ 100 < v.nl) ∨ (v.S.size ≤ 100 ∧ v.nl ≤ 100 ∧ 600 < v.nd) ∨ (v.S.size ≤ 100 ∧ v.nl ≤ 100 ∧ v.nd ≤ 600 ∧ ¬ (0 ≤ 100 ∧ v.na ≤ 100 ∧ v.nb ≤ 100)) := by
  by_cases h1 : v.S.size ≤ 100
  · by_cases h2 : v.nl ≤ 100
    · by_cases h3 : v.nd ≤ 600
      · exact .inr (.inr (.inr ⟨h1, h2, h3, fun h => hs ⟨h1, h.2.1, h.2.2, h2, h3⟩⟩))
      · exact .inr (.inr (.inl ⟨h1, h2, by omega⟩))
    · exact .inr (.inl ⟨h1, by omega⟩)
  · exact .inl (by omega)
set_option maxRecDepth 100000 in
set_option maxHeartbeats 4000000 in
theorem great_yes (v : FV) (w : World) (hs : ¬ SmF v) : Calls Tryz.prog 7 #[v.val] w fun e w' => e = .returned (.int .i64 1) ∧ Keep NoB w w' := by
  have hn := not_small hs
  obtain ⟨s0, A, na, ca, B, nb, cb, L, nl, cl, D, nd, cd⟩ := v
  dsimp only at hn
  have k0 := (Keep.refl NoB w).alloc (.cells (FV.cells ⟨s0, A, na, ca, B, nb, cb, L, nl, cl, D, nd, cd⟩) 27)
  unfold FV.val FV.cells at *
  clear hs
  rcases hn with h1 | ⟨h1, h2⟩ | ⟨h1, h2, h3⟩ | ⟨h1, h2, h3, h4⟩
  · go_enter Tryz.func7, Tryz.ntmps7
    go_wp2
    go_ret
    exact ⟨rfl, k0⟩
  · go_enter Tryz.func7, Tryz.ntmps7
    go_wp2
    go_ret
    exact ⟨rfl, k0⟩
  · go_enter Tryz.func7, Tryz.ntmps7
    go_wp2
    go_ret
    exact ⟨rfl, k0⟩
  · have HG := Lib.hid (fun w => S.great_yes none A B 0 0 na ca nb cb w h4)
    clear h4
    go_enter Tryz.func7, Tryz.ntmps7
    go_wp2_with (go_at_call 39; refine (HG.out _).mono ?_; rintro e w1 ⟨rfl, k1⟩)
    go_ret
    exact ⟨rfl, keepN k0 k1⟩

theorem fun_size : (Tryz.prog.info? 27).map (·.size) = some 5 := by kernel_rfl
theorem ret_fun {fn : Func} {p : Tmp} {tmps : Array Value} {w : World} {g : Nat} {v : FV} (h : fn.results = #[.cell p 27]) (hp : tmps.getD p undef = .pointer (some ⟨g, 0, none⟩)) (hb : Blk w g 27 v.cells) :
    (results fn tmps).run Tryz.prog w = .ok v.val w :=
  results_cell_row h tmps w g 27 v.cells (0, 0) _ hp hb Tryz.underlying27 rfl fun_size

/-- The laws' own function. -/
def fSome : Fu := ⟨[102], [1, 4], [2], [3], [(24, 0, 0)]⟩
theorem some_I : C.AllI [(24, 0, 0)] := fun x hx => by rw [List.mem_singleton.1 hx]; exact ⟨show O.I64 0 by unfold O.I64; omega, show O.I64 0 by unfold O.I64; omega⟩
/-- A function that is small, and reads as one. -/
def FnV (f : Fu) (v : FV) (w : World) : Prop := FnAt w v f ∧ SmF v
theorem FnV.keepN {f : Fu} {v : FV} {w w' : World} (h : FnV f v w) (hk : Keep NoB w w') : FnV f v w' := ⟨h.1.keepN hk, h.2⟩
set_option maxRecDepth 100000 in
set_option maxHeartbeats 4000000 in
theorem some_any (w : World) : Calls Tryz.prog 37 #[] w fun e w' => ∃ v : FV, e = .returned v.val ∧ FnV fSome v w' ∧ Keep NoB w w' := by
  obtain ⟨v, hv⟩ : ∃ v : FV, v = ⟨⟨#[102]⟩, some ⟨w.heap.size + 1, 0, none⟩, 2, 2, some ⟨w.heap.size + 1 + 1, 0, none⟩, 1, 1, some ⟨w.heap.size + 1 + 1 + 1, 0, none⟩, 1, 1, some ⟨w.heap.size + 1 + 1 + 1 + 1, 0, none⟩, 1, 1⟩ := ⟨_, rfl⟩
  have HV := Lib.hid hv
  have hb0 := ((((Blk.new w 27 v.cells).alloc (.cells #[.int .i64 1, .int .i64 4] 3)).alloc (.cells #[.int .i64 2] 3)).alloc (.cells #[.int .i64 3] 3)).alloc (.cells #[.int .i64 24, .int .i64 0, .int .i64 0] 74)
  have h1 := rd_new (w.alloc (.cells v.cells 27)) 3 #[.int .i64 1, .int .i64 4]
  have k1 := ((((Keep.refl NoB (w.alloc (.cells v.cells 27))).alloc (.cells #[.int .i64 1, .int .i64 4] 3)).alloc (.cells #[.int .i64 2] 3)).alloc (.cells #[.int .i64 3] 3)).alloc (.cells #[.int .i64 24, .int .i64 0, .int .i64 0] 74)
  have h2 := rd_new ((w.alloc (.cells v.cells 27)).alloc (.cells #[.int .i64 1, .int .i64 4] 3)) 3 #[.int .i64 2]
  have h3 := rd_new (((w.alloc (.cells v.cells 27)).alloc (.cells #[.int .i64 1, .int .i64 4] 3)).alloc (.cells #[.int .i64 2] 3)) 3 #[.int .i64 3]
  have h4 := rd_new ((((w.alloc (.cells v.cells 27)).alloc (.cells #[.int .i64 1, .int .i64 4] 3)).alloc (.cells #[.int .i64 2] 3)).alloc (.cells #[.int .i64 3] 3)) 74 #[.int .i64 24, .int .i64 0, .int .i64 0]
  simp only [World.size_alloc] at h1 h2 h3 h4
  have HF : Hid (FnV fSome v (((((w.alloc (.cells v.cells 27)).alloc (.cells #[.int .i64 1, .int .i64 4] 3)).alloc (.cells #[.int .i64 2] 3)).alloc (.cells #[.int .i64 3] 3)).alloc (.cells #[.int .i64 24, .int .i64 0, .int .i64 0] 74))) := by
    subst hv
    refine ⟨⟨rfl, ?_, ?_, ?_, h4, rfl, rfl, rfl, rfl, some_I⟩, ⟨Nat.le_of_ble_eq_true rfl, Nat.le_of_ble_eq_true rfl, Nat.le_of_ble_eq_true rfl, Nat.le_of_ble_eq_true rfl, Nat.le_of_ble_eq_true rfl⟩⟩
    · exact h1.keepN ((((Keep.refl NoB _).alloc _).alloc _).alloc _)
    · exact h2.keepN (((Keep.refl NoB _).alloc _).alloc _)
    · exact h3.keepN ((Keep.refl NoB _).alloc _)
  have HB := Lib.hid hb0
  have HK := Lib.hid (keepN ((Keep.refl NoB w).alloc _) k1)
  subst hv
  unfold FV.cells at *
  clear hb0 h1 h2 h3 h4 k1 HV
  go_enter Tryz.func37, Tryz.ntmps37
  go_wp2
  refine bodyPost_ret (ret_fun (v := ⟨⟨#[102]⟩, some ⟨w.heap.size + 1, 0, none⟩, 2, 2, some ⟨w.heap.size + 1 + 1, 0, none⟩, 1, 1, some ⟨w.heap.size + 1 + 1 + 1, 0, none⟩, 1, 1, some ⟨w.heap.size + 1 + 1 + 1 + 1, 0, none⟩, 1, 1⟩) rfl rfl HB.out) rfl ?_
  exact ⟨⟨⟨#[102]⟩, some ⟨w.heap.size + 1, 0, none⟩, 2, 2, some ⟨w.heap.size + 1 + 1, 0, none⟩, 1, 1, some ⟨w.heap.size + 1 + 1 + 1, 0, none⟩, 1, 1, some ⟨w.heap.size + 1 + 1 + 1 + 1, 0, none⟩, 1, 1⟩, rfl, HF.out, HK.out⟩

end Go.Proofs.YtbnekeomdhljhaaGreatDoor.F

namespace Go.Proofs.YtbnekeomdhljhaaGreatDoor.C
open Go.RowKit O

/-- The places that an instruction at a place makes heads, of those that there are. -/
def madeL (n : Nat) (x : I3) (k : Nat) : List Int := (if gB x = true then [gN x] else []) ++ (if (gB x || eB x) = true ∧ k + 1 < n then [((k + 1 : Nat) : Int)] else [])
/-- How often a place is noted. -/
def metN (l : List I3) : Nat → Int → Nat
  | 0, h => if h = 0 then 1 else 0
  | k + 1, h => metN l k h + (madeL l.length (at0 l k) k).count h
theorem madeL_len (n : Nat) (x : I3) (k : Nat) : (madeL n x k).length ≤ 2 := by
  unfold madeL
  rw [List.length_append]
  have h1 : (if gB x = true then [gN x] else []).length ≤ 1 := by split <;> simp
  have h2 : (if (gB x || eB x) = true ∧ k + 1 < n then [((k + 1 : Nat) : Int)] else []).length ≤ 1 := by split <;> simp
  omega
theorem metN_le (l : List I3) (k : Nat) (h : Int) : metN l k h ≤ 1 + 2 * k := by
  induction k with
  | zero => unfold metN; split <;> omega
  | succ k ih =>
    unfold metN
    have h1 := madeL_len l.length (at0 l k) k
    have h2 := List.count_le_length (a := h) (l := madeL l.length (at0 l k) k)
    omega
theorem metN_pos (l : List I3) (k : Nat) (h : Int) : 0 < metN l k h ↔ h = 0 ∨ ∃ j, j < k ∧ h ∈ madeL l.length (at0 l j) j := by
  induction k with
  | zero =>
    unfold metN
    constructor
    · intro hp; by_cases e : h = 0
      · exact .inl e
      · rw [if_neg e] at hp; omega
    · rintro (e | ⟨j, hj, _⟩)
      · rw [if_pos e]; omega
      · omega
  | succ k ih =>
    unfold metN
    constructor
    · intro hp
      by_cases h1 : 0 < metN l k h
      · rcases ih.1 h1 with e | ⟨j, hj, hm⟩
        · exact .inl e
        · exact .inr ⟨j, by omega, hm⟩
      · exact .inr ⟨k, by omega, List.count_pos_iff.1 (by omega)⟩
    · rintro (e | ⟨j, hj, hm⟩)
      · have := ih.2 (.inl e); omega
      · by_cases e : j = k
        · subst e; have := List.count_pos_iff.2 hm; omega
        · have := ih.2 (.inr ⟨j, by omega, hm⟩); omega
theorem met_head {l : List I3} {i : Nat} (hi : i < l.length) : decide (0 < metN l l.length (i : Int)) = headB l i := by
  rw [Bool.eq_iff_iff, decide_eq_true_iff, metN_pos]
  unfold headB
  simp only [Bool.or_eq_true, decide_eq_true_eq, List.any_eq_true, Bool.and_eq_true]
  constructor
  · rintro (e | ⟨j, hj, hm⟩)
    · exact .inl (.inl (.inl (by omega)))
    · unfold madeL at hm
      rcases List.mem_append.1 hm with h | h
      · split at h
        · next hg => exact .inr ⟨at0 l j, by rw [at0_of hj]; exact List.getElem_mem hj, hg, (List.mem_singleton.1 h).symm⟩
        · simp at h
      · split at h
        · next hg =>
          have e := List.mem_singleton.1 h
          obtain rfl : i = j + 1 := by omega
          rw [Nat.add_sub_cancel]
          rcases Bool.or_eq_true_iff.1 hg.1 with h1 | h1
          · exact .inl (.inr h1)
          · exact .inl (.inl (.inr h1))
        · simp at h
  · have made : ∀ j, j + 1 = i → (gB (at0 l j) || eB (at0 l j)) = true → (i : Int) ∈ madeL l.length (at0 l j) j := by
      intro j hj hg
      unfold madeL
      refine List.mem_append.2 (.inr ?_)
      rw [if_pos ⟨hg, by omega⟩, hj]
      simp
    by_cases h0 : i = 0
    · exact fun _ => .inl (by omega)
    rintro (((e | e) | e) | ⟨x, hx, hg, hn⟩)
    · exact absurd e h0
    · exact .inr ⟨i - 1, by omega, made _ (by omega) (by rw [e]; simp)⟩
    · exact .inr ⟨i - 1, by omega, made _ (by omega) (by rw [e]; simp)⟩
    · obtain ⟨j, hj, rfl⟩ := List.mem_iff_getElem.1 hx
      refine .inr ⟨j, hj, ?_⟩
      rw [at0_of hj]
      unfold madeL
      refine List.mem_append.2 (.inl ?_)
      rw [if_pos hg, hn]; simp

theorem range_filter_snoc (p : Nat → Bool) (k : Nat) : (List.range (k + 1)).filter p = (List.range k).filter p ++ if p k = true then [k] else [] := by
  rw [List.range_succ, List.filter_append]
  cases h : p k <;> simp [h]

/-- Heads as numbers. -/
def hzs (l : List I3) : List Int := (headsL l).map fun i : Nat => (i : Int)
theorem heads_mem {l : List I3} {i : Nat} : i ∈ headsL l ↔ i < l.length ∧ headB l i = true := by
  unfold headsL; rw [List.mem_filter, List.mem_range]
theorem hzs_sorted (l : List I3) : (hzs l).Pairwise (· ≤ ·) := by
  unfold hzs
  rw [List.pairwise_map]
  refine List.Pairwise.imp (R := (· < ·)) (fun {a b} h => by omega) ?_
  exact List.Pairwise.filter _ List.pairwise_lt_range
theorem hzs_length_le (l : List I3) : (hzs l).length ≤ l.length := by
  unfold hzs headsL
  rw [List.length_map]
  exact Nat.le_trans (List.length_filter_le _ _) (by simp)
theorem hzs_contains {l : List I3} (x : Int) : (hzs l).contains x = true ↔ ∃ h : Nat, x = (h : Int) ∧ h < l.length ∧ headB l h = true := by
  unfold hzs
  rw [List.contains_iff_mem, List.mem_map]
  constructor
  · rintro ⟨a, ha, e⟩; exact ⟨a, e.symm, heads_mem.1 ha⟩
  · rintro ⟨h, e, hm⟩; exact ⟨h, heads_mem.2 hm, e.symm⟩
theorem heads_split {l : List I3} {h : Nat} (hn : h < l.length) (hh : headB l h = true) :
    headsL l = (List.range h).filter (headB l) ++ h :: (List.range' (h + 1) (l.length - (h + 1))).filter (headB l) := by
  unfold headsL
  have e : List.range l.length = List.range h ++ h :: List.range' (h + 1) (l.length - (h + 1)) := by
    rw [List.range_eq_range', List.range_eq_range', show l.length = h + (1 + (l.length - (h + 1))) by omega, ← List.range'_append_1, Nat.zero_add]
    congr 1
    rw [show h + (1 + (l.length - (h + 1))) - (h + 1) = l.length - (h + 1) by omega, Nat.add_comm 1, List.range'_succ]
  rw [e, List.filter_append, List.filter_cons, if_pos hh]
theorem stretch_at {l : List I3} {h : Nat} (hn : h < l.length) (hh : headB l h = true) (i : Nat) (hi : (hzs l).countP (fun y => decide (y < (h : Int))) = i) :
    i < (hzs l).length ∧ ((hzs l).length = i + 1 → nextH l h = l.length) ∧ ∀ hlt : i + 1 < (hzs l).length, (hzs l)[i + 1] = (nextH l h : Int) := by
  have hs := heads_split hn hh
  have hz : hzs l = ((List.range h).filter (headB l)).map (fun i : Nat => (i : Int)) ++ (h : Int) :: ((List.range' (h + 1) (l.length - (h + 1))).filter (headB l)).map (fun i : Nat => (i : Int)) := by
    unfold hzs; rw [hs]; simp
  have hc : (hzs l).countP (fun y => decide (y < (h : Int))) = ((List.range h).filter (headB l)).length := by
    rw [hz, List.countP_append, List.countP_cons]
    have h1 : (((List.range h).filter (headB l)).map (fun i : Nat => (i : Int))).countP (fun y => decide (y < (h : Int))) = ((List.range h).filter (headB l)).length := by
      rw [List.countP_eq_length.2]
      · simp
      · intro a ha
        obtain ⟨b, hb, rfl⟩ := List.mem_map.1 ha
        have := List.mem_range.1 (List.mem_filter.1 hb).1
        simp; omega
    have h2 : (((List.range' (h + 1) (l.length - (h + 1))).filter (headB l)).map (fun i : Nat => (i : Int))).countP (fun y => decide (y < (h : Int))) = 0 := by
      rw [List.countP_eq_zero]
      intro a ha
      obtain ⟨b, hb, rfl⟩ := List.mem_map.1 ha
      have := List.mem_range'_1.1 (List.mem_filter.1 hb).1
      simp; omega
    rw [h1, h2]; simp
  rw [hc] at hi
  have hl : (hzs l).length = i + 1 + ((List.range' (h + 1) (l.length - (h + 1))).filter (headB l)).length := by
    rw [hz]; simp [hi]; omega
  refine ⟨by omega, fun e => ?_, fun hlt => ?_⟩
  · have h0 : (List.range' (h + 1) (l.length - (h + 1))).filter (headB l) = [] := List.length_eq_zero_iff.1 (by omega)
    unfold nextH
    rw [← List.head?_filter, h0]; rfl
  · have h0 : 0 < ((List.range' (h + 1) (l.length - (h + 1))).filter (headB l)).length := by omega
    have e : (hzs l)[i + 1]? = some (nextH l h : Int) := by
      rw [hz, List.getElem?_append_right (by simp; omega)]
      simp only [List.length_map, hi]
      rw [show i + 1 - i = 0 + 1 by omega, List.getElem?_cons_succ, List.getElem?_map]
      unfold nextH
      rw [← List.head?_filter]
      cases hf : (List.range' (h + 1) (l.length - (h + 1))).filter (headB l) with
      | nil => rw [hf] at h0; simp at h0
      | cons a t => simp
    exact Option.some.inj ((List.getElem?_eq_getElem hlt).symm.trans e)

/-- The place behind a stretch's last one, told by what lies between. -/
theorem nextH_of {l : List I3} {h to : Nat} (h1 : h < to) (h2 : to ≤ l.length) (hb : ∀ j, h < j → j < to → headB l j = false) (he : to = l.length ∨ headB l to = true) : nextH l h = to := by
  unfold nextH
  have hsp : List.range' (h + 1) (l.length - (h + 1)) = List.range' (h + 1) (to - (h + 1)) ++ List.range' to (l.length - to) := by
    rw [show l.length - (h + 1) = (to - (h + 1)) + (l.length - to) by omega, ← List.range'_append_1, show h + 1 + (to - (h + 1)) = to by omega]
  have hno : (List.range' (h + 1) (to - (h + 1))).find? (headB l) = none := by
    rw [List.find?_eq_none]
    intro a ha
    have := List.mem_range'_1.1 ha
    rw [hb a (by omega) (by omega)]; decide
  rw [hsp, List.find?_append, hno, Option.none_or]
  rcases he with e | e
  · rw [e, Nat.sub_self]; simp
  · by_cases ht : to = l.length
    · rw [ht, Nat.sub_self]; simp
    · rw [show l.length - to = (l.length - to - 1) + 1 by omega, List.range'_succ, List.find?_cons_of_pos e]; rfl
theorem nextH_spec {l : List I3} {h : Nat} (hn : h < l.length) : h < nextH l h ∧ nextH l h ≤ l.length ∧ (∀ j, h < j → j < nextH l h → headB l j = false) ∧ (nextH l h = l.length ∨ (nextH l h < l.length ∧ headB l (nextH l h) = true)) := by
  unfold nextH
  cases hf : (List.range' (h + 1) (l.length - (h + 1))).find? (headB l) with
  | none =>
    simp only [Option.getD_none]
    refine ⟨hn, Nat.le_refl _, fun j h1 h2 => ?_, .inl (by trivial)⟩
    have := List.find?_eq_none.1 hf j (List.mem_range'_1.2 ⟨by omega, by omega⟩)
    simpa using this
  | some t =>
    simp only [Option.getD_some]
    have hm := List.mem_range'_1.1 (List.mem_of_find?_eq_some hf)
    refine ⟨by omega, by omega, fun j h1 h2 => ?_, .inr ⟨by omega, List.find?_some hf⟩⟩
    have hs := List.find?_range'_eq_some.1 hf
    have := hs.2.2 j (by omega) h2
    simpa using this

end Go.Proofs.YtbnekeomdhljhaaGreatDoor.C

namespace Go.Proofs.YtbnekeomdhljhaaGreatDoor.C
open Go.RowKit O

theorem gone_op (k b : Int) (x : I3) : (gone k b x).1 = x.1 ∧ (gone k b x).2.2 = x.2.2 := by unfold gone; split <;> exact ⟨rfl, rfl⟩
theorem gone_yes {k b : Int} {x : I3} (h1 : gB x = true) (h2 : k < gN x) : gone k b x = (x.1, x.2.1 + b, x.2.2) := if_pos ⟨h1, h2⟩
theorem gone_no {k b : Int} {x : I3} (h : ¬ (gB x = true ∧ k < gN x)) : gone k b x = x := if_neg h
theorem gone_back {k : Int} {x : I3} (hx : gN x ≤ 510) : gone k (-1) (gone k 1 x) = x := by
  by_cases h : gB x = true ∧ k < gN x
  · obtain ⟨h1, h2⟩ := h
    rw [gone_yes h1 h2]
    have e := gN_yes h1
    have hb := gB_in h1
    have h3 : gB (x.1, x.2.1 + 1, x.2.2) = true := gB_put h1 (by omega) (by omega)
    have e3 := gN_yes h3
    rw [gone_yes h3 (by rw [e3]; show k < x.2.1 + 1; omega)]
    show (x.1, x.2.1 + 1 + -1, x.2.2) = x
    rw [show x.2.1 + 1 + -1 = x.2.1 by omega]
  · rw [gone_no h, gone_no h]
theorem insL_take (l : List I3) {k : Nat} (x : I3) (hk : k ≤ l.length) : (insL l k x).take k = (l.take k).map (gone k 1) := by
  unfold insL
  rw [List.take_append_of_le_length (by simp; omega), List.take_of_length_le (by simp; omega)]
theorem insL_drop (l : List I3) {k : Nat} (x : I3) (hk : k ≤ l.length) : (insL l k x).drop (k + 1) = (l.drop k).map (gone k 1) := by
  unfold insL
  have h : ((l.take k).map (gone k 1)).length = k := by simp; omega
  rw [List.drop_append, h, List.drop_of_length_le (by rw [h]; omega), show k + 1 - k = 1 by omega]
  rfl
theorem delL_insL {l : List I3} {k : Nat} {x : I3} (hk : k < l.length) (ho : okB l = true) (hm : l.length + 1 ≤ 512) : delL (insL l k x) k = l := by
  unfold delL
  rw [insL_take l x (by omega), insL_drop l x (by omega), ← List.map_append, ← List.map_append, List.take_append_drop, List.map_map]
  conv => rhs; rw [← List.map_id l]
  apply List.map_congr_left
  intro y hy
  have h2 := (item_parts (List.all_eq_true.1 (okB_parts ho).2.2.2 y hy)).2
  exact gone_back (by omega)
theorem insL_here (l : List I3) {k : Nat} (x : I3) (hk : k ≤ l.length) : (insL l k x)[k]? = some x := by
  unfold insL
  rw [List.getElem?_append_right (by simp; omega)]
  have h : ((l.take k).map (gone k 1)).length = k := by simp; omega
  rw [h, Nat.sub_self]; rfl
theorem insL_low (l : List I3) {k i : Nat} (x : I3) (hi : i < k) (hk : k ≤ l.length) : (insL l k x)[i]? = some (gone k 1 (l[i]'(by omega))) := by
  unfold insL
  rw [List.getElem?_append_left (by simp; omega), List.getElem?_map, List.getElem?_take, if_pos hi, List.getElem?_eq_getElem (by omega)]
  rfl
theorem insL_high (l : List I3) {k i : Nat} (x : I3) (hi : k ≤ i) (hl : i < l.length) : (insL l k x)[i + 1]? = some (gone k 1 l[i]) := by
  unfold insL
  have h : ((l.take k).map (gone k 1)).length = k := by simp; omega
  rw [List.getElem?_append_right (by rw [h]; omega), h, show i + 1 - k = (i - k) + 1 by omega, List.getElem?_cons_succ, List.getElem?_map, List.getElem?_drop, show k + (i - k) = i by omega, List.getElem?_eq_getElem hl]
  rfl
theorem cnt_gone (l : List I3) (k b op : Int) : cntB (l.map (gone k b)) op = cntB l op := by
  unfold cntB
  rw [List.countP_map]
  congr 1
  funext x
  show ((gone k b x).1 == op) = (x.1 == op)
  rw [(gone_op k b x).1]
theorem cnt_ins (l : List I3) (k : Nat) (x : I3) : cntB (insL l k x) x.1 = cntB l x.1 + 1 := by
  unfold insL
  have h : cntB ((l.take k).map (gone k 1) ++ x :: (l.drop k).map (gone k 1)) x.1 = cntB ((l.take k).map (gone k 1)) x.1 + (cntB ((l.drop k).map (gone k 1)) x.1 + 1) := by
    unfold cntB; rw [List.countP_append, List.countP_cons]; simp
  have h2 : cntB (l.take k) x.1 + cntB (l.drop k) x.1 = cntB l x.1 := by
    unfold cntB; rw [← List.countP_append, List.take_append_drop]
  rw [h, cnt_gone, cnt_gone]
  omega

/-! ### counts -/
theorem cnt_le (l : List I3) (op : Int) : cntB l op ≤ l.length := List.countP_le_length
/-- How many of the first ops' there are. -/
def sumB (l : List I3) (k : Nat) : Nat := l.countP fun x => decide (0 ≤ x.1 ∧ x.1 < (k : Int))
theorem sum_zero (l : List I3) : sumB l 0 = 0 := by
  unfold sumB
  rw [List.countP_eq_zero]
  intro x _
  rw [decide_eq_true_iff]; omega
theorem sum_succ (l : List I3) (k : Nat) : sumB l (k + 1) = sumB l k + cntB l (k : Int) := by
  unfold sumB cntB
  induction l with
  | nil => rfl
  | cons x l ih =>
    simp only [List.countP_cons, ih]
    by_cases h1 : x.1 = (k : Int)
    · have a1 : decide (0 ≤ x.1 ∧ x.1 < ((k + 1 : Nat) : Int)) = true := by rw [decide_eq_true_iff]; omega
      have a2 : decide (0 ≤ x.1 ∧ x.1 < (k : Int)) = false := by rw [decide_eq_false_iff_not]; omega
      have a3 : (x.1 == (k : Int)) = true := by rw [beq_iff_eq]; exact h1
      rw [a1, a2, a3]; simp; omega
    · have a3 : (x.1 == (k : Int)) = false := by rw [beq_eq_false_iff_ne]; exact h1
      have a1 : decide (0 ≤ x.1 ∧ x.1 < ((k + 1 : Nat) : Int)) = decide (0 ≤ x.1 ∧ x.1 < (k : Int)) := by
        rw [decide_eq_decide]; omega
      rw [a1, a3]; simp; omega
theorem sum_30 (l : List I3) : sumB l 30 = l.countP fun x => isOp x.1 := rfl
theorem sum_le (l : List I3) (k : Nat) : sumB l k ≤ l.length := List.countP_le_length
theorem known_snoc (l : List I3) (x : I3) : (l ++ [x]).countP (fun x => isOp x.1) = l.countP (fun x => isOp x.1) + if isOp x.1 = true then 1 else 0 := by
  rw [List.countP_append, List.countP_singleton]
theorem known_all {l : List I3} (h : okB l = true) : l.countP (fun x => isOp x.1) = l.length := by
  rw [List.countP_eq_length]
  intro x hx
  exact (ok_op (item_parts (List.all_eq_true.1 (okB_parts h).2.2.2 x hx)).1).1
theorem ends_any_of {l : List I3} (h : okB l = true) : 0 < cntB l 24 + cntB l 18 + cntB l 25 + cntB l 27 := by
  obtain ⟨h1, _, h3, h4⟩ := okB_parts h
  rw [lastB_at (by omega)] at h3
  have hm := List.getElem_mem (l := l) (n := l.length - 1) (by omega)
  have hk := (item_parts (List.all_eq_true.1 h4 _ hm)).1
  generalize l[l.length - 1] = x at h3 hm hk
  have he : (rowR x.1 x.2.1 x.2.2).fin = true := h3
  rw [rowR_ok hk, fin_at (ok_op hk).1] at he
  have pos : ∀ op, x.1 = op → 0 < cntB l op := fun op e => by
    unfold cntB
    exact List.countP_pos_iff.2 ⟨x, hm, by simp [e]⟩
  simp only [Bool.or_eq_true, beq_iff_eq] at he
  rcases he with e | e | e | e
  · have := pos _ e; omega
  · have := pos _ e; omega
  · have := pos _ e; omega
  · have := pos _ e; omega
theorem name_nil (op : Int) : (str (O.rowAt op).name).toList.isEmpty = !isOp op := by
  cases ho : isOp op
  · rw [O.rowAt_no ho]; decide +kernel
  · rcases op_cases ho with rfl | rfl | rfl | rfl | rfl | rfl | rfl | rfl | rfl | rfl | rfl | rfl | rfl | rfl | rfl | rfl | rfl | rfl | rfl | rfl | rfl | rfl | rfl | rfl | rfl | rfl | rfl | rfl | rfl | rfl <;> decide +kernel

/-! ### stretches -/
theorem heads_lt (l : List I3) : (headsL l).Pairwise (· < ·) := List.Pairwise.filter _ List.pairwise_lt_range
theorem heads_nodup (l : List I3) : (headsL l).Nodup := (heads_lt l).imp (fun h => Nat.ne_of_lt h)
theorem heads_next {l : List I3} {j : Nat} (hj : j < (headsL l).length) :
    (headsL l)[j] < l.length ∧ headB l (headsL l)[j] = true ∧ (j + 1 = (headsL l).length → nextH l (headsL l)[j] = l.length) ∧ ∀ h2 : j + 1 < (headsL l).length, (headsL l)[j + 1] = nextH l (headsL l)[j] := by
  obtain ⟨h1, h2⟩ := heads_mem.1 (List.getElem_mem hj)
  have hi : (hzs l).countP (fun y => decide (y < ((headsL l)[j] : Int))) = j := by
    have e : hzs l = ((headsL l).take j).map (fun i : Nat => (i : Int)) ++ ((headsL l).drop j).map (fun i : Nat => (i : Int)) := by
      unfold hzs; rw [← List.map_append, List.take_append_drop]
    rw [e, List.countP_append]
    have c1 : (((headsL l).take j).map (fun i : Nat => (i : Int))).countP (fun y => decide (y < ((headsL l)[j] : Int))) = j := by
      rw [List.countP_eq_length.2]
      · simp; omega
      · intro a ha
        obtain ⟨b, hb, rfl⟩ := List.mem_map.1 ha
        obtain ⟨i, hi, rfl⟩ := List.mem_iff_getElem.1 hb
        have hij : i < j := by simp at hi; omega
        rw [List.getElem_take]
        have := List.pairwise_iff_getElem.1 (heads_lt l) i j (by omega) hj hij
        simpa using this
    have c2 : (((headsL l).drop j).map (fun i : Nat => (i : Int))).countP (fun y => decide (y < ((headsL l)[j] : Int))) = 0 := by
      rw [List.countP_eq_zero]
      intro a ha
      obtain ⟨b, hb, rfl⟩ := List.mem_map.1 ha
      obtain ⟨i, hi, rfl⟩ := List.mem_iff_getElem.1 hb
      rw [List.getElem_drop]
      have hle : (headsL l)[j] ≤ (headsL l)[j + i]'(by simp at hi; omega) := by
        rcases Nat.eq_zero_or_pos i with e | e
        · subst e; exact Nat.le_refl _
        · exact Nat.le_of_lt (List.pairwise_iff_getElem.1 (heads_lt l) j (j + i) hj (by simp at hi; omega) (by omega))
      simp; omega
    rw [c1, c2, Nat.add_zero]
  obtain ⟨s1, s2, s3⟩ := stretch_at h1 h2 j hi
  have hl : (hzs l).length = (headsL l).length := by unfold hzs; simp
  refine ⟨h1, h2, fun e => s2 (by omega), fun h => ?_⟩
  have := s3 (by omega)
  unfold hzs at this
  rw [List.getElem_map] at this
  exact_mod_cast this
theorem heads_zero {l : List I3} (h : 0 < l.length) : ∃ hp : 0 < (headsL l).length, (headsL l)[0] = 0 := by
  have hh : headB l 0 = true := by unfold headB; simp
  have hs := heads_split h hh
  have hp : 0 < (headsL l).length := List.length_pos_of_mem (heads_mem.2 ⟨h, hh⟩)
  refine ⟨hp, ?_⟩
  have e : (headsL l)[0]? = some 0 := by rw [hs]; rfl
  exact Option.some.inj ((List.getElem?_eq_getElem hp).symm.trans e)
/-- Within a stretch, nothing goes, or ends. -/
theorem inner_no {l : List I3} {h i : Nat} (hn : h < l.length) (h1 : h ≤ i) (h2 : i + 1 < nextH l h) : gB (l[i]'(by have := (nextH_spec hn).2.1; omega)) = false ∧ eB (l[i]'(by have := (nextH_spec hn).2.1; omega)) = false := by
  obtain ⟨_, hle, hb, _⟩ := nextH_spec hn
  have hx := hb (i + 1) (by omega) h2
  unfold headB at hx
  rw [Nat.add_sub_cancel, at0_of (show i < l.length by omega)] at hx
  simp only [Bool.or_eq_false_iff] at hx
  exact ⟨hx.1.2, hx.1.1.2⟩
theorem goes_head {l : List I3} (ho : okB l = true) {x : I3} (hx : x ∈ l) (hg : gB x = true) : ∃ t : Nat, gN x = (t : Int) ∧ t ∈ headsL l := by
  have h1 := (item_parts (List.all_eq_true.1 (okB_parts ho).2.2.2 x hx)).2
  have h2 := (gN_in x).1
  refine ⟨(gN x).toNat, by omega, heads_mem.2 ⟨by omega, ?_⟩⟩
  unfold headB
  have : (l.any fun x' => gB x' && decide (gN x' = (((gN x).toNat : Nat) : Int))) = true := by
    rw [List.any_eq_true]
    exact ⟨x, hx, by rw [hg]; simp; omega⟩
  rw [this]; simp

end Go.Proofs.YtbnekeomdhljhaaGreatDoor.C

namespace Go.Proofs.YtbnekeomdhljhaaGreatDoor.C
open Go.RowKit O

theorem instr_info : (Tryz.prog.info? 74).map (fun i => (i.zero, i.size, i.bytes)) = some (some (.agg #[.int .i64 0, .int .i64 0, .int .i64 0]), 3, 24) := by kernel_rfl
theorem instr_size : (Tryz.prog.info? 74).map (·.size) = some 3 := by kernel_rfl

/-- The builtin copy of whole elements into a block that is known whole. -/
theorem run_copy_k {P : Program} {w : World} (dT sT ty elem : TypeId) (k : Nat) (hu : P.underlying dT = some (.slice elem)) (hsz : (P.info? elem).map (·.size) = some k)
    (g n dCap sCap : Nat) (ad : Addr) (cs0 : Array Value) (t : TypeId) (hg : Blk w g t cs0) (cs : List Value) (hn : cs.length = n * k) (hsrc : ∀ j v, cs[j]? = some v → w.cell? (ad.add j) = some v) (hfit : cs0.size = cs.length) (h1 : ∀ v ∈ cs, v.oneCell' = true) :
    ∃ w', (Builtin.copy_ #[dT, sT] ty #[.slice (some ⟨g, 0, none⟩) n dCap, .slice (some ad) n sCap]).run P w = .ok (goInt n) w' ∧ Blk w' g t cs.toArray ∧ Keep (fun b => b = g) w w' := by
  have hl := run_loadCells_list (P := P) w ad cs hsrc
  have hst := run_storeCells_at P g 0 t cs 0 cs0 w hg (by omega) h1
  have e : cs0.toList.take (0 + 0) ++ cs ++ cs0.toList.drop (0 + 0 + cs.length) = cs := by
    rw [List.drop_of_length_le (by simp; omega)]; simp
  rw [e] at hst
  refine ⟨w.setRow g cs.toArray, ?_, setRow_heap w g cs0 cs.toArray t _ hg, ⟨rfl, rfl, rfl, by simp, fun b _ hne => setRow_other w g b _ hne⟩⟩
  cases hq : P.info? elem with
  | none => simp [hq] at hsz
  | some i =>
    have hi : i.size = k := by simpa [hq] using hsz
    simp [Builtin.copy_, run_underlying hu, Builtin.lenOf, Builtin.firstCells, sizeOf, typeInfo, hq, hi, ← hn, hl, hst]

/-- A new slice of as many instructions, and the list copied into it. -/
theorem made_copy {w w1 : World} {l : List I3} {n c : Nat} {g0 off : Nat} {zs : List Value} (hr : Rd w (some ⟨g0, off, none⟩) (iis l)) (hn : l.length = n) (h0 : 1 ≤ n)
    (hrow : w1.ownsRow 0 74 3 (.slice (some ⟨w.heap.size, 0, none⟩) n n) n zs) (hg : w.grownBy w1 none) :
    ∃ w2, (Builtin.copy_ #[25, 25] 3 #[.slice (some ⟨w.heap.size, 0, none⟩) n n, .slice (some ⟨g0, off, none⟩) n c]).run Tryz.prog w1 = .ok (goInt n) w2 ∧ Blk w2 w.heap.size 74 (iis l).toArray ∧ Keep NoB w w2 := by
  have hK0 : Keep NoB w w1 := (Keep.refl NoB w).grown hg (fun g e _ => by cases e)
  obtain ⟨cur, hB, hcs⟩ : ∃ cur, Blk w1 w.heap.size 74 cur ∧ cur.size = n * 3 := by
    obtain ⟨h3, h4⟩ := hrow
    rcases h4 with ⟨h4, _⟩ | ⟨g, cap, cur, h4, _, h6, _, _, h7, _⟩
    · cases h4
    · injection h4 with h4 _ h8
      injection h4 with h4
      injection h4 with h4 _ _
      subst h4 h8
      exact ⟨cur, h6, h7⟩
  have hlen : (iis l).length = n * 3 := by rw [iis_length, hn]
  obtain ⟨w2, e, h1, h2⟩ := run_copy_k (P := Tryz.prog) (w := w1) 25 25 3 74 3 Tryz.underlying25 instr_size w.heap.size n n c ⟨g0, off, none⟩ cur _ hB (iis l) hlen
    (fun j v hv => by
      obtain ⟨g', off', e, hc⟩ := hr (by rw [hlen]; omega)
      injection e with e; injection e with e1 e2; subst e1 e2
      refine hK0.cell ?_ id
      have := hc j v hv
      unfold Addr.add
      by_cases hj : j = 0
      · subst hj; simpa using this
      · simpa [hj] using this) (by rw [hlen]; exact hcs) (iis_cells l)
  exact ⟨w2, e, h1, hK0.trans h2 (fun b e hl => by omega)⟩

/-- In a list of cells, one number put elsewhere. -/
theorem iis_set (pre post : List I3) (x : I3) (a' : Int) : (iis (pre ++ x :: post)).toArray.setIfInBounds (pre.length * 3 + 1) (.int .i64 a') = (iis (pre ++ (x.1, a', x.2.2) :: post)).toArray := by
  rw [List.setIfInBounds_toArray, iis_append, iis_append, iis_cons, iis_cons]
  congr 1
  rw [List.set_append_right _ _ (by rw [iis_length]; omega), iis_length, show pre.length * 3 + 1 - pre.length * 3 = 1 by omega]
  rfl
theorem blk_at {w : World} {g : Nat} {t : TypeId} {l : List I3} (h : Blk w g t (iis l).toArray) {i : Nat} (hi : i < l.length) :
    w.cell? ⟨g, i * 3, none⟩ = some (.int .i64 l[i].1) ∧ w.cell? ⟨g, i * 3 + 1, none⟩ = some (.int .i64 l[i].2.1) ∧ w.cell? ⟨g, i * 3 + 2, none⟩ = some (.int .i64 l[i].2.2) := by
  obtain ⟨h1, h2, h3⟩ := iis_at l i hi
  exact ⟨by rw [h.cell]; simpa using h1, by rw [h.cell]; simpa using h2, by rw [h.cell]; simpa using h3⟩
theorem blk_mid {w : World} {g j : Nat} {t : TypeId} {pre post : List I3} {x : I3} (h : Blk w g t (iis (pre ++ x :: post)).toArray) (hj : pre.length = j) :
    w.cell? ⟨g, j * 3, none⟩ = some (.int .i64 x.1) ∧ w.cell? ⟨g, j * 3 + 1, none⟩ = some (.int .i64 x.2.1) ∧ w.cell? ⟨g, j * 3 + 2, none⟩ = some (.int .i64 x.2.2) := by
  have := blk_at h (i := j) (by simp; omega)
  have e : (pre ++ x :: post)[j]'(by simp; omega) = x := by
    subst hj; simp
  rw [e] at this; exact this

end Go.Proofs.YtbnekeomdhljhaaGreatDoor.C
