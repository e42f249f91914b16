/-
  What reads and its closures do: what stands next is read and kept. Conditions: what decodes answers by its contract.
  The plain mathematics of heads and stretches: which places are noted as heads, how often, and where a stretch ends. No program, no conditions.
  The plain mathematics of what is put in and taken out, of counts, and of stretches one behind the other. No program, no conditions.
  What shifted of layer code answers: a new list, in which those that go to a place behind one go so much farther. Conditions: the list lies in memory, of 1 to 512 instructions; by 1, or -1.
  What Insert of layer code answers: a new body with one more, or ErrCode. Conditions: the list lies in memory.
  What Delete of layer code answers: a new body without one, or ErrCode. Conditions: the list lies in memory.
  What the program's Decode answers. Conditions: a Reel stands on the bytes; they are not too many.
  What the document's Decode answers. Conditions: its Reel stands on the bytes; they are not too many.
  What Decode of layer code answers, the program's and the document's: the body at a Reel's place, and the place behind it. Conditions: the Reel reads bytes in memory, no more than 2^47.
  What the document's Decode of layer code answers: the body at its Reel's place, and the place behind it. Conditions: the Reel reads bytes in memory, no more than 2^47.
-/
import Derived.IntWalk
import Derived.Laws.CopyOwn
import Derived.OwnWalk
import Derived.Test.YtbnekeomdhljhaaGreatDoorQ7
import Derived.Test.YtbnekeomdhljhaaGreatDoorQ5
import Derived.Test.YtbnekeomdhljhaaGreatDoorQ6
import Derived.Test.YtbnekeomdhljhaaGreatDoorQ9
import Derived.Test.YtbnekeomdhljhaaGreatDoorQ3
namespace Go.Proofs.YtbnekeomdhljhaaGreatDoor.F
open Go.RowKit W

/-- A reader: what decodes, the Reel, and where the part goes, each in a cell of its own. -/
def RdV (k : Nat) (tc tp : TypeId) (dec : Value) (rp : Option Addr) (pt : Addr) (v : Value) (w : World) : Prop :=
  ∃ c r q, v = askV k #[.pointer (some ⟨c, 0, none⟩), .pointer (some ⟨r, 0, none⟩), .pointer (some ⟨q, 0, none⟩)] ∧ Blk w c tc #[dec] ∧ Blk w r 37 #[.pointer rp] ∧ Blk w q tp #[.pointer (some pt)]
theorem RdV.keep {k : Nat} {tc tp : TypeId} {dec : Value} {rp : Option Addr} {pt : Addr} {v : Value} {w w' : World} (h : RdV k tc tp dec rp pt v w) (hk : Keep NoB w w') : RdV k tc tp dec rp pt v w' := by
  obtain ⟨c, r, q, e, h1, h2, h3⟩ := h
  exact ⟨c, r, q, e, h1.keep hk id, h2.keep hk id, h3.keep hk id⟩

set_option maxRecDepth 100000 in
set_option maxHeartbeats 4000000 in
theorem readsStr_any (k F i : Nat) (rp : Option Addr) (w : World) :
    Calls Tryz.prog 51 #[.pointer rp, fnV k, .pointer (some ⟨F, i, none⟩)] w fun e w' => ∃ u, e = .returned u ∧ RdV 106 92 93 (fnV k) rp ⟨F, i, none⟩ u w' ∧ Keep NoB w w' := by
  have hmf : ∀ (fn : Go.Fn) (first cap : Array Value) (w : World), (Instr.makeFunc fn first cap).run Tryz.prog w = .ok (.func fn first cap) w := fun _ _ _ _ => rfl
  have b0 := ((Blk.new w 37 #[.pointer rp]).alloc (.cells #[fnV k] 92)).alloc (.cells (#[.pointer (some ⟨F, i, none⟩)]) 93)
  have b1 := (Blk.new (w.alloc (.cells #[.pointer rp] 37)) 92 #[fnV k]).alloc (.cells (#[.pointer (some ⟨F, i, none⟩)]) 93)
  have b2 := Blk.new ((w.alloc (.cells #[.pointer rp] 37)).alloc (.cells #[fnV k] 92)) 93 (#[.pointer (some ⟨F, i, none⟩)])
  simp only [World.size_alloc] at b1 b2
  have k0 := (((Keep.refl NoB w).alloc (.cells #[.pointer rp] 37)).alloc (.cells #[fnV k] 92)).alloc (.cells (#[.pointer (some ⟨F, i, none⟩)]) 93)
  unfold fnV at *
  have HB0 := Lib.hid b0
  have HB1 := Lib.hid b1
  have HB2 := Lib.hid b2
  have HK := Lib.hid k0
  clear b0 b1 b2 k0
  go_enter Tryz.func51, Tryz.ntmps51
  go_wp2
  go_ret
  exact ⟨_, rfl, ⟨w.heap.size + 1, w.heap.size, w.heap.size + 1 + 1, rfl, HB1.out, HB0.out, HB2.out⟩, HK.out⟩

set_option maxRecDepth 100000 in
set_option maxHeartbeats 4000000 in
theorem readStr_any (k : Nat) (hcf : ∀ args w, (callFunc k args).run Tryz.prog w = .ok (.enter k args) w) (O : Nat → Prop) (rp : Option Addr) (cc0 rr qq F : Nat) (v : FV) (w : World) (hc : Blk w cc0 92 #[fnV k]) (hr : Blk w rr 37 #[.pointer rp]) (hq : Blk w qq 93 #[.pointer (some ⟨F, 0, none⟩)])
    (hF : Blk w F 27 v.cells) (hq1 : ¬ O qq) (hF1 : ¬ O F) (G : ByteArray → Int → World → Prop)
    (HG : Hid (Calls Tryz.prog k #[.pointer rp] w fun e w1 => ∃ x E, e = .returned (.tuple #[.string x, .int .i64 E]) ∧ G x E w1 ∧ Keep O w w1)) :
    Calls Tryz.prog 106 #[.pointer (some ⟨cc0, 0, none⟩), .pointer (some ⟨rr, 0, none⟩), .pointer (some ⟨qq, 0, none⟩)] w fun e w' => ∃ x E w1, e = .returned (.bool (E == 0)) ∧ G x E w1 ∧ Keep O w w1 ∧ w' = (w1.setCell ⟨F, 0, none⟩ (.string x)) := by
  have c1 := hc.cell 0
  have c2 := hr.cell 0
  have c3 := hq.cell 0
  unfold fnV at c1
  unfold FV.cells at hF
  have HQ := Lib.hid hq
  have HF := Lib.hid hF
  clear hc hr hq hF
  go_enter Tryz.func106, Tryz.ntmps106
  go_wp2_with fail
  refine HG.out.mono ?_
  rintro e w1 ⟨x, E, rfl, hg, k1⟩
  have q1 := ((HQ.out.keep k1 hq1)).cell 0
  have f1 := (HF.out.keep k1 hF1)
  obtain ⟨d0, d1, d2, d3, d4⟩ := blk5 (v := v) f1
  have fz := fun i => f1.frozen i
  simp at q1
  clear c1 c2 c3 f1 HG
  go_wp2
  go_ret
  exact ⟨x, E, w1, rfl, hg, k1, rfl⟩

set_option maxRecDepth 100000 in
set_option maxHeartbeats 4000000 in
theorem readsSig_any (k F i : Nat) (rp : Option Addr) (w : World) :
    Calls Tryz.prog 53 #[.pointer rp, fnV k, .pointer (some ⟨F, i, none⟩)] w fun e w' => ∃ u, e = .returned u ∧ RdV 108 95 96 (fnV k) rp ⟨F, i, none⟩ u w' ∧ Keep NoB w w' := by
  have hmf : ∀ (fn : Go.Fn) (first cap : Array Value) (w : World), (Instr.makeFunc fn first cap).run Tryz.prog w = .ok (.func fn first cap) w := fun _ _ _ _ => rfl
  have b0 := ((Blk.new w 37 #[.pointer rp]).alloc (.cells #[fnV k] 95)).alloc (.cells (#[.pointer (some ⟨F, i, none⟩)]) 96)
  have b1 := (Blk.new (w.alloc (.cells #[.pointer rp] 37)) 95 #[fnV k]).alloc (.cells (#[.pointer (some ⟨F, i, none⟩)]) 96)
  have b2 := Blk.new ((w.alloc (.cells #[.pointer rp] 37)).alloc (.cells #[fnV k] 95)) 96 (#[.pointer (some ⟨F, i, none⟩)])
  simp only [World.size_alloc] at b1 b2
  have k0 := (((Keep.refl NoB w).alloc (.cells #[.pointer rp] 37)).alloc (.cells #[fnV k] 95)).alloc (.cells (#[.pointer (some ⟨F, i, none⟩)]) 96)
  unfold fnV at *
  have HB0 := Lib.hid b0
  have HB1 := Lib.hid b1
  have HB2 := Lib.hid b2
  have HK := Lib.hid k0
  clear b0 b1 b2 k0
  go_enter Tryz.func53, Tryz.ntmps53
  go_wp2
  go_ret
  exact ⟨_, rfl, ⟨w.heap.size + 1, w.heap.size, w.heap.size + 1 + 1, rfl, HB1.out, HB0.out, HB2.out⟩, HK.out⟩

set_option maxRecDepth 100000 in
set_option maxHeartbeats 4000000 in
theorem readSig_any (k : Nat) (hcf : ∀ args w, (callFunc k args).run Tryz.prog w = .ok (.enter k args) w) (O : Nat → Prop) (rp : Option Addr) (cc0 rr qq F : Nat) (v : FV) (w : World) (hc : Blk w cc0 95 #[fnV k]) (hr : Blk w rr 37 #[.pointer rp]) (hq : Blk w qq 96 #[.pointer (some ⟨F, 1, none⟩)])
    (hF : Blk w F 27 v.cells) (hq1 : ¬ O qq) (hF1 : ¬ O F) (G : Option Addr → Nat → Nat → Option Addr → Nat → Nat → Int → World → Prop)
    (HG : Hid (Calls Tryz.prog k #[.pointer rp] w fun e w1 => ∃ A n c B m d E, e = .returned (.tuple #[.agg #[.slice A n c, .slice B m d], .int .i64 E]) ∧ G A n c B m d E w1 ∧ Keep O w w1)) :
    Calls Tryz.prog 108 #[.pointer (some ⟨cc0, 0, none⟩), .pointer (some ⟨rr, 0, none⟩), .pointer (some ⟨qq, 0, none⟩)] w fun e w' => ∃ A n c B m d E w1, e = .returned (.bool (E == 0)) ∧ G A n c B m d E w1 ∧ Keep O w w1 ∧ w' = (((w1.alloc (.cells #[.slice A n c, .slice B m d] 24)).setCell ⟨F, 1, none⟩ (.slice A n c)).setCell ⟨F, 2, none⟩ (.slice B m d)) := by
  have c1 := hc.cell 0
  have c2 := hr.cell 0
  have c3 := hq.cell 0
  unfold fnV at c1
  unfold FV.cells at hF
  have HQ := Lib.hid hq
  have HF := Lib.hid hF
  clear hc hr hq hF
  go_enter Tryz.func108, Tryz.ntmps108
  go_wp2_with fail
  refine HG.out.mono ?_
  rintro e w1 ⟨A, n, c, B, m, d, E, rfl, hg, k1⟩
  have q1 := ((HQ.out.keep k1 hq1).alloc (.cells #[.slice A n c, .slice B m d] 24)).cell 0
  have f1 := (HF.out.keep k1 hF1).alloc (.cells #[.slice A n c, .slice B m d] 24)
  obtain ⟨d0, d1, d2, d3, d4⟩ := blk5 (v := v) f1
  have fz := fun i => f1.frozen i
  simp at q1
  clear c1 c2 c3 f1 HG
  go_wp2
  go_ret
  exact ⟨A, n, c, B, m, d, E, w1, rfl, hg, k1, rfl⟩

set_option maxRecDepth 100000 in
set_option maxHeartbeats 4000000 in
theorem readsLoc_any (k F i : Nat) (rp : Option Addr) (w : World) :
    Calls Tryz.prog 55 #[.pointer rp, fnV k, .pointer (some ⟨F, i, none⟩)] w fun e w' => ∃ u, e = .returned u ∧ RdV 111 98 99 (fnV k) rp ⟨F, i, none⟩ u w' ∧ Keep NoB w w' := by
  have hmf : ∀ (fn : Go.Fn) (first cap : Array Value) (w : World), (Instr.makeFunc fn first cap).run Tryz.prog w = .ok (.func fn first cap) w := fun _ _ _ _ => rfl
  have b0 := ((Blk.new w 37 #[.pointer rp]).alloc (.cells #[fnV k] 98)).alloc (.cells (#[.pointer (some ⟨F, i, none⟩)]) 99)
  have b1 := (Blk.new (w.alloc (.cells #[.pointer rp] 37)) 98 #[fnV k]).alloc (.cells (#[.pointer (some ⟨F, i, none⟩)]) 99)
  have b2 := Blk.new ((w.alloc (.cells #[.pointer rp] 37)).alloc (.cells #[fnV k] 98)) 99 (#[.pointer (some ⟨F, i, none⟩)])
  simp only [World.size_alloc] at b1 b2
  have k0 := (((Keep.refl NoB w).alloc (.cells #[.pointer rp] 37)).alloc (.cells #[fnV k] 98)).alloc (.cells (#[.pointer (some ⟨F, i, none⟩)]) 99)
  unfold fnV at *
  have HB0 := Lib.hid b0
  have HB1 := Lib.hid b1
  have HB2 := Lib.hid b2
  have HK := Lib.hid k0
  clear b0 b1 b2 k0
  go_enter Tryz.func55, Tryz.ntmps55
  go_wp2
  go_ret
  exact ⟨_, rfl, ⟨w.heap.size + 1, w.heap.size, w.heap.size + 1 + 1, rfl, HB1.out, HB0.out, HB2.out⟩, HK.out⟩

set_option maxRecDepth 100000 in
set_option maxHeartbeats 4000000 in
theorem readLoc_any (k : Nat) (hcf : ∀ args w, (callFunc k args).run Tryz.prog w = .ok (.enter k args) w) (O : Nat → Prop) (rp : Option Addr) (cc0 rr qq F : Nat) (v : FV) (w : World) (hc : Blk w cc0 98 #[fnV k]) (hr : Blk w rr 37 #[.pointer rp]) (hq : Blk w qq 99 #[.pointer (some ⟨F, 3, none⟩)])
    (hF : Blk w F 27 v.cells) (hq1 : ¬ O qq) (hF1 : ¬ O F) (G : Option Addr → Nat → Nat → Int → World → Prop)
    (HG : Hid (Calls Tryz.prog k #[.pointer rp] w fun e w1 => ∃ A n c E, e = .returned (.tuple #[.slice A n c, .int .i64 E]) ∧ G A n c E w1 ∧ Keep O w w1)) :
    Calls Tryz.prog 111 #[.pointer (some ⟨cc0, 0, none⟩), .pointer (some ⟨rr, 0, none⟩), .pointer (some ⟨qq, 0, none⟩)] w fun e w' => ∃ A n c E w1, e = .returned (.bool (E == 0)) ∧ G A n c E w1 ∧ Keep O w w1 ∧ w' = (w1.setCell ⟨F, 3, none⟩ (.slice A n c)) := by
  have c1 := hc.cell 0
  have c2 := hr.cell 0
  have c3 := hq.cell 0
  unfold fnV at c1
  unfold FV.cells at hF
  have HQ := Lib.hid hq
  have HF := Lib.hid hF
  clear hc hr hq hF
  go_enter Tryz.func111, Tryz.ntmps111
  go_wp2_with fail
  refine HG.out.mono ?_
  rintro e w1 ⟨A, n, c, E, rfl, hg, k1⟩
  have q1 := ((HQ.out.keep k1 hq1)).cell 0
  have f1 := (HF.out.keep k1 hF1)
  obtain ⟨d0, d1, d2, d3, d4⟩ := blk5 (v := v) f1
  have fz := fun i => f1.frozen i
  simp at q1
  clear c1 c2 c3 f1 HG
  go_wp2
  go_ret
  exact ⟨A, n, c, E, w1, rfl, hg, k1, rfl⟩

set_option maxRecDepth 100000 in
set_option maxHeartbeats 4000000 in
theorem readsBod_any (k F i : Nat) (rp : Option Addr) (w : World) :
    Calls Tryz.prog 57 #[.pointer rp, fnV k, .pointer (some ⟨F, i, none⟩)] w fun e w' => ∃ u, e = .returned u ∧ RdV 112 101 102 (fnV k) rp ⟨F, i, none⟩ u w' ∧ Keep NoB w w' := by
  have hmf : ∀ (fn : Go.Fn) (first cap : Array Value) (w : World), (Instr.makeFunc fn first cap).run Tryz.prog w = .ok (.func fn first cap) w := fun _ _ _ _ => rfl
  have b0 := ((Blk.new w 37 #[.pointer rp]).alloc (.cells #[fnV k] 101)).alloc (.cells (#[.pointer (some ⟨F, i, none⟩)]) 102)
  have b1 := (Blk.new (w.alloc (.cells #[.pointer rp] 37)) 101 #[fnV k]).alloc (.cells (#[.pointer (some ⟨F, i, none⟩)]) 102)
  have b2 := Blk.new ((w.alloc (.cells #[.pointer rp] 37)).alloc (.cells #[fnV k] 101)) 102 (#[.pointer (some ⟨F, i, none⟩)])
  simp only [World.size_alloc] at b1 b2
  have k0 := (((Keep.refl NoB w).alloc (.cells #[.pointer rp] 37)).alloc (.cells #[fnV k] 101)).alloc (.cells (#[.pointer (some ⟨F, i, none⟩)]) 102)
  unfold fnV at *
  have HB0 := Lib.hid b0
  have HB1 := Lib.hid b1
  have HB2 := Lib.hid b2
  have HK := Lib.hid k0
  clear b0 b1 b2 k0
  go_enter Tryz.func57, Tryz.ntmps57
  go_wp2
  go_ret
  exact ⟨_, rfl, ⟨w.heap.size + 1, w.heap.size, w.heap.size + 1 + 1, rfl, HB1.out, HB0.out, HB2.out⟩, HK.out⟩

set_option maxRecDepth 100000 in
set_option maxHeartbeats 4000000 in
theorem readBod_any (k : Nat) (hcf : ∀ args w, (callFunc k args).run Tryz.prog w = .ok (.enter k args) w) (O : Nat → Prop) (rp : Option Addr) (cc0 rr qq F : Nat) (v : FV) (w : World) (hc : Blk w cc0 101 #[fnV k]) (hr : Blk w rr 37 #[.pointer rp]) (hq : Blk w qq 102 #[.pointer (some ⟨F, 4, none⟩)])
    (hF : Blk w F 27 v.cells) (hq1 : ¬ O qq) (hF1 : ¬ O F) (G : Option Addr → Nat → Nat → Int → World → Prop)
    (HG : Hid (Calls Tryz.prog k #[.pointer rp] w fun e w1 => ∃ A n c E, e = .returned (.tuple #[.slice A n c, .int .i64 E]) ∧ G A n c E w1 ∧ Keep O w w1)) :
    Calls Tryz.prog 112 #[.pointer (some ⟨cc0, 0, none⟩), .pointer (some ⟨rr, 0, none⟩), .pointer (some ⟨qq, 0, none⟩)] w fun e w' => ∃ A n c E w1, e = .returned (.bool (E == 0)) ∧ G A n c E w1 ∧ Keep O w w1 ∧ w' = (w1.setCell ⟨F, 4, none⟩ (.slice A n c)) := by
  have c1 := hc.cell 0
  have c2 := hr.cell 0
  have c3 := hq.cell 0
  unfold fnV at c1
  unfold FV.cells at hF
  have HQ := Lib.hid hq
  have HF := Lib.hid hF
  clear hc hr hq hF
  go_enter Tryz.func112, Tryz.ntmps112
  go_wp2_with fail
  refine HG.out.mono ?_
  rintro e w1 ⟨A, n, c, E, rfl, hg, k1⟩
  have q1 := ((HQ.out.keep k1 hq1)).cell 0
  have f1 := (HF.out.keep k1 hF1)
  obtain ⟨d0, d1, d2, d3, d4⟩ := blk5 (v := v) f1
  have fz := fun i => f1.frozen i
  simp at q1
  clear c1 c2 c3 f1 HG
  go_wp2
  go_ret
  exact ⟨A, n, c, E, w1, rfl, hg, k1, rfl⟩

end Go.Proofs.YtbnekeomdhljhaaGreatDoor.F

namespace Go.Proofs.YtbnekeomdhljhaaGreatDoor.C
open Go.RowKit O

/-- The places that an instruction at a place makes heads, of those that there are. -/
def madeL (n : Nat) (x : I3) (k : Nat) : List Int := (if gB x = true then [gN x] else []) ++ (if (gB x || eB x) = true ∧ k + 1 < n then [((k + 1 : Nat) : Int)] else [])
/-- How often a place is noted. -/
def metN (l : List I3) : Nat → Int → Nat
  | 0, h => if h = 0 then 1 else 0
  | k + 1, h => metN l k h + (madeL l.length (at0 l k) k).count h
theorem madeL_len (n : Nat) (x : I3) (k : Nat) : (madeL n x k).length ≤ 2 := by
  unfold madeL
  rw [List.length_append]
  have h1 : (if gB x = true then [gN x] else []).length ≤ 1 := by split <;> simp
  have h2 : (if (gB x || eB x) = true ∧ k + 1 < n then [((k + 1 : Nat) : Int)] else []).length ≤ 1 := by split <;> simp
  omega
theorem metN_le (l : List I3) (k : Nat) (h : Int) : metN l k h ≤ 1 + 2 * k := by
  induction k with
  | zero => unfold metN; split <;> omega
  | succ k ih =>
    unfold metN
    have h1 := madeL_len l.length (at0 l k) k
    have h2 := List.count_le_length (a := h) (l := madeL l.length (at0 l k) k)
    omega
theorem metN_pos (l : List I3) (k : Nat) (h : Int) : 0 < metN l k h ↔ h = 0 ∨ ∃ j, j < k ∧ h ∈ madeL l.length (at0 l j) j := by
  induction k with
  | zero =>
    unfold metN
    constructor
    · intro hp; by_cases e : h = 0
      · exact .inl e
      · rw [if_neg e] at hp; omega
    · rintro (e | ⟨j, hj, _⟩)
      · rw [if_pos e]; omega
      · omega
  | succ k ih =>
    unfold metN
    constructor
    · intro hp
      by_cases h1 : 0 < metN l k h
      · rcases ih.1 h1 with e | ⟨j, hj, hm⟩
        · exact .inl e
        · exact .inr ⟨j, by omega, hm⟩
      · exact .inr ⟨k, by omega, List.count_pos_iff.1 (by omega)⟩
    · rintro (e | ⟨j, hj, hm⟩)
      · have := ih.2 (.inl e); omega
      · by_cases e : j = k
        · subst e; have := List.count_pos_iff.2 hm; omega
        · have := ih.2 (.inr ⟨j, by omega, hm⟩); omega
theorem met_head {l : List I3} {i : Nat} (hi : i < l.length) : decide (0 < metN l l.length (i : Int)) = headB l i := by
  rw [Bool.eq_iff_iff, decide_eq_true_iff, metN_pos]
  unfold headB
  simp only [Bool.or_eq_true, decide_eq_true_eq, List.any_eq_true, Bool.and_eq_true]
  constructor
  · rintro (e | ⟨j, hj, hm⟩)
    · exact .inl (.inl (.inl (by omega)))
    · unfold madeL at hm
      rcases List.mem_append.1 hm with h | h
      · split at h
        · next hg => exact .inr ⟨at0 l j, by rw [at0_of hj]; exact List.getElem_mem hj, hg, (List.mem_singleton.1 h).symm⟩
        · simp at h
      · split at h
        · next hg =>
          have e := List.mem_singleton.1 h
          obtain rfl : i = j + 1 := by omega
          rw [Nat.add_sub_cancel]
          rcases Bool.or_eq_true_iff.1 hg.1 with h1 | h1
          · exact .inl (.inr h1)
          · exact .inl (.inl (.inr h1))
        · simp at h
  · have made : ∀ j, j + 1 = i → (gB (at0 l j) || eB (at0 l j)) = true → (i : Int) ∈ madeL l.length (at0 l j) j := by
      intro j hj hg
      unfold madeL
      refine List.mem_append.2 (.inr ?_)
      rw [if_pos ⟨hg, by omega⟩, hj]
      simp
    by_cases h0 : i = 0
    · exact fun _ => .inl (by omega)
    rintro (((e | e) | e) | ⟨x, hx, hg, hn⟩)
    · exact absurd e h0
    · exact .inr ⟨i - 1, by omega, made _ (by omega) (by rw [e]; simp)⟩
    · exact .inr ⟨i - 1, by omega, made _ (by omega) (by rw [e]; simp)⟩
    · obtain ⟨j, hj, rfl⟩ := List.mem_iff_getElem.1 hx
      refine .inr ⟨j, hj, ?_⟩
      rw [at0_of hj]
      unfold madeL
      refine List.mem_append.2 (.inl ?_)
      rw [if_pos hg, hn]; simp

theorem range_filter_snoc (p : Nat → Bool) (k : Nat) : (List.range (k + 1)).filter p = (List.range k).filter p ++ if p k = true then [k] else [] := by
  rw [List.range_succ, List.filter_append]
  cases h : p k <;> simp [h]

/-- Heads as numbers. -/
def hzs (l : List I3) : List Int := (headsL l).map fun i : Nat => (i : Int)
theorem heads_mem {l : List I3} {i : Nat} : i ∈ headsL l ↔ i < l.length ∧ headB l i = true := by
  unfold headsL; rw [List.mem_filter, List.mem_range]
theorem hzs_sorted (l : List I3) : (hzs l).Pairwise (· ≤ ·) := by
  unfold hzs
  rw [List.pairwise_map]
  refine List.Pairwise.imp (R := (· < ·)) (fun {a b} h => by omega) ?_
  exact List.Pairwise.filter _ List.pairwise_lt_range
theorem hzs_length_le (l : List I3) : (hzs l).length ≤ l.length := by
  unfold hzs headsL
  rw [List.length_map]
  exact Nat.le_trans (List.length_filter_le _ _) (by simp)
theorem hzs_contains {l : List I3} (x : Int) : (hzs l).contains x = true ↔ ∃ h : Nat, x = (h : Int) ∧ h < l.length ∧ headB l h = true := by
  unfold hzs
  rw [List.contains_iff_mem, List.mem_map]
  constructor
  · rintro ⟨a, ha, e⟩; exact ⟨a, e.symm, heads_mem.1 ha⟩
  · rintro ⟨h, e, hm⟩; exact ⟨h, heads_mem.2 hm, e.symm⟩
theorem heads_split {l : List I3} {h : Nat} (hn : h < l.length) (hh : headB l h = true) :
    headsL l = (List.range h).filter (headB l) ++ h :: (List.range' (h + 1) (l.length - (h + 1))).filter (headB l) := by
  unfold headsL
  have e : List.range l.length = List.range h ++ h :: List.range' (h + 1) (l.length - (h + 1)) := by
    rw [List.range_eq_range', List.range_eq_range', show l.length = h + (1 + (l.length - (h + 1))) by omega, ← List.range'_append_1, Nat.zero_add]
    congr 1
    rw [show h + (1 + (l.length - (h + 1))) - (h + 1) = l.length - (h + 1) by omega, Nat.add_comm 1, List.range'_succ]
  rw [e, List.filter_append, List.filter_cons, if_pos hh]
theorem stretch_at {l : List I3} {h : Nat} (hn : h < l.length) (hh : headB l h = true) (i : Nat) (hi : (hzs l).countP (fun y => decide (y < (h : Int))) = i) :
    i < (hzs l).length ∧ ((hzs l).length = i + 1 → nextH l h = l.length) ∧ ∀ hlt : i + 1 < (hzs l).length, (hzs l)[i + 1] = (nextH l h : Int) := by
  have hs := heads_split hn hh
  have hz : hzs l = ((List.range h).filter (headB l)).map (fun i : Nat => (i : Int)) ++ (h : Int) :: ((List.range' (h + 1) (l.length - (h + 1))).filter (headB l)).map (fun i : Nat => (i : Int)) := by
    unfold hzs; rw [hs]; simp
  have hc : (hzs l).countP (fun y => decide (y < (h : Int))) = ((List.range h).filter (headB l)).length := by
    rw [hz, List.countP_append, List.countP_cons]
    have h1 : (((List.range h).filter (headB l)).map (fun i : Nat => (i : Int))).countP (fun y => decide (y < (h : Int))) = ((List.range h).filter (headB l)).length := by
      rw [List.countP_eq_length.2]
      · simp
      · intro a ha
        obtain ⟨b, hb, rfl⟩ := List.mem_map.1 ha
        have := List.mem_range.1 (List.mem_filter.1 hb).1
        simp; omega
    have h2 : (((List.range' (h + 1) (l.length - (h + 1))).filter (headB l)).map (fun i : Nat => (i : Int))).countP (fun y => decide (y < (h : Int))) = 0 := by
      rw [List.countP_eq_zero]
      intro a ha
      obtain ⟨b, hb, rfl⟩ := List.mem_map.1 ha
      have := List.mem_range'_1.1 (List.mem_filter.1 hb).1
      simp; omega
    rw [h1, h2]; simp
  rw [hc] at hi
  have hl : (hzs l).length = i + 1 + ((List.range' (h + 1) (l.length - (h + 1))).filter (headB l)).length := by
    rw [hz]; simp [hi]; omega
  refine ⟨by omega, fun e => ?_, fun hlt => ?_⟩
  · have h0 : (List.range' (h + 1) (l.length - (h + 1))).filter (headB l) = [] := List.length_eq_zero_iff.1 (by omega)
    unfold nextH
    rw [← List.head?_filter, h0]; rfl
  · have h0 : 0 < ((List.range' (h + 1) (l.length - (h + 1))).filter (headB l)).length := by omega
    have e : (hzs l)[i + 1]? = some (nextH l h : Int) := by
      rw [hz, List.getElem?_append_right (by simp; omega)]
      simp only [List.length_map, hi]
      rw [show i + 1 - i = 0 + 1 by omega, List.getElem?_cons_succ, List.getElem?_map]
      unfold nextH
      rw [← List.head?_filter]
      cases hf : (List.range' (h + 1) (l.length - (h + 1))).filter (headB l) with
      | nil => rw [hf] at h0; simp at h0
      | cons a t => simp
    exact Option.some.inj ((List.getElem?_eq_getElem hlt).symm.trans e)

/-- The place behind a stretch's last one, told by what lies between. -/
theorem nextH_of {l : List I3} {h to : Nat} (h1 : h < to) (h2 : to ≤ l.length) (hb : ∀ j, h < j → j < to → headB l j = false) (he : to = l.length ∨ headB l to = true) : nextH l h = to := by
  unfold nextH
  have hsp : List.range' (h + 1) (l.length - (h + 1)) = List.range' (h + 1) (to - (h + 1)) ++ List.range' to (l.length - to) := by
    rw [show l.length - (h + 1) = (to - (h + 1)) + (l.length - to) by omega, ← List.range'_append_1, show h + 1 + (to - (h + 1)) = to by omega]
  have hno : (List.range' (h + 1) (to - (h + 1))).find? (headB l) = none := by
    rw [List.find?_eq_none]
    intro a ha
    have := List.mem_range'_1.1 ha
    rw [hb a (by omega) (by omega)]; decide
  rw [hsp, List.find?_append, hno, Option.none_or]
  rcases he with e | e
  · rw [e, Nat.sub_self]; simp
  · by_cases ht : to = l.length
    · rw [ht, Nat.sub_self]; simp
    · rw [show l.length - to = (l.length - to - 1) + 1 by omega, List.range'_succ, List.find?_cons_of_pos e]; rfl
theorem nextH_spec {l : List I3} {h : Nat} (hn : h < l.length) : h < nextH l h ∧ nextH l h ≤ l.length ∧ (∀ j, h < j → j < nextH l h → headB l j = false) ∧ (nextH l h = l.length ∨ (nextH l h < l.length ∧ headB l (nextH l h) = true)) := by
  unfold nextH
  cases hf : (List.range' (h + 1) (l.length - (h + 1))).find? (headB l) with
  | none =>
    simp only [Option.getD_none]
    refine ⟨hn, Nat.le_refl _, fun j h1 h2 => ?_, .inl (by trivial)⟩
    have := List.find?_eq_none.1 hf j (List.mem_range'_1.2 ⟨by omega, by omega⟩)
    simpa using this
  | some t =>
    simp only [Option.getD_some]
    have hm := List.mem_range'_1.1 (List.mem_of_find?_eq_some hf)
    refine ⟨by omega, by omega, fun j h1 h2 => ?_, .inr ⟨by omega, List.find?_some hf⟩⟩
    have hs := List.find?_range'_eq_some.1 hf
    have := hs.2.2 j (by omega) h2
    simpa using this

end Go.Proofs.YtbnekeomdhljhaaGreatDoor.C

namespace Go.Proofs.YtbnekeomdhljhaaGreatDoor.C
open Go.RowKit O

theorem gone_op (k b : Int) (x : I3) : (gone k b x).1 = x.1 ∧ (gone k b x).2.2 = x.2.2 := by unfold gone; split <;> exact ⟨rfl, rfl⟩
theorem gone_yes {k b : Int} {x : I3} (h1 : gB x = true) (h2 : k < gN x) : gone k b x = (x.1, x.2.1 + b, x.2.2) := if_pos ⟨h1, h2⟩
theorem gone_no {k b : Int} {x : I3} (h : ¬ (gB x = true ∧ k < gN x)) : gone k b x = x := if_neg h
theorem gone_back {k : Int} {x : I3} (hx : gN x ≤ 510) : gone k (-1) (gone k 1 x) = x := by
  by_cases h : gB x = true ∧ k < gN x
  · obtain ⟨h1, h2⟩ := h
    rw [gone_yes h1 h2]
    have e := gN_yes h1
    have hb := gB_in h1
    have h3 : gB (x.1, x.2.1 + 1, x.2.2) = true := gB_put h1 (by omega) (by omega)
    have e3 := gN_yes h3
    rw [gone_yes h3 (by rw [e3]; show k < x.2.1 + 1; omega)]
    show (x.1, x.2.1 + 1 + -1, x.2.2) = x
    rw [show x.2.1 + 1 + -1 = x.2.1 by omega]
  · rw [gone_no h, gone_no h]
theorem insL_take (l : List I3) {k : Nat} (x : I3) (hk : k ≤ l.length) : (insL l k x).take k = (l.take k).map (gone k 1) := by
  unfold insL
  rw [List.take_append_of_le_length (by simp; omega), List.take_of_length_le (by simp; omega)]
theorem insL_drop (l : List I3) {k : Nat} (x : I3) (hk : k ≤ l.length) : (insL l k x).drop (k + 1) = (l.drop k).map (gone k 1) := by
  unfold insL
  have h : ((l.take k).map (gone k 1)).length = k := by simp; omega
  rw [List.drop_append, h, List.drop_of_length_le (by rw [h]; omega), show k + 1 - k = 1 by omega]
  rfl
theorem delL_insL {l : List I3} {k : Nat} {x : I3} (hk : k < l.length) (ho : okB l = true) (hm : l.length + 1 ≤ 512) : delL (insL l k x) k = l := by
  unfold delL
  rw [insL_take l x (by omega), insL_drop l x (by omega), ← List.map_append, ← List.map_append, List.take_append_drop, List.map_map]
  conv => rhs; rw [← List.map_id l]
  apply List.map_congr_left
  intro y hy
  have h2 := (item_parts (List.all_eq_true.1 (okB_parts ho).2.2.2 y hy)).2
  exact gone_back (by omega)
theorem insL_here (l : List I3) {k : Nat} (x : I3) (hk : k ≤ l.length) : (insL l k x)[k]? = some x := by
  unfold insL
  rw [List.getElem?_append_right (by simp; omega)]
  have h : ((l.take k).map (gone k 1)).length = k := by simp; omega
  rw [h, Nat.sub_self]; rfl
theorem insL_low (l : List I3) {k i : Nat} (x : I3) (hi : i < k) (hk : k ≤ l.length) : (insL l k x)[i]? = some (gone k 1 (l[i]'(by omega))) := by
  unfold insL
  rw [List.getElem?_append_left (by simp; omega), List.getElem?_map, List.getElem?_take, if_pos hi, List.getElem?_eq_getElem (by omega)]
  rfl
theorem insL_high (l : List I3) {k i : Nat} (x : I3) (hi : k ≤ i) (hl : i < l.length) : (insL l k x)[i + 1]? = some (gone k 1 l[i]) := by
  unfold insL
  have h : ((l.take k).map (gone k 1)).length = k := by simp; omega
  rw [List.getElem?_append_right (by rw [h]; omega), h, show i + 1 - k = (i - k) + 1 by omega, List.getElem?_cons_succ, List.getElem?_map, List.getElem?_drop, show k + (i - k) = i by omega, List.getElem?_eq_getElem hl]
  rfl
theorem cnt_gone (l : List I3) (k b op : Int) : cntB (l.map (gone k b)) op = cntB l op := by
  unfold cntB
  rw [List.countP_map]
  congr 1
  funext x
  show ((gone k b x).1 == op) = (x.1 == op)
  rw [(gone_op k b x).1]
theorem cnt_ins (l : List I3) (k : Nat) (x : I3) : cntB (insL l k x) x.1 = cntB l x.1 + 1 := by
  unfold insL
  have h : cntB ((l.take k).map (gone k 1) ++ x :: (l.drop k).map (gone k 1)) x.1 = cntB ((l.take k).map (gone k 1)) x.1 + (cntB ((l.drop k).map (gone k 1)) x.1 + 1) := by
    unfold cntB; rw [List.countP_append, List.countP_cons]; simp
  have h2 : cntB (l.take k) x.1 + cntB (l.drop k) x.1 = cntB l x.1 := by
    unfold cntB; rw [← List.countP_append, List.take_append_drop]
  rw [h, cnt_gone, cnt_gone]
  omega

/-! ### counts -/
theorem cnt_le (l : List I3) (op : Int) : cntB l op ≤ l.length := List.countP_le_length
/-- How many of the first ops' there are. -/
def sumB (l : List I3) (k : Nat) : Nat := l.countP fun x => decide (0 ≤ x.1 ∧ x.1 < (k : Int))
theorem sum_zero (l : List I3) : sumB l 0 = 0 := by
  unfold sumB
  rw [List.countP_eq_zero]
  intro x _
  rw [decide_eq_true_iff]; omega
theorem sum_succ (l : List I3) (k : Nat) : sumB l (k + 1) = sumB l k + cntB l (k : Int) := by
  unfold sumB cntB
  induction l with
  | nil => rfl
  | cons x l ih =>
    simp only [List.countP_cons, ih]
    by_cases h1 : x.1 = (k : Int)
    · have a1 : decide (0 ≤ x.1 ∧ x.1 < ((k + 1 : Nat) : Int)) = true := by rw [decide_eq_true_iff]; omega
      have a2 : decide (0 ≤ x.1 ∧ x.1 < (k : Int)) = false := by rw [decide_eq_false_iff_not]; omega
      have a3 : (x.1 == (k : Int)) = true := by rw [beq_iff_eq]; exact h1
      rw [a1, a2, a3]; simp; omega
    · have a3 : (x.1 == (k : Int)) = false := by rw [beq_eq_false_iff_ne]; exact h1
      have a1 : decide (0 ≤ x.1 ∧ x.1 < ((k + 1 : Nat) : Int)) = decide (0 ≤ x.1 ∧ x.1 < (k : Int)) := by
        rw [decide_eq_decide]; omega
      rw [a1, a3]; simp; omega
theorem sum_30 (l : List I3) : sumB l 30 = l.countP fun x => isOp x.1 := rfl
theorem sum_le (l : List I3) (k : Nat) : sumB l k ≤ l.length := List.countP_le_length
theorem known_snoc (l : List I3) (x : I3) : (l ++ [x]).countP (fun x => isOp x.1) = l.countP (fun x => isOp x.1) + if isOp x.1 = true then 1 else 0 := by
  rw [List.countP_append, List.countP_singleton]
theorem known_all {l : List I3} (h : okB l = true) : l.countP (fun x => isOp x.1) = l.length := by
  rw [List.countP_eq_length]
  intro x hx
  exact (ok_op (item_parts (List.all_eq_true.1 (okB_parts h).2.2.2 x hx)).1).1
theorem ends_any_of {l : List I3} (h : okB l = true) : 0 < cntB l 24 + cntB l 18 + cntB l 25 + cntB l 27 := by
  obtain ⟨h1, _, h3, h4⟩ := okB_parts h
  rw [lastB_at (by omega)] at h3
  have hm := List.getElem_mem (l := l) (n := l.length - 1) (by omega)
  have hk := (item_parts (List.all_eq_true.1 h4 _ hm)).1
  generalize l[l.length - 1] = x at h3 hm hk
  have he : (rowR x.1 x.2.1 x.2.2).fin = true := h3
  rw [rowR_ok hk, fin_at (ok_op hk).1] at he
  have pos : ∀ op, x.1 = op → 0 < cntB l op := fun op e => by
    unfold cntB
    exact List.countP_pos_iff.2 ⟨x, hm, by simp [e]⟩
  simp only [Bool.or_eq_true, beq_iff_eq] at he
  rcases he with e | e | e | e
  · have := pos _ e; omega
  · have := pos _ e; omega
  · have := pos _ e; omega
  · have := pos _ e; omega
theorem name_nil (op : Int) : (str (O.rowAt op).name).toList.isEmpty = !isOp op := by
  cases ho : isOp op
  · rw [O.rowAt_no ho]; decide +kernel
  · rcases op_cases ho with rfl | rfl | rfl | rfl | rfl | rfl | rfl | rfl | rfl | rfl | rfl | rfl | rfl | rfl | rfl | rfl | rfl | rfl | rfl | rfl | rfl | rfl | rfl | rfl | rfl | rfl | rfl | rfl | rfl | rfl <;> decide +kernel

/-! ### stretches -/
theorem heads_lt (l : List I3) : (headsL l).Pairwise (· < ·) := List.Pairwise.filter _ List.pairwise_lt_range
theorem heads_nodup (l : List I3) : (headsL l).Nodup := (heads_lt l).imp (fun h => Nat.ne_of_lt h)
theorem heads_next {l : List I3} {j : Nat} (hj : j < (headsL l).length) :
    (headsL l)[j] < l.length ∧ headB l (headsL l)[j] = true ∧ (j + 1 = (headsL l).length → nextH l (headsL l)[j] = l.length) ∧ ∀ h2 : j + 1 < (headsL l).length, (headsL l)[j + 1] = nextH l (headsL l)[j] := by
  obtain ⟨h1, h2⟩ := heads_mem.1 (List.getElem_mem hj)
  have hi : (hzs l).countP (fun y => decide (y < ((headsL l)[j] : Int))) = j := by
    have e : hzs l = ((headsL l).take j).map (fun i : Nat => (i : Int)) ++ ((headsL l).drop j).map (fun i : Nat => (i : Int)) := by
      unfold hzs; rw [← List.map_append, List.take_append_drop]
    rw [e, List.countP_append]
    have c1 : (((headsL l).take j).map (fun i : Nat => (i : Int))).countP (fun y => decide (y < ((headsL l)[j] : Int))) = j := by
      rw [List.countP_eq_length.2]
      · simp; omega
      · intro a ha
        obtain ⟨b, hb, rfl⟩ := List.mem_map.1 ha
        obtain ⟨i, hi, rfl⟩ := List.mem_iff_getElem.1 hb
        have hij : i < j := by simp at hi; omega
        rw [List.getElem_take]
        have := List.pairwise_iff_getElem.1 (heads_lt l) i j (by omega) hj hij
        simpa using this
    have c2 : (((headsL l).drop j).map (fun i : Nat => (i : Int))).countP (fun y => decide (y < ((headsL l)[j] : Int))) = 0 := by
      rw [List.countP_eq_zero]
      intro a ha
      obtain ⟨b, hb, rfl⟩ := List.mem_map.1 ha
      obtain ⟨i, hi, rfl⟩ := List.mem_iff_getElem.1 hb
      rw [List.getElem_drop]
      have hle : (headsL l)[j] ≤ (headsL l)[j + i]'(by simp at hi; omega) := by
        rcases Nat.eq_zero_or_pos i with e | e
        · subst e; exact Nat.le_refl _
        · exact Nat.le_of_lt (List.pairwise_iff_getElem.1 (heads_lt l) j (j + i) hj (by simp at hi; omega) (by omega))
      simp; omega
    rw [c1, c2, Nat.add_zero]
  obtain ⟨s1, s2, s3⟩ := stretch_at h1 h2 j hi
  have hl : (hzs l).length = (headsL l).length := by unfold hzs; simp
  refine ⟨h1, h2, fun e => s2 (by omega), fun h => ?_⟩
  have := s3 (by omega)
  unfold hzs at this
  rw [List.getElem_map] at this
  exact_mod_cast this
theorem heads_zero {l : List I3} (h : 0 < l.length) : ∃ hp : 0 < (headsL l).length, (headsL l)[0] = 0 := by
  have hh : headB l 0 = true := by unfold headB; simp
  have hs := heads_split h hh
  have hp : 0 < (headsL l).length := List.length_pos_of_mem (heads_mem.2 ⟨h, hh⟩)
  refine ⟨hp, ?_⟩
  have e : (headsL l)[0]? = some 0 := by rw [hs]; rfl
  exact Option.some.inj ((List.getElem?_eq_getElem hp).symm.trans e)
/-- Within a stretch, nothing goes, or ends. -/
theorem inner_no {l : List I3} {h i : Nat} (hn : h < l.length) (h1 : h ≤ i) (h2 : i + 1 < nextH l h) : gB (l[i]'(by have := (nextH_spec hn).2.1; omega)) = false ∧ eB (l[i]'(by have := (nextH_spec hn).2.1; omega)) = false := by
  obtain ⟨_, hle, hb, _⟩ := nextH_spec hn
  have hx := hb (i + 1) (by omega) h2
  unfold headB at hx
  rw [Nat.add_sub_cancel, at0_of (show i < l.length by omega)] at hx
  simp only [Bool.or_eq_false_iff] at hx
  exact ⟨hx.1.2, hx.1.1.2⟩
theorem goes_head {l : List I3} (ho : okB l = true) {x : I3} (hx : x ∈ l) (hg : gB x = true) : ∃ t : Nat, gN x = (t : Int) ∧ t ∈ headsL l := by
  have h1 := (item_parts (List.all_eq_true.1 (okB_parts ho).2.2.2 x hx)).2
  have h2 := (gN_in x).1
  refine ⟨(gN x).toNat, by omega, heads_mem.2 ⟨by omega, ?_⟩⟩
  unfold headB
  have : (l.any fun x' => gB x' && decide (gN x' = (((gN x).toNat : Nat) : Int))) = true := by
    rw [List.any_eq_true]
    exact ⟨x, hx, by rw [hg]; simp; omega⟩
  rw [this]; simp

end Go.Proofs.YtbnekeomdhljhaaGreatDoor.C

namespace Go.Proofs.YtbnekeomdhljhaaGreatDoor.C
open Go.RowKit O

theorem instr_info : (Tryz.prog.info? 74).map (fun i => (i.zero, i.size, i.bytes)) = some (some (.agg #[.int .i64 0, .int .i64 0, .int .i64 0]), 3, 24) := by kernel_rfl
theorem instr_size : (Tryz.prog.info? 74).map (·.size) = some 3 := by kernel_rfl

/-- The builtin copy of whole elements into a block that is known whole. -/
theorem run_copy_k {P : Program} {w : World} (dT sT ty elem : TypeId) (k : Nat) (hu : P.underlying dT = some (.slice elem)) (hsz : (P.info? elem).map (·.size) = some k)
    (g n dCap sCap : Nat) (ad : Addr) (cs0 : Array Value) (t : TypeId) (hg : Blk w g t cs0) (cs : List Value) (hn : cs.length = n * k) (hsrc : ∀ j v, cs[j]? = some v → w.cell? (ad.add j) = some v) (hfit : cs0.size = cs.length) (h1 : ∀ v ∈ cs, v.oneCell' = true) :
    ∃ w', (Builtin.copy_ #[dT, sT] ty #[.slice (some ⟨g, 0, none⟩) n dCap, .slice (some ad) n sCap]).run P w = .ok (goInt n) w' ∧ Blk w' g t cs.toArray ∧ Keep (fun b => b = g) w w' := by
  have hl := run_loadCells_list (P := P) w ad cs hsrc
  have hst := run_storeCells_at P g 0 t cs 0 cs0 w hg (by omega) h1
  have e : cs0.toList.take (0 + 0) ++ cs ++ cs0.toList.drop (0 + 0 + cs.length) = cs := by
    rw [List.drop_of_length_le (by simp; omega)]; simp
  rw [e] at hst
  refine ⟨w.setRow g cs.toArray, ?_, setRow_heap w g cs0 cs.toArray t _ hg, ⟨rfl, rfl, rfl, by simp, fun b _ hne => setRow_other w g b _ hne⟩⟩
  cases hq : P.info? elem with
  | none => simp [hq] at hsz
  | some i =>
    have hi : i.size = k := by simpa [hq] using hsz
    simp [Builtin.copy_, run_underlying hu, Builtin.lenOf, Builtin.firstCells, sizeOf, typeInfo, hq, hi, ← hn, hl, hst]

/-- A new slice of as many instructions, and the list copied into it. -/
theorem made_copy {w w1 : World} {l : List I3} {n c : Nat} {g0 off : Nat} {zs : List Value} (hr : Rd w (some ⟨g0, off, none⟩) (iis l)) (hn : l.length = n) (h0 : 1 ≤ n)
    (hrow : w1.ownsRow 0 74 3 (.slice (some ⟨w.heap.size, 0, none⟩) n n) n zs) (hg : w.grownBy w1 none) :
    ∃ w2, (Builtin.copy_ #[25, 25] 3 #[.slice (some ⟨w.heap.size, 0, none⟩) n n, .slice (some ⟨g0, off, none⟩) n c]).run Tryz.prog w1 = .ok (goInt n) w2 ∧ Blk w2 w.heap.size 74 (iis l).toArray ∧ Keep NoB w w2 := by
  have hK0 : Keep NoB w w1 := (Keep.refl NoB w).grown hg (fun g e _ => by cases e)
  obtain ⟨cur, hB, hcs⟩ : ∃ cur, Blk w1 w.heap.size 74 cur ∧ cur.size = n * 3 := by
    obtain ⟨h3, h4⟩ := hrow
    rcases h4 with ⟨h4, _⟩ | ⟨g, cap, cur, h4, _, h6, _, _, h7, _⟩
    · cases h4
    · injection h4 with h4 _ h8
      injection h4 with h4
      injection h4 with h4 _ _
      subst h4 h8
      exact ⟨cur, h6, h7⟩
  have hlen : (iis l).length = n * 3 := by rw [iis_length, hn]
  obtain ⟨w2, e, h1, h2⟩ := run_copy_k (P := Tryz.prog) (w := w1) 25 25 3 74 3 Tryz.underlying25 instr_size w.heap.size n n c ⟨g0, off, none⟩ cur _ hB (iis l) hlen
    (fun j v hv => by
      obtain ⟨g', off', e, hc⟩ := hr (by rw [hlen]; omega)
      injection e with e; injection e with e1 e2; subst e1 e2
      refine hK0.cell ?_ id
      have := hc j v hv
      unfold Addr.add
      by_cases hj : j = 0
      · subst hj; simpa using this
      · simpa [hj] using this) (by rw [hlen]; exact hcs) (iis_cells l)
  exact ⟨w2, e, h1, hK0.trans h2 (fun b e hl => by omega)⟩

/-- In a list of cells, one number put elsewhere. -/
theorem iis_set (pre post : List I3) (x : I3) (a' : Int) : (iis (pre ++ x :: post)).toArray.setIfInBounds (pre.length * 3 + 1) (.int .i64 a') = (iis (pre ++ (x.1, a', x.2.2) :: post)).toArray := by
  rw [List.setIfInBounds_toArray, iis_append, iis_append, iis_cons, iis_cons]
  congr 1
  rw [List.set_append_right _ _ (by rw [iis_length]; omega), iis_length, show pre.length * 3 + 1 - pre.length * 3 = 1 by omega]
  rfl
theorem blk_at {w : World} {g : Nat} {t : TypeId} {l : List I3} (h : Blk w g t (iis l).toArray) {i : Nat} (hi : i < l.length) :
    w.cell? ⟨g, i * 3, none⟩ = some (.int .i64 l[i].1) ∧ w.cell? ⟨g, i * 3 + 1, none⟩ = some (.int .i64 l[i].2.1) ∧ w.cell? ⟨g, i * 3 + 2, none⟩ = some (.int .i64 l[i].2.2) := by
  obtain ⟨h1, h2, h3⟩ := iis_at l i hi
  exact ⟨by rw [h.cell]; simpa using h1, by rw [h.cell]; simpa using h2, by rw [h.cell]; simpa using h3⟩
theorem blk_mid {w : World} {g j : Nat} {t : TypeId} {pre post : List I3} {x : I3} (h : Blk w g t (iis (pre ++ x :: post)).toArray) (hj : pre.length = j) :
    w.cell? ⟨g, j * 3, none⟩ = some (.int .i64 x.1) ∧ w.cell? ⟨g, j * 3 + 1, none⟩ = some (.int .i64 x.2.1) ∧ w.cell? ⟨g, j * 3 + 2, none⟩ = some (.int .i64 x.2.2) := by
  have := blk_at h (i := j) (by simp; omega)
  have e : (pre ++ x :: post)[j]'(by simp; omega) = x := by
    subst hj; simp
  rw [e] at this; exact this

end Go.Proofs.YtbnekeomdhljhaaGreatDoor.C

namespace Go.Proofs.YtbnekeomdhljhaaGreatDoor.C
open Go.RowKit O

/-- What is answered: the list, and the error. -/
def insG (l : List I3) (p : Int) (x : I3) : List I3 := if hasB l p = true ∧ okB (insL l p.toNat x) = true then insL l p.toNat x else []
def insE (l : List I3) (p : Int) (x : I3) : Int := if hasB l p = true ∧ okB (insL l p.toNat x) = true then 0 else 50
def LstR (w : World) (m : List I3) (E : Int) (e : Ending) (w' : World) : Prop := ∃ v, e = .returned (.tuple #[v, .int .i64 E]) ∧ Own w' 74 3 (Fresh w) v m.length (iis m) ∧ Keep NoB w w'
theorem lstR_none {w w' : World} {E : Int} (h : Keep NoB w w') : LstR w [] E (.returned (.tuple #[.slice none 0 0, .int .i64 E])) w' := ⟨_, rfl, Own.nil _ _ _ _, h⟩

/-- An append, as it yields. -/
theorem yields_append {P : Program} {o : Oper} {a : Act} {w w' : World} {R : Value → World → Prop} (s x : Operand) (S : TypeId) (ho : o.op = .call { callee := .builtin .append, args := #[s, x], argTypes := #[S, S] }) {v u v' : Value}
    (hs : a.eval s = v) (hx : a.eval x = u) (hrun : (Builtin.append_ #[S, S] o.type #[v, u]).run P w = .ok v' w') (h : R v' w') : yieldsK P o a w R := by
  unfold yieldsK execOp
  simp only [ho, resolve, invoke, builtin, Sem.run_bind, Sem.run_pure, Result.andThen_ok, List.map_toArray, List.map_cons, List.map_nil, hs, hx, hrun]
  exact h

/-- A new row that has the cells. -/
def RowV (w0 : World) (k : Nat) (ys : List Value) (v : Value) (w : World) : Prop := Own w 74 3 (Fresh w0) v k ys
theorem RowV.stable (w0 : World) (k : Nat) (ys : List Value) (v : Value) : StableI (RowV w0 k ys v) := fun _ _ h hk => Own.keepN h hk

/-- The first append of Insert: onto what is ahead, which has no room. -/
theorem first_append {w0 w : World} {g k : Nat} {cs : List I3} {x : I3} {bx : Nat} (ty : TypeId) (hK : w0.heap.size ≤ w.heap.size) (hm : Blk w g 74 (iis cs).toArray) (hk : k ≤ cs.length) (hk5 : k ≤ 512) (hb : Blk w bx 74 (iis [x]).toArray) :
    ∃ v' w', (Builtin.append_ #[25, 25] ty #[.slice (some ⟨g, 0, none⟩) k k, .slice (some ⟨bx, 0, none⟩) 1 1]).run Tryz.prog w = .ok v' w' ∧ RowV w0 (k + 1) (iis (cs.take k ++ [x])) v' w' ∧ Keep NoB w w' := by
  obtain ⟨i0, hi, hz0, hz1, hz2⟩ := info_parts instr_info
  have e : ∀ (b j : Nat), (⟨b, 0, none⟩ : Addr).add j = ⟨b, j, none⟩ := fun b j => by unfold Addr.add; by_cases hj : j = 0 <;> simp [hj]
  obtain ⟨v', w', h1, h2, h3⟩ := run_append_arg_grows (P := Tryz.prog) w 25 ty 74 i0 _ 3 24 Tryz.underlying25 hi hz0 hz1 hz2 rfl (by decide) ⟨g, 0, none⟩ k k (iis (cs.take k)) (by rw [iis_length, List.length_take]; omega)
    (fun j u hu => by
      rw [e, hm.cell]
      rw [← iis_take] at hu
      obtain ⟨hj, hju⟩ := List.getElem?_eq_some_iff.1 hu
      rw [List.getElem_take] at hju
      simp only [List.getElem?_toArray]
      rw [List.getElem?_eq_getElem (by simp at hj; omega), hju])
    ⟨bx, 0, none⟩ 1 1 (iis [x]) (by rw [iis_length]; rfl) (fun j u hu => by rw [e, hb.cell]; simpa using hu) (by omega) (by unfold maxLen; omega) (by omega)
  refine ⟨v', w', h1, ?_, (Keep.refl NoB w).grown h3 (fun g e _ => by cases e)⟩
  rw [← iis_append] at h2
  exact Own.of_row h2 (fun j hj => Nat.le_trans hK hj)

/-- The list, if it is a body; none, if it is not. -/
def pickL (m : List I3) : List I3 := if okB m = true then m else []
theorem pickL_ok {m : List I3} (h : okB m = true) : pickL m = m := if_pos h
theorem pickL_no {m : List I3} (h : okB m = false) : pickL m = [] := if_neg (by rw [h]; decide)
theorem rd_drop {w : World} {g : Nat} {t : TypeId} {cs : List I3} (h : Blk w g t (iis cs).toArray) (k : Nat) : Rd w (some ⟨g, k * 3, none⟩) (iis (cs.drop k)) := fun _ =>
  ⟨g, k * 3, rfl, fun j u hu => by
    rw [← iis_drop, List.getElem?_drop] at hu
    rw [h.cell]; simpa using hu⟩
/-- What comes of a row that was made, if it is a body. -/
theorem pick_own {w0 w w' : World} {m : List I3} {n c : Nat} {A : Option Addr} (hml : m.length = n) (ho : Own w 74 3 (Fresh w0) (.slice A n c) n (iis m)) (hk : Keep NoB w w') (hK : Keep NoB w0 w') :
    LstR w0 (pickL m) (chkB m) (.returned (.tuple #[ifV m (.slice A n c), .int .i64 (chkB m)])) w' := by
  refine ⟨_, rfl, ?_, hK⟩
  cases h : okB m
  · rw [pickL_no h, ifV_no h]; exact Own.nil _ _ _ _
  · rw [pickL_ok h, ifV_ok h, hml]; exact ho.keepN hk
theorem insert_pick {l : List I3} {p : Int} {x : I3} {m : List I3} (hb : hasB l p = true) (hm : insL l p.toNat x = m) : insG l p x = pickL m ∧ insE l p x = chkB m := by
  unfold insG insE chkB pickL
  rw [hm, hb]
  simp

end Go.Proofs.YtbnekeomdhljhaaGreatDoor.C

namespace Go.Proofs.YtbnekeomdhljhaaGreatDoor.C
open Go.RowKit O

/-- What is answered: the list, and the error. -/
def delG (l : List I3) (p : Int) : List I3 := if hasB l p = true ∧ okB (delL l p.toNat) = true then delL l p.toNat else []
def delE (l : List I3) (p : Int) : Int := if hasB l p = true ∧ okB (delL l p.toNat) = true then 0 else 50
theorem delete_pick {l : List I3} {p : Int} {m : List I3} (hb : hasB l p = true) (hm : delL l p.toNat = m) : delG l p = pickL m ∧ delE l p = chkB m := by
  unfold delG delE chkB pickL
  rw [hm, hb]
  simp
/-- The first ones of a block that is known whole, as a row with room. -/
theorem row_take {w : World} {g n k : Nat} {cs : List I3} (h : Blk w g 74 (iis cs).toArray) (hn : cs.length = n) (hk : k ≤ n) (h5 : n ≤ 512) : w.ownsRow 0 74 3 (.slice (some ⟨g, 0, none⟩) k n) k (iis (cs.take k)) := by
  refine ⟨by rw [iis_length, List.length_take]; omega, .inr ⟨g, n, (iis cs).toArray, rfl, Nat.zero_le _, h, hk, by unfold maxLen; omega, by simp [iis_length, hn], ?_⟩⟩
  show (iis cs).take (k * 3) = _
  exact iis_take cs k

end Go.Proofs.YtbnekeomdhljhaaGreatDoor.C

namespace Go.Proofs.YtbnekeomdhljhaaGreatDoor.O
open Go.RowKit

theorem num_case (l : List UInt8) (p M : Nat) : ∃ n r q : Nat, V.NumR l p M = (n, r, q) ∧ (r = 0 → n ≤ M ∧ n < 18446744073709551616) ∧ (r ≠ 0 → n = 0) := by
  refine ⟨_, _, _, rfl, fun h => ?_, fun h => ?_⟩
  · have := num_ok (l := l) (p := p) (m := M) h; exact ⟨this.2.1, this.2.2.1⟩
  · exact (V.bnd_zero (l.drop p) M h).1
theorem hi_nat {k : Int} (h1 : k ≠ 1) : ∃ M : Nat, hi k = (M : Int) ∧ M ≤ 511 := by
  refine ⟨(hi k).toNat, ?_, ?_⟩ <;> unfold hi <;> rw [if_neg h1] <;> repeat' split
  all_goals simp
theorem keepBr {w w1 w2 : World} {br : Nat} (h : Keep NoB w w1) (h2 : Keep (fun k => k = br) w1 w2) : Keep (fun k => k = br) w w2 := (h.mono (fun _ hf _ => hf.elim)).trans h2 (fun _ ho _ => ho)
theorem reads_ret {w w' : World} {br : Nat} {O : Nat → Prop} {l : List UInt8} {q er q' er' : Nat} {a a' : Int} (h1 : a = a') (h2 : er = er') (h3 : q = q') (h : V.ReelAt w' br O l q) (hk : Keep (fun k => k = br) w w') :
    V.Reads w br O l q' (.int .i64 a') er' (.returned (.tuple #[.int .i64 a, .int .i64 er])) w' := by subst h1 h2 h3; exact ⟨rfl, h, hk⟩
theorem blk5 {w : World} {g : Nat} {t : TypeId} {a0 a1 a2 a3 a4 : Value} (h : Blk w g t #[a0, a1, a2, a3, a4]) :
    w.cell? ⟨g, 0, none⟩ = some a0 ∧ w.cell? ⟨g, 1, none⟩ = some a1 ∧ w.cell? ⟨g, 2, none⟩ = some a2 ∧ w.cell? ⟨g, 3, none⟩ = some a3 ∧ w.cell? ⟨g, 4, none⟩ = some a4 := ⟨h.cell 0, h.cell 1, h.cell 2, h.cell 3, h.cell 4⟩
theorem reel_lt {w : World} {br p : Nat} {O : Nat → Prop} {l : List UInt8} (h : V.ReelAt w br O l p) : br < w.heap.size := by
  obtain ⟨A, c, hb, _⟩ := h.cells
  exact hb.lt

set_option maxHeartbeats 2000000 in
theorem read_any (k : Int) (sh gu : Value) (w : World) (br : Nat) (O : Nat → Prop) (l : List UInt8) (p : Nat) (h : V.ReelAt w br O l p) (hlen : l.length ≤ 140737488355328) :
    Calls Tryz.prog 157 #[opV k sh gu, .pointer (some ⟨br, 0, none⟩)] w (V.Reads w br O l (decP k l p).2.2 (.int .i64 (decP k l p).1) (decP k l p).2.1) := by
  have hK := (Keep.refl NoB w).alloc (.cells #[.int .i64 k, .int .i64 (lo k), .int .i64 (hi k), sh, gu] 209)
  have h1 := h.keep hK (fun _ _ => id)
  have hb0 := Blk.new w 209 #[.int .i64 k, .int .i64 (lo k), .int .i64 (hi k), sh, gu]
  have hbr := reel_lt h
  unfold opV
  by_cases h0 : k = 0
  · subst h0
    have HX : Hid (decP 0 l p = (0, 0, p)) := rfl
    clear hb0 hbr
    go_enter Tryz.func157, Tryz.ntmps157
    go_wp2
    go_ret2
    rw [HX.out]
    exact ⟨rfl, h1, hK.mono (fun _ hf _ => hf.elim)⟩
  · have q0 : (k == 0) = false := by rw [beq_eq_false_iff_ne]; exact h0
    by_cases h1k : k = 1
    · subst h1k
      have HS := Lib.hid (V.rsigned_any _ br O l p (lo 1) (hi 1) h1 hlen)
      have HX : Hid (decP 1 l p = V.SigR l p (lo 1) (hi 1)) := rfl
      rw [HX.out]
      generalize V.SigR l p (lo 1) (hi 1) = x at HS ⊢
      clear HX h h1 hb0 hbr
      go_enter Tryz.func157, Tryz.ntmps157
      go_wp2_with fail
      refine HS.out.mono ?_
      rintro e w1 ⟨rfl, h2, k2⟩
      go_wp2
      go_ret2
      exact ⟨rfl, h2, keepBr hK k2⟩
    · have q1 : (k == 1) = false := by rw [beq_eq_false_iff_ne]; exact h1k
      obtain ⟨M, hM, hM5⟩ := hi_nat h1k
      have hw : IntKind.u64.wrap (M : Int) = (M : Int) := by simp [IntKind.wrap, IntKind.bits, IntKind.signed]; omega
      have HS := Lib.hid (V.rnumber_any _ br O l p M h1 hlen)
      obtain ⟨n, r, q, hN, hN0, hN1⟩ := num_case l p M
      have HX : Hid (decP k l p = if r ≠ 0 then (0, r, q) else if inK k n = true then ((n : Int), 0, q) else (0, 40, q)) := by
        show _ = _
        unfold decP
        rw [if_neg h0, if_neg h1k, show (hi k).toNat = M by omega, hN]
      rw [hN] at HS
      have HG := Lib.hid (fun w t ht => has_gen k (n : Int) (opV k sh gu) t w ht ⟨sh, gu, rfl⟩)
      unfold opV at HG
      rw [hM] at hb0 HG HS ⊢
      have hK' : Keep NoB w (w.alloc (.cells #[.int .i64 k, .int .i64 (lo k), .int .i64 (M : Int), sh, gu] 209)) := (Keep.refl NoB w).alloc _
      clear h h1 hK hN hM
      by_cases hr : r = 0
      · subst hr
        obtain ⟨hn1, hn2⟩ := hN0 rfl
        have hwn : IntKind.i64.wrap (n : Int) = (n : Int) := by simp [IntKind.wrap, IntKind.bits, IntKind.signed]; omega
        clear hN0 hN1
        cases hin : inK k (n : Int)
        · have HX2 : Hid (decP k l p = (0, 40, q)) := by show _ = _; rw [HX.out, hin]; simp
          have HH := Lib.hid (fun w => HG.out w false hin)
          clear HX HG hin
          go_enter Tryz.func157, Tryz.ntmps157
          go_wp2_with fail
          refine HS.out.mono ?_
          rintro e w1 ⟨rfl, h2, k2⟩
          have b1 := hb0.keep k2 (fun e => by omega)
          obtain ⟨c0, c1, c2, c3, c4⟩ := blk5 b1
          go_wp2_with fail
          refine (HH.out _).mono ?_
          rintro e w2 ⟨rfl, k3⟩
          go_wp2
          go_ret2
          rw [HX2.out]
          exact ⟨rfl, h2.keep k3 (fun _ _ => id), (keepBr hK' k2).trans (k3.mono (fun _ hf _ => hf.elim)) (fun _ ho _ => ho)⟩
        · have HX2 : Hid (decP k l p = ((n : Int), 0, q)) := by show _ = _; rw [HX.out, hin]; simp
          have HH := Lib.hid (fun w => HG.out w true hin)
          clear HX HG hin
          go_enter Tryz.func157, Tryz.ntmps157
          go_wp2_with fail
          refine HS.out.mono ?_
          rintro e w1 ⟨rfl, h2, k2⟩
          have b1 := hb0.keep k2 (fun e => by omega)
          obtain ⟨c0, c1, c2, c3, c4⟩ := blk5 b1
          go_wp2_with fail
          refine (HH.out _).mono ?_
          rintro e w2 ⟨rfl, k3⟩
          go_wp2
          go_ret2
          rw [HX2.out]
          exact ⟨rfl, h2.keep k3 (fun _ _ => id), (keepBr hK' k2).trans (k3.mono (fun _ hf _ => hf.elim)) (fun _ ho _ => ho)⟩
      · have hr1 : ((r : Int) != 0) = true := by rw [bne_iff_ne]; omega
        have HX2 : Hid (decP k l p = (0, r, q)) := by show _ = _; rw [HX.out, if_pos hr]
        clear HX HG hN0 hN1 hr
        go_enter Tryz.func157, Tryz.ntmps157
        go_wp2_with fail
        refine HS.out.mono ?_
        rintro e w1 ⟨rfl, h2, k2⟩
        have b1 := hb0.keep k2 (fun e => by omega)
        obtain ⟨c0, c1, c2, c3, c4⟩ := blk5 b1
        go_wp2
        go_ret2
        rw [HX2.out]
        exact ⟨rfl, h2, keepBr hK' k2⟩

/-! ### Decode -/

/-- What Decode leaves. -/
def DecR (w : World) (br : Nat) (O : Nat → Prop) (l : List UInt8) (d : Dec) (e : Ending) (w' : World) : Prop :=
  e = .returned (.tuple #[instV d.op d.a d.b, .int .i64 d.er]) ∧ V.ReelAt w' br O l d.pl ∧ Keep (fun k => k = br) w w'
theorem dec_case (k : Int) (l : List UInt8) (p : Nat) : ∃ (a : Int) (r q : Nat), decP k l p = (a, r, q) := ⟨_, _, _, rfl⟩
theorem read_at (k : Int) (v : Value) (w : World) (br : Nat) (O : Nat → Prop) (l : List UInt8) (p : Nat) (a : Int) (r q : Nat) (hd : decP k l p = (a, r, q)) (hv : ∃ sh gu, v = opV k sh gu) (h : V.ReelAt w br O l p) (hlen : l.length ≤ 140737488355328) :
    Calls Tryz.prog 157 #[v, .pointer (some ⟨br, 0, none⟩)] w (V.Reads w br O l q (.int .i64 a) r) := by
  obtain ⟨sh, gu, rfl⟩ := hv
  have := read_any k sh gu w br O l p h hlen
  rw [hd] at this
  exact this
theorem out3 {w w1 : World} {br B : Nat} (hk : Keep (fun k => k = br) w w1) (hB : w.heap.size ≤ B) (u0 u1 u2 : Value) : Keep (fun k => k = br) w (((w1.setCell ⟨B, 0, none⟩ u0).setCell ⟨B, 1, none⟩ u1).setCell ⟨B, 2, none⟩ u2) := by
  have hn : ∀ i, (⟨B, i, none⟩ : Addr).block < w.heap.size → (⟨B, i, none⟩ : Addr).block = br := fun i hl => by have : B < w.heap.size := hl; omega
  exact ((hk.setCell (hn 0) _).setCell (hn 1) _).setCell (hn 2) _
theorem reel3 {w : World} {br B p : Nat} {O : Nat → Prop} {l : List UInt8} (h : V.ReelAt w br O l p) (hB : ¬ O B) (u0 u1 u2 : Value) : V.ReelAt (((w.setCell ⟨B, 0, none⟩ u0).setCell ⟨B, 1, none⟩ u1).setCell ⟨B, 2, none⟩ u2) br O l p := by
  have hs : ∀ (w : World) i u, V.ReelAt w br O l p → V.ReelAt (w.setCell ⟨B, i, none⟩ u) br O l p := fun w i u h =>
    h.keep (O' := fun k => k = B) (Keep.setCell (O := fun k => k = B) (p := ⟨B, i, none⟩) (Keep.refl _ w) (fun _ => rfl) u) (fun k ho e => hB (e ▸ ho))
  exact hs _ 2 u2 (hs _ 1 u1 (hs _ 0 u0 h))
theorem reel_new {w : World} {br p : Nat} {O : Nat → Prop} {l : List UInt8} (h : V.ReelAt w br O l p) : V.ReelAt w br (fun k => O k ∧ k < w.heap.size) l p := h.mono fun _ ho hk => ⟨ho, hk⟩

set_option maxHeartbeats 2000000 in
theorem decode_any (w : World) (br : Nat) (O : Nat → Prop) (l : List UInt8) (p : Nat) (hO : ∀ k, O k → k < w.heap.size) (h : V.ReelAt w br O l p) (hlen : l.length ≤ 140737488355328) :
    Calls Tryz.prog 114 #[.pointer (some ⟨br, 0, none⟩)] w (DecR w br O l (decI l p)) := by
  have hK := (Keep.refl NoB w).alloc (.cells #[.int .i64 0, .int .i64 0, .int .i64 0] 74)
  have h1 := h.keep hK (fun _ _ => id)
  have hb0 := Blk.new w 74 #[.int .i64 0, .int .i64 0, .int .i64 0]
  have hnB : ¬ O w.heap.size := fun ho => by have := hO _ ho; omega
  have hbr := reel_lt h
  have HS := Lib.hid (V.rnumber_any _ br O l p 29 h1 hlen)
  obtain ⟨n, r, q, hN, hN0, hN1⟩ := num_case l p 29
  rw [hN] at HS
  clear h h1 hO
  by_cases hr : r = 0
  · subst hr
    obtain ⟨hn1, hn2⟩ := hN0 rfl
    have hwn : IntKind.i64.wrap (n : Int) = (n : Int) := by simp [IntKind.wrap, IntKind.bits, IntKind.signed]; omega
    have hkk := kinds_ok (n : Int)
    have HKn := Lib.hid (fun w => kinds_any (n : Int) w)
    obtain ⟨a, r1, q1, hA⟩ := dec_case (rowAt n).ka l q
    have HOA := Lib.hid (fun w => op_gen (rowAt n).ka ⟨hkk.1, hkk.2.1⟩ w)
    have HRA := Lib.hid (fun v hv w h => read_at (rowAt n).ka v w br O l q a r1 q1 hA hv h hlen)
    have HOB := Lib.hid (fun w => op_gen (rowAt n).kb ⟨hkk.2.2.1, hkk.2.2.2⟩ w)
    have HDB := Lib.hid (fun p => dec_case (rowAt n).kb l p)
    have HRB := Lib.hid (fun p b r2 q2 hB v hv w h => read_at (rowAt n).kb v w br O l p b r2 q2 hB hv h hlen)
    have HD2 := Lib.hid (fun hr => decI_2 (l := l) (p := p) hN hA hr)
    have HD3 := Lib.hid (fun (hr : r1 = 0) b r2 q2 hB hr2 => decI_3 (l := l) (p := p) (b := b) (r2 := r2) (q2 := q2) hN (by rw [hA, hr]) hB hr2)
    have HD4 := Lib.hid (fun (hr : r1 = 0) b q2 hB => decI_4 (l := l) (p := p) (b := b) (q2 := q2) hN (by rw [hA, hr]) hB)
    clear hN0 hN1 hkk hA hN
    generalize (rowAt (n : Int)).ka = ka at *
    generalize (rowAt (n : Int)).kb = kb at *
    go_enter Tryz.func114, Tryz.ntmps114
    go_wp2_with fail
    refine HS.out.mono ?_
    rintro e w1 ⟨rfl, h2, k2⟩
    replace hb0 := hb0.keep k2 (fun e => by omega)
    replace hK := keepBr hK k2
    clear k2
    go_wp2_with fail
    refine (HKn.out _).mono ?_
    rintro e w2 ⟨rfl, k2⟩
    replace hb0 := hb0.keep k2 id
    replace hK := hK.trans (k2.mono (fun _ hf _ => hf.elim)) (fun _ ho _ => ho)
    replace h2 := h2.keep k2 (fun _ _ => id)
    clear k2
    go_wp2_with fail
    refine (HOA.out _).mono ?_
    rintro e w3 ⟨u, rfl, hu, k2⟩
    replace hb0 := hb0.keep k2 id
    replace hK := hK.trans (k2.mono (fun _ hf _ => hf.elim)) (fun _ ho _ => ho)
    replace h2 := h2.keep k2 (fun _ _ => id)
    clear k2
    go_wp2_with fail
    refine (HRA.out u hu _ h2).mono ?_
    rintro e w4 ⟨rfl, h3, k2⟩
    replace hb0 := hb0.keep k2 (fun e => by omega)
    replace hK := hK.trans k2 (fun _ ho _ => ho)
    clear k2 h2 hu
    by_cases hr1 : r1 = 0
    · subst hr1
      obtain ⟨b, r2, q2, hB⟩ := HDB.out q1
      have HRB2 := Lib.hid (HRB.out q1 b r2 q2 hB)
      go_wp2_with fail
      refine (HOB.out _).mono ?_
      rintro e w5 ⟨u2, rfl, hu2, k2⟩
      replace hb0 := hb0.keep k2 id
      replace hK := hK.trans (k2.mono (fun _ hf _ => hf.elim)) (fun _ ho _ => ho)
      replace h3 := h3.keep k2 (fun _ _ => id)
      clear k2
      go_wp2_with fail
      refine (HRB2.out u2 hu2 _ h3).mono ?_
      rintro e w6 ⟨rfl, h4, k2⟩
      replace hb0 := hb0.keep k2 (fun e => by omega)
      replace hK := hK.trans k2 (fun _ ho _ => ho)
      clear k2 h3 hu2 HRB2 HRB
      have hz := hb0.lt
      have f0 := fun i => hb0.frozen i
      by_cases hr2 : r2 = 0
      · subst hr2
        have HX := Lib.hid (HD4.out (by first | rfl | trivial) b q2 hB)
        clear HD2 HD3 HD4 hB
        obtain ⟨x0, x1, x2⟩ := blk_inst hb0
        go_wp2
        refine bodyPost_ret (v := .tuple #[instV n a b, .int .i64 0]) (by simp [results, Tryz.results114, go_sem, x0, x1, x2]) rfl ?_
        rw [HX.out]
        exact ⟨rfl, reel3 h4 hnB _ _ _, out3 hK (Nat.le_refl _) _ _ _⟩
      · have HX := Lib.hid (HD3.out (by first | rfl | trivial) b r2 q2 hB hr2)
        have hr3 : ((r2 : Int) != 0) = true := by rw [bne_iff_ne]; omega
        clear HD2 HD3 HD4 hB hr2
        obtain ⟨x0, x1, x2⟩ := blk_inst hb0
        go_wp2
        refine bodyPost_ret (v := .tuple #[instV 0 0 0, .int .i64 r2]) (by simp [results, Tryz.results114, go_sem, x0, x1, x2]) rfl ?_
        rw [HX.out]
        exact ⟨rfl, reel3 h4 hnB _ _ _, out3 hK (Nat.le_refl _) _ _ _⟩
    · have HX := Lib.hid (HD2.out hr1)
      have hr3 : ((r1 : Int) != 0) = true := by rw [bne_iff_ne]; omega
      clear HD2 HD3 HD4 hr1 HOB HRB HDB HRA HOA
      have hz := hb0.lt
      have f0 := fun i => hb0.frozen i
      obtain ⟨x0, x1, x2⟩ := blk_inst hb0
      go_wp2
      refine bodyPost_ret (v := .tuple #[instV 0 0 0, .int .i64 r1]) (by simp [results, Tryz.results114, go_sem, x0, x1, x2]) rfl ?_
      rw [HX.out]
      exact ⟨rfl, reel3 h3 hnB _ _ _, out3 hK (Nat.le_refl _) _ _ _⟩
  · have HX := Lib.hid (decI_1 hN hr)
    have hr3 : ((r : Int) != 0) = true := by rw [bne_iff_ne]; omega
    clear hN0 hN1 hN hr
    go_enter Tryz.func114, Tryz.ntmps114
    go_wp2_with fail
    refine HS.out.mono ?_
    rintro e w1 ⟨rfl, h2, k2⟩
    replace hb0 := hb0.keep k2 (fun e => by omega)
    replace hK := keepBr hK k2
    clear k2
    have hz := hb0.lt
    have f0 := fun i => hb0.frozen i
    obtain ⟨x0, x1, x2⟩ := blk_inst hb0
    go_wp2
    refine bodyPost_ret (v := .tuple #[instV 0 0 0, .int .i64 r]) (by simp [results, Tryz.results114, go_sem, x0, x1, x2]) rfl ?_
    rw [HX.out]
    exact ⟨rfl, reel3 h2 hnB _ _ _, out3 hK (Nat.le_refl _) _ _ _⟩

end Go.Proofs.YtbnekeomdhljhaaGreatDoor.O

namespace Go.Proofs.YtbnekeomdhljhaaGreatDoor.O
open Go.RowKit

theorem ref_lt {w : World} {br p : Nat} {O : Nat → Prop} {l : List UInt8} (h : V.RefAt w br O l p) : br < w.heap.size := by
  obtain ⟨A, c, hb, _⟩ := h.cells
  exact hb.lt
theorem ref3 {w : World} {br B p : Nat} {O : Nat → Prop} {l : List UInt8} (h : V.RefAt w br O l p) (hB : ¬ O B) (u0 u1 u2 : Value) : V.RefAt (((w.setCell ⟨B, 0, none⟩ u0).setCell ⟨B, 1, none⟩ u1).setCell ⟨B, 2, none⟩ u2) br O l p := by
  have hs : ∀ (w : World) i u, V.RefAt w br O l p → V.RefAt (w.setCell ⟨B, i, none⟩ u) br O l p := fun w i u h =>
    h.keep (O' := fun k => k = B) (Keep.setCell (O := fun k => k = B) (p := ⟨B, i, none⟩) (Keep.refl _ w) (fun _ => rfl) u) (fun k ho e => hB (e ▸ ho))
  exact hs _ 2 u2 (hs _ 1 u1 (hs _ 0 u0 h))

set_option maxHeartbeats 2000000 in
theorem rone_any (k : Int) (w : World) (br : Nat) (O : Nat → Prop) (l : List UInt8) (p : Nat) (hk : 0 ≤ k ∧ k ≤ 10) (h : V.RefAt w br O l p) (hlen : l.length ≤ 140737488355328) :
    Calls Tryz.prog 160 #[.pointer (some ⟨br, 0, none⟩), .int .i64 k] w (V.RReads w br O l (decP k l p).2.2 (.int .i64 (decP k l p).1) (decP k l p).2.1) := by
  by_cases h0 : k = 0
  · subst h0
    have HX : Hid (decP 0 l p = (0, 0, p)) := rfl
    go_enter Tryz.func160, Tryz.ntmps160
    go_wp2
    go_ret2
    rw [HX.out]
    exact ⟨rfl, h, Keep.refl _ _⟩
  · have q0 : (k == 0) = false := by rw [beq_eq_false_iff_ne]; exact h0
    by_cases h1k : k = 1
    · subst h1k
      have HS := Lib.hid (V.refsigned_any _ br O l p (-9223372036854775808) 9223372036854775807 h hlen)
      have HX : Hid (decP 1 l p = V.SigR l p (-9223372036854775808) 9223372036854775807) := rfl
      rw [HX.out]
      generalize V.SigR l p (-9223372036854775808) 9223372036854775807 = x at HS ⊢
      clear HX h
      go_enter Tryz.func160, Tryz.ntmps160
      go_wp2_with fail
      refine HS.out.mono ?_
      rintro e w1 ⟨rfl, h2, k2⟩
      go_wp2
      go_ret2
      exact ⟨rfl, h2, k2⟩
    · have q1 : (k == 1) = false := by rw [beq_eq_false_iff_ne]; exact h1k
      obtain ⟨M, hM, hM5⟩ := hi_nat h1k
      have hw : IntKind.u64.wrap (M : Int) = (M : Int) := by simp [IntKind.wrap, IntKind.bits, IntKind.signed]; omega
      have HM := Lib.hid (fun w => rmost_any k w hk.1 hk.2 h1k)
      have HL := Lib.hid (fun w => rleast_any k w hk.1 hk.2 h1k)
      have HS := Lib.hid (fun w h => V.refnumber_any w br O l p M h hlen)
      obtain ⟨n, r, q, hN, hN0, hN1⟩ := num_case l p M
      have HX : Hid (decP k l p = if r ≠ 0 then (0, r, q) else if inK k n = true then ((n : Int), 0, q) else (0, 40, q)) := by
        show _ = _
        unfold decP
        rw [if_neg h0, if_neg h1k, show (hi k).toNat = M by omega, hN]
      rw [hN] at HS
      rw [hM] at HM
      by_cases hr : r = 0
      · subst hr
        obtain ⟨hn1, hn2⟩ := hN0 rfl
        have hwn : IntKind.i64.wrap (n : Int) = (n : Int) := by simp [IntKind.wrap, IntKind.bits, IntKind.signed]; omega
        have hiff : inK k (n : Int) = decide (lo k ≤ (n : Int)) := by
          unfold inK
          rw [decide_eq_decide, hM]
          omega
        rw [hiff] at HX
        clear hN0 hN1 hiff hN hM hk h0 h1k
        generalize lo k = L at HL HX
        by_cases hL : (n : Int) < L
        · have HX2 : Hid (decP k l p = (0, 40, q)) := by show _ = _; rw [HX.out, if_neg (by simp), if_neg (by simp; omega)]
          clear HX
          go_enter Tryz.func160, Tryz.ntmps160
          go_wp2_with fail
          refine (HM.out _).mono ?_
          rintro e w1 ⟨rfl, k1⟩
          go_wp2_with fail
          refine (HS.out _ (h.keep k1 (fun _ _ => id))).mono ?_
          rintro e w2 ⟨rfl, h2, k2⟩
          go_wp2_with fail
          refine (HL.out _).mono ?_
          rintro e w3 ⟨rfl, rfl⟩
          go_wp2
          go_ret2
          rw [HX2.out]
          exact ⟨rfl, h2, keepBr k1 k2⟩
        · have HX2 : Hid (decP k l p = ((n : Int), 0, q)) := by show _ = _; rw [HX.out, if_neg (by simp), if_pos (by simp; omega)]
          have hL' : decide ((n : Int) < L) = false := by simpa using hL
          clear HX hL
          go_enter Tryz.func160, Tryz.ntmps160
          go_wp2_with fail
          refine (HM.out _).mono ?_
          rintro e w1 ⟨rfl, k1⟩
          go_wp2_with fail
          refine (HS.out _ (h.keep k1 (fun _ _ => id))).mono ?_
          rintro e w2 ⟨rfl, h2, k2⟩
          go_wp2_with fail
          refine (HL.out _).mono ?_
          rintro e w3 ⟨rfl, rfl⟩
          go_wp2
          go_ret2
          rw [HX2.out]
          exact ⟨rfl, h2, keepBr k1 k2⟩
      · have hr1 : ((r : Int) != 0) = true := by rw [bne_iff_ne]; omega
        have HX2 : Hid (decP k l p = (0, r, q)) := by show _ = _; rw [HX.out, if_pos hr]
        clear HX hN0 hN1 hr hN hM hk h0 h1k HL
        go_enter Tryz.func160, Tryz.ntmps160
        go_wp2_with fail
        refine (HM.out _).mono ?_
        rintro e w1 ⟨rfl, k1⟩
        go_wp2_with fail
        refine (HS.out _ (h.keep k1 (fun _ _ => id))).mono ?_
        rintro e w2 ⟨rfl, h2, k2⟩
        go_wp2
        go_ret2
        rw [HX2.out]
        exact ⟨rfl, h2, keepBr k1 k2⟩

/-- What the document's Decode leaves. -/
def RDecR (w : World) (br : Nat) (O : Nat → Prop) (l : List UInt8) (d : Dec) (e : Ending) (w' : World) : Prop :=
  e = .returned (.tuple #[instV d.op d.a d.b, .int .i64 d.er]) ∧ V.RefAt w' br O l d.pl ∧ Keep (fun k => k = br) w w'
theorem rone_at (k : Int) (w : World) (br : Nat) (O : Nat → Prop) (l : List UInt8) (p : Nat) (a : Int) (r q : Nat) (hd : decP k l p = (a, r, q)) (hk : 0 ≤ k ∧ k ≤ 10) (h : V.RefAt w br O l p) (hlen : l.length ≤ 140737488355328) :
    Calls Tryz.prog 160 #[.pointer (some ⟨br, 0, none⟩), .int .i64 k] w (V.RReads w br O l q (.int .i64 a) r) := by
  have := rone_any k w br O l p hk h hlen
  rw [hd] at this
  exact this

set_option maxHeartbeats 2000000 in
theorem rdecode_any (w : World) (br : Nat) (O : Nat → Prop) (l : List UInt8) (p : Nat) (hO : ∀ k, O k → k < w.heap.size) (h : V.RefAt w br O l p) (hlen : l.length ≤ 140737488355328) :
    Calls Tryz.prog 119 #[.pointer (some ⟨br, 0, none⟩)] w (RDecR w br O l (decI l p)) := by
  have hK := (Keep.refl NoB w).alloc (.cells #[.int .i64 0, .int .i64 0, .int .i64 0] 74)
  have h1 := h.keep hK (fun _ _ => id)
  have hb0 := Blk.new w 74 #[.int .i64 0, .int .i64 0, .int .i64 0]
  have hnB : ¬ O w.heap.size := fun ho => by have := hO _ ho; omega
  have hbr := ref_lt h
  have HS := Lib.hid (V.refnumber_any _ br O l p 29 h1 hlen)
  obtain ⟨n, r, q, hN, hN0, hN1⟩ := num_case l p 29
  rw [hN] at HS
  clear h h1 hO
  by_cases hr : r = 0
  · subst hr
    obtain ⟨hn1, hn2⟩ := hN0 rfl
    have hwn : IntKind.i64.wrap (n : Int) = (n : Int) := by simp [IntKind.wrap, IntKind.bits, IntKind.signed]; omega
    have hkk := kinds_ok (n : Int)
    have HKn := Lib.hid (fun w => rkinds_any (n : Int) w)
    obtain ⟨a, r1, q1, hA⟩ := dec_case (rowAt n).ka l q
    have HRA := Lib.hid (fun w h => rone_at (rowAt n).ka w br O l q a r1 q1 hA ⟨hkk.1, hkk.2.1⟩ h hlen)
    have HDB := Lib.hid (fun p => dec_case (rowAt n).kb l p)
    have HRB := Lib.hid (fun p b r2 q2 hB w h => rone_at (rowAt n).kb w br O l p b r2 q2 hB ⟨hkk.2.2.1, hkk.2.2.2⟩ h hlen)
    have HD2 := Lib.hid (fun hr => decI_2 (l := l) (p := p) hN hA hr)
    have HD3 := Lib.hid (fun (hr : r1 = 0) b r2 q2 hB hr2 => decI_3 (l := l) (p := p) (b := b) (r2 := r2) (q2 := q2) hN (by rw [hA, hr]) hB hr2)
    have HD4 := Lib.hid (fun (hr : r1 = 0) b q2 hB => decI_4 (l := l) (p := p) (b := b) (q2 := q2) hN (by rw [hA, hr]) hB)
    clear hN0 hN1 hkk hA hN
    generalize (rowAt (n : Int)).ka = ka at *
    generalize (rowAt (n : Int)).kb = kb at *
    go_enter Tryz.func119, Tryz.ntmps119
    go_wp2_with fail
    refine HS.out.mono ?_
    rintro e w1 ⟨rfl, h2, k2⟩
    replace hb0 := hb0.keep k2 (fun e => by omega)
    replace hK := keepBr hK k2
    clear k2
    go_wp2_with fail
    refine (HKn.out _).mono ?_
    rintro e w2 ⟨rfl, rfl⟩
    go_wp2_with fail
    refine (HRA.out _ h2).mono ?_
    rintro e w4 ⟨rfl, h3, k2⟩
    replace hb0 := hb0.keep k2 (fun e => by omega)
    replace hK := hK.trans k2 (fun _ ho _ => ho)
    clear k2 h2
    by_cases hr1 : r1 = 0
    · subst hr1
      obtain ⟨b, r2, q2, hB⟩ := HDB.out q1
      have HRB2 := Lib.hid (HRB.out q1 b r2 q2 hB)
      go_wp2_with fail
      refine (HRB2.out _ h3).mono ?_
      rintro e w6 ⟨rfl, h4, k2⟩
      replace hb0 := hb0.keep k2 (fun e => by omega)
      replace hK := hK.trans k2 (fun _ ho _ => ho)
      clear k2 h3 HRB2 HRB
      have hz := hb0.lt
      have f0 := fun i => hb0.frozen i
      by_cases hr2 : r2 = 0
      · subst hr2
        have HX := Lib.hid (HD4.out (by first | rfl | trivial) b q2 hB)
        clear HD2 HD3 HD4 hB
        obtain ⟨x0, x1, x2⟩ := blk_inst hb0
        go_wp2
        refine bodyPost_ret (v := .tuple #[instV n a b, .int .i64 0]) (by simp [results, Tryz.results119, go_sem, x0, x1, x2]) rfl ?_
        rw [HX.out]
        exact ⟨rfl, ref3 h4 hnB _ _ _, out3 hK (Nat.le_refl _) _ _ _⟩
      · have HX := Lib.hid (HD3.out (by first | rfl | trivial) b r2 q2 hB hr2)
        have hr3 : ((r2 : Int) != 0) = true := by rw [bne_iff_ne]; omega
        clear HD2 HD3 HD4 hB hr2
        obtain ⟨x0, x1, x2⟩ := blk_inst hb0
        go_wp2
        refine bodyPost_ret (v := .tuple #[instV 0 0 0, .int .i64 r2]) (by simp [results, Tryz.results119, go_sem, x0, x1, x2]) rfl ?_
        rw [HX.out]
        exact ⟨rfl, ref3 h4 hnB _ _ _, out3 hK (Nat.le_refl _) _ _ _⟩
    · have HX := Lib.hid (HD2.out hr1)
      have hr3 : ((r1 : Int) != 0) = true := by rw [bne_iff_ne]; omega
      clear HD2 HD3 HD4 hr1 HRB HDB HRA
      have hz := hb0.lt
      have f0 := fun i => hb0.frozen i
      obtain ⟨x0, x1, x2⟩ := blk_inst hb0
      go_wp2
      refine bodyPost_ret (v := .tuple #[instV 0 0 0, .int .i64 r1]) (by simp [results, Tryz.results119, go_sem, x0, x1, x2]) rfl ?_
      rw [HX.out]
      exact ⟨rfl, ref3 h3 hnB _ _ _, out3 hK (Nat.le_refl _) _ _ _⟩
  · have HX := Lib.hid (decI_1 hN hr)
    have hr3 : ((r : Int) != 0) = true := by rw [bne_iff_ne]; omega
    clear hN0 hN1 hN hr
    go_enter Tryz.func119, Tryz.ntmps119
    go_wp2_with fail
    refine HS.out.mono ?_
    rintro e w1 ⟨rfl, h2, k2⟩
    replace hb0 := hb0.keep k2 (fun e => by omega)
    replace hK := keepBr hK k2
    clear k2
    have hz := hb0.lt
    have f0 := fun i => hb0.frozen i
    obtain ⟨x0, x1, x2⟩ := blk_inst hb0
    go_wp2
    refine bodyPost_ret (v := .tuple #[instV 0 0 0, .int .i64 r]) (by simp [results, Tryz.results119, go_sem, x0, x1, x2]) rfl ?_
    rw [HX.out]
    exact ⟨rfl, ref3 h2 hnB _ _ _, out3 hK (Nat.le_refl _) _ _ _⟩

end Go.Proofs.YtbnekeomdhljhaaGreatDoor.O

namespace Go.Proofs.YtbnekeomdhljhaaGreatDoor.C
open Go.RowKit O

/-- What is read: the list, the error, the place. -/
def decL (l : List UInt8) (p : Nat) : List I3 := match decB l p with
  | none => []
  | some x => x.1
def decE (l : List UInt8) (p : Nat) : Int := match decB l p with
  | none => 50
  | some _ => 0
def decQ (l : List UInt8) (p : Nat) : Nat := match decB l p with
  | none => 0
  | some x => x.2
theorem dec_no {l : List UInt8} {p : Nat} (h : decB l p = none) : decL l p = [] ∧ decE l p = 50 := by unfold decL decE; rw [h]; exact ⟨rfl, rfl⟩
theorem dec_yes {l : List UInt8} {p q : Nat} {xs : List I3} (h : decB l p = some (xs, q)) : decL l p = xs ∧ decE l p = 0 ∧ decQ l p = q := by unfold decL decE decQ; rw [h]; exact ⟨rfl, rfl, rfl⟩
theorem decB_1 {l : List UInt8} {p n r q : Nat} (h : V.NumR l p 512 = (n, r, q)) (hr : r ≠ 0) : decB l p = none := by unfold decB; rw [h]; exact if_pos hr
theorem decB_2 {l : List UInt8} {p n q : Nat} (h : V.NumR l p 512 = (n, 0, q)) : decB l p = bodyOf (fwd l q n) := by unfold decB; rw [h]; exact if_neg (fun h => h rfl)
theorem body_ok {xs : List I3} {q : Nat} (h : okB xs = true) : bodyOf (some (xs, q)) = some (xs, q) := if_pos h
theorem body_no {xs : List I3} {q : Nat} (h : okB xs = false) : bodyOf (some (xs, q)) = none := if_neg (by rw [h]; decide)
/-- How Decode ends. -/
def BdyR (w : World) (br : Nat) (At : World → Nat → Prop) (xs : List I3) (E : Int) (Q : Nat) (e : Ending) (w' : World) : Prop :=
  ∃ v q, e = .returned (.tuple #[v, .int .i64 E]) ∧ Own w' 74 3 (Fresh w) v xs.length (iis xs) ∧ At w' q ∧ (E = 0 → q = Q) ∧ Keep (fun k => k = br) w w'
theorem bdy_none {w w' : World} {br Q q : Nat} {At : World → Nat → Prop} (h : At w' q) (hk : Keep (fun k => k = br) w w') : BdyR w br At [] 50 Q (.returned (.tuple #[.slice none 0 0, .int .i64 50])) w' :=
  ⟨_, q, rfl, Own.nil _ _ _ _, h, fun e => absurd e (by decide), hk⟩
/-- Three cells put at an element's place. -/
theorem wpList_put3 {ops : Array Oper} {rest : List Oper} {o : Oper} {a : Act} {w : World} {Q : Exit → Act → World → Prop} (hgd : o.guard = none) (x y : Operand) (ho : o.op = .store 74 x y)
    {g k : Nat} {xs : List I3} {u0 u1 u2 : Value} {r : List Value} (hB : Blk w g 74 (iis xs ++ u0 :: u1 :: u2 :: r).toArray) (hk : xs.length = k) (op av bv : Int)
    (hx : a.eval x = .pointer (some ⟨g, k * 3, none⟩)) (hy : a.eval y = instV op av bv)
    (h : ∀ w', Blk w' g 74 (iis (xs ++ [(op, av, bv)]) ++ r).toArray → Keep (fun b => b = g) w w' → wpList Tryz.prog ops Q rest (a.put o.dst undef) w') : wpList Tryz.prog ops Q (o :: rest) a w := by
  refine wpList_plain hgd fun K hK => ?_
  have hst := run_storeCells_at Tryz.prog g (k * 3) 74 [.int .i64 op, .int .i64 av, .int .i64 bv] 0 _ w hB (by rw [← hk]; simp [iis_length]) (by simp [Value.oneCell'])
  have e : (iis xs ++ u0 :: u1 :: u2 :: r).take (k * 3 + 0) ++ [.int .i64 op, .int .i64 av, .int .i64 bv] ++ (iis xs ++ u0 :: u1 :: u2 :: r).drop (k * 3 + 0 + 3) = iis (xs ++ [(op, av, bv)]) ++ r := by
    have hl : (iis xs).length = k * 3 := by rw [iis_length, hk]
    rw [Nat.add_zero, ← hl, List.take_left', List.drop_length_add_append, iis_append, iis_one] <;> rfl
  simp only [List.length_cons, List.length_nil, Nat.zero_add, Nat.reduceAdd] at hst
  rw [e] at hst
  obtain ⟨i0, hi, hz0, hz1, hz2⟩ := info_parts instr_info
  have hrun : (storeVar 74 ⟨g, k * 3, none⟩ (instV op av bv)).run Tryz.prog w = .ok () (w.setRow g (iis (xs ++ [(op, av, bv)]) ++ r).toArray) := by
    simp [storeVar, sizeOf, typeInfo, hi, hz1, Value.cells, hst]
  unfold Oper.wp execOp
  simp only [ho, hx, hy, Instr.storeAt, Instr.sureAddr, Sem.run_bind, Sem.run_pure, Result.andThen_ok, hrun]
  exact hK _ _ (h _ (setRow_heap w g _ _ _ _ hB) ⟨rfl, rfl, rfl, by simp, fun b _ hne => setRow_other w g b _ hne⟩)
theorem three {rest : List Value} {m : Nat} (h : rest.length = m * 3) (h0 : 0 < m) : ∃ u0 u1 u2 r, rest = u0 :: u1 :: u2 :: r ∧ r.length = (m - 1) * 3 := by
  match rest, h with
  | [], h => simp at h; omega
  | [_], h => simp at h; omega
  | [_, _], h => simp at h; omega
  | u0 :: u1 :: u2 :: r, h => exact ⟨u0, u1, u2, r, rfl, by simp at h; omega⟩
theorem made_blk {w w1 : World} {n : Nat} {zs : List Value} (hrow : w1.ownsRow 0 74 3 (.slice (some ⟨w.heap.size, 0, none⟩) n n) n zs) : ∃ rest : List Value, rest.length = n * 3 ∧ Blk w1 w.heap.size 74 (iis [] ++ rest).toArray := by
  obtain ⟨h3, h4⟩ := hrow
  rcases h4 with ⟨h4, _⟩ | ⟨g, cap, cur, h4, _, h6, _, _, h7, _⟩
  · cases h4
  · injection h4 with h4 _ h8
    injection h4 with h4
    injection h4 with h4 _ _
    subst h4 h8
    exact ⟨cur.toList, by simpa using h7, by rw [iis_nil, List.nil_append, Array.toArray_toList]; exact h6⟩

set_option maxRecDepth 100000 in
set_option maxHeartbeats 4000000 in
theorem cdecode_any (w : World) (br : Nat) (Ob : Nat → Prop) (l : List UInt8) (p : Nat) (hO : ∀ k, Ob k → k < w.heap.size) (h : V.ReelAt w br Ob l p) (hlen : l.length ≤ 140737488355328) :
    Calls Tryz.prog 58 #[.pointer (some ⟨br, 0, none⟩)] w (BdyR w br (fun w' q => V.ReelAt w' br Ob l q) (decL l p) (decE l p) (decQ l p)) := by
  have hbr := O.reel_lt h
  have HS := Lib.hid (V.rnumber_any w br Ob l p 512 h hlen)
  obtain ⟨n, r, q, hN, hN0, hN1⟩ := num_case l p 512
  rw [hN] at HS
  clear h
  by_cases hr : r = 0
  · subst hr
    obtain ⟨hn1, hn2⟩ := hN0 rfl
    have HD := Lib.hid (decB_2 hN)
    obtain ⟨i0, hi, hz0, hz1, hz2⟩ := info_parts instr_info
    have HO := Lib.hid hO
    clear hN0 hN1 hN hO
    go_enter Tryz.func58, Tryz.ntmps58
    go_wp2_with fail
    refine HS.out.mono ?_
    rintro e w1 ⟨rfl, h1, k1⟩
    have gs := k1.size
    go_wp2_with (at_make; refine wpList_make_full _ rfl _ _ 25 rfl 0 74 i0 _ 3 Tryz.underlying25 hi hz0 hz1 _ _ _ _ n rfl rfl rfl rfl (by rw [hz2]; omega) (by unfold maxLen; omega) (Nat.zero_le _) ?_; intro w2 hrow2 hg2; obtain ⟨rest, hrl, hB2⟩ := made_blk hrow2; have k2 : Keep NoB w1 w2 := (Keep.refl NoB w1).grown hg2 (fun g e _ => by cases e); clear hrow2 hg2)
    have h2 := h1.keep k2 (fun _ _ => id)
    have gK : Keep (fun k => k = br) w w2 := k1.trans (k2.mono (fun _ hf _ => hf.elim)) (fun _ ho _ => ho)
    clear h1 k1 k2
    go_loopw [19] (fun i wr => ∃ k : Nat, k ≤ n ∧ i = .int .i64 k ∧ ∃ xs qk rest, fwd l q k = some (xs, qk) ∧ rest.length = (n - k) * 3 ∧ Blk wr w1.heap.size 74 (iis xs ++ rest).toArray ∧ V.ReelAt wr br Ob l qk ∧ Keep (fun k => k = br) w wr) (fun i _ => n - (intOf i).toNat)
    case atStart => exact ⟨0, Nat.zero_le _, rfl, [], q, rest, rfl, hrl, hB2, h2, gK⟩
    case round =>
      clear hB2 h2 gK hrl
      obtain ⟨k, hk, rfl, xs, qk, rest, hf, hrl, hB, hA, hK⟩ := hrel
      obtain ⟨_, _, hxl, _⟩ := fwd_ok k hf
      by_cases hlt : k < n
      · obtain ⟨u0, u1, u2, r, rfl, hrl2⟩ := three hrl (by omega)
        have HE := Lib.hid (O.decode_any wr br Ob l qk (fun k h => Nat.lt_of_lt_of_le (HO.out k h) hK.size) hA hlen)
        have HF := Lib.hid (fun he => fwd_step hf he)
        have HG := Lib.hid (fun he => fwd_none (fwd_stop hf he) n (by omega))
        obtain ⟨y, hy⟩ : ∃ y, d3 l qk = y := ⟨_, rfl⟩
        have e0 : ∃ op a b er pl, decI l qk = ⟨op, a, b, er, pl⟩ := ⟨_, _, _, _, _, rfl⟩
        obtain ⟨op, a, b, er, pl, e0⟩ := e0
        have hy2 : d3 l qk = (op, a, b) := by unfold d3; rw [e0]
        rw [e0] at HE HG
        rw [e0, hy2] at HF
        dsimp only at HE HF HG
        clear hf hA hy hy2 e0
        go_wp2_with fail
        refine HE.out.mono ?_
        rintro e w4 ⟨rfl, h4, k4⟩
        dsimp only at h4
        have hB4 := hB.keep k4 (fun e => by omega)
        have hK4 := hK.trans k4 (fun _ ho _ => ho)
        clear hB hK k4
        have hgo : ∀ k, Ob k → ¬ (k = w1.heap.size) := fun k h e => by have := HO.out k h; omega
        have gs4 := hK4.size
        by_cases he : er = 0
        · subst he
          go_wp2_with (refine wpList_put3 rfl _ _ rfl hB4 hxl op a b rfl rfl ?_; intro w6 hB6 k6)
          go_roundw
          case rel => exact ⟨k + 1, by omega, by go_num, xs ++ [(op, a, b)], pl, r, HF.out (by first | rfl | trivial), by omega, hB6, h4.keep k6 hgo, hK4.trans k6 (fun b e hl => by omega)⟩
          case measure => simp [intOf]; omega
        · have hr3 : ((er : Int) != 0) = true := by rw [bne_iff_ne]; omega
          have HD2 := Lib.hid (dec_no (l := l) (p := p) (by rw [HD.out, HG.out he]; rfl))
          go_wp2_with (refine wpList_put3 rfl _ _ rfl hB4 hxl op a b rfl rfl ?_; intro w6 hB6 k6)
          go_ret2
          rw [HD2.out.1, HD2.out.2]
          exact bdy_none (h4.keep k6 hgo) (hK4.trans k6 (fun b e hl => by omega))
      · obtain rfl : k = n := by omega
        obtain rfl : rest = [] := List.length_eq_zero_iff.1 (by rw [hrl]; omega)
        rw [List.append_nil] at hB
        rw [hf] at HD
        have hxh := Lib.hid hxl
        have HI := Lib.hid (fun w h => ifBody_any (some ⟨w1.heap.size, 0, none⟩) xs k k w h hxh (by omega))
        have hown : Own wr 74 3 (Fresh w) (.slice (some ⟨w1.heap.size, 0, none⟩) k k) k (iis xs) := by
          have := row_take hB hxl (Nat.le_refl k) (by omega)
          rw [List.take_of_length_le (by omega)] at this
          exact ⟨this, fun g e => by cases e; exact gs⟩
        have hrd : Rd wr (some ⟨w1.heap.size, 0, none⟩) (iis xs) := by
          obtain ⟨A', c', e, _, _, hr, _⟩ := hown.form
          cases e; exact hr
        clear hf hrl hB hxl
        go_wp2_with (go_at_call 115; refine (HI.out _ hrd).mono ?_; rintro e w5 ⟨rfl, k5⟩)
        have hA5 := hA.keep k5 (fun _ _ => id)
        have hK5 : Keep (fun k => k = br) w w5 := hK.trans (k5.mono (fun _ hf _ => hf.elim)) (fun _ ho _ => ho)
        go_ret2
        cases ho : okB xs
        · obtain ⟨e1, e2⟩ := dec_no (l := l) (p := p) (by rw [HD.out, body_no ho])
          rw [e1, e2, ifV_no ho, chkB_no ho]
          exact bdy_none hA5 hK5
        · obtain ⟨e1, e2, e3⟩ := dec_yes (l := l) (p := p) (by rw [HD.out, body_ok ho])
          rw [e1, e2, e3, ifV_ok ho, chkB_ok ho]
          exact ⟨_, qk, rfl, by rw [hxh.out]; exact hown.keepN k5, hA5, fun _ => rfl, hK5⟩
  · obtain ⟨e1, e2⟩ := dec_no (decB_1 hN hr)
    rw [e1, e2]
    have hr3 : ((r : Int) != 0) = true := by rw [bne_iff_ne]; omega
    clear hN0 hN1 hN hr e1 e2
    go_enter Tryz.func58, Tryz.ntmps58
    go_wp2_with fail
    refine HS.out.mono ?_
    rintro e w1 ⟨rfl, h1, k1⟩
    go_wp2
    go_ret2
    exact bdy_none h1 k1

end Go.Proofs.YtbnekeomdhljhaaGreatDoor.C

namespace Go.Proofs.YtbnekeomdhljhaaGreatDoor.C
open Go.RowKit O

theorem own_afterB {w W W' : World} {E size n br : Nat} {v v' : Value} {xs : List Value} (ho : ∀ g, v.ownBlock = some g → Fresh w g) (hK : Keep (fun k => k = br) w W) (hg : W.grownBy W' v.ownBlock)
    (hv : v'.ownBlock = v.ownBlock ∨ v'.ownBlock = some W.heap.size) (hrow : W'.ownsRow 0 E size v' n xs) : Own W' E size (Fresh w) v' n xs ∧ Keep (fun k => k = br) w W' := by
  refine ⟨⟨hrow, fun g e => ?_⟩, hK.grown hg (fun g e h => by have := ho g e; unfold Fresh at this; omega)⟩
  rcases hv with h | h
  · exact ho g (h ▸ e)
  · rw [h] at e; cases e; exact hK.size
theorem ref_grown {w W W' : World} {br p : Nat} {Ob : Nat → Prop} {l : List UInt8} {v : Value} (h : V.RefAt W br Ob l p) (hO : ∀ k, Ob k → k < w.heap.size) (ho : ∀ g, v.ownBlock = some g → Fresh w g) (hg : W.grownBy W' v.ownBlock) : V.RefAt W' br Ob l p :=
  h.keep (O' := fun k => some k = v.ownBlock) ((Keep.refl _ W).grown hg (fun _ e _ => e.symm)) (fun k hk e => by have h1 := hO k hk; have h2 := ho k e.symm; unfold Fresh at h2; omega)
/-- The numbers of what is read fit. -/
theorem ok1_I {x : I3} (h : ok1 x = true) : O.I64 x.2.1 ∧ O.I64 x.2.2 := ⟨(in_bounds (ok_op h).2.1).1, (in_bounds (ok_op h).2.2).1⟩
theorem dec_I {l : List UInt8} {p : Nat} (h : (decI l p).er = 0) : O.I64 (d3 l p).2.1 ∧ O.I64 (d3 l p).2.2 := ok1_I (x := d3 l p) (decI_ok h).1
theorem fwd_I {l : List UInt8} {p : Nat} (k : Nat) {xs : List I3} {q : Nat} (h : fwd l p k = some (xs, q)) : AllI xs := fun x hx => ok1_I (List.all_eq_true.1 (fwd_ok k h).2.2.2 x hx)

set_option maxRecDepth 100000 in
set_option maxHeartbeats 4000000 in
theorem rcdecode_any (w : World) (br : Nat) (Ob : Nat → Prop) (l : List UInt8) (p : Nat) (hO : ∀ k, Ob k → k < w.heap.size) (h : V.RefAt w br Ob l p) (hlen : l.length ≤ 140737488355328) :
    Calls Tryz.prog 61 #[.pointer (some ⟨br, 0, none⟩)] w (BdyR w br (fun w' q => V.RefAt w' br Ob l q) (decL l p) (decE l p) (decQ l p)) := by
  have hbr := O.ref_lt h
  have HS := Lib.hid (V.refnumber_any w br Ob l p 512 h hlen)
  obtain ⟨n, r, q, hN, hN0, hN1⟩ := num_case l p 512
  rw [hN] at HS
  clear h
  by_cases hr : r = 0
  · subst hr
    obtain ⟨hn1, hn2⟩ := hN0 rfl
    have HD := Lib.hid (decB_2 hN)
    obtain ⟨i0, hi, hz0, hz1, hz2⟩ := info_parts instr_info
    have HO := Lib.hid hO
    clear hN0 hN1 hN hO
    go_enter Tryz.func61, Tryz.ntmps61
    go_wp2_with fail
    refine HS.out.mono ?_
    rintro e w1 ⟨rfl, h1, gK⟩
    go_wp2
    go_loopw [6, 7] (fun v i wr => ∃ k : Nat, k ≤ n ∧ i = .int .u64 k ∧ ∃ xs qk B d, fwd l q k = some (xs, qk) ∧ v = .slice B k d ∧ Own wr 74 3 (Fresh w) (.slice B k d) k (iis xs) ∧ V.RefAt wr br Ob l qk ∧ Keep (fun k => k = br) w wr) (fun _ i _ => n - (intOf i).toNat)
    case atStart => exact ⟨0, Nat.zero_le _, rfl, [], q, none, 0, rfl, rfl, Own.nil _ _ _ _, h1, gK⟩
    case round =>
      clear h1 gK
      obtain ⟨k, hk, rfl, xs, qk, B, d, hf, rfl, hO, hA, hK⟩ := hrel
      obtain ⟨_, _, hxl, _⟩ := fwd_ok k hf
      by_cases hlt : k < n
      · have hwk : IntKind.u64.wrap ((k : Int) + 1) = ((k + 1 : Nat) : Int) := by simp [IntKind.wrap, IntKind.bits, IntKind.signed]; omega
        have HE := Lib.hid (O.rdecode_any wr br Ob l qk (fun k h => Nat.lt_of_lt_of_le (HO.out k h) hK.size) hA hlen)
        have HF := Lib.hid (fun he => fwd_step hf he)
        have HG := Lib.hid (fun he => fwd_none (fwd_stop hf he) n (by omega))
        have e0 : ∃ op a b er pl, decI l qk = ⟨op, a, b, er, pl⟩ := ⟨_, _, _, _, _, rfl⟩
        obtain ⟨op, a, b, er, pl, e0⟩ := e0
        have hy2 : d3 l qk = (op, a, b) := by unfold d3; rw [e0]
        rw [e0] at HE HG
        rw [e0, hy2] at HF
        dsimp only at HE HF HG
        have HX : Hid (iis (xs ++ [(op, a, b)]) = iis xs ++ [.int .i64 op, .int .i64 a, .int .i64 b]) := iis_append _ _
        clear hf hA hy2 e0
        go_wp2_with fail
        refine HE.out.mono ?_
        rintro e w4 ⟨rfl, h4, k4⟩
        dsimp only at h4
        have hO4 := (hO.keep k4 (fun g hg e => by unfold Fresh at hg; omega)).keepN ((Keep.refl NoB w4).alloc (.cells #[.int .i64 op, .int .i64 a, .int .i64 b] 74))
        have hK4 := (hK.trans k4 (fun _ ho _ => ho)).alloc (.cells #[.int .i64 op, .int .i64 a, .int .i64 b] 74)
        have h5 := h4.keep ((Keep.refl NoB w4).alloc (.cells #[.int .i64 op, .int .i64 a, .int .i64 b] 74)) (fun _ _ => id)
        clear hO hK k4
        by_cases he : er = 0
        · subst he
          go_wp2_with (at_builtin; refine wpList_append_rd _ rfl (.tmp 29) (.tmp 31) _ rfl 74 3 24 i0 _ Tryz.underlying25 hi hz0 hz1 hz2 rfl (by decide) _ k _ _ 1 _ [.int .i64 op, .int .i64 a, .int .i64 b] rfl (hO4.1.alloc _) rfl (W.rd_made (by simp) rfl) rfl (by simp [Value.oneCell']) (by unfold maxLen; omega) (by omega) ?_; intro B5 d5 w5 hrow5 hg5 hv5; obtain ⟨hO5, hK5⟩ := own_afterB hO4.2 (hK4.alloc _) hg5 hv5 hrow5; have h6 := ref_grown (h5.keep ((Keep.refl NoB _).alloc _) (fun _ _ => id)) HO.out hO4.2 hg5; clear hrow5 hg5 hv5)
          go_roundw
          case rel => exact ⟨k + 1, by omega, by go_num, xs ++ [(op, a, b)], pl, B5, d5, HF.out (by first | rfl | trivial), rfl, by rw [HX.out]; exact hO5, h6, hK5⟩
          case measure => simp [intOf]; omega
        · have hr3 : ((er : Int) != 0) = true := by rw [bne_iff_ne]; omega
          have HD2 := Lib.hid (dec_no (l := l) (p := p) (by rw [HD.out, HG.out he]; rfl))
          go_wp2
          go_ret2
          rw [HD2.out.1, HD2.out.2]
          exact bdy_none h5 hK4
      · obtain rfl : k = n := by omega
        rw [hf] at HD
        have hxh := Lib.hid hxl
        have hxI := Lib.hid (fwd_I k hf)
        have hrd : Rd wr B (iis xs) := by
          obtain ⟨A', c', e, _, _, hr, _⟩ := hO.form
          cases e; exact hr
        clear hf hxl
        cases ho : okB xs
        · obtain ⟨e1, e2⟩ := dec_no (l := l) (p := p) (by rw [HD.out, body_no ho])
          have HI := Lib.hid (fun w h => rcchk_any B xs k d w h hxh hxI (by omega) 50 (chkB_no ho))
          have HE := Lib.hid (And.intro e1 e2)
          clear ho e1 e2
          go_wp2_with (go_at_call 75; refine (HI.out _ hrd).mono ?_; rintro e w5 ⟨rfl, k5⟩)
          go_ret2
          rw [HE.out.1, HE.out.2]
          exact bdy_none (hA.keep k5 (fun _ _ => id)) (hK.trans (k5.mono (fun _ hf _ => hf.elim)) (fun _ ho _ => ho))
        · obtain ⟨e1, e2, e3⟩ := dec_yes (l := l) (p := p) (by rw [HD.out, body_ok ho])
          have HI := Lib.hid (fun w h => rcchk_any B xs k d w h hxh hxI (by omega) 0 (chkB_ok ho))
          have HE := Lib.hid (And.intro e1 (And.intro e2 e3))
          clear ho e1 e2 e3
          go_wp2_with (go_at_call 75; refine (HI.out _ hrd).mono ?_; rintro e w5 ⟨rfl, k5⟩)
          go_ret2
          rw [HE.out.1, HE.out.2.1, HE.out.2.2]
          exact ⟨_, qk, rfl, by rw [hxh.out]; exact hO.keepN k5, hA.keep k5 (fun _ _ => id), fun _ => rfl, hK.trans (k5.mono (fun _ hf _ => hf.elim)) (fun _ ho _ => ho)⟩
  · obtain ⟨e1, e2⟩ := dec_no (decB_1 hN hr)
    rw [e1, e2]
    have hr3 : ((r : Int) != 0) = true := by rw [bne_iff_ne]; omega
    clear hN0 hN1 hN hr e1 e2
    go_enter Tryz.func61, Tryz.ntmps61
    go_wp2_with fail
    refine HS.out.mono ?_
    rintro e w1 ⟨rfl, h1, k1⟩
    go_wp2
    go_ret2
    exact bdy_none h1 k1

end Go.Proofs.YtbnekeomdhljhaaGreatDoor.C
