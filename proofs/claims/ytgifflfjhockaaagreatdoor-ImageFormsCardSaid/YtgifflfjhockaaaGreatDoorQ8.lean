/-
  What the closures of passes answer; few and taking. Conditions: what is asked answers by its contract.
  What reads and its closures do: what stands next is read and kept. Conditions: what decodes answers by its contract.
  A region that draws its order, by what each of its values is: whatever order is picked, each operation finds what it stands behind. No program, no conditions.
  A region that draws its order, by what each of its values is: whatever order is picked, each operation finds what it stands behind. Operations may be guarded; one of them, number c, may write what lay in the blocks of O, which the others' words don't speak of. No program, no conditions.
  Which functions may be: what Check answers. Conditions: the function's lists lie in memory, and are no longer than statements go through.
  What the laws ask ahead: whether a function is more than statements go through; and the laws' own function. No conditions but those of each statement.
  The plain mathematics of heads and stretches: which places are noted as heads, how often, and where a stretch ends. No program, no conditions.
  The plain mathematics of what is put in and taken out, of counts, and of stretches one behind the other. No program, no conditions.
  What shifted of layer code answers: a new list, in which those that go to a place behind one go so much farther. Conditions: the list lies in memory, of 1 to 512 instructions; by 1, or -1.
  What Insert of layer code answers: a new body with one more, or ErrCode. Conditions: the list lies in memory.
  What Delete of layer code answers: a new body without one, or ErrCode. Conditions: the list lies in memory.
  What the program's Decode answers. Conditions: a Reel stands on the bytes; they are not too many.
  What the document's Decode answers. Conditions: its Reel stands on the bytes; they are not too many.
-/
import Derived.IntWalk
import Derived.Laws.CopyOwn
import Derived.Laws.ResultCell
import Derived.Laws.Rows
import Derived.OwnWalk
import Derived.Test.YtgifflfjhockaaaGreatDoorQ7
import Derived.Test.YtgifflfjhockaaaGreatDoorQ6
import Derived.Test.YtgifflfjhockaaaGreatDoorQ4
import Derived.Test.YtgifflfjhockaaaGreatDoorQ5
import Derived.Test.YtgifflfjhockaaaGreatDoorQ3
namespace Go.Proofs.YtgifflfjhockaaaGreatDoor.F
open Go.RowKit W

/-- A question: what checks, and the part, each in a cell of its own. -/
def AskV (k : Nat) (tc tp : TypeId) (chk : Value) (cells : Array Value) (v : Value) (w : World) : Prop :=
  ∃ c p, v = askV k #[.pointer (some ⟨c, 0, none⟩), .pointer (some ⟨p, 0, none⟩)] ∧ Blk w c tc #[chk] ∧ Blk w p tp cells
theorem AskV.keep {k : Nat} {tc tp : TypeId} {chk : Value} {cells : Array Value} {v : Value} {w w' : World} (h : AskV k tc tp chk cells v w) (hk : Keep NoB w w') : AskV k tc tp chk cells v w' := by
  obtain ⟨c, p, e, h1, h2⟩ := h
  exact ⟨c, p, e, h1.keep hk id, h2.keep hk id⟩
/-- A function by its number alone. -/
def fnV (k : Nat) : Value := .func (.func k) #[] #[]

set_option maxRecDepth 100000 in
set_option maxHeartbeats 2000000 in
theorem few_any (v : FV) (w : World) (h : SmF v) (R : Int) (hR : Hid ((if v.na + v.nb + v.nl ≤ 64 then (0 : Int) else 70) = R)) :
    Calls Tryz.prog 118 #[v.val] w fun e w' => e = .returned (.int .i64 R) ∧ Keep NoB w w' := by
  obtain ⟨S, A, na, ca, B, nb, cb, L, nl, cl, D, nd, cd⟩ := v
  obtain ⟨_, q1, q2, q3, _⟩ := h
  dsimp only at q1 q2 q3 hR
  have bx := Blk.new w 61 (FV.cells ⟨S, A, na, ca, B, nb, cb, L, nl, cl, D, nd, cd⟩)
  have k0 := (Keep.refl NoB w).alloc (.cells (FV.cells ⟨S, A, na, ca, B, nb, cb, L, nl, cl, D, nd, cd⟩) 61)
  dsimp only [FV.val, FV.cells] at bx k0 ⊢
  by_cases h1 : na + nb + nl ≤ 64
  · obtain rfl : 0 = R := by rw [← hR.out, if_pos h1]
    clear hR
    go_enter Tryz.func118, Tryz.ntmps118
    go_wp2
    go_ret
    exact ⟨rfl, k0⟩
  · obtain rfl : 70 = R := by rw [← hR.out, if_neg h1]
    have h2 : (64 : Int) < (na : Int) + (nb : Int) + (nl : Int) := by omega
    clear hR h1
    go_enter Tryz.func118, Tryz.ntmps118
    go_wp2
    go_ret
    exact ⟨rfl, k0⟩

theorem sig_size : (Tryz.prog.info? 57).map (·.size) = some 2 := by kernel_rfl
theorem ret_sig1 {fn : Func} {p : Tmp} {tmps : Array Value} {w : World} {g : Nat} {u v : Value} (h : fn.results = #[.cell p 57]) (hp : tmps.getD p undef = .pointer (some ⟨g, 0, none⟩)) (hb : Blk w g 57 #[u, v]) :
    (results fn tmps).run Tryz.prog w = .ok (.agg #[u, v]) w :=
  results_cell_row h tmps w g 57 #[u, v] (0, 0) _ hp hb Tryz.underlying57 rfl sig_size
set_option maxRecDepth 100000 in
set_option maxHeartbeats 2000000 in
theorem taking_any (L : Option Addr) (nl cl : Nat) (w : World) :
    Calls Tryz.prog 123 #[.slice L nl cl] w fun e w' => e = .returned (.agg #[.slice L nl cl, .slice none 0 0]) ∧ Keep NoB w w' := by
  have bz := Blk.new w 57 #[.slice L nl cl, .slice none 0 0]
  have k0 := (Keep.refl NoB w).alloc (.cells #[.slice L nl cl, .slice none 0 0] 57)
  go_enter Tryz.func123, Tryz.ntmps123
  go_wp2
  refine bodyPost_ret (ret_sig1 rfl rfl bz) rfl ?_
  exact ⟨rfl, k0⟩

set_option maxRecDepth 100000 in
set_option maxHeartbeats 2000000 in
theorem passesFun_any (k : Nat) (v : FV) (w : World) :
    Calls Tryz.prog 117 #[fnV k, v.val] w fun e w' => ∃ u, e = .returned u ∧ AskV 160 89 61 (fnV k) (v.cells) u w' ∧ Keep NoB w w' := by
  have hmf : ∀ (fn : Go.Fn) (first cap : Array Value) (w : World), (Instr.makeFunc fn first cap).run Tryz.prog w = .ok (.func fn first cap) w := fun _ _ _ _ => rfl
  have b1 := (Blk.new w 89 #[fnV k]).alloc (.cells (v.cells) 61)
  have b2 := Blk.new (w.alloc (.cells #[fnV k] 89)) 61 (v.cells)
  rw [World.size_alloc] at b2
  have k0 := ((Keep.refl NoB w).alloc (.cells #[fnV k] 89)).alloc (.cells (v.cells) 61)
  unfold fnV at *
  obtain ⟨S, A, na, ca, B, nb, cb, L, nl, cl, D, nd, cd⟩ := v
  dsimp only [FV.val, FV.cells] at *
  have HB1 := Lib.hid b1
  have HB2 := Lib.hid b2
  have HK := Lib.hid k0
  clear b1 b2 k0
  go_enter Tryz.func117, Tryz.ntmps117
  go_wp2
  go_ret
  exact ⟨_, rfl, ⟨w.heap.size, w.heap.size + 1, rfl, HB1.out, HB2.out⟩, HK.out⟩

set_option maxRecDepth 100000 in
set_option maxHeartbeats 2000000 in
theorem askedFun_any (k : Nat) (hcf : ∀ args w, (callFunc k args).run Tryz.prog w = .ok (.enter k args) w) (v : FV) (c p : Nat) (w : World) (hc : Blk w c 89 #[fnV k]) (hp : Blk w p 61 (v.cells)) (R : Int) (b : Bool) (hb : (R == 0) = b)
    (HG : Hid (Calls Tryz.prog k #[v.val] w fun e w' => e = .returned (.int .i64 R) ∧ Keep NoB w w')) :
    Calls Tryz.prog 160 #[.pointer (some ⟨c, 0, none⟩), .pointer (some ⟨p, 0, none⟩)] w fun e w' => e = .returned (.bool b) ∧ Keep NoB w w' := by
  obtain ⟨S, A, na, ca, B, nb, cb, L, nl, cl, D, nd, cd⟩ := v
  have cc := hc.cell 0
  unfold fnV at cc
  obtain ⟨c0, c1, c2, c3, c4⟩ := blk5 hp
  dsimp only [FV.val] at *
  clear hc hp
  go_enter Tryz.func160, Tryz.ntmps160
  go_wp2_with fail
  refine HG.out.mono ?_
  rintro e w1 ⟨rfl, k1⟩
  go_wp2
  go_ret
  exact ⟨rfl, k1⟩

set_option maxRecDepth 100000 in
set_option maxHeartbeats 2000000 in
theorem passesStr_any (k : Nat) (S : ByteArray) (w : World) :
    Calls Tryz.prog 119 #[fnV k, .string S] w fun e w' => ∃ u, e = .returned u ∧ AskV 161 181 9 (fnV k) (#[.string S]) u w' ∧ Keep NoB w w' := by
  have hmf : ∀ (fn : Go.Fn) (first cap : Array Value) (w : World), (Instr.makeFunc fn first cap).run Tryz.prog w = .ok (.func fn first cap) w := fun _ _ _ _ => rfl
  have b1 := (Blk.new w 181 #[fnV k]).alloc (.cells (#[.string S]) 9)
  have b2 := Blk.new (w.alloc (.cells #[fnV k] 181)) 9 (#[.string S])
  rw [World.size_alloc] at b2
  have k0 := ((Keep.refl NoB w).alloc (.cells #[fnV k] 181)).alloc (.cells (#[.string S]) 9)
  unfold fnV at *
  have HB1 := Lib.hid b1
  have HB2 := Lib.hid b2
  have HK := Lib.hid k0
  clear b1 b2 k0
  go_enter Tryz.func119, Tryz.ntmps119
  go_wp2
  go_ret
  exact ⟨_, rfl, ⟨w.heap.size, w.heap.size + 1, rfl, HB1.out, HB2.out⟩, HK.out⟩

set_option maxRecDepth 100000 in
set_option maxHeartbeats 2000000 in
theorem askedStr_any (k : Nat) (hcf : ∀ args w, (callFunc k args).run Tryz.prog w = .ok (.enter k args) w) (S : ByteArray) (c p : Nat) (w : World) (hc : Blk w c 181 #[fnV k]) (hp : Blk w p 9 (#[.string S])) (R : Int) (b : Bool) (hb : (R == 0) = b)
    (HG : Hid (Calls Tryz.prog k #[.string S] w fun e w' => e = .returned (.int .i64 R) ∧ Keep NoB w w')) :
    Calls Tryz.prog 161 #[.pointer (some ⟨c, 0, none⟩), .pointer (some ⟨p, 0, none⟩)] w fun e w' => e = .returned (.bool b) ∧ Keep NoB w w' := by
  have cc := hc.cell 0
  unfold fnV at cc
  have c0 := hp.cell 0
  clear hc hp
  go_enter Tryz.func161, Tryz.ntmps161
  go_wp2_with fail
  refine HG.out.mono ?_
  rintro e w1 ⟨rfl, k1⟩
  go_wp2
  go_ret
  exact ⟨rfl, k1⟩

set_option maxRecDepth 100000 in
set_option maxHeartbeats 2000000 in
theorem passesSig_any (k : Nat) (x y : Value) (w : World) :
    Calls Tryz.prog 121 #[fnV k, .agg #[x, y]] w fun e w' => ∃ u, e = .returned u ∧ AskV 164 183 57 (fnV k) (#[x, y]) u w' ∧ Keep NoB w w' := by
  have hmf : ∀ (fn : Go.Fn) (first cap : Array Value) (w : World), (Instr.makeFunc fn first cap).run Tryz.prog w = .ok (.func fn first cap) w := fun _ _ _ _ => rfl
  have b1 := (Blk.new w 183 #[fnV k]).alloc (.cells (#[x, y]) 57)
  have b2 := Blk.new (w.alloc (.cells #[fnV k] 183)) 57 (#[x, y])
  rw [World.size_alloc] at b2
  have k0 := ((Keep.refl NoB w).alloc (.cells #[fnV k] 183)).alloc (.cells (#[x, y]) 57)
  unfold fnV at *
  have HB1 := Lib.hid b1
  have HB2 := Lib.hid b2
  have HK := Lib.hid k0
  clear b1 b2 k0
  go_enter Tryz.func121, Tryz.ntmps121
  go_wp2
  go_ret
  exact ⟨_, rfl, ⟨w.heap.size, w.heap.size + 1, rfl, HB1.out, HB2.out⟩, HK.out⟩

set_option maxRecDepth 100000 in
set_option maxHeartbeats 2000000 in
theorem askedSig_any (k : Nat) (hcf : ∀ args w, (callFunc k args).run Tryz.prog w = .ok (.enter k args) w) (x y : Value) (c p : Nat) (w : World) (hc : Blk w c 183 #[fnV k]) (hp : Blk w p 57 (#[x, y])) (R : Int) (b : Bool) (hb : (R == 0) = b)
    (HG : Hid (Calls Tryz.prog k #[.agg #[x, y]] w fun e w' => e = .returned (.int .i64 R) ∧ Keep NoB w w')) :
    Calls Tryz.prog 164 #[.pointer (some ⟨c, 0, none⟩), .pointer (some ⟨p, 0, none⟩)] w fun e w' => e = .returned (.bool b) ∧ Keep NoB w w' := by
  have cc := hc.cell 0
  unfold fnV at cc
  obtain ⟨c0, c1⟩ := S.blk2 hp
  clear hc hp
  go_enter Tryz.func164, Tryz.ntmps164
  go_wp2_with fail
  refine HG.out.mono ?_
  rintro e w1 ⟨rfl, k1⟩
  go_wp2
  go_ret
  exact ⟨rfl, k1⟩

set_option maxRecDepth 100000 in
set_option maxHeartbeats 2000000 in
theorem passesBod_any (k : Nat) (D : Option Addr) (nd cd : Nat) (w : World) :
    Calls Tryz.prog 124 #[fnV k, .slice D nd cd] w fun e w' => ∃ u, e = .returned u ∧ AskV 166 186 59 (fnV k) (#[.slice D nd cd]) u w' ∧ Keep NoB w w' := by
  have hmf : ∀ (fn : Go.Fn) (first cap : Array Value) (w : World), (Instr.makeFunc fn first cap).run Tryz.prog w = .ok (.func fn first cap) w := fun _ _ _ _ => rfl
  have b1 := (Blk.new w 186 #[fnV k]).alloc (.cells (#[.slice D nd cd]) 59)
  have b2 := Blk.new (w.alloc (.cells #[fnV k] 186)) 59 (#[.slice D nd cd])
  rw [World.size_alloc] at b2
  have k0 := ((Keep.refl NoB w).alloc (.cells #[fnV k] 186)).alloc (.cells (#[.slice D nd cd]) 59)
  unfold fnV at *
  have HB1 := Lib.hid b1
  have HB2 := Lib.hid b2
  have HK := Lib.hid k0
  clear b1 b2 k0
  go_enter Tryz.func124, Tryz.ntmps124
  go_wp2
  go_ret
  exact ⟨_, rfl, ⟨w.heap.size, w.heap.size + 1, rfl, HB1.out, HB2.out⟩, HK.out⟩

set_option maxRecDepth 100000 in
set_option maxHeartbeats 2000000 in
theorem askedBod_any (k : Nat) (hcf : ∀ args w, (callFunc k args).run Tryz.prog w = .ok (.enter k args) w) (D : Option Addr) (nd cd : Nat) (c p : Nat) (w : World) (hc : Blk w c 186 #[fnV k]) (hp : Blk w p 59 (#[.slice D nd cd])) (R : Int) (b : Bool) (hb : (R == 0) = b)
    (HG : Hid (Calls Tryz.prog k #[.slice D nd cd] w fun e w' => e = .returned (.int .i64 R) ∧ Keep NoB w w')) :
    Calls Tryz.prog 166 #[.pointer (some ⟨c, 0, none⟩), .pointer (some ⟨p, 0, none⟩)] w fun e w' => e = .returned (.bool b) ∧ Keep NoB w w' := by
  have cc := hc.cell 0
  unfold fnV at cc
  have c0 := hp.cell 0
  clear hc hp
  go_enter Tryz.func166, Tryz.ntmps166
  go_wp2_with fail
  refine HG.out.mono ?_
  rintro e w1 ⟨rfl, k1⟩
  go_wp2
  go_ret
  exact ⟨rfl, k1⟩

end Go.Proofs.YtgifflfjhockaaaGreatDoor.F

namespace Go.Proofs.YtgifflfjhockaaaGreatDoor.F
open Go.RowKit W

/-- A reader: what decodes, the Reel, and where the part goes, each in a cell of its own. -/
def RdV (k : Nat) (tc tp : TypeId) (dec : Value) (rp : Option Addr) (pt : Addr) (v : Value) (w : World) : Prop :=
  ∃ c r q, v = askV k #[.pointer (some ⟨c, 0, none⟩), .pointer (some ⟨r, 0, none⟩), .pointer (some ⟨q, 0, none⟩)] ∧ Blk w c tc #[dec] ∧ Blk w r 141 #[.pointer rp] ∧ Blk w q tp #[.pointer (some pt)]
theorem RdV.keep {k : Nat} {tc tp : TypeId} {dec : Value} {rp : Option Addr} {pt : Addr} {v : Value} {w w' : World} (h : RdV k tc tp dec rp pt v w) (hk : Keep NoB w w') : RdV k tc tp dec rp pt v w' := by
  obtain ⟨c, r, q, e, h1, h2, h3⟩ := h
  exact ⟨c, r, q, e, h1.keep hk id, h2.keep hk id, h3.keep hk id⟩

set_option maxRecDepth 100000 in
set_option maxHeartbeats 4000000 in
theorem readsStr_any (k F i : Nat) (rp : Option Addr) (w : World) :
    Calls Tryz.prog 132 #[.pointer rp, fnV k, .pointer (some ⟨F, i, none⟩)] w fun e w' => ∃ u, e = .returned u ∧ RdV 176 195 196 (fnV k) rp ⟨F, i, none⟩ u w' ∧ Keep NoB w w' := by
  have hmf : ∀ (fn : Go.Fn) (first cap : Array Value) (w : World), (Instr.makeFunc fn first cap).run Tryz.prog w = .ok (.func fn first cap) w := fun _ _ _ _ => rfl
  have b0 := ((Blk.new w 141 #[.pointer rp]).alloc (.cells #[fnV k] 195)).alloc (.cells (#[.pointer (some ⟨F, i, none⟩)]) 196)
  have b1 := (Blk.new (w.alloc (.cells #[.pointer rp] 141)) 195 #[fnV k]).alloc (.cells (#[.pointer (some ⟨F, i, none⟩)]) 196)
  have b2 := Blk.new ((w.alloc (.cells #[.pointer rp] 141)).alloc (.cells #[fnV k] 195)) 196 (#[.pointer (some ⟨F, i, none⟩)])
  simp only [World.size_alloc] at b1 b2
  have k0 := (((Keep.refl NoB w).alloc (.cells #[.pointer rp] 141)).alloc (.cells #[fnV k] 195)).alloc (.cells (#[.pointer (some ⟨F, i, none⟩)]) 196)
  unfold fnV at *
  have HB0 := Lib.hid b0
  have HB1 := Lib.hid b1
  have HB2 := Lib.hid b2
  have HK := Lib.hid k0
  clear b0 b1 b2 k0
  go_enter Tryz.func132, Tryz.ntmps132
  go_wp2
  go_ret
  exact ⟨_, rfl, ⟨w.heap.size + 1, w.heap.size, w.heap.size + 1 + 1, rfl, HB1.out, HB0.out, HB2.out⟩, HK.out⟩

set_option maxRecDepth 100000 in
set_option maxHeartbeats 4000000 in
theorem readStr_any (k : Nat) (hcf : ∀ args w, (callFunc k args).run Tryz.prog w = .ok (.enter k args) w) (O : Nat → Prop) (rp : Option Addr) (cc0 rr qq F : Nat) (v : FV) (w : World) (hc : Blk w cc0 195 #[fnV k]) (hr : Blk w rr 141 #[.pointer rp]) (hq : Blk w qq 196 #[.pointer (some ⟨F, 0, none⟩)])
    (hF : Blk w F 61 v.cells) (hq1 : ¬ O qq) (hF1 : ¬ O F) (G : ByteArray → Int → World → Prop)
    (HG : Hid (Calls Tryz.prog k #[.pointer rp] w fun e w1 => ∃ x E, e = .returned (.tuple #[.string x, .int .i64 E]) ∧ G x E w1 ∧ Keep O w w1)) :
    Calls Tryz.prog 176 #[.pointer (some ⟨cc0, 0, none⟩), .pointer (some ⟨rr, 0, none⟩), .pointer (some ⟨qq, 0, none⟩)] w fun e w' => ∃ x E w1, e = .returned (.bool (E == 0)) ∧ G x E w1 ∧ Keep O w w1 ∧ w' = (w1.setCell ⟨F, 0, none⟩ (.string x)) := by
  have c1 := hc.cell 0
  have c2 := hr.cell 0
  have c3 := hq.cell 0
  unfold fnV at c1
  unfold FV.cells at hF
  have HQ := Lib.hid hq
  have HF := Lib.hid hF
  clear hc hr hq hF
  go_enter Tryz.func176, Tryz.ntmps176
  go_wp2_with fail
  refine HG.out.mono ?_
  rintro e w1 ⟨x, E, rfl, hg, k1⟩
  have q1 := ((HQ.out.keep k1 hq1)).cell 0
  have f1 := (HF.out.keep k1 hF1)
  obtain ⟨d0, d1, d2, d3, d4⟩ := blk5 (v := v) f1
  have fz := fun i => f1.frozen i
  simp at q1
  clear c1 c2 c3 f1 HG
  go_wp2
  go_ret
  exact ⟨x, E, w1, rfl, hg, k1, rfl⟩

set_option maxRecDepth 100000 in
set_option maxHeartbeats 4000000 in
theorem readsSig_any (k F i : Nat) (rp : Option Addr) (w : World) :
    Calls Tryz.prog 134 #[.pointer rp, fnV k, .pointer (some ⟨F, i, none⟩)] w fun e w' => ∃ u, e = .returned u ∧ RdV 178 198 199 (fnV k) rp ⟨F, i, none⟩ u w' ∧ Keep NoB w w' := by
  have hmf : ∀ (fn : Go.Fn) (first cap : Array Value) (w : World), (Instr.makeFunc fn first cap).run Tryz.prog w = .ok (.func fn first cap) w := fun _ _ _ _ => rfl
  have b0 := ((Blk.new w 141 #[.pointer rp]).alloc (.cells #[fnV k] 198)).alloc (.cells (#[.pointer (some ⟨F, i, none⟩)]) 199)
  have b1 := (Blk.new (w.alloc (.cells #[.pointer rp] 141)) 198 #[fnV k]).alloc (.cells (#[.pointer (some ⟨F, i, none⟩)]) 199)
  have b2 := Blk.new ((w.alloc (.cells #[.pointer rp] 141)).alloc (.cells #[fnV k] 198)) 199 (#[.pointer (some ⟨F, i, none⟩)])
  simp only [World.size_alloc] at b1 b2
  have k0 := (((Keep.refl NoB w).alloc (.cells #[.pointer rp] 141)).alloc (.cells #[fnV k] 198)).alloc (.cells (#[.pointer (some ⟨F, i, none⟩)]) 199)
  unfold fnV at *
  have HB0 := Lib.hid b0
  have HB1 := Lib.hid b1
  have HB2 := Lib.hid b2
  have HK := Lib.hid k0
  clear b0 b1 b2 k0
  go_enter Tryz.func134, Tryz.ntmps134
  go_wp2
  go_ret
  exact ⟨_, rfl, ⟨w.heap.size + 1, w.heap.size, w.heap.size + 1 + 1, rfl, HB1.out, HB0.out, HB2.out⟩, HK.out⟩

set_option maxRecDepth 100000 in
set_option maxHeartbeats 4000000 in
theorem readSig_any (k : Nat) (hcf : ∀ args w, (callFunc k args).run Tryz.prog w = .ok (.enter k args) w) (O : Nat → Prop) (rp : Option Addr) (cc0 rr qq F : Nat) (v : FV) (w : World) (hc : Blk w cc0 198 #[fnV k]) (hr : Blk w rr 141 #[.pointer rp]) (hq : Blk w qq 199 #[.pointer (some ⟨F, 1, none⟩)])
    (hF : Blk w F 61 v.cells) (hq1 : ¬ O qq) (hF1 : ¬ O F) (G : Option Addr → Nat → Nat → Option Addr → Nat → Nat → Int → World → Prop)
    (HG : Hid (Calls Tryz.prog k #[.pointer rp] w fun e w1 => ∃ A n c B m d E, e = .returned (.tuple #[.agg #[.slice A n c, .slice B m d], .int .i64 E]) ∧ G A n c B m d E w1 ∧ Keep O w w1)) :
    Calls Tryz.prog 178 #[.pointer (some ⟨cc0, 0, none⟩), .pointer (some ⟨rr, 0, none⟩), .pointer (some ⟨qq, 0, none⟩)] w fun e w' => ∃ A n c B m d E w1, e = .returned (.bool (E == 0)) ∧ G A n c B m d E w1 ∧ Keep O w w1 ∧ w' = (((w1.alloc (.cells #[.slice A n c, .slice B m d] 57)).setCell ⟨F, 1, none⟩ (.slice A n c)).setCell ⟨F, 2, none⟩ (.slice B m d)) := by
  have c1 := hc.cell 0
  have c2 := hr.cell 0
  have c3 := hq.cell 0
  unfold fnV at c1
  unfold FV.cells at hF
  have HQ := Lib.hid hq
  have HF := Lib.hid hF
  clear hc hr hq hF
  go_enter Tryz.func178, Tryz.ntmps178
  go_wp2_with fail
  refine HG.out.mono ?_
  rintro e w1 ⟨A, n, c, B, m, d, E, rfl, hg, k1⟩
  have q1 := ((HQ.out.keep k1 hq1).alloc (.cells #[.slice A n c, .slice B m d] 57)).cell 0
  have f1 := (HF.out.keep k1 hF1).alloc (.cells #[.slice A n c, .slice B m d] 57)
  obtain ⟨d0, d1, d2, d3, d4⟩ := blk5 (v := v) f1
  have fz := fun i => f1.frozen i
  simp at q1
  clear c1 c2 c3 f1 HG
  go_wp2
  go_ret
  exact ⟨A, n, c, B, m, d, E, w1, rfl, hg, k1, rfl⟩

set_option maxRecDepth 100000 in
set_option maxHeartbeats 4000000 in
theorem readsLoc_any (k F i : Nat) (rp : Option Addr) (w : World) :
    Calls Tryz.prog 136 #[.pointer rp, fnV k, .pointer (some ⟨F, i, none⟩)] w fun e w' => ∃ u, e = .returned u ∧ RdV 181 201 202 (fnV k) rp ⟨F, i, none⟩ u w' ∧ Keep NoB w w' := by
  have hmf : ∀ (fn : Go.Fn) (first cap : Array Value) (w : World), (Instr.makeFunc fn first cap).run Tryz.prog w = .ok (.func fn first cap) w := fun _ _ _ _ => rfl
  have b0 := ((Blk.new w 141 #[.pointer rp]).alloc (.cells #[fnV k] 201)).alloc (.cells (#[.pointer (some ⟨F, i, none⟩)]) 202)
  have b1 := (Blk.new (w.alloc (.cells #[.pointer rp] 141)) 201 #[fnV k]).alloc (.cells (#[.pointer (some ⟨F, i, none⟩)]) 202)
  have b2 := Blk.new ((w.alloc (.cells #[.pointer rp] 141)).alloc (.cells #[fnV k] 201)) 202 (#[.pointer (some ⟨F, i, none⟩)])
  simp only [World.size_alloc] at b1 b2
  have k0 := (((Keep.refl NoB w).alloc (.cells #[.pointer rp] 141)).alloc (.cells #[fnV k] 201)).alloc (.cells (#[.pointer (some ⟨F, i, none⟩)]) 202)
  unfold fnV at *
  have HB0 := Lib.hid b0
  have HB1 := Lib.hid b1
  have HB2 := Lib.hid b2
  have HK := Lib.hid k0
  clear b0 b1 b2 k0
  go_enter Tryz.func136, Tryz.ntmps136
  go_wp2
  go_ret
  exact ⟨_, rfl, ⟨w.heap.size + 1, w.heap.size, w.heap.size + 1 + 1, rfl, HB1.out, HB0.out, HB2.out⟩, HK.out⟩

set_option maxRecDepth 100000 in
set_option maxHeartbeats 4000000 in
theorem readLoc_any (k : Nat) (hcf : ∀ args w, (callFunc k args).run Tryz.prog w = .ok (.enter k args) w) (O : Nat → Prop) (rp : Option Addr) (cc0 rr qq F : Nat) (v : FV) (w : World) (hc : Blk w cc0 201 #[fnV k]) (hr : Blk w rr 141 #[.pointer rp]) (hq : Blk w qq 202 #[.pointer (some ⟨F, 3, none⟩)])
    (hF : Blk w F 61 v.cells) (hq1 : ¬ O qq) (hF1 : ¬ O F) (G : Option Addr → Nat → Nat → Int → World → Prop)
    (HG : Hid (Calls Tryz.prog k #[.pointer rp] w fun e w1 => ∃ A n c E, e = .returned (.tuple #[.slice A n c, .int .i64 E]) ∧ G A n c E w1 ∧ Keep O w w1)) :
    Calls Tryz.prog 181 #[.pointer (some ⟨cc0, 0, none⟩), .pointer (some ⟨rr, 0, none⟩), .pointer (some ⟨qq, 0, none⟩)] w fun e w' => ∃ A n c E w1, e = .returned (.bool (E == 0)) ∧ G A n c E w1 ∧ Keep O w w1 ∧ w' = (w1.setCell ⟨F, 3, none⟩ (.slice A n c)) := by
  have c1 := hc.cell 0
  have c2 := hr.cell 0
  have c3 := hq.cell 0
  unfold fnV at c1
  unfold FV.cells at hF
  have HQ := Lib.hid hq
  have HF := Lib.hid hF
  clear hc hr hq hF
  go_enter Tryz.func181, Tryz.ntmps181
  go_wp2_with fail
  refine HG.out.mono ?_
  rintro e w1 ⟨A, n, c, E, rfl, hg, k1⟩
  have q1 := ((HQ.out.keep k1 hq1)).cell 0
  have f1 := (HF.out.keep k1 hF1)
  obtain ⟨d0, d1, d2, d3, d4⟩ := blk5 (v := v) f1
  have fz := fun i => f1.frozen i
  simp at q1
  clear c1 c2 c3 f1 HG
  go_wp2
  go_ret
  exact ⟨A, n, c, E, w1, rfl, hg, k1, rfl⟩

set_option maxRecDepth 100000 in
set_option maxHeartbeats 4000000 in
theorem readsBod_any (k F i : Nat) (rp : Option Addr) (w : World) :
    Calls Tryz.prog 138 #[.pointer rp, fnV k, .pointer (some ⟨F, i, none⟩)] w fun e w' => ∃ u, e = .returned u ∧ RdV 182 204 205 (fnV k) rp ⟨F, i, none⟩ u w' ∧ Keep NoB w w' := by
  have hmf : ∀ (fn : Go.Fn) (first cap : Array Value) (w : World), (Instr.makeFunc fn first cap).run Tryz.prog w = .ok (.func fn first cap) w := fun _ _ _ _ => rfl
  have b0 := ((Blk.new w 141 #[.pointer rp]).alloc (.cells #[fnV k] 204)).alloc (.cells (#[.pointer (some ⟨F, i, none⟩)]) 205)
  have b1 := (Blk.new (w.alloc (.cells #[.pointer rp] 141)) 204 #[fnV k]).alloc (.cells (#[.pointer (some ⟨F, i, none⟩)]) 205)
  have b2 := Blk.new ((w.alloc (.cells #[.pointer rp] 141)).alloc (.cells #[fnV k] 204)) 205 (#[.pointer (some ⟨F, i, none⟩)])
  simp only [World.size_alloc] at b1 b2
  have k0 := (((Keep.refl NoB w).alloc (.cells #[.pointer rp] 141)).alloc (.cells #[fnV k] 204)).alloc (.cells (#[.pointer (some ⟨F, i, none⟩)]) 205)
  unfold fnV at *
  have HB0 := Lib.hid b0
  have HB1 := Lib.hid b1
  have HB2 := Lib.hid b2
  have HK := Lib.hid k0
  clear b0 b1 b2 k0
  go_enter Tryz.func138, Tryz.ntmps138
  go_wp2
  go_ret
  exact ⟨_, rfl, ⟨w.heap.size + 1, w.heap.size, w.heap.size + 1 + 1, rfl, HB1.out, HB0.out, HB2.out⟩, HK.out⟩

set_option maxRecDepth 100000 in
set_option maxHeartbeats 4000000 in
theorem readBod_any (k : Nat) (hcf : ∀ args w, (callFunc k args).run Tryz.prog w = .ok (.enter k args) w) (O : Nat → Prop) (rp : Option Addr) (cc0 rr qq F : Nat) (v : FV) (w : World) (hc : Blk w cc0 204 #[fnV k]) (hr : Blk w rr 141 #[.pointer rp]) (hq : Blk w qq 205 #[.pointer (some ⟨F, 4, none⟩)])
    (hF : Blk w F 61 v.cells) (hq1 : ¬ O qq) (hF1 : ¬ O F) (G : Option Addr → Nat → Nat → Int → World → Prop)
    (HG : Hid (Calls Tryz.prog k #[.pointer rp] w fun e w1 => ∃ A n c E, e = .returned (.tuple #[.slice A n c, .int .i64 E]) ∧ G A n c E w1 ∧ Keep O w w1)) :
    Calls Tryz.prog 182 #[.pointer (some ⟨cc0, 0, none⟩), .pointer (some ⟨rr, 0, none⟩), .pointer (some ⟨qq, 0, none⟩)] w fun e w' => ∃ A n c E w1, e = .returned (.bool (E == 0)) ∧ G A n c E w1 ∧ Keep O w w1 ∧ w' = (w1.setCell ⟨F, 4, none⟩ (.slice A n c)) := by
  have c1 := hc.cell 0
  have c2 := hr.cell 0
  have c3 := hq.cell 0
  unfold fnV at c1
  unfold FV.cells at hF
  have HQ := Lib.hid hq
  have HF := Lib.hid hF
  clear hc hr hq hF
  go_enter Tryz.func182, Tryz.ntmps182
  go_wp2_with fail
  refine HG.out.mono ?_
  rintro e w1 ⟨A, n, c, E, rfl, hg, k1⟩
  have q1 := ((HQ.out.keep k1 hq1)).cell 0
  have f1 := (HF.out.keep k1 hF1)
  obtain ⟨d0, d1, d2, d3, d4⟩ := blk5 (v := v) f1
  have fz := fun i => f1.frozen i
  simp at q1
  clear c1 c2 c3 f1 HG
  go_wp2
  go_ret
  exact ⟨A, n, c, E, w1, rfl, hg, k1, rfl⟩

end Go.Proofs.YtgifflfjhockaaaGreatDoor.F

namespace Go.Proofs.YtgifflfjhockaaaGreatDoor
open Go.RowKit
section
variable {P : Program} {md : Region.Mode} {ops : Array Oper}

/-- The frame as it was, but for the region's slots. -/
def FrameI (a0 : Act) (d0 n : Nat) (a : Act) : Prop := a.defers = a0.defers ∧ a.tmps.size = a0.tmps.size ∧ ∀ s, (s < d0 ∨ d0 + n ≤ s) → a.tmps.getD s undef = a0.tmps.getD s undef

/-- The slots from one on, filled. -/
def fillT (t : Array Value) (d : Nat) : List Value → Array Value
  | [] => t
  | v :: vs => fillT (t.setIfInBounds d v) (d + 1) vs
theorem fillT_size : ∀ (vs : List Value) (t : Array Value) (d : Nat), (fillT t d vs).size = t.size
  | [], _, _ => rfl
  | v :: vs, t, d => by rw [fillT, fillT_size vs]; simp
theorem fillT_get : ∀ (vs : List Value) (t : Array Value) (d : Nat), d + vs.length ≤ t.size → ∀ s, (fillT t d vs).getD s undef = if d ≤ s ∧ s < d + vs.length then vs.getD (s - d) undef else t.getD s undef
  | [], t, d, _, s => by rw [fillT, if_neg (by simp)]
  | v :: vs, t, d, h, s => by
    simp only [List.length_cons] at h
    rw [fillT, fillT_get vs _ _ (by simp; omega)]
    by_cases e : s = d
    · subst e
      rw [if_neg (by omega), if_pos (by constructor <;> simp <;> omega)]
      have hs : s < t.size := by omega
      simp [hs]
    · have hset : (t.setIfInBounds d v).getD s undef = t.getD s undef := by
        simp only [Array.getD_eq_getD_getElem?, Array.getElem?_setIfInBounds]
        rw [if_neg (fun h => e h.symm)]
      rw [hset]
      by_cases h2 : d + 1 ≤ s ∧ s < d + 1 + vs.length
      · rw [if_pos h2, if_pos (by simp; omega), show s - d = (s - (d + 1)) + 1 by omega, List.getD_cons_succ]
      · rw [if_neg h2, if_neg (by simp; omega)]
theorem frame_fill {a0 a : Act} {d0 n : Nat} (h : FrameI a0 d0 n a) (hsz : d0 + n ≤ a0.tmps.size) : a = { tmps := fillT a0.tmps d0 ((List.range n).map fun i => a.tmps.getD (d0 + i) undef), defers := a0.defers } := by
  obtain ⟨h1, h2, h3⟩ := h
  have e : a.tmps = fillT a0.tmps d0 ((List.range n).map fun i => a.tmps.getD (d0 + i) undef) := by
    apply Array.ext
    · rw [fillT_size, h2]
    · intro i hi hi'
      have hg := fillT_get ((List.range n).map fun i => a.tmps.getD (d0 + i) undef) a0.tmps d0 (by simpa using hsz) i
      have e1 : (fillT a0.tmps d0 ((List.range n).map fun i => a.tmps.getD (d0 + i) undef)).getD i undef = (fillT a0.tmps d0 ((List.range n).map fun i => a.tmps.getD (d0 + i) undef))[i] := by rw [Array.getD_eq_getD_getElem?, Array.getElem?_eq_getElem hi']; rfl
      have e2 : a.tmps.getD i undef = a.tmps[i] := by rw [Array.getD_eq_getD_getElem?, Array.getElem?_eq_getElem hi]; rfl
      refine e2.symm.trans (Eq.trans ?_ (hg.symm.trans e1))
      simp only [List.length_map, List.length_range]
      by_cases hh : d0 ≤ i ∧ i < d0 + n
      · rw [if_pos hh]
        have hlt : i - d0 < n := by omega
        rw [List.getD_eq_getElem?_getD, List.getElem?_map, List.getElem?_range hlt]
        simp only [Option.map_some, Option.getD_some]
        rw [show d0 + (i - d0) = i by omega]
      · rw [if_neg hh]; exact h3 i (by omega)
  obtain ⟨t, d⟩ := a
  simp only at e h1 ⊢
  rw [← e, h1]
end
end Go.Proofs.YtgifflfjhockaaaGreatDoor

namespace Go.Proofs.YtgifflfjhockaaaGreatDoor
open Go.RowKit
section
variable {P : Program} {md : Region.Mode} {ops : Array Oper}

/-- Each operation writes the slot of its number (number c may write none), and stands behind earlier ones alone. -/
def propsG (ops : Array Oper) (d0 c : Nat) : Bool := (List.range ops.size).all fun i => match ops[i]? with
  | none => false
  | some o => (match o.dst with
    | none => i == c
    | some d => d == d0 + i) && o.after.all fun e => decide (e.on < i)
theorem propsG_at {d0 c : Nat} (h : propsG ops d0 c = true) {i : Nat} {o : Oper} (ho : ops[i]? = some o) : (o.dst = some (d0 + i) ∨ (o.dst = none ∧ i = c)) ∧ ∀ e ∈ o.after, e.on < i := by
  have hi := (Array.getElem?_eq_some_iff.1 ho).1
  have h1 := List.all_eq_true.1 h i (List.mem_range.2 hi)
  simp only [ho, Bool.and_eq_true] at h1
  obtain ⟨h1, h3⟩ := h1
  refine ⟨?_, fun e he => ?_⟩
  · cases hd : o.dst with
    | none => rw [hd] at h1; exact .inr ⟨rfl, by simpa using h1⟩
    | some d => rw [hd] at h1; exact .inl (by simpa using h1)
  · have := Array.all_eq_true_iff_forall_mem.1 h3 e he
    simpa using this
theorem no_readyG {d0 c : Nat} (hB : propsG ops d0 c = true) {listed : Array Bool} (hs : listed.size = ops.size) (hr : Region.ready md ops listed = []) : ∀ i, i < ops.size → listed.getD i true = true := by
  intro i
  induction i using Nat.strongRecOn with
  | ind i ih =>
    intro hi
    cases hl : listed.getD i true
    · have ho : ops[i]? = some ops[i] := Array.getElem?_eq_getElem hi
      have : i ∈ Region.ready md ops listed := mem_ready.2 ⟨hl, ops[i], ho, fun e he _ => by
        have he2 := (propsG_at hB ho).2 e he
        have h1 := ih e.on he2 (by omega)
        have h2 : e.on < listed.size := by omega
        simpa [h2] using h1⟩
      rw [hr] at this; cases this
    · rfl
/-- Is a guarded operation wanted? -/
theorem wanted_at {o : Oper} {tmps : Array Value} {j d : Nat} {want b : Bool} (hg : o.guard = some (j, want)) (hd : (ops[j]?).bind (·.dst) = some d) (hv : tmps.getD d undef = .bool b) : Region.wanted o (yielded ops tmps) = (b == want) := by
  have ht : tmps[d]? = some (.bool b) := by
    rw [Array.getD_eq_getD_getElem?] at hv
    cases h : tmps[d]? with
    | none => rw [h] at hv; simp [undef] at hv
    | some x => rw [h] at hv; simp at hv; rw [hv]
  unfold Region.wanted
  rw [hg]
  simp only [yielded, hd, Option.bind_some, ht]
  cases b <;> cases want <;> rfl
theorem yieldsR_mono {R R' : Value → World → Prop} (h : ∀ u w, R u w → R' u w) : ∀ (P : Program) (r : Result Next), yieldsR R P r → yieldsR R' P r := by
  intro P r hr
  cases r with
  | ok n w =>
    cases n with
    | value u => exact h _ _ hr
    | skip => exact h _ _ hr
    | enter f args => exact Calls.mono hr fun e w'' ⟨u, e1, h2⟩ => ⟨u, e1, h _ _ h2⟩
    | _ => exact hr.elim
  | _ => exact hr.elim
/-- What an operation does: it yields a value, or isn't wanted. -/
def Does (P : Program) (ops : Array Oper) (o : Oper) (a : Act) (w : World) (R : Value → World → Prop) : Prop :=
  (Region.wanted o (yielded ops a.tmps) = true ∧ yieldsK P o a w R) ∨ (Region.wanted o (yielded ops a.tmps) = false ∧ R undef w)
theorem Does.plain {o : Oper} {a : Act} {w : World} {R : Value → World → Prop} (hg : o.guard = none) (h : yieldsK P o a w R) : Does P ops o a w R := .inl ⟨by unfold Region.wanted; rw [hg], h⟩
theorem Does.yes {o : Oper} {a : Act} {w : World} {R : Value → World → Prop} {j d : Nat} {want : Bool} (hg : o.guard = some (j, want)) (hd : (ops[j]?).bind (·.dst) = some d) (hv : a.tmps.getD d undef = .bool want) (h : yieldsK P o a w R) : Does P ops o a w R :=
  .inl ⟨by rw [wanted_at hg hd hv]; cases want <;> rfl, h⟩
theorem Does.no {o : Oper} {a : Act} {w : World} {R : Value → World → Prop} {j d : Nat} {want : Bool} (hg : o.guard = some (j, want)) (hd : (ops[j]?).bind (·.dst) = some d) (hv : a.tmps.getD d undef = .bool (!want)) (h : R undef w) : Does P ops o a w R :=
  .inr ⟨by rw [wanted_at hg hd hv]; cases want <;> rfl, h⟩

theorem wpAny_props2 {Q : Exit → Act → World → Prop} (d0 c : Nat) (O : Nat → Prop) (hB : propsG ops d0 c = true) (S : Nat → Value → World → Prop) (w0 : World) (a0 : Act) (hS : ∀ i v w w', Keep O w0 w → S i v w → Keep O w w' → S i v w') (hsz : d0 + ops.size ≤ a0.tmps.size)
    (hstep : ∀ i o (a : Act) (w : World), ops[i]? = some o → i ≠ c → FrameI a0 d0 ops.size a → Keep O w0 w → (∀ e ∈ o.after, Region.binds md e = true → S e.on (a.tmps.getD (d0 + e.on) undef) w) → Does P ops o a w fun u w' => S i u w' ∧ Keep NoB w w')
    (hspec : ∀ o (a : Act) (w : World), ops[c]? = some o → FrameI a0 d0 ops.size a → Keep NoB w0 w → (∀ e ∈ o.after, Region.binds md e = true → S e.on (a.tmps.getD (d0 + e.on) undef) w) → Does P ops o a w fun u w' => (∀ v, (o.dst.isSome = true → v = u) → S c v w') ∧ Keep O w w')
    (hend : ∀ (a : Act) (w : World), FrameI a0 d0 ops.size a → Keep O w0 w → (∀ i, i < ops.size → S i (a.tmps.getD (d0 + i) undef) w) → Q .normal a w) :
    ∀ (fuel : Nat) (listed : Array Bool) (a : Act) (w : World), listed.size = ops.size → (∃ L : List Nat, L.length ≤ fuel ∧ ∀ i, i < ops.size → listed.getD i true = false → i ∈ L) → FrameI a0 d0 ops.size a → Keep O w0 w → (listed.getD c true = false → Keep NoB w0 w) →
      (∀ i, i < ops.size → listed.getD i true = true → S i (a.tmps.getD (d0 + i) undef) w) → wpAny P md ops Q fuel listed a w := by
  have hNO : ∀ {X Y : World}, Keep NoB X Y → Keep O X Y := fun h => h.mono (fun _ hf _ => hf.elim)
  intro fuel
  induction fuel with
  | zero =>
    intro listed a w hs ⟨L, hL, hin⟩ hF hK hC hA
    obtain rfl : L = [] := List.length_eq_zero_iff.1 (by omega)
    have hall : ∀ i, i < ops.size → listed.getD i true = true := fun i hi => by
      cases h : listed.getD i true
      · cases hin i hi h
      · rfl
    refine ⟨?_, hend a w hF hK fun i hi => hA i hi (hall i hi)⟩
    rw [List.eq_nil_iff_forall_not_mem]
    intro i hi
    obtain ⟨h1, o, ho, _⟩ := mem_ready.1 hi
    rw [hall i (Array.getElem?_eq_some_iff.1 ho).1] at h1; cases h1
  | succ fuel ih =>
    intro listed a w hs ⟨L, hL, hin⟩ hF hK hC hA
    refine ⟨fun h0 => hend a w hF hK fun i hi => hA i hi (no_readyG hB hs h0 i hi), fun i hi => ?_⟩
    obtain ⟨h1, o, ho, hall⟩ := mem_ready.1 hi
    have hi' := (Array.getElem?_eq_some_iff.1 ho).1
    obtain ⟨hd, hlt⟩ := propsG_at hB ho
    have hdeps : ∀ e ∈ o.after, Region.binds md e = true → S e.on (a.tmps.getD (d0 + e.on) undef) w := fun e he hb => by
      have h2 := hall e he hb
      have h3 := hlt e he
      refine hA e.on (by omega) ?_
      have h4 : e.on < listed.size := by omega
      simpa [h4] using h2
    have hKO : (if i = c then Keep NoB w0 w else True) := by
      split
      · rename_i e; subst e; exact hC h1
      · trivial
    have hdoes : Does P ops o a w fun u w' => (∀ v, (o.dst.isSome = true → v = u) → S i v w') ∧ Keep O w w' ∧ (i ≠ c → Keep NoB w w') := by
      by_cases e : i = c
      · subst e
        rw [if_pos rfl] at hKO
        rcases hspec o a w ho hF hKO hdeps with ⟨hw, hy⟩ | ⟨hw, h2, h3⟩
        · refine .inl ⟨hw, ?_⟩
          unfold yieldsK at hy ⊢
          exact yieldsR_mono (fun u w' ⟨h2, h3⟩ => ⟨h2, h3, fun h => absurd rfl h⟩) _ _ hy
        · exact .inr ⟨hw, h2, h3, fun h => absurd rfl h⟩
      · have hsome : o.dst.isSome = true := by
          rcases hd with h | ⟨_, h⟩
          · rw [h]; rfl
          · exact absurd h e
        rcases hstep i o a w ho e hF hK hdeps with ⟨hw, hy⟩ | ⟨hw, h2, h3⟩
        · refine .inl ⟨hw, ?_⟩
          unfold yieldsK at hy ⊢
          exact yieldsR_mono (fun u w' ⟨h2, h3⟩ => ⟨fun v hv => by rw [hv hsome]; exact h2, hNO h3, fun _ => h3⟩) _ _ hy
        · exact .inr ⟨hw, fun v hv => by rw [hv hsome]; exact h2, hNO h3, fun _ => h3⟩
    have hnext : ∀ u w', (∀ v, (o.dst.isSome = true → v = u) → S i v w') → Keep O w w' → (i ≠ c → Keep NoB w w') → wpAny P md ops Q fuel (listed.setIfInBounds i true) (a.put o.dst u) w' := by
      intro u w' hSu hk hkn
      have hfr : FrameI a0 d0 ops.size (a.put o.dst u) ∧ (∀ k, k < ops.size → k ≠ i → (a.put o.dst u).tmps.getD (d0 + k) undef = a.tmps.getD (d0 + k) undef) ∧ (o.dst.isSome = true → (a.put o.dst u).tmps.getD (d0 + i) undef = u) := by
        rcases hd with hd | ⟨hd, _⟩
        · rw [hd]
          have hds : d0 + i < a.tmps.size := by rw [hF.2.1]; omega
          have hget : ∀ s, (a.put (some (d0 + i)) u).tmps.getD s undef = if s = d0 + i then u else a.tmps.getD s undef := fun s => by
            unfold Act.put
            by_cases e : s = d0 + i
            · subst e; simp [hds]
            · rw [if_neg e]
              simp only [Array.getD_eq_getD_getElem?, Array.getElem?_setIfInBounds]
              rw [if_neg (fun h => e h.symm)]
          refine ⟨⟨hF.1, by unfold Act.put; simpa using hF.2.1, fun s hs' => ?_⟩, fun k hk' hki => ?_, fun _ => ?_⟩
          · rw [hget, if_neg (by omega)]; exact hF.2.2 s hs'
          · rw [hget, if_neg (by omega)]
          · rw [hget, if_pos rfl]
        · rw [hd]
          exact ⟨hF, fun _ _ _ => rfl, fun h => by cases h⟩
      obtain ⟨hF', hother, hself⟩ := hfr
      refine ih (listed.setIfInBounds i true) _ w' (by simpa using hs) ⟨L.erase i, ?_, fun k hk' hl => ?_⟩ hF' (hK.trans hk (fun _ h _ => h)) (fun hl => ?_) fun k hk' hl => ?_
      · rw [List.length_erase_of_mem (hin i hi' h1)]; omega
      · have hki : k ≠ i := by
          rintro rfl
          have : k < listed.size := by omega
          simp [this] at hl
        have hl2 : listed.getD k true = false := by rw [getD_set_ne true (Ne.symm hki)] at hl; exact hl
        exact (List.mem_erase_of_ne hki).2 (hin k hk' hl2)
      · have hci : c ≠ i := by
          rintro rfl
          have : c < listed.size := by omega
          simp [this] at hl
        rw [getD_set_ne true (Ne.symm hci)] at hl
        exact keepN (hC hl) (hkn (Ne.symm hci))
      · by_cases e : k = i
        · subst e
          exact hSu _ hself
        · rw [hother k hk' e]
          exact hS k _ _ _ hK (hA k hk' (by rw [getD_set_ne true (Ne.symm e)] at hl; exact hl)) hk
    unfold wpOp
    simp only [ho]
    rcases hdoes with ⟨hw, hy⟩ | ⟨hw, h2, h3, h4⟩
    · rw [if_pos hw]
      exact .inl (Oper.wp_of_yields hy fun u w' ⟨h2, h3, h4⟩ => hnext u w' h2 h3 h4)
    · rw [if_neg (by rw [hw]; decide)]
      exact hnext undef w h2 h3 h4
theorem wp_region_props2 {id : Nat} {Q : Exit → Act → World → Prop} {a0 : Act} {w : World} (d0 c : Nat) (O : Nat → Prop) (hm : P.follows .mixedOrders = true) (hB : propsG ops d0 c = true) (S : Nat → Value → World → Prop) (hS : ∀ i v w1 w', Keep O w w1 → S i v w1 → Keep O w1 w' → S i v w') (hsz : d0 + ops.size ≤ a0.tmps.size)
    (hstep : ∀ i o (a : Act) (w' : World), ops[i]? = some o → i ≠ c → FrameI a0 d0 ops.size a → Keep O w w' → (∀ e ∈ o.after, Region.binds .any e = true → S e.on (a.tmps.getD (d0 + e.on) undef) w') → Does P ops o a w' fun u w'' => S i u w'' ∧ Keep NoB w' w'')
    (hspec : ∀ o (a : Act) (w' : World), ops[c]? = some o → FrameI a0 d0 ops.size a → Keep NoB w w' → (∀ e ∈ o.after, Region.binds .any e = true → S e.on (a.tmps.getD (d0 + e.on) undef) w') → Does P ops o a w' fun u w'' => (∀ v, (o.dst.isSome = true → v = u) → S c v w'') ∧ Keep O w' w'')
    (hend : ∀ (a : Act) (w' : World), FrameI a0 d0 ops.size a → Keep O w w' → (∀ i, i < ops.size → S i (a.tmps.getD (d0 + i) undef) w') → Q .normal a w') : (Code.region id ops true).wp P Q a0 w :=
  wp_region_any hm (wpAny_props2 d0 c O hB S w a0 hS hsz hstep hspec hend _ _ a0 w.drew (by simp) ⟨List.range ops.size, by simp, fun i hi _ => List.mem_range.2 hi⟩ ⟨rfl, rfl, fun _ _ => rfl⟩ (Keep.refl O w).drew (fun _ => (Keep.refl NoB w).drew) fun i hi hl => by
    simp [hi] at hl)
end
end Go.Proofs.YtgifflfjhockaaaGreatDoor

namespace Go.Proofs.YtgifflfjhockaaaGreatDoor.F
open Go.RowKit W

/-- What each of the questions is answered. -/
def bsF (v : FV) (f : Fu) (i : Nat) : Bool := match i with
  | 0 => decide (v.na + v.nb + v.nl ≤ 64)
  | 1 => okN f.nm
  | 2 => S.okG f.ar f.rs
  | 3 => S.okG f.lc []
  | _ => C.okB f.bd
theorem bsF_all {v : FV} {f : Fu} {w : World} (h : FnAt w v f) (hb : ∀ i, i < 5 → bsF v f i = true) : okF f = true := by
  have h0 := of_decide_eq_true (hb 0 (by omega))
  have h1 : okN f.nm = true := hb 1 (by omega)
  have h2 : S.okG f.ar f.rs = true := hb 2 (by omega)
  have h3 : S.okG f.lc [] = true := hb 3 (by omega)
  have h4 : C.okB f.bd = true := hb 4 (by omega)
  rw [← h.la, ← h.lb, ← h.ll] at h0
  exact (okF_iff f).2 ⟨h1, h2, ((okG_one _).1 h3).2, h4, h0⟩
theorem bsF_not {v : FV} {f : Fu} {w : World} (h : FnAt w v f) (hb : ∃ i, i < 5 ∧ bsF v f i = false) : okF f = false := by
  refine okF_not fun ⟨h1, h2, h3, h4, h5⟩ => ?_
  obtain ⟨i, hi, hb⟩ := hb
  rw [h.la, h.lb, h.ll] at h5
  have hl : S.okG f.lc [] = true := (okG_one _).2 ⟨by rw [h.ll]; omega, h3⟩
  have hi : i = 0 ∨ i = 1 ∨ i = 2 ∨ i = 3 ∨ i = 4 := by omega
  rcases hi with rfl | rfl | rfl | rfl | rfl
  · exact absurd h5 (of_decide_eq_false hb)
  · rw [show bsF v f 1 = okN f.nm from rfl, h1] at hb; cases hb
  · rw [show bsF v f 2 = S.okG f.ar f.rs from rfl, h2] at hb; cases hb
  · rw [show bsF v f 3 = S.okG f.lc [] from rfl, hl] at hb; cases hb
  · rw [show bsF v f 4 = C.okB f.bd from rfl, h4] at hb; cases hb
theorem few_eq (v : FV) (f : Fu) : (((if v.na + v.nb + v.nl ≤ 64 then (0 : Int) else 70)) == 0) = bsF v f 0 := by
  show _ = decide _
  by_cases h : v.na + v.nb + v.nl ≤ 64
  · rw [if_pos h, decide_eq_true h]; rfl
  · rw [if_neg h, decide_eq_false h]; rfl
theorem chkN_eq (s : List UInt8) : (chkN s == 0) = okN s := by
  cases h : okN s
  · rw [chkN_no h]; rfl
  · rw [chkN_ok h]; rfl
theorem chkG_eq (a r : List Int) : (S.chkG a r == 0) = S.okG a r := by
  cases h : S.okG a r
  · rw [S.chkG_no h]; rfl
  · rw [S.chkG_ok h]; rfl
theorem chkB_eq (l : List C.I3) : (C.chkB l == 0) = C.okB l := by
  cases h : C.okB l
  · rw [C.chkB_no h]; rfl
  · rw [C.chkB_ok h]; rfl
set_option maxRecDepth 100000 in
set_option maxHeartbeats 4000000 in
theorem checks_any (v : FV) (f : Fu) (w : World) (h : FnAt w v f) (hs : SmF v) (g : Nat) (u0 u1 u2 u3 u4 : Value) (hb : Blk w g 69 #[u0, u1, u2, u3, u4])
    (a0 : AskV 160 89 61 (fnV 118) (v.cells) u0 w)
    (a1 : AskV 161 181 9 (fnV 120) (#[.string v.S]) u1 w)
    (a2 : AskV 164 183 57 (fnV 122) (#[.slice v.A v.na v.ca, .slice v.B v.nb v.cb]) u2 w)
    (a3 : AskV 164 183 57 (fnV 122) (#[.slice v.L v.nl v.cl, .slice none 0 0]) u3 w)
    (a4 : AskV 166 186 59 (fnV 125) (#[.slice v.D v.nd v.cd]) u4 w) :
    Calls Tryz.prog 116 #[.slice (some ⟨g, 0, none⟩) 5 5] w fun e w' => e = .returned (.bool (okF f)) ∧ Keep NoB w w' := by
  obtain ⟨c0, p0, rfl, a0, b0⟩ := a0
  obtain ⟨c1, p1, rfl, a1, b1⟩ := a1
  obtain ⟨c2, p2, rfl, a2, b2⟩ := a2
  obtain ⟨c3, p3, rfl, a3, b3⟩ := a3
  obtain ⟨c4, p4, rfl, a4, b4⟩ := a4
  refine (every_any (some ⟨g, 0, none⟩) [(160, #[.pointer (some ⟨c0, 0, none⟩), .pointer (some ⟨p0, 0, none⟩)]), (161, #[.pointer (some ⟨c1, 0, none⟩), .pointer (some ⟨p1, 0, none⟩)]), (164, #[.pointer (some ⟨c2, 0, none⟩), .pointer (some ⟨p2, 0, none⟩)]), (164, #[.pointer (some ⟨c3, 0, none⟩), .pointer (some ⟨p3, 0, none⟩)]), (166, #[.pointer (some ⟨c4, 0, none⟩), .pointer (some ⟨p4, 0, none⟩)])] 5 5 w rfl (by decide) (bsF v f) (fun _ W => Keep NoB w W) (fun W => Keep NoB w W) ?hcf ?hr ?hq (Keep.refl _ _)).mono ?_
  case hcf =>
    intro q hq
    simp only [List.mem_cons, List.not_mem_nil, or_false] at hq
    rcases hq with rfl | rfl | rfl | rfl | rfl
    · exact enters_of Tryz.func160 (by kernel_rfl) rfl
    · exact enters_of Tryz.func161 (by kernel_rfl) rfl
    · exact enters_of Tryz.func164 (by kernel_rfl) rfl
    · exact enters_of Tryz.func164 (by kernel_rfl) rfl
    · exact enters_of Tryz.func166 (by kernel_rfl) rfl
  case hr =>
    intro i W hK _
    refine ⟨g, 0, rfl, fun j u hu => ?_⟩
    rw [Nat.zero_add, (hb.keep hK id).cell j]
    simpa using hu
  case hq =>
    intro i hi W hK
    have hf := h.keepN hK
    have hi : i = 0 ∨ i = 1 ∨ i = 2 ∨ i = 3 ∨ i = 4 := by simp at hi; omega
    rcases hi with rfl | rfl | rfl | rfl | rfl
    · refine (askedFun_any 118 (enters_of Tryz.func118 (by kernel_rfl) rfl) v c0 p0 W (a0.keep hK id) (b0.keep hK id) _ (bsF v f 0) (few_eq v f) (few_any v W hs _ rfl)).mono ?_
      rintro e W' ⟨rfl, hk⟩
      exact ⟨rfl, fun _ => keepN hK hk, fun _ => keepN hK hk⟩
    · refine (askedStr_any 120 (enters_of Tryz.func120 (by kernel_rfl) rfl) v.S c1 p1 W (a1.keep hK id) (b1.keep hK id) (chkN f.nm) (bsF v f 1) (chkN_eq _) ?_).mono ?_
      · refine (named_any v.S f.nm W hf.nm (by have := hs.sz; omega) _ rfl).mono ?_
        rintro e W' ⟨rfl, rfl⟩
        exact ⟨rfl, Keep.refl _ _⟩
      rintro e W' ⟨rfl, hk⟩
      exact ⟨rfl, fun _ => keepN hK hk, fun _ => keepN hK hk⟩
    · refine (askedSig_any 122 (enters_of Tryz.func122 (by kernel_rfl) rfl) _ _ c2 p2 W (a2.keep hK id) (b2.keep hK id) (S.chkG f.ar f.rs) (bsF v f 2) (chkG_eq _ _) (S.chkG_any v.A f.ar v.na v.ca v.B f.rs v.nb v.cb W hf.ra hf.rb hf.la hf.lb (by have := hs.na; omega) (by have := hs.nb; omega) _ rfl)).mono ?_
      rintro e W' ⟨rfl, hk⟩
      exact ⟨rfl, fun _ => keepN hK hk, fun _ => keepN hK hk⟩
    · refine (askedSig_any 122 (enters_of Tryz.func122 (by kernel_rfl) rfl) _ _ c3 p3 W (a3.keep hK id) (b3.keep hK id) (S.chkG f.lc []) (bsF v f 3) (chkG_eq _ _) (S.chkG_any v.L f.lc v.nl v.cl none [] 0 0 W hf.rl (Rd.none_ _ _) hf.ll rfl (by have := hs.nl; omega) (by omega) _ rfl)).mono ?_
      rintro e W' ⟨rfl, hk⟩
      exact ⟨rfl, fun _ => keepN hK hk, fun _ => keepN hK hk⟩
    · refine (askedBod_any 125 (enters_of Tryz.func125 (by kernel_rfl) rfl) v.D v.nd v.cd c4 p4 W (a4.keep hK id) (b4.keep hK id) (C.chkB f.bd) (bsF v f 4) (chkB_eq _) (C.cchk_any v.D f.bd v.nd v.cd W hf.rd hf.ld (by have := hs.nd; omega) _ rfl)).mono ?_
      rintro e W' ⟨rfl, hk⟩
      exact ⟨rfl, fun _ => keepN hK hk, fun _ => keepN hK hk⟩
  rintro e w' (⟨rfl, hb, hk⟩ | ⟨rfl, hb, hk⟩)
  · exact ⟨by rw [bsF_all h hb], hk⟩
  · exact ⟨by rw [bsF_not h hb], hk⟩

/-- What the values are that Check's region yields. -/
def SC (v : FV) (f : Fu) (b : Nat) : Nat → Value → World → Prop
  | 0 => fun u _ => u = v.val
  | 1 => AskV 160 89 61 (fnV 118) (v.cells)
  | 2 => fun u _ => u = .pointer (some ⟨b, 0, none⟩)
  | 3 => fun u _ => u = .string v.S
  | 4 => AskV 161 181 9 (fnV 120) (#[.string v.S])
  | 5 => fun u _ => u = .pointer (some ⟨b, 1, none⟩)
  | 6 => fun u _ => u = .agg #[.slice v.A v.na v.ca, .slice v.B v.nb v.cb]
  | 7 => AskV 164 183 57 (fnV 122) (#[.slice v.A v.na v.ca, .slice v.B v.nb v.cb])
  | 8 => fun u _ => u = .pointer (some ⟨b, 3, none⟩)
  | 9 => fun u _ => u = .slice v.L v.nl v.cl
  | 10 => fun u _ => u = .agg #[.slice v.L v.nl v.cl, .slice none 0 0]
  | 11 => AskV 164 183 57 (fnV 122) (#[.slice v.L v.nl v.cl, .slice none 0 0])
  | 12 => fun u _ => u = .pointer (some ⟨b, 4, none⟩)
  | 13 => fun u _ => u = .slice v.D v.nd v.cd
  | 14 => AskV 166 186 59 (fnV 125) (#[.slice v.D v.nd v.cd])
  | 15 => fun u w => ∃ g u0 u1 u2 u3 u4, u = .slice (some ⟨g, 0, none⟩) 5 5 ∧ Blk w g 69 #[u0, u1, u2, u3, u4] ∧ AskV 160 89 61 (fnV 118) (v.cells) u0 w ∧ AskV 161 181 9 (fnV 120) (#[.string v.S]) u1 w ∧ AskV 164 183 57 (fnV 122) (#[.slice v.A v.na v.ca, .slice v.B v.nb v.cb]) u2 w ∧ AskV 164 183 57 (fnV 122) (#[.slice v.L v.nl v.cl, .slice none 0 0]) u3 w ∧ AskV 166 186 59 (fnV 125) (#[.slice v.D v.nd v.cd]) u4 w
  | 16 => fun u _ => u = .bool (okF f)
  | 17 => fun u _ => u = .bool (!okF f)
  | _ => fun _ _ => True
theorem SC_stable (v : FV) (f : Fu) (b : Nat) : ∀ i u w w', SC v f b i u w → Keep NoB w w' → SC v f b i u w'
  | 0, _, _, _, h, _ => h
  | 1, _, _, _, h, hk => AskV.keep h hk
  | 2, _, _, _, h, _ => h
  | 3, _, _, _, h, _ => h
  | 4, _, _, _, h, hk => AskV.keep h hk
  | 5, _, _, _, h, _ => h
  | 6, _, _, _, h, _ => h
  | 7, _, _, _, h, hk => AskV.keep h hk
  | 8, _, _, _, h, _ => h
  | 9, _, _, _, h, _ => h
  | 10, _, _, _, h, _ => h
  | 11, _, _, _, h, hk => AskV.keep h hk
  | 12, _, _, _, h, _ => h
  | 13, _, _, _, h, _ => h
  | 14, _, _, _, h, hk => AskV.keep h hk
  | 15, _, _, _, ⟨g, u0, u1, u2, u3, u4, e, hb, a0, a1, a2, a3, a4⟩, hk => ⟨g, u0, u1, u2, u3, u4, e, hb.keep hk id, a0.keep hk, a1.keep hk, a2.keep hk, a3.keep hk, a4.keep hk⟩
  | 16, _, _, _, h, _ => h
  | 17, _, _, _, h, _ => h
  | _ + 18, _, _, _, h, _ => h

set_option maxRecDepth 100000 in
set_option maxHeartbeats 8000000 in
theorem check_any (v : FV) (f : Fu) (w : World) (h : FnAt w v f) (hs : SmF v) (R : Int) (hR : Hid (chkF f = R)) :
    Calls Tryz.prog 76 #[v.val] w fun e w' => e = .returned (.int .i64 R) ∧ Keep NoB w w' := by
  have bx := Blk.new w 61 v.cells
  have k0 := (Keep.refl NoB w).alloc (.cells v.cells 61)
  have HF := Lib.hid (h.keepN k0)
  obtain ⟨S, A, na, ca, B, nb, cb, L, nl, cl, D, nd, cd⟩ := v
  have HE := Lib.hid (fun W hf g u0 u1 u2 u3 u4 hb a0 a1 a2 a3 a4 => checks_any _ f W hf hs g u0 u1 u2 u3 u4 hb a0 a1 a2 a3 a4)
  obtain ⟨q0, q1, q2, q3, q4⟩ := blk5 bx
  dsimp only [FV.val, FV.cells] at bx k0 HF q0 q1 q2 q3 q4 ⊢
  have HX := Lib.hid bx
  clear h hs bx
  generalize hw1 : w.alloc (.cells #[.string S, .slice A na ca, .slice B nb cb, .slice L nl cl, .slice D nd cd] 61) = w1 at k0 HF q0 q1 q2 q3 q4 HX
  go_enter Tryz.func76, Tryz.ntmps76
  go_wp2_with fail
  clear hw1
  refine wp_region_props2 3 99 (NoB) (by kernel_rfl) (by kernel_rfl) (SC ⟨S, A, na, ca, B, nb, cb, L, nl, cl, D, nd, cd⟩ f w.heap.size) (fun i u x y _ h hk => SC_stable _ _ _ i u x y h hk) (of_decide_eq_true rfl) ?step ?spec ?fin
  case step =>
    intro i o a w' ho hic hF hK hA
    have hi : i < 18 := by simpa using (Array.getElem?_eq_some_iff.1 ho).1
    by_cases h0 : i = 0
    · subst h0
      simp only [List.getElem?_toArray, List.getElem?_cons_zero, Option.some.injEq] at ho
      subst ho
      have e1 : a.tmps.getD 1 undef = .pointer (some ⟨w.heap.size, 0, none⟩) := hF.2.2 1 (.inl (by decide))
      have c0 := Keep.cell hK q0 id
      have c1 := Keep.cell hK q1 id
      have c2 := Keep.cell hK q2 id
      have c3 := Keep.cell hK q3 id
      have c4 := Keep.cell hK q4 id
      refine Does.plain rfl ?_
      unfold yieldsK
      go_simp
      exact ⟨rfl, Keep.refl _ _⟩
    by_cases h1 : i = 1
    · subst h1
      simp only [List.getElem?_toArray, List.getElem?_cons_zero, List.getElem?_cons_succ, Option.some.injEq] at ho
      subst ho
      have e3 : a.tmps.getD 3 undef = .agg #[.string S, .slice A na ca, .slice B nb cb, .slice L nl cl, .slice D nd cd] := hA ⟨0, .data⟩ (by simp) rfl
      refine Does.plain rfl ?_
      unfold yieldsK
      go_simp
      refine (passesFun_any 118 ⟨S, A, na, ca, B, nb, cb, L, nl, cl, D, nd, cd⟩ w').mono ?_
      rintro e w2 ⟨u, rfl, h1, h2⟩
      exact ⟨_, rfl, h1, h2⟩
    by_cases h2 : i = 2
    · subst h2
      simp only [List.getElem?_toArray, List.getElem?_cons_zero, List.getElem?_cons_succ, Option.some.injEq] at ho
      subst ho
      have e1 : a.tmps.getD 1 undef = .pointer (some ⟨w.heap.size, 0, none⟩) := hF.2.2 1 (.inl (by decide))
      refine Does.plain rfl ?_
      unfold yieldsK
      go_simp
      exact ⟨rfl, Keep.refl _ _⟩
    by_cases h3 : i = 3
    · subst h3
      simp only [List.getElem?_toArray, List.getElem?_cons_zero, List.getElem?_cons_succ, Option.some.injEq] at ho
      subst ho
      have e5 : a.tmps.getD 5 undef = .pointer (some ⟨w.heap.size, 0, none⟩) := hA ⟨2, .data⟩ (by simp) rfl
      have c0 := Keep.cell hK q0 id
      refine Does.plain rfl ?_
      unfold yieldsK
      go_simp
      exact ⟨rfl, Keep.refl _ _⟩
    by_cases h4 : i = 4
    · subst h4
      simp only [List.getElem?_toArray, List.getElem?_cons_zero, List.getElem?_cons_succ, Option.some.injEq] at ho
      subst ho
      have e6 : a.tmps.getD 6 undef = .string S := hA ⟨3, .data⟩ (by simp) rfl
      refine Does.plain rfl ?_
      unfold yieldsK
      go_simp
      refine (passesStr_any 120 S w').mono ?_
      rintro e w2 ⟨u, rfl, h1, h2⟩
      exact ⟨_, rfl, h1, h2⟩
    by_cases h5 : i = 5
    · subst h5
      simp only [List.getElem?_toArray, List.getElem?_cons_zero, List.getElem?_cons_succ, Option.some.injEq] at ho
      subst ho
      have e1 : a.tmps.getD 1 undef = .pointer (some ⟨w.heap.size, 0, none⟩) := hF.2.2 1 (.inl (by decide))
      refine Does.plain rfl ?_
      unfold yieldsK
      go_simp
      exact ⟨rfl, Keep.refl _ _⟩
    by_cases h6 : i = 6
    · subst h6
      simp only [List.getElem?_toArray, List.getElem?_cons_zero, List.getElem?_cons_succ, Option.some.injEq] at ho
      subst ho
      have e8 : a.tmps.getD 8 undef = .pointer (some ⟨w.heap.size, 1, none⟩) := hA ⟨5, .data⟩ (by simp) rfl
      have c1 := Keep.cell hK q1 id
      have c2 := Keep.cell hK q2 id
      refine Does.plain rfl ?_
      unfold yieldsK
      go_simp
      exact ⟨rfl, Keep.refl _ _⟩
    by_cases h7 : i = 7
    · subst h7
      simp only [List.getElem?_toArray, List.getElem?_cons_zero, List.getElem?_cons_succ, Option.some.injEq] at ho
      subst ho
      have e9 : a.tmps.getD 9 undef = .agg #[.slice A na ca, .slice B nb cb] := hA ⟨6, .data⟩ (by simp) rfl
      refine Does.plain rfl ?_
      unfold yieldsK
      go_simp
      refine (passesSig_any 122 (.slice A na ca) (.slice B nb cb) w').mono ?_
      rintro e w2 ⟨u, rfl, h1, h2⟩
      exact ⟨_, rfl, h1, h2⟩
    by_cases h8 : i = 8
    · subst h8
      simp only [List.getElem?_toArray, List.getElem?_cons_zero, List.getElem?_cons_succ, Option.some.injEq] at ho
      subst ho
      have e1 : a.tmps.getD 1 undef = .pointer (some ⟨w.heap.size, 0, none⟩) := hF.2.2 1 (.inl (by decide))
      refine Does.plain rfl ?_
      unfold yieldsK
      go_simp
      exact ⟨rfl, Keep.refl _ _⟩
    by_cases h9 : i = 9
    · subst h9
      simp only [List.getElem?_toArray, List.getElem?_cons_zero, List.getElem?_cons_succ, Option.some.injEq] at ho
      subst ho
      have e11 : a.tmps.getD 11 undef = .pointer (some ⟨w.heap.size, 3, none⟩) := hA ⟨8, .data⟩ (by simp) rfl
      have c3 := Keep.cell hK q3 id
      refine Does.plain rfl ?_
      unfold yieldsK
      go_simp
      exact ⟨rfl, Keep.refl _ _⟩
    by_cases h10 : i = 10
    · subst h10
      simp only [List.getElem?_toArray, List.getElem?_cons_zero, List.getElem?_cons_succ, Option.some.injEq] at ho
      subst ho
      have e12 : a.tmps.getD 12 undef = .slice L nl cl := hA ⟨9, .data⟩ (by simp) rfl
      refine Does.plain rfl ?_
      unfold yieldsK
      go_simp
      refine (taking_any L nl cl w').mono ?_
      rintro e w2 ⟨rfl, h2⟩
      exact ⟨_, rfl, rfl, h2⟩
    by_cases h11 : i = 11
    · subst h11
      simp only [List.getElem?_toArray, List.getElem?_cons_zero, List.getElem?_cons_succ, Option.some.injEq] at ho
      subst ho
      have e13 : a.tmps.getD 13 undef = .agg #[.slice L nl cl, .slice none 0 0] := hA ⟨10, .data⟩ (by simp) rfl
      refine Does.plain rfl ?_
      unfold yieldsK
      go_simp
      refine (passesSig_any 122 (.slice L nl cl) (.slice none 0 0) w').mono ?_
      rintro e w2 ⟨u, rfl, h1, h2⟩
      exact ⟨_, rfl, h1, h2⟩
    by_cases h12 : i = 12
    · subst h12
      simp only [List.getElem?_toArray, List.getElem?_cons_zero, List.getElem?_cons_succ, Option.some.injEq] at ho
      subst ho
      have e1 : a.tmps.getD 1 undef = .pointer (some ⟨w.heap.size, 0, none⟩) := hF.2.2 1 (.inl (by decide))
      refine Does.plain rfl ?_
      unfold yieldsK
      go_simp
      exact ⟨rfl, Keep.refl _ _⟩
    by_cases h13 : i = 13
    · subst h13
      simp only [List.getElem?_toArray, List.getElem?_cons_zero, List.getElem?_cons_succ, Option.some.injEq] at ho
      subst ho
      have e15 : a.tmps.getD 15 undef = .pointer (some ⟨w.heap.size, 4, none⟩) := hA ⟨12, .data⟩ (by simp) rfl
      have c4 := Keep.cell hK q4 id
      refine Does.plain rfl ?_
      unfold yieldsK
      go_simp
      exact ⟨rfl, Keep.refl _ _⟩
    by_cases h14 : i = 14
    · subst h14
      simp only [List.getElem?_toArray, List.getElem?_cons_zero, List.getElem?_cons_succ, Option.some.injEq] at ho
      subst ho
      have e16 : a.tmps.getD 16 undef = .slice D nd cd := hA ⟨13, .data⟩ (by simp) rfl
      refine Does.plain rfl ?_
      unfold yieldsK
      go_simp
      refine (passesBod_any 125 D nd cd w').mono ?_
      rintro e w2 ⟨u, rfl, h1, h2⟩
      exact ⟨_, rfl, h1, h2⟩
    by_cases h15 : i = 15
    · subst h15
      simp only [List.getElem?_toArray, List.getElem?_cons_zero, List.getElem?_cons_succ, Option.some.injEq] at ho
      subst ho
      obtain ⟨c0, p0, e4, a0, b0⟩ := hA ⟨1, .data⟩ (by simp) rfl
      have e4 : a.tmps.getD 4 undef = askV 160 #[.pointer (some ⟨c0, 0, none⟩), .pointer (some ⟨p0, 0, none⟩)] := e4
      obtain ⟨c1, p1, e7, a1, b1⟩ := hA ⟨4, .data⟩ (by simp) rfl
      have e7 : a.tmps.getD 7 undef = askV 161 #[.pointer (some ⟨c1, 0, none⟩), .pointer (some ⟨p1, 0, none⟩)] := e7
      obtain ⟨c2, p2, e10, a2, b2⟩ := hA ⟨7, .data⟩ (by simp) rfl
      have e10 : a.tmps.getD 10 undef = askV 164 #[.pointer (some ⟨c2, 0, none⟩), .pointer (some ⟨p2, 0, none⟩)] := e10
      obtain ⟨c3, p3, e14, a3, b3⟩ := hA ⟨11, .data⟩ (by simp) rfl
      have e14 : a.tmps.getD 14 undef = askV 164 #[.pointer (some ⟨c3, 0, none⟩), .pointer (some ⟨p3, 0, none⟩)] := e14
      obtain ⟨c4, p4, e17, a4, b4⟩ := hA ⟨14, .data⟩ (by simp) rfl
      have e17 : a.tmps.getD 17 undef = askV 166 #[.pointer (some ⟨c4, 0, none⟩), .pointer (some ⟨p4, 0, none⟩)] := e17
      refine Does.plain rfl ?_
      unfold yieldsK
      unfold askV at *
      simp only [Array.getD_eq_getD_getElem?] at e4 e7 e10 e14 e17
      go_simp
      refine ⟨⟨w'.heap.size, _, _, _, _, _, rfl, Blk.new _ _ _, ⟨c0, p0, rfl, a0.alloc _, b0.alloc _⟩, ⟨c1, p1, rfl, a1.alloc _, b1.alloc _⟩, ⟨c2, p2, rfl, a2.alloc _, b2.alloc _⟩, ⟨c3, p3, rfl, a3.alloc _, b3.alloc _⟩, ⟨c4, p4, rfl, a4.alloc _, b4.alloc _⟩⟩, (Keep.refl _ _).alloc _⟩
    by_cases h16 : i = 16
    · subst h16
      simp only [List.getElem?_toArray, List.getElem?_cons_zero, List.getElem?_cons_succ, Option.some.injEq] at ho
      subst ho
      obtain ⟨g, u0, u1, u2, u3, u4, e18, hb, a0, a1, a2, a3, a4⟩ := hA ⟨15, .data⟩ (by simp) rfl
      have e18 : a.tmps.getD 18 undef = .slice (some ⟨g, 0, none⟩) 5 5 := e18
      refine Does.plain rfl ?_
      unfold yieldsK
      go_simp
      refine (HE.out w' (HF.out.keepN hK) g u0 u1 u2 u3 u4 hb a0 a1 a2 a3 a4).mono ?_
      rintro e w2 ⟨rfl, h2⟩
      exact ⟨_, rfl, rfl, h2⟩
    by_cases h17 : i = 17
    · subst h17
      simp only [List.getElem?_toArray, List.getElem?_cons_zero, List.getElem?_cons_succ, Option.some.injEq] at ho
      subst ho
      have e19 : a.tmps.getD 19 undef = .bool (okF f) := hA ⟨16, .data⟩ (by simp) rfl
      refine Does.plain rfl ?_
      unfold yieldsK
      go_simp
      exact ⟨rfl, Keep.refl _ _⟩
    omega
  case spec =>
    intro o a w' ho
    simp at ho
  case fin =>
    intro a w' hF gK hA
    have e20 : a.tmps.getD (3 + 17) undef = .bool (!okF f) := hA 17 (by decide)
    have ha := frame_fill (n := 18) hF (of_decide_eq_true rfl)
    rw [ha]
    rw [show List.range 18 = [0, 1, 2, 3, 4, 5, 6, 7, 8, 9, 10, 11, 12, 13, 14, 15, 16, 17] from rfl]
    simp only [List.map_cons, List.map_nil, e20]
    generalize a.tmps.getD (3 + 0) undef = u0
    generalize a.tmps.getD (3 + 1) undef = u1
    generalize a.tmps.getD (3 + 2) undef = u2
    generalize a.tmps.getD (3 + 3) undef = u3
    generalize a.tmps.getD (3 + 4) undef = u4
    generalize a.tmps.getD (3 + 5) undef = u5
    generalize a.tmps.getD (3 + 6) undef = u6
    generalize a.tmps.getD (3 + 7) undef = u7
    generalize a.tmps.getD (3 + 8) undef = u8
    generalize a.tmps.getD (3 + 9) undef = u9
    generalize a.tmps.getD (3 + 10) undef = u10
    generalize a.tmps.getD (3 + 11) undef = u11
    generalize a.tmps.getD (3 + 12) undef = u12
    generalize a.tmps.getD (3 + 13) undef = u13
    generalize a.tmps.getD (3 + 14) undef = u14
    generalize a.tmps.getD (3 + 15) undef = u15
    generalize a.tmps.getD (3 + 16) undef = u16
    simp only [fillT, List.setIfInBounds_toArray, List.set_cons_zero, List.set_cons_succ]
    have HR := Lib.hid (keepN k0 gK)
    clear gK k0 hA hF ha e20 HE HF HX q0 q1 q2 q3 q4
    cases ho : okF f
    · obtain rfl : 70 = R := by rw [← hR.out]; exact (chkF_no ho).symm
      clear hR ho
      go_wp2
      go_ret
      exact ⟨rfl, HR.out⟩
    · obtain rfl : 0 = R := by rw [← hR.out]; exact (chkF_ok ho).symm
      clear hR ho
      go_wp2
      go_ret
      exact ⟨rfl, HR.out⟩

end Go.Proofs.YtgifflfjhockaaaGreatDoor.F

namespace Go.Proofs.YtgifflfjhockaaaGreatDoor.F
open Go.RowKit W

set_option maxRecDepth 100000 in
set_option maxHeartbeats 4000000 in
theorem great_no (v : FV) (w : World) (hs : SmF v) : Calls Tryz.prog 33 #[v.val] w fun e w' => e = .returned (.int .i64 0) ∧ Keep NoB w w' := by
  obtain ⟨s0, A, na, ca, B, nb, cb, L, nl, cl, D, nd, cd⟩ := v
  obtain ⟨h1, h2, h3, h4, h5⟩ := hs
  dsimp only at h1 h2 h3 h4 h5
  have k0 := (Keep.refl NoB w).alloc (.cells (FV.cells ⟨s0, A, na, ca, B, nb, cb, L, nl, cl, D, nd, cd⟩) 61)
  have HG := Lib.hid (fun w => S.great_no none A B 0 0 na ca nb cb w (Nat.zero_le _) h2 h3)
  unfold FV.val FV.cells at *
  go_enter Tryz.func33, Tryz.ntmps33
  go_wp2_with (go_at_call 68; refine (HG.out _).mono ?_; rintro e w1 ⟨rfl, k1⟩)
  go_ret
  exact ⟨rfl, keepN k0 k1⟩
theorem not_small {v : FV} (hs : ¬ SmF v) : 100 < v.S.size ∨ (v.S.size ≤ 100 ∧ 100 < v.nl) ∨ (v.S.size ≤ 100 ∧ v.nl ≤ 100 ∧ 600 < v.nd) ∨ (v.S.size ≤ 100 ∧ v.nl ≤ 100 ∧ v.nd ≤ 600 ∧ ¬ (0 ≤ 100 ∧ v.na ≤ 100 ∧ v.nb ≤ 100)) := by
  by_cases h1 : v.S.size ≤ 100
  · by_cases h2 : v.nl ≤ 100
    · by_cases h3 : v.nd ≤ 600
      · exact .inr (.inr (.inr ⟨h1, h2, h3, fun h => hs ⟨h1, h.2.1, h.2.2, h2, h3⟩⟩))
      · exact .inr (.inr (.inl ⟨h1, h2, by omega⟩))
    · exact .inr (.inl ⟨h1, by omega⟩)
  · exact .inl (by omega)
set_option maxRecDepth 100000 in
set_option maxHeartbeats 4000000 in
theorem great_yes (v : FV) (w : World) (hs : ¬ SmF v) : Calls Tryz.prog 33 #[v.val] w fun e w' => e = .returned (.int .i64 1) ∧ Keep NoB w w' := by
  have hn := not_small hs
  obtain ⟨s0, A, na, ca, B, nb, cb, L, nl, cl, D, nd, cd⟩ := v
  dsimp only at hn
  have k0 := (Keep.refl NoB w).alloc (.cells (FV.cells ⟨s0, A, na, ca, B, nb, cb, L, nl, cl, D, nd, cd⟩) 61)
  unfold FV.val FV.cells at *
  clear hs
  rcases hn with h1 | ⟨h1, h2⟩ | ⟨h1, h2, h3⟩ | ⟨h1, h2, h3, h4⟩
  · go_enter Tryz.func33, Tryz.ntmps33
    go_wp2
    go_ret
    exact ⟨rfl, k0⟩
  · go_enter Tryz.func33, Tryz.ntmps33
    go_wp2
    go_ret
    exact ⟨rfl, k0⟩
  · go_enter Tryz.func33, Tryz.ntmps33
    go_wp2
    go_ret
    exact ⟨rfl, k0⟩
  · have HG := Lib.hid (fun w => S.great_yes none A B 0 0 na ca nb cb w h4)
    clear h4
    go_enter Tryz.func33, Tryz.ntmps33
    go_wp2_with (go_at_call 68; refine (HG.out _).mono ?_; rintro e w1 ⟨rfl, k1⟩)
    go_ret
    exact ⟨rfl, keepN k0 k1⟩

theorem fun_size : (Tryz.prog.info? 61).map (·.size) = some 5 := by kernel_rfl
theorem ret_fun {fn : Func} {p : Tmp} {tmps : Array Value} {w : World} {g : Nat} {v : FV} (h : fn.results = #[.cell p 61]) (hp : tmps.getD p undef = .pointer (some ⟨g, 0, none⟩)) (hb : Blk w g 61 v.cells) :
    (results fn tmps).run Tryz.prog w = .ok v.val w :=
  results_cell_row h tmps w g 61 v.cells (0, 0) _ hp hb Tryz.underlying61 rfl fun_size

/-- A function that is small, and reads as one. -/
def FnV (f : Fu) (v : FV) (w : World) : Prop := FnAt w v f ∧ SmF v
theorem FnV.keepN {f : Fu} {v : FV} {w w' : World} (h : FnV f v w) (hk : Keep NoB w w') : FnV f v w' := ⟨h.1.keepN hk, h.2⟩
end Go.Proofs.YtgifflfjhockaaaGreatDoor.F

namespace Go.Proofs.YtgifflfjhockaaaGreatDoor.C
open Go.RowKit O

end Go.Proofs.YtgifflfjhockaaaGreatDoor.C

namespace Go.Proofs.YtgifflfjhockaaaGreatDoor.C
open Go.RowKit O

/-! ### counts -/
/-! ### stretches -/
end Go.Proofs.YtgifflfjhockaaaGreatDoor.C

namespace Go.Proofs.YtgifflfjhockaaaGreatDoor.C
open Go.RowKit O

theorem instr_info : (Tryz.prog.info? 63).map (fun i => (i.zero, i.size, i.bytes)) = some (some (.agg #[.int .i64 0, .int .i64 0, .int .i64 0]), 3, 24) := by kernel_rfl
end Go.Proofs.YtgifflfjhockaaaGreatDoor.C

namespace Go.Proofs.YtgifflfjhockaaaGreatDoor.C
open Go.RowKit O

/-- A new row that has the cells. -/
def RowV (w0 : World) (k : Nat) (ys : List Value) (v : Value) (w : World) : Prop := Own w 63 3 (Fresh w0) v k ys
theorem RowV.stable (w0 : World) (k : Nat) (ys : List Value) (v : Value) : StableI (RowV w0 k ys v) := fun _ _ h hk => Own.keepN h hk

end Go.Proofs.YtgifflfjhockaaaGreatDoor.C

namespace Go.Proofs.YtgifflfjhockaaaGreatDoor.C
open Go.RowKit O

/-- The first ones of a block that is known whole, as a row with room. -/
theorem row_take {w : World} {g n k : Nat} {cs : List I3} (h : Blk w g 63 (iis cs).toArray) (hn : cs.length = n) (hk : k ≤ n) (h5 : n ≤ 512) : w.ownsRow 0 63 3 (.slice (some ⟨g, 0, none⟩) k n) k (iis (cs.take k)) := by
  refine ⟨by rw [iis_length, List.length_take]; omega, .inr ⟨g, n, (iis cs).toArray, rfl, Nat.zero_le _, h, hk, by unfold maxLen; omega, by simp [iis_length, hn], ?_⟩⟩
  show (iis cs).take (k * 3) = _
  exact iis_take cs k

end Go.Proofs.YtgifflfjhockaaaGreatDoor.C

namespace Go.Proofs.YtgifflfjhockaaaGreatDoor.O
open Go.RowKit

theorem num_case (l : List UInt8) (p M : Nat) : ∃ n r q : Nat, V.NumR l p M = (n, r, q) ∧ (r = 0 → n ≤ M ∧ n < 18446744073709551616) ∧ (r ≠ 0 → n = 0) := by
  refine ⟨_, _, _, rfl, fun h => ?_, fun h => ?_⟩
  · have := num_ok (l := l) (p := p) (m := M) h; exact ⟨this.2.1, this.2.2.1⟩
  · exact (V.bnd_zero (l.drop p) M h).1
theorem hi_nat {k : Int} (h1 : k ≠ 1) : ∃ M : Nat, hi k = (M : Int) ∧ M ≤ 511 := by
  refine ⟨(hi k).toNat, ?_, ?_⟩ <;> unfold hi <;> rw [if_neg h1] <;> repeat' split
  all_goals simp
theorem keepBr {w w1 w2 : World} {br : Nat} (h : Keep NoB w w1) (h2 : Keep (fun k => k = br) w1 w2) : Keep (fun k => k = br) w w2 := (h.mono (fun _ hf _ => hf.elim)).trans h2 (fun _ ho _ => ho)
theorem blk5 {w : World} {g : Nat} {t : TypeId} {a0 a1 a2 a3 a4 : Value} (h : Blk w g t #[a0, a1, a2, a3, a4]) :
    w.cell? ⟨g, 0, none⟩ = some a0 ∧ w.cell? ⟨g, 1, none⟩ = some a1 ∧ w.cell? ⟨g, 2, none⟩ = some a2 ∧ w.cell? ⟨g, 3, none⟩ = some a3 ∧ w.cell? ⟨g, 4, none⟩ = some a4 := ⟨h.cell 0, h.cell 1, h.cell 2, h.cell 3, h.cell 4⟩
theorem reel_lt {w : World} {br p : Nat} {O : Nat → Prop} {l : List UInt8} (h : V.ReelAt w br O l p) : br < w.heap.size := by
  obtain ⟨A, c, hb, _⟩ := h.cells
  exact hb.lt

set_option maxHeartbeats 2000000 in
theorem read_any (k : Int) (sh gu : Value) (w : World) (br : Nat) (O : Nat → Prop) (l : List UInt8) (p : Nat) (h : V.ReelAt w br O l p) (hlen : l.length ≤ 140737488355328) :
    Calls Tryz.prog 199 #[opV k sh gu, .pointer (some ⟨br, 0, none⟩)] w (V.Reads w br O l (decP k l p).2.2 (.int .i64 (decP k l p).1) (decP k l p).2.1) := by
  have hK := (Keep.refl NoB w).alloc (.cells #[.int .i64 k, .int .i64 (lo k), .int .i64 (hi k), sh, gu] 268)
  have h1 := h.keep hK (fun _ _ => id)
  have hb0 := Blk.new w 268 #[.int .i64 k, .int .i64 (lo k), .int .i64 (hi k), sh, gu]
  have hbr := reel_lt h
  unfold opV
  by_cases h0 : k = 0
  · subst h0
    have HX : Hid (decP 0 l p = (0, 0, p)) := rfl
    clear hb0 hbr
    go_enter Tryz.func199, Tryz.ntmps199
    go_wp2
    go_ret2
    rw [HX.out]
    exact ⟨rfl, h1, hK.mono (fun _ hf _ => hf.elim)⟩
  · have q0 : (k == 0) = false := by rw [beq_eq_false_iff_ne]; exact h0
    by_cases h1k : k = 1
    · subst h1k
      have HS := Lib.hid (V.rsigned_any _ br O l p (lo 1) (hi 1) h1 hlen)
      have HX : Hid (decP 1 l p = V.SigR l p (lo 1) (hi 1)) := rfl
      rw [HX.out]
      generalize V.SigR l p (lo 1) (hi 1) = x at HS ⊢
      clear HX h h1 hb0 hbr
      go_enter Tryz.func199, Tryz.ntmps199
      go_wp2_with fail
      refine HS.out.mono ?_
      rintro e w1 ⟨rfl, h2, k2⟩
      go_wp2
      go_ret2
      exact ⟨rfl, h2, keepBr hK k2⟩
    · have q1 : (k == 1) = false := by rw [beq_eq_false_iff_ne]; exact h1k
      obtain ⟨M, hM, hM5⟩ := hi_nat h1k
      have hw : IntKind.u64.wrap (M : Int) = (M : Int) := by simp [IntKind.wrap, IntKind.bits, IntKind.signed]; omega
      have HS := Lib.hid (V.rnumber_any _ br O l p M h1 hlen)
      obtain ⟨n, r, q, hN, hN0, hN1⟩ := num_case l p M
      have HX : Hid (decP k l p = if r ≠ 0 then (0, r, q) else if inK k n = true then ((n : Int), 0, q) else (0, 40, q)) := by
        show _ = _
        unfold decP
        rw [if_neg h0, if_neg h1k, show (hi k).toNat = M by omega, hN]
      rw [hN] at HS
      have HG := Lib.hid (fun w t ht => has_gen k (n : Int) (opV k sh gu) t w ht ⟨sh, gu, rfl⟩)
      unfold opV at HG
      rw [hM] at hb0 HG HS ⊢
      have hK' : Keep NoB w (w.alloc (.cells #[.int .i64 k, .int .i64 (lo k), .int .i64 (M : Int), sh, gu] 268)) := (Keep.refl NoB w).alloc _
      clear h h1 hK hN hM
      by_cases hr : r = 0
      · subst hr
        obtain ⟨hn1, hn2⟩ := hN0 rfl
        have hwn : IntKind.i64.wrap (n : Int) = (n : Int) := by simp [IntKind.wrap, IntKind.bits, IntKind.signed]; omega
        clear hN0 hN1
        cases hin : inK k (n : Int)
        · have HX2 : Hid (decP k l p = (0, 40, q)) := by show _ = _; rw [HX.out, hin]; simp
          have HH := Lib.hid (fun w => HG.out w false hin)
          clear HX HG hin
          go_enter Tryz.func199, Tryz.ntmps199
          go_wp2_with fail
          refine HS.out.mono ?_
          rintro e w1 ⟨rfl, h2, k2⟩
          have b1 := hb0.keep k2 (fun e => by omega)
          obtain ⟨c0, c1, c2, c3, c4⟩ := blk5 b1
          go_wp2_with fail
          refine (HH.out _).mono ?_
          rintro e w2 ⟨rfl, k3⟩
          go_wp2
          go_ret2
          rw [HX2.out]
          exact ⟨rfl, h2.keep k3 (fun _ _ => id), (keepBr hK' k2).trans (k3.mono (fun _ hf _ => hf.elim)) (fun _ ho _ => ho)⟩
        · have HX2 : Hid (decP k l p = ((n : Int), 0, q)) := by show _ = _; rw [HX.out, hin]; simp
          have HH := Lib.hid (fun w => HG.out w true hin)
          clear HX HG hin
          go_enter Tryz.func199, Tryz.ntmps199
          go_wp2_with fail
          refine HS.out.mono ?_
          rintro e w1 ⟨rfl, h2, k2⟩
          have b1 := hb0.keep k2 (fun e => by omega)
          obtain ⟨c0, c1, c2, c3, c4⟩ := blk5 b1
          go_wp2_with fail
          refine (HH.out _).mono ?_
          rintro e w2 ⟨rfl, k3⟩
          go_wp2
          go_ret2
          rw [HX2.out]
          exact ⟨rfl, h2.keep k3 (fun _ _ => id), (keepBr hK' k2).trans (k3.mono (fun _ hf _ => hf.elim)) (fun _ ho _ => ho)⟩
      · have hr1 : ((r : Int) != 0) = true := by rw [bne_iff_ne]; omega
        have HX2 : Hid (decP k l p = (0, r, q)) := by show _ = _; rw [HX.out, if_pos hr]
        clear HX HG hN0 hN1 hr
        go_enter Tryz.func199, Tryz.ntmps199
        go_wp2_with fail
        refine HS.out.mono ?_
        rintro e w1 ⟨rfl, h2, k2⟩
        have b1 := hb0.keep k2 (fun e => by omega)
        obtain ⟨c0, c1, c2, c3, c4⟩ := blk5 b1
        go_wp2
        go_ret2
        rw [HX2.out]
        exact ⟨rfl, h2, keepBr hK' k2⟩

/-! ### Decode -/

/-- What Decode leaves. -/
def DecR (w : World) (br : Nat) (O : Nat → Prop) (l : List UInt8) (d : Dec) (e : Ending) (w' : World) : Prop :=
  e = .returned (.tuple #[instV d.op d.a d.b, .int .i64 d.er]) ∧ V.ReelAt w' br O l d.pl ∧ Keep (fun k => k = br) w w'
theorem dec_case (k : Int) (l : List UInt8) (p : Nat) : ∃ (a : Int) (r q : Nat), decP k l p = (a, r, q) := ⟨_, _, _, rfl⟩
theorem read_at (k : Int) (v : Value) (w : World) (br : Nat) (O : Nat → Prop) (l : List UInt8) (p : Nat) (a : Int) (r q : Nat) (hd : decP k l p = (a, r, q)) (hv : ∃ sh gu, v = opV k sh gu) (h : V.ReelAt w br O l p) (hlen : l.length ≤ 140737488355328) :
    Calls Tryz.prog 199 #[v, .pointer (some ⟨br, 0, none⟩)] w (V.Reads w br O l q (.int .i64 a) r) := by
  obtain ⟨sh, gu, rfl⟩ := hv
  have := read_any k sh gu w br O l p h hlen
  rw [hd] at this
  exact this
theorem out3 {w w1 : World} {br B : Nat} (hk : Keep (fun k => k = br) w w1) (hB : w.heap.size ≤ B) (u0 u1 u2 : Value) : Keep (fun k => k = br) w (((w1.setCell ⟨B, 0, none⟩ u0).setCell ⟨B, 1, none⟩ u1).setCell ⟨B, 2, none⟩ u2) := by
  have hn : ∀ i, (⟨B, i, none⟩ : Addr).block < w.heap.size → (⟨B, i, none⟩ : Addr).block = br := fun i hl => by have : B < w.heap.size := hl; omega
  exact ((hk.setCell (hn 0) _).setCell (hn 1) _).setCell (hn 2) _
theorem reel3 {w : World} {br B p : Nat} {O : Nat → Prop} {l : List UInt8} (h : V.ReelAt w br O l p) (hB : ¬ O B) (u0 u1 u2 : Value) : V.ReelAt (((w.setCell ⟨B, 0, none⟩ u0).setCell ⟨B, 1, none⟩ u1).setCell ⟨B, 2, none⟩ u2) br O l p := by
  have hs : ∀ (w : World) i u, V.ReelAt w br O l p → V.ReelAt (w.setCell ⟨B, i, none⟩ u) br O l p := fun w i u h =>
    h.keep (O' := fun k => k = B) (Keep.setCell (O := fun k => k = B) (p := ⟨B, i, none⟩) (Keep.refl _ w) (fun _ => rfl) u) (fun k ho e => hB (e ▸ ho))
  exact hs _ 2 u2 (hs _ 1 u1 (hs _ 0 u0 h))
set_option maxHeartbeats 2000000 in
theorem decode_any (w : World) (br : Nat) (O : Nat → Prop) (l : List UInt8) (p : Nat) (hO : ∀ k, O k → k < w.heap.size) (h : V.ReelAt w br O l p) (hlen : l.length ≤ 140737488355328) :
    Calls Tryz.prog 183 #[.pointer (some ⟨br, 0, none⟩)] w (DecR w br O l (decI l p)) := by
  have hK := (Keep.refl NoB w).alloc (.cells #[.int .i64 0, .int .i64 0, .int .i64 0] 63)
  have h1 := h.keep hK (fun _ _ => id)
  have hb0 := Blk.new w 63 #[.int .i64 0, .int .i64 0, .int .i64 0]
  have hnB : ¬ O w.heap.size := fun ho => by have := hO _ ho; omega
  have hbr := reel_lt h
  have HS := Lib.hid (V.rnumber_any _ br O l p 29 h1 hlen)
  obtain ⟨n, r, q, hN, hN0, hN1⟩ := num_case l p 29
  rw [hN] at HS
  clear h h1 hO
  by_cases hr : r = 0
  · subst hr
    obtain ⟨hn1, hn2⟩ := hN0 rfl
    have hwn : IntKind.i64.wrap (n : Int) = (n : Int) := by simp [IntKind.wrap, IntKind.bits, IntKind.signed]; omega
    have hkk := kinds_ok (n : Int)
    have HKn := Lib.hid (fun w => kinds_any (n : Int) w)
    obtain ⟨a, r1, q1, hA⟩ := dec_case (rowAt n).ka l q
    have HOA := Lib.hid (fun w => op_gen (rowAt n).ka ⟨hkk.1, hkk.2.1⟩ w)
    have HRA := Lib.hid (fun v hv w h => read_at (rowAt n).ka v w br O l q a r1 q1 hA hv h hlen)
    have HOB := Lib.hid (fun w => op_gen (rowAt n).kb ⟨hkk.2.2.1, hkk.2.2.2⟩ w)
    have HDB := Lib.hid (fun p => dec_case (rowAt n).kb l p)
    have HRB := Lib.hid (fun p b r2 q2 hB v hv w h => read_at (rowAt n).kb v w br O l p b r2 q2 hB hv h hlen)
    have HD2 := Lib.hid (fun hr => decI_2 (l := l) (p := p) hN hA hr)
    have HD3 := Lib.hid (fun (hr : r1 = 0) b r2 q2 hB hr2 => decI_3 (l := l) (p := p) (b := b) (r2 := r2) (q2 := q2) hN (by rw [hA, hr]) hB hr2)
    have HD4 := Lib.hid (fun (hr : r1 = 0) b q2 hB => decI_4 (l := l) (p := p) (b := b) (q2 := q2) hN (by rw [hA, hr]) hB)
    clear hN0 hN1 hkk hA hN
    generalize (rowAt (n : Int)).ka = ka at *
    generalize (rowAt (n : Int)).kb = kb at *
    go_enter Tryz.func183, Tryz.ntmps183
    go_wp2_with fail
    refine HS.out.mono ?_
    rintro e w1 ⟨rfl, h2, k2⟩
    replace hb0 := hb0.keep k2 (fun e => by omega)
    replace hK := keepBr hK k2
    clear k2
    go_wp2_with fail
    refine (HKn.out _).mono ?_
    rintro e w2 ⟨rfl, k2⟩
    replace hb0 := hb0.keep k2 id
    replace hK := hK.trans (k2.mono (fun _ hf _ => hf.elim)) (fun _ ho _ => ho)
    replace h2 := h2.keep k2 (fun _ _ => id)
    clear k2
    go_wp2_with fail
    refine (HOA.out _).mono ?_
    rintro e w3 ⟨u, rfl, hu, k2⟩
    replace hb0 := hb0.keep k2 id
    replace hK := hK.trans (k2.mono (fun _ hf _ => hf.elim)) (fun _ ho _ => ho)
    replace h2 := h2.keep k2 (fun _ _ => id)
    clear k2
    go_wp2_with fail
    refine (HRA.out u hu _ h2).mono ?_
    rintro e w4 ⟨rfl, h3, k2⟩
    replace hb0 := hb0.keep k2 (fun e => by omega)
    replace hK := hK.trans k2 (fun _ ho _ => ho)
    clear k2 h2 hu
    by_cases hr1 : r1 = 0
    · subst hr1
      obtain ⟨b, r2, q2, hB⟩ := HDB.out q1
      have HRB2 := Lib.hid (HRB.out q1 b r2 q2 hB)
      go_wp2_with fail
      refine (HOB.out _).mono ?_
      rintro e w5 ⟨u2, rfl, hu2, k2⟩
      replace hb0 := hb0.keep k2 id
      replace hK := hK.trans (k2.mono (fun _ hf _ => hf.elim)) (fun _ ho _ => ho)
      replace h3 := h3.keep k2 (fun _ _ => id)
      clear k2
      go_wp2_with fail
      refine (HRB2.out u2 hu2 _ h3).mono ?_
      rintro e w6 ⟨rfl, h4, k2⟩
      replace hb0 := hb0.keep k2 (fun e => by omega)
      replace hK := hK.trans k2 (fun _ ho _ => ho)
      clear k2 h3 hu2 HRB2 HRB
      have hz := hb0.lt
      have f0 := fun i => hb0.frozen i
      by_cases hr2 : r2 = 0
      · subst hr2
        have HX := Lib.hid (HD4.out (by first | rfl | trivial) b q2 hB)
        clear HD2 HD3 HD4 hB
        obtain ⟨x0, x1, x2⟩ := blk_inst hb0
        go_wp2
        refine bodyPost_ret (v := .tuple #[instV n a b, .int .i64 0]) (by simp [results, Tryz.results183, go_sem, x0, x1, x2]) rfl ?_
        rw [HX.out]
        exact ⟨rfl, reel3 h4 hnB _ _ _, out3 hK (Nat.le_refl _) _ _ _⟩
      · have HX := Lib.hid (HD3.out (by first | rfl | trivial) b r2 q2 hB hr2)
        have hr3 : ((r2 : Int) != 0) = true := by rw [bne_iff_ne]; omega
        clear HD2 HD3 HD4 hB hr2
        obtain ⟨x0, x1, x2⟩ := blk_inst hb0
        go_wp2
        refine bodyPost_ret (v := .tuple #[instV 0 0 0, .int .i64 r2]) (by simp [results, Tryz.results183, go_sem, x0, x1, x2]) rfl ?_
        rw [HX.out]
        exact ⟨rfl, reel3 h4 hnB _ _ _, out3 hK (Nat.le_refl _) _ _ _⟩
    · have HX := Lib.hid (HD2.out hr1)
      have hr3 : ((r1 : Int) != 0) = true := by rw [bne_iff_ne]; omega
      clear HD2 HD3 HD4 hr1 HOB HRB HDB HRA HOA
      have hz := hb0.lt
      have f0 := fun i => hb0.frozen i
      obtain ⟨x0, x1, x2⟩ := blk_inst hb0
      go_wp2
      refine bodyPost_ret (v := .tuple #[instV 0 0 0, .int .i64 r1]) (by simp [results, Tryz.results183, go_sem, x0, x1, x2]) rfl ?_
      rw [HX.out]
      exact ⟨rfl, reel3 h3 hnB _ _ _, out3 hK (Nat.le_refl _) _ _ _⟩
  · have HX := Lib.hid (decI_1 hN hr)
    have hr3 : ((r : Int) != 0) = true := by rw [bne_iff_ne]; omega
    clear hN0 hN1 hN hr
    go_enter Tryz.func183, Tryz.ntmps183
    go_wp2_with fail
    refine HS.out.mono ?_
    rintro e w1 ⟨rfl, h2, k2⟩
    replace hb0 := hb0.keep k2 (fun e => by omega)
    replace hK := keepBr hK k2
    clear k2
    have hz := hb0.lt
    have f0 := fun i => hb0.frozen i
    obtain ⟨x0, x1, x2⟩ := blk_inst hb0
    go_wp2
    refine bodyPost_ret (v := .tuple #[instV 0 0 0, .int .i64 r]) (by simp [results, Tryz.results183, go_sem, x0, x1, x2]) rfl ?_
    rw [HX.out]
    exact ⟨rfl, reel3 h2 hnB _ _ _, out3 hK (Nat.le_refl _) _ _ _⟩

end Go.Proofs.YtgifflfjhockaaaGreatDoor.O

namespace Go.Proofs.YtgifflfjhockaaaGreatDoor.O
open Go.RowKit

theorem ref_lt {w : World} {br p : Nat} {O : Nat → Prop} {l : List UInt8} (h : V.RefAt w br O l p) : br < w.heap.size := by
  obtain ⟨A, c, hb, _⟩ := h.cells
  exact hb.lt
theorem ref3 {w : World} {br B p : Nat} {O : Nat → Prop} {l : List UInt8} (h : V.RefAt w br O l p) (hB : ¬ O B) (u0 u1 u2 : Value) : V.RefAt (((w.setCell ⟨B, 0, none⟩ u0).setCell ⟨B, 1, none⟩ u1).setCell ⟨B, 2, none⟩ u2) br O l p := by
  have hs : ∀ (w : World) i u, V.RefAt w br O l p → V.RefAt (w.setCell ⟨B, i, none⟩ u) br O l p := fun w i u h =>
    h.keep (O' := fun k => k = B) (Keep.setCell (O := fun k => k = B) (p := ⟨B, i, none⟩) (Keep.refl _ w) (fun _ => rfl) u) (fun k ho e => hB (e ▸ ho))
  exact hs _ 2 u2 (hs _ 1 u1 (hs _ 0 u0 h))

set_option maxHeartbeats 2000000 in
theorem rone_any (k : Int) (w : World) (br : Nat) (O : Nat → Prop) (l : List UInt8) (p : Nat) (hk : 0 ≤ k ∧ k ≤ 10) (h : V.RefAt w br O l p) (hlen : l.length ≤ 140737488355328) :
    Calls Tryz.prog 188 #[.pointer (some ⟨br, 0, none⟩), .int .i64 k] w (V.RReads w br O l (decP k l p).2.2 (.int .i64 (decP k l p).1) (decP k l p).2.1) := by
  by_cases h0 : k = 0
  · subst h0
    have HX : Hid (decP 0 l p = (0, 0, p)) := rfl
    go_enter Tryz.func188, Tryz.ntmps188
    go_wp2
    go_ret2
    rw [HX.out]
    exact ⟨rfl, h, Keep.refl _ _⟩
  · have q0 : (k == 0) = false := by rw [beq_eq_false_iff_ne]; exact h0
    by_cases h1k : k = 1
    · subst h1k
      have HS := Lib.hid (V.refsigned_any _ br O l p (-9223372036854775808) 9223372036854775807 h hlen)
      have HX : Hid (decP 1 l p = V.SigR l p (-9223372036854775808) 9223372036854775807) := rfl
      rw [HX.out]
      generalize V.SigR l p (-9223372036854775808) 9223372036854775807 = x at HS ⊢
      clear HX h
      go_enter Tryz.func188, Tryz.ntmps188
      go_wp2_with fail
      refine HS.out.mono ?_
      rintro e w1 ⟨rfl, h2, k2⟩
      go_wp2
      go_ret2
      exact ⟨rfl, h2, k2⟩
    · have q1 : (k == 1) = false := by rw [beq_eq_false_iff_ne]; exact h1k
      obtain ⟨M, hM, hM5⟩ := hi_nat h1k
      have hw : IntKind.u64.wrap (M : Int) = (M : Int) := by simp [IntKind.wrap, IntKind.bits, IntKind.signed]; omega
      have HM := Lib.hid (fun w => rmost_any k w hk.1 hk.2 h1k)
      have HL := Lib.hid (fun w => rleast_any k w hk.1 hk.2 h1k)
      have HS := Lib.hid (fun w h => V.refnumber_any w br O l p M h hlen)
      obtain ⟨n, r, q, hN, hN0, hN1⟩ := num_case l p M
      have HX : Hid (decP k l p = if r ≠ 0 then (0, r, q) else if inK k n = true then ((n : Int), 0, q) else (0, 40, q)) := by
        show _ = _
        unfold decP
        rw [if_neg h0, if_neg h1k, show (hi k).toNat = M by omega, hN]
      rw [hN] at HS
      rw [hM] at HM
      by_cases hr : r = 0
      · subst hr
        obtain ⟨hn1, hn2⟩ := hN0 rfl
        have hwn : IntKind.i64.wrap (n : Int) = (n : Int) := by simp [IntKind.wrap, IntKind.bits, IntKind.signed]; omega
        have hiff : inK k (n : Int) = decide (lo k ≤ (n : Int)) := by
          unfold inK
          rw [decide_eq_decide, hM]
          omega
        rw [hiff] at HX
        clear hN0 hN1 hiff hN hM hk h0 h1k
        generalize lo k = L at HL HX
        by_cases hL : (n : Int) < L
        · have HX2 : Hid (decP k l p = (0, 40, q)) := by show _ = _; rw [HX.out, if_neg (by simp), if_neg (by simp; omega)]
          clear HX
          go_enter Tryz.func188, Tryz.ntmps188
          go_wp2_with fail
          refine (HM.out _).mono ?_
          rintro e w1 ⟨rfl, k1⟩
          go_wp2_with fail
          refine (HS.out _ (h.keep k1 (fun _ _ => id))).mono ?_
          rintro e w2 ⟨rfl, h2, k2⟩
          go_wp2_with fail
          refine (HL.out _).mono ?_
          rintro e w3 ⟨rfl, rfl⟩
          go_wp2
          go_ret2
          rw [HX2.out]
          exact ⟨rfl, h2, keepBr k1 k2⟩
        · have HX2 : Hid (decP k l p = ((n : Int), 0, q)) := by show _ = _; rw [HX.out, if_neg (by simp), if_pos (by simp; omega)]
          have hL' : decide ((n : Int) < L) = false := by simpa using hL
          clear HX hL
          go_enter Tryz.func188, Tryz.ntmps188
          go_wp2_with fail
          refine (HM.out _).mono ?_
          rintro e w1 ⟨rfl, k1⟩
          go_wp2_with fail
          refine (HS.out _ (h.keep k1 (fun _ _ => id))).mono ?_
          rintro e w2 ⟨rfl, h2, k2⟩
          go_wp2_with fail
          refine (HL.out _).mono ?_
          rintro e w3 ⟨rfl, rfl⟩
          go_wp2
          go_ret2
          rw [HX2.out]
          exact ⟨rfl, h2, keepBr k1 k2⟩
      · have hr1 : ((r : Int) != 0) = true := by rw [bne_iff_ne]; omega
        have HX2 : Hid (decP k l p = (0, r, q)) := by show _ = _; rw [HX.out, if_pos hr]
        clear HX hN0 hN1 hr hN hM hk h0 h1k HL
        go_enter Tryz.func188, Tryz.ntmps188
        go_wp2_with fail
        refine (HM.out _).mono ?_
        rintro e w1 ⟨rfl, k1⟩
        go_wp2_with fail
        refine (HS.out _ (h.keep k1 (fun _ _ => id))).mono ?_
        rintro e w2 ⟨rfl, h2, k2⟩
        go_wp2
        go_ret2
        rw [HX2.out]
        exact ⟨rfl, h2, keepBr k1 k2⟩

/-- What the document's Decode leaves. -/
def RDecR (w : World) (br : Nat) (O : Nat → Prop) (l : List UInt8) (d : Dec) (e : Ending) (w' : World) : Prop :=
  e = .returned (.tuple #[instV d.op d.a d.b, .int .i64 d.er]) ∧ V.RefAt w' br O l d.pl ∧ Keep (fun k => k = br) w w'
theorem rone_at (k : Int) (w : World) (br : Nat) (O : Nat → Prop) (l : List UInt8) (p : Nat) (a : Int) (r q : Nat) (hd : decP k l p = (a, r, q)) (hk : 0 ≤ k ∧ k ≤ 10) (h : V.RefAt w br O l p) (hlen : l.length ≤ 140737488355328) :
    Calls Tryz.prog 188 #[.pointer (some ⟨br, 0, none⟩), .int .i64 k] w (V.RReads w br O l q (.int .i64 a) r) := by
  have := rone_any k w br O l p hk h hlen
  rw [hd] at this
  exact this

set_option maxHeartbeats 2000000 in
theorem rdecode_any (w : World) (br : Nat) (O : Nat → Prop) (l : List UInt8) (p : Nat) (hO : ∀ k, O k → k < w.heap.size) (h : V.RefAt w br O l p) (hlen : l.length ≤ 140737488355328) :
    Calls Tryz.prog 146 #[.pointer (some ⟨br, 0, none⟩)] w (RDecR w br O l (decI l p)) := by
  have hK := (Keep.refl NoB w).alloc (.cells #[.int .i64 0, .int .i64 0, .int .i64 0] 63)
  have h1 := h.keep hK (fun _ _ => id)
  have hb0 := Blk.new w 63 #[.int .i64 0, .int .i64 0, .int .i64 0]
  have hnB : ¬ O w.heap.size := fun ho => by have := hO _ ho; omega
  have hbr := ref_lt h
  have HS := Lib.hid (V.refnumber_any _ br O l p 29 h1 hlen)
  obtain ⟨n, r, q, hN, hN0, hN1⟩ := num_case l p 29
  rw [hN] at HS
  clear h h1 hO
  by_cases hr : r = 0
  · subst hr
    obtain ⟨hn1, hn2⟩ := hN0 rfl
    have hwn : IntKind.i64.wrap (n : Int) = (n : Int) := by simp [IntKind.wrap, IntKind.bits, IntKind.signed]; omega
    have hkk := kinds_ok (n : Int)
    have HKn := Lib.hid (fun w => rkinds_any (n : Int) w)
    obtain ⟨a, r1, q1, hA⟩ := dec_case (rowAt n).ka l q
    have HRA := Lib.hid (fun w h => rone_at (rowAt n).ka w br O l q a r1 q1 hA ⟨hkk.1, hkk.2.1⟩ h hlen)
    have HDB := Lib.hid (fun p => dec_case (rowAt n).kb l p)
    have HRB := Lib.hid (fun p b r2 q2 hB w h => rone_at (rowAt n).kb w br O l p b r2 q2 hB ⟨hkk.2.2.1, hkk.2.2.2⟩ h hlen)
    have HD2 := Lib.hid (fun hr => decI_2 (l := l) (p := p) hN hA hr)
    have HD3 := Lib.hid (fun (hr : r1 = 0) b r2 q2 hB hr2 => decI_3 (l := l) (p := p) (b := b) (r2 := r2) (q2 := q2) hN (by rw [hA, hr]) hB hr2)
    have HD4 := Lib.hid (fun (hr : r1 = 0) b q2 hB => decI_4 (l := l) (p := p) (b := b) (q2 := q2) hN (by rw [hA, hr]) hB)
    clear hN0 hN1 hkk hA hN
    generalize (rowAt (n : Int)).ka = ka at *
    generalize (rowAt (n : Int)).kb = kb at *
    go_enter Tryz.func146, Tryz.ntmps146
    go_wp2_with fail
    refine HS.out.mono ?_
    rintro e w1 ⟨rfl, h2, k2⟩
    replace hb0 := hb0.keep k2 (fun e => by omega)
    replace hK := keepBr hK k2
    clear k2
    go_wp2_with fail
    refine (HKn.out _).mono ?_
    rintro e w2 ⟨rfl, rfl⟩
    go_wp2_with fail
    refine (HRA.out _ h2).mono ?_
    rintro e w4 ⟨rfl, h3, k2⟩
    replace hb0 := hb0.keep k2 (fun e => by omega)
    replace hK := hK.trans k2 (fun _ ho _ => ho)
    clear k2 h2
    by_cases hr1 : r1 = 0
    · subst hr1
      obtain ⟨b, r2, q2, hB⟩ := HDB.out q1
      have HRB2 := Lib.hid (HRB.out q1 b r2 q2 hB)
      go_wp2_with fail
      refine (HRB2.out _ h3).mono ?_
      rintro e w6 ⟨rfl, h4, k2⟩
      replace hb0 := hb0.keep k2 (fun e => by omega)
      replace hK := hK.trans k2 (fun _ ho _ => ho)
      clear k2 h3 HRB2 HRB
      have hz := hb0.lt
      have f0 := fun i => hb0.frozen i
      by_cases hr2 : r2 = 0
      · subst hr2
        have HX := Lib.hid (HD4.out (by first | rfl | trivial) b q2 hB)
        clear HD2 HD3 HD4 hB
        obtain ⟨x0, x1, x2⟩ := blk_inst hb0
        go_wp2
        refine bodyPost_ret (v := .tuple #[instV n a b, .int .i64 0]) (by simp [results, Tryz.results146, go_sem, x0, x1, x2]) rfl ?_
        rw [HX.out]
        exact ⟨rfl, ref3 h4 hnB _ _ _, out3 hK (Nat.le_refl _) _ _ _⟩
      · have HX := Lib.hid (HD3.out (by first | rfl | trivial) b r2 q2 hB hr2)
        have hr3 : ((r2 : Int) != 0) = true := by rw [bne_iff_ne]; omega
        clear HD2 HD3 HD4 hB hr2
        obtain ⟨x0, x1, x2⟩ := blk_inst hb0
        go_wp2
        refine bodyPost_ret (v := .tuple #[instV 0 0 0, .int .i64 r2]) (by simp [results, Tryz.results146, go_sem, x0, x1, x2]) rfl ?_
        rw [HX.out]
        exact ⟨rfl, ref3 h4 hnB _ _ _, out3 hK (Nat.le_refl _) _ _ _⟩
    · have HX := Lib.hid (HD2.out hr1)
      have hr3 : ((r1 : Int) != 0) = true := by rw [bne_iff_ne]; omega
      clear HD2 HD3 HD4 hr1 HRB HDB HRA
      have hz := hb0.lt
      have f0 := fun i => hb0.frozen i
      obtain ⟨x0, x1, x2⟩ := blk_inst hb0
      go_wp2
      refine bodyPost_ret (v := .tuple #[instV 0 0 0, .int .i64 r1]) (by simp [results, Tryz.results146, go_sem, x0, x1, x2]) rfl ?_
      rw [HX.out]
      exact ⟨rfl, ref3 h3 hnB _ _ _, out3 hK (Nat.le_refl _) _ _ _⟩
  · have HX := Lib.hid (decI_1 hN hr)
    have hr3 : ((r : Int) != 0) = true := by rw [bne_iff_ne]; omega
    clear hN0 hN1 hN hr
    go_enter Tryz.func146, Tryz.ntmps146
    go_wp2_with fail
    refine HS.out.mono ?_
    rintro e w1 ⟨rfl, h2, k2⟩
    replace hb0 := hb0.keep k2 (fun e => by omega)
    replace hK := keepBr hK k2
    clear k2
    have hz := hb0.lt
    have f0 := fun i => hb0.frozen i
    obtain ⟨x0, x1, x2⟩ := blk_inst hb0
    go_wp2
    refine bodyPost_ret (v := .tuple #[instV 0 0 0, .int .i64 r]) (by simp [results, Tryz.results146, go_sem, x0, x1, x2]) rfl ?_
    rw [HX.out]
    exact ⟨rfl, ref3 h2 hnB _ _ _, out3 hK (Nat.le_refl _) _ _ _⟩

end Go.Proofs.YtgifflfjhockaaaGreatDoor.O
