/-
  What DecodeSignature answers: the signature at a Reel's place. Conditions: the Reel reads bytes in memory, no more than 2^47.
  What the document's read of layer shape answers: the types at its Reel's place. Conditions: the Reel reads bytes in memory, no more than 2^47.
  What the document's Decode and DecodeSignature answer. Conditions: the Reel reads bytes in memory, no more than 2^47.
  What the document's Types answers. No conditions.
  What Show, Read and ShowSignature answer, the program's and the document's. Conditions: the lists lie in memory, the letters stand.
  What Check, Count, ifBody and hasPlace of layer code answer: is a list a body, and how many have an op? Conditions: the list lies in memory.
  What Count, ifBody and hasPlace of layer code answer. Conditions: the list lies in memory.
  What the document's Check, Count and Head of layer code answer, and its Lists: are two lists the same? Conditions: lists lie in memory; numbers fit an int64.
  A function in memory: its value, its cells, what it reads as. No conditions.
  Names and locals at a Reel's place: what decodeName and decodeLocals answer. Conditions: the Reel reads bytes in memory, no more than 2^47.
  Names: what letter, digit and Named answer, and the document's letter and Named. No conditions but that the name's length fits an int64.
  every: questions that lie in memory are asked in turn, up to the first no. Conditions: each question answers by its contract.
  What the closures of passes answer; few and taking. Conditions: what is asked answers by its contract.
  What reads and its closures do: what stands next is read and kept. Conditions: what decodes answers by its contract.
  A region that draws its order, by what each of its values is: whatever order is picked, each operation finds what it stands behind. No program, no conditions.
  A region that draws its order, by what each of its values is: whatever order is picked, each operation finds what it stands behind. Operations may be guarded; one of them, number c, may write what lay in the blocks of O, which the others' words don't speak of. No program, no conditions.
  Which functions may be: what Check answers. Conditions: the function's lists lie in memory, and are no longer than statements go through.
  What the laws ask ahead: whether a function is more than statements go through; and the laws' own function. No conditions but those of each statement.
  The plain mathematics of heads and stretches: which places are noted as heads, how often, and where a stretch ends. No program, no conditions.
  The plain mathematics of what is put in and taken out, of counts, and of stretches one behind the other. No program, no conditions.
  What shifted of layer code answers: a new list, in which those that go to a place behind one go so much farther. Conditions: the list lies in memory, of 1 to 512 instructions; by 1, or -1.
  What Insert of layer code answers: a new body with one more, or ErrCode. Conditions: the list lies in memory.
  What Delete of layer code answers: a new body without one, or ErrCode. Conditions: the list lies in memory.
  What the program's Decode answers. Conditions: a Reel stands on the bytes; they are not too many.
  What the document's Decode answers. Conditions: its Reel stands on the bytes; they are not too many.
  What Decode of layer code answers, the program's and the document's: the body at a Reel's place, and the place behind it. Conditions: the Reel reads bytes in memory, no more than 2^47.
  What the document's Decode of layer code answers: the body at its Reel's place, and the place behind it. Conditions: the Reel reads bytes in memory, no more than 2^47.
  Functions at a Reel's place: what Decode answers. Conditions: the Reel reads bytes in memory, no more than 2^47.
  What Decode of layer function answers: the function at a Reel's place, and the place behind it. Conditions: the Reel reads bytes in memory, no more than 2^47.
  Functions that are no greater than statements go through; small facts that the laws share. No conditions.
  An image in memory: its value, its cells, what it reads as; an image that is owned. No conditions.
  What the law's plain answers: the text of an image that may be, by numbers. Conditions: the image lies in memory; what texts are made with stands.
  The pieces that a text's lines are handed on as: each with its line feed, if it has one. No program, no conditions.
  The library's Lines, as it is ranged over: it hands on each piece, and is at its end, or left. Conditions: what holds of the pieces so far is kept by making memory, and by a change of the box that Lines keeps its rest in.
  A range over a function whose iterator keeps its rest in a box that was there ahead of the range, and that is never left ahead of its end; the library's Lines is such a one. No program but Lines'; what holds in the range is kept by a change of the box, and the body leaves the box as it is.
-/
import Derived.IntWalk
import Derived.Laws.BitsAllLaws
import Derived.Laws.CopyOwn
import Derived.Laws.ResultCell
import Derived.Laws.Rows
import Derived.OwnWalk
import Derived.RangeFuncBox
import Derived.Shelf.Small.Strs
import Derived.Test.YtifobiajjhknbaaGreatDoorQ6
import Derived.Test.YtifobiajjhknbaaGreatDoorQ5
import Derived.Test.YtifobiajjhknbaaGreatDoorQ4
import Derived.Test.YtifobiajjhknbaaGreatDoorQ3
import Derived.Test.YtifobiajjhknbaaGreatDoorQ2
namespace Go.Proofs.YtifobiajjhknbaaGreatDoor.S
open Go.RowKit W

theorem blk_put2 {W : World} {g : Nat} {x y : Value} (h : Blk W g 32 #[x, y]) (u v : Value) : Blk ((W.setCell ⟨g, 0, none⟩ u).setCell ⟨g, 1, none⟩ v) g 32 #[u, v] := by
  have := (h.put 0 u).put 1 v
  simpa using this
theorem sig_size : (Tryz.prog.info? 32).map (·.size) = some 2 := by kernel_rfl
theorem ret_sig {fn : Func} {tmps : Array Value} {w : World} {g : Nat} {u v e : Value} (h : fn.results = #[.cell 2 32, .tmp 3]) (hp : tmps.getD 2 undef = .pointer (some ⟨g, 0, none⟩)) (hb : Blk w g 32 #[u, v]) (he : tmps.getD 3 undef = e) :
    (results fn tmps).run Tryz.prog w = .ok (.tuple #[.agg #[u, v], e]) w := by
  rw [results_cell_tmp h, hp, he]
  simp only [asAddr, Sem.run_pure, Result.andThen_ok]
  rw [run_loadVar_row w g 32 32 #[u, v] (0, 0) _ hb Tryz.underlying32 rfl sig_size]
  rfl
/-- Two cells of a block of one's own are put. -/
theorem keep_put2 {O : Nat → Prop} {w W : World} {g : Nat} (h : Keep O w W) (hg : w.heap.size ≤ g) (u v : Value) : Keep O w ((W.setCell ⟨g, 0, none⟩ u).setCell ⟨g, 1, none⟩ v) :=
  (h.setCell (fun h => absurd h (by simp; omega)) u).setCell (fun h => absurd h (by simp; omega)) v
theorem keep_at2 (W : World) (g : Nat) (u v : Value) : Keep (fun k => k = g) W ((W.setCell ⟨g, 0, none⟩ u).setCell ⟨g, 1, none⟩ v) :=
  ((Keep.refl (fun k => k = g) W).setCell (fun _ => rfl) u).setCell (fun _ => rfl) v
theorem own_put2 {w W : World} {g n : Nat} {v : Value} {xs : List Value} (h : Own W 3 1 (fun k => g < k) v n xs) (hg : w.heap.size ≤ g) (u u' : Value) : Own ((W.setCell ⟨g, 0, none⟩ u).setCell ⟨g, 1, none⟩ u') 3 1 (Fresh w) v n xs :=
  (h.keep (keep_at2 W g u u') (fun k hk e => by omega)).mono (fun k hk _ => by unfold Fresh; omega)

set_option maxRecDepth 100000 in
set_option maxHeartbeats 2000000 in
theorem ifG_no (A : Option Addr) (a : List Int) (na ca : Nat) (B : Option Addr) (r : List Int) (nb cb : Nat) (w : World) (ha : Rd w A (ivs a)) (hr : Rd w B (ivs r)) (hna : Hid (a.length = na)) (hnb : Hid (r.length = nb)) (hn6 : na ≤ 4611686018427387903) (hm6 : nb ≤ 4611686018427387903) (ho : okG a r = false) :
    Calls Tryz.prog 195 #[.agg #[.slice A na ca, .slice B nb cb]] w fun e w' => e = .returned (.tuple #[.agg #[.slice none 0 0, .slice none 0 0], .int .i64 61]) ∧ Keep NoB w w' := by
  have bx := (Blk.new w 32 #[.slice A na ca, .slice B nb cb]).alloc (.cells #[.slice none 0 0, .slice none 0 0] 32)
  have bz := Blk.new (w.alloc (.cells #[.slice A na ca, .slice B nb cb] 32)) 32 #[.slice none 0 0, .slice none 0 0]
  rw [World.size_alloc] at bz
  have k0 := ((Keep.refl NoB w).alloc (.cells #[.slice A na ca, .slice B nb cb] 32)).alloc (.cells #[.slice none 0 0, .slice none 0 0] 32)
  have HC := Lib.hid (fun w ha hr => chkG_any A a na ca B r nb cb w ha hr hna hnb hn6 hm6 61 (chkG_no ho))
  go_enter Tryz.func195, Tryz.ntmps195
  go_wp2_with fail
  refine (HC.out _ (ha.keepN k0) (hr.keepN k0)).mono ?_
  rintro e w2 ⟨rfl, k1⟩
  have bz2 := bz.keep k1 id
  obtain ⟨z0, z1⟩ := blk2 bz2
  have fz := fun i => bz2.frozen i
  have gK := keepN k0 k1
  have HBZ := Lib.hid (fun u v => blk_put2 bz2 u v)
  clear bx bz k0 k1 ha hr HC bz2
  go_wp2
  refine bodyPost_ret (ret_sig rfl rfl (HBZ.out _ _) rfl) rfl ?_
  exact ⟨rfl, keep_put2 gK (by omega) _ _⟩
set_option maxRecDepth 100000 in
set_option maxHeartbeats 2000000 in
theorem ifG_yes (A : Option Addr) (a : List Int) (na ca : Nat) (B : Option Addr) (r : List Int) (nb cb : Nat) (w : World) (ha : Rd w A (ivs a)) (hr : Rd w B (ivs r)) (hna : Hid (a.length = na)) (hnb : Hid (r.length = nb)) (hn6 : na ≤ 4611686018427387903) (hm6 : nb ≤ 4611686018427387903) (ho : okG a r = true) :
    Calls Tryz.prog 195 #[.agg #[.slice A na ca, .slice B nb cb]] w fun e w' => e = .returned (.tuple #[.agg #[.slice A na ca, .slice B nb cb], .int .i64 0]) ∧ Keep NoB w w' := by
  have bx := (Blk.new w 32 #[.slice A na ca, .slice B nb cb]).alloc (.cells #[.slice none 0 0, .slice none 0 0] 32)
  have bz := Blk.new (w.alloc (.cells #[.slice A na ca, .slice B nb cb] 32)) 32 #[.slice none 0 0, .slice none 0 0]
  rw [World.size_alloc] at bz
  have k0 := ((Keep.refl NoB w).alloc (.cells #[.slice A na ca, .slice B nb cb] 32)).alloc (.cells #[.slice none 0 0, .slice none 0 0] 32)
  have HC := Lib.hid (fun w ha hr => chkG_any A a na ca B r nb cb w ha hr hna hnb hn6 hm6 0 (chkG_ok ho))
  go_enter Tryz.func195, Tryz.ntmps195
  go_wp2_with fail
  refine (HC.out _ (ha.keepN k0) (hr.keepN k0)).mono ?_
  rintro e w2 ⟨rfl, k1⟩
  have bz2 := bz.keep k1 id
  obtain ⟨x0, x1⟩ := blk2 (bx.keep k1 id)
  obtain ⟨z0, z1⟩ := blk2 bz2
  have fz := fun i => bz2.frozen i
  have gK := keepN k0 k1
  have HBZ := Lib.hid (fun u v => blk_put2 bz2 u v)
  clear bx bz k0 k1 ha hr HC bz2
  go_wp2
  refine bodyPost_ret (ret_sig rfl rfl (HBZ.out _ _) rfl) rfl ?_
  exact ⟨rfl, keep_put2 gK (by omega) _ _⟩

end Go.Proofs.YtifobiajjhknbaaGreatDoor.S

namespace Go.Proofs.YtifobiajjhknbaaGreatDoor.S
open Go.RowKit W

end Go.Proofs.YtifobiajjhknbaaGreatDoor.S

namespace Go.Proofs.YtifobiajjhknbaaGreatDoor.S
open Go.RowKit W

end Go.Proofs.YtifobiajjhknbaaGreatDoor.S

namespace Go.Proofs.YtifobiajjhknbaaGreatDoor.W
open Go.RowKit

/-- The type found among the first letters. -/
def upto (c : UInt8) (j : Nat) : Int := if unlet c < j then unlet c else 0
end Go.Proofs.YtifobiajjhknbaaGreatDoor.W

namespace Go.Proofs.YtifobiajjhknbaaGreatDoor.S
open Go.RowKit W

def rsL (R : Option (List Int)) : List Int := match R with
  | none => []
  | some x => x
def rsE (R : Option (List Int)) : Int := match R with
  | none => 60
  | some _ => 0
def ReadR (w : World) (R : Option (List Int)) (e : Ending) (w' : World) : Prop :=
  ∃ v, e = .returned (.tuple #[v, .int .i64 (rsE R)]) ∧ Own w' 3 1 (Fresh w) v (rsL R).length (ivs (rsL R)) ∧ Keep NoB w w'
theorem read_none {w w' : World} {R : Option (List Int)} (hR : R = none) (hk : Keep NoB w w') : ReadR w R (.returned (.tuple #[.slice none 0 0, .int .i64 60])) w' := by
  subst hR; exact ⟨_, rfl, Own.nil _ _ _ _, hk⟩
theorem shS_ok {l : List Int} (h : okS l = true) : shS l = txt l := if_pos h
theorem shS_no {l : List Int} (h : okS l = false) : shS l = [] := if_neg (by rw [h]; decide)
theorem shG_ok {a r : List Int} (h : okG a r = true) : shG a r = txt a ++ 62 :: txt r := if_pos h
theorem shG_no {a r : List Int} (h : okG a r = false) : shG a r = [] := if_neg (by rw [h]; decide)
theorem tE_none {s : List UInt8} (h : untxt s = none) : tE s = 20 ∧ tN s = 0 := by unfold tE tN; rw [h]; exact ⟨rfl, rfl⟩
theorem tE_some {s : List UInt8} {l : List Int} (h : untxt s = some l) : tE s = 0 ∧ tL s = l ∧ tN s = l.length := by
  have hl := tL_length s
  have h2 : tL s = l := by unfold tL; rw [h]; rfl
  refine ⟨by unfold tE; rw [h]; rfl, h2, ?_⟩
  rw [← hl, h2]
theorem rdS_1 {s : List UInt8} (h : untxt s = none) : rdS s = none := by unfold rdS; rw [h]
theorem rdS_2 {s : List UInt8} {l : List Int} (h : untxt s = some l) (ho : okS l = false) : rdS s = none := by unfold rdS; rw [h]; exact if_neg (by rw [ho]; decide)
theorem rdS_3 {s : List UInt8} {l : List Int} (h : untxt s = some l) (ho : okS l = true) : rdS s = some l := by unfold rdS; rw [h]; exact if_pos ho
theorem untxt_len {s : List UInt8} {l : List Int} (h : untxt s = some l) : l.length ≤ 1024 := by
  by_cases h2 : s.length ≤ 1024 ∧ (s.all fun c => decide (unlet c ≠ 0)) = true
  · rw [untxt_some h2.1 h2.2] at h
    injection h with h
    rw [← h, List.length_map]; exact h2.1
  · rw [untxt_none h2] at h; cases h
theorem str_mid (a b : List UInt8) : W.str a ++ (⟨#[62]⟩ : ByteArray) ++ W.str b = W.str (a ++ 62 :: b) := by
  apply ByteArray.ext
  simp [ByteArray.data_append]
theorem txt_le (l : List Int) : (txt l).length ≤ 1024 := by
  unfold txt
  split
  · rename_i h
    rw [flat_let_length _ h.2]; exact h.1
  · simp

theorem types_no (S : ByteArray) (s : List UInt8) (w : World) (hL : LetAt w) (hs : Hid (S.data.toList = s)) (h1 : S.size ≤ 9223372036854775807) (h : untxt s = none) :
    Calls Tryz.prog 165 #[.string S] w fun e w' => ∃ B d, e = .returned (.tuple #[.slice B 0 d, .int .i64 20]) ∧ Keep NoB w w' := by
  refine (types_any S s w hL hs h1).mono ?_
  rintro e w' ⟨B, d, rfl, _, hk⟩
  rw [(tE_none h).1, (tE_none h).2]
  exact ⟨B, d, rfl, hk⟩
theorem types_yes (S : ByteArray) (s : List UInt8) (l : List Int) (w : World) (hL : LetAt w) (hs : Hid (S.data.toList = s)) (h1 : S.size ≤ 9223372036854775807) (h : untxt s = some l) :
    Calls Tryz.prog 165 #[.string S] w fun e w' => ∃ B d, e = .returned (.tuple #[.slice B l.length d, .int .i64 0]) ∧ Own w' 3 1 (Fresh w) (.slice B l.length d) l.length (ivs l) ∧ Keep NoB w w' := by
  obtain ⟨e1, e2, e3⟩ := tE_some h
  have := types_any S s w hL hs h1
  unfold TypesR at this
  rw [e1, e2, e3] at this
  exact this

set_option maxRecDepth 100000 in
set_option maxHeartbeats 2000000 in
theorem showS_any (A : Option Addr) (l : List Int) (na c : Nat) (w : World) (hL : LetAt w) (hr : Rd w A (ivs l)) (hn : Hid (l.length = na)) (hm : na ≤ 9223372036854775807) :
    Calls Tryz.prog 20 #[.slice A na c] w fun e w' => e = .returned (.string (W.str (shS l))) ∧ Keep NoB w w' := by
  cases ho : okS l
  · have HC := Lib.hid (fun w hr => chkS_any A l na c w hr hn hm 60 (chkS_no ho))
    rw [shS_no ho]
    clear ho
    go_enter Tryz.func20, Tryz.ntmps20
    go_wp2_with (go_at_call 56; refine (HC.out _ hr).mono ?_; rintro e w1 ⟨rfl, k1⟩)
    go_ret
    exact ⟨rfl, k1⟩
  · have HC := Lib.hid (fun w hr => chkS_any A l na c w hr hn hm 0 (chkS_ok ho))
    have HT := Lib.hid (fun w hL hr => text_any A l na c w hL hr hn hm)
    rw [shS_ok ho]
    clear ho
    go_enter Tryz.func20, Tryz.ntmps20
    go_wp2_with fail
    refine (HC.out _ hr).mono ?_
    rintro e w1 ⟨rfl, k1⟩
    go_wp2_with fail
    refine (HT.out _ (hL.keep k1) (hr.keepN k1)).mono ?_
    rintro e w2 ⟨rfl, k2⟩
    go_wp2
    go_ret
    exact ⟨rfl, keepN k1 k2⟩

set_option maxRecDepth 100000 in
set_option maxHeartbeats 2000000 in
theorem readS_any (S : ByteArray) (s : List UInt8) (w : World) (hL : LetAt w) (hs : Hid (S.data.toList = s)) (h1 : S.size ≤ 9223372036854775807) :
    Calls Tryz.prog 163 #[.string S] w (ReadR w (rdS s)) := by
  cases hu : untxt s with
  | none =>
    have HT := Lib.hid (types_no S s w hL hs h1 hu)
    have HD := Lib.hid (rdS_1 hu)
    clear hu
    go_enter Tryz.func163, Tryz.ntmps163
    go_wp2_with fail
    refine HT.out.mono ?_
    rintro e w1 ⟨B, d, rfl, k1⟩
    go_wp2
    go_ret2
    exact read_none HD.out k1
  | some l =>
    have HT := Lib.hid (types_yes S s l w hL hs h1 hu)
    have hlen := untxt_len hu
    cases ho : okS l
    · have HD := Lib.hid (rdS_2 hu ho)
      have HI := Lib.hid (fun A c w hr => ifS_no A l l.length c w hr rfl (by omega) ho)
      clear hu ho hlen
      go_enter Tryz.func163, Tryz.ntmps163
      go_wp2_with fail
      refine HT.out.mono ?_
      rintro e w1 ⟨B, d, rfl, hO, k1⟩
      have r1 : Rd w1 B (ivs l) := by
        obtain ⟨A', c', e, hr⟩ := own_rdI hO
        cases e; exact hr
      go_wp2_with fail
      refine (HI.out _ _ _ r1).mono ?_
      rintro e w2 ⟨rfl, k2⟩
      go_wp2
      go_ret2
      exact read_none HD.out (keepN k1 k2)
    · have HD := Lib.hid (rdS_3 hu ho)
      have HI := Lib.hid (fun A c w hr => ifS_yes A l l.length c w hr rfl (by omega) ho)
      clear hu ho hlen
      go_enter Tryz.func163, Tryz.ntmps163
      go_wp2_with fail
      refine HT.out.mono ?_
      rintro e w1 ⟨B, d, rfl, hO, k1⟩
      have r1 : Rd w1 B (ivs l) := by
        obtain ⟨A', c', e, hr⟩ := own_rdI hO
        cases e; exact hr
      have HO := Lib.hid hO
      clear hO
      go_wp2_with fail
      refine (HI.out _ _ _ r1).mono ?_
      rintro e w2 ⟨rfl, k2⟩
      go_wp2
      go_ret2
      rw [HD.out]
      exact ⟨_, rfl, HO.out.keepN k2, keepN k1 k2⟩

set_option maxRecDepth 100000 in
set_option maxHeartbeats 4000000 in
theorem showG_any (A : Option Addr) (a : List Int) (na ca : Nat) (B : Option Addr) (r : List Int) (nb cb : Nat) (w : World) (hL : LetAt w) (ha : Rd w A (ivs a)) (hr : Rd w B (ivs r)) (hna : Hid (a.length = na)) (hnb : Hid (r.length = nb)) (hn6 : na ≤ 4611686018427387903) (hm6 : nb ≤ 4611686018427387903) :
    Calls Tryz.prog 21 #[.agg #[.slice A na ca, .slice B nb cb]] w fun e w' => e = .returned (.string (W.str (shG a r))) ∧ Keep NoB w w' := by
  have bx := Blk.new w 32 #[.slice A na ca, .slice B nb cb]
  have k0 := (Keep.refl NoB w).alloc (.cells #[.slice A na ca, .slice B nb cb] 32)
  cases ho : okG a r
  · have HC := Lib.hid (fun w ha hr => chkG_any A a na ca B r nb cb w ha hr hna hnb hn6 hm6 61 (chkG_no ho))
    rw [shG_no ho]
    clear ho
    go_enter Tryz.func21, Tryz.ntmps21
    go_wp2_with (go_at_call 57; refine (HC.out _ (ha.keepN k0) (hr.keepN k0)).mono ?_; rintro e w1 ⟨rfl, k1⟩)
    go_ret
    exact ⟨rfl, keepN k0 k1⟩
  · have HC := Lib.hid (fun w ha hr => chkG_any A a na ca B r nb cb w ha hr hna hnb hn6 hm6 0 (chkG_ok ho))
    have HTa := Lib.hid (fun w hL hr => text_any A a na ca w hL hr hna (by omega))
    have HTb := Lib.hid (fun w hL hr => text_any B r nb cb w hL hr hnb (by omega))
    rw [shG_ok ho, ← str_mid]
    have q1 : (W.str (txt a)).size ≤ 1024 := by rw [size_of (s := txt a) (by simp)]; exact txt_le a
    have q2 : (W.str (txt r)).size ≤ 1024 := by rw [size_of (s := txt r) (by simp)]; exact txt_le r
    generalize W.str (txt a) = S1 at HTa q1 ⊢
    generalize W.str (txt r) = S2 at HTb q2 ⊢
    have q3 : ¬ 9223372036854775807 < S1.size + 1 := by omega
    have q4 : ¬ 9223372036854775807 < S1.size + 1 + S2.size := by omega
    have HL := Lib.hid hL
    clear ho hL
    go_enter Tryz.func21, Tryz.ntmps21
    go_wp2_with fail
    refine (HC.out _ (ha.keepN k0) (hr.keepN k0)).mono ?_
    rintro e w2 ⟨rfl, k1⟩
    obtain ⟨c0, c1⟩ := blk2 (bx.keep k1 id)
    have gK := keepN k0 k1
    have ha2 := ha.keepN gK
    have hr2 := hr.keepN gK
    clear bx k0 k1 ha hr HC
    go_wp2
    refine wp_region_sh ((0, false) :: (1, false) :: (2, false) :: (3, false) :: (4, false) :: (5, false) :: (6, false) :: (7, false) :: (8, false) :: []) (fun w' => Keep NoB w2 w') (by kernel_rfl) (by kernel_rfl) (by rfl) (by kernel_rfl) (stable_keep w2) (Keep.refl NoB w2).drew ?_
    refine shM_step rfl rfl rfl (by rfl) (by rfl) ?_
    apply Exists.intro
    refine ⟨fun z K hK => ?_, ?_, ?_⟩
    · go_big_quiet_op
      exact hK _ rfl
    · kernel_rfl
    refine shM_step rfl rfl rfl (by rfl) (by rfl) ?_
    apply Exists.intro
    refine ⟨fun z K hK => ?_, ?_, ?_⟩
    · have d0 : ∀ y : KW z.w, y.w.cell? ⟨w.heap.size, 0, none⟩ = some (.slice A na ca) := fun y => Keep.cell (keepN z.has y.keep) c0 id
      go_big_quiet_op
      exact hK _ rfl
    · kernel_rfl
    refine shM_step rfl rfl rfl (by rfl) (by rfl) ?_
    apply Exists.intro
    refine ⟨fun z K hK => ?_, ?_, ?_⟩
    · go_big_quiet_op
      apply Exists.intro
      refine ⟨fun y => ?_, ?_⟩
      · go_at_call 22
        exact kept_of (HTa.out _ (LetAt.keep HL.out (keepN gK (keepN z.has y.keep))) (ha2.keepN (keepN z.has y.keep)))
      · exact hK _ rfl
    · kernel_rfl
    refine shM_step rfl rfl rfl (by rfl) (by rfl) ?_
    apply Exists.intro
    refine ⟨fun z K hK => ?_, ?_, ?_⟩
    · go_big_quiet_op
      exact hK _ rfl
    · kernel_rfl
    refine shM_step rfl rfl rfl (by rfl) (by rfl) ?_
    apply Exists.intro
    refine ⟨fun z K hK => ?_, ?_, ?_⟩
    · go_big_quiet_op
      exact hK _ rfl
    · kernel_rfl
    refine shM_step rfl rfl rfl (by rfl) (by rfl) ?_
    apply Exists.intro
    refine ⟨fun z K hK => ?_, ?_, ?_⟩
    · have d1 : ∀ y : KW z.w, y.w.cell? ⟨w.heap.size, 1, none⟩ = some (.slice B nb cb) := fun y => Keep.cell (keepN z.has y.keep) c1 id
      go_big_quiet_op
      exact hK _ rfl
    · kernel_rfl
    refine shM_step rfl rfl rfl (by rfl) (by rfl) ?_
    apply Exists.intro
    refine ⟨fun z K hK => ?_, ?_, ?_⟩
    · go_big_quiet_op
      apply Exists.intro
      refine ⟨fun y => ?_, ?_⟩
      · go_at_call 22
        exact kept_of (HTb.out _ (LetAt.keep HL.out (keepN gK (keepN z.has y.keep))) (hr2.keepN (keepN z.has y.keep)))
      · exact hK _ rfl
    · kernel_rfl
    refine shM_step rfl rfl rfl (by rfl) (by rfl) ?_
    apply Exists.intro
    refine ⟨fun z K hK => ?_, ?_, ?_⟩
    · go_big_quiet_op
      exact hK _ rfl
    · kernel_rfl
    refine shM_step rfl rfl rfl (by rfl) (by rfl) ?_
    apply Exists.intro
    refine ⟨fun z K hK => ?_, ?_, ?_⟩
    · go_big_quiet_op
      exact hK _ rfl
    · kernel_rfl
    refine shM_nil (fun z => ?_)
    have hz := z.has
    generalize z.w = w6 at hz ⊢
    go_wp2
    go_ret
    exact ⟨rfl, keepN gK hz⟩

end Go.Proofs.YtifobiajjhknbaaGreatDoor.S

namespace Go.Proofs.YtifobiajjhknbaaGreatDoor.C
open Go.RowKit O

theorem goes_gen (op a b tgt : Int) (t : Bool) (w : World) (h1 : goesN op a b = tgt) (h2 : goesI op a b = t) :
    Calls Tryz.prog 26 #[instV op a b] w fun e w' => e = .returned (.tuple #[.int .i64 tgt, .bool t]) ∧ Keep NoB w w' := by subst h1 h2; exact goes_any op a b w
theorem ends_gen (op a b : Int) (t : Bool) (w : World) (h : endsI op a b = t) :
    Calls Tryz.prog 183 #[instV op a b] w fun e w' => e = .returned (.bool t) ∧ Keep NoB w w' := by subst h; exact ends_any op a b w
theorem chk_gen (op a b c : Int) (w : World) (h : chk op a b = c) :
    Calls Tryz.prog 184 #[instV op a b] w fun e w' => e = .returned (.int .i64 c) ∧ Keep NoB w w' := by subst h; exact check_any op a b w
theorem blk3 {w : World} {g : Nat} {t : TypeId} {a0 a1 a2 : Value} (h : Blk w g t #[a0, a1, a2]) : w.cell? ⟨g, 0, none⟩ = some a0 ∧ w.cell? ⟨g, 1, none⟩ = some a1 ∧ w.cell? ⟨g, 2, none⟩ = some a2 := ⟨h.cell 0, h.cell 1, h.cell 2⟩

set_option maxRecDepth 100000 in
set_option maxHeartbeats 4000000 in
theorem cchk_any (A : Option Addr) (l : List I3) (n c : Nat) (w : World) (hr : Rd w A (iis l)) (hn : Hid (l.length = n)) (hm : n ≤ 9223372036854775807) (R : Int) (hR : Hid (chkB l = R)) :
    Calls Tryz.prog 126 #[.slice A n c] w fun e w' => e = .returned (.int .i64 R) ∧ Keep NoB w w' := by
  by_cases h0 : n = 0
  · subst h0
    obtain rfl : 50 = R := by rw [← hR.out, List.length_eq_zero_iff.1 hn.out]; rfl
    go_enter Tryz.func126, Tryz.ntmps126
    go_wp2
    go_ret
    exact ⟨rfl, Keep.refl _ _⟩
  have hz : ((n : Int) == 0) = false := by rw [beq_eq_false_iff_ne]; omega
  by_cases h5 : 512 < n
  · obtain rfl : 50 = R := by rw [← hR.out, chkB_no (okB_long (by rw [hn.out]; omega))]
    have hq : decide ((512 : Int) < (n : Int)) = true := by rw [decide_eq_true_iff]; omega
    clear h5 h0
    go_enter Tryz.func126, Tryz.ntmps126
    go_wp2
    go_ret
    exact ⟨rfl, Keep.refl _ _⟩
  have hq : decide ((512 : Int) < (n : Int)) = false := by rw [decide_eq_false_iff_not]; omega
  obtain ⟨m, rfl⟩ : ∃ m, n = m + 1 := ⟨n - 1, by omega⟩
  have hz2 : ((m : Int) + 1 == 0) = false := by rw [beq_eq_false_iff_ne]; omega
  have hq2 : decide ((512 : Int) < (m : Int) + 1) = false := by rw [decide_eq_false_iff_not]; omega
  have hl0 : 0 < l.length := by rw [hn.out]; omega
  obtain ⟨g, off, rfl, hc⟩ := rdJ_at hr hl0
  have hml : m < l.length := by rw [hn.out]; omega
  obtain ⟨c0, c1, c2⟩ := hc m hml
  have HC := Lib.hid hc
  have hlast : Hid (lastB l = eB l[m]) := by
    show _ = _
    rw [lastB_at hl0]
    congr 2
    rw [hn.out]; omega
  clear hc hr h0 h5 hl0
  generalize l[m] = x at c0 c1 c2 hlast
  obtain ⟨op, a, b⟩ := x
  dsimp only at c0 c1 c2
  cases he : endsI op a b
  · obtain rfl : 50 = R := by rw [← hR.out, chkB_no (okB_last (by rw [hlast.out]; exact he))]
    have HE := Lib.hid (fun w => ends_gen op a b _ w he)
    clear he hlast HC hR
    go_enter Tryz.func126, Tryz.ntmps126
    go_wp2_with (go_at_call 183; refine (HE.out _).mono ?_; rintro e w1 ⟨rfl, k1⟩)
    go_ret
    exact ⟨rfl, k1⟩
  have HL : Hid (lastB l = true) := by show _ = _; rw [hlast.out]; exact he
  have HE := Lib.hid (fun w => ends_gen op a b _ w he)
  clear he hlast
  go_enter Tryz.func126, Tryz.ntmps126
  go_wp2_with (go_at_call 183; refine (HE.out _).mono ?_; rintro e w1 ⟨rfl, k1⟩)
  clear c0 c1 c2 HE hml
  go_loopw [27] (fun i wr => ∃ k : Nat, k ≤ m + 1 ∧ i = .int .i64 k ∧ Hid ((l.take k).all (itemB (m + 1)) = true) ∧ Keep NoB w wr) (fun i _ => m + 1 - (intOf i).toNat)
  case atStart => exact ⟨0, Nat.zero_le _, rfl, rfl, k1⟩
  case round =>
    obtain ⟨k, hk, rfl, hall, hK⟩ := hrel
    by_cases hlt : k < m + 1
    · have hkl : k < l.length := by rw [hn.out]; exact hlt
      obtain ⟨d0, d1, d2⟩ := HC.out k hkl
      have c0 := hK.cell d0 id
      have c1 := hK.cell d1 id
      have c2 := hK.cell d2 id
      have HT := Lib.hid (show l.take (k + 1) = l.take k ++ [l[k]] from List.take_succ_eq_append_getElem hkl)
      have HN : Hid (itemB l.length l[k] = false → 50 = R) := fun h => by rw [← hR.out, chkB_no (okB_item (all_no hkl h))]
      rw [hn.out] at HN
      clear d0 d1 d2
      generalize l[k] = x at c0 c1 c2 HT HN
      obtain ⟨op, a, b⟩ := x
      dsimp only at c0 c1 c2
      obtain ⟨tgt, hto⟩ : ∃ tgt, goesN op a b = tgt := ⟨_, rfl⟩
      have hb : 0 ≤ tgt ∧ tgt ≤ 511 := by rw [← hto]; exact gN_in (op, a, b)
      have HG := Lib.hid (fun w => goes_gen op a b tgt _ w hto rfl)
      have bx := Blk.new wr 37 #[.int .i64 op, .int .i64 a, .int .i64 b]
      have gK := hK.alloc (.cells #[.int .i64 op, .int .i64 a, .int .i64 b] 37)
      cases ho : okI op a b
      · obtain rfl := HN.out (item_no1 ho)
        have HO := Lib.hid (fun w => chk_gen op a b 40 w (by unfold chk; rw [ho]; rfl))
        clear ho hto HN HT HL hall hK hR
        go_wp2_with fail
        refine (HG.out _).mono ?_
        rintro e w2 ⟨rfl, k2⟩
        replace bx := bx.keep k2 id
        replace gK := keepN gK k2
        obtain ⟨x0, x1, x2⟩ := blk3 bx
        go_wp2_with (go_at_call 184; refine (HO.out _).mono ?_; rintro e w3 ⟨rfl, k3⟩)
        go_ret
        exact ⟨rfl, keepN gK k3⟩
      have HO := Lib.hid (fun w => chk_gen op a b 0 w (by unfold chk; rw [ho]; rfl))
      by_cases ht : tgt < ((m + 1 : Nat) : Int)
      · have ht2 : ¬ ((m : Int) + 1 ≤ tgt) := by omega
        have ha2 : Hid ((l.take (k + 1)).all (itemB (m + 1)) = true) := by
          show _ = _
          rw [HT.out, List.all_append, hall.out]
          simp only [List.all_cons, List.all_nil, Bool.and_true, Bool.true_and]
          exact item_yes ho (by show goesN op a b < _; rw [hto]; exact ht)
        clear ho hto HN HT HL hall hK hR ht
        go_wp2_with fail
        refine (HG.out _).mono ?_
        rintro e w2 ⟨rfl, k2⟩
        replace bx := bx.keep k2 id
        replace gK := keepN gK k2
        obtain ⟨x0, x1, x2⟩ := blk3 bx
        go_wp2_with (go_at_call 184; refine (HO.out _).mono ?_; rintro e w3 ⟨rfl, k3⟩)
        go_roundw
        case rel => exact ⟨k + 1, by omega, by go_num, ha2, keepN gK k3⟩
        case measure => simp [intOf]; omega
      · obtain rfl := HN.out (item_no2 (by show ¬ goesN op a b < _; rw [hto]; exact ht))
        have ht2 : ((m : Int) + 1 ≤ tgt) := by omega
        clear ho hto HN HT HL hall hK hR ht
        go_wp2_with fail
        refine (HG.out _).mono ?_
        rintro e w2 ⟨rfl, k2⟩
        replace bx := bx.keep k2 id
        replace gK := keepN gK k2
        obtain ⟨x0, x1, x2⟩ := blk3 bx
        go_wp2_with (go_at_call 184; refine (HO.out _).mono ?_; rintro e w3 ⟨rfl, k3⟩)
        go_ret
        exact ⟨rfl, keepN gK k3⟩
    · obtain rfl : 0 = R := by
        rw [← hR.out, chkB_ok (okB_mk (by rw [hn.out]; have := decide_eq_false_iff_not.1 hq; omega) HL.out ?_)]
        have := hall.out
        rw [List.take_of_length_le (by rw [hn.out]; omega)] at this
        rw [hn.out]; exact this
      clear HC hR
      go_wp2
      go_ret
      exact ⟨rfl, hK⟩

end Go.Proofs.YtifobiajjhknbaaGreatDoor.C

namespace Go.Proofs.YtifobiajjhknbaaGreatDoor.C
open Go.RowKit O

end Go.Proofs.YtifobiajjhknbaaGreatDoor.C

namespace Go.Proofs.YtifobiajjhknbaaGreatDoor.C
open Go.RowKit O

/-- The numbers of a list fit. -/
def AllI (l : List I3) : Prop := ∀ x ∈ l, O.I64 x.2.1 ∧ O.I64 x.2.2

end Go.Proofs.YtifobiajjhknbaaGreatDoor.C

namespace Go.Proofs.YtifobiajjhknbaaGreatDoor.F
open Go.RowKit W

/-- A function's value: its name, and where its lists lie. -/
structure FV where
  S : ByteArray
  A : Option Addr
  na : Nat
  ca : Nat
  B : Option Addr
  nb : Nat
  cb : Nat
  L : Option Addr
  nl : Nat
  cl : Nat
  D : Option Addr
  nd : Nat
  cd : Nat
def FV.cells (v : FV) : Array Value := #[.string v.S, .slice v.A v.na v.ca, .slice v.B v.nb v.cb, .slice v.L v.nl v.cl, .slice v.D v.nd v.cd]
def FV.val (v : FV) : Value := .agg v.cells
/-- What its lists hold, wherever the value itself lies; numbers fit an int64. -/
structure FnAt (w : World) (v : FV) (f : Fu) : Prop where
  nm : v.S.data.toList = f.nm
  ra : Rd w v.A (ivs f.ar)
  rb : Rd w v.B (ivs f.rs)
  rl : Rd w v.L (ivs f.lc)
  rd : Rd w v.D (C.iis f.bd)
  la : f.ar.length = v.na
  lb : f.rs.length = v.nb
  ll : f.lc.length = v.nl
  ld : f.bd.length = v.nd
  hI : C.AllI f.bd
/-- It is no greater than statements go through. -/
structure SmF (v : FV) : Prop where
  sz : v.S.size ≤ 100
  na : v.na ≤ 100
  nb : v.nb ≤ 100
  nl : v.nl ≤ 100
  nd : v.nd ≤ 600
theorem FnAt.keep {O : Nat → Prop} {w w' : World} {v : FV} {f : Fu} (h : FnAt w v f) (hk : Keep O w w') (hO : ∀ k, k < w.heap.size → ¬ O k) : FnAt w' v f :=
  have h2 : Keep NoB w w' := hk.mono (fun k ho hl => absurd ho (hO k hl))
  ⟨h.nm, h.ra.keepN h2, h.rb.keepN h2, h.rl.keepN h2, h.rd.keepN h2, h.la, h.lb, h.ll, h.ld, h.hI⟩
theorem FnAt.keepN {w w' : World} {v : FV} {f : Fu} (h : FnAt w v f) (hk : Keep NoB w w') : FnAt w' v f := h.keep hk (fun _ _ => id)
theorem sz_len {S : ByteArray} {s : List UInt8} (h : S.data.toList = s) : S.size = s.length := by rw [← h]; rfl
theorem blk5 {w : World} {g : Nat} {t : TypeId} {v : FV} (h : Blk w g t v.cells) : w.cell? ⟨g, 0, none⟩ = some (.string v.S) ∧ w.cell? ⟨g, 1, none⟩ = some (.slice v.A v.na v.ca) ∧ w.cell? ⟨g, 2, none⟩ = some (.slice v.B v.nb v.cb) ∧
    w.cell? ⟨g, 3, none⟩ = some (.slice v.L v.nl v.cl) ∧ w.cell? ⟨g, 4, none⟩ = some (.slice v.D v.nd v.cd) := ⟨h.cell 0, h.cell 1, h.cell 2, h.cell 3, h.cell 4⟩

end Go.Proofs.YtifobiajjhknbaaGreatDoor.F

namespace Go.Proofs.YtifobiajjhknbaaGreatDoor.F
open Go.RowKit W

theorem own_len {w : World} {O : Nat → Prop} {v : Value} {l : List Int} {n : Nat} (h : Own w 3 1 O v n (ivs l)) : l.length = n := by have := h.1.1; simpa using this

end Go.Proofs.YtifobiajjhknbaaGreatDoor.F

namespace Go.Proofs.YtifobiajjhknbaaGreatDoor.F
open Go.RowKit W

theorem letB_yes {c : UInt8} (h : (97 ≤ c.toNat ∧ c.toNat ≤ 122) ∨ (65 ≤ c.toNat ∧ c.toNat ≤ 90)) : letB c = true := (letB_iff c).2 h
theorem letB_no {c : UInt8} (h : ¬ ((97 ≤ c.toNat ∧ c.toNat ≤ 122) ∨ (65 ≤ c.toNat ∧ c.toNat ≤ 90))) : letB c = false := by
  cases hb : letB c
  · rfl
  · exact absurd ((letB_iff c).1 hb) h
theorem digB_yes {c : UInt8} (h : 48 ≤ c.toNat ∧ c.toNat ≤ 57) : digB c = true := (digB_iff c).2 h
theorem digB_no {c : UInt8} (h : ¬ (48 ≤ c.toNat ∧ c.toNat ≤ 57)) : digB c = false := by
  cases hb : digB c
  · rfl
  · exact absurd ((digB_iff c).1 hb) h

set_option maxRecDepth 100000 in
set_option maxHeartbeats 2000000 in
theorem letter_any (c : UInt8) (w : World) : Calls Tryz.prog 179 #[.int .u8 (c.toNat : Int)] w fun e w' => e = .returned (.bool (letB c)) ∧ w = w' := by
  have hc : c.toNat < 256 := UInt8.toNat_lt _
  have HY : Hid ((97 ≤ c.toNat ∧ c.toNat ≤ 122) ∨ (65 ≤ c.toNat ∧ c.toNat ≤ 90) → letB c = true) := letB_yes
  have HN : Hid (¬ ((97 ≤ c.toNat ∧ c.toNat ≤ 122) ∨ (65 ≤ c.toNat ∧ c.toNat ≤ 90)) → letB c = false) := letB_no
  generalize letB c = R at HY HN
  generalize c.toNat = n at hc HY HN
  by_cases h0 : n < 65
  · skip
    obtain rfl : false = R := (HN.out (by omega)).symm
    clear HY HN
    go_enter Tryz.func179, Tryz.ntmps179
    go_wp2
    go_ret
    exact ⟨ret_bool (by first | rfl | (simp; done) | (simp; omega)), rfl⟩
  by_cases h1 : n ≤ 90
  · skip
    obtain rfl : true = R := (HY.out (by omega)).symm
    clear HY HN
    go_enter Tryz.func179, Tryz.ntmps179
    go_wp2
    go_ret
    exact ⟨ret_bool (by first | rfl | (simp; done) | (simp; omega)), rfl⟩
  by_cases h2 : n < 97
  · skip
    obtain rfl : false = R := (HN.out (by omega)).symm
    clear HY HN
    go_enter Tryz.func179, Tryz.ntmps179
    go_wp2
    go_ret
    exact ⟨ret_bool (by first | rfl | (simp; done) | (simp; omega)), rfl⟩
  by_cases h3 : n ≤ 122
  · skip
    obtain rfl : true = R := (HY.out (by omega)).symm
    clear HY HN
    go_enter Tryz.func179, Tryz.ntmps179
    go_wp2
    go_ret
    exact ⟨ret_bool (by first | rfl | (simp; done) | (simp; omega)), rfl⟩
  obtain rfl : false = R := (HN.out (by omega)).symm
  clear HY HN
  go_enter Tryz.func179, Tryz.ntmps179
  go_wp2
  go_ret
  exact ⟨ret_bool (by first | rfl | (simp; done) | (simp; omega)), rfl⟩

set_option maxRecDepth 100000 in
set_option maxHeartbeats 2000000 in
theorem digit_any (c : UInt8) (w : World) : Calls Tryz.prog 180 #[.int .u8 (c.toNat : Int)] w fun e w' => e = .returned (.bool (digB c)) ∧ w = w' := by
  have hc : c.toNat < 256 := UInt8.toNat_lt _
  have HY : Hid (48 ≤ c.toNat ∧ c.toNat ≤ 57 → digB c = true) := digB_yes
  have HN : Hid (¬ (48 ≤ c.toNat ∧ c.toNat ≤ 57) → digB c = false) := digB_no
  generalize digB c = R at HY HN
  generalize c.toNat = n at hc HY HN
  by_cases h0 : n < 48
  · skip
    obtain rfl : false = R := (HN.out (by omega)).symm
    clear HY HN
    go_enter Tryz.func180, Tryz.ntmps180
    go_wp2
    go_ret
    exact ⟨ret_bool (by first | rfl | (simp; done) | (simp; omega)), rfl⟩
  by_cases h1 : n ≤ 57
  · skip
    obtain rfl : true = R := (HY.out (by omega)).symm
    clear HY HN
    go_enter Tryz.func180, Tryz.ntmps180
    go_wp2
    go_ret
    exact ⟨ret_bool (by first | rfl | (simp; done) | (simp; omega)), rfl⟩
  obtain rfl : false = R := (HN.out (by omega)).symm
  clear HY HN
  go_enter Tryz.func180, Tryz.ntmps180
  go_wp2
  go_ret
  exact ⟨ret_bool (by first | rfl | (simp; done) | (simp; omega)), rfl⟩

theorem in_step {l : List UInt8} {k : Nat} (hk : k < l.length) (h : (l.take k).all inB = true) (h2 : inB l[k] = true) : (l.take (k + 1)).all inB = true := by
  rw [List.take_succ_eq_append_getElem hk, List.all_append, h]; simp [h2]
theorem in_no {l : List UInt8} {k : Nat} (hk : k < l.length) (h2 : inB l[k] = false) : l.all inB = false := by
  cases h : l.all inB
  · rfl
  · rw [List.all_eq_true.1 h _ (List.getElem_mem hk)] at h2; cases h2
theorem str_at {S : ByteArray} {s : List UInt8} (hs : S.data.toList = s) {k : Nat} (hk : k < S.size) (hk2 : k < s.length) : S[k] = s[k] := by subst hs; rfl

set_option maxRecDepth 100000 in
set_option maxHeartbeats 4000000 in
theorem named_any (S : ByteArray) (s : List UInt8) (w : World) (hs : Hid (S.data.toList = s)) (hm : S.size ≤ 9223372036854775807) (R : Int) (hR : Hid (chkN s = R)) :
    Calls Tryz.prog 122 #[.string S] w fun e w' => e = .returned (.int .i64 R) ∧ w = w' := by
  have HZ : Hid (S.size = s.length) := sz_len hs.out
  have HL := Lib.hid (fun (c : UInt8) (w : World) => letter_any c w)
  have HD := Lib.hid (fun (c : UInt8) (w : World) => digit_any c w)
  by_cases h0 : S.size = 0
  · obtain rfl : 71 = R := by rw [← hR.out]; exact (chkN_no (by rw [List.length_eq_zero_iff.1 (HZ.out.symm.trans h0)]; rfl)).symm
    clear hR
    go_enter Tryz.func122, Tryz.ntmps122
    go_wp2
    go_ret
    exact ⟨rfl, rfl⟩
  have hq0 : ((S.size : Int) == 0) = false := by rw [beq_eq_false_iff_ne]; omega
  by_cases h1 : 32 < S.size
  · obtain rfl : 71 = R := by rw [← hR.out]; exact (chkN_no (okN_long (by rw [← HZ.out]; omega))).symm
    clear hR
    go_enter Tryz.func122, Tryz.ntmps122
    go_wp2
    go_ret
    exact ⟨rfl, rfl⟩
  have hp : 0 < S.size := by omega
  have HH : Hid (headB s = letB (S[0]'hp)) := by show _ = _; rw [str_at hs.out hp (by rw [← HZ.out]; omega)]; exact headB_at _
  cases hh : letB (S[0]'hp)
  · obtain rfl : 71 = R := by rw [← hR.out]; exact (chkN_no (okN_head (HH.out.trans hh))).symm
    have HC := Lib.hid (fun w => HL.out (S[0]'hp) w)
    rw [hh] at HC
    clear hR HH hh
    go_enter Tryz.func122, Tryz.ntmps122
    go_wp2_with (go_at_call 179; refine (HC.out _).mono ?_; rintro e w1 ⟨rfl, rfl⟩)
    go_ret
    exact ⟨rfl, rfl⟩
  have HHT := Lib.hid (HH.out.trans hh)
  have HC := Lib.hid (fun w => HL.out (S[0]'hp) w)
  rw [hh] at HC
  clear HH hh
  go_enter Tryz.func122, Tryz.ntmps122
  go_wp2_with (go_at_call 179; refine (HC.out _).mono ?_; rintro e w1 ⟨rfl, rfl⟩)
  clear HC
  go_loop [20] (fun i => ∃ k : Nat, k ≤ S.size ∧ i = .int .i64 k ∧ Hid ((s.take k).all inB = true)) (fun i => S.size - (intOf i).toNat)
  case atStart => exact ⟨0, Nat.zero_le _, rfl, rfl⟩
  case round =>
    obtain ⟨k, hk, rfl, ht⟩ := hrel
    by_cases hlt : k < S.size
    · have hks : k < s.length := by rw [← HZ.out]; exact hlt
      have HE := Lib.hid (str_at hs.out hlt hks)
      have HA := Lib.hid (fun w => HL.out (S[k]'hlt) w)
      have HB := Lib.hid (fun w => HD.out (S[k]'hlt) w)
      have HI : Hid (inB s[k] = (letB (S[k]'hlt) || digB (S[k]'hlt))) := by show _ = _; rw [HE.out]; rfl
      have HT := Lib.hid (fun h => in_step hks ht.out h)
      have HN := Lib.hid (fun h => in_no hks h)
      cases hl : letB (S[k]'hlt)
      · rw [hl] at HA HI
        cases hd : digB (S[k]'hlt)
        · rw [hd] at HB HI
          obtain rfl : 71 = R := by rw [← hR.out]; exact (chkN_no (okN_in (HN.out HI.out))).symm
          clear hR HT HN HI HE hl hd HHT ht
          go_wp2_with (first | (go_at_call 179; refine (HA.out _).mono ?_; rintro e w2 ⟨rfl, rfl⟩) | (go_at_call 180; refine (HB.out _).mono ?_; rintro e w2 ⟨rfl, rfl⟩))
          go_ret
          exact ⟨rfl, rfl⟩
        · rw [hd] at HB HI
          have HV := Lib.hid (HT.out HI.out)
          clear HT HN HI HE hl hd
          go_wp2_with (first | (go_at_call 179; refine (HA.out _).mono ?_; rintro e w2 ⟨rfl, rfl⟩) | (go_at_call 180; refine (HB.out _).mono ?_; rintro e w2 ⟨rfl, rfl⟩))
          go_round
          case rel => exact ⟨k + 1, by omega, by go_num, HV⟩
          case measure => simp [intOf]; omega
      · rw [hl] at HA HI
        have HV := Lib.hid (HT.out (by rw [HI.out]; rfl))
        clear HT HN HI HE hl HB
        go_wp2_with (go_at_call 179; refine (HA.out _).mono ?_; rintro e w2 ⟨rfl, rfl⟩)
        go_round
        case rel => exact ⟨k + 1, by omega, by go_num, HV⟩
        case measure => simp [intOf]; omega
    · obtain rfl : 0 = R := by
        rw [← hR.out]
        have e1 := ht.out
        rw [List.take_of_length_le (by rw [← HZ.out]; omega)] at e1
        exact (chkN_ok ((okN_iff s).2 ⟨by rw [← HZ.out]; omega, HHT.out, e1⟩)).symm
      clear hR HHT
      go_wp2
      go_ret
      exact ⟨rfl, rfl⟩

end Go.Proofs.YtifobiajjhknbaaGreatDoor.F

namespace Go.Proofs.YtifobiajjhknbaaGreatDoor.F
open Go.RowKit

/-- A function value, with what it has captured. -/
def askV (g : Nat) (caps : Array Value) : Value := .func (.func g) #[] caps

set_option maxRecDepth 100000 in
set_option maxHeartbeats 2000000 in
theorem every_any (A : Option Addr) (qs : List (Nat × Array Value)) (n c : Nat) (w : World) (hn : Hid (qs.length = n)) (hm : n ≤ 1000) (bs : Nat → Bool) (I : Nat → World → Prop) (J : World → Prop)
    (hcf : Hid (∀ q ∈ qs, ∀ args w, (callFunc q.1 args).run Tryz.prog w = .ok (.enter q.1 args) w))
    (hr : Hid (∀ i W, I i W → Rd W A (qs.map fun q => askV q.1 q.2)))
    (hq : Hid (∀ i (h : i < qs.length) W, I i W → Calls Tryz.prog qs[i].1 qs[i].2 W fun e W' => e = .returned (.bool (bs i)) ∧ (bs i = true → I (i + 1) W') ∧ (bs i = false → J W')))
    (h0 : I 0 w) :
    Calls Tryz.prog 118 #[.slice A n c] w fun e w' => (e = .returned (.bool true) ∧ (∀ i, i < n → bs i = true) ∧ I n w') ∨ (e = .returned (.bool false) ∧ (∃ i, i < n ∧ bs i = false) ∧ J w') := by
  go_enter Tryz.func118, Tryz.ntmps118
  go_wp2
  go_loopw [7] (fun i wr => ∃ k : Nat, k ≤ n ∧ i = .int .i64 k ∧ Hid (∀ j, j < k → bs j = true) ∧ Hid (I k wr)) (fun i _ => n - (intOf i).toNat)
  case atStart => exact ⟨0, Nat.zero_le _, rfl, fun j h => absurd h (by omega), h0⟩
  case round =>
    obtain ⟨k, hk, rfl, ht, hI⟩ := hrel
    clear h0
    by_cases hlt : k < n
    · have hkq : k < qs.length := by rw [hn.out]; exact hlt
      obtain ⟨g0, off, rfl, hc⟩ := hr.out k _ hI.out (by simp; omega)
      have ck := hc k (askV qs[k].1 qs[k].2) (by simp [hkq])
      have hg := hcf.out qs[k] (List.getElem_mem hkq)
      have HQ := Lib.hid (hq.out k hkq _ hI.out)
      clear hc
      generalize qs[k] = q at ck hg HQ
      obtain ⟨g, caps⟩ := q
      dsimp only [askV] at ck hg HQ
      obtain ⟨b, hb⟩ : ∃ b, bs k = b := ⟨_, rfl⟩
      have HB := Lib.hid hb
      rw [hb] at HQ
      clear hb hI
      go_wp2_with fail
      refine HQ.out.mono ?_
      rintro e w1 ⟨rfl, hy, hno⟩
      have HY := Lib.hid hy
      have HNO := Lib.hid hno
      clear hy hno
      cases b
      · go_wp2
        go_ret
        exact .inr ⟨rfl, ⟨k, hlt, HB.out⟩, HNO.out trivial⟩
      · go_wp2
        go_roundw
        case rel => exact ⟨k + 1, by omega, by go_num, fun j hj => (by
          rcases Nat.lt_succ_iff_lt_or_eq.1 hj with h | rfl
          · exact ht.out j h
          · exact HB.out), HY.out trivial⟩
        case measure => simp [intOf]; omega
    · obtain rfl : k = n := by omega
      go_wp2
      go_ret
      exact .inl ⟨rfl, ht.out, hI.out⟩

end Go.Proofs.YtifobiajjhknbaaGreatDoor.F

namespace Go.Proofs.YtifobiajjhknbaaGreatDoor.F
open Go.RowKit W

/-- A question: what checks, and the part, each in a cell of its own. -/
def AskV (k : Nat) (tc tp : TypeId) (chk : Value) (cells : Array Value) (v : Value) (w : World) : Prop :=
  ∃ c p, v = askV k #[.pointer (some ⟨c, 0, none⟩), .pointer (some ⟨p, 0, none⟩)] ∧ Blk w c tc #[chk] ∧ Blk w p tp cells
theorem AskV.keep {k : Nat} {tc tp : TypeId} {chk : Value} {cells : Array Value} {v : Value} {w w' : World} (h : AskV k tc tp chk cells v w) (hk : Keep NoB w w') : AskV k tc tp chk cells v w' := by
  obtain ⟨c, p, e, h1, h2⟩ := h
  exact ⟨c, p, e, h1.keep hk id, h2.keep hk id⟩
/-- A function by its number alone. -/
def fnV (k : Nat) : Value := .func (.func k) #[] #[]

theorem sig_size : (Tryz.prog.info? 32).map (·.size) = some 2 := by kernel_rfl
theorem ret_sig1 {fn : Func} {p : Tmp} {tmps : Array Value} {w : World} {g : Nat} {u v : Value} (h : fn.results = #[.cell p 32]) (hp : tmps.getD p undef = .pointer (some ⟨g, 0, none⟩)) (hb : Blk w g 32 #[u, v]) :
    (results fn tmps).run Tryz.prog w = .ok (.agg #[u, v]) w :=
  results_cell_row h tmps w g 32 #[u, v] (0, 0) _ hp hb Tryz.underlying32 rfl sig_size
set_option maxRecDepth 100000 in
set_option maxHeartbeats 2000000 in
theorem taking_any (L : Option Addr) (nl cl : Nat) (w : World) :
    Calls Tryz.prog 124 #[.slice L nl cl] w fun e w' => e = .returned (.agg #[.slice L nl cl, .slice none 0 0]) ∧ Keep NoB w w' := by
  have bz := Blk.new w 32 #[.slice L nl cl, .slice none 0 0]
  have k0 := (Keep.refl NoB w).alloc (.cells #[.slice L nl cl, .slice none 0 0] 32)
  go_enter Tryz.func124, Tryz.ntmps124
  go_wp2
  refine bodyPost_ret (ret_sig1 rfl rfl bz) rfl ?_
  exact ⟨rfl, k0⟩

set_option maxRecDepth 100000 in
set_option maxHeartbeats 2000000 in
theorem passesFun_any (k : Nat) (v : FV) (w : World) :
    Calls Tryz.prog 119 #[fnV k, v.val] w fun e w' => ∃ u, e = .returned u ∧ AskV 177 107 35 (fnV k) (v.cells) u w' ∧ Keep NoB w w' := by
  have hmf : ∀ (fn : Go.Fn) (first cap : Array Value) (w : World), (Instr.makeFunc fn first cap).run Tryz.prog w = .ok (.func fn first cap) w := fun _ _ _ _ => rfl
  have b1 := (Blk.new w 107 #[fnV k]).alloc (.cells (v.cells) 35)
  have b2 := Blk.new (w.alloc (.cells #[fnV k] 107)) 35 (v.cells)
  rw [World.size_alloc] at b2
  have k0 := ((Keep.refl NoB w).alloc (.cells #[fnV k] 107)).alloc (.cells (v.cells) 35)
  unfold fnV at *
  obtain ⟨S, A, na, ca, B, nb, cb, L, nl, cl, D, nd, cd⟩ := v
  dsimp only [FV.val, FV.cells] at *
  have HB1 := Lib.hid b1
  have HB2 := Lib.hid b2
  have HK := Lib.hid k0
  clear b1 b2 k0
  go_enter Tryz.func119, Tryz.ntmps119
  go_wp2
  go_ret
  exact ⟨_, rfl, ⟨w.heap.size, w.heap.size + 1, rfl, HB1.out, HB2.out⟩, HK.out⟩

set_option maxRecDepth 100000 in
set_option maxHeartbeats 2000000 in
theorem askedFun_any (k : Nat) (hcf : ∀ args w, (callFunc k args).run Tryz.prog w = .ok (.enter k args) w) (v : FV) (c p : Nat) (w : World) (hc : Blk w c 107 #[fnV k]) (hp : Blk w p 35 (v.cells)) (R : Int) (b : Bool) (hb : (R == 0) = b)
    (HG : Hid (Calls Tryz.prog k #[v.val] w fun e w' => e = .returned (.int .i64 R) ∧ Keep NoB w w')) :
    Calls Tryz.prog 177 #[.pointer (some ⟨c, 0, none⟩), .pointer (some ⟨p, 0, none⟩)] w fun e w' => e = .returned (.bool b) ∧ Keep NoB w w' := by
  obtain ⟨S, A, na, ca, B, nb, cb, L, nl, cl, D, nd, cd⟩ := v
  have cc := hc.cell 0
  unfold fnV at cc
  obtain ⟨c0, c1, c2, c3, c4⟩ := blk5 hp
  dsimp only [FV.val] at *
  clear hc hp
  go_enter Tryz.func177, Tryz.ntmps177
  go_wp2_with fail
  refine HG.out.mono ?_
  rintro e w1 ⟨rfl, k1⟩
  go_wp2
  go_ret
  exact ⟨rfl, k1⟩

set_option maxRecDepth 100000 in
set_option maxHeartbeats 2000000 in
theorem passesStr_any (k : Nat) (S : ByteArray) (w : World) :
    Calls Tryz.prog 121 #[fnV k, .string S] w fun e w' => ∃ u, e = .returned u ∧ AskV 178 192 9 (fnV k) (#[.string S]) u w' ∧ Keep NoB w w' := by
  have hmf : ∀ (fn : Go.Fn) (first cap : Array Value) (w : World), (Instr.makeFunc fn first cap).run Tryz.prog w = .ok (.func fn first cap) w := fun _ _ _ _ => rfl
  have b1 := (Blk.new w 192 #[fnV k]).alloc (.cells (#[.string S]) 9)
  have b2 := Blk.new (w.alloc (.cells #[fnV k] 192)) 9 (#[.string S])
  rw [World.size_alloc] at b2
  have k0 := ((Keep.refl NoB w).alloc (.cells #[fnV k] 192)).alloc (.cells (#[.string S]) 9)
  unfold fnV at *
  have HB1 := Lib.hid b1
  have HB2 := Lib.hid b2
  have HK := Lib.hid k0
  clear b1 b2 k0
  go_enter Tryz.func121, Tryz.ntmps121
  go_wp2
  go_ret
  exact ⟨_, rfl, ⟨w.heap.size, w.heap.size + 1, rfl, HB1.out, HB2.out⟩, HK.out⟩

set_option maxRecDepth 100000 in
set_option maxHeartbeats 2000000 in
theorem askedStr_any (k : Nat) (hcf : ∀ args w, (callFunc k args).run Tryz.prog w = .ok (.enter k args) w) (S : ByteArray) (c p : Nat) (w : World) (hc : Blk w c 192 #[fnV k]) (hp : Blk w p 9 (#[.string S])) (R : Int) (b : Bool) (hb : (R == 0) = b)
    (HG : Hid (Calls Tryz.prog k #[.string S] w fun e w' => e = .returned (.int .i64 R) ∧ Keep NoB w w')) :
    Calls Tryz.prog 178 #[.pointer (some ⟨c, 0, none⟩), .pointer (some ⟨p, 0, none⟩)] w fun e w' => e = .returned (.bool b) ∧ Keep NoB w w' := by
  have cc := hc.cell 0
  unfold fnV at cc
  have c0 := hp.cell 0
  clear hc hp
  go_enter Tryz.func178, Tryz.ntmps178
  go_wp2_with fail
  refine HG.out.mono ?_
  rintro e w1 ⟨rfl, k1⟩
  go_wp2
  go_ret
  exact ⟨rfl, k1⟩

set_option maxRecDepth 100000 in
set_option maxHeartbeats 2000000 in
theorem passesSig_any (k : Nat) (x y : Value) (w : World) :
    Calls Tryz.prog 123 #[fnV k, .agg #[x, y]] w fun e w' => ∃ u, e = .returned u ∧ AskV 181 118 32 (fnV k) (#[x, y]) u w' ∧ Keep NoB w w' := by
  have hmf : ∀ (fn : Go.Fn) (first cap : Array Value) (w : World), (Instr.makeFunc fn first cap).run Tryz.prog w = .ok (.func fn first cap) w := fun _ _ _ _ => rfl
  have b1 := (Blk.new w 118 #[fnV k]).alloc (.cells (#[x, y]) 32)
  have b2 := Blk.new (w.alloc (.cells #[fnV k] 118)) 32 (#[x, y])
  rw [World.size_alloc] at b2
  have k0 := ((Keep.refl NoB w).alloc (.cells #[fnV k] 118)).alloc (.cells (#[x, y]) 32)
  unfold fnV at *
  have HB1 := Lib.hid b1
  have HB2 := Lib.hid b2
  have HK := Lib.hid k0
  clear b1 b2 k0
  go_enter Tryz.func123, Tryz.ntmps123
  go_wp2
  go_ret
  exact ⟨_, rfl, ⟨w.heap.size, w.heap.size + 1, rfl, HB1.out, HB2.out⟩, HK.out⟩

set_option maxRecDepth 100000 in
set_option maxHeartbeats 2000000 in
theorem askedSig_any (k : Nat) (hcf : ∀ args w, (callFunc k args).run Tryz.prog w = .ok (.enter k args) w) (x y : Value) (c p : Nat) (w : World) (hc : Blk w c 118 #[fnV k]) (hp : Blk w p 32 (#[x, y])) (R : Int) (b : Bool) (hb : (R == 0) = b)
    (HG : Hid (Calls Tryz.prog k #[.agg #[x, y]] w fun e w' => e = .returned (.int .i64 R) ∧ Keep NoB w w')) :
    Calls Tryz.prog 181 #[.pointer (some ⟨c, 0, none⟩), .pointer (some ⟨p, 0, none⟩)] w fun e w' => e = .returned (.bool b) ∧ Keep NoB w w' := by
  have cc := hc.cell 0
  unfold fnV at cc
  obtain ⟨c0, c1⟩ := S.blk2 hp
  clear hc hp
  go_enter Tryz.func181, Tryz.ntmps181
  go_wp2_with fail
  refine HG.out.mono ?_
  rintro e w1 ⟨rfl, k1⟩
  go_wp2
  go_ret
  exact ⟨rfl, k1⟩

set_option maxRecDepth 100000 in
set_option maxHeartbeats 2000000 in
theorem passesBod_any (k : Nat) (D : Option Addr) (nd cd : Nat) (w : World) :
    Calls Tryz.prog 125 #[fnV k, .slice D nd cd] w fun e w' => ∃ u, e = .returned u ∧ AskV 182 196 33 (fnV k) (#[.slice D nd cd]) u w' ∧ Keep NoB w w' := by
  have hmf : ∀ (fn : Go.Fn) (first cap : Array Value) (w : World), (Instr.makeFunc fn first cap).run Tryz.prog w = .ok (.func fn first cap) w := fun _ _ _ _ => rfl
  have b1 := (Blk.new w 196 #[fnV k]).alloc (.cells (#[.slice D nd cd]) 33)
  have b2 := Blk.new (w.alloc (.cells #[fnV k] 196)) 33 (#[.slice D nd cd])
  rw [World.size_alloc] at b2
  have k0 := ((Keep.refl NoB w).alloc (.cells #[fnV k] 196)).alloc (.cells (#[.slice D nd cd]) 33)
  unfold fnV at *
  have HB1 := Lib.hid b1
  have HB2 := Lib.hid b2
  have HK := Lib.hid k0
  clear b1 b2 k0
  go_enter Tryz.func125, Tryz.ntmps125
  go_wp2
  go_ret
  exact ⟨_, rfl, ⟨w.heap.size, w.heap.size + 1, rfl, HB1.out, HB2.out⟩, HK.out⟩

set_option maxRecDepth 100000 in
set_option maxHeartbeats 2000000 in
theorem askedBod_any (k : Nat) (hcf : ∀ args w, (callFunc k args).run Tryz.prog w = .ok (.enter k args) w) (D : Option Addr) (nd cd : Nat) (c p : Nat) (w : World) (hc : Blk w c 196 #[fnV k]) (hp : Blk w p 33 (#[.slice D nd cd])) (R : Int) (b : Bool) (hb : (R == 0) = b)
    (HG : Hid (Calls Tryz.prog k #[.slice D nd cd] w fun e w' => e = .returned (.int .i64 R) ∧ Keep NoB w w')) :
    Calls Tryz.prog 182 #[.pointer (some ⟨c, 0, none⟩), .pointer (some ⟨p, 0, none⟩)] w fun e w' => e = .returned (.bool b) ∧ Keep NoB w w' := by
  have cc := hc.cell 0
  unfold fnV at cc
  have c0 := hp.cell 0
  clear hc hp
  go_enter Tryz.func182, Tryz.ntmps182
  go_wp2_with fail
  refine HG.out.mono ?_
  rintro e w1 ⟨rfl, k1⟩
  go_wp2
  go_ret
  exact ⟨rfl, k1⟩

end Go.Proofs.YtifobiajjhknbaaGreatDoor.F

namespace Go.Proofs.YtifobiajjhknbaaGreatDoor.F
open Go.RowKit W

/-- A reader: what decodes, the Reel, and where the part goes, each in a cell of its own. -/
def RdV (k : Nat) (tc tp : TypeId) (dec : Value) (rp : Option Addr) (pt : Addr) (v : Value) (w : World) : Prop :=
  ∃ c r q, v = askV k #[.pointer (some ⟨c, 0, none⟩), .pointer (some ⟨r, 0, none⟩), .pointer (some ⟨q, 0, none⟩)] ∧ Blk w c tc #[dec] ∧ Blk w r 183 #[.pointer rp] ∧ Blk w q tp #[.pointer (some pt)]
theorem RdV.keep {k : Nat} {tc tp : TypeId} {dec : Value} {rp : Option Addr} {pt : Addr} {v : Value} {w w' : World} (h : RdV k tc tp dec rp pt v w) (hk : Keep NoB w w') : RdV k tc tp dec rp pt v w' := by
  obtain ⟨c, r, q, e, h1, h2, h3⟩ := h
  exact ⟨c, r, q, e, h1.keep hk id, h2.keep hk id, h3.keep hk id⟩

end Go.Proofs.YtifobiajjhknbaaGreatDoor.F

namespace Go.Proofs.YtifobiajjhknbaaGreatDoor
open Go.RowKit
section
variable {P : Program} {md : Region.Mode} {ops : Array Oper}

/-- The frame as it was, but for the region's slots. -/
def FrameI (a0 : Act) (d0 n : Nat) (a : Act) : Prop := a.defers = a0.defers ∧ a.tmps.size = a0.tmps.size ∧ ∀ s, (s < d0 ∨ d0 + n ≤ s) → a.tmps.getD s undef = a0.tmps.getD s undef

/-- The slots from one on, filled. -/
def fillT (t : Array Value) (d : Nat) : List Value → Array Value
  | [] => t
  | v :: vs => fillT (t.setIfInBounds d v) (d + 1) vs
theorem fillT_size : ∀ (vs : List Value) (t : Array Value) (d : Nat), (fillT t d vs).size = t.size
  | [], _, _ => rfl
  | v :: vs, t, d => by rw [fillT, fillT_size vs]; simp
theorem fillT_get : ∀ (vs : List Value) (t : Array Value) (d : Nat), d + vs.length ≤ t.size → ∀ s, (fillT t d vs).getD s undef = if d ≤ s ∧ s < d + vs.length then vs.getD (s - d) undef else t.getD s undef
  | [], t, d, _, s => by rw [fillT, if_neg (by simp)]
  | v :: vs, t, d, h, s => by
    simp only [List.length_cons] at h
    rw [fillT, fillT_get vs _ _ (by simp; omega)]
    by_cases e : s = d
    · subst e
      rw [if_neg (by omega), if_pos (by constructor <;> simp <;> omega)]
      have hs : s < t.size := by omega
      simp [hs]
    · have hset : (t.setIfInBounds d v).getD s undef = t.getD s undef := by
        simp only [Array.getD_eq_getD_getElem?, Array.getElem?_setIfInBounds]
        rw [if_neg (fun h => e h.symm)]
      rw [hset]
      by_cases h2 : d + 1 ≤ s ∧ s < d + 1 + vs.length
      · rw [if_pos h2, if_pos (by simp; omega), show s - d = (s - (d + 1)) + 1 by omega, List.getD_cons_succ]
      · rw [if_neg h2, if_neg (by simp; omega)]
theorem frame_fill {a0 a : Act} {d0 n : Nat} (h : FrameI a0 d0 n a) (hsz : d0 + n ≤ a0.tmps.size) : a = { tmps := fillT a0.tmps d0 ((List.range n).map fun i => a.tmps.getD (d0 + i) undef), defers := a0.defers } := by
  obtain ⟨h1, h2, h3⟩ := h
  have e : a.tmps = fillT a0.tmps d0 ((List.range n).map fun i => a.tmps.getD (d0 + i) undef) := by
    apply Array.ext
    · rw [fillT_size, h2]
    · intro i hi hi'
      have hg := fillT_get ((List.range n).map fun i => a.tmps.getD (d0 + i) undef) a0.tmps d0 (by simpa using hsz) i
      have e1 : (fillT a0.tmps d0 ((List.range n).map fun i => a.tmps.getD (d0 + i) undef)).getD i undef = (fillT a0.tmps d0 ((List.range n).map fun i => a.tmps.getD (d0 + i) undef))[i] := by rw [Array.getD_eq_getD_getElem?, Array.getElem?_eq_getElem hi']; rfl
      have e2 : a.tmps.getD i undef = a.tmps[i] := by rw [Array.getD_eq_getD_getElem?, Array.getElem?_eq_getElem hi]; rfl
      refine e2.symm.trans (Eq.trans ?_ (hg.symm.trans e1))
      simp only [List.length_map, List.length_range]
      by_cases hh : d0 ≤ i ∧ i < d0 + n
      · rw [if_pos hh]
        have hlt : i - d0 < n := by omega
        rw [List.getD_eq_getElem?_getD, List.getElem?_map, List.getElem?_range hlt]
        simp only [Option.map_some, Option.getD_some]
        rw [show d0 + (i - d0) = i by omega]
      · rw [if_neg hh]; exact h3 i (by omega)
  obtain ⟨t, d⟩ := a
  simp only at e h1 ⊢
  rw [← e, h1]
end
end Go.Proofs.YtifobiajjhknbaaGreatDoor

namespace Go.Proofs.YtifobiajjhknbaaGreatDoor
open Go.RowKit
section
variable {P : Program} {md : Region.Mode} {ops : Array Oper}

/-- Each operation writes the slot of its number (number c may write none), and stands behind earlier ones alone. -/
def propsG (ops : Array Oper) (d0 c : Nat) : Bool := (List.range ops.size).all fun i => match ops[i]? with
  | none => false
  | some o => (match o.dst with
    | none => i == c
    | some d => d == d0 + i) && o.after.all fun e => decide (e.on < i)
theorem propsG_at {d0 c : Nat} (h : propsG ops d0 c = true) {i : Nat} {o : Oper} (ho : ops[i]? = some o) : (o.dst = some (d0 + i) ∨ (o.dst = none ∧ i = c)) ∧ ∀ e ∈ o.after, e.on < i := by
  have hi := (Array.getElem?_eq_some_iff.1 ho).1
  have h1 := List.all_eq_true.1 h i (List.mem_range.2 hi)
  simp only [ho, Bool.and_eq_true] at h1
  obtain ⟨h1, h3⟩ := h1
  refine ⟨?_, fun e he => ?_⟩
  · cases hd : o.dst with
    | none => rw [hd] at h1; exact .inr ⟨rfl, by simpa using h1⟩
    | some d => rw [hd] at h1; exact .inl (by simpa using h1)
  · have := Array.all_eq_true_iff_forall_mem.1 h3 e he
    simpa using this
theorem no_readyG {d0 c : Nat} (hB : propsG ops d0 c = true) {listed : Array Bool} (hs : listed.size = ops.size) (hr : Region.ready md ops listed = []) : ∀ i, i < ops.size → listed.getD i true = true := by
  intro i
  induction i using Nat.strongRecOn with
  | ind i ih =>
    intro hi
    cases hl : listed.getD i true
    · have ho : ops[i]? = some ops[i] := Array.getElem?_eq_getElem hi
      have : i ∈ Region.ready md ops listed := mem_ready.2 ⟨hl, ops[i], ho, fun e he _ => by
        have he2 := (propsG_at hB ho).2 e he
        have h1 := ih e.on he2 (by omega)
        have h2 : e.on < listed.size := by omega
        simpa [h2] using h1⟩
      rw [hr] at this; cases this
    · rfl
/-- Is a guarded operation wanted? -/
theorem wanted_at {o : Oper} {tmps : Array Value} {j d : Nat} {want b : Bool} (hg : o.guard = some (j, want)) (hd : (ops[j]?).bind (·.dst) = some d) (hv : tmps.getD d undef = .bool b) : Region.wanted o (yielded ops tmps) = (b == want) := by
  have ht : tmps[d]? = some (.bool b) := by
    rw [Array.getD_eq_getD_getElem?] at hv
    cases h : tmps[d]? with
    | none => rw [h] at hv; simp [undef] at hv
    | some x => rw [h] at hv; simp at hv; rw [hv]
  unfold Region.wanted
  rw [hg]
  simp only [yielded, hd, Option.bind_some, ht]
  cases b <;> cases want <;> rfl
theorem yieldsR_mono {R R' : Value → World → Prop} (h : ∀ u w, R u w → R' u w) : ∀ (P : Program) (r : Result Next), yieldsR R P r → yieldsR R' P r := by
  intro P r hr
  cases r with
  | ok n w =>
    cases n with
    | value u => exact h _ _ hr
    | skip => exact h _ _ hr
    | enter f args => exact Calls.mono hr fun e w'' ⟨u, e1, h2⟩ => ⟨u, e1, h _ _ h2⟩
    | _ => exact hr.elim
  | _ => exact hr.elim
/-- What an operation does: it yields a value, or isn't wanted. -/
def Does (P : Program) (ops : Array Oper) (o : Oper) (a : Act) (w : World) (R : Value → World → Prop) : Prop :=
  (Region.wanted o (yielded ops a.tmps) = true ∧ yieldsK P o a w R) ∨ (Region.wanted o (yielded ops a.tmps) = false ∧ R undef w)
theorem Does.plain {o : Oper} {a : Act} {w : World} {R : Value → World → Prop} (hg : o.guard = none) (h : yieldsK P o a w R) : Does P ops o a w R := .inl ⟨by unfold Region.wanted; rw [hg], h⟩
theorem Does.yes {o : Oper} {a : Act} {w : World} {R : Value → World → Prop} {j d : Nat} {want : Bool} (hg : o.guard = some (j, want)) (hd : (ops[j]?).bind (·.dst) = some d) (hv : a.tmps.getD d undef = .bool want) (h : yieldsK P o a w R) : Does P ops o a w R :=
  .inl ⟨by rw [wanted_at hg hd hv]; cases want <;> rfl, h⟩
theorem Does.no {o : Oper} {a : Act} {w : World} {R : Value → World → Prop} {j d : Nat} {want : Bool} (hg : o.guard = some (j, want)) (hd : (ops[j]?).bind (·.dst) = some d) (hv : a.tmps.getD d undef = .bool (!want)) (h : R undef w) : Does P ops o a w R :=
  .inr ⟨by rw [wanted_at hg hd hv]; cases want <;> rfl, h⟩

theorem wpAny_props2 {Q : Exit → Act → World → Prop} (d0 c : Nat) (O : Nat → Prop) (hB : propsG ops d0 c = true) (S : Nat → Value → World → Prop) (w0 : World) (a0 : Act) (hS : ∀ i v w w', Keep O w0 w → S i v w → Keep O w w' → S i v w') (hsz : d0 + ops.size ≤ a0.tmps.size)
    (hstep : ∀ i o (a : Act) (w : World), ops[i]? = some o → i ≠ c → FrameI a0 d0 ops.size a → Keep O w0 w → (∀ e ∈ o.after, Region.binds md e = true → S e.on (a.tmps.getD (d0 + e.on) undef) w) → Does P ops o a w fun u w' => S i u w' ∧ Keep NoB w w')
    (hspec : ∀ o (a : Act) (w : World), ops[c]? = some o → FrameI a0 d0 ops.size a → Keep NoB w0 w → (∀ e ∈ o.after, Region.binds md e = true → S e.on (a.tmps.getD (d0 + e.on) undef) w) → Does P ops o a w fun u w' => (∀ v, (o.dst.isSome = true → v = u) → S c v w') ∧ Keep O w w')
    (hend : ∀ (a : Act) (w : World), FrameI a0 d0 ops.size a → Keep O w0 w → (∀ i, i < ops.size → S i (a.tmps.getD (d0 + i) undef) w) → Q .normal a w) :
    ∀ (fuel : Nat) (listed : Array Bool) (a : Act) (w : World), listed.size = ops.size → (∃ L : List Nat, L.length ≤ fuel ∧ ∀ i, i < ops.size → listed.getD i true = false → i ∈ L) → FrameI a0 d0 ops.size a → Keep O w0 w → (listed.getD c true = false → Keep NoB w0 w) →
      (∀ i, i < ops.size → listed.getD i true = true → S i (a.tmps.getD (d0 + i) undef) w) → wpAny P md ops Q fuel listed a w := by
  have hNO : ∀ {X Y : World}, Keep NoB X Y → Keep O X Y := fun h => h.mono (fun _ hf _ => hf.elim)
  intro fuel
  induction fuel with
  | zero =>
    intro listed a w hs ⟨L, hL, hin⟩ hF hK hC hA
    obtain rfl : L = [] := List.length_eq_zero_iff.1 (by omega)
    have hall : ∀ i, i < ops.size → listed.getD i true = true := fun i hi => by
      cases h : listed.getD i true
      · cases hin i hi h
      · rfl
    refine ⟨?_, hend a w hF hK fun i hi => hA i hi (hall i hi)⟩
    rw [List.eq_nil_iff_forall_not_mem]
    intro i hi
    obtain ⟨h1, o, ho, _⟩ := mem_ready.1 hi
    rw [hall i (Array.getElem?_eq_some_iff.1 ho).1] at h1; cases h1
  | succ fuel ih =>
    intro listed a w hs ⟨L, hL, hin⟩ hF hK hC hA
    refine ⟨fun h0 => hend a w hF hK fun i hi => hA i hi (no_readyG hB hs h0 i hi), fun i hi => ?_⟩
    obtain ⟨h1, o, ho, hall⟩ := mem_ready.1 hi
    have hi' := (Array.getElem?_eq_some_iff.1 ho).1
    obtain ⟨hd, hlt⟩ := propsG_at hB ho
    have hdeps : ∀ e ∈ o.after, Region.binds md e = true → S e.on (a.tmps.getD (d0 + e.on) undef) w := fun e he hb => by
      have h2 := hall e he hb
      have h3 := hlt e he
      refine hA e.on (by omega) ?_
      have h4 : e.on < listed.size := by omega
      simpa [h4] using h2
    have hKO : (if i = c then Keep NoB w0 w else True) := by
      split
      · rename_i e; subst e; exact hC h1
      · trivial
    have hdoes : Does P ops o a w fun u w' => (∀ v, (o.dst.isSome = true → v = u) → S i v w') ∧ Keep O w w' ∧ (i ≠ c → Keep NoB w w') := by
      by_cases e : i = c
      · subst e
        rw [if_pos rfl] at hKO
        rcases hspec o a w ho hF hKO hdeps with ⟨hw, hy⟩ | ⟨hw, h2, h3⟩
        · refine .inl ⟨hw, ?_⟩
          unfold yieldsK at hy ⊢
          exact yieldsR_mono (fun u w' ⟨h2, h3⟩ => ⟨h2, h3, fun h => absurd rfl h⟩) _ _ hy
        · exact .inr ⟨hw, h2, h3, fun h => absurd rfl h⟩
      · have hsome : o.dst.isSome = true := by
          rcases hd with h | ⟨_, h⟩
          · rw [h]; rfl
          · exact absurd h e
        rcases hstep i o a w ho e hF hK hdeps with ⟨hw, hy⟩ | ⟨hw, h2, h3⟩
        · refine .inl ⟨hw, ?_⟩
          unfold yieldsK at hy ⊢
          exact yieldsR_mono (fun u w' ⟨h2, h3⟩ => ⟨fun v hv => by rw [hv hsome]; exact h2, hNO h3, fun _ => h3⟩) _ _ hy
        · exact .inr ⟨hw, fun v hv => by rw [hv hsome]; exact h2, hNO h3, fun _ => h3⟩
    have hnext : ∀ u w', (∀ v, (o.dst.isSome = true → v = u) → S i v w') → Keep O w w' → (i ≠ c → Keep NoB w w') → wpAny P md ops Q fuel (listed.setIfInBounds i true) (a.put o.dst u) w' := by
      intro u w' hSu hk hkn
      have hfr : FrameI a0 d0 ops.size (a.put o.dst u) ∧ (∀ k, k < ops.size → k ≠ i → (a.put o.dst u).tmps.getD (d0 + k) undef = a.tmps.getD (d0 + k) undef) ∧ (o.dst.isSome = true → (a.put o.dst u).tmps.getD (d0 + i) undef = u) := by
        rcases hd with hd | ⟨hd, _⟩
        · rw [hd]
          have hds : d0 + i < a.tmps.size := by rw [hF.2.1]; omega
          have hget : ∀ s, (a.put (some (d0 + i)) u).tmps.getD s undef = if s = d0 + i then u else a.tmps.getD s undef := fun s => by
            unfold Act.put
            by_cases e : s = d0 + i
            · subst e; simp [hds]
            · rw [if_neg e]
              simp only [Array.getD_eq_getD_getElem?, Array.getElem?_setIfInBounds]
              rw [if_neg (fun h => e h.symm)]
          refine ⟨⟨hF.1, by unfold Act.put; simpa using hF.2.1, fun s hs' => ?_⟩, fun k hk' hki => ?_, fun _ => ?_⟩
          · rw [hget, if_neg (by omega)]; exact hF.2.2 s hs'
          · rw [hget, if_neg (by omega)]
          · rw [hget, if_pos rfl]
        · rw [hd]
          exact ⟨hF, fun _ _ _ => rfl, fun h => by cases h⟩
      obtain ⟨hF', hother, hself⟩ := hfr
      refine ih (listed.setIfInBounds i true) _ w' (by simpa using hs) ⟨L.erase i, ?_, fun k hk' hl => ?_⟩ hF' (hK.trans hk (fun _ h _ => h)) (fun hl => ?_) fun k hk' hl => ?_
      · rw [List.length_erase_of_mem (hin i hi' h1)]; omega
      · have hki : k ≠ i := by
          rintro rfl
          have : k < listed.size := by omega
          simp [this] at hl
        have hl2 : listed.getD k true = false := by rw [getD_set_ne true (Ne.symm hki)] at hl; exact hl
        exact (List.mem_erase_of_ne hki).2 (hin k hk' hl2)
      · have hci : c ≠ i := by
          rintro rfl
          have : c < listed.size := by omega
          simp [this] at hl
        rw [getD_set_ne true (Ne.symm hci)] at hl
        exact keepN (hC hl) (hkn (Ne.symm hci))
      · by_cases e : k = i
        · subst e
          exact hSu _ hself
        · rw [hother k hk' e]
          exact hS k _ _ _ hK (hA k hk' (by rw [getD_set_ne true (Ne.symm e)] at hl; exact hl)) hk
    unfold wpOp
    simp only [ho]
    rcases hdoes with ⟨hw, hy⟩ | ⟨hw, h2, h3, h4⟩
    · rw [if_pos hw]
      exact .inl (Oper.wp_of_yields hy fun u w' ⟨h2, h3, h4⟩ => hnext u w' h2 h3 h4)
    · rw [if_neg (by rw [hw]; decide)]
      exact hnext undef w h2 h3 h4
theorem wp_region_props2 {id : Nat} {Q : Exit → Act → World → Prop} {a0 : Act} {w : World} (d0 c : Nat) (O : Nat → Prop) (hm : P.follows .mixedOrders = true) (hB : propsG ops d0 c = true) (S : Nat → Value → World → Prop) (hS : ∀ i v w1 w', Keep O w w1 → S i v w1 → Keep O w1 w' → S i v w') (hsz : d0 + ops.size ≤ a0.tmps.size)
    (hstep : ∀ i o (a : Act) (w' : World), ops[i]? = some o → i ≠ c → FrameI a0 d0 ops.size a → Keep O w w' → (∀ e ∈ o.after, Region.binds .any e = true → S e.on (a.tmps.getD (d0 + e.on) undef) w') → Does P ops o a w' fun u w'' => S i u w'' ∧ Keep NoB w' w'')
    (hspec : ∀ o (a : Act) (w' : World), ops[c]? = some o → FrameI a0 d0 ops.size a → Keep NoB w w' → (∀ e ∈ o.after, Region.binds .any e = true → S e.on (a.tmps.getD (d0 + e.on) undef) w') → Does P ops o a w' fun u w'' => (∀ v, (o.dst.isSome = true → v = u) → S c v w'') ∧ Keep O w' w'')
    (hend : ∀ (a : Act) (w' : World), FrameI a0 d0 ops.size a → Keep O w w' → (∀ i, i < ops.size → S i (a.tmps.getD (d0 + i) undef) w') → Q .normal a w') : (Code.region id ops true).wp P Q a0 w :=
  wp_region_any hm (wpAny_props2 d0 c O hB S w a0 hS hsz hstep hspec hend _ _ a0 w.drew (by simp) ⟨List.range ops.size, by simp, fun i hi _ => List.mem_range.2 hi⟩ ⟨rfl, rfl, fun _ _ => rfl⟩ (Keep.refl O w).drew (fun _ => (Keep.refl NoB w).drew) fun i hi hl => by
    simp [hi] at hl)
end
end Go.Proofs.YtifobiajjhknbaaGreatDoor

namespace Go.Proofs.YtifobiajjhknbaaGreatDoor.F
open Go.RowKit W

/-- What each of the questions is answered. -/
def bsF (v : FV) (f : Fu) (i : Nat) : Bool := match i with
  | 0 => decide (v.na + v.nb + v.nl ≤ 64)
  | 1 => okN f.nm
  | 2 => S.okG f.ar f.rs
  | 3 => S.okG f.lc []
  | _ => C.okB f.bd
theorem bsF_all {v : FV} {f : Fu} {w : World} (h : FnAt w v f) (hb : ∀ i, i < 5 → bsF v f i = true) : okF f = true := by
  have h0 := of_decide_eq_true (hb 0 (by omega))
  have h1 : okN f.nm = true := hb 1 (by omega)
  have h2 : S.okG f.ar f.rs = true := hb 2 (by omega)
  have h3 : S.okG f.lc [] = true := hb 3 (by omega)
  have h4 : C.okB f.bd = true := hb 4 (by omega)
  rw [← h.la, ← h.lb, ← h.ll] at h0
  exact (okF_iff f).2 ⟨h1, h2, ((okG_one _).1 h3).2, h4, h0⟩
theorem bsF_not {v : FV} {f : Fu} {w : World} (h : FnAt w v f) (hb : ∃ i, i < 5 ∧ bsF v f i = false) : okF f = false := by
  refine okF_not fun ⟨h1, h2, h3, h4, h5⟩ => ?_
  obtain ⟨i, hi, hb⟩ := hb
  rw [h.la, h.lb, h.ll] at h5
  have hl : S.okG f.lc [] = true := (okG_one _).2 ⟨by rw [h.ll]; omega, h3⟩
  have hi : i = 0 ∨ i = 1 ∨ i = 2 ∨ i = 3 ∨ i = 4 := by omega
  rcases hi with rfl | rfl | rfl | rfl | rfl
  · exact absurd h5 (of_decide_eq_false hb)
  · rw [show bsF v f 1 = okN f.nm from rfl, h1] at hb; cases hb
  · rw [show bsF v f 2 = S.okG f.ar f.rs from rfl, h2] at hb; cases hb
  · rw [show bsF v f 3 = S.okG f.lc [] from rfl, hl] at hb; cases hb
  · rw [show bsF v f 4 = C.okB f.bd from rfl, h4] at hb; cases hb
theorem few_eq (v : FV) (f : Fu) : (((if v.na + v.nb + v.nl ≤ 64 then (0 : Int) else 70)) == 0) = bsF v f 0 := by
  show _ = decide _
  by_cases h : v.na + v.nb + v.nl ≤ 64
  · rw [if_pos h, decide_eq_true h]; rfl
  · rw [if_neg h, decide_eq_false h]; rfl
theorem chkN_eq (s : List UInt8) : (chkN s == 0) = okN s := by
  cases h : okN s
  · rw [chkN_no h]; rfl
  · rw [chkN_ok h]; rfl
theorem chkG_eq (a r : List Int) : (S.chkG a r == 0) = S.okG a r := by
  cases h : S.okG a r
  · rw [S.chkG_no h]; rfl
  · rw [S.chkG_ok h]; rfl
theorem chkB_eq (l : List C.I3) : (C.chkB l == 0) = C.okB l := by
  cases h : C.okB l
  · rw [C.chkB_no h]; rfl
  · rw [C.chkB_ok h]; rfl
/-- What the values are that Check's region yields. -/
def SC (v : FV) (f : Fu) (b : Nat) : Nat → Value → World → Prop
  | 0 => fun u _ => u = v.val
  | 1 => AskV 177 107 35 (fnV 120) (v.cells)
  | 2 => fun u _ => u = .pointer (some ⟨b, 0, none⟩)
  | 3 => fun u _ => u = .string v.S
  | 4 => AskV 178 192 9 (fnV 122) (#[.string v.S])
  | 5 => fun u _ => u = .pointer (some ⟨b, 1, none⟩)
  | 6 => fun u _ => u = .agg #[.slice v.A v.na v.ca, .slice v.B v.nb v.cb]
  | 7 => AskV 181 118 32 (fnV 57) (#[.slice v.A v.na v.ca, .slice v.B v.nb v.cb])
  | 8 => fun u _ => u = .pointer (some ⟨b, 3, none⟩)
  | 9 => fun u _ => u = .slice v.L v.nl v.cl
  | 10 => fun u _ => u = .agg #[.slice v.L v.nl v.cl, .slice none 0 0]
  | 11 => AskV 181 118 32 (fnV 57) (#[.slice v.L v.nl v.cl, .slice none 0 0])
  | 12 => fun u _ => u = .pointer (some ⟨b, 4, none⟩)
  | 13 => fun u _ => u = .slice v.D v.nd v.cd
  | 14 => AskV 182 196 33 (fnV 126) (#[.slice v.D v.nd v.cd])
  | 15 => fun u w => ∃ g u0 u1 u2 u3 u4, u = .slice (some ⟨g, 0, none⟩) 5 5 ∧ Blk w g 44 #[u0, u1, u2, u3, u4] ∧ AskV 177 107 35 (fnV 120) (v.cells) u0 w ∧ AskV 178 192 9 (fnV 122) (#[.string v.S]) u1 w ∧ AskV 181 118 32 (fnV 57) (#[.slice v.A v.na v.ca, .slice v.B v.nb v.cb]) u2 w ∧ AskV 181 118 32 (fnV 57) (#[.slice v.L v.nl v.cl, .slice none 0 0]) u3 w ∧ AskV 182 196 33 (fnV 126) (#[.slice v.D v.nd v.cd]) u4 w
  | 16 => fun u _ => u = .bool (okF f)
  | 17 => fun u _ => u = .bool (!okF f)
  | _ => fun _ _ => True
theorem SC_stable (v : FV) (f : Fu) (b : Nat) : ∀ i u w w', SC v f b i u w → Keep NoB w w' → SC v f b i u w'
  | 0, _, _, _, h, _ => h
  | 1, _, _, _, h, hk => AskV.keep h hk
  | 2, _, _, _, h, _ => h
  | 3, _, _, _, h, _ => h
  | 4, _, _, _, h, hk => AskV.keep h hk
  | 5, _, _, _, h, _ => h
  | 6, _, _, _, h, _ => h
  | 7, _, _, _, h, hk => AskV.keep h hk
  | 8, _, _, _, h, _ => h
  | 9, _, _, _, h, _ => h
  | 10, _, _, _, h, _ => h
  | 11, _, _, _, h, hk => AskV.keep h hk
  | 12, _, _, _, h, _ => h
  | 13, _, _, _, h, _ => h
  | 14, _, _, _, h, hk => AskV.keep h hk
  | 15, _, _, _, ⟨g, u0, u1, u2, u3, u4, e, hb, a0, a1, a2, a3, a4⟩, hk => ⟨g, u0, u1, u2, u3, u4, e, hb.keep hk id, a0.keep hk, a1.keep hk, a2.keep hk, a3.keep hk, a4.keep hk⟩
  | 16, _, _, _, h, _ => h
  | 17, _, _, _, h, _ => h
  | _ + 18, _, _, _, h, _ => h

end Go.Proofs.YtifobiajjhknbaaGreatDoor.F

namespace Go.Proofs.YtifobiajjhknbaaGreatDoor.F
open Go.RowKit W

/-- A function that is small, and reads as one. -/
def FnV (f : Fu) (v : FV) (w : World) : Prop := FnAt w v f ∧ SmF v
theorem FnV.keepN {f : Fu} {v : FV} {w w' : World} (h : FnV f v w) (hk : Keep NoB w w') : FnV f v w' := ⟨h.1.keepN hk, h.2⟩
end Go.Proofs.YtifobiajjhknbaaGreatDoor.F

namespace Go.Proofs.YtifobiajjhknbaaGreatDoor.C
open Go.RowKit O

end Go.Proofs.YtifobiajjhknbaaGreatDoor.C

namespace Go.Proofs.YtifobiajjhknbaaGreatDoor.C
open Go.RowKit O

/-! ### counts -/
/-! ### stretches -/
end Go.Proofs.YtifobiajjhknbaaGreatDoor.C

namespace Go.Proofs.YtifobiajjhknbaaGreatDoor.C
open Go.RowKit O

end Go.Proofs.YtifobiajjhknbaaGreatDoor.C

namespace Go.Proofs.YtifobiajjhknbaaGreatDoor.C
open Go.RowKit O

end Go.Proofs.YtifobiajjhknbaaGreatDoor.C

namespace Go.Proofs.YtifobiajjhknbaaGreatDoor.C
open Go.RowKit O

end Go.Proofs.YtifobiajjhknbaaGreatDoor.C

namespace Go.Proofs.YtifobiajjhknbaaGreatDoor.O
open Go.RowKit

theorem num_case (l : List UInt8) (p M : Nat) : ∃ n r q : Nat, V.NumR l p M = (n, r, q) ∧ (r = 0 → n ≤ M ∧ n < 18446744073709551616) ∧ (r ≠ 0 → n = 0) := by
  refine ⟨_, _, _, rfl, fun h => ?_, fun h => ?_⟩
  · have := num_ok (l := l) (p := p) (m := M) h; exact ⟨this.2.1, this.2.2.1⟩
  · exact (V.bnd_zero (l.drop p) M h).1
theorem hi_nat {k : Int} (h1 : k ≠ 1) : ∃ M : Nat, hi k = (M : Int) ∧ M ≤ 511 := by
  refine ⟨(hi k).toNat, ?_, ?_⟩ <;> unfold hi <;> rw [if_neg h1] <;> repeat' split
  all_goals simp
theorem keepBr {w w1 w2 : World} {br : Nat} (h : Keep NoB w w1) (h2 : Keep (fun k => k = br) w1 w2) : Keep (fun k => k = br) w w2 := (h.mono (fun _ hf _ => hf.elim)).trans h2 (fun _ ho _ => ho)
theorem blk5 {w : World} {g : Nat} {t : TypeId} {a0 a1 a2 a3 a4 : Value} (h : Blk w g t #[a0, a1, a2, a3, a4]) :
    w.cell? ⟨g, 0, none⟩ = some a0 ∧ w.cell? ⟨g, 1, none⟩ = some a1 ∧ w.cell? ⟨g, 2, none⟩ = some a2 ∧ w.cell? ⟨g, 3, none⟩ = some a3 ∧ w.cell? ⟨g, 4, none⟩ = some a4 := ⟨h.cell 0, h.cell 1, h.cell 2, h.cell 3, h.cell 4⟩
theorem reel_lt {w : World} {br p : Nat} {O : Nat → Prop} {l : List UInt8} (h : V.ReelAt w br O l p) : br < w.heap.size := by
  obtain ⟨A, c, hb, _⟩ := h.cells
  exact hb.lt

set_option maxHeartbeats 2000000 in
theorem read_any (k : Int) (sh gu : Value) (w : World) (br : Nat) (O : Nat → Prop) (l : List UInt8) (p : Nat) (h : V.ReelAt w br O l p) (hlen : l.length ≤ 140737488355328) :
    Calls Tryz.prog 228 #[opV k sh gu, .pointer (some ⟨br, 0, none⟩)] w (V.Reads w br O l (decP k l p).2.2 (.int .i64 (decP k l p).1) (decP k l p).2.1) := by
  have hK := (Keep.refl NoB w).alloc (.cells #[.int .i64 k, .int .i64 (lo k), .int .i64 (hi k), sh, gu] 134)
  have h1 := h.keep hK (fun _ _ => id)
  have hb0 := Blk.new w 134 #[.int .i64 k, .int .i64 (lo k), .int .i64 (hi k), sh, gu]
  have hbr := reel_lt h
  unfold opV
  by_cases h0 : k = 0
  · subst h0
    have HX : Hid (decP 0 l p = (0, 0, p)) := rfl
    clear hb0 hbr
    go_enter Tryz.func228, Tryz.ntmps228
    go_wp2
    go_ret2
    rw [HX.out]
    exact ⟨rfl, h1, hK.mono (fun _ hf _ => hf.elim)⟩
  · have q0 : (k == 0) = false := by rw [beq_eq_false_iff_ne]; exact h0
    by_cases h1k : k = 1
    · subst h1k
      have HS := Lib.hid (V.rsigned_any _ br O l p (lo 1) (hi 1) h1 hlen)
      have HX : Hid (decP 1 l p = V.SigR l p (lo 1) (hi 1)) := rfl
      rw [HX.out]
      generalize V.SigR l p (lo 1) (hi 1) = x at HS ⊢
      clear HX h h1 hb0 hbr
      go_enter Tryz.func228, Tryz.ntmps228
      go_wp2_with fail
      refine HS.out.mono ?_
      rintro e w1 ⟨rfl, h2, k2⟩
      go_wp2
      go_ret2
      exact ⟨rfl, h2, keepBr hK k2⟩
    · have q1 : (k == 1) = false := by rw [beq_eq_false_iff_ne]; exact h1k
      obtain ⟨M, hM, hM5⟩ := hi_nat h1k
      have hw : IntKind.u64.wrap (M : Int) = (M : Int) := by simp [IntKind.wrap, IntKind.bits, IntKind.signed]; omega
      have HS := Lib.hid (V.rnumber_any _ br O l p M h1 hlen)
      obtain ⟨n, r, q, hN, hN0, hN1⟩ := num_case l p M
      have HX : Hid (decP k l p = if r ≠ 0 then (0, r, q) else if inK k n = true then ((n : Int), 0, q) else (0, 40, q)) := by
        show _ = _
        unfold decP
        rw [if_neg h0, if_neg h1k, show (hi k).toNat = M by omega, hN]
      rw [hN] at HS
      have HG := Lib.hid (fun w t ht => has_gen k (n : Int) (opV k sh gu) t w ht ⟨sh, gu, rfl⟩)
      unfold opV at HG
      rw [hM] at hb0 HG HS ⊢
      have hK' : Keep NoB w (w.alloc (.cells #[.int .i64 k, .int .i64 (lo k), .int .i64 (M : Int), sh, gu] 134)) := (Keep.refl NoB w).alloc _
      clear h h1 hK hN hM
      by_cases hr : r = 0
      · subst hr
        obtain ⟨hn1, hn2⟩ := hN0 rfl
        have hwn : IntKind.i64.wrap (n : Int) = (n : Int) := by simp [IntKind.wrap, IntKind.bits, IntKind.signed]; omega
        clear hN0 hN1
        cases hin : inK k (n : Int)
        · have HX2 : Hid (decP k l p = (0, 40, q)) := by show _ = _; rw [HX.out, hin]; simp
          have HH := Lib.hid (fun w => HG.out w false hin)
          clear HX HG hin
          go_enter Tryz.func228, Tryz.ntmps228
          go_wp2_with fail
          refine HS.out.mono ?_
          rintro e w1 ⟨rfl, h2, k2⟩
          have b1 := hb0.keep k2 (fun e => by omega)
          obtain ⟨c0, c1, c2, c3, c4⟩ := blk5 b1
          go_wp2_with fail
          refine (HH.out _).mono ?_
          rintro e w2 ⟨rfl, k3⟩
          go_wp2
          go_ret2
          rw [HX2.out]
          exact ⟨rfl, h2.keep k3 (fun _ _ => id), (keepBr hK' k2).trans (k3.mono (fun _ hf _ => hf.elim)) (fun _ ho _ => ho)⟩
        · have HX2 : Hid (decP k l p = ((n : Int), 0, q)) := by show _ = _; rw [HX.out, hin]; simp
          have HH := Lib.hid (fun w => HG.out w true hin)
          clear HX HG hin
          go_enter Tryz.func228, Tryz.ntmps228
          go_wp2_with fail
          refine HS.out.mono ?_
          rintro e w1 ⟨rfl, h2, k2⟩
          have b1 := hb0.keep k2 (fun e => by omega)
          obtain ⟨c0, c1, c2, c3, c4⟩ := blk5 b1
          go_wp2_with fail
          refine (HH.out _).mono ?_
          rintro e w2 ⟨rfl, k3⟩
          go_wp2
          go_ret2
          rw [HX2.out]
          exact ⟨rfl, h2.keep k3 (fun _ _ => id), (keepBr hK' k2).trans (k3.mono (fun _ hf _ => hf.elim)) (fun _ ho _ => ho)⟩
      · have hr1 : ((r : Int) != 0) = true := by rw [bne_iff_ne]; omega
        have HX2 : Hid (decP k l p = (0, r, q)) := by show _ = _; rw [HX.out, if_pos hr]
        clear HX HG hN0 hN1 hr
        go_enter Tryz.func228, Tryz.ntmps228
        go_wp2_with fail
        refine HS.out.mono ?_
        rintro e w1 ⟨rfl, h2, k2⟩
        have b1 := hb0.keep k2 (fun e => by omega)
        obtain ⟨c0, c1, c2, c3, c4⟩ := blk5 b1
        go_wp2
        go_ret2
        rw [HX2.out]
        exact ⟨rfl, h2, keepBr hK' k2⟩

/-! ### Decode -/

end Go.Proofs.YtifobiajjhknbaaGreatDoor.O

namespace Go.Proofs.YtifobiajjhknbaaGreatDoor.O
open Go.RowKit

end Go.Proofs.YtifobiajjhknbaaGreatDoor.O

namespace Go.Proofs.YtifobiajjhknbaaGreatDoor.C
open Go.RowKit O

end Go.Proofs.YtifobiajjhknbaaGreatDoor.C

namespace Go.Proofs.YtifobiajjhknbaaGreatDoor.C
open Go.RowKit O

/-- The numbers of what is read fit. -/
theorem ok1_I {x : I3} (h : ok1 x = true) : O.I64 x.2.1 ∧ O.I64 x.2.2 := ⟨(in_bounds (ok_op h).2.1).1, (in_bounds (ok_op h).2.2).1⟩
end Go.Proofs.YtifobiajjhknbaaGreatDoor.C

namespace Go.Proofs.YtifobiajjhknbaaGreatDoor.F
open Go.RowKit W

/-- A function whose lists are owned: each lies in a block of P. -/
structure OwnF (W : World) (P : Nat → Prop) (v : FV) (f : Fu) : Prop where
  nm : v.S.data.toList = f.nm
  oa : Own W 3 1 P (.slice v.A v.na v.ca) v.na (ivs f.ar)
  ob : Own W 3 1 P (.slice v.B v.nb v.cb) v.nb (ivs f.rs)
  ol : Own W 3 1 P (.slice v.L v.nl v.cl) v.nl (ivs f.lc)
  od : Own W 37 3 P (.slice v.D v.nd v.cd) v.nd (C.iis f.bd)
  hI : C.AllI f.bd
theorem OwnF.keep {W W' : World} {P O : Nat → Prop} {v : FV} {f : Fu} (h : OwnF W P v f) (hk : Keep O W W') (hn : ∀ k, P k → ¬ O k) : OwnF W' P v f :=
  ⟨h.nm, h.oa.keep hk hn, h.ob.keep hk hn, h.ol.keep hk hn, h.od.keep hk hn, h.hI⟩
theorem OwnF.keepN {W W' : World} {P : Nat → Prop} {v : FV} {f : Fu} (h : OwnF W P v f) (hk : Keep NoB W W') : OwnF W' P v f := h.keep hk (fun _ _ => id)
theorem OwnF.mono {W : World} {P P' : Nat → Prop} {v : FV} {f : Fu} (h : OwnF W P v f) (hP : ∀ k, P k → k < W.heap.size → P' k) : OwnF W P' v f :=
  ⟨h.nm, h.oa.mono hP, h.ob.mono hP, h.ol.mono hP, h.od.mono hP, h.hI⟩
theorem own_rdS {w : World} {E size n : Nat} {P : Nat → Prop} {A : Option Addr} {c : Nat} {xs : List Value} (h : Own w E size P (.slice A n c) n xs) : Rd w A xs := by
  obtain ⟨A', c', e, _, _, hr, _⟩ := h.form
  injection e with e1 e2 e3
  subst e1; exact hr
theorem own_lenD {w : World} {O : Nat → Prop} {v : Value} {l : List C.I3} {n : Nat} (h : Own w 37 3 O v n (C.iis l)) : l.length = n := by have := h.1.1; rw [C.iis_length] at this; omega
theorem OwnF.fn {W : World} {P : Nat → Prop} {v : FV} {f : Fu} (h : OwnF W P v f) : FnAt W v f :=
  ⟨h.nm, own_rdS h.oa, own_rdS h.ob, own_rdS h.ol, own_rdS h.od, own_len h.oa, own_len h.ob, own_len h.ol, own_lenD h.od, h.hI⟩
/-- What has been read so far. -/
structure Prt (w0 : World) (F : Nat) (O : Nat → Prop) (At : World → Nat → Prop) (f : Fu) (q : Nat) (v : FV) (W : World) : Prop where
  blk : Blk W F 35 v.cells
  own : OwnF W (Fresh w0) v f
  at_ : At W q
  keep : Keep (fun k => k = F ∨ O k) w0 W
theorem Prt.put {w0 W w1 W' : World} {F q q' : Nat} {O : Nat → Prop} {At : World → Nat → Prop} {f f' : Fu} {v v' : FV} (h : Prt w0 F O At f q v W) (hF : F < w0.heap.size)
    (hAt : ∀ w w' q, At w q → Keep (fun k => k = F) w w' → At w' q) (k1 : Keep O W w1) (hv : OwnF w1 (Fresh w0) v' f') (hat : At w1 q') (k2 : Keep (fun k => k = F) w1 W') (hb : Blk W' F 35 v'.cells) : Prt w0 F O At f' q' v' W' :=
  ⟨hb, hv.keep k2 (fun k hk e => by subst e; unfold Fresh at hk; omega), hAt _ _ _ hat k2, (h.keep.trans k1 (fun k ho _ => .inr ho)).trans k2 (fun k e _ => .inl e)⟩

/-- The function so far, part by part. -/
def stN (l : List UInt8) (x : Fu × Nat) : Option (Fu × Nat) := (nmR l x.2).map fun a => ({ x.1 with nm := a.1 }, a.2)
def stG (l : List UInt8) (x : Fu × Nat) : Option (Fu × Nat) := (S.decG l x.2).map fun g => ({ x.1 with ar := g.1.1, rs := g.1.2 }, g.2)
def stL (l : List UInt8) (x : Fu × Nat) : Option (Fu × Nat) := (lcR l x.2).map fun c => ({ x.1 with lc := c.1 }, c.2)
def stB (l : List UInt8) (x : Fu × Nat) : Option (Fu × Nat) := (C.decB l x.2).map fun d => ({ x.1 with bd := d.1 }, d.2)
def st (l : List UInt8) (p : Nat) : Nat → Option (Fu × Nat)
  | 0 => some (nilF, p)
  | 1 => (some (nilF, p)).bind (stN l)
  | 2 => ((some (nilF, p)).bind (stN l)).bind (stG l)
  | 3 => (((some (nilF, p)).bind (stN l)).bind (stG l)).bind (stL l)
  | _ => ((((some (nilF, p)).bind (stN l)).bind (stG l)).bind (stL l)).bind (stB l)
end Go.Proofs.YtifobiajjhknbaaGreatDoor.F

namespace Go.Proofs.YtifobiajjhknbaaGreatDoor.F
open Go.RowKit W

def nilV : FV := ⟨⟨#[]⟩, none, 0, 0, none, 0, 0, none, 0, 0, none, 0, 0⟩
end Go.Proofs.YtifobiajjhknbaaGreatDoor.F

namespace Go.Proofs.YtifobiajjhknbaaGreatDoor.F
open Go.RowKit Go.ChangeShapes Go.WideShapes W

end Go.Proofs.YtifobiajjhknbaaGreatDoor.F

namespace Go.Proofs.YtifobiajjhknbaaGreatDoor.I
open Go.RowKit W

/-- A shape's value. -/
structure SV where
  A : Option Addr
  n : Nat
  c : Nat
def SV.val (s : SV) : Value := .slice s.A s.n s.c
def ShAt (w : World) (s : SV) (l : List Int) : Prop := Rd w s.A (ivs l) ∧ l.length = s.n
theorem ShAt.keep {O : Nat → Prop} {w w' : World} {s : SV} {l : List Int} (h : ShAt w s l) (hk : Keep O w w') (hO : ∀ k, k < w.heap.size → ¬ O k) : ShAt w' s l :=
  ⟨h.1.keepN (hk.mono (fun k ho hl => absurd ho (hO k hl))), h.2⟩
/-- An image's value: where its lists lie. -/
structure IV where
  X : Option Addr
  nx : Nat
  cx : Nat
  Y : Option Addr
  ny : Nat
  cy : Nat
def IV.cells (v : IV) : Array Value := #[.slice v.X v.nx v.cx, .slice v.Y v.ny v.cy]
def IV.val (v : IV) : Value := .agg v.cells
abbrev SE := SV × List Int
abbrev FE := F.FV × F.Fu
def svs (es : List SE) : List Value := es.map fun e => e.1.val
def fvs (fs : List FE) : List Value := fs.flatMap fun e => e.1.cells.toList
def imOf (es : List SE) (fs : List FE) : Im := ⟨es.map fun e => e.2, fs.map fun e => e.2⟩
theorem cells_len (v : F.FV) : v.cells.toList.length = 5 := rfl
theorem fvs_length (fs : List FE) : (fvs fs).length = fs.length * 5 := by
  induction fs with
  | nil => rfl
  | cons v l ih =>
    unfold fvs at ih ⊢
    rw [List.flatMap_cons, List.length_append, ih, cells_len, List.length_cons]; omega
theorem svs_length (es : List SE) : (svs es).length = es.length := by simp [svs]
theorem fvs_append (l r : List FE) : fvs (l ++ r) = fvs l ++ fvs r := by simp [fvs]
theorem svs_append (l r : List SE) : svs (l ++ r) = svs l ++ svs r := by simp [svs]
theorem fvs_at : ∀ (fs : List FE) (i j : Nat) (h : i < fs.length), j < 5 → (fvs fs)[i * 5 + j]? = fs[i].1.cells.toList[j]?
  | v :: l, 0, j, _, hj => by
    unfold fvs
    rw [List.flatMap_cons, Nat.zero_mul, Nat.zero_add, List.getElem?_append_left (by rw [cells_len]; exact hj)]; rfl
  | v :: l, i + 1, j, h, hj => by
    have := fvs_at l i j (by simpa using h) hj
    unfold fvs at this ⊢
    rw [List.flatMap_cons, show (i + 1) * 5 + j = 5 + (i * 5 + j) by omega, List.getElem?_append_right (by rw [cells_len]; omega), cells_len, Nat.add_sub_cancel_left]
    exact this
theorem svs_at (es : List SE) (i : Nat) (h : i < es.length) : (svs es)[i]? = some es[i].1.val := by simp [svs, h]

/-- What an image's lists hold, wherever the value itself lies. -/
structure ImAt (w : World) (v : IV) (es : List SE) (fs : List FE) : Prop where
  rx : Rd w v.X (svs es)
  ry : Rd w v.Y (fvs fs)
  lx : es.length = v.nx
  ly : fs.length = v.ny
  hs : ∀ e ∈ es, ShAt w e.1 e.2
  hf : ∀ e ∈ fs, F.FnAt w e.1 e.2
theorem ImAt.keep {O : Nat → Prop} {w w' : World} {v : IV} {es : List SE} {fs : List FE} (h : ImAt w v es fs) (hk : Keep O w w') (hO : ∀ k, k < w.heap.size → ¬ O k) : ImAt w' v es fs :=
  have h2 : Keep NoB w w' := hk.mono (fun k ho hl => absurd ho (hO k hl))
  ⟨h.rx.keepN h2, h.ry.keepN h2, h.lx, h.ly, fun e he => (h.hs e he).keep h2 (fun _ _ => id), fun e he => (h.hf e he).keepN h2⟩
theorem ImAt.keepN {w w' : World} {v : IV} {es : List SE} {fs : List FE} (h : ImAt w v es fs) (hk : Keep NoB w w') : ImAt w' v es fs := h.keep hk (fun _ _ => id)
/-- It is no greater than statements go through. -/
structure SmI (es : List SE) (fs : List FE) : Prop where
  ns : es.length ≤ 70
  nf : fs.length ≤ 70
  sh : ∀ e ∈ es, e.1.n ≤ 100
  fn : ∀ e ∈ fs, F.SmF e.1
/-- Shape i, and function i, in memory. -/
theorem shape_at {w : World} {X : Option Addr} {es : List SE} (h : Rd w X (svs es)) {i : Nat} (hi : i < es.length) : ∃ g off, X = some ⟨g, off, none⟩ ∧ w.cell? ⟨g, off + i, none⟩ = some (.slice es[i].1.A es[i].1.n es[i].1.c) := by
  obtain ⟨g, off, e, hc⟩ := h (by rw [svs_length]; omega)
  exact ⟨g, off, e, hc i _ (svs_at es i hi)⟩
theorem fun_at {w : World} {Y : Option Addr} {fs : List FE} (h : Rd w Y (fvs fs)) {i : Nat} (hi : i < fs.length) : ∃ g off, Y = some ⟨g, off, none⟩ ∧ w.cell? ⟨g, off + i * 5, none⟩ = some (.string fs[i].1.S) ∧ w.cell? ⟨g, off + i * 5 + 1, none⟩ = some (.slice fs[i].1.A fs[i].1.na fs[i].1.ca) ∧
    w.cell? ⟨g, off + i * 5 + 2, none⟩ = some (.slice fs[i].1.B fs[i].1.nb fs[i].1.cb) ∧ w.cell? ⟨g, off + i * 5 + 3, none⟩ = some (.slice fs[i].1.L fs[i].1.nl fs[i].1.cl) ∧ w.cell? ⟨g, off + i * 5 + 4, none⟩ = some (.slice fs[i].1.D fs[i].1.nd fs[i].1.cd) := by
  obtain ⟨g, off, e, hc⟩ := h (by rw [fvs_length]; omega)
  exact ⟨g, off, e, hc _ _ (fvs_at fs i 0 hi (by omega)), hc _ _ (fvs_at fs i 1 hi (by omega)), hc _ _ (fvs_at fs i 2 hi (by omega)), hc _ _ (fvs_at fs i 3 hi (by omega)), hc _ _ (fvs_at fs i 4 hi (by omega))⟩

/-- An image whose lists are owned: each lies in a block of P. -/
structure OwnIm (W : World) (P : Nat → Prop) (v : IV) (es : List SE) (fs : List FE) : Prop where
  ox : Own W 53 1 P (.slice v.X v.nx v.cx) v.nx (svs es)
  oy : Own W 35 5 P (.slice v.Y v.ny v.cy) v.ny (fvs fs)
  hs : ∀ e ∈ es, Own W 3 1 P (.slice e.1.A e.1.n e.1.c) e.1.n (ivs e.2)
  hf : ∀ e ∈ fs, F.OwnF W P e.1 e.2
theorem OwnIm.keep {W W' : World} {P O : Nat → Prop} {v : IV} {es : List SE} {fs : List FE} (h : OwnIm W P v es fs) (hk : Keep O W W') (hn : ∀ k, P k → ¬ O k) : OwnIm W' P v es fs :=
  ⟨h.ox.keep hk hn, h.oy.keep hk hn, fun e he => (h.hs e he).keep hk hn, fun e he => (h.hf e he).keep hk hn⟩
theorem OwnIm.keepN {W W' : World} {P : Nat → Prop} {v : IV} {es : List SE} {fs : List FE} (h : OwnIm W P v es fs) (hk : Keep NoB W W') : OwnIm W' P v es fs := h.keep hk (fun _ _ => id)
theorem OwnIm.mono {W : World} {P P' : Nat → Prop} {v : IV} {es : List SE} {fs : List FE} (h : OwnIm W P v es fs) (hP : ∀ k, P k → k < W.heap.size → P' k) : OwnIm W P' v es fs :=
  ⟨h.ox.mono hP, h.oy.mono hP, fun e he => (h.hs e he).mono hP, fun e he => (h.hf e he).mono hP⟩
theorem OwnIm.im {W : World} {P : Nat → Prop} {v : IV} {es : List SE} {fs : List FE} (h : OwnIm W P v es fs) : ImAt W v es fs :=
  ⟨F.own_rdS h.ox, F.own_rdS h.oy, by have := h.ox.1.1; rw [svs_length] at this; omega, by have := h.oy.1.1; rw [fvs_length] at this; omega,
    fun e he => ⟨F.own_rdS (h.hs e he), F.own_len (h.hs e he)⟩, fun e he => (h.hf e he).fn⟩
def nilW : IV := ⟨none, 0, 0, none, 0, 0⟩
theorem nil_own (W : World) (P : Nat → Prop) : OwnIm W P nilW [] [] := ⟨Own.nil _ _ _ _, Own.nil _ _ _ _, (fun _ h => nomatch h), (fun _ h => nomatch h)⟩
end Go.Proofs.YtifobiajjhknbaaGreatDoor.I

namespace Go.Proofs.YtifobiajjhknbaaGreatDoor.M
open Go.RowKit W I

/-- What has been written ahead of a shape; of a function; of an instruction. -/
def shT (es : List SE) (k : Nat) : Bs := flat ((es.take k).map fun e => shapeT e.2)
def fnT (es : List SE) (fs : List FE) (k : Nat) : Bs := flat (es.map fun e => shapeT e.2) ++ flat ((fs.take k).flatMap fun e => funcT false e.2)
def bdT (es : List SE) (fs : List FE) (k : Nat) (f : F.Fu) (j : Nat) : Bs := fnT es fs k ++ (flat (headT f) ++ flat ((f.bd.take j).map wordsX))
theorem body_words : ∀ (b : List C.I3) (i : Nat), bodyT false i b = b.map wordsX
  | [], _ => rfl
  | x :: b, i => by rw [bodyT, body_words b (i + 1)]; rfl
theorem shT_next {es : List SE} {k : Nat} (h : k < es.length) : shT es (k + 1) = shT es k ++ (joinW (shapeT es[k].2) ++ [10]) := by
  unfold shT
  rw [List.take_succ_eq_append_getElem h, List.map_append, flat_append]
  unfold flat
  simp
theorem shT_all (es : List SE) (fs : List FE) : shT es es.length = fnT es fs 0 := by unfold shT fnT; rw [List.take_length]; simp [flat]
theorem fnT_next {es : List SE} {fs : List FE} {k : Nat} (h : k < fs.length) : fnT es fs (k + 1) = bdT es fs k fs[k].2 fs[k].2.bd.length := by
  unfold bdT
  rw [List.take_length]
  unfold fnT
  rw [List.take_succ_eq_append_getElem h, List.flatMap_append, flat_append]
  have : (List.flatMap (fun e : FE => funcT false e.2) [fs[k]]) = headT fs[k].2 ++ fs[k].2.bd.map wordsX := by
    rw [List.flatMap_cons, List.flatMap_nil, List.append_nil]
    unfold funcT
    rw [body_words]
  rw [this, flat_append, List.append_assoc]
theorem fnT_all (es : List SE) (fs : List FE) : fnT es fs fs.length = flat (imgT false (imOf es fs)) := by
  unfold fnT imgT imOf
  rw [List.take_length, flat_append]
  simp [List.map_map, List.flatMap_map, Function.comp_def]
theorem bdT_next {es : List SE} {fs : List FE} {k : Nat} {f : F.Fu} {j : Nat} (h : j < f.bd.length) : bdT es fs k f (j + 1) = bdT es fs k f j ++ (O.textI f.bd[j].1 f.bd[j].2.1 f.bd[j].2.2 ++ [10]) := by
  unfold bdT
  rw [List.take_succ_eq_append_getElem h, List.map_append, flat_append]
  have : flat ([f.bd[j]].map wordsX) = O.textI f.bd[j].1 f.bd[j].2.1 f.bd[j].2.2 ++ [10] := by unfold flat; simp [join_words]
  rw [this]
  simp only [List.append_assoc]

end Go.Proofs.YtifobiajjhknbaaGreatDoor.M

namespace Go.Proofs.YtifobiajjhknbaaGreatDoor.M
open Go

end Go.Proofs.YtifobiajjhknbaaGreatDoor.M

namespace Go.Proofs.YtifobiajjhknbaaGreatDoor.M
open Go.RowKit Go.Shelf W

end Go.Proofs.YtifobiajjhknbaaGreatDoor.M

namespace Go.Proofs.YtifobiajjhknbaaGreatDoor.M
open Go.RowKit Go.Shelf W

section
variable {P : Program} {n : Nat}
end

end Go.Proofs.YtifobiajjhknbaaGreatDoor.M
