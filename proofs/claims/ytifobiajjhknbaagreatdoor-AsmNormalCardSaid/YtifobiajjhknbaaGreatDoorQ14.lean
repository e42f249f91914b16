/-
  Are two functions the same: the program's Same and the document's. Conditions: the functions' lists lie in memory, and are no longer than statements go through.
  Are two images the same: the program's Same, by EqualFunc over shapes and over functions, and the document's. Conditions: the images' lists lie in memory, and are no greater than statements go through.
  AsmNormal's walk: a text's normal one says the same, or is wrong likewise, and is its own normal one. Conditions: what the program's Normal and Parse, and the law's alive, answer, in worlds of a class that making memory keeps.
  Parts read from a Reel: how many, and these: what read answers, of shapes and of functions. Conditions: the Reel reads bytes in memory, no more than 2^47.
  What stands between Magic and the sum: what inner answers. Conditions: the bytes lie in memory, no more than 2^47.
  The sum of bytes: the program's, over any number of parts, and the document's; a sum's four bytes. Conditions: the parts lie in memory; no more than 2^31 bytes.
  bytes.Equal, bytes.HasPrefix, bytes.CutPrefix: what they answer of bytes in memory. No conditions but that the bytes lie in memory.
  What the document's Encode answers. Conditions: the operands fit an int64.
  What Encode of layer code answers, the program's and the document's: a body's bytes. Conditions: the list lies in memory; numbers fit an int64.
  What the document's Named answers. Conditions: the name's length fits an int64.
  The document's Types and Check of layer function. Conditions: the function's lists lie in memory, and are no longer than statements go through.
  What the document's Bytes and Encode of layer code answer. Conditions: the list lies in memory; numbers fit an int64.
  The document's bytes of a function: Bytes and Encode. Conditions: the function's lists lie in memory, and are no longer than statements go through.
  What the closures of writes do: a part's bytes behind others; a name's bytes. Conditions: what encodes answers by its contract.
  A name's bytes: what encodeName answers. Conditions: the name is no longer than statements go through.
  What Encode of layer function answers: a function's bytes. Conditions: the function's lists lie in memory, and are no longer than statements go through.
  Parts' bytes: what write answers, of shapes and of functions. Conditions: the parts lie in memory, and may be; no more than 64.
  slices.Concat of parts of bytes, and slices.Grow of the nil slice. Conditions: the parts lie in memory; no more than 2^46 bytes in all.
  A region that draws its order, by what each of its values is, as in KProps5; what binds in the text's order alone, or in the compiler's alone, is not asked about. No program, no conditions.
  A region that draws its order, by what each of its values is, as in KProps6; one operation changes the world by a relation of one's own. No program, no conditions.
  What Encode of layer image answers: an image's bytes. Conditions: the image's lists lie in memory, each below 2^47.
  What the rows of opcode share: the condition on the listed package-level variables, opened; an instruction as an argument. No conditions.
  An argument that is a list of instructions, opened: an address from which its cells stand; its numbers fit. No conditions.
  What Decode of layer image answers: bytes' image, or what is wrong. Conditions: the bytes lie in memory, no more than 2^30.
  What the laws' own one and alive answer. No conditions.
  ImageSums' walk: the sum of bytes hangs on no parting; one byte changed, it is another one; all noughts, it tells how many there are. Conditions: the bytes lie in memory.
  ImageTurned's walk: an image's bytes of which one was changed, or that were cut, or with one more behind, are no image's. Conditions: the image's lists lie in memory, each below 2^47.
  ImageBack's walk: an image is read from its bytes as it was; what is read of any bytes has just these. Conditions: the image's lists, and the bytes, lie in memory, each list below 2^47.
  What Parse of layer asm answers, as the reader says it. Conditions: the text is not too long; what is laid is laid.
  The plain mathematics of layer asm's reader: what it says of a text is what the text says. No program, no conditions.
  The pieces that a text's lines are handed on as: each with its line feed, if it has one. No program, no conditions.
  The library's Lines, as it is ranged over: it hands on each piece, and is at its end, or left. Conditions: what holds of the pieces so far is kept by making memory, and by a change of the box that Lines keeps its rest in.
  A range over a function whose iterator keeps its rest in a box that was there ahead of the range, and that is never left ahead of its end; the library's Lines is such a one. No program but Lines'; what holds in the range is kept by a change of the box, and the body leaves the box as it is.
  What AsmNotes' walk stands on: a builder beside a box that changes; images that are owned, beside a builder; how long a text with notes is. No conditions.
-/
import Derived.ChangeSame
import Derived.Deep.Fields
import Derived.Deep.OwnRows
import Derived.Deep.Slices
import Derived.Deep.Strs
import Derived.LaidLaws
import Derived.LaidMore
import Derived.Laws.BitsAllLaws
import Derived.Lib.AppendZeros
import Derived.Lib.LaidTab
import Derived.Lib.SlBytesConst
import Derived.Lib.SmallJoins
import Derived.OpenShut
import Derived.ProofKit
import Derived.RangeFuncBox
import Derived.Shelf.Small.Strs
import Derived.SizedLaws
import Derived.Stop.LaidErr
import Derived.Test.YtifobiajjhknbaaGreatDoorQ6
import Derived.Test.YtifobiajjhknbaaGreatDoorQ4
import Derived.Test.YtifobiajjhknbaaGreatDoorQ7
import Derived.Test.YtifobiajjhknbaaGreatDoorQ13
import Derived.Test.YtifobiajjhknbaaGreatDoorQ3
import Derived.Test.YtifobiajjhknbaaGreatDoorQ5
import Derived.Test.YtifobiajjhknbaaGreatDoorQ8
import Derived.Test.YtifobiajjhknbaaGreatDoorQ2
import Derived.Test.YtifobiajjhknbaaGreatDoorQ11
import Derived.Test.YtifobiajjhknbaaGreatDoorQ9
import Derived.Test.YtifobiajjhknbaaGreatDoorRows
import Derived.Test.YtifobiajjhknbaaGreatDoorQ12
namespace Go.Proofs.YtifobiajjhknbaaGreatDoor.F
open Go.RowKit W

set_option maxRecDepth 100000 in
set_option maxHeartbeats 8000000 in
theorem equalI_any (A B : Option Addr) (la lb : List C.I3) (n m c d : Nat) (w : World) (ha : Rd w A (C.iis la)) (hb : Rd w B (C.iis lb)) (hn : Hid (la.length = n)) (hm : Hid (lb.length = m))
    (h1 : n ≤ 9223372036854775807) (h2 : m ≤ 9223372036854775807) (R : Bool) (hR : Hid (R = decide (la = lb))) :
    Calls Tryz.prog 92 #[.slice A n c, .slice B m d] w fun e w' => e = .returned (.bool R) ∧ Keep NoB w w' := by
  by_cases hnm : n = m
  · subst hnm
    go_enter Tryz.func92, Tryz.ntmps92
    go_wp2
    go_loopw [13] (fun i wr => ∃ k : Nat, k ≤ n ∧ i = .int .i64 k ∧ Hid (la.take k = lb.take k) ∧ Keep NoB w wr) (fun i _ => n - (intOf i).toNat)
    case atStart => exact ⟨0, Nat.zero_le _, rfl, rfl, Keep.refl _ _⟩
    case round =>
      obtain ⟨k, hk, rfl, ht, hK⟩ := hrel
      by_cases hlt : k < n
      · have hka : k < la.length := by rw [hn.out]; exact hlt
        have hkb : k < lb.length := by rw [hm.out]; exact hlt
        obtain ⟨ga, oa, rfl, hca⟩ := C.rdJ_at ha (by omega)
        obtain ⟨gb, ob, rfl, hcb⟩ := C.rdJ_at hb (by omega)
        have ca0 := hK.cell (hca k hka).1 id
        have ca1 := hK.cell (hca k hka).2.1 id
        have ca2 := hK.cell (hca k hka).2.2 id
        have cb0 := hK.cell (hcb k hkb).1 id
        have cb1 := hK.cell (hcb k hkb).2.1 id
        have cb2 := hK.cell (hcb k hkb).2.2 id
        have HT := Lib.hid (show la.take (k + 1) = la.take k ++ [la[k]] from List.take_succ_eq_append_getElem hka)
        have HU := Lib.hid (show lb.take (k + 1) = lb.take k ++ [lb[k]] from List.take_succ_eq_append_getElem hkb)
        clear hca hcb
        by_cases he : la[k] = lb[k]
        · have HV : Hid (la.take (k + 1) = lb.take (k + 1)) := by show _ = _; rw [HT.out, HU.out, ht.out, he]
          rw [he] at ca0 ca1 ca2
          clear he HT HU ha hb
          generalize lb[k] = y at ca0 ca1 ca2 cb0 cb1 cb2
          obtain ⟨y0, y1, y2⟩ := y
          dsimp only at ca0 ca1 ca2 cb0 cb1 cb2
          go_wp2
          go_quiet (fail)
          go_wp2
          go_roundw
          case rel => exact ⟨k + 1, by omega, by go_num, HV, hK.drewN _⟩
          case measure => simp [intOf]; omega
        · have hf : R = false := by
            rw [hR.out, decide_eq_false_iff_not]
            intro e
            exact he (by simp [e])
          subst hf
          clear HT HU ha hb
          generalize la[k] = x at ca0 ca1 ca2 he
          generalize lb[k] = y at cb0 cb1 cb2 he
          obtain ⟨x0, x1, x2⟩ := x
          obtain ⟨y0, y1, y2⟩ := y
          dsimp only at ca0 ca1 ca2 cb0 cb1 cb2
          by_cases h0 : x0 = y0
          · subst h0
            by_cases h3 : x1 = y1
            · subst h3
              have hne : (x2 == y2) = false := by rw [beq_eq_false_iff_ne]; rintro rfl; exact he rfl
              clear he
              go_wp2
              go_quiet (fail)
              go_wp2
              go_ret
              exact ⟨rfl, hK.drewN _⟩
            · have hne : (x1 == y1) = false := by rw [beq_eq_false_iff_ne]; exact h3
              clear he h3
              go_wp2
              go_quiet (fail)
              go_wp2
              go_ret
              exact ⟨rfl, hK.drewN _⟩
          · have hne : (x0 == y0) = false := by rw [beq_eq_false_iff_ne]; exact h0
            clear he h0
            go_wp2
            go_quiet (fail)
            go_wp2
            go_ret
            exact ⟨rfl, hK.drewN _⟩
      · have hf : R = true := by
          rw [hR.out, decide_eq_true_iff]
          have e1 := ht.out
          rwa [List.take_of_length_le (by rw [hn.out]; omega), List.take_of_length_le (by rw [hm.out]; omega)] at e1
        subst hf
        go_wp2
        go_ret
        exact ⟨rfl, hK⟩
  · have hf : R = false := by
      rw [hR.out, decide_eq_false_iff_not]
      intro e
      exact hnm (by rw [← hn.out, ← hm.out, e])
    subst hf
    have hne : ((n : Int) != (m : Int)) = true := by rw [bne_iff_ne]; omega
    clear hnm
    go_enter Tryz.func92, Tryz.ntmps92
    go_wp2
    go_ret
    exact ⟨rfl, Keep.refl _ _⟩

theorem retB {a b : Bool} (h : a = b) : Ending.returned (.bool a) = .returned (.bool b) := by rw [h]
theorem same_bits (f g : Fu) : sameF f g = (decide (f.nm = g.nm) && (decide (f.ar = g.ar ∧ f.rs = g.rs) && (decide (f.lc = g.lc) && decide (f.bd = g.bd)))) := by
  unfold sameF
  simp only [Bool.decide_and]
theorem name_eq {S T : ByteArray} {s t : List UInt8} (hS : S.data.toList = s) (hT : T.data.toList = t) : (S.toList == T.toList) = decide (s = t) := by
  subst hS hT
  rw [ByteArray.toList_eq, ByteArray.toList_eq]
  by_cases h : S.data.toList = T.data.toList
  · rw [decide_eq_true h, h]; exact beq_self_eq_true _
  · rw [decide_eq_false h]; exact beq_eq_false_iff_ne.2 h

set_option maxRecDepth 100000 in
set_option maxHeartbeats 8000000 in
theorem sameF_any (v : FV) (f : Fu) (u : FV) (g : Fu) (w : World) (h : FnAt w v f) (h2 : FnAt w u g) (hs : SmF v) (hs2 : SmF u) :
    Calls Tryz.prog 54 #[v.val, u.val] w fun e w' => e = .returned (.bool (sameF f g)) ∧ Keep NoB w w' := by
  have bx := (Blk.new w 35 v.cells).alloc (.cells u.cells 35)
  have by1 := Blk.new (w.alloc (.cells v.cells 35)) 35 u.cells
  have k0 := ((Keep.refl NoB w).alloc (.cells v.cells 35)).alloc (.cells u.cells 35)
  rw [World.size_alloc] at by1
  have HF := Lib.hid (h.keepN k0)
  have HG := Lib.hid (h2.keepN k0)
  have HX := Lib.hid bx
  have HY := Lib.hid by1
  have HR := Lib.hid (same_bits f g)
  have HN := name_eq h.nm h2.nm
  have HS := Lib.hid (fun w1 hk => S.same_any v.A f.ar v.na v.ca v.B f.rs v.nb v.cb u.A g.ar u.na u.ca u.B g.rs u.nb u.cb w1 (HF.out.keepN hk).ra (HF.out.keepN hk).rb (HG.out.keepN hk).ra (HG.out.keepN hk).rb h.la h.lb h2.la h2.lb (by have := hs.na; omega) (by have := hs.nb; omega) (by have := hs2.na; omega) (by have := hs2.nb; omega) _ rfl)
  have HL := Lib.hid (fun w1 hk => S.equal_any v.L u.L f.lc g.lc v.nl u.nl v.cl u.cl w1 (HF.out.keepN hk).rl (HG.out.keepN hk).rl h.ll h2.ll (by have := hs.nl; omega) (by have := hs2.nl; omega) _ rfl)
  have HD := Lib.hid (fun w1 hk => equalI_any v.D u.D f.bd g.bd v.nd u.nd v.cd u.cd w1 (HF.out.keepN hk).rd (HG.out.keepN hk).rd h.ld h2.ld (by have := hs.nd; omega) (by have := hs2.nd; omega) _ rfl)
  generalize sameF f g = R at HR ⊢
  generalize decide (f.nm = g.nm) = b0 at HR HN
  generalize decide (f.ar = g.ar ∧ f.rs = g.rs) = b1 at HR HS
  generalize decide (f.lc = g.lc) = b2 at HR HL
  generalize decide (f.bd = g.bd) = b3 at HR HD
  obtain ⟨s0, A, na, ca, B, nb, cb, L, nl, cl, D, nd, cd⟩ := v
  obtain ⟨s1, A1, na1, ca1, B1, nb1, cb1, L1, nl1, cl1, D1, nd1, cd1⟩ := u
  unfold FV.val FV.cells at *
  dsimp only at HN HS HL HD
  clear h h2 hs hs2 bx by1 HF HG
  cases b0
  · go_enter Tryz.func54, Tryz.ntmps54
    obtain ⟨c0, c1, c2, c3, c4⟩ := blk5 (v := ⟨s0, A, na, ca, B, nb, cb, L, nl, cl, D, nd, cd⟩) HX.out
    obtain ⟨d0, d1, d2, d3, d4⟩ := blk5 (v := ⟨s1, A1, na1, ca1, B1, nb1, cb1, L1, nl1, cl1, D1, nd1, cd1⟩) HY.out
    dsimp only at c0 c1 c2 c3 c4 d0 d1 d2 d3 d4
    go_wp2
    go_ret
    exact ⟨retB HR.out.symm, k0⟩
  · cases b1
    · go_enter Tryz.func54, Tryz.ntmps54
      obtain ⟨c0, c1, c2, c3, c4⟩ := blk5 (v := ⟨s0, A, na, ca, B, nb, cb, L, nl, cl, D, nd, cd⟩) HX.out
      obtain ⟨d0, d1, d2, d3, d4⟩ := blk5 (v := ⟨s1, A1, na1, ca1, B1, nb1, cb1, L1, nl1, cl1, D1, nd1, cd1⟩) HY.out
      dsimp only at c0 c1 c2 c3 c4 d0 d1 d2 d3 d4
      go_wp2_with fail
      refine (HS.out _ (Keep.refl _ _)).mono ?_
      rintro e w1 ⟨rfl, k1⟩
      go_wp2
      go_ret
      exact ⟨retB HR.out.symm, keepN k0 k1⟩
    · cases b2
      · go_enter Tryz.func54, Tryz.ntmps54
        obtain ⟨c0, c1, c2, c3, c4⟩ := blk5 (v := ⟨s0, A, na, ca, B, nb, cb, L, nl, cl, D, nd, cd⟩) HX.out
        obtain ⟨d0, d1, d2, d3, d4⟩ := blk5 (v := ⟨s1, A1, na1, ca1, B1, nb1, cb1, L1, nl1, cl1, D1, nd1, cd1⟩) HY.out
        dsimp only at c0 c1 c2 c3 c4 d0 d1 d2 d3 d4
        go_wp2_with fail
        refine (HS.out _ (Keep.refl _ _)).mono ?_
        rintro e w1 ⟨rfl, k1⟩
        clear c0 c1 c2 c3 c4 d0 d1 d2 d3 d4
        obtain ⟨c0, c1, c2, c3, c4⟩ := blk5 (v := ⟨s0, A, na, ca, B, nb, cb, L, nl, cl, D, nd, cd⟩) (HX.out.keep k1 id)
        obtain ⟨d0, d1, d2, d3, d4⟩ := blk5 (v := ⟨s1, A1, na1, ca1, B1, nb1, cb1, L1, nl1, cl1, D1, nd1, cd1⟩) (HY.out.keep k1 id)
        dsimp only at c0 c1 c2 c3 c4 d0 d1 d2 d3 d4
        go_wp2_with fail
        refine (HL.out _ k1).mono ?_
        rintro e w2 ⟨rfl, k2⟩
        replace k2 := keepN k1 k2
        go_wp2
        go_ret
        exact ⟨retB HR.out.symm, keepN k0 k2⟩
      · cases b3
        · go_enter Tryz.func54, Tryz.ntmps54
          obtain ⟨c0, c1, c2, c3, c4⟩ := blk5 (v := ⟨s0, A, na, ca, B, nb, cb, L, nl, cl, D, nd, cd⟩) HX.out
          obtain ⟨d0, d1, d2, d3, d4⟩ := blk5 (v := ⟨s1, A1, na1, ca1, B1, nb1, cb1, L1, nl1, cl1, D1, nd1, cd1⟩) HY.out
          dsimp only at c0 c1 c2 c3 c4 d0 d1 d2 d3 d4
          go_wp2_with fail
          refine (HS.out _ (Keep.refl _ _)).mono ?_
          rintro e w1 ⟨rfl, k1⟩
          clear c0 c1 c2 c3 c4 d0 d1 d2 d3 d4
          obtain ⟨c0, c1, c2, c3, c4⟩ := blk5 (v := ⟨s0, A, na, ca, B, nb, cb, L, nl, cl, D, nd, cd⟩) (HX.out.keep k1 id)
          obtain ⟨d0, d1, d2, d3, d4⟩ := blk5 (v := ⟨s1, A1, na1, ca1, B1, nb1, cb1, L1, nl1, cl1, D1, nd1, cd1⟩) (HY.out.keep k1 id)
          dsimp only at c0 c1 c2 c3 c4 d0 d1 d2 d3 d4
          go_wp2_with fail
          refine (HL.out _ k1).mono ?_
          rintro e w2 ⟨rfl, k2⟩
          replace k2 := keepN k1 k2
          clear c0 c1 c2 c3 c4 d0 d1 d2 d3 d4
          obtain ⟨c0, c1, c2, c3, c4⟩ := blk5 (v := ⟨s0, A, na, ca, B, nb, cb, L, nl, cl, D, nd, cd⟩) (HX.out.keep k2 id)
          obtain ⟨d0, d1, d2, d3, d4⟩ := blk5 (v := ⟨s1, A1, na1, ca1, B1, nb1, cb1, L1, nl1, cl1, D1, nd1, cd1⟩) (HY.out.keep k2 id)
          dsimp only at c0 c1 c2 c3 c4 d0 d1 d2 d3 d4
          go_wp2_with fail
          refine (HD.out _ k2).mono ?_
          rintro e w3 ⟨rfl, k3⟩
          replace k3 := keepN k2 k3
          go_wp2
          go_ret
          exact ⟨retB HR.out.symm, keepN k0 k3⟩
        · go_enter Tryz.func54, Tryz.ntmps54
          obtain ⟨c0, c1, c2, c3, c4⟩ := blk5 (v := ⟨s0, A, na, ca, B, nb, cb, L, nl, cl, D, nd, cd⟩) HX.out
          obtain ⟨d0, d1, d2, d3, d4⟩ := blk5 (v := ⟨s1, A1, na1, ca1, B1, nb1, cb1, L1, nl1, cl1, D1, nd1, cd1⟩) HY.out
          dsimp only at c0 c1 c2 c3 c4 d0 d1 d2 d3 d4
          go_wp2_with fail
          refine (HS.out _ (Keep.refl _ _)).mono ?_
          rintro e w1 ⟨rfl, k1⟩
          clear c0 c1 c2 c3 c4 d0 d1 d2 d3 d4
          obtain ⟨c0, c1, c2, c3, c4⟩ := blk5 (v := ⟨s0, A, na, ca, B, nb, cb, L, nl, cl, D, nd, cd⟩) (HX.out.keep k1 id)
          obtain ⟨d0, d1, d2, d3, d4⟩ := blk5 (v := ⟨s1, A1, na1, ca1, B1, nb1, cb1, L1, nl1, cl1, D1, nd1, cd1⟩) (HY.out.keep k1 id)
          dsimp only at c0 c1 c2 c3 c4 d0 d1 d2 d3 d4
          go_wp2_with fail
          refine (HL.out _ k1).mono ?_
          rintro e w2 ⟨rfl, k2⟩
          replace k2 := keepN k1 k2
          clear c0 c1 c2 c3 c4 d0 d1 d2 d3 d4
          obtain ⟨c0, c1, c2, c3, c4⟩ := blk5 (v := ⟨s0, A, na, ca, B, nb, cb, L, nl, cl, D, nd, cd⟩) (HX.out.keep k2 id)
          obtain ⟨d0, d1, d2, d3, d4⟩ := blk5 (v := ⟨s1, A1, na1, ca1, B1, nb1, cb1, L1, nl1, cl1, D1, nd1, cd1⟩) (HY.out.keep k2 id)
          dsimp only at c0 c1 c2 c3 c4 d0 d1 d2 d3 d4
          go_wp2_with fail
          refine (HD.out _ k2).mono ?_
          rintro e w3 ⟨rfl, k3⟩
          replace k3 := keepN k2 k3
          go_wp2
          go_ret
          exact ⟨retB HR.out.symm, keepN k0 k3⟩

end Go.Proofs.YtifobiajjhknbaaGreatDoor.F

namespace Go.Proofs.YtifobiajjhknbaaGreatDoor.I
open Go.RowKit W

theorem map_take_step {α β : Type} {f : α → β} {pa pb : List α} {j : Nat} (h : (pa.map f).take j = (pb.map f).take j) (ha : j < pa.length) (hb : j < pb.length) (he : f pa[j] = f pb[j]) : (pa.map f).take (j + 1) = (pb.map f).take (j + 1) := by
  rw [List.take_succ_eq_append_getElem (by simpa using ha), List.take_succ_eq_append_getElem (by simpa using hb), h]; simp [he]
theorem map_ne {α β : Type} {f : α → β} {pa pb : List α} {j : Nat} (ha : j < pa.length) (hb : j < pb.length) (he : f pa[j] ≠ f pb[j]) : pa.map f ≠ pb.map f := by
  intro h
  have : (pa.map f)[j]? = (pb.map f)[j]? := by rw [h]
  rw [List.getElem?_map, List.getElem?_map, List.getElem?_eq_getElem ha, List.getElem?_eq_getElem hb] at this
  exact he (Option.some.inj this)
theorem map_all {α β : Type} {f : α → β} {pa pb : List α} {j : Nat} (h : (pa.map f).take j = (pb.map f).take j) (ha : pa.length = j) (hb : pb.length = j) : pa.map f = pb.map f := by
  rwa [List.take_of_length_le (by simp [ha]), List.take_of_length_le (by simp [hb])] at h

set_option maxRecDepth 100000 in
set_option maxHeartbeats 2000000 in
theorem equalSh_any (A B : Option Addr) (la lb : List Int) (n m c d : Nat) (w : World) (ha : Rd w A (ivs la)) (hb : Rd w B (ivs lb)) (hn : Hid (la.length = n)) (hm : Hid (lb.length = m))
    (h1 : n ≤ 9223372036854775807) (h2 : m ≤ 9223372036854775807) (R : Bool) (hR : Hid (R = decide (la = lb))) :
    Calls Tryz.prog 52 #[.slice A n c, .slice B m d] w fun e w' => e = .returned (.bool R) ∧ Keep NoB w w' := by
  by_cases hnm : n = m
  · subst hnm
    go_enter Tryz.func52, Tryz.ntmps52
    go_wp2
    go_loopw [13] (fun i wr => ∃ k : Nat, k ≤ n ∧ i = .int .i64 k ∧ Hid (la.take k = lb.take k) ∧ Keep NoB w wr) (fun i _ => n - (intOf i).toNat)
    case atStart => exact ⟨0, Nat.zero_le _, rfl, rfl, Keep.refl _ _⟩
    case round =>
      obtain ⟨k, hk, rfl, ht, hK⟩ := hrel
      by_cases hlt : k < n
      · have hka : k < la.length := by rw [hn.out]; exact hlt
        have hkb : k < lb.length := by rw [hm.out]; exact hlt
        obtain ⟨ga, oa, rfl, hca⟩ := rdI_at ha (by omega)
        obtain ⟨gb, ob, rfl, hcb⟩ := rdI_at hb (by omega)
        have ca := hK.cell (hca k hka) id
        have cb := hK.cell (hcb k hkb) id
        have HT := Lib.hid (show la.take (k + 1) = la.take k ++ [la[k]] from List.take_succ_eq_append_getElem hka)
        have HU := Lib.hid (show lb.take (k + 1) = lb.take k ++ [lb[k]] from List.take_succ_eq_append_getElem hkb)
        clear hca hcb
        by_cases he : la[k] = lb[k]
        · have HV : Hid (la.take (k + 1) = lb.take (k + 1)) := by show _ = _; rw [HT.out, HU.out, ht.out, he]
          rw [he] at ca
          clear he HT HU ha hb
          generalize lb[k] = y at ca cb
          go_wp2
          go_quiet (fail)
          go_wp2
          go_roundw
          case rel => exact ⟨k + 1, by omega, by go_num, HV, hK.drewN _⟩
          case measure => simp [intOf]; omega
        · have hf : R = false := by
            rw [hR.out, decide_eq_false_iff_not]
            intro e
            exact he (by simp [e])
          subst hf
          clear HT HU ha hb
          generalize la[k] = x at ca he
          generalize lb[k] = y at cb he
          have hne : (x != y) = true := by rw [bne_iff_ne]; exact he
          clear he
          go_wp2
          go_quiet (fail)
          go_wp2
          go_ret
          exact ⟨rfl, hK.drewN _⟩
      · have hf : R = true := by
          rw [hR.out, decide_eq_true_iff]
          have e1 := ht.out
          rwa [List.take_of_length_le (by rw [hn.out]; omega), List.take_of_length_le (by rw [hm.out]; omega)] at e1
        subst hf
        go_wp2
        go_ret
        exact ⟨rfl, hK⟩
  · have hf : R = false := by
      rw [hR.out, decide_eq_false_iff_not]
      intro e
      exact hnm (by rw [← hn.out, ← hm.out, e])
    subst hf
    have hne : ((n : Int) != (m : Int)) = true := by rw [bne_iff_ne]; omega
    clear hnm
    go_enter Tryz.func52, Tryz.ntmps52
    go_wp2
    go_ret
    exact ⟨rfl, Keep.refl _ _⟩

set_option maxRecDepth 100000 in
set_option maxHeartbeats 4000000 in
theorem eqfnS_any (A B : Option Addr) (pa pb : List SE) (n m c d k : Nat) (w : World) (hcf : ∀ args w, (callFunc k args).run Tryz.prog w = .ok (.enter k args) w) (hra : Hid (∀ W, Keep NoB w W → Rd W A (svs pa))) (hrb : Hid (∀ W, Keep NoB w W → Rd W B (svs pb)))
    (hn : Hid (pa.length = n)) (hm : Hid (pb.length = m)) (hn1 : n ≤ 140737488355328) (hm1 : m ≤ 140737488355328)
    (hq : Hid (∀ i (h : i < pa.length) (h' : i < pb.length) W, Keep NoB w W → Calls Tryz.prog k #[pa[i].1.val, pb[i].1.val] W fun e W' => e = .returned (.bool (decide (pa[i].2 = pb[i].2))) ∧ Keep NoB W W')) (R : Bool) (hR : Hid (R = decide ((pa.map fun e => e.2) = pb.map fun e => e.2))) :
    Calls Tryz.prog 51 #[.slice A n c, .slice B m d, .func (.func k) #[] #[]] w fun e w' => e = .returned (.bool R) ∧ Keep NoB w w' := by
  by_cases hnm : n = m
  · subst hnm
    go_enter Tryz.func51, Tryz.ntmps51
    go_wp2
    go_loopw [17] (fun i wr => ∃ j : Nat, j ≤ n ∧ i = .int .i64 j ∧ Hid ((pa.map fun e => e.2).take j = (pb.map fun e => e.2).take j) ∧ Keep NoB w wr) (fun i _ => n - (intOf i).toNat)
    case atStart => exact ⟨0, Nat.zero_le _, rfl, rfl, Keep.refl _ _⟩
    case round =>
      obtain ⟨j, hj, rfl, ht, hK⟩ := hrel
      by_cases hlt : j < n
      · have hja : j < pa.length := by rw [hn.out]; exact hlt
        have hjb : j < pb.length := by rw [hm.out]; exact hlt
        obtain ⟨ga, oa, rfl, c0⟩ := shape_at (hra.out _ hK) hja
        obtain ⟨gb, ob, rfl, d0⟩ := shape_at (hrb.out _ hK) hjb
        have HQ := Lib.hid (fun W hk => hq.out j hja hjb W (keepN hK hk))
        have HY := Lib.hid (fun he => map_take_step ht.out hja hjb he)
        have HN := Lib.hid (fun he => map_ne (f := fun e : SE => e.2) hja hjb he)
        clear ht
        generalize pa[j] = ea at c0 HQ HY HN
        generalize pb[j] = eb at d0 HQ HY HN
        obtain ⟨⟨A1, n1, e1⟩, l1⟩ := ea
        obtain ⟨⟨A2, n2, e2⟩, l2⟩ := eb
        dsimp only [SV.val] at c0 d0 HQ HY HN
        by_cases he : l1 = l2
        · have HV := Lib.hid (HY.out he)
          rw [decide_eq_true he] at HQ
          clear HY HN he
          go_wp2_with fail
          refine (HQ.out _ (Keep.refl _ _)).mono ?_
          rintro e w1 ⟨rfl, k1⟩
          have hK1 := keepN hK (keepN (Keep.refl _ _) k1)
          go_wp2
          go_roundw
          case rel => exact ⟨j + 1, by omega, by go_num, HV, hK1⟩
          case measure => simp [intOf]; omega
        · obtain rfl : R = false := by rw [hR.out, decide_eq_false_iff_not]; exact HN.out he
          rw [decide_eq_false he] at HQ
          clear HY HN he hR
          go_wp2_with fail
          refine (HQ.out _ (Keep.refl _ _)).mono ?_
          rintro e w1 ⟨rfl, k1⟩
          have hK1 := keepN hK (keepN (Keep.refl _ _) k1)
          go_wp2
          go_ret
          exact ⟨rfl, hK1⟩
      · obtain rfl : j = n := by omega
        obtain rfl : R = true := by rw [hR.out, decide_eq_true_iff]; exact map_all ht.out hn.out hm.out
        clear hR
        go_wp2
        go_ret
        exact ⟨rfl, hK⟩
  · obtain rfl : R = false := by
      rw [hR.out, decide_eq_false_iff_not]
      intro e
      have := congrArg List.length e
      rw [List.length_map, List.length_map, hn.out, hm.out] at this
      exact hnm this
    have hne : ((n : Int) != (m : Int)) = true := by rw [bne_iff_ne]; omega
    clear hnm hR
    go_enter Tryz.func51, Tryz.ntmps51
    go_wp2
    go_ret
    exact ⟨rfl, Keep.refl _ _⟩

set_option maxRecDepth 100000 in
set_option maxHeartbeats 4000000 in
theorem eqfnF_any (A B : Option Addr) (pa pb : List FE) (n m c d k : Nat) (w : World) (hcf : ∀ args w, (callFunc k args).run Tryz.prog w = .ok (.enter k args) w) (hra : Hid (∀ W, Keep NoB w W → Rd W A (fvs pa))) (hrb : Hid (∀ W, Keep NoB w W → Rd W B (fvs pb)))
    (hn : Hid (pa.length = n)) (hm : Hid (pb.length = m)) (hn1 : n ≤ 140737488355328) (hm1 : m ≤ 140737488355328)
    (hq : Hid (∀ i (h : i < pa.length) (h' : i < pb.length) W, Keep NoB w W → Calls Tryz.prog k #[pa[i].1.val, pb[i].1.val] W fun e W' => e = .returned (.bool (decide (pa[i].2 = pb[i].2))) ∧ Keep NoB W W')) (R : Bool) (hR : Hid (R = decide ((pa.map fun e => e.2) = pb.map fun e => e.2))) :
    Calls Tryz.prog 53 #[.slice A n c, .slice B m d, .func (.func k) #[] #[]] w fun e w' => e = .returned (.bool R) ∧ Keep NoB w w' := by
  by_cases hnm : n = m
  · subst hnm
    go_enter Tryz.func53, Tryz.ntmps53
    go_wp2
    go_loopw [17] (fun i wr => ∃ j : Nat, j ≤ n ∧ i = .int .i64 j ∧ Hid ((pa.map fun e => e.2).take j = (pb.map fun e => e.2).take j) ∧ Keep NoB w wr) (fun i _ => n - (intOf i).toNat)
    case atStart => exact ⟨0, Nat.zero_le _, rfl, rfl, Keep.refl _ _⟩
    case round =>
      obtain ⟨j, hj, rfl, ht, hK⟩ := hrel
      by_cases hlt : j < n
      · have hja : j < pa.length := by rw [hn.out]; exact hlt
        have hjb : j < pb.length := by rw [hm.out]; exact hlt
        obtain ⟨ga, oa, rfl, c0, c1, c2, c3, c4⟩ := fun_at (hra.out _ hK) hja
        obtain ⟨gb, ob, rfl, d0, d1, d2, d3, d4⟩ := fun_at (hrb.out _ hK) hjb
        have HQ := Lib.hid (fun W hk => hq.out j hja hjb W (keepN hK hk))
        have HY := Lib.hid (fun he => map_take_step ht.out hja hjb he)
        have HN := Lib.hid (fun he => map_ne (f := fun e : FE => e.2) hja hjb he)
        clear ht
        generalize pa[j] = ea at c0 c1 c2 c3 c4 HQ HY HN
        generalize pb[j] = eb at d0 d1 d2 d3 d4 HQ HY HN
        obtain ⟨⟨S1, A1, na1, ca1, B1, nb1, cb1, L1, nl1, cl1, D1, nd1, cd1⟩, l1⟩ := ea
        obtain ⟨⟨S2, A2, na2, ca2, B2, nb2, cb2, L2, nl2, cl2, D2, nd2, cd2⟩, l2⟩ := eb
        dsimp only [F.FV.val, F.FV.cells] at c0 c1 c2 c3 c4 d0 d1 d2 d3 d4 HQ HY HN
        have kA := (Keep.refl NoB wr).alloc (.cells #[.string S1, .slice A1 na1 ca1, .slice B1 nb1 cb1, .slice L1 nl1 cl1, .slice D1 nd1 cd1] 35)
        have kB := kA.alloc (.cells #[.string S2, .slice A2 na2 ca2, .slice B2 nb2 cb2, .slice L2 nl2 cl2, .slice D2 nd2 cd2] 35)
        have f0 := kA.cell d0 id
        have f1 := kA.cell d1 id
        have f2 := kA.cell d2 id
        have f3 := kA.cell d3 id
        have f4 := kA.cell d4 id
        obtain ⟨g0, g1, g2, g3, g4⟩ := F.blk5 (v := ⟨S1, A1, na1, ca1, B1, nb1, cb1, L1, nl1, cl1, D1, nd1, cd1⟩) ((Blk.new wr 35 #[.string S1, .slice A1 na1 ca1, .slice B1 nb1 cb1, .slice L1 nl1 cl1, .slice D1 nd1 cd1]).alloc (.cells #[.string S2, .slice A2 na2 ca2, .slice B2 nb2 cb2, .slice L2 nl2 cl2, .slice D2 nd2 cd2] 35))
        dsimp only at g0 g1 g2 g3 g4
        by_cases he : l1 = l2
        · have HV := Lib.hid (HY.out he)
          rw [decide_eq_true he] at HQ
          clear HY HN he
          go_wp2_with fail
          refine (HQ.out _ kB).mono ?_
          rintro e w1 ⟨rfl, k1⟩
          have hK1 := keepN hK (keepN kB k1)
          go_wp2
          go_roundw
          case rel => exact ⟨j + 1, by omega, by go_num, HV, hK1⟩
          case measure => simp [intOf]; omega
        · obtain rfl : R = false := by rw [hR.out, decide_eq_false_iff_not]; exact HN.out he
          rw [decide_eq_false he] at HQ
          clear HY HN he hR
          go_wp2_with fail
          refine (HQ.out _ kB).mono ?_
          rintro e w1 ⟨rfl, k1⟩
          have hK1 := keepN hK (keepN kB k1)
          go_wp2
          go_ret
          exact ⟨rfl, hK1⟩
      · obtain rfl : j = n := by omega
        obtain rfl : R = true := by rw [hR.out, decide_eq_true_iff]; exact map_all ht.out hn.out hm.out
        clear hR
        go_wp2
        go_ret
        exact ⟨rfl, hK⟩
  · obtain rfl : R = false := by
      rw [hR.out, decide_eq_false_iff_not]
      intro e
      have := congrArg List.length e
      rw [List.length_map, List.length_map, hn.out, hm.out] at this
      exact hnm this
    have hne : ((n : Int) != (m : Int)) = true := by rw [bne_iff_ne]; omega
    clear hnm hR
    go_enter Tryz.func53, Tryz.ntmps53
    go_wp2
    go_ret
    exact ⟨rfl, Keep.refl _ _⟩

theorem sameI_of (es gs : List SE) (fs hs : List FE) : sameI (imOf es fs) (imOf gs hs) = (decide ((es.map fun e => e.2) = gs.map fun e => e.2) && decide ((fs.map fun e => e.2) = hs.map fun e => e.2)) := by
  unfold sameI imOf; dsimp only; rw [Bool.decide_and]
theorem ImAt.shp {w : World} {v : IV} {es : List SE} {fs : List FE} (h : ImAt w v es fs) {i : Nat} (hi : i < es.length) : Rd w es[i].1.A (ivs es[i].2) ∧ es[i].2.length = es[i].1.n := h.hs _ (List.getElem_mem hi)
theorem ImAt.fun_ {w : World} {v : IV} {es : List SE} {fs : List FE} (h : ImAt w v es fs) {i : Nat} (hi : i < fs.length) : F.FnAt w fs[i].1 fs[i].2 := h.hf _ (List.getElem_mem hi)
theorem sme {es : List SE} {fs : List FE} (h : SmI es fs) {i : Nat} (hi : i < es.length) : es[i].1.n ≤ 100 := h.sh _ (List.getElem_mem hi)
theorem smf {es : List SE} {fs : List FE} (h : SmI es fs) {i : Nat} (hi : i < fs.length) : F.SmF fs[i].1 := h.fn _ (List.getElem_mem hi)

set_option maxRecDepth 100000 in
set_option maxHeartbeats 4000000 in
theorem same_any (v u : IV) (es gs : List SE) (fs hs : List FE) (w : World) (h : ImAt w v es fs) (h2 : ImAt w u gs hs) (hs1 : SmI es fs) (hs2 : SmI gs hs) :
    Calls Tryz.prog 18 #[v.val, u.val] w fun e w' => e = .returned (.bool (sameI (imOf es fs) (imOf gs hs))) ∧ Keep NoB w w' := by
  have bx := (Blk.new w 27 v.cells).alloc (.cells u.cells 27)
  have by0 := Blk.new (w.alloc (.cells v.cells 27)) 27 u.cells
  have k0 := ((Keep.refl NoB w).alloc (.cells v.cells 27)).alloc (.cells u.cells 27)
  rw [World.size_alloc] at by0
  have hl := h.lx
  have hl2 := h.ly
  have hl3 := h2.lx
  have hl4 := h2.ly
  have n1 := hs1.ns
  have n2 := hs1.nf
  have n3 := hs2.ns
  have n4 := hs2.nf
  have HS := Lib.hid (fun W (hk : Keep NoB w W) => eqfnS_any v.X u.X es gs v.nx u.nx v.cx u.cx 52 W (enters_of Tryz.func52 (by kernel_rfl) rfl) (fun W' hk' => (h.keepN (keepN hk hk')).rx) (fun W' hk' => (h2.keepN (keepN hk hk')).rx) hl hl3 (by omega) (by omega)
    (fun i hi hi' W' hk' => equalSh_any es[i].1.A gs[i].1.A es[i].2 gs[i].2 es[i].1.n gs[i].1.n es[i].1.c gs[i].1.c W' ((h.keepN (keepN hk hk')).shp hi).1 ((h2.keepN (keepN hk hk')).shp hi').1 (h.shp hi).2 (h2.shp hi').2 (by have := sme hs1 hi; omega) (by have := sme hs2 hi'; omega) _ rfl) _ rfl)
  have HF := Lib.hid (fun W (hk : Keep NoB w W) => eqfnF_any v.Y u.Y fs hs v.ny u.ny v.cy u.cy 54 W (enters_of Tryz.func54 (by kernel_rfl) rfl) (fun W' hk' => (h.keepN (keepN hk hk')).ry) (fun W' hk' => (h2.keepN (keepN hk hk')).ry) hl2 hl4 (by omega) (by omega)
    (fun i hi hi' W' hk' => by
      have e : F.sameF fs[i].2 hs[i].2 = decide (fs[i].2 = hs[i].2) := by rw [Bool.eq_iff_iff, F.sameF_iff, decide_eq_true_iff]
      rw [← e]
      exact F.sameF_any fs[i].1 fs[i].2 hs[i].1 hs[i].2 W' ((h.keepN (keepN hk hk')).fun_ hi) ((h2.keepN (keepN hk hk')).fun_ hi') (smf hs1 hi) (smf hs2 hi')) _ rfl)
  rw [sameI_of]
  obtain ⟨x0, x1⟩ := blk2 bx
  obtain ⟨y0, y1⟩ := blk2 by0
  have HX := Lib.hid bx
  have HY := Lib.hid by0
  generalize decide ((es.map fun e => e.2) = gs.map fun e => e.2) = r1 at *
  generalize decide ((fs.map fun e => e.2) = hs.map fun e => e.2) = r2 at *
  clear h h2 hs1 hs2 hl hl2 hl3 hl4 n1 n2 n3 n4 bx by0
  obtain ⟨X, nx, cx, Y, ny, cy⟩ := v
  obtain ⟨X2, nx2, cx2, Y2, ny2, cy2⟩ := u
  dsimp only [IV.val, IV.cells] at *
  go_enter Tryz.func18, Tryz.ntmps18
  go_wp2_with fail
  refine (HS.out _ k0).mono ?_
  rintro e w1 ⟨rfl, k1⟩
  cases r1
  · go_wp2
    go_ret
    exact ⟨rfl, keepN k0 k1⟩
  · have hx := k1.cell x1 id
    have hy := k1.cell y1 id
    go_wp2_with fail
    refine (HF.out _ (keepN k0 k1)).mono ?_
    rintro e w2 ⟨rfl, k2⟩
    go_wp2
    go_ret
    exact ⟨by simp, keepN k0 (keepN k1 k2)⟩

end Go.Proofs.YtifobiajjhknbaaGreatDoor.I

namespace Go.Proofs.YtifobiajjhknbaaGreatDoor.M
open Go.RowKit W

/-- What the program's Normal answers, in worlds of a class, of texts that are not too long. -/
def NormT (T : World → Prop) : Prop := ∀ (S : ByteArray) (s : Bs) (W : World), T W → Hid (S.data.toList = s) → S.size ≤ 140000 →
  Calls Tryz.prog 13 #[.string S] W fun e w' => e = .returned (.string (str (normL s))) ∧ Keep NoB W w'
/-- What the program's Parse answers. -/
def ParseR (R : I.Im × Nat × Int) (w : World) (e : Ending) (w' : World) : Prop :=
  ∃ (v : I.IV) (es : List I.SE) (fs : List I.FE), e = .returned (.tuple #[v.val, .int .i64 ((R.2.1 : Nat) : Int), .int .i64 R.2.2]) ∧ I.OwnIm w' (Fresh w) v es fs ∧ I.SmI es fs ∧ I.imOf es fs = R.1 ∧ Keep NoB w w'
def ParseT (T : World → Prop) : Prop := ∀ (S : ByteArray) (s : Bs) (W : World), T W → Hid (S.data.toList = s) → S.size ≤ 140000 →
  Calls Tryz.prog 8 #[.string S] W (ParseR (parseL s) W)
/-- What the law's alive answers. -/
def AliveT (T : World → Prop) : Prop := ∀ W, T W → Calls Tryz.prog 14 #[] W fun e w' => e = .returned (.bool true) ∧ Keep NoB W w'
theorem has_not {S : ByteArray} {s : Bs} {t : ByteArray} {w : World} (hs : S.data.toList = s) (hl : S.size ≤ 140000) (hC : O.CutAt w) (h : Lib.index s t.data.toList = -1) :
    Calls Tryz.prog 30 #[.string S, .string t] w fun e w' => e = .returned (.bool false) ∧ Keep NoB w w' := by
  obtain ⟨m, hm⟩ := hC
  refine (Tryz.strings_Contains S t m w (by omega) hm).mono ?_
  rintro e w' ⟨rfl, rfl⟩
  refine ⟨?_, Keep.refl _ _⟩
  unfold Lib.contains
  rw [hs, h]
  rfl
theorem same_self (p : I.Im) : I.sameI p p = true := by unfold I.sameI; simp
theorem keepM {a b c : World} (h : Keep NoB a b) (k : Keep NoB b c) : Keep NoB a c := h.trans k (fun _ h _ => h.elim)

set_option maxRecDepth 100000 in
set_option maxHeartbeats 4000000 in
theorem normal_walk (T : World → Prop) (hT : ∀ W W', T W → Keep NoB W W' → T W') (HA : Hid (AliveT T)) (HN : Hid (NormT T)) (HP : Hid (ParseT T)) (HC : ∀ W, T W → O.CutAt W) (S : ByteArray) (w : World) (hw : T w) :
    Calls Tryz.prog 5 #[.string S] w fun e w' => e = .returned (.bool true) ∧ Keep NoB w w' := by
  have HT := Lib.hid (fun W (hk : Keep NoB w W) => hT w W hw hk)
  have HAl := Lib.hid (fun W (hk : Keep NoB w W) => HA.out W (HT.out W hk))
  by_cases hl : S.size ≤ 8000
  · obtain ⟨s, hs⟩ : ∃ s, S.data.toList = s := ⟨_, rfl⟩
    have hsz := size_of hs
    have hnl := norm_len s
    obtain ⟨hp1, hp2⟩ := parse_norm (s := s) (by omega)
    obtain ⟨hx1, hx2, hx3⟩ := norm_has s
    have hnn := norm_norm s
    have hns : (str (normL s)).data.toList = normL s := by simp
    have hnz : (str (normL s)).size ≤ 9000 := by rw [size_of hns]; omega
    have H1 := Lib.hid (fun W hk => HN.out S s W (HT.out W hk) (Lib.hid hs) (by omega))
    have H2 := Lib.hid (fun W hk => HP.out S s W (HT.out W hk) (Lib.hid hs) (by omega))
    have H3 := Lib.hid (fun W hk => HP.out (str (normL s)) (normL s) W (HT.out W hk) (Lib.hid hns) (by omega))
    have H4 := Lib.hid (fun W hk => HN.out (str (normL s)) (normL s) W (HT.out W hk) (Lib.hid hns) (by omega))
    have H5 := Lib.hid (fun W hk => has_not (t := ⟨#[59]⟩) hns (by omega) (HC W (HT.out W hk)) hx1)
    have H6 := Lib.hid (fun W hk => has_not (t := ⟨#[9]⟩) hns (by omega) (HC W (HT.out W hk)) hx2)
    have H7 := Lib.hid (fun W hk => has_not (t := ⟨#[32, 32]⟩) hns (by omega) (HC W (HT.out W hk)) hx3)
    rw [hnn] at H4
    obtain ⟨p, n1, e1, hP⟩ : ∃ p n e, parseL s = (p, n, e) := ⟨_, _, _, rfl⟩
    obtain ⟨q, n2, e2, hQ⟩ : ∃ p n e, parseL (normL s) = (p, n, e) := ⟨_, _, _, rfl⟩
    rw [hP, hQ] at hp1 hp2
    dsimp only at hp1 hp2
    subst hp1 hp2
    rw [hP] at H2
    rw [hQ] at H3
    unfold ParseR at H2 H3
    dsimp only at H2 H3
    generalize str (normL s) = N at H1 H3 H4 H5 H6 H7
    clear hs hsz hnl hP hQ hx1 hx2 hx3 hnn hns hnz HN HP HA HT hT HC hw
    go_enter Tryz.func5, Tryz.ntmps5
    go_wp2_with fail
    refine (HAl.out _ (Keep.refl _ _)).mono ?_
    rintro e w1 ⟨rfl, k1⟩
    go_wp2_with fail
    refine (H1.out _ k1).mono ?_
    rintro e w2 ⟨rfl, k2'⟩
    have k2 := keepM k1 k2'
    clear k1 k2'
    go_wp2_with fail
    refine (H2.out _ k2).mono ?_
    rintro e w3 ⟨v, es, fs, rfl, hio, hsm, him, k3'⟩
    have hi := hio.im
    clear hio
    have k3 := keepM k2 k3'
    clear k2 k3'
    have bq := Blk.new w3 27 v.cells
    have ka := (Keep.refl NoB w3).alloc (.cells v.cells 27)
    have k4 := k3.alloc (.cells v.cells 27)
    have hi4 := hi.keepN ka
    obtain ⟨X, nx, cx, Y, ny, cy⟩ := v
    dsimp only [I.IV.val, I.IV.cells] at bq k4 ka hi4 ⊢
    obtain ⟨r0, r1⟩ := I.blk2 (v := ⟨X, nx, cx, Y, ny, cy⟩) bq
    dsimp only at r0 r1
    have HB := Lib.hid (And.intro bq (And.intro hi4 (And.intro hsm him)))
    clear bq hi4 hsm him hi k3 ka
    go_wp2_with fail
    refine (H3.out _ k4).mono ?_
    rintro e w5 ⟨v5, es5, fs5, rfl, hio, hsm5, him5, k5⟩
    have hi5 := hio.im
    clear hio
    obtain ⟨bq, hi4, hsm, him⟩ := HB.out
    have bq5 := (bq.keep k5 id).alloc (.cells v5.cells 27)
    have b8 := Blk.new w5 27 v5.cells
    have ka := (Keep.refl NoB w5).alloc (.cells v5.cells 27)
    have k6 := (keepM k4 k5).alloc (.cells v5.cells 27)
    have hi6 := (hi4.keepN k5).keepN ka
    have hi56 := hi5.keepN ka
    obtain ⟨X5, nx5, cx5, Y5, ny5, cy5⟩ := v5
    dsimp only [I.IV.val, I.IV.cells] at bq5 b8 k6 ka hi6 hi56 ⊢
    have HB2 := Lib.hid (And.intro bq5 (And.intro b8 (And.intro hi6 (And.intro hi56 (And.intro hsm (And.intro hsm5 (And.intro him him5)))))))
    clear bq hi4 hsm him bq5 b8 hi6 hi56 hsm5 him5 hi5 HB k4 k5 ka r0 r1
    go_wp2_with fail
    refine (H4.out _ k6).mono ?_
    rintro e w7 ⟨rfl, k7⟩
    obtain ⟨bq5, b8, hi6, hi56, hsm, hsm5, him, him5⟩ := HB2.out
    obtain ⟨r0, r1⟩ := I.blk2 (v := ⟨X, nx, cx, Y, ny, cy⟩) (bq5.keep k7 id)
    obtain ⟨s0, s1⟩ := I.blk2 (v := ⟨X5, nx5, cx5, Y5, ny5, cy5⟩) (b8.keep k7 id)
    dsimp only at r0 r1 s0 s1
    have HSm := Lib.hid (I.same_any _ _ es es5 fs fs5 w7 (hi6.keepN k7) (hi56.keepN k7) hsm hsm5)
    rw [him, him5, same_self] at HSm
    have k8 := keepM k6 k7
    clear bq5 b8 hi6 hi56 hsm hsm5 him him5 HB2 k6 k7
    go_wp2_with fail
    refine HSm.out.mono ?_
    rintro e w9 ⟨rfl, k9⟩
    go_wp2_with fail
    refine (H5.out _ (keepM k8 k9)).mono ?_
    rintro e w10 ⟨rfl, k10⟩
    go_wp2_with fail
    refine (H6.out _ (keepM (keepM k8 k9) k10)).mono ?_
    rintro e w11 ⟨rfl, k11⟩
    go_wp2_with fail
    refine (H7.out _ (keepM (keepM (keepM k8 k9) k10) k11)).mono ?_
    rintro e w12 ⟨rfl, k12⟩
    go_wp2
    go_ret
    exact ⟨rfl, keepM (keepM (keepM (keepM k8 k9) k10) k11) k12⟩
  · go_enter Tryz.func5, Tryz.ntmps5
    go_wp2_with fail
    refine (HAl.out _ (Keep.refl _ _)).mono ?_
    rintro e w1 ⟨rfl, k1⟩
    go_wp2
    go_ret
    exact ⟨rfl, k1⟩

end Go.Proofs.YtifobiajjhknbaaGreatDoor.M

namespace Go.Proofs.YtifobiajjhknbaaGreatDoor.I
open Go.RowKit W

/-- Parts that are owned, each. -/
def OwnS (W : World) (P : Nat → Prop) (e : SE) : Prop := Own W 3 1 P (.slice e.1.A e.1.n e.1.c) e.1.n (ivs e.2)
theorem OwnS.keep {W W' : World} {P O : Nat → Prop} {e : SE} (h : OwnS W P e) (hk : Keep O W W') (hn : ∀ k, P k → ¬ O k) : OwnS W' P e := by
  unfold OwnS at *
  exact h.keep hk hn
theorem OwnS.mono {W : World} {P P' : Nat → Prop} {e : SE} (h : OwnS W P e) (hP : ∀ k, P k → k < W.heap.size → P' k) : OwnS W P' e := by
  unfold OwnS at *
  exact h.mono hP
/-- Parts that are owned, each. -/
def OwnF (W : World) (P : Nat → Prop) (e : FE) : Prop := F.OwnF W P e.1 e.2
theorem OwnF.keep {W W' : World} {P O : Nat → Prop} {e : FE} (h : OwnF W P e) (hk : Keep O W W') (hn : ∀ k, P k → ¬ O k) : OwnF W' P e := by
  unfold OwnF at *
  exact h.keep hk hn
theorem OwnF.mono {W : World} {P P' : Nat → Prop} {e : FE} (h : OwnF W P e) (hP : ∀ k, P k → k < W.heap.size → P' k) : OwnF W P' e := by
  unfold OwnF at *
  exact h.mono hP
end Go.Proofs.YtifobiajjhknbaaGreatDoor.I

namespace Go.Proofs.YtifobiajjhknbaaGreatDoor.I
open Go.RowKit W

end Go.Proofs.YtifobiajjhknbaaGreatDoor.I

namespace Go.Proofs.YtifobiajjhknbaaGreatDoor.I
open Go.RowKit W

end Go.Proofs.YtifobiajjhknbaaGreatDoor.I

namespace Go.Proofs.YtifobiajjhknbaaGreatDoor.I
open Go.RowKit W

end Go.Proofs.YtifobiajjhknbaaGreatDoor.I

namespace Go.Proofs.YtifobiajjhknbaaGreatDoor.O
open Go.RowKit

theorem wrap_u64 {m : Nat} (h : m ≤ 511) : IntKind.u64.wrap (m : Int) = (m : Int) := by simp [IntKind.wrap, IntKind.bits, IntKind.signed]; omega

end Go.Proofs.YtifobiajjhknbaaGreatDoor.O

namespace Go.Proofs.YtifobiajjhknbaaGreatDoor.C
open Go.RowKit O

end Go.Proofs.YtifobiajjhknbaaGreatDoor.C

namespace Go.Proofs.YtifobiajjhknbaaGreatDoor.F
open Go.RowKit W

end Go.Proofs.YtifobiajjhknbaaGreatDoor.F

namespace Go.Proofs.YtifobiajjhknbaaGreatDoor.F
open Go.RowKit W

end Go.Proofs.YtifobiajjhknbaaGreatDoor.F

namespace Go.Proofs.YtifobiajjhknbaaGreatDoor.C
open Go.RowKit O

end Go.Proofs.YtifobiajjhknbaaGreatDoor.C

namespace Go.Proofs.YtifobiajjhknbaaGreatDoor.F
open Go.RowKit W

end Go.Proofs.YtifobiajjhknbaaGreatDoor.F

namespace Go.Proofs.YtifobiajjhknbaaGreatDoor.F
open Go.RowKit W

/-- The bytes so far. -/
def Byt (W2 : World) (b : Nat) (bs : List UInt8) (w : World) : Prop := Keep (fun k => k = b) W2 w ∧ ∃ u, Blk w b 50 #[u] ∧ V.OwnB w (Fresh W2) u bs
/-- A writer: what encodes, the part, and where the bytes go, each in a cell of its own. -/
def WrV (k : Nat) (tc tp : TypeId) (enc : Value) (cells : Array Value) (b m : Nat) (v : Value) (w : World) : Prop :=
  ∃ c p q, v = askV k #[.pointer (some ⟨c, 0, none⟩), .pointer (some ⟨p, 0, none⟩), .pointer (some ⟨q, 0, none⟩)] ∧ (m ≤ c ∧ m ≤ p ∧ m ≤ q) ∧ Blk w c tc #[enc] ∧ Blk w p tp cells ∧ Blk w q 198 #[.pointer (some ⟨b, 0, none⟩)]
theorem WrV.keep {k : Nat} {tc tp : TypeId} {enc : Value} {cells : Array Value} {b m : Nat} {v : Value} {w w' : World} {O : Nat → Prop} (h : WrV k tc tp enc cells b m v w) (hk : Keep O w w') (hO : ∀ x, m ≤ x → ¬ O x) : WrV k tc tp enc cells b m v w' := by
  obtain ⟨c, p, q, e, ⟨m1, m2, m3⟩, h1, h2, h3⟩ := h
  exact ⟨c, p, q, e, ⟨m1, m2, m3⟩, h1.keep hk (hO _ m1), h2.keep hk (hO _ m2), h3.keep hk (hO _ m3)⟩
theorem Byt.keepN {W2 w w' : World} {b : Nat} {bs : List UInt8} (h : Byt W2 b bs w) (hk : Keep NoB w w') : Byt W2 b bs w' := by
  obtain ⟨h1, u, h2, h3⟩ := h
  exact ⟨h1.trans hk (fun _ h _ => h.elim), u, h2.keep hk id, h3.keep hk (fun _ _ => id)⟩
end Go.Proofs.YtifobiajjhknbaaGreatDoor.F

namespace Go.Proofs.YtifobiajjhknbaaGreatDoor.F
open Go.RowKit W

end Go.Proofs.YtifobiajjhknbaaGreatDoor.F

namespace Go.Proofs.YtifobiajjhknbaaGreatDoor.F
open Go.RowKit W

end Go.Proofs.YtifobiajjhknbaaGreatDoor.F

namespace Go.Proofs.YtifobiajjhknbaaGreatDoor.I
open Go.RowKit W

end Go.Proofs.YtifobiajjhknbaaGreatDoor.I

namespace Go.Proofs.YtifobiajjhknbaaGreatDoor.I
open Go.RowKit W

end Go.Proofs.YtifobiajjhknbaaGreatDoor.I

namespace Go.Proofs.YtifobiajjhknbaaGreatDoor
open Go.RowKit
section
variable {P : Program} {md : Region.Mode} {ops : Array Oper}

end
end Go.Proofs.YtifobiajjhknbaaGreatDoor

namespace Go.Proofs.YtifobiajjhknbaaGreatDoor
open Go.RowKit
section
variable {P : Program} {md : Region.Mode} {ops : Array Oper}
end
end Go.Proofs.YtifobiajjhknbaaGreatDoor

namespace Go.Proofs.YtifobiajjhknbaaGreatDoor.I
open Go.RowKit W

/-- A slice of bytes that reads as a list. -/
def PtV (l : List UInt8) (u : Value) (w : World) : Prop := ∃ A c, u = .slice A l.length c ∧ V.Rd w A l
theorem PtV.keepN {l : List UInt8} {u : Value} {w w' : World} (h : PtV l u w) (hk : Keep NoB w w') : PtV l u w' := by
  obtain ⟨A, c, e, h⟩ := h
  exact ⟨A, c, e, h.keep hk (fun _ _ _ => id)⟩
theorem PtV.rd {l : List UInt8} {A : Option Addr} {n c : Nat} {w : World} (h : PtV l (.slice A n c) w) : V.Rd w A l := by
  obtain ⟨A', c', e, h⟩ := h
  injection e with e1 e2 e3
  subst e1; exact h
/-- One block of bytes gets the run-time's mark. -/
structure MarkK (w w' : World) : Prop where
  os : w'.os = w.os
  tape : w'.tape = w.tape
  output : w'.output = w.output
  size : w'.heap.size = w.heap.size
  block : ∀ k : Nat, w'.heap[k]? = w.heap[k]? ∨ ∃ (cs : Array Value) (t : TypeId) (f f' : Nat × Nat), w.heap[k]? = some (Obj.cells cs t f) ∧ w'.heap[k]? = some (Obj.cells cs t f')
theorem MarkK.cell {w w' : World} (h : MarkK w w') {p : Addr} {v : Value} (hc : w.cell? p = some v) : w'.cell? p = some v := by
  rcases h.block p.block with hb | ⟨cs, t, f, f', h1, h2⟩
  · exact (World.cell?_of_block hb).trans hc
  · unfold World.cell? at hc ⊢
    rw [h1] at hc
    rw [h2]
    exact hc
/-- What the values are that Encode's region yields. -/
def SN (v : IV) (a b d : List UInt8) (x m m2 : Nat) : Nat → Value → World → Prop
  | 0 => fun u w => ∃ g f, u = .slice (some ⟨g, 0, none⟩) 5 5 ∧ m2 ≤ g ∧ w.heap[g]? = some (.cells (V.bvs magicL).toArray 5 f)
  | 1 => PtV a
  | 2 => fun u _ => u = .pointer (some ⟨x, 0, none⟩)
  | 3 => fun u _ => u = .slice v.X v.nx v.cx
  | 4 => fun u _ => u = partS
  | 5 => PtV b
  | 6 => fun u _ => u = .pointer (some ⟨x, 1, none⟩)
  | 7 => fun u _ => u = .slice v.Y v.ny v.cy
  | 8 => fun u _ => u = partF
  | 9 => PtV d
  | 10 => fun u w => ∃ g A1 c1 A2 c2 A3 c3, u = .slice (some ⟨g, 0, none⟩) 3 3 ∧ Blk w g 50 #[.slice A1 a.length c1, .slice A2 b.length c2, .slice A3 d.length c3] ∧ V.Rd w A1 a ∧ V.Rd w A2 b ∧ V.Rd w A3 d
  | 11 => fun u w => ∃ A c, u = .slice A (a ++ (b ++ d)).length c ∧ V.OwnB w (fun k => m ≤ k) (.slice A (a ++ (b ++ d)).length c) (a ++ (b ++ d))
  | 12 => fun u w => ∃ A c, u = .slice A (a ++ (b ++ d)).length c ∧ V.OwnB w (fun k => m ≤ k) (.slice A (a ++ (b ++ d)).length c) (a ++ (b ++ d))
  | _ => fun _ _ => True
theorem smF_ok {W : World} {v : F.FV} {f : F.Fu} (hn : F.FnAt W v f) (hf : F.okF f = true) : F.SmF v := by
  obtain ⟨h1, h2, _, h4, h5⟩ := (F.okF_iff f).1 hf
  have h6 := ((F.okN_iff _).1 h1).1
  have h7 := (C.okB_parts h4).2.1
  have e0 := F.sz_len hn.nm
  have := hn.la
  have := hn.lb
  have := hn.ll
  have := hn.ld
  exact ⟨by omega, by omega, by omega, by omega, by omega⟩
end Go.Proofs.YtifobiajjhknbaaGreatDoor.I

namespace Go.Proofs.YtifobiajjhknbaaGreatDoor.O
open Go.ChangeShapes Go.WideShapes Go.ChangeAt Go.RowKit

theorem seatOwn : ownKnob Tryz.prog.godebug = none := by kernel_rfl
theorem seatLaidOut : laidOutB Tryz.prog = true := by kernel_rfl
theorem tLet : (Tryz.prog.globals[0]?).map (·.type) = some 120 := by kernel_rfl
theorem tPow : (Tryz.prog.globals[4]?).map (·.type) = some 280 := by kernel_rfl
theorem tSyn : (Tryz.prog.globals[9]?).map (·.type) = some 55 := by kernel_rfl
theorem tRng : (Tryz.prog.globals[10]?).map (·.type) = some 55 := by kernel_rfl
theorem tBin : (Tryz.prog.globals[5]?).map (·.type) = some 287 := by kernel_rfl
theorem tUn : (Tryz.prog.globals[6]?).map (·.type) = some 289 := by kernel_rfl
theorem errStar : "*" ++ "errors.errorString" = "*errors.errorString" := by decide
theorem errRow (u : TypeId) (h : Tryz.prog.typeName? 3 u = some "*errors.errorString") : u = 354 :=
  typeName_ptr_named (nm := "errors.errorString") (by rw [errStar]; kernel_rfl) (by kernel_rfl) (by decide) u (by rw [errStar]; exact h)

set_option maxRecDepth 100000 in
theorem laidO_of {W0 : World} {x y : String × DataW Unit}
    (h : laidMet Tryz.prog [("backstay/alu.binNames", Rows.laid_backstay_alu_binNames), ("backstay/alu.unNames", Rows.laid_backstay_alu_unNames), x, y, ("internal/strconv.uint64pow10", Rows.laid_internal_strconv_uint64pow10), ("strconv.ErrRange", Rows.laid_strconv_ErrRange), ("strconv.ErrSyntax", Rows.laid_strconv_ErrSyntax), ("backstay/value.letters", Rows.laid_backstay_value_letters)] W0) : LaidO W0 := by
  have h4 := h.tail.tail.tail.tail
  have h5 := h4.tail
  have h6 := h5.tail
  refine ⟨Lib.tabIs_of_head (zs := [0, 73, 82, 70, 80]) (k := .i32) _root_.Go.Proofs.YtifobiajjhknbaaGreatDoor.W.gLet tLet Tryz.underlying120 Tryz.underlying21 (by kernel_rfl) (by kernel_rfl) h6.tail,
    ⟨A.strs_of_head (l := A.binNs) A.gBin tBin Tryz.underlying287 Tryz.underlying9 (by kernel_rfl) (by kernel_rfl) h,
     A.strs_of_head (l := A.unNs) A.gUn tUn Tryz.underlying289 Tryz.underlying9 (by kernel_rfl) (by kernel_rfl) h.tail⟩,
    Lib.tabIs_of_head (zs := Lib.pow10Tab) (k := .u64) _root_.Go.Proofs.YtifobiajjhknbaaGreatDoor.W.gPow tPow Tryz.underlying280 Tryz.underlying144 (by kernel_rfl) (by kernel_rfl) h4, ?_, ?_⟩
  · obtain ⟨a, s, hv, _⟩ := laid_sentinel h6 _root_.Go.Proofs.YtifobiajjhknbaaGreatDoor.W.gSyn tSyn Tryz.underlying55 errRow Tryz.underlying354 Tryz.underlying356 rfl rfl Tryz.underlying9 (by kernel_rfl) (by kernel_rfl)
    exact ⟨_, _, hv⟩
  · obtain ⟨a, s, hv, _⟩ := laid_sentinel h5 _root_.Go.Proofs.YtifobiajjhknbaaGreatDoor.W.gRng tRng Tryz.underlying55 errRow Tryz.underlying354 Tryz.underlying356 rfl rfl Tryz.underlying9 (by kernel_rfl) (by kernel_rfl)
    exact ⟨_, _, hv⟩

section
variable {H : Type} {enc : TypeId × Value → H} {w : World} {base b0 : Nat} {spare : Nat → Bool} {held : Bool} {r : Reach} {v : Value} {d : DataW H} {p : List MemPlace}
end

end Go.Proofs.YtifobiajjhknbaaGreatDoor.O

namespace Go.Proofs.YtifobiajjhknbaaGreatDoor.C
open Go.ChangeShapes Go.WideShapes Go.ChangeAt Go.RowKit Go.Deep O

section
variable {H : Type} {enc : TypeId × Value → H} {W : World} {base : Nat} {spare : Nat → Bool} {held : Bool} {fuel : Nat} {cs : List Value} {x : DataW H × List MemPlace}
end
section
variable {H : Type} {enc : TypeId × Value → H} {w : World} {base b0 : Nat} {spare : Nat → Bool} {held : Bool} {r : Reach} {v : Value} {d : DataW H} {p : List MemPlace}
end

end Go.Proofs.YtifobiajjhknbaaGreatDoor.C

namespace Go.Proofs.YtifobiajjhknbaaGreatDoor.I
open Go.RowKit W

theorem sm_of {w : World} {v : IV} {es : List SE} {fs : List FE} (h : ImAt w v es fs) (hs : es.length ≤ 64 ∧ fs.length ≤ 64 ∧ (∀ e ∈ es, S.okS e.2 = true) ∧ ∀ e ∈ fs, F.okF e.2 = true) : SmI es fs ∧ LgI v es fs := by
  obtain ⟨h1, h2, h3, h4⟩ := hs
  have hsh : ∀ e ∈ es, e.1.n ≤ 100 := fun e he => by
    have a := (h.hs e he).2
    have b := ((S.okS_iff _).1 (h3 e he)).1
    omega
  have hfn : ∀ e ∈ fs, F.SmF e.1 := fun e he => smF_ok (h.hf e he) (h4 e he)
  have hx := h.lx
  have hy := h.ly
  exact ⟨⟨by omega, by omega, hsh, hfn⟩, ⟨by omega, by omega, fun e he => by have := hsh e he; omega, fun e he => (hfn e he).lg⟩⟩
end Go.Proofs.YtifobiajjhknbaaGreatDoor.I

namespace Go.Proofs.YtifobiajjhknbaaGreatDoor.I
open Go.RowKit W

end Go.Proofs.YtifobiajjhknbaaGreatDoor.I

namespace Go.Proofs.YtifobiajjhknbaaGreatDoor.I
open Go.RowKit W

end Go.Proofs.YtifobiajjhknbaaGreatDoor.I

namespace Go.Proofs.YtifobiajjhknbaaGreatDoor.I
open Go.RowKit W

end Go.Proofs.YtifobiajjhknbaaGreatDoor.I

namespace Go.Proofs.YtifobiajjhknbaaGreatDoor.I
open Go.RowKit W

theorem sm_ok {w : World} {v : IV} {es : List SE} {fs : List FE} (h : ImAt w v es fs) (ho : okI (imOf es fs) = true) : SmI es fs ∧ LgI v es fs := by
  obtain ⟨⟨h1, ⟨_, h2⟩, _⟩, h3, h4⟩ := (okI_iff _).1 ho
  refine sm_of h ⟨by simpa [imOf] using h1, by simpa [imOf] using h2, fun e he => List.all_eq_true.1 h3 _ ?_, fun e he => List.all_eq_true.1 h4 _ ?_⟩
  · exact List.mem_map.2 ⟨e, he, rfl⟩
  · exact List.mem_map.2 ⟨e, he, rfl⟩
end Go.Proofs.YtifobiajjhknbaaGreatDoor.I

namespace Go.Proofs.YtifobiajjhknbaaGreatDoor.M
open Go.RowKit Go.Shelf W

/-- What Parse answers of it. -/
def outP : PS ⊕ (Nat × Int) → I.Im × Nat × Int
  | .inr x => (I.nilI, x.1, x.2)
  | .inl q => (q.im, 0, 0)
theorem readP_ok {s : Bs} {q : PS} (h : readP s = .inl q) : I.okI q.im = true := by
  unfold readP at h
  split at h
  · cases h
  · split at h
    · cases h
    · split at h
      · cases h
      · split at h
        · rename_i ho
          cases h; exact ho
        · cases h
theorem readP_no {s : Bs} {l : Nat} {c : Int} (h : readP s = .inr (l, c)) : c ≠ 0 := by
  unfold readP at h
  split at h
  · cases h; decide
  · split at h
    · cases h; decide
    · split at h
      · rename_i hp
        cases h
        exact settle_wrong _ _ hp
      · split at h
        · cases h
        · cases h; decide
theorem nil_sm : I.SmI [] [] := ⟨by decide, by decide, (fun _ h => nomatch h), (fun _ h => nomatch h)⟩

set_option maxRecDepth 100000 in
set_option maxHeartbeats 4000000 in
theorem parse_any (S : ByteArray) (s : Bs) (w : World) (hE : Hid (EnvM w)) (hs : Hid (S.data.toList = s)) (hl : S.size ≤ 140000) :
    Calls Tryz.prog 8 #[.string S] w (ParseR (outP (readP s)) w) := by
  have hk1 := (Keep.refl NoB w).alloc (.cells #[.slice none 0 0, .slice none 0 0] 27)
  have bp := Blk.new w 27 #[.slice none 0 0, .slice none 0 0]
  have HRd := Lib.hid (read_any S s _ (Lib.hid (hE.out.keep hk1)) hs hl)
  have HK := Lib.hid hk1
  clear hk1
  go_enter Tryz.func8, Tryz.ntmps8
  go_wp2_with fail
  refine HRd.out.mono ?_
  rintro e w2 ⟨k2, ⟨l, c, hp, rfl⟩ | ⟨q, rb, T, N, ln, hp, rfl, hr, hN⟩⟩
  · have hc := readP_no hp
    have hc2 : (c == 0) = false := by rw [beq_eq_false_iff_ne]; exact hc
    have b2 := bp.keep k2 id
    have z0 := b2.cell 0
    have z1 := b2.cell 1
    have zf := fun i => b2.frozen i
    have zl := b2.lt
    simp only [List.getElem?_toArray, List.getElem?_cons_zero, List.getElem?_cons_succ] at z0 z1
    have HP := Lib.hid hp
    have HB := Lib.hid b2
    clear hp HRd bp b2
    go_wp2
    have b9 := (HB.out.put 0 (.slice none 0 0)).put 1 (.slice none 0 0)
    have o0 := b9.cell 0
    have o1 := b9.cell 1
    simp only [List.setIfInBounds_toArray, List.set_cons_zero, List.set_cons_succ, List.getElem?_toArray, List.getElem?_cons_zero, List.getElem?_cons_succ] at o0 o1
    refine bodyPost_ret (v := .tuple #[.agg #[.slice none 0 0, .slice none 0 0], .int .i64 ((l : Nat) : Int), .int .i64 c]) (by simp [results, Tryz.results8, go_sem, o0, o1]) rfl ?_
    rw [HP.out]
    exact ⟨I.nilW, [], [], rfl, I.nil_own _ _, nil_sm, rfl, ((keepN HK.out k2).setCell (p := ⟨w.heap.size, 0, none⟩) (fun h => absurd h (Nat.lt_irrefl _)) _).setCell (p := ⟨w.heap.size, 1, none⟩) (fun h => absurd h (Nat.lt_irrefl _)) _⟩
  · have b2 := bp.keep k2 id
    have z0 := b2.cell 0
    have z1 := b2.cell 1
    have zf := fun i => b2.frozen i
    have zl := b2.lt
    simp only [List.getElem?_toArray, List.getElem?_cons_zero, List.getElem?_cons_succ] at z0 z1
    have HP := Lib.hid hp
    have HR := Lib.hid hr
    obtain ⟨hk3, v, es, fs, ls, R, F, hln, hr4⟩ := hr
    obtain ⟨c0, c1, _⟩ := rd_cells hr4.bk
    have hne : w.heap.size ≠ rb := fun e => by
      have h1 := (hr4.pa.fit rb (by rw [hr4.tb]; exact Tg.noConfusion)).1
      simp at h1
      omega
    have hne2 := hne.symm
    have HR4 := Lib.hid hr4
    have HN := Lib.hid hN
    have HB := Lib.hid b2
    clear hp HRd bp b2 hr4 hk3 hln
    go_wp2
    have b9 := (HB.out.put 0 (.slice v.X v.nx v.cx)).put 1 (.slice v.Y v.ny v.cy)
    have o0 := b9.cell 0
    have o1 := b9.cell 1
    simp only [List.setIfInBounds_toArray, List.set_cons_zero, List.set_cons_succ, List.getElem?_toArray, List.getElem?_cons_zero, List.getElem?_cons_succ] at o0 o1
    refine bodyPost_ret (v := .tuple #[.agg #[.slice v.X v.nx v.cx, .slice v.Y v.ny v.cy], .int .i64 0, .int .i64 0]) (by simp [results, Tryz.results8, go_sem, o0, o1]) rfl ?_
    rw [HP.out]
    obtain ⟨ho, _⟩ := rdr_own (w0 := w.alloc (.cells #[.slice none 0 0, .slice none 0 0] 27)) HR4.out rfl HN.out
    have hsm := (I.sm_ok ho.im (by rw [HR4.out.im]; exact readP_ok HP.out)).1
    have hkb : Keep (fun k => k = w.heap.size) w2 ((w2.setCell ⟨w.heap.size, 0, none⟩ (.slice v.X v.nx v.cx)).setCell ⟨w.heap.size, 1, none⟩ (.slice v.Y v.ny v.cy)) := ((Keep.refl (fun k => k = w.heap.size) w2).setCell (p := ⟨w.heap.size, 0, none⟩) (fun _ => rfl) _).setCell (p := ⟨w.heap.size, 1, none⟩) (fun _ => rfl) _
    have ho2 := ho.keep hkb (fun k hk e => by unfold Fresh at hk; rw [World.size_alloc] at hk; omega)
    exact ⟨⟨v.X, v.nx, v.cx, v.Y, v.ny, v.cy⟩, es, fs, rfl, ho2.mono (fun k hk _ => by unfold Fresh at hk ⊢; rw [World.size_alloc] at hk; omega), hsm, HR4.out.im, ((keepN HK.out k2).setCell (p := ⟨w.heap.size, 0, none⟩) (fun h => absurd h (Nat.lt_irrefl _)) _).setCell (p := ⟨w.heap.size, 1, none⟩) (fun h => absurd h (Nat.lt_irrefl _)) _⟩

end Go.Proofs.YtifobiajjhknbaaGreatDoor.M

namespace Go.Proofs.YtifobiajjhknbaaGreatDoor.M
open Go.RowKit

theorem words_ne (s : Bs) : ∀ w ∈ wordsL s, w ≠ [] := by
  have hfl : ∀ cur : Bs, ∀ w ∈ fl cur, w ≠ [] := by
    intro cur w hw
    by_cases h : cur = []
    · subst h; rw [fl_nil] at hw; cases hw
    · rw [fl_some h, List.mem_singleton] at hw; subst hw; exact h
  have key : ∀ (s cur : Bs), ∀ w ∈ wgo cur s, w ≠ [] := by
    intro s
    induction s with
    | nil => intro cur w hw; exact hfl cur w hw
    | cons c r ih =>
      intro cur w hw
      rw [wgo] at hw
      split at hw
      · exact hfl cur w hw
      · split at hw
        · rcases List.mem_append.1 hw with hw | hw
          · exact hfl cur w hw
          · exact ih [] w hw
        · exact ih _ w hw
  exact key s []
theorem lines_ne (s : Bs) : ∀ l ∈ linesL s, ∀ w ∈ l.2, w ≠ [] := by
  rw [lines_segs]
  have key : ∀ (ls : List Bs) (n : Nat), ∀ l ∈ ones n ls, ∀ w ∈ l.2, w ≠ [] := by
    intro ls
    induction ls with
    | nil => intro n l hl; cases hl
    | cons s r ih =>
      intro n l hl
      rw [ones, List.mem_append] at hl
      rcases hl with hl | hl
      · unfold one at hl
        split at hl
        · cases hl
        · rw [List.mem_singleton.1 hl]; exact words_ne s
      · exact ih _ l hl
  exact key _ _

theorem opAt_put (x : Nm) (v : Int) (fn : List F.Fu) (y : Nm) : opAt (putA x v fn) y = opAt fn y := by
  unfold opAt putA
  rw [List.getElem?_modify]
  cases fn[y.fn]? with
  | none => rfl
  | some f =>
    by_cases e : x.fn = y.fn
    · simp only [e, if_true, Option.map_eq_map, Option.map_some, Option.bind_some]
      rw [List.getElem?_modify]
      cases f.bd[y.pl]? with
      | none => rfl
      | some z =>
        by_cases e2 : x.pl = y.pl <;> simp [e2, putB]
    · simp [e]
theorem findI_put (x : Nm) (v : Int) (fn : List F.Fu) (s : Bs) : I.findI (putA x v fn) s = I.findI fn s := by
  have key : ∀ l : List F.Fu, I.findI l s = (l.map F.Fu.nm).findIdx? (fun a => decide (a = s)) := fun l => by unfold I.findI; rw [List.findIdx?_map]; rfl
  rw [key, key]
  congr 1
  apply List.ext_getElem?
  intro k
  unfold putA
  rw [List.getElem?_map, List.getElem?_modify, List.getElem?_map]
  cases fn[k]? with
  | none => rfl
  | some f => by_cases e : x.fn = k <;> simp [e]
theorem kindA_two (op : Int) : kindA op = 0 ∨ kindA op = 1 ∨ kindA op = 2 := by
  unfold kindA
  split
  · exact .inr (.inl rfl)
  · split
    · exact .inr (.inr rfl)
    · exact .inl rfl
/-- Names are settled as the text's are. -/
theorem sim_settle {st : St} {p : PS} (h : Sim st p) : ∀ (r pre : List Nm) (fn : List F.Fu), pre ++ r = st.ns → (∀ x, opAt fn x = opAt st.im.fn x) → (∀ s, I.findI fn s = I.findI st.im.fn s) → pSettle p fn (notes st.im.fn pre r) = resL st.ns pre fn r
  | [], pre, fn, _, _, _ => rfl
  | x :: r, pre, fn, he, ho, hf => by
    have hx : x ∈ st.ns := by rw [← he]; simp
    have he2 : (pre ++ [x]) ++ r = st.ns := by rw [← he]; simp
    rw [notes, resL]
    by_cases hl : x.lb = true
    · rw [if_pos hl, if_pos hl]
      by_cases ha : again pre x = true
      · rw [if_pos ha, if_pos ha, List.singleton_append, pSettle]
        rfl
      · rw [if_neg ha, if_neg ha, List.nil_append]
        exact sim_settle h r _ fn he2 ho hf
    · have hl2 : x.lb = false := by simpa using hl
      have hk0 := h.kd x hx hl2
      rw [if_neg hl, if_neg hl, List.singleton_append, pSettle]
      have hv : valA st.ns fn x = (match amongP p ⟨x.ln, x.fn, x.pl, x.s, kindA (opAt st.im.fn x)⟩ with | some n => .inl n | none => .inr (wrongM ⟨x.ln, x.fn, x.pl, x.s, kindA (opAt st.im.fn x)⟩)) := by
        unfold valA amongP wrongM
        dsimp only
        rw [ho, hf, if_neg hk0]
        rcases kindA_two (opAt st.im.fn x) with e | e | e
        · exact absurd e hk0
        · rw [e, if_pos rfl, if_pos rfl, h.labs _ (h.ns x hx).1]
          rfl
        · rw [e, if_neg (by decide), if_neg (by decide), h.nums]
          rfl
      rw [hv]
      cases amongP p ⟨x.ln, x.fn, x.pl, x.s, kindA (opAt st.im.fn x)⟩ with
      | none => rfl
      | some v =>
        dsimp only
        exact sim_settle h r _ (putA x (v : Int) fn) he2 (fun y => (opAt_put x _ fn y).trans (ho y)) (fun s => (findI_put x _ fn s).trans (hf s))
/-- What Parse answers is what the text says. -/
theorem parse_read (s : Bs) : outP (readP s) = parseL s := by
  unfold readP parseL
  by_cases h1 : 131072 < s.length
  · rw [if_pos h1, if_pos h1]; rfl
  · rw [if_neg h1, if_neg h1]
    unfold sayL
    rcases sim_run (linesL s) Sim.start (lines_ne s) with ⟨n, e1, e2⟩ | ⟨st, p, e1, e2, h⟩
    · rw [e1, e2]; rfl
    · rw [e1, e2]
      dsimp only
      unfold endL
      rw [h.ms, h.im, sim_settle h st.ns [] st.im.fn rfl (fun _ => rfl) (fun _ => rfl)]
      cases resL st.ns [] st.im.fn st.ns with
      | inr x => rfl
      | inl fn =>
        dsimp only
        by_cases ho : I.okI ⟨st.im.sh, fn⟩ = true
        · rw [if_pos ho, if_pos ho]; rfl
        · rw [if_neg ho, if_neg ho]; rfl

end Go.Proofs.YtifobiajjhknbaaGreatDoor.M

namespace Go.Proofs.YtifobiajjhknbaaGreatDoor.M
open Go

def pgo (cur : Bs) : Bs → List Bs
  | [] => fl cur
  | c :: r => if c = 10 then (cur ++ [10]) :: pgo [] r else pgo (cur ++ [c]) r
def pcs (s : Bs) : List Bs := pgo [] s
theorem pgo_full {a : Bs} (h : noLF a = true) (cur r : Bs) : pgo cur (a ++ 10 :: r) = (cur ++ a ++ [10]) :: pgo [] r := by
  induction a generalizing cur with
  | nil => rw [List.nil_append, pgo, if_pos rfl, List.append_nil]
  | cons c a ih =>
    unfold noLF at h
    rw [List.all_cons, Bool.and_eq_true, decide_eq_true_iff] at h
    rw [List.cons_append, pgo, if_neg h.1, ih h.2]
    simp
theorem pgo_rest {a : Bs} (h : noLF a = true) (cur : Bs) : pgo cur a = fl (cur ++ a) := by
  induction a generalizing cur with
  | nil => rw [pgo, List.append_nil]
  | cons c a ih =>
    unfold noLF at h
    rw [List.all_cons, Bool.and_eq_true, decide_eq_true_iff] at h
    rw [pgo, if_neg h.1, ih h.2, List.append_assoc]
    rfl
theorem pcs_nil : pcs [] = [] := rfl
theorem pcs_cut {a : Bs} (h : noLF a = true) (r : Bs) : pcs (a ++ 10 :: r) = (a ++ [10]) :: pcs r := pgo_full h [] r
theorem pcs_last {a : Bs} (h : noLF a = true) (h0 : a ≠ []) : pcs a = [a] := (pgo_rest h []).trans (by rw [List.nil_append, fl_some h0])
/-- The next piece, and what is left. -/
theorem pcs_next {s : Bs} (h0 : s ≠ []) : (∃ i : Nat, Lib.indexByte s 10 = (i : Int) ∧ i < s.length ∧ pcs s = s.take (i + 1) :: pcs (s.drop (i + 1))) ∨ (Lib.indexByte s 10 = -1 ∧ pcs s = [s]) := by
  rcases index_lf s with ⟨i, h1, h2, h3, h4⟩ | ⟨h1, h2⟩
  · refine .inl ⟨i, h1, h2, ?_⟩
    have e10 : s.take (i + 1) = s.take i ++ [10] := by
      have : s[i] = 10 := by
        have hx := congrArg (fun l : Bs => l[i]?) h3
        rw [List.getElem?_append_right (by rw [List.length_take]; omega), List.length_take, show i - min i s.length = 0 by omega, List.getElem?_cons_zero, List.getElem?_eq_getElem h2] at hx
        exact Option.some.inj hx
      rw [List.take_succ_eq_append_getElem h2, this]
    rw [e10]
    conv => lhs; rw [h3]
    exact pcs_cut h4 _
  · exact .inr ⟨h1, pcs_last h2 h0⟩
theorem fl_len (cur : Bs) : (fl cur).length ≤ 1 := by unfold fl; split <;> simp
theorem pgo_trim : ∀ (s cur : Bs), noLF cur = true → (pgo cur s).map (fun x => Lib.trimSuffix x [10]) = sgo cur s
  | [], cur, h => by
    rw [pgo, sgo]
    by_cases e : cur = []
    · subst e; rfl
    · rw [fl_some e, List.map_cons, (trim_line h).2]; rfl
  | c :: r, cur, h => by
    by_cases hc : c = 10
    · subst hc
      rw [pgo, if_pos rfl, sgo, if_pos rfl, List.map_cons, (trim_line h).1, pgo_trim r [] rfl]
    · rw [pgo, if_neg hc, sgo, if_neg hc]
      refine pgo_trim r _ ?_
      unfold noLF at h ⊢
      rw [List.all_append, h]; simp [hc]
/-- Each without its line feed: the lines. -/
theorem pcs_trim (s : Bs) : (pcs s).map (fun x => Lib.trimSuffix x [10]) = segs s := pgo_trim s [] rfl
theorem pgo_join : ∀ (s cur : Bs), (pgo cur s).flatten = cur ++ s
  | [], cur => by
    rw [pgo]
    by_cases e : cur = []
    · subst e; rfl
    · rw [fl_some e]; simp
  | c :: r, cur => by
    by_cases hc : c = 10
    · subst hc
      rw [pgo, if_pos rfl, List.flatten_cons, pgo_join r []]
      simp
    · rw [pgo, if_neg hc, pgo_join r]
      simp
theorem pcs_join (s : Bs) : (pcs s).flatten = s := pgo_join s []

end Go.Proofs.YtifobiajjhknbaaGreatDoor.M

namespace Go.Proofs.YtifobiajjhknbaaGreatDoor.M
open Go.RowKit Go.Shelf W

theorem slice_to {R R1 : ByteArray} {i : Nat} (hi : i + 1 ≤ R.size) (h : R.extract 0 (i + 1) = R1) (w : World) :
    (Instr.slice 9 (.string R) none (some (.int .i64 ((i : Int) + 1))) none).run Tryz.prog w = .ok (.string R1) w := by
  have hj : (0 : Int) ≤ (i : Int) + 1 ∧ (i : Int) + 1 ≤ (R.size : Int) := ⟨by omega, by omega⟩
  have e : ((i : Int) + 1).toNat = i + 1 := by omega
  simp [Instr.slice, Instr.sliceBounds, Instr.sliceBound, asIntOf, run_underlying Tryz.underlying9, hj, e, h]
theorem slice_from {R R2 : ByteArray} {i : Nat} (hi : i + 1 ≤ R.size) (h : R.extract (i + 1) R.size = R2) (w : World) :
    (Instr.slice 9 (.string R) (some (.int .i64 ((i : Int) + 1))) none none).run Tryz.prog w = .ok (.string R2) w := by
  have hj : (0 : Int) ≤ (i : Int) + 1 ∧ (i : Int) + 1 ≤ (R.size : Int) := ⟨by omega, by omega⟩
  have e : ((i : Int) + 1).toNat = i + 1 := by omega
  simp [Instr.slice, Instr.sliceBounds, Instr.sliceBound, asIntOf, run_underlying Tryz.underlying9, hj, e, h]

set_option maxRecDepth 100000 in
set_option maxHeartbeats 2000000 in
theorem lines1_in (m l bx : Nat) (hm : 1 ≤ m) (J Jx : List Bs → World → Prop) (hJk : ∀ pre W W', J pre W → Keep NoB W W' → J pre W')
    (hJb : ∀ pre W W', J pre W → W.grownBy W' (some bx) → J pre W')
    (hIB : ∀ (S : ByteArray) (W : World), Calls Tryz.prog 65 #[.string S, .int .u8 10] W fun e w' => e = .returned (.int .i64 (Lib.indexByte S.data.toList 10)) ∧ w' = W)
    (s : Bs) (hs : s.length ≤ 140000)
    (hY : ∀ pre x post W, pcs s = pre ++ x :: post → J pre W → (∃ o, W.heap[bx]? = some o ∧ ∃ c, o = .cells c 9 (0, 0)) → YieldAt Fence.wide (m - 1) Tryz.prog l #[.string (str x)] W fun e W' =>
      ((e = .returned (.bool true) ∧ J (pre ++ [x]) W') ∨ (e = .returned (.bool false) ∧ Jx (pre ++ [x]) W')) ∧ W'.heap[bx]? = W.heap[bx]?)
    (W : World) (h0 : J [] W) (hb : Blk W bx 9 #[.string (str s)]) :
    CallsIn Fence.wide m Tryz.prog 64 #[.func (.yield l) #[] #[], .pointer (some ⟨bx, 0, none⟩)] W fun e W' => (∃ v, e = .returned v) ∧
      (J (pcs s) W' ∨ (∃ pre, Jx pre W')) := by
  refine callsIn_of_wp Tryz.func64 rfl trivial ?_ rfl
  simp only [Tryz.ntmps64, List.size_toArray, List.length_cons, List.length_nil, Nat.reduceAdd, Nat.reduceSub, Array.replicate_succ, Array.replicate_zero, List.push_toArray, List.append_toArray, List.nil_append, List.cons_append]
  gi_wp2
  gi_loopw [3, 4] (fun _ _ wr => ∃ (pre : List Bs) (r : Bs), pcs s = pre ++ pcs r ∧ r.length ≤ s.length ∧ J pre wr ∧ Blk wr bx 9 #[.string (str r)])
    (fun _ _ wr => match wr.cell? ⟨bx, 0, none⟩ with | some (.string x) => x.size | _ => 0)
  case atStart => exact ⟨[], s, rfl, Nat.le_refl _, h0, hb⟩
  case round =>
    obtain ⟨pre, r, hp, hrl, hJ, hB⟩ := hrel
    have c0 := hB.cell 0
    by_cases hr0 : r = []
    · subst hr0
      rw [pcs_nil, List.append_nil] at hp
      have HP := Lib.hid hp
      clear hp hY hIB hJk hJb hB
      gi_wp2
      go_end0
      exact ⟨⟨_, rfl⟩, .inl (by rw [HP.out]; exact hJ)⟩
    · have hrs : (str r).data.toList = r := by simp
      have hsz : (str r).size = r.length := size_of hrs
      have hpos : 0 < r.length := by cases r with | nil => exact absurd rfl hr0 | cons _ _ => simp
      have HI := Lib.hid (hIB (str r) wr)
      rw [hrs] at HI
      rcases pcs_next hr0 with ⟨i, h1, h2, h3⟩ | ⟨h1, h3⟩
      · rw [h1] at HI
        have c1 : wr.cell? ⟨bx, 0, none⟩ = some (.string (str r)) := c0
        have hfz : wr.frozen? ⟨bx, 0, none⟩ = false := hB.frozen 0
        have hB2 : Blk (wr.setCell ⟨bx, 0, none⟩ (.string (str (r.drop (i + 1))))) bx 9 #[.string (str (r.drop (i + 1)))] := hB.put 0 _
        have hJ2 : J pre (wr.setCell ⟨bx, 0, none⟩ (.string (str (r.drop (i + 1))))).drew := hJk _ _ _ (hJb _ _ _ hJ (grownBy_setCell' wr bx _)) (Keep.refl NoB _).drew
        have hq : pcs s = pre ++ r.take (i + 1) :: pcs (r.drop (i + 1)) := by rw [hp, h3]
        have HY := Lib.hid (hY pre (r.take (i + 1)) (pcs (r.drop (i + 1))) _ hq hJ2 ⟨_, hB2, _, rfl⟩)
        have HP : Hid (pcs s = (pre ++ [r.take (i + 1)]) ++ pcs (r.drop (i + 1))) := by show _ = _; rw [hq]; simp
        have hnl : (r.drop (i + 1)).length ≤ s.length := by simp; omega
        have hsm : (str (r.drop (i + 1))).size < (str r).size := by rw [hsz, size_of (S := str (r.drop (i + 1))) (s := r.drop (i + 1)) (by simp)]; rw [List.length_drop]; omega
        have HS1 : (str r).extract 0 (i + 1) = str (r.take (i + 1)) := by rw [extract_of hrs]; simp
        have HS2 : (str r).extract (i + 1) (str r).size = str (r.drop (i + 1)) := by rw [extract_of hrs, hsz]; congr 1; exact List.take_of_length_le (by simp)
        have hle : i + 1 ≤ (str r).size := by omega
        have hib : i ≤ 140000 := by omega
        have hmix : Tryz.prog.follows .mixedOrders = true := by kernel_rfl
        have hA : ∀ wx, (Instr.slice 9 (.string (str r)) none (some (.int .i64 ((i : Int) + 1))) none).run Tryz.prog wx = .ok (.string (str (r.take (i + 1)))) wx := fun wx => slice_to (by rw [hsz]; omega) HS1 wx
        have hZ : ∀ wx, (Instr.slice 9 (.string (str r)) (some (.int .i64 ((i : Int) + 1))) none none).run Tryz.prog wx = .ok (.string (str (r.drop (i + 1)))) wx := fun wx => slice_from (by rw [hsz]; omega) HS2 wx
        obtain ⟨R, hRR⟩ : ∃ R, str r = R := ⟨_, rfl⟩
        rw [hRR] at HI c1 hsm hle hsz hA hZ
        obtain ⟨R1, hR1⟩ : ∃ R1, str (r.take (i + 1)) = R1 := ⟨_, rfl⟩
        obtain ⟨R2, hR2⟩ : ∃ R2, str (r.drop (i + 1)) = R2 := ⟨_, rfl⟩
        rw [hR1] at hA HY
        rw [hR2] at hZ hsm HY hB2
        clear HS1 HS2
        obtain ⟨fn, tmps, assign, body, hy, hR⟩ := HY.out
        clear HY hJ hJ2 hq hY hp h3 hB c0 hJk hJb hIB hrs
        gi_wp2_with (refine ⟨trivial, ?_⟩; (try refine ⟨fun _ => hm, ?_⟩); gi_at_call 65; refine (callsIn_wide.2 HI.out).mono ?_; rintro e w1 ⟨rfl, rfl⟩)
        clear hRR hR1
        have q1 : i < R.size := by omega
        have q2 : (i : Int) + 1 ≤ (R.size : Int) := by omega
        have q3 : ¬ (R.size : Int) < (i : Int) + 1 := by omega
        have q4 : ¬ R.size ≤ i := by omega
        have q5 : (0 : Int) ≤ (i : Int) + 1 := by omega
        have q6 : (0 : Int) ≤ (i : Int) + 1 ∧ (i : Int) + 1 ≤ (R.size : Int) := ⟨q5, q2⟩
        gi_region
        gi_wp2
        refine hR.mono ?_
        rintro e W3 ⟨⟨rfl, hJ3⟩ | ⟨rfl, hJx3⟩, hbx⟩
        · have hB3 : Blk W3 bx 9 #[.string R2] := hbx.trans hB2
          have c3 : W3.cell? ⟨bx, 0, none⟩ = some (.string R2) := hB3.cell 0
          rw [← hR2] at hB3
          gi_wp2
          go_roundw
          case rel => exact ⟨_, _, HP.out, hnl, hJ3, hB3⟩
          case measure => rw [c3, c1]; exact hsm
        · gi_wp2
          refine bodyPost_ret (results_none rfl _ _ _) rfl ?_
          exact ⟨⟨_, rfl⟩, .inr ⟨_, hJx3⟩⟩
      · rw [h1] at HI
        have c1 : wr.cell? ⟨bx, 0, none⟩ = some (.string (str r)) := c0
        have hfz : wr.frozen? ⟨bx, 0, none⟩ = false := hB.frozen 0
        have hB2 : Blk (wr.setCell ⟨bx, 0, none⟩ (.string (str ([])))) bx 9 #[.string (str ([]))] := hB.put 0 _
        have hJ2 : J pre (wr.setCell ⟨bx, 0, none⟩ (.string (str ([])))) := hJb _ _ _ hJ (grownBy_setCell' wr bx _)
        have hq : pcs s = pre ++ r :: pcs ([]) := by rw [hp, h3]; simp [pcs_nil]
        have HY := Lib.hid (hY pre (r) (pcs ([])) _ hq hJ2 ⟨_, hB2, _, rfl⟩)
        have HP : Hid (pcs s = (pre ++ [r]) ++ pcs ([])) := by show _ = _; rw [hq]; simp
        have hnl : ([] : Bs).length ≤ s.length := by simp
        have hsm : (str ([])).size < (str r).size := by rw [hsz, size_of (S := str ([] : Bs)) (s := ([] : Bs)) (by simp)]; simpa using hpos
        obtain ⟨fn, tmps, assign, body, hy, hR⟩ := HY.out
        clear HY hJ hJ2 hq hY hp h3 hB c0 hJk hJb hIB hrs
        gi_wp2_with (refine ⟨trivial, ?_⟩; (try refine ⟨fun _ => hm, ?_⟩); gi_at_call 65; refine (callsIn_wide.2 HI.out).mono ?_; rintro e w1 ⟨rfl, rfl⟩)
        refine hR.mono ?_
        rintro e W3 ⟨⟨rfl, hJ3⟩ | ⟨rfl, hJx3⟩, hbx⟩
        · have hB3 : Blk W3 bx 9 #[.string (str ([]))] := hbx.trans hB2
          have c3 : W3.cell? ⟨bx, 0, none⟩ = some (.string (str ([]))) := hB3.cell 0
          gi_wp2
          go_roundw
          case rel => exact ⟨_, _, HP.out, hnl, hJ3, hB3⟩
          case measure => rw [c3, c1]; exact hsm
        · gi_wp2
          refine bodyPost_ret (results_none rfl _ _ _) rfl ?_
          exact ⟨⟨_, rfl⟩, .inr ⟨_, hJx3⟩⟩

end Go.Proofs.YtifobiajjhknbaaGreatDoor.M

namespace Go.Proofs.YtifobiajjhknbaaGreatDoor.M
open Go.RowKit Go.Shelf W

section
variable {P : Program} {n : Nat}
/-- What is asked of the iterator. -/
def BringsX {α : Type} (P : Program) (m k : Nat) (gf : Nat) (lb : Array Value) (encs : α → Array Value) (bx : Nat) (o : Obj) (OK : Obj → Prop) (En : List α → α → Prop) (S : List α → Prop) : Prop :=
  ∀ (L : Nat) (J : List α → World → Prop), (∀ pre W W', J pre W → Keep NoB W W' → J pre W') → (∀ pre W W', J pre W → W.grownBy W' (some bx) → J pre W') →
    (∀ pre x W, J pre W → En pre x → (∃ o, W.heap[bx]? = some o ∧ OK o) → YieldAt Fence.wide m P L (encs x) W fun e W' => (e = .returned (.bool true) ∧ J (pre ++ [x]) W') ∧ W'.heap[bx]? = W.heap[bx]?) →
    ∀ W, J [] W → W.heap[bx]? = some o → CallsIn Fence.wide k P gf (#[.func (.yield L) #[] #[]] ++ lb) W fun e W' => (∃ v, e = .returned v) ∧ ∃ xs, S xs ∧ J xs W'

theorem wpIn_rangeFunc_box {α : Type} {g : Operand} {ps : Array Tmp} {assign body : Code} {Q : Exit → Act → World → Prop} {a : Act} {w : World} {m : Nat}
    {gf : Nat} {lb : Array Value} (hg : a.eval g = .func (.func gf) #[] lb) (eg : ∀ args w, (callFunc gf args).run P w = .ok (.enter gf args) w)
    {encs : α → Array Value} {I : List α → World → Prop} {bx : Nat} {o : Obj} {OK : Obj → Prop} {En : List α → α → Prop} {S : List α → Prop} (hit : BringsX P m (n - 1) gf lb encs bx o OK En S) (hps : ∀ x, (encs x).size = ps.size)
    (hI : OwnFrom w.heap.size I) (hIx : ∀ pre W W', I pre W → W.grownBy W' (some bx) → I pre W') (hbx : w.heap[bx]? = some o) (h0 : I [] w) (Ax : List α → α → Act → World → Prop) (hAx : ∀ pre x a', OwnFrom w.heap.size (fun (_ : Unit) W => Ax pre x a' W))
    (hassign : ∀ (l : Nat) (pre : List α) (x : α) (W : World), I pre W → En pre x → (∃ o, W.heap[bx]? = some o ∧ OK o) →
      assign.wpIn (Fence.wide.inRound l) m P (Exit.then (fun a' W' => Ax pre x a' W' ∧ KeepsFrom w.heap.size W W' ∧ W'.heap[bx]? = W.heap[bx]?) (fun _ _ _ => False)) { tmps := (ps.zip (encs x)).foldl (fun t (p, v) => t.setIfInBounds p v) a.tmps, defers := [] } W)
    (hbody : ∀ (l : Nat) (pre : List α) (x : α) (a' : Act) (W : World), En pre x → Ax pre x a' W → (∃ o, W.heap[bx]? = some o ∧ OK o) → body.wpIn (Fence.wide.inRound l) m P (fun e _ W' => e = .normal ∧ I (pre ++ [x]) W' ∧ KeepsFrom w.heap.size W W' ∧ W'.heap[bx]? = W.heap[bx]?) a' W)
    (hdone : ∀ (D : Nat) (xs : List α) (W : World), w.heap.size ≤ D → S xs → I xs W → W.heap[D]? = some (.deferred (some [])) → Q .normal { a with defers := { target := .collected D, args := #[] } :: a.defers } W) :
    (Code.rangeFunc g ps assign body).wpIn Fence.wide n P Q a w := by
  have hbl : bx < w.heap.size := (Array.getElem?_eq_some_iff.1 hbx).1
  refine wpIn_rangeFunc fun fn _ => ?_
  obtain ⟨r, hr⟩ : ∃ r : Loop, r = { state := .ready, pending := none, fn, tmps := a.tmps, params := ps, assign, body, defers := w.heap.size } := ⟨_, rfl⟩
  obtain ⟨W1, hW1⟩ : ∃ W1, (w.alloc (.deferred (some []))).alloc (.loop r) = W1 := ⟨_, rfl⟩
  have hL1 : W1.heap[w.heap.size + 1]? = some (.loop r) := by
    rw [← hW1]; have := World.alloc_heap_new (w.alloc (.deferred (some []))) (.loop r); rwa [World.size_alloc] at this
  have hD1 : W1.heap[w.heap.size]? = some (.deferred (some [])) := by
    rw [← hW1]; exact (Below.heap_alloc _ _ _ (by simp)).trans (World.alloc_heap_new w _)
  have hB1 : W1.heap[bx]? = some o := by
    rw [← hW1]; exact (Below.heap_alloc _ _ _ (by simp; omega)).trans ((Below.heap_alloc _ _ _ hbl).trans hbx)
  refine ⟨w.heap.size + 1, [{ target := .collected w.heap.size, args := #[] }], W1, { target := .fn (.func gf) lb, args := #[.func (.yield (w.heap.size + 1)) #[] #[]] }, W1, gf,
    #[.func (.yield (w.heap.size + 1)) #[] #[]] ++ lb, W1, ?_, ?_, fun _ _ => trivial, ?_, (fun h => by cases h), ?_⟩
  · rw [← hW1, hr]; exact run_enterLoop_outer _ _ _ _ _
  · simp only [resolve, hg]
    simp [go_sem]
  · simp [invoke, go_sem, eg]
  refine (hit (w.heap.size + 1) (fun pre W => I pre W ∧ W.heap[w.heap.size + 1]? = some (.loop r) ∧ W.heap[w.heap.size]? = some (.deferred (some []))) ?_ ?_ ?_ W1 ⟨by rw [← hW1]; exact hI.alloc _ (hI.alloc _ h0), hL1, hD1⟩ hB1).mono ?_
  · rintro pre W W' ⟨h1, h2, h3⟩ hk
    exact ⟨ownFrom_keeps hI h1 hk, (hk.block _ (Array.getElem?_eq_some_iff.1 h2).1 id).trans h2, (hk.block _ (Array.getElem?_eq_some_iff.1 h3).1 id).trans h3⟩
  · rintro pre W W' ⟨h1, h2, h3⟩ hk
    exact ⟨hIx _ _ _ h1 hk, (hk.block _ (Array.getElem?_eq_some_iff.1 h2).1 (by simp; omega)).trans h2, (hk.block _ (Array.getElem?_eq_some_iff.1 h3).1 (by simp; omega)).trans h3⟩
  · clear hL1 hW1 hD1 hB1
    subst hr
    rintro pre x W ⟨h1, h2, h3⟩ hen hok
    have key : YieldAt Fence.wide m P (w.heap.size + 1) (encs x) W fun e W' => e = .returned (.bool true) ∧ ((I (pre ++ [x]) W' ∧ W'.heap[w.heap.size + 1]? = some (.loop { state := .ready, pending := none, fn, tmps := a.tmps, params := ps, assign, body, defers := w.heap.size }) ∧ W'.heap[w.heap.size]? = some (.deferred (some []))) ∧ W'.heap[bx]? = W.heap[bx]?) := by
      refine yieldAt_end h2 rfl rfl (hps x) ?_
      have ha := hassign (w.heap.size + 1) pre x W h1 hen hok
      refine wpIn_mono ha ?_
      intro e a₁ Wa hq
      cases e with
      | normal =>
        obtain ⟨hax, hka, hkb⟩ := hq
        have l2 := hka.same _ _ (by omega) h2 rfl
        have d2 := hka.same _ _ (Nat.le_refl _) h3 rfl
        refine ⟨l2, ?_⟩
        have lt2 := (Array.getElem?_eq_some_iff.1 l2).1
        refine wpIn_mono (hbody _ pre x a₁ _ hen ((hAx pre x a₁).putObj (s := ()) _ hax (by omega) l2 rfl) (by obtain ⟨o, ho, ho2⟩ := hok; exact ⟨o, (World.putObj_heap_other (by omega)).trans (hkb.trans ho), ho2⟩)) ?_
        rintro e₃ a₃ W₃ ⟨rfl, h4, h5, h6⟩
        have l3 := h5.same (w.heap.size + 1) _ (by omega) (World.putObj_heap_same lt2) rfl
        have d3 := h5.same w.heap.size _ (Nat.le_refl _) ((World.putObj_heap_other (by omega)).trans d2) rfl
        refine ⟨rfl, l3, ⟨hI.putObj _ h4 (by omega) l3 rfl, World.putObj_heap_same (Array.getElem?_eq_some_iff.1 l3).1, (World.putObj_heap_other (by omega)).trans d3⟩, ?_⟩
        exact (World.putObj_heap_other (by omega)).trans (h6.trans ((World.putObj_heap_other (by omega)).trans hkb))
      | exit id => exact hq
      | goto t => exact hq
      | ret => exact hq
      | panic c => exact hq
      | outgrown => exact hq
    obtain ⟨f1, f2, f3, f4, hy, hR⟩ := key
    exact ⟨f1, f2, f3, f4, hy, hR.mono (fun e W' h => ⟨⟨h.1, h.2.1⟩, h.2.2⟩)⟩
  · rintro e W2 ⟨⟨v, rfl⟩, xs, hS, h1, h2, h3⟩
    have hp : r.pending = none := by rw [hr]
    exact ⟨none, _, by have := run_endLoop (P := P) h2 (by rw [hr]; simp); rw [hp] at this; exact this, hdone _ xs _ (Nat.le_refl _) hS (hI.putObj _ h1 (by omega) h2 rfl) ((World.putObj_heap_other (by omega)).trans h3)⟩
end

/-- Lines is such a one: it brings the pieces of its text. -/
theorem lines_brings (m k bx : Nat) (hk : 1 ≤ k) (hmk : m = k - 1) (s : Bs) (hs : s.length ≤ 140000)
    (hIB : ∀ (S : ByteArray) (W : World), Calls Tryz.prog 65 #[.string S, .int .u8 10] W fun e w' => e = .returned (.int .i64 (Lib.indexByte S.data.toList 10)) ∧ w' = W) :
    BringsX Tryz.prog m k 64 #[.pointer (some ⟨bx, 0, none⟩)] (fun x : Bs => #[.string (str x)]) bx (.cells #[.string (str s)] 9 (0, 0)) (fun o => ∃ c, o = .cells c 9 (0, 0)) (fun pre x => ∃ post, pcs s = pre ++ x :: post) (fun xs => xs = pcs s) := by
  subst hmk
  intro L J h1 h2 h3 W h4 h5
  refine (lines1_in k L bx hk J (fun _ _ => False) h1 h2 hIB s hs (fun pre x post W hp hJ hok => ?_) W h4 h5).mono ?_
  · obtain ⟨f1, f2, f3, f4, hy, hR⟩ := h3 pre x W hJ ⟨post, hp⟩ hok
    exact ⟨f1, f2, f3, f4, hy, hR.mono (fun e W' h => ⟨.inl h.1, h.2⟩)⟩
  · rintro e W' ⟨hv, h | ⟨pre, h⟩⟩
    · exact ⟨hv, pcs s, rfl, h⟩
    · exact h.elim

end Go.Proofs.YtifobiajjhknbaaGreatDoor.M

namespace Go.Proofs.YtifobiajjhknbaaGreatDoor.M
open Go.RowKit Go.Shelf W

/-- A builder whose bytes do not lie in the box. -/
def BldX (b bx : Nat) (s : Bs) (w : World) : Prop := Bld b s w ∧ ∀ p v, w.heap[b]? = some (.cells #[p, v] 52 (0, 0)) → v.ownBlock ≠ some bx
theorem bld_cells {b : Nat} {s : Bs} {w : World} (h : Bld b s w) : ∃ p v, w.heap[b]? = some (.cells #[p, v] 52 (0, 0)) ∧ w.ownsRowF b 5 1 v (Lib.byteCells s).length (Lib.byteCells s) := by
  rcases h with ⟨_, v, h1, h2, _⟩ | ⟨_, v, h1, h2, _⟩
  · exact ⟨_, v, h1, h2⟩
  · exact ⟨_, v, h1, h2⟩
theorem bldX_of {b bx : Nat} {s : Bs} {w : World} (h : Bld b s w) (hx : ∃ o, w.heap[bx]? = some o ∧ ∃ c, o = .cells c 9 (0, 0)) : BldX b bx s w := by
  obtain ⟨o, ho, c, rfl⟩ := hx
  obtain ⟨p0, v0, h1, h2, h3⟩ := bld_cells h
  refine ⟨h, fun p v hv e => ?_⟩
  rw [h1] at hv
  cases hv
  rcases h3 with ⟨rfl, _⟩ | ⟨g, cap, cur, fz, rfl, _, e2, _⟩
  · simp [Value.ownBlock] at e
  · obtain rfl : g = bx := by simpa [Value.ownBlock] using e
    rw [ho] at e2
    cases e2
theorem bldAt_row {T e : TypeId} {B b : Nat} {p : Value} {bs : List Value} {w w' : World} {row : Option Nat} (h : Lib.BuilderAtF T e B b p bs w) (hg : w.grownBy w' row) (h1 : some b ≠ row) (h2 : ∀ p v, w.heap[b]? = some (.cells #[p, v] T (0, 0)) → ∀ g, v.ownBlock = some g → some g ≠ row) : Lib.BuilderAtF T e B b p bs w' := by
  obtain ⟨g1, v, g2, ⟨g3, g4⟩, g5⟩ := h
  have hb := hg.block b (Array.getElem?_eq_some_iff.1 g2).1 h1
  refine ⟨g1, v, hb.trans g2, ⟨g3, ?_⟩, g5⟩
  rcases g4 with g4 | ⟨g, cap, cur, fz, e1, e2, e3, e4⟩
  · exact .inl g4
  · exact .inr ⟨g, cap, cur, fz, e1, e2, (hg.block g (Array.getElem?_eq_some_iff.1 e3).1 (h2 _ _ g2 g (by rw [e1]; rfl))).trans e3, e4⟩
theorem bldX_row {b bx : Nat} {s : Bs} {w w' : World} {row : Option Nat} (h : BldX b bx s w) (hg : w.grownBy w' row) (h1 : some b ≠ row) (h2 : ∀ g, row = some g → g = bx ∨ ∃ o : Obj, w.heap[g]? = some o ∧ o.isCells = false) : BldX b bx s w' := by
  have hq : ∀ p v, w.heap[b]? = some (.cells #[p, v] 52 (0, 0)) → ∀ g, v.ownBlock = some g → some g ≠ row := by
    intro p v hv g hg2 e
    rcases h2 g e.symm with rfl | ⟨o, ho, hc⟩
    · exact h.2 p v hv hg2
    · obtain ⟨p0, v0, g1, g2, g3⟩ := bld_cells h.1
      rw [hv] at g1
      cases g1
      rcases g3 with ⟨rfl, _⟩ | ⟨g', cap, cur, fz, rfl, _, e2, _⟩
      · simp [Value.ownBlock] at hg2
      · obtain rfl : g' = g := by simpa [Value.ownBlock] using hg2
        rw [ho] at e2
        cases e2
        cases hc
  refine ⟨h.1.elim (fun x => .inl (bldAt_row x hg h1 hq)) (fun x => .inr (bldAt_row x hg h1 hq)), fun p v hv => ?_⟩
  obtain ⟨p0, v0, g1, _, _⟩ := bld_cells h.1
  have hb := hg.block b (Array.getElem?_eq_some_iff.1 g1).1 h1
  exact h.2 p v (hb.symm.trans hv)
theorem own_others {W W' : World} {P : Nat → Prop} {E sz n b : Nat} {v : Value} {xs : List Value} (h : Own W E sz P v n xs) (ho : Lib.OthersKept 5 (some b) W W') (hE : E ≠ 5) (hb : ∃ p u, W.heap[b]? = some (.cells #[p, u] 52 (0, 0))) (hEb : E ≠ 52) : Own W' E sz P v n xs := by
  refine ⟨⟨h.1.1, ?_⟩, h.2⟩
  rcases h.1.2 with h2 | ⟨g, cap, cur, rfl, hb2, hh, r⟩
  · exact .inl h2
  · refine .inr ⟨g, cap, cur, rfl, hb2, ho g _ hh (fun e => ?_) (fun c fz e => by cases e; exact hE rfl), r⟩
    obtain ⟨p, u, hu⟩ := hb
    cases e
    rw [hu] at hh
    cases hh
    exact hEb rfl
theorem im_others {W W' : World} {P : Nat → Prop} {b : Nat} {v : I.IV} {es : List I.SE} {fs : List I.FE} (h : I.OwnIm W P v es fs) (ho : Lib.OthersKept 5 (some b) W W') (hb : ∃ p u, W.heap[b]? = some (.cells #[p, u] 52 (0, 0))) : I.OwnIm W' P v es fs :=
  ⟨own_others h.ox ho (by decide) hb (by decide), own_others h.oy ho (by decide) hb (by decide), fun e he => own_others (h.hs e he) ho (by decide) hb (by decide),
    fun e he => ⟨(h.hf e he).nm, own_others (h.hf e he).oa ho (by decide) hb (by decide), own_others (h.hf e he).ob ho (by decide) hb (by decide), own_others (h.hf e he).ol ho (by decide) hb (by decide), own_others (h.hf e he).od ho (by decide) hb (by decide), (h.hf e he).hI⟩⟩

/-- What was written, of so many pieces. -/
def notT (note : Bs) (xs : List Bs) : Bs := xs.flatMap fun x => noted note (Lib.trimSuffix x [10])
theorem notT_snoc (note : Bs) (xs : List Bs) (x : Bs) : notT note (xs ++ [x]) = notT note xs ++ noted note (Lib.trimSuffix x [10]) := by unfold notT; rw [List.flatMap_append]; simp
theorem notT_all (note s : Bs) : notT note (pcs s) = noteL note s := by
  unfold notT noteL
  rw [← pcs_trim, List.flatMap_map]
theorem trim_len (x : Bs) : (Lib.trimSuffix x [10]).length ≤ x.length := by
  unfold Lib.trimSuffix
  split
  · rw [List.length_take]; omega
  · exact Nat.le_refl _
theorem noted_len (note l : Bs) : (noted note l).length = 2 * note.length + l.length + 8 := by unfold noted; simp; omega
theorem notT_len (note : Bs) : ∀ xs : List Bs, (notT note xs).length ≤ (2 * note.length + 8) * xs.length + xs.flatten.length
  | [] => by simp [notT]
  | x :: xs => by
    have ih := notT_len note xs
    have h1 := noted_len note (Lib.trimSuffix x [10])
    have h2 := trim_len x
    unfold notT at ih ⊢
    rw [List.flatMap_cons, List.length_append, List.flatten_cons, List.length_append, List.length_cons, Nat.mul_add, Nat.mul_one]
    omega
theorem pgo_count : ∀ (s cur : Bs), (pgo cur s).length ≤ s.length + 1 ∧ (cur = [] → (pgo cur s).length ≤ s.length)
  | [], cur => by
    rw [pgo]
    exact ⟨by have := fl_len cur; simpa using this, fun h => by subst h; simp [fl_nil]⟩
  | c :: r, cur => by
    have ih := pgo_count r []
    have ih2 := pgo_count r (cur ++ [c])
    by_cases hc : c = 10
    · subst hc
      rw [pgo, if_pos rfl]
      have := ih.2 rfl
      exact ⟨by simp; omega, fun _ => by simp; exact this⟩
    · rw [pgo, if_neg hc]
      exact ⟨by simp; omega, fun _ => by simp; exact ih2.1⟩
theorem pcs_count (s : Bs) : (pcs s).length ≤ s.length := (pgo_count s []).2 rfl
theorem notT_pre {note s : Bs} {pre post : List Bs} {x : Bs} (h : pcs s = pre ++ x :: post) (hn : note.length ≤ 100) (hs : s.length ≤ 4000) : (notT note pre).length + (noted note (Lib.trimSuffix x [10])).length ≤ 1000000 ∧ x.length ≤ 4000 := by
  have h1 := notT_len note (pre ++ [x])
  have h2 := pcs_count s
  have h4 : (pcs s).flatten = s := pcs_join s
  rw [notT_snoc, List.length_append] at h1
  have h5 : ((pre ++ [x]).flatten).length ≤ s.length := by
    rw [← h4, h]
    simp
  have h6 : (pre ++ [x]).length ≤ 4000 := by
    have := congrArg List.length h
    simp at this ⊢
    omega
  have h7 : x.length ≤ s.length := by
    have : ((pre ++ [x]).flatten).length = pre.flatten.length + x.length := by simp
    omega
  have h8 : (2 * note.length + 8) * (pre ++ [x]).length ≤ 208 * 4000 := Nat.mul_le_mul (by omega) h6
  exact ⟨by omega, by omega⟩
theorem notT_size {note s : Bs} (hn : note.length ≤ 100) (hs : s.length ≤ 4000) : (noteL note s).length ≤ 1000000 := by
  have h1 := notT_len note (pcs s)
  have h2 := pcs_count s
  rw [notT_all, pcs_join] at h1
  have h8 : (2 * note.length + 8) * (pcs s).length ≤ 208 * 4000 := Nat.mul_le_mul (by omega) (by omega)
  omega

end Go.Proofs.YtifobiajjhknbaaGreatDoor.M
