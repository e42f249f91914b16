/-
  Are two images the same: the program's Same, by EqualFunc over shapes and over functions, and the document's. Conditions: the images' lists lie in memory, and are no greater than statements go through.
  What the document's Named answers. Conditions: the name's length fits an int64.
  The document's Types and Check of layer function. Conditions: the function's lists lie in memory, and are no longer than statements go through.
  The document's Check of images. Conditions: the image's lists lie in memory, and are no greater than statements go through.
  The sum of bytes: the program's, over any number of parts, and the document's; a sum's four bytes. Conditions: the parts lie in memory; no more than 2^31 bytes.
  bytes.Equal, bytes.HasPrefix, bytes.CutPrefix: what they answer of bytes in memory. No conditions but that the bytes lie in memory.
  What write puts on a Tape: an operand's bytes. Conditions: the number is one of the kind; no more than 2^47 bytes in all.
  What Encode answers. Condition: numbers fit an int64.
  Show and Encode of any instruction; the law's own bytes, of, alive. Conditions: the listed package-level variables hold what their initialisers lay; numbers fit an int64.
  What the document's Encode answers. Conditions: the operands fit an int64.
  What Encode of layer code answers, the program's and the document's: a body's bytes. Conditions: the list lies in memory; numbers fit an int64.
  What the document's Bytes and Encode of layer code answer. Conditions: the list lies in memory; numbers fit an int64.
  The document's bytes of a function: Bytes and Encode. Conditions: the function's lists lie in memory, and are no longer than statements go through.
  What the closures of writes do: a part's bytes behind others; a name's bytes. Conditions: what encodes answers by its contract.
  A name's bytes: what encodeName answers. Conditions: the name is no longer than statements go through.
  What Encode of layer function answers: a function's bytes. Conditions: the function's lists lie in memory, and are no longer than statements go through.
  Parts' bytes: what write answers, of shapes and of functions. Conditions: the parts lie in memory, and may be; no more than 64.
  slices.Concat of parts of bytes, and slices.Grow of the nil slice. Conditions: the parts lie in memory; no more than 2^46 bytes in all.
  A region that draws its order, by what each of its values is, as in KProps6; one operation changes the world by a relation of one's own. No program, no conditions.
  What Encode of layer image answers: an image's bytes. Conditions: the image's lists lie in memory, each below 2^47.
  What the rows of opcode share: the condition on the listed package-level variables, opened; an instruction as an argument. No conditions.
  An argument that is a list of instructions, opened: an address from which its cells stand; its numbers fit. No conditions.
  What Decode of layer image answers: bytes' image, or what is wrong. Conditions: the bytes lie in memory, no more than 2^30.
  What the document's read of layer shape answers: the types at its Reel's place. Conditions: the Reel reads bytes in memory, no more than 2^47.
  What the document's Decode and DecodeSignature answer. Conditions: the Reel reads bytes in memory, no more than 2^47.
  The document's Decode of a function. Conditions: the Reel reads bytes in memory, no more than 2^47.
  What the document's Decode of images answers. Conditions: the bytes lie in memory, no more than 2^30.
  What the document's Decode of images answers, where there is room for a sum. Conditions: the bytes lie in memory, no more than 2^30.
  What the laws' own one and alive answer. No conditions.
  ImageSums' walk: the sum of bytes hangs on no parting; one byte changed, it is another one; all noughts, it tells how many there are. Conditions: the bytes lie in memory.
  ImageTurned's walk: an image's bytes of which one was changed, or that were cut, or with one more behind, are no image's. Conditions: the image's lists lie in memory, each below 2^47.
  The document's bytes of images, and its Encode. Conditions: the image's lists lie in memory, and are no greater than statements go through.
  ImageForms' walk: whether an image may be, its bytes, what is read of bytes, and the sum of bytes, are the document's; all stays. Conditions: the image's lists, and the bytes, lie in memory.
  The program's Copy of images. Conditions: the image's lists lie in memory, and are no greater than statements go through.
-/
import Derived.ArgAppend
import Derived.ChangeSame
import Derived.Deep.Fields
import Derived.Deep.OwnRows
import Derived.Deep.Slices
import Derived.Deep.Strs
import Derived.LaidLaws
import Derived.LaidMore
import Derived.Laws.BitsAllLaws
import Derived.Lib.AppendZeros
import Derived.Lib.LaidTab
import Derived.Lib.SlBytesConst
import Derived.Lib.SmallJoins
import Derived.OpenShut
import Derived.ProofKit
import Derived.SizedLaws
import Derived.Stop.LaidErr
import Derived.Test.YtgifflfjhockaaaGreatDoorQ2
import Derived.Test.YtgifflfjhockaaaGreatDoorQ3
import Derived.Test.YtgifflfjhockaaaGreatDoorQ5
import Derived.Test.YtgifflfjhockaaaGreatDoorQ4
import Derived.Test.YtgifflfjhockaaaGreatDoorRows
namespace Go.Proofs.YtgifflfjhockaaaGreatDoor.I
open Go.RowKit W

theorem map_take_step {α β : Type} {f : α → β} {pa pb : List α} {j : Nat} (h : (pa.map f).take j = (pb.map f).take j) (ha : j < pa.length) (hb : j < pb.length) (he : f pa[j] = f pb[j]) : (pa.map f).take (j + 1) = (pb.map f).take (j + 1) := by
  rw [List.take_succ_eq_append_getElem (by simpa using ha), List.take_succ_eq_append_getElem (by simpa using hb), h]; simp [he]
theorem map_ne {α β : Type} {f : α → β} {pa pb : List α} {j : Nat} (ha : j < pa.length) (hb : j < pb.length) (he : f pa[j] ≠ f pb[j]) : pa.map f ≠ pb.map f := by
  intro h
  have : (pa.map f)[j]? = (pb.map f)[j]? := by rw [h]
  rw [List.getElem?_map, List.getElem?_map, List.getElem?_eq_getElem ha, List.getElem?_eq_getElem hb] at this
  exact he (Option.some.inj this)
theorem map_all {α β : Type} {f : α → β} {pa pb : List α} {j : Nat} (h : (pa.map f).take j = (pb.map f).take j) (ha : pa.length = j) (hb : pb.length = j) : pa.map f = pb.map f := by
  rwa [List.take_of_length_le (by simp [ha]), List.take_of_length_le (by simp [hb])] at h

set_option maxRecDepth 100000 in
set_option maxHeartbeats 2000000 in
theorem equalSh_any (A B : Option Addr) (la lb : List Int) (n m c d : Nat) (w : World) (ha : Rd w A (ivs la)) (hb : Rd w B (ivs lb)) (hn : Hid (la.length = n)) (hm : Hid (lb.length = m))
    (h1 : n ≤ 9223372036854775807) (h2 : m ≤ 9223372036854775807) (R : Bool) (hR : Hid (R = decide (la = lb))) :
    Calls Tryz.prog 64 #[.slice A n c, .slice B m d] w fun e w' => e = .returned (.bool R) ∧ Keep NoB w w' := by
  by_cases hnm : n = m
  · subst hnm
    go_enter Tryz.func64, Tryz.ntmps64
    go_wp2
    go_loopw [13] (fun i wr => ∃ k : Nat, k ≤ n ∧ i = .int .i64 k ∧ Hid (la.take k = lb.take k) ∧ Keep NoB w wr) (fun i _ => n - (intOf i).toNat)
    case atStart => exact ⟨0, Nat.zero_le _, rfl, rfl, Keep.refl _ _⟩
    case round =>
      obtain ⟨k, hk, rfl, ht, hK⟩ := hrel
      by_cases hlt : k < n
      · have hka : k < la.length := by rw [hn.out]; exact hlt
        have hkb : k < lb.length := by rw [hm.out]; exact hlt
        obtain ⟨ga, oa, rfl, hca⟩ := rdI_at ha (by omega)
        obtain ⟨gb, ob, rfl, hcb⟩ := rdI_at hb (by omega)
        have ca := hK.cell (hca k hka) id
        have cb := hK.cell (hcb k hkb) id
        have HT := Lib.hid (show la.take (k + 1) = la.take k ++ [la[k]] from List.take_succ_eq_append_getElem hka)
        have HU := Lib.hid (show lb.take (k + 1) = lb.take k ++ [lb[k]] from List.take_succ_eq_append_getElem hkb)
        clear hca hcb
        by_cases he : la[k] = lb[k]
        · have HV : Hid (la.take (k + 1) = lb.take (k + 1)) := by show _ = _; rw [HT.out, HU.out, ht.out, he]
          rw [he] at ca
          clear he HT HU ha hb
          generalize lb[k] = y at ca cb
          go_wp2
          go_quiet (fail)
          go_wp2
          go_roundw
          case rel => exact ⟨k + 1, by omega, by go_num, HV, hK.drewN _⟩
          case measure => simp [intOf]; omega
        · have hf : R = false := by
            rw [hR.out, decide_eq_false_iff_not]
            intro e
            exact he (by simp [e])
          subst hf
          clear HT HU ha hb
          generalize la[k] = x at ca he
          generalize lb[k] = y at cb he
          have hne : (x != y) = true := by rw [bne_iff_ne]; exact he
          clear he
          go_wp2
          go_quiet (fail)
          go_wp2
          go_ret
          exact ⟨rfl, hK.drewN _⟩
      · have hf : R = true := by
          rw [hR.out, decide_eq_true_iff]
          have e1 := ht.out
          rwa [List.take_of_length_le (by rw [hn.out]; omega), List.take_of_length_le (by rw [hm.out]; omega)] at e1
        subst hf
        go_wp2
        go_ret
        exact ⟨rfl, hK⟩
  · have hf : R = false := by
      rw [hR.out, decide_eq_false_iff_not]
      intro e
      exact hnm (by rw [← hn.out, ← hm.out, e])
    subst hf
    have hne : ((n : Int) != (m : Int)) = true := by rw [bne_iff_ne]; omega
    clear hnm
    go_enter Tryz.func64, Tryz.ntmps64
    go_wp2
    go_ret
    exact ⟨rfl, Keep.refl _ _⟩

set_option maxRecDepth 100000 in
set_option maxHeartbeats 4000000 in
theorem eqfnS_any (A B : Option Addr) (pa pb : List SE) (n m c d k : Nat) (w : World) (hcf : ∀ args w, (callFunc k args).run Tryz.prog w = .ok (.enter k args) w) (hra : Hid (∀ W, Keep NoB w W → Rd W A (svs pa))) (hrb : Hid (∀ W, Keep NoB w W → Rd W B (svs pb)))
    (hn : Hid (pa.length = n)) (hm : Hid (pb.length = m)) (hn1 : n ≤ 140737488355328) (hm1 : m ≤ 140737488355328)
    (hq : Hid (∀ i (h : i < pa.length) (h' : i < pb.length) W, Keep NoB w W → Calls Tryz.prog k #[pa[i].1.val, pb[i].1.val] W fun e W' => e = .returned (.bool (decide (pa[i].2 = pb[i].2))) ∧ Keep NoB W W')) (R : Bool) (hR : Hid (R = decide ((pa.map fun e => e.2) = pb.map fun e => e.2))) :
    Calls Tryz.prog 63 #[.slice A n c, .slice B m d, .func (.func k) #[] #[]] w fun e w' => e = .returned (.bool R) ∧ Keep NoB w w' := by
  by_cases hnm : n = m
  · subst hnm
    go_enter Tryz.func63, Tryz.ntmps63
    go_wp2
    go_loopw [17] (fun i wr => ∃ j : Nat, j ≤ n ∧ i = .int .i64 j ∧ Hid ((pa.map fun e => e.2).take j = (pb.map fun e => e.2).take j) ∧ Keep NoB w wr) (fun i _ => n - (intOf i).toNat)
    case atStart => exact ⟨0, Nat.zero_le _, rfl, rfl, Keep.refl _ _⟩
    case round =>
      obtain ⟨j, hj, rfl, ht, hK⟩ := hrel
      by_cases hlt : j < n
      · have hja : j < pa.length := by rw [hn.out]; exact hlt
        have hjb : j < pb.length := by rw [hm.out]; exact hlt
        obtain ⟨ga, oa, rfl, c0⟩ := shape_at (hra.out _ hK) hja
        obtain ⟨gb, ob, rfl, d0⟩ := shape_at (hrb.out _ hK) hjb
        have HQ := Lib.hid (fun W hk => hq.out j hja hjb W (keepN hK hk))
        have HY := Lib.hid (fun he => map_take_step ht.out hja hjb he)
        have HN := Lib.hid (fun he => map_ne (f := fun e : SE => e.2) hja hjb he)
        clear ht
        generalize pa[j] = ea at c0 HQ HY HN
        generalize pb[j] = eb at d0 HQ HY HN
        obtain ⟨⟨A1, n1, e1⟩, l1⟩ := ea
        obtain ⟨⟨A2, n2, e2⟩, l2⟩ := eb
        dsimp only [SV.val] at c0 d0 HQ HY HN
        by_cases he : l1 = l2
        · have HV := Lib.hid (HY.out he)
          rw [decide_eq_true he] at HQ
          clear HY HN he
          go_wp2_with fail
          refine (HQ.out _ (Keep.refl _ _)).mono ?_
          rintro e w1 ⟨rfl, k1⟩
          have hK1 := keepN hK (keepN (Keep.refl _ _) k1)
          go_wp2
          go_roundw
          case rel => exact ⟨j + 1, by omega, by go_num, HV, hK1⟩
          case measure => simp [intOf]; omega
        · obtain rfl : R = false := by rw [hR.out, decide_eq_false_iff_not]; exact HN.out he
          rw [decide_eq_false he] at HQ
          clear HY HN he hR
          go_wp2_with fail
          refine (HQ.out _ (Keep.refl _ _)).mono ?_
          rintro e w1 ⟨rfl, k1⟩
          have hK1 := keepN hK (keepN (Keep.refl _ _) k1)
          go_wp2
          go_ret
          exact ⟨rfl, hK1⟩
      · obtain rfl : j = n := by omega
        obtain rfl : R = true := by rw [hR.out, decide_eq_true_iff]; exact map_all ht.out hn.out hm.out
        clear hR
        go_wp2
        go_ret
        exact ⟨rfl, hK⟩
  · obtain rfl : R = false := by
      rw [hR.out, decide_eq_false_iff_not]
      intro e
      have := congrArg List.length e
      rw [List.length_map, List.length_map, hn.out, hm.out] at this
      exact hnm this
    have hne : ((n : Int) != (m : Int)) = true := by rw [bne_iff_ne]; omega
    clear hnm hR
    go_enter Tryz.func63, Tryz.ntmps63
    go_wp2
    go_ret
    exact ⟨rfl, Keep.refl _ _⟩

set_option maxRecDepth 100000 in
set_option maxHeartbeats 4000000 in
theorem eqfnF_any (A B : Option Addr) (pa pb : List FE) (n m c d k : Nat) (w : World) (hcf : ∀ args w, (callFunc k args).run Tryz.prog w = .ok (.enter k args) w) (hra : Hid (∀ W, Keep NoB w W → Rd W A (fvs pa))) (hrb : Hid (∀ W, Keep NoB w W → Rd W B (fvs pb)))
    (hn : Hid (pa.length = n)) (hm : Hid (pb.length = m)) (hn1 : n ≤ 140737488355328) (hm1 : m ≤ 140737488355328)
    (hq : Hid (∀ i (h : i < pa.length) (h' : i < pb.length) W, Keep NoB w W → Calls Tryz.prog k #[pa[i].1.val, pb[i].1.val] W fun e W' => e = .returned (.bool (decide (pa[i].2 = pb[i].2))) ∧ Keep NoB W W')) (R : Bool) (hR : Hid (R = decide ((pa.map fun e => e.2) = pb.map fun e => e.2))) :
    Calls Tryz.prog 65 #[.slice A n c, .slice B m d, .func (.func k) #[] #[]] w fun e w' => e = .returned (.bool R) ∧ Keep NoB w w' := by
  by_cases hnm : n = m
  · subst hnm
    go_enter Tryz.func65, Tryz.ntmps65
    go_wp2
    go_loopw [17] (fun i wr => ∃ j : Nat, j ≤ n ∧ i = .int .i64 j ∧ Hid ((pa.map fun e => e.2).take j = (pb.map fun e => e.2).take j) ∧ Keep NoB w wr) (fun i _ => n - (intOf i).toNat)
    case atStart => exact ⟨0, Nat.zero_le _, rfl, rfl, Keep.refl _ _⟩
    case round =>
      obtain ⟨j, hj, rfl, ht, hK⟩ := hrel
      by_cases hlt : j < n
      · have hja : j < pa.length := by rw [hn.out]; exact hlt
        have hjb : j < pb.length := by rw [hm.out]; exact hlt
        obtain ⟨ga, oa, rfl, c0, c1, c2, c3, c4⟩ := fun_at (hra.out _ hK) hja
        obtain ⟨gb, ob, rfl, d0, d1, d2, d3, d4⟩ := fun_at (hrb.out _ hK) hjb
        have HQ := Lib.hid (fun W hk => hq.out j hja hjb W (keepN hK hk))
        have HY := Lib.hid (fun he => map_take_step ht.out hja hjb he)
        have HN := Lib.hid (fun he => map_ne (f := fun e : FE => e.2) hja hjb he)
        clear ht
        generalize pa[j] = ea at c0 c1 c2 c3 c4 HQ HY HN
        generalize pb[j] = eb at d0 d1 d2 d3 d4 HQ HY HN
        obtain ⟨⟨S1, A1, na1, ca1, B1, nb1, cb1, L1, nl1, cl1, D1, nd1, cd1⟩, l1⟩ := ea
        obtain ⟨⟨S2, A2, na2, ca2, B2, nb2, cb2, L2, nl2, cl2, D2, nd2, cd2⟩, l2⟩ := eb
        dsimp only [F.FV.val, F.FV.cells] at c0 c1 c2 c3 c4 d0 d1 d2 d3 d4 HQ HY HN
        have kA := (Keep.refl NoB wr).alloc (.cells #[.string S1, .slice A1 na1 ca1, .slice B1 nb1 cb1, .slice L1 nl1 cl1, .slice D1 nd1 cd1] 61)
        have kB := kA.alloc (.cells #[.string S2, .slice A2 na2 ca2, .slice B2 nb2 cb2, .slice L2 nl2 cl2, .slice D2 nd2 cd2] 61)
        have f0 := kA.cell d0 id
        have f1 := kA.cell d1 id
        have f2 := kA.cell d2 id
        have f3 := kA.cell d3 id
        have f4 := kA.cell d4 id
        obtain ⟨g0, g1, g2, g3, g4⟩ := F.blk5 (v := ⟨S1, A1, na1, ca1, B1, nb1, cb1, L1, nl1, cl1, D1, nd1, cd1⟩) ((Blk.new wr 61 #[.string S1, .slice A1 na1 ca1, .slice B1 nb1 cb1, .slice L1 nl1 cl1, .slice D1 nd1 cd1]).alloc (.cells #[.string S2, .slice A2 na2 ca2, .slice B2 nb2 cb2, .slice L2 nl2 cl2, .slice D2 nd2 cd2] 61))
        dsimp only at g0 g1 g2 g3 g4
        by_cases he : l1 = l2
        · have HV := Lib.hid (HY.out he)
          rw [decide_eq_true he] at HQ
          clear HY HN he
          go_wp2_with fail
          refine (HQ.out _ kB).mono ?_
          rintro e w1 ⟨rfl, k1⟩
          have hK1 := keepN hK (keepN kB k1)
          go_wp2
          go_roundw
          case rel => exact ⟨j + 1, by omega, by go_num, HV, hK1⟩
          case measure => simp [intOf]; omega
        · obtain rfl : R = false := by rw [hR.out, decide_eq_false_iff_not]; exact HN.out he
          rw [decide_eq_false he] at HQ
          clear HY HN he hR
          go_wp2_with fail
          refine (HQ.out _ kB).mono ?_
          rintro e w1 ⟨rfl, k1⟩
          have hK1 := keepN hK (keepN kB k1)
          go_wp2
          go_ret
          exact ⟨rfl, hK1⟩
      · obtain rfl : j = n := by omega
        obtain rfl : R = true := by rw [hR.out, decide_eq_true_iff]; exact map_all ht.out hn.out hm.out
        clear hR
        go_wp2
        go_ret
        exact ⟨rfl, hK⟩
  · obtain rfl : R = false := by
      rw [hR.out, decide_eq_false_iff_not]
      intro e
      have := congrArg List.length e
      rw [List.length_map, List.length_map, hn.out, hm.out] at this
      exact hnm this
    have hne : ((n : Int) != (m : Int)) = true := by rw [bne_iff_ne]; omega
    clear hnm hR
    go_enter Tryz.func65, Tryz.ntmps65
    go_wp2
    go_ret
    exact ⟨rfl, Keep.refl _ _⟩

theorem sameI_of (es gs : List SE) (fs hs : List FE) : sameI (imOf es fs) (imOf gs hs) = (decide ((es.map fun e => e.2) = gs.map fun e => e.2) && decide ((fs.map fun e => e.2) = hs.map fun e => e.2)) := by
  unfold sameI imOf; dsimp only; rw [Bool.decide_and]
theorem ImAt.shp {w : World} {v : IV} {es : List SE} {fs : List FE} (h : ImAt w v es fs) {i : Nat} (hi : i < es.length) : Rd w es[i].1.A (ivs es[i].2) ∧ es[i].2.length = es[i].1.n := h.hs _ (List.getElem_mem hi)
theorem ImAt.fun_ {w : World} {v : IV} {es : List SE} {fs : List FE} (h : ImAt w v es fs) {i : Nat} (hi : i < fs.length) : F.FnAt w fs[i].1 fs[i].2 := h.hf _ (List.getElem_mem hi)
theorem sme {es : List SE} {fs : List FE} (h : SmI es fs) {i : Nat} (hi : i < es.length) : es[i].1.n ≤ 100 := h.sh _ (List.getElem_mem hi)
theorem smf {es : List SE} {fs : List FE} (h : SmI es fs) {i : Nat} (hi : i < fs.length) : F.SmF fs[i].1 := h.fn _ (List.getElem_mem hi)

set_option maxRecDepth 100000 in
set_option maxHeartbeats 4000000 in
theorem same_any (v u : IV) (es gs : List SE) (fs hs : List FE) (w : World) (h : ImAt w v es fs) (h2 : ImAt w u gs hs) (hs1 : SmI es fs) (hs2 : SmI gs hs) :
    Calls Tryz.prog 28 #[v.val, u.val] w fun e w' => e = .returned (.bool (sameI (imOf es fs) (imOf gs hs))) ∧ Keep NoB w w' := by
  have bx := (Blk.new w 25 v.cells).alloc (.cells u.cells 25)
  have by0 := Blk.new (w.alloc (.cells v.cells 25)) 25 u.cells
  have k0 := ((Keep.refl NoB w).alloc (.cells v.cells 25)).alloc (.cells u.cells 25)
  rw [World.size_alloc] at by0
  have hl := h.lx
  have hl2 := h.ly
  have hl3 := h2.lx
  have hl4 := h2.ly
  have n1 := hs1.ns
  have n2 := hs1.nf
  have n3 := hs2.ns
  have n4 := hs2.nf
  have HS := Lib.hid (fun W (hk : Keep NoB w W) => eqfnS_any v.X u.X es gs v.nx u.nx v.cx u.cx 64 W (enters_of Tryz.func64 (by kernel_rfl) rfl) (fun W' hk' => (h.keepN (keepN hk hk')).rx) (fun W' hk' => (h2.keepN (keepN hk hk')).rx) hl hl3 (by omega) (by omega)
    (fun i hi hi' W' hk' => equalSh_any es[i].1.A gs[i].1.A es[i].2 gs[i].2 es[i].1.n gs[i].1.n es[i].1.c gs[i].1.c W' ((h.keepN (keepN hk hk')).shp hi).1 ((h2.keepN (keepN hk hk')).shp hi').1 (h.shp hi).2 (h2.shp hi').2 (by have := sme hs1 hi; omega) (by have := sme hs2 hi'; omega) _ rfl) _ rfl)
  have HF := Lib.hid (fun W (hk : Keep NoB w W) => eqfnF_any v.Y u.Y fs hs v.ny u.ny v.cy u.cy 66 W (enters_of Tryz.func66 (by kernel_rfl) rfl) (fun W' hk' => (h.keepN (keepN hk hk')).ry) (fun W' hk' => (h2.keepN (keepN hk hk')).ry) hl2 hl4 (by omega) (by omega)
    (fun i hi hi' W' hk' => by
      have e : F.sameF fs[i].2 hs[i].2 = decide (fs[i].2 = hs[i].2) := by rw [Bool.eq_iff_iff, F.sameF_iff, decide_eq_true_iff]
      rw [← e]
      exact F.sameF_any fs[i].1 fs[i].2 hs[i].1 hs[i].2 W' ((h.keepN (keepN hk hk')).fun_ hi) ((h2.keepN (keepN hk hk')).fun_ hi') (smf hs1 hi) (smf hs2 hi')) _ rfl)
  rw [sameI_of]
  obtain ⟨x0, x1⟩ := blk2 bx
  obtain ⟨y0, y1⟩ := blk2 by0
  have HX := Lib.hid bx
  have HY := Lib.hid by0
  generalize decide ((es.map fun e => e.2) = gs.map fun e => e.2) = r1 at *
  generalize decide ((fs.map fun e => e.2) = hs.map fun e => e.2) = r2 at *
  clear h h2 hs1 hs2 hl hl2 hl3 hl4 n1 n2 n3 n4 bx by0
  obtain ⟨X, nx, cx, Y, ny, cy⟩ := v
  obtain ⟨X2, nx2, cx2, Y2, ny2, cy2⟩ := u
  dsimp only [IV.val, IV.cells] at *
  go_enter Tryz.func28, Tryz.ntmps28
  go_wp2_with fail
  refine (HS.out _ k0).mono ?_
  rintro e w1 ⟨rfl, k1⟩
  cases r1
  · go_wp2
    go_ret
    exact ⟨rfl, keepN k0 k1⟩
  · have hx := k1.cell x1 id
    have hy := k1.cell y1 id
    go_wp2_with fail
    refine (HF.out _ (keepN k0 k1)).mono ?_
    rintro e w2 ⟨rfl, k2⟩
    go_wp2
    go_ret
    exact ⟨by simp, keepN k0 (keepN k1 k2)⟩

set_option maxRecDepth 100000 in
set_option maxHeartbeats 8000000 in
theorem rsame_any (v u : IV) (es gs : List SE) (fs hs : List FE) (w : World) (h : ImAt w v es fs) (h2 : ImAt w u gs hs) (hs1 : SmI es fs) (hs2 : SmI gs hs) :
    Calls Tryz.prog 17 #[v.val, u.val] w fun e w' => e = .returned (.bool (sameI (imOf es fs) (imOf gs hs))) ∧ Keep NoB w w' := by
  have bx := (Blk.new w 25 v.cells).alloc (.cells u.cells 25)
  have by0 := Blk.new (w.alloc (.cells v.cells 25)) 25 u.cells
  have k0 := ((Keep.refl NoB w).alloc (.cells v.cells 25)).alloc (.cells u.cells 25)
  rw [World.size_alloc] at by0
  have HI := Lib.hid (fun W (hk : Keep NoB ((w.alloc (.cells v.cells 25)).alloc (.cells u.cells 25)) W) => h.keepN (keepN k0 hk))
  have HJ := Lib.hid (fun W (hk : Keep NoB ((w.alloc (.cells v.cells 25)).alloc (.cells u.cells 25)) W) => h2.keepN (keepN k0 hk))
  have hl := h.lx
  have hl2 := h.ly
  have hl3 := h2.lx
  have hl4 := h2.ly
  have n1 := hs1.ns
  have n2 := hs1.nf
  have n3 := hs2.ns
  have n4 := hs2.nf
  have H1 := Lib.hid hs1
  have H2 := Lib.hid hs2
  have HX := Lib.hid bx
  have HY := Lib.hid by0
  obtain ⟨R, hR⟩ : ∃ R, sameI (imOf es fs) (imOf gs hs) = R := ⟨_, rfl⟩
  rw [hR]
  rw [sameI_of] at hR
  have HR := Lib.hid hR
  clear h h2 hs1 hs2 bx by0 hR
  obtain ⟨X, nx, cx, Y, ny, cy⟩ := v
  obtain ⟨X2, nx2, cx2, Y2, ny2, cy2⟩ := u
  dsimp only [IV.val, IV.cells] at *
  generalize hw0 : (w.alloc (.cells #[.slice X nx cx, .slice Y ny cy] 25)).alloc (.cells #[.slice X2 nx2 cx2, .slice Y2 ny2 cy2] 25) = w0 at HI HJ HX HY k0
  have c0 : ∀ W, Keep NoB w0 W → W.cell? ⟨w.heap.size, 0, none⟩ = some (.slice X nx cx) ∧ W.cell? ⟨w.heap.size, 1, none⟩ = some (.slice Y ny cy) := fun W hk => blk2 (v := ⟨X, nx, cx, Y, ny, cy⟩) (HX.out.keep hk id)
  have d0 : ∀ W, Keep NoB w0 W → W.cell? ⟨w.heap.size + 1, 0, none⟩ = some (.slice X2 nx2 cx2) ∧ W.cell? ⟨w.heap.size + 1, 1, none⟩ = some (.slice Y2 ny2 cy2) := fun W hk => blk2 (v := ⟨X2, nx2, cx2, Y2, ny2, cy2⟩) (HY.out.keep hk id)
  have HC := Lib.hid c0
  have HD := Lib.hid d0
  clear c0 d0
  obtain ⟨x0, x1⟩ := HC.out _ (Keep.refl _ _)
  obtain ⟨y0, y1⟩ := HD.out _ (Keep.refl _ _)
  by_cases he1 : nx = nx2
  · subst he1
    by_cases he2 : ny = ny2
    · subst he2
      go_enter Tryz.func17, Tryz.ntmps17
      go_wp2
      go_loopw [5] (fun i wr => ∃ j : Nat, j ≤ nx ∧ i = .int .i64 j ∧ Hid ((es.map fun e => e.2).take j = (gs.map fun e => e.2).take j) ∧ Keep NoB w0 wr) (fun i _ => nx - (intOf i).toNat)
      case atStart => exact ⟨0, Nat.zero_le _, rfl, rfl, Keep.refl _ _⟩
      case round =>
        clear x0 x1 y0 y1
        obtain ⟨j, hj, rfl, ht, hK⟩ := hrel
        obtain ⟨x0, x1⟩ := HC.out _ hK
        obtain ⟨y0, y1⟩ := HD.out _ hK
        by_cases hlt : j < nx
        · have hja : j < es.length := by omega
          have hjb : j < gs.length := by omega
          obtain ⟨ga, oa, rfl, ca⟩ := shape_at (HI.out _ hK).rx hja
          obtain ⟨gb, ob, rfl, cb⟩ := shape_at (HJ.out _ hK).rx hjb
          have HQ := Lib.hid (fun W hk => ints_any es[j].1.A gs[j].1.A es[j].2 gs[j].2 es[j].1.n gs[j].1.n es[j].1.c gs[j].1.c W ((HI.out _ (keepN hK hk)).shp hja).1 ((HJ.out _ (keepN hK hk)).shp hjb).1 ((HI.out _ hK).shp hja).2 ((HJ.out _ hK).shp hjb).2 (by have := sme H1.out hja; omega) (by have := sme H2.out hjb; omega) _ rfl)
          have HV := Lib.hid (fun he => map_take_step ht.out hja hjb he)
          have HN := Lib.hid (fun he => map_ne (f := fun e : SE => e.2) hja hjb he)
          clear ht
          generalize es[j] = ea at ca HQ HV HN
          generalize gs[j] = eb at cb HQ HV HN
          obtain ⟨⟨A1, n1', e1⟩, l1⟩ := ea
          obtain ⟨⟨A2, n2', e2⟩, l2⟩ := eb
          dsimp only [SV.val] at ca cb HQ HV HN
          have z0 : ∀ n : KW wr, n.w.cell? ⟨w.heap.size, 0, none⟩ = some (.slice (some ⟨ga, oa, none⟩) nx cx) := fun n => n.keep.cell x0 id
          have z1 : ∀ n : KW wr, n.w.cell? ⟨w.heap.size + 1, 0, none⟩ = some (.slice (some ⟨gb, ob, none⟩) nx cx2) := fun n => n.keep.cell y0 id
          have z2 : ∀ n : KW wr, n.w.cell? ⟨ga, oa + j, none⟩ = some (.slice A1 n1' e1) := fun n => n.keep.cell ca id
          have z3 : ∀ n : KW wr, n.w.cell? ⟨gb, ob + j, none⟩ = some (.slice A2 n2' e2) := fun n => n.keep.cell cb id
          by_cases he : l1 = l2
          · have HV2 := Lib.hid (HV.out he)
            rw [decide_eq_true he] at HQ
            clear HV HN he
            go_wp2_with fail
            refine wp_region_kept wr (by kernel_rfl) (by kernel_rfl) (Keep.refl NoB wr) ?_
            repeat (go_big_quiet_step ((go_at_call 50; exact kept_of (HQ.out _ (KW.keep _)))))
            refine wpQuiet_nil ?_
            rintro _ ⟨n9, rfl⟩
            have hk9 := n9.keep
            generalize n9.w = w9 at hk9 ⊢
            have hK9 := keepN hK hk9
            go_wp2
            go_roundw
            case rel => exact ⟨j + 1, by omega, by go_num, HV2, hK9⟩
            case measure => simp [intOf]; omega
          · obtain rfl : false = R := by rw [← HR.out, decide_eq_false (HN.out he)]; rfl
            rw [decide_eq_false he] at HQ
            clear HV HN he HR
            go_wp2_with fail
            refine wp_region_kept wr (by kernel_rfl) (by kernel_rfl) (Keep.refl NoB wr) ?_
            repeat (go_big_quiet_step ((go_at_call 50; exact kept_of (HQ.out _ (KW.keep _)))))
            refine wpQuiet_nil ?_
            rintro _ ⟨n9, rfl⟩
            have hk9 := n9.keep
            generalize n9.w = w9 at hk9 ⊢
            have hK9 := keepN hK hk9
            go_wp2
            go_ret
            exact ⟨rfl, keepN k0 hK9⟩
        · obtain rfl : j = nx := by omega
          have hall := map_all ht.out (by omega) (by omega)
          rw [decide_eq_true hall, Bool.true_and] at HR
          clear hall ht
          obtain ⟨wo, rfl⟩ : ∃ wo, wo = wr := ⟨_, rfl⟩
          go_wp2
          go_loopw [7] (fun i wr => ∃ j : Nat, j ≤ ny ∧ i = .int .i64 j ∧ Hid ((fs.map fun e => e.2).take j = (hs.map fun e => e.2).take j) ∧ Keep NoB w0 wr) (fun i _ => ny - (intOf i).toNat)
          case atStart => exact ⟨0, Nat.zero_le _, rfl, rfl, hK⟩
          case round =>
            clear x0 x1 y0 y1 hK
            obtain ⟨i, hi, rfl, ht, hK⟩ := hrel
            obtain ⟨x0, x1⟩ := HC.out _ hK
            obtain ⟨y0, y1⟩ := HD.out _ hK
            by_cases hlt : i < ny
            · have hia : i < fs.length := by omega
              have hib : i < hs.length := by omega
              obtain ⟨ga, oa, rfl, a0, a1, a2, a3, a4⟩ := fun_at (HI.out _ hK).ry hia
              obtain ⟨gb, ob, rfl, b0, b1, b2, b3, b4⟩ := fun_at (HJ.out _ hK).ry hib
              have e : F.sameF fs[i].2 hs[i].2 = decide (fs[i].2 = hs[i].2) := by rw [Bool.eq_iff_iff, F.sameF_iff, decide_eq_true_iff]
              have HQ := Lib.hid (fun W hk => F.rsameF_any fs[i].1 fs[i].2 hs[i].1 hs[i].2 W ((HI.out _ (keepN hK hk)).fun_ hia) ((HJ.out _ (keepN hK hk)).fun_ hib) (smf H1.out hia) (smf H2.out hib))
              rw [e] at HQ
              have HV := Lib.hid (fun he => map_take_step ht.out hia hib he)
              have HN := Lib.hid (fun he => map_ne (f := fun e : FE => e.2) hia hib he)
              clear ht e
              generalize fs[i] = ea at a0 a1 a2 a3 a4 HQ HV HN
              generalize hs[i] = eb at b0 b1 b2 b3 b4 HQ HV HN
              obtain ⟨⟨S1, A1, na1, ca1, B1, nb1, cb1, L1, nl1, cl1, D1, nd1, cd1⟩, l1⟩ := ea
              obtain ⟨⟨S2, A2, na2, ca2, B2, nb2, cb2, L2, nl2, cl2, D2, nd2, cd2⟩, l2⟩ := eb
              dsimp only [F.FV.val, F.FV.cells] at a0 a1 a2 a3 a4 b0 b1 b2 b3 b4 HQ HV HN
              have z0 : ∀ n : KW wr, n.w.cell? ⟨w.heap.size, 1, none⟩ = some (.slice (some ⟨ga, oa, none⟩) ny cy) := fun n => n.keep.cell x1 id
              have z1 : ∀ n : KW wr, n.w.cell? ⟨w.heap.size + 1, 1, none⟩ = some (.slice (some ⟨gb, ob, none⟩) ny cy2) := fun n => n.keep.cell y1 id
              have za0 : ∀ n : KW wr, n.w.cell? ⟨ga, oa + i * 5, none⟩ = some (.string S1) := fun n => n.keep.cell a0 id
              have za1 : ∀ n : KW wr, n.w.cell? ⟨ga, oa + i * 5 + 1, none⟩ = some (.slice A1 na1 ca1) := fun n => n.keep.cell a1 id
              have za2 : ∀ n : KW wr, n.w.cell? ⟨ga, oa + i * 5 + 2, none⟩ = some (.slice B1 nb1 cb1) := fun n => n.keep.cell a2 id
              have za3 : ∀ n : KW wr, n.w.cell? ⟨ga, oa + i * 5 + 3, none⟩ = some (.slice L1 nl1 cl1) := fun n => n.keep.cell a3 id
              have za4 : ∀ n : KW wr, n.w.cell? ⟨ga, oa + i * 5 + 4, none⟩ = some (.slice D1 nd1 cd1) := fun n => n.keep.cell a4 id
              have zb0 : ∀ n : KW wr, n.w.cell? ⟨gb, ob + i * 5, none⟩ = some (.string S2) := fun n => n.keep.cell b0 id
              have zb1 : ∀ n : KW wr, n.w.cell? ⟨gb, ob + i * 5 + 1, none⟩ = some (.slice A2 na2 ca2) := fun n => n.keep.cell b1 id
              have zb2 : ∀ n : KW wr, n.w.cell? ⟨gb, ob + i * 5 + 2, none⟩ = some (.slice B2 nb2 cb2) := fun n => n.keep.cell b2 id
              have zb3 : ∀ n : KW wr, n.w.cell? ⟨gb, ob + i * 5 + 3, none⟩ = some (.slice L2 nl2 cl2) := fun n => n.keep.cell b3 id
              have zb4 : ∀ n : KW wr, n.w.cell? ⟨gb, ob + i * 5 + 4, none⟩ = some (.slice D2 nd2 cd2) := fun n => n.keep.cell b4 id
              by_cases he : l1 = l2
              · have HV2 := Lib.hid (HV.out he)
                rw [decide_eq_true he] at HQ
                clear HV HN he
                go_wp2_with fail
                refine wp_region_kept wr (by kernel_rfl) (by kernel_rfl) (Keep.refl NoB wr) ?_
                repeat (go_big_quiet_step ((go_at_call 51; exact kept_of (HQ.out _ (KW.keep _)))))
                refine wpQuiet_nil ?_
                rintro _ ⟨n9, rfl⟩
                have hk9 := n9.keep
                generalize n9.w = w9 at hk9 ⊢
                have hK9 := keepN hK hk9
                go_wp2
                go_roundw
                case rel => exact ⟨i + 1, by omega, by go_num, HV2, hK9⟩
                case measure => simp [intOf]; omega
              · obtain rfl : false = R := by rw [← HR.out, decide_eq_false (HN.out he)]
                rw [decide_eq_false he] at HQ
                clear HV HN he HR
                go_wp2_with fail
                refine wp_region_kept wr (by kernel_rfl) (by kernel_rfl) (Keep.refl NoB wr) ?_
                repeat (go_big_quiet_step ((go_at_call 51; exact kept_of (HQ.out _ (KW.keep _)))))
                refine wpQuiet_nil ?_
                rintro _ ⟨n9, rfl⟩
                have hk9 := n9.keep
                generalize n9.w = w9 at hk9 ⊢
                have hK9 := keepN hK hk9
                go_wp2
                go_ret
                exact ⟨rfl, keepN k0 hK9⟩
            · obtain rfl : i = ny := by omega
              obtain rfl : true = R := by rw [← HR.out, decide_eq_true (map_all ht.out (by omega) (by omega))]
              clear HR ht
              go_wp2
              go_ret
              exact ⟨rfl, keepN k0 hK⟩
    · obtain rfl : false = R := by
        rw [← HR.out]; symm; rw [Bool.and_eq_false_iff]; right
        rw [decide_eq_false_iff_not]
        intro e
        have := congrArg List.length e
        rw [List.length_map, List.length_map] at this
        omega
      have hne : ((ny : Int) != (ny2 : Int)) = true := by rw [bne_iff_ne]; omega
      clear he2 HR
      go_enter Tryz.func17, Tryz.ntmps17
      go_wp2
      go_ret
      exact ⟨rfl, k0⟩
  · obtain rfl : false = R := by
      rw [← HR.out]; symm; rw [Bool.and_eq_false_iff]; left
      rw [decide_eq_false_iff_not]
      intro e
      have := congrArg List.length e
      rw [List.length_map, List.length_map] at this
      omega
    have hne : ((nx : Int) != (nx2 : Int)) = true := by rw [bne_iff_ne]; omega
    clear he1 HR
    go_enter Tryz.func17, Tryz.ntmps17
    go_wp2
    go_ret
    exact ⟨rfl, k0⟩

end Go.Proofs.YtgifflfjhockaaaGreatDoor.I

namespace Go.Proofs.YtgifflfjhockaaaGreatDoor.F
open Go.RowKit W

end Go.Proofs.YtgifflfjhockaaaGreatDoor.F

namespace Go.Proofs.YtgifflfjhockaaaGreatDoor.F
open Go.RowKit W

end Go.Proofs.YtgifflfjhockaaaGreatDoor.F

namespace Go.Proofs.YtgifflfjhockaaaGreatDoor.I
open Go.RowKit W

end Go.Proofs.YtgifflfjhockaaaGreatDoor.I

namespace Go.Proofs.YtgifflfjhockaaaGreatDoor.I
open Go.RowKit W

end Go.Proofs.YtgifflfjhockaaaGreatDoor.I

namespace Go.Proofs.YtgifflfjhockaaaGreatDoor.I
open Go.RowKit W

end Go.Proofs.YtgifflfjhockaaaGreatDoor.I

namespace Go.Proofs.YtgifflfjhockaaaGreatDoor.O
open Go.RowKit

/-- Block k holds cells. -/
def CellsAt (W : World) (k : Nat) : Prop := ∃ cs t f, W.heap[k]? = some (.cells cs t f)
theorem CellsAt.lt {W : World} {k : Nat} (h : CellsAt W k) : k < W.heap.size := by obtain ⟨_, _, _, h⟩ := h; exact (Array.getElem?_eq_some_iff.1 h).1
end Go.Proofs.YtgifflfjhockaaaGreatDoor.O

namespace Go.Proofs.YtgifflfjhockaaaGreatDoor.O
open Go.RowKit Go.Shelf
attribute [local go_sem] Oper.semAt_some

end Go.Proofs.YtgifflfjhockaaaGreatDoor.O

namespace Go.Proofs.YtgifflfjhockaaaGreatDoor.O
open Go.RowKit

end Go.Proofs.YtgifflfjhockaaaGreatDoor.O

namespace Go.Proofs.YtgifflfjhockaaaGreatDoor.O
open Go.RowKit

theorem own_app {w w1 w2 : World} {v v' : Value} {l m : List UInt8} (hv : V.OwnB w1 (Fresh w) v l) (hk : Keep NoB w w1) (hown : w2.ownsRow 0 5 1 v' (l ++ m).length (V.bvs (l ++ m))) (hg : w1.grownBy w2 v.ownBlock)
    (hat : v'.ownBlock = v.ownBlock ∨ v'.ownBlock = some w1.heap.size) : V.OwnB w2 (Fresh w) v' (l ++ m) ∧ Keep NoB w w2 := by
  refine ⟨⟨hown, fun g e => ?_⟩, hk.grown hg (fun g e hlt => by have := hv.2 g e; unfold Fresh at this; omega)⟩
  rcases hat with h | h
  · rw [h] at e; exact hv.2 g e
  · rw [h] at e
    injection e with e
    subst e
    exact hk.size
end Go.Proofs.YtgifflfjhockaaaGreatDoor.O

namespace Go.Proofs.YtgifflfjhockaaaGreatDoor.C
open Go.RowKit O

end Go.Proofs.YtgifflfjhockaaaGreatDoor.C

namespace Go.Proofs.YtgifflfjhockaaaGreatDoor.C
open Go.RowKit O

end Go.Proofs.YtgifflfjhockaaaGreatDoor.C

namespace Go.Proofs.YtgifflfjhockaaaGreatDoor.F
open Go.RowKit W

end Go.Proofs.YtgifflfjhockaaaGreatDoor.F

namespace Go.Proofs.YtgifflfjhockaaaGreatDoor.F
open Go.RowKit W

/-- The bytes so far. -/
def Byt (W2 : World) (b : Nat) (bs : List UInt8) (w : World) : Prop := Keep (fun k => k = b) W2 w ∧ ∃ u, Blk w b 26 #[u] ∧ V.OwnB w (Fresh W2) u bs
/-- A writer: what encodes, the part, and where the bytes go, each in a cell of its own. -/
def WrV (k : Nat) (tc tp : TypeId) (enc : Value) (cells : Array Value) (b m : Nat) (v : Value) (w : World) : Prop :=
  ∃ c p q, v = askV k #[.pointer (some ⟨c, 0, none⟩), .pointer (some ⟨p, 0, none⟩), .pointer (some ⟨q, 0, none⟩)] ∧ (m ≤ c ∧ m ≤ p ∧ m ≤ q) ∧ Blk w c tc #[enc] ∧ Blk w p tp cells ∧ Blk w q 188 #[.pointer (some ⟨b, 0, none⟩)]
theorem WrV.keep {k : Nat} {tc tp : TypeId} {enc : Value} {cells : Array Value} {b m : Nat} {v : Value} {w w' : World} {O : Nat → Prop} (h : WrV k tc tp enc cells b m v w) (hk : Keep O w w') (hO : ∀ x, m ≤ x → ¬ O x) : WrV k tc tp enc cells b m v w' := by
  obtain ⟨c, p, q, e, ⟨m1, m2, m3⟩, h1, h2, h3⟩ := h
  exact ⟨c, p, q, e, ⟨m1, m2, m3⟩, h1.keep hk (hO _ m1), h2.keep hk (hO _ m2), h3.keep hk (hO _ m3)⟩
theorem Byt.keepN {W2 w w' : World} {b : Nat} {bs : List UInt8} (h : Byt W2 b bs w) (hk : Keep NoB w w') : Byt W2 b bs w' := by
  obtain ⟨h1, u, h2, h3⟩ := h
  exact ⟨h1.trans hk (fun _ h _ => h.elim), u, h2.keep hk id, h3.keep hk (fun _ _ => id)⟩
end Go.Proofs.YtgifflfjhockaaaGreatDoor.F

namespace Go.Proofs.YtgifflfjhockaaaGreatDoor.F
open Go.RowKit W

end Go.Proofs.YtgifflfjhockaaaGreatDoor.F

namespace Go.Proofs.YtgifflfjhockaaaGreatDoor.F
open Go.RowKit W

end Go.Proofs.YtgifflfjhockaaaGreatDoor.F

namespace Go.Proofs.YtgifflfjhockaaaGreatDoor.I
open Go.RowKit W

end Go.Proofs.YtgifflfjhockaaaGreatDoor.I

namespace Go.Proofs.YtgifflfjhockaaaGreatDoor.I
open Go.RowKit W

end Go.Proofs.YtgifflfjhockaaaGreatDoor.I

namespace Go.Proofs.YtgifflfjhockaaaGreatDoor
open Go.RowKit
section
variable {P : Program} {md : Region.Mode} {ops : Array Oper}
end
end Go.Proofs.YtgifflfjhockaaaGreatDoor

namespace Go.Proofs.YtgifflfjhockaaaGreatDoor.I
open Go.RowKit W

/-- A slice of bytes that reads as a list. -/
def PtV (l : List UInt8) (u : Value) (w : World) : Prop := ∃ A c, u = .slice A l.length c ∧ V.Rd w A l
theorem PtV.keepN {l : List UInt8} {u : Value} {w w' : World} (h : PtV l u w) (hk : Keep NoB w w') : PtV l u w' := by
  obtain ⟨A, c, e, h⟩ := h
  exact ⟨A, c, e, h.keep hk (fun _ _ _ => id)⟩
theorem PtV.rd {l : List UInt8} {A : Option Addr} {n c : Nat} {w : World} (h : PtV l (.slice A n c) w) : V.Rd w A l := by
  obtain ⟨A', c', e, h⟩ := h
  injection e with e1 e2 e3
  subst e1; exact h
/-- One block of bytes gets the run-time's mark. -/
structure MarkK (w w' : World) : Prop where
  os : w'.os = w.os
  tape : w'.tape = w.tape
  output : w'.output = w.output
  size : w'.heap.size = w.heap.size
  block : ∀ k : Nat, w'.heap[k]? = w.heap[k]? ∨ ∃ (cs : Array Value) (t : TypeId) (f f' : Nat × Nat), w.heap[k]? = some (Obj.cells cs t f) ∧ w'.heap[k]? = some (Obj.cells cs t f')
theorem MarkK.cell {w w' : World} (h : MarkK w w') {p : Addr} {v : Value} (hc : w.cell? p = some v) : w'.cell? p = some v := by
  rcases h.block p.block with hb | ⟨cs, t, f, f', h1, h2⟩
  · exact (World.cell?_of_block hb).trans hc
  · unfold World.cell? at hc ⊢
    rw [h1] at hc
    rw [h2]
    exact hc
end Go.Proofs.YtgifflfjhockaaaGreatDoor.I

namespace Go.Proofs.YtgifflfjhockaaaGreatDoor.O
open Go.ChangeShapes Go.WideShapes Go.ChangeAt Go.RowKit

theorem seatOwn : ownKnob Tryz.prog.godebug = none := by kernel_rfl
theorem seatLaidOut : laidOutB Tryz.prog = true := by kernel_rfl
theorem i64_of_wf {n : Int} (h : (Lit.int .i64 n).wf = true) : I64 n := by
  have hmin : IntKind.i64.min = -9223372036854775808 := rfl
  have hmax : IntKind.i64.max = 9223372036854775807 := rfl
  simp only [Lit.wf, Bool.and_eq_true, decide_eq_true_eq] at h
  unfold I64; omega
section
variable {H : Type} {enc : TypeId × Value → H} {w : World} {base b0 : Nat} {spare : Nat → Bool} {held : Bool} {r : Reach} {v : Value} {d : DataW H} {p : List MemPlace}
end

end Go.Proofs.YtgifflfjhockaaaGreatDoor.O

namespace Go.Proofs.YtgifflfjhockaaaGreatDoor.C
open Go.ChangeShapes Go.WideShapes Go.ChangeAt Go.RowKit Go.Deep O

theorem addr_of_cell {w : World} {a : Addr} {v : Value} (h : w.cell? a = some v) : a = ⟨a.block, a.off, none⟩ := by
  obtain ⟨b, o, s⟩ := a
  cases s with
  | none => rfl
  | some s => unfold World.cell? at h; split at h <;> simp at h
theorem add_of (b o k : Nat) : (⟨b, o, none⟩ : Addr).add k = ⟨b, o + k, none⟩ := by unfold Addr.add; by_cases hk : k = 0 <;> simp [hk]

section
variable {H : Type} {enc : TypeId × Value → H} {W : World} {base : Nat} {spare : Nat → Bool} {held : Bool} {fuel : Nat} {cs : List Value} {x : DataW H × List MemPlace}
set_option maxRecDepth 100000 in
theorem read_insts (h : DataW.trod enc Tryz.prog W base spare held fuel 59 cs = some x) : ∃ A l c, cs = [.slice A l.length c] ∧ Rd W A (iis l) ∧ l.length ≤ c ∧ c ≤ maxLen ∧ AllI l := by
  rcases open_slice Tryz.underlying59 h with ⟨hcs, _⟩ | ⟨a, len, cap, m, n, D, Pl, hcs, _, hl, hm, hmm, _, hi⟩
  · exact ⟨none, [], 0, hcs, Rd.none_ _ _, Nat.le_refl _, Nat.zero_le _, fun _ h => by simp at h⟩
  · have hlm : len ≤ m := by rw [hmm]; split <;> omega
    have cI : Tryz.prog.cellsOf 63 = 3 := by kernel_rfl
    have c3 : Tryz.prog.cellsOf 3 = 1 := by kernel_rfl
    have c2 : Tryz.prog.cellsOf 2 = 1 := by kernel_rfl
    have each : ∀ i : Nat, ∃ v : I3, i < len → W.cell? (a.add (i * 3)) = some (.int .i64 v.1) ∧ W.cell? ((a.add (i * 3)).add 1) = some (.int .i64 v.2.1) ∧ W.cell? ((a.add (i * 3)).add 2) = some (.int .i64 v.2.2) ∧ O.I64 v.2.1 ∧ O.I64 v.2.2 := by
      intro i
      by_cases hlt : i < len
      · obtain ⟨cs', hc, ht'⟩ := hi i (by omega)
        rw [cI] at hc
        obtain ⟨y0, y1, y2, k, _, hlen, h0, h1, h2⟩ := trod_struct3 Tryz.underlying63 ht'
        obtain ⟨_, hcl, hat⟩ := World.cells?_some hc
        match cs', hcl with
        | [u0, u1, u2], _ =>
          have g0 := hat 0 (by omega)
          have g1 := hat 1 (by omega)
          have g2 := hat 2 (by omega)
          obtain ⟨z0, e0, _, w0⟩ := DataW.trod_int Tryz.underlying3 h0
          obtain ⟨z1, e1, _, w1⟩ := DataW.trod_int Tryz.underlying2 h1
          obtain ⟨z2, e2, _, w2⟩ := DataW.trod_int Tryz.underlying2 h2
          simp [c3] at e0
          simp [c2] at e1
          simp [c2] at e2
          subst e0 e1 e2
          exact ⟨(z0, z1, z2), fun _ => ⟨by simpa [Addr.add] using g0, by simpa using g1, by simpa using g2, i64_of_wf w1, i64_of_wf w2⟩⟩
      · exact ⟨(0, 0, 0), fun h => absurd h hlt⟩
    obtain ⟨f, hf⟩ := Classical.axiomOfChoice each
    have hlen : ((List.range len).map f).length = len := by simp
    refine ⟨some a, (List.range len).map f, cap, by rw [hlen]; exact hcs, fun h0 => ?_, by rw [hlen]; exact hl, hm, fun v hv => ?_⟩
    · have h0' : 0 < len := by rw [iis_length, hlen] at h0; omega
      have ea := addr_of_cell (hf 0 h0').1
      have ea' : a = ⟨a.block, a.off, none⟩ := by simpa [Addr.add] using ea
      refine ⟨a.block, a.off, by rw [← ea'], fun j u hu => ?_⟩
      have hj : j < len * 3 := by have := (List.getElem?_eq_some_iff.1 hu).1; rw [iis_length, hlen] at this; exact this
      have hd : j / 3 < len := by omega
      obtain ⟨k0, k1, k2, _⟩ := hf (j / 3) hd
      obtain ⟨q0, q1, q2⟩ := iis_at ((List.range len).map f) (j / 3) (by rw [hlen]; exact hd)
      rw [ea', add_of] at k0 k1 k2
      rw [add_of] at k1 k2
      simp only [List.getElem_map, List.getElem_range] at q0 q1 q2
      have hm3 : j % 3 = 0 ∨ j % 3 = 1 ∨ j % 3 = 2 := by omega
      rcases hm3 with hr | hr | hr
      · have ej : j = j / 3 * 3 := by omega
        rw [ej, q0] at hu
        rw [ej, k0]; exact hu
      · have ej : j = j / 3 * 3 + 1 := by omega
        rw [ej, q1] at hu
        rw [ej, ← Nat.add_assoc, k1]; exact hu
      · have ej : j = j / 3 * 3 + 2 := by omega
        rw [ej, q2] at hu
        rw [ej, ← Nat.add_assoc, k2]; exact hu
    · obtain ⟨i, hi', rfl⟩ := List.mem_map.1 hv
      exact ⟨(hf i (List.mem_range.1 hi')).2.2.2.1, (hf i (List.mem_range.1 hi')).2.2.2.2⟩
end
section
variable {H : Type} {enc : TypeId × Value → H} {w : World} {base b0 : Nat} {spare : Nat → Bool} {held : Bool} {r : Reach} {v : Value} {d : DataW H} {p : List MemPlace}
end

end Go.Proofs.YtgifflfjhockaaaGreatDoor.C

namespace Go.Proofs.YtgifflfjhockaaaGreatDoor.I
open Go.RowKit W

end Go.Proofs.YtgifflfjhockaaaGreatDoor.I

namespace Go.Proofs.YtgifflfjhockaaaGreatDoor.S
open Go.RowKit W

end Go.Proofs.YtgifflfjhockaaaGreatDoor.S

namespace Go.Proofs.YtgifflfjhockaaaGreatDoor.S
open Go.RowKit W

end Go.Proofs.YtgifflfjhockaaaGreatDoor.S

namespace Go.Proofs.YtgifflfjhockaaaGreatDoor.F
open Go.RowKit W

end Go.Proofs.YtgifflfjhockaaaGreatDoor.F

namespace Go.Proofs.YtgifflfjhockaaaGreatDoor.I
open Go.RowKit W

end Go.Proofs.YtgifflfjhockaaaGreatDoor.I

namespace Go.Proofs.YtgifflfjhockaaaGreatDoor.I
open Go.RowKit W

end Go.Proofs.YtgifflfjhockaaaGreatDoor.I

namespace Go.Proofs.YtgifflfjhockaaaGreatDoor.I
open Go.RowKit W

end Go.Proofs.YtgifflfjhockaaaGreatDoor.I

namespace Go.Proofs.YtgifflfjhockaaaGreatDoor.I
open Go.RowKit W

end Go.Proofs.YtgifflfjhockaaaGreatDoor.I

namespace Go.Proofs.YtgifflfjhockaaaGreatDoor.I
open Go.RowKit W

end Go.Proofs.YtgifflfjhockaaaGreatDoor.I

namespace Go.Proofs.YtgifflfjhockaaaGreatDoor.I
open Go.RowKit W

end Go.Proofs.YtgifflfjhockaaaGreatDoor.I

namespace Go.Proofs.YtgifflfjhockaaaGreatDoor.I
open Go.RowKit W

/-- Images that are the same are as great. -/
theorem smI_same {w w' : World} {v v' : IV} {es es' : List SE} {fs fs' : List FE} (h : ImAt w v es fs) (hs : SmI es fs) (h' : ImAt w' v' es' fs') (he : imOf es' fs' = imOf es fs) : SmI es' fs' := by
  have h1 : (es'.map fun e => e.2) = es.map fun e => e.2 := congrArg Im.sh he
  have h2 : (fs'.map fun e => e.2) = fs.map fun e => e.2 := congrArg Im.fn he
  refine ⟨?_, ?_, fun e he => ?_, fun e he => ?_⟩
  · have := congrArg List.length h1; have := hs.ns; simp at *; omega
  · have := congrArg List.length h2; have := hs.nf; simp at *; omega
  · have hm : e.2 ∈ es.map fun e => e.2 := by rw [← h1]; exact List.mem_map.2 ⟨e, he, rfl⟩
    obtain ⟨q, hq, hqe⟩ := List.mem_map.1 hm
    have a := (h.hs q hq).2
    have b := (h'.hs e he).2
    have c := hs.sh q hq
    rw [hqe] at a
    omega
  · have hm : e.2 ∈ fs.map fun e => e.2 := by rw [← h2]; exact List.mem_map.2 ⟨e, he, rfl⟩
    obtain ⟨q, hq, hqe⟩ := List.mem_map.1 hm
    have a := h.hf q hq
    have b := h'.hf e he
    have c := hs.fn q hq
    rw [hqe] at a
    have e0 := F.sz_len b.nm
    have e1 := F.sz_len a.nm
    exact ⟨by have := c.sz; omega, by have := c.na; have := b.la; have := a.la; omega, by have := c.nb; have := b.lb; have := a.lb; omega, by have := c.nl; have := b.ll; have := a.ll; omega, by have := c.nd; have := b.ld; have := a.ld; omega⟩
theorem same_self (p : Im) : sameI p p = true := by unfold sameI; simp
/-- What lies in memory ahead of the law's region. -/
structure IB (W : World) (b0 b1 b2 b3 : Nat) (v o x y : IV) (es eo ex ey : List SE) (fs fo fx fy : List FE) (B RA P Q : Option Addr) (b xs : List UInt8) : Prop where
  k0 : Blk W b0 25 v.cells
  k1 : Blk W b1 25 o.cells
  k2 : Blk W b2 25 x.cells
  k3 : Blk W b3 25 y.cells
  i0 : ImAt W v es fs
  i1 : ImAt W o eo fo
  i2 : ImAt W x ex fx
  i3 : ImAt W y ey fy
  rb : V.Rd W B b
  rr : V.Rd W RA b
  rp : V.Rd W P xs
  rq : V.Rd W Q xs
theorem IB.keepN {W W' : World} {b0 b1 b2 b3 : Nat} {v o x y : IV} {es eo ex ey : List SE} {fs fo fx fy : List FE} {B RA P Q : Option Addr} {b xs : List UInt8} (h : IB W b0 b1 b2 b3 v o x y es eo ex ey fs fo fx fy B RA P Q b xs) (hk : Keep NoB W W') : IB W' b0 b1 b2 b3 v o x y es eo ex ey fs fo fx fy B RA P Q b xs :=
  ⟨h.k0.keep hk id, h.k1.keep hk id, h.k2.keep hk id, h.k3.keep hk id, h.i0.keepN hk, h.i1.keepN hk, h.i2.keepN hk, h.i3.keepN hk, S.rd_n h.rb hk, S.rd_n h.rr hk, S.rd_n h.rp hk, S.rd_n h.rq hk⟩
end Go.Proofs.YtgifflfjhockaaaGreatDoor.I

namespace Go.Proofs.YtgifflfjhockaaaGreatDoor.I
open Go.RowKit W

set_option maxHeartbeats 800000 in
theorem cloneS_any (w : World) (A : Option Addr) (xs : List Value) (n c : Nat) (hr : Rd w A xs) (hl : xs.length = n * 1) (h1 : ∀ u ∈ xs, u.oneCell' = true) (hb : n ≤ 1000) :
    Calls Tryz.prog 75 #[.slice A n c] w fun e w' => ∃ v, e = .returned v ∧ Own w' 3 1 (Fresh w) v n xs ∧ Keep NoB w w' := by
  obtain ⟨i0, hi, hz0, hz1, hz2⟩ := info_parts int_info
  have qT : ∀ (w : World) (a : Option Addr) (n c n' c' : Nat), (binOp .eql 58 (.slice a n c) (.slice none n' c')).run Tryz.prog w = .ok (.bool a.isNone) w := fun w a n c n' c' => Lib.run_eql_slice_nil w _ _ a n c n' c' Tryz.underlying58
  rcases A with _ | ad
  · have hx : xs = [] := by
      rcases Nat.eq_zero_or_pos xs.length with h0 | h0
      · exact List.length_eq_zero_iff.1 h0
      · obtain ⟨g, off, e, _⟩ := hr h0; cases e
    subst hx
    obtain rfl : n = 0 := by simp at hl; omega
    go_enter Tryz.func75, Tryz.ntmps75
    go_wp2
    go_ret
    exact ⟨_, rfl, Own.nil _ _ _ _, Keep.refl _ _⟩
  · have hm := World.ownsRow_made (e := 3) (size := 1) (base := 0) w #[] 0 (Nat.zero_le _) (Nat.zero_le _) rfl
    have hr' := hr.keepN ((Keep.refl NoB w).alloc (.cells #[] 3))
    have HL := Lib.hid hl
    have HO := Lib.hid h1
    have HR := Lib.hid hr'
    clear hr hr' hl h1
    go_enter Tryz.func75, Tryz.ntmps75
    go_wp2_with (at_builtin; refine wpList_append_rd _ rfl (.tmp 5) (.tmp 6) _ rfl 3 1 8 i0 _ Tryz.underlying58 hi hz0 hz1 hz2 rfl (by decide) (.slice (some ⟨w.heap.size, 0, none⟩) 0 0) 0 [] (some ad) n c xs rfl hm rfl HR.out HL.out HO.out (by unfold maxLen; omega) (by omega) ?_; intro A5 c5 w5 hrow5 hg5 hv5; rw [Nat.zero_add] at hrow5 hv5 ⊢; rw [List.nil_append] at hrow5; obtain ⟨hO5, hK5⟩ := clone_own hrow5 hg5 hv5)
    go_ret
    exact ⟨_, rfl, hO5, hK5⟩

/-- A row's block is of its type. -/
theorem row_not {W : World} {sz k : Nat} {E F : TypeId} {P : Nat → Prop} {v : Value} {xs : List Value} (hrow : Own W E sz P v k xs) (h : F ≠ E) : ∀ j, v.ownBlock = some j → ∀ cs f, W.heap[j]? ≠ some (.cells cs F f) := fun j e cs f h3 => by
  rcases hrow.1.2 with ⟨rfl, _⟩ | ⟨g2, cap, cur, rfl, _, hh, _⟩
  · simp [Value.ownBlock] at e
  · obtain rfl : g2 = j := by simpa [Value.ownBlock] using e
    rw [hh] at h3
    cases h3
    exact h rfl
/-- A row that is owned, with more behind it. -/
theorem row_more {w W W5 : World} {E sz k m : Nat} {v v' : Value} {xs ys : List Value} (hrow : Own W E sz (Fresh w) v k xs) (hk : Keep NoB w W) (hg : W.grownBy W5 v.ownBlock) (hrow5 : W5.ownsRow 0 E sz v' m ys) (hv5 : v'.ownBlock = v.ownBlock ∨ v'.ownBlock = some W.heap.size) :
    Own W5 E sz (Fresh w) v' m ys ∧ Keep NoB w W5 ∧ Keep (fun j => v.ownBlock = some j) W W5 := by
  have hk5 : Keep (fun j => v.ownBlock = some j) W W5 := (Keep.refl _ W).grown hg (fun j e _ => e)
  refine ⟨⟨hrow5, fun j e => ?_⟩, hk.trans hk5 (fun j e hl => ?_), hk5⟩
  · rcases hv5 with h | h
    · exact hrow.2 j (h ▸ e)
    · rw [h] at e; cases e; exact hk.size
  · have := hrow.2 j e
    unfold Fresh at this
    omega

set_option maxRecDepth 100000 in
set_option maxHeartbeats 4000000 in
theorem copiesS_any (A : Option Addr) (es : List SE) (n c : Nat) (w : World) (hr : Hid (∀ W, Keep NoB w W → Rd W A (svs es))) (hn : Hid (es.length = n)) (hm : n ≤ 70)
    (hc : Hid (∀ e ∈ es, ∀ W, Keep NoB w W → ShAt W e.1 e.2 ∧ e.1.n ≤ 100)) :
    Calls Tryz.prog 59 #[.slice A n c, partS] w fun e w' => ∃ A' c' es', e = .returned (.slice A' n c') ∧ Own w' 58 1 (Fresh w) (.slice A' n c') n (svs es') ∧ (∀ e ∈ es', OwnS w' (Fresh w) e) ∧ (es'.map fun e => e.2) = (es.map fun e => e.2) ∧ Keep NoB w w' := by
  obtain ⟨i0, hi, hz0, hz1, hz2⟩ := info_parts shape_info
  have bz := Blk.new w 86 #[.int .i64 0, .int .i64 64, .func (.func 72) #[] #[], .func (.func 73) #[] #[], .func (.func 74) #[] #[], .func (.func 75) #[] #[]]
  have k0 := (Keep.refl NoB w).alloc (.cells #[.int .i64 0, .int .i64 64, .func (.func 72) #[] #[], .func (.func 73) #[] #[], .func (.func 74) #[] #[], .func (.func 75) #[] #[]] 86)
  have HZ := Lib.hid bz
  unfold partS F.fnV
  clear bz
  go_enter Tryz.func59, Tryz.ntmps59
  go_wp2_with fail
  go_loopw [5, 10] (fun v i wr => ∃ k : Nat, k ≤ n ∧ i = .int .i64 k ∧ ∃ A' c' es', v = .slice A' k c' ∧ Hid (Own wr 58 1 (Fresh w) (.slice A' k c') k (svs es') ∧ (∀ e ∈ es', OwnS wr (Fresh w) e) ∧ (es'.map fun e => e.2) = ((es.take k).map fun e => e.2) ∧ Keep NoB w wr ∧ Blk wr w.heap.size 86 #[.int .i64 0, .int .i64 64, .func (.func 72) #[] #[], .func (.func 73) #[] #[], .func (.func 74) #[] #[], .func (.func 75) #[] #[]])) (fun _ i _ => n - (intOf i).toNat)
  case atStart => exact ⟨0, Nat.zero_le _, rfl, none, 0, [], rfl, ⟨Own.nil _ _ _ _, (fun _ h => nomatch h), by simp, k0, HZ.out⟩⟩
  case round =>
    obtain ⟨k, hk, rfl, B, d, es', rfl, HO⟩ := hrel
    clear k0 HZ
    by_cases hlt : k < n
    · have hkl : k < es.length := by rw [hn.out]; exact hlt
      obtain ⟨g, off, rfl, c0⟩ := shape_at (hr.out _ HO.out.2.2.2.1) hkl
      have HX : Hid ((es.take (k + 1)).map (fun e => e.2) = (es.take k).map (fun e => e.2) ++ [es[k].2]) := by
        show _ = _
        rw [List.take_succ_eq_append_getElem hkl, List.map_append]; rfl
      have hel : es'.length = k := by have := congrArg List.length HO.out.2.2.1; simp at this; omega
      have HEC := Lib.hid (fun W (hK : Keep NoB wr W) => hc.out _ (List.getElem_mem hkl) W (keepN HO.out.2.2.2.1 hK))
      generalize es[k] = e at *
      obtain ⟨⟨A1, n1, c1⟩, l1⟩ := e
      dsimp only [SV.val] at *
      have HE := Lib.hid (fun W hK => cloneS_any W A1 (ivs l1) n1 c1 (HEC.out W hK).1.1 (by have := (HEC.out W hK).1.2; dsimp only at this; simp; omega) (one_ivs _) (by have := (HEC.out W hK).2; omega))
      clear HEC
      have z5 := HO.out.2.2.2.2.cell 5
      simp only [List.getElem?_toArray, List.getElem?_cons_zero, List.getElem?_cons_succ] at z5
      go_wp2_with fail
      refine (HE.out _ (Keep.refl _ _)).mono ?_
      rintro e w4 ⟨v4, rfl, h4, k4⟩
      obtain ⟨A9, c9, rfl, _, _, _, _⟩ := h4.form
      have kB := (Keep.refl NoB w4).alloc (.cells #[.slice A9 n1 c9] 58)
      have hbN := Blk.new w4 58 #[.slice A9 n1 c9]
      have k5 := keepN k4 kB
      have HN : Hid (OwnS (w4.alloc (.cells #[.slice A9 n1 c9] 58)) (Fresh w) ((⟨A9, n1, c9⟩, l1) : SE)) := (OwnS.keep (show OwnS w4 (Fresh wr) ((⟨A9, n1, c9⟩, l1) : SE) from h4) kB (fun _ _ => id)).mono (fun i (hi : Fresh wr i) _ => by have := HO.out.2.2.2.1.size; unfold Fresh at hi ⊢; omega)
      have HO5 : Hid (Own (w4.alloc (.cells #[.slice A9 n1 c9] 58)) 58 1 (Fresh w) (.slice B k d) k (svs es') ∧ (∀ e ∈ es', OwnS (w4.alloc (.cells #[.slice A9 n1 c9] 58)) (Fresh w) e) ∧ (es'.map fun e => e.2) = ((es.take k).map fun e => e.2) ∧ Keep NoB w (w4.alloc (.cells #[.slice A9 n1 c9] 58)) ∧ Blk (w4.alloc (.cells #[.slice A9 n1 c9] 58)) w.heap.size 86 #[.int .i64 0, .int .i64 64, .func (.func 72) #[] #[], .func (.func 73) #[] #[], .func (.func 74) #[] #[], .func (.func 75) #[] #[]]) :=
        ⟨HO.out.1.keepN k5, fun e he => OwnS.keep (HO.out.2.1 e he) k5 (fun _ _ => id), HO.out.2.2.1, keepN HO.out.2.2.2.1 k5, HO.out.2.2.2.2.keep k5 id⟩
      have HRB := Lib.hid (rd_blkN hbN)
      clear HO h4 k4 kB k5 hbN HE z5 c0
      have HFIN : Hid (∀ v' W5, W5.ownsRow 0 58 1 v' (k + 1) (svs es' ++ (#[.slice A9 n1 c9] : Array Value).toList) → (w4.alloc (.cells #[.slice A9 n1 c9] 58)).grownBy W5 (Value.slice B k d).ownBlock → (v'.ownBlock = (Value.slice B k d).ownBlock ∨ v'.ownBlock = some (w4.alloc (.cells #[.slice A9 n1 c9] 58)).heap.size) →
          Own W5 58 1 (Fresh w) v' (k + 1) (svs (es' ++ [((⟨A9, n1, c9⟩, l1) : SE)])) ∧ (∀ e ∈ (es' ++ [((⟨A9, n1, c9⟩, l1) : SE)] : List SE), OwnS W5 (Fresh w) e) ∧ ((es' ++ [((⟨A9, n1, c9⟩, l1) : SE)] : List SE).map fun e => e.2) = ((es.take (k + 1)).map fun e => e.2) ∧ Keep NoB w W5 ∧ Blk W5 w.heap.size 86 #[.int .i64 0, .int .i64 64, .func (.func 72) #[] #[], .func (.func 73) #[] #[], .func (.func 74) #[] #[], .func (.func 75) #[] #[]]) := fun v' W5 hrow hg hv => by
        obtain ⟨o1, o2, o3, o4, o5⟩ := HO5.out
        obtain ⟨m1, m2, m3⟩ := row_more o1 o4 hg hrow hv
        refine ⟨by rw [svs_append]; simpa [svs, SV.val] using m1, fun e he => ?_, by rw [List.map_append, o3, HX.out]; rfl, m2, blk_other o5 m3 (row_not o1 (by decide))⟩
        rcases List.mem_append.1 he with he | he
        · exact own_other (o2 e he) m3 (row_not o1 (by decide))
        · rw [List.mem_singleton.1 he]; exact own_other HN.out m3 (row_not o1 (by decide))
      go_wp2_with (at_builtin; refine wpList_append_rd _ rfl (.tmp 14) (.tmp 19) _ rfl 58 1 24 i0 _ Tryz.underlying22 hi hz0 hz1 hz2 rfl (by decide) (.slice B k d) k (svs es') (some ⟨w4.heap.size, 0, none⟩) 1 1 (#[.slice A9 n1 c9] : Array Value).toList rfl HO5.out.1.1 rfl HRB.out rfl (by simp [Value.oneCell']) (by unfold maxLen; omega) (by omega) ?_; intro B5 d5 W5 hrow5 hg5 hv5; have HF := Lib.hid (HFIN.out _ _ hrow5 hg5 hv5))
      go_roundw
      case rel => exact ⟨k + 1, by omega, by go_num, _, _, _, rfl, HF.out⟩
      case measure => simp [intOf]; omega
    · obtain rfl : k = n := by omega
      obtain ⟨o1, o2, o3, o4, o5⟩ := HO.out
      rw [List.take_of_length_le (by rw [hn.out]; exact Nat.le_refl _)] at o3
      have HR := Lib.hid (And.intro o1 (And.intro o2 (And.intro o3 o4)))
      clear HO o1 o2 o3 o4 o5
      go_wp2
      go_ret
      exact ⟨_, _, _, rfl, HR.out.1, HR.out.2.1, HR.out.2.2.1, HR.out.2.2.2⟩

set_option maxRecDepth 100000 in
set_option maxHeartbeats 4000000 in
theorem copiesF_any (A : Option Addr) (es : List FE) (n c : Nat) (w : World) (hr : Hid (∀ W, Keep NoB w W → Rd W A (fvs es))) (hn : Hid (es.length = n)) (hm : n ≤ 70)
    (hc : Hid (∀ e ∈ es, ∀ W, Keep NoB w W → F.FnAt W e.1 e.2 ∧ F.SmF e.1)) :
    Calls Tryz.prog 60 #[.slice A n c, partF] w fun e w' => ∃ A' c' es', e = .returned (.slice A' n c') ∧ Own w' 61 5 (Fresh w) (.slice A' n c') n (fvs es') ∧ (∀ e ∈ es', OwnF w' (Fresh w) e) ∧ (es'.map fun e => e.2) = (es.map fun e => e.2) ∧ Keep NoB w w' := by
  obtain ⟨i0, hi, hz0, hz1, hz2⟩ := info_parts fun_info
  have bz := Blk.new w 93 #[.int .i64 1, .int .i64 64, .func (.func 76) #[] #[], .func (.func 77) #[] #[], .func (.func 78) #[] #[], .func (.func 79) #[] #[]]
  have k0 := (Keep.refl NoB w).alloc (.cells #[.int .i64 1, .int .i64 64, .func (.func 76) #[] #[], .func (.func 77) #[] #[], .func (.func 78) #[] #[], .func (.func 79) #[] #[]] 93)
  have HZ := Lib.hid bz
  unfold partF F.fnV
  clear bz
  go_enter Tryz.func60, Tryz.ntmps60
  go_wp2_with fail
  go_loopw [5, 10] (fun v i wr => ∃ k : Nat, k ≤ n ∧ i = .int .i64 k ∧ ∃ A' c' es', v = .slice A' k c' ∧ Hid (Own wr 61 5 (Fresh w) (.slice A' k c') k (fvs es') ∧ (∀ e ∈ es', OwnF wr (Fresh w) e) ∧ (es'.map fun e => e.2) = ((es.take k).map fun e => e.2) ∧ Keep NoB w wr ∧ Blk wr w.heap.size 93 #[.int .i64 1, .int .i64 64, .func (.func 76) #[] #[], .func (.func 77) #[] #[], .func (.func 78) #[] #[], .func (.func 79) #[] #[]])) (fun _ i _ => n - (intOf i).toNat)
  case atStart => exact ⟨0, Nat.zero_le _, rfl, none, 0, [], rfl, ⟨Own.nil _ _ _ _, (fun _ h => nomatch h), by simp, k0, HZ.out⟩⟩
  case round =>
    obtain ⟨k, hk, rfl, B, d, es', rfl, HO⟩ := hrel
    clear k0 HZ
    by_cases hlt : k < n
    · have hkl : k < es.length := by rw [hn.out]; exact hlt
      obtain ⟨g, off, rfl, d0, d1, d2, d3, d4⟩ := fun_at (hr.out _ HO.out.2.2.2.1) hkl
      have HX : Hid ((es.take (k + 1)).map (fun e => e.2) = (es.take k).map (fun e => e.2) ++ [es[k].2]) := by
        show _ = _
        rw [List.take_succ_eq_append_getElem hkl, List.map_append]; rfl
      have hel : es'.length = k := by have := congrArg List.length HO.out.2.2.1; simp at this; omega
      have HEC := Lib.hid (fun W (hK : Keep NoB wr W) => hc.out _ (List.getElem_mem hkl) W (keepN HO.out.2.2.2.1 hK))
      generalize es[k] = e at *
      obtain ⟨⟨S1, A1, na1, ca1, B1, nb1, cb1, L1, nl1, cl1, D1, nd1, cd1⟩, f1⟩ := e
      dsimp only [F.FV.val, F.FV.cells] at *
      have kA := (Keep.refl NoB wr).alloc (.cells #[.string S1, .slice A1 na1 ca1, .slice B1 nb1 cb1, .slice L1 nl1 cl1, .slice D1 nd1 cd1] 61)
      have HE := Lib.hid (F.copyF_any ⟨S1, A1, na1, ca1, B1, nb1, cb1, L1, nl1, cl1, D1, nd1, cd1⟩ f1 _ (HEC.out _ kA).1 (HEC.out _ kA).2)
      clear HEC
      have z5 := (HO.out.2.2.2.2.keep kA id).cell 5
      obtain ⟨y0, y1, y2, y3, y4⟩ := F.blk5 (v := ⟨S1, A1, na1, ca1, B1, nb1, cb1, L1, nl1, cl1, D1, nd1, cd1⟩) (Blk.new wr 61 _)
      dsimp only [F.FV.cells] at y0 y1 y2 y3 y4
      simp only [List.getElem?_toArray, List.getElem?_cons_zero, List.getElem?_cons_succ] at z5
      go_wp2_with fail
      refine HE.out.mono ?_
      rintro e w4 ⟨q, rfl, h4, k4⟩
      replace k4 := keepN kA k4
      replace h4 : F.OwnF w4 (Fresh wr) q f1 := h4.mono (fun i (hi : Fresh _ i) _ => by unfold Fresh at hi ⊢; have := kA.size; omega)
      clear kA d0 d1 d2 d3 d4 y0 y1 y2 y3 y4
      obtain ⟨S9, A9, na9, ca9, B9, nb9, cb9, L9, nl9, cl9, D9, nd9, cd9⟩ := q
      dsimp only [F.FV.val, F.FV.cells] at *
      have kB := (Keep.refl NoB w4).alloc (.cells #[.string S9, .slice A9 na9 ca9, .slice B9 nb9 cb9, .slice L9 nl9 cl9, .slice D9 nd9 cd9] 61)
      have hbN := Blk.new w4 61 #[.string S9, .slice A9 na9 ca9, .slice B9 nb9 cb9, .slice L9 nl9 cl9, .slice D9 nd9 cd9]
      have k5 := keepN k4 kB
      have HN : Hid (OwnF (w4.alloc (.cells #[.string S9, .slice A9 na9 ca9, .slice B9 nb9 cb9, .slice L9 nl9 cl9, .slice D9 nd9 cd9] 61)) (Fresh w) ((⟨S9, A9, na9, ca9, B9, nb9, cb9, L9, nl9, cl9, D9, nd9, cd9⟩, f1) : FE)) := (OwnF.keep (show OwnF w4 (Fresh wr) ((⟨S9, A9, na9, ca9, B9, nb9, cb9, L9, nl9, cl9, D9, nd9, cd9⟩, f1) : FE) from h4) kB (fun _ _ => id)).mono (fun i (hi : Fresh wr i) _ => by have := HO.out.2.2.2.1.size; unfold Fresh at hi ⊢; omega)
      have HO5 : Hid (Own (w4.alloc (.cells #[.string S9, .slice A9 na9 ca9, .slice B9 nb9 cb9, .slice L9 nl9 cl9, .slice D9 nd9 cd9] 61)) 61 5 (Fresh w) (.slice B k d) k (fvs es') ∧ (∀ e ∈ es', OwnF (w4.alloc (.cells #[.string S9, .slice A9 na9 ca9, .slice B9 nb9 cb9, .slice L9 nl9 cl9, .slice D9 nd9 cd9] 61)) (Fresh w) e) ∧ (es'.map fun e => e.2) = ((es.take k).map fun e => e.2) ∧ Keep NoB w (w4.alloc (.cells #[.string S9, .slice A9 na9 ca9, .slice B9 nb9 cb9, .slice L9 nl9 cl9, .slice D9 nd9 cd9] 61)) ∧ Blk (w4.alloc (.cells #[.string S9, .slice A9 na9 ca9, .slice B9 nb9 cb9, .slice L9 nl9 cl9, .slice D9 nd9 cd9] 61)) w.heap.size 93 #[.int .i64 1, .int .i64 64, .func (.func 76) #[] #[], .func (.func 77) #[] #[], .func (.func 78) #[] #[], .func (.func 79) #[] #[]]) :=
        ⟨HO.out.1.keepN k5, fun e he => OwnF.keep (HO.out.2.1 e he) k5 (fun _ _ => id), HO.out.2.2.1, keepN HO.out.2.2.2.1 k5, HO.out.2.2.2.2.keep k5 id⟩
      have HRB := Lib.hid (rd_blkN hbN)
      clear HO h4 k4 kB k5 hbN HE z5 
      have HFIN : Hid (∀ v' W5, W5.ownsRow 0 61 5 v' (k + 1) (fvs es' ++ (#[.string S9, .slice A9 na9 ca9, .slice B9 nb9 cb9, .slice L9 nl9 cl9, .slice D9 nd9 cd9] : Array Value).toList) → (w4.alloc (.cells #[.string S9, .slice A9 na9 ca9, .slice B9 nb9 cb9, .slice L9 nl9 cl9, .slice D9 nd9 cd9] 61)).grownBy W5 (Value.slice B k d).ownBlock → (v'.ownBlock = (Value.slice B k d).ownBlock ∨ v'.ownBlock = some (w4.alloc (.cells #[.string S9, .slice A9 na9 ca9, .slice B9 nb9 cb9, .slice L9 nl9 cl9, .slice D9 nd9 cd9] 61)).heap.size) →
          Own W5 61 5 (Fresh w) v' (k + 1) (fvs (es' ++ [((⟨S9, A9, na9, ca9, B9, nb9, cb9, L9, nl9, cl9, D9, nd9, cd9⟩, f1) : FE)])) ∧ (∀ e ∈ (es' ++ [((⟨S9, A9, na9, ca9, B9, nb9, cb9, L9, nl9, cl9, D9, nd9, cd9⟩, f1) : FE)] : List FE), OwnF W5 (Fresh w) e) ∧ ((es' ++ [((⟨S9, A9, na9, ca9, B9, nb9, cb9, L9, nl9, cl9, D9, nd9, cd9⟩, f1) : FE)] : List FE).map fun e => e.2) = ((es.take (k + 1)).map fun e => e.2) ∧ Keep NoB w W5 ∧ Blk W5 w.heap.size 93 #[.int .i64 1, .int .i64 64, .func (.func 76) #[] #[], .func (.func 77) #[] #[], .func (.func 78) #[] #[], .func (.func 79) #[] #[]]) := fun v' W5 hrow hg hv => by
        obtain ⟨o1, o2, o3, o4, o5⟩ := HO5.out
        obtain ⟨m1, m2, m3⟩ := row_more o1 o4 hg hrow hv
        refine ⟨by rw [fvs_append]; simpa [fvs, F.FV.cells] using m1, fun e he => ?_, by rw [List.map_append, o3, HX.out]; rfl, m2, blk_other o5 m3 (row_not o1 (by decide))⟩
        rcases List.mem_append.1 he with he | he
        · exact ownF_other (o2 e he) m3 (row_not o1 (by decide)) (row_not o1 (by decide))
        · rw [List.mem_singleton.1 he]; exact ownF_other HN.out m3 (row_not o1 (by decide)) (row_not o1 (by decide))
      go_wp2_with (at_builtin; refine wpList_append_rd _ rfl (.tmp 14) (.tmp 19) _ rfl 61 5 112 i0 _ Tryz.underlying23 hi hz0 hz1 hz2 rfl (by decide) (.slice B k d) k (fvs es') (some ⟨w4.heap.size, 0, none⟩) 1 1 (#[.string S9, .slice A9 na9 ca9, .slice B9 nb9 cb9, .slice L9 nl9 cl9, .slice D9 nd9 cd9] : Array Value).toList rfl HO5.out.1.1 rfl HRB.out rfl (by simp [Value.oneCell']) (by unfold maxLen; omega) (by omega) ?_; intro B5 d5 W5 hrow5 hg5 hv5; have HF := Lib.hid (HFIN.out _ _ hrow5 hg5 hv5))
      go_roundw
      case rel => exact ⟨k + 1, by omega, by go_num, _, _, _, rfl, HF.out⟩
      case measure => simp [intOf]; omega
    · obtain rfl : k = n := by omega
      obtain ⟨o1, o2, o3, o4, o5⟩ := HO.out
      rw [List.take_of_length_le (by rw [hn.out]; exact Nat.le_refl _)] at o3
      have HR := Lib.hid (And.intro o1 (And.intro o2 (And.intro o3 o4)))
      clear HO o1 o2 o3 o4 o5
      go_wp2
      go_ret
      exact ⟨_, _, _, rfl, HR.out.1, HR.out.2.1, HR.out.2.2.1, HR.out.2.2.2⟩


/-- What the values are that Copy's region yields. -/
def SCi (b m : Nat) (v : IV) (es : List SE) (fs : List FE) : Nat → Value → World → Prop
  | 0 => fun u _ => u = .pointer (some ⟨b, 0, none⟩)
  | 1 => fun u _ => u = .slice v.X v.nx v.cx
  | 2 => fun u _ => u = partS
  | 3 => fun u W => ∃ A c, ∃ es' : List SE, u = .slice A v.nx c ∧ Own W 58 1 (fun j => m ≤ j) (.slice A v.nx c) v.nx (svs es') ∧ (∀ e ∈ es', OwnS W (fun j => m ≤ j) e) ∧ (es'.map fun e => e.2) = (es.map fun e => e.2)
  | 4 => fun u _ => u = .pointer (some ⟨b, 1, none⟩)
  | 5 => fun u _ => u = .slice v.Y v.ny v.cy
  | 6 => fun u _ => u = partF
  | 7 => fun u W => ∃ A c, ∃ fs' : List FE, u = .slice A v.ny c ∧ Own W 61 5 (fun j => m ≤ j) (.slice A v.ny c) v.ny (fvs fs') ∧ (∀ e ∈ fs', OwnF W (fun j => m ≤ j) e) ∧ (fs'.map fun e => e.2) = (fs.map fun e => e.2)
  | _ => fun _ _ => True
theorem SCi_stable (b m : Nat) (v : IV) (es : List SE) (fs : List FE) : ∀ i u W W', SCi b m v es fs i u W → Keep NoB W W' → SCi b m v es fs i u W'
  | 0, _, _, _, h, _ | 1, _, _, _, h, _ | 2, _, _, _, h, _ | 4, _, _, _, h, _ | 5, _, _, _, h, _ | 6, _, _, _, h, _ => h
  | 3, _, _, _, ⟨A, c, es', e, h1, h2, h3⟩, hk => ⟨A, c, es', e, h1.keepN hk, fun e he => OwnS.keep (h2 e he) hk (fun _ _ => id), h3⟩
  | 7, _, _, _, ⟨A, c, fs', e, h1, h2, h3⟩, hk => ⟨A, c, fs', e, h1.keepN hk, fun e he => OwnF.keep (h2 e he) hk (fun _ _ => id), h3⟩
  | _ + 8, _, _, _, h, _ => h

set_option maxRecDepth 100000 in
set_option maxHeartbeats 4000000 in
theorem copyI_any (v : IV) (es : List SE) (fs : List FE) (w : World) (h : ImAt w v es fs) (hs : SmI es fs) :
    Calls Tryz.prog 25 #[v.val] w (CpI w (imOf es fs)) := by
  have bx := (Blk.new w 25 v.cells).alloc (.cells #[.slice none 0 0, .slice none 0 0] 25)
  have bz := Blk.new (w.alloc (.cells v.cells 25)) 25 #[.slice none 0 0, .slice none 0 0]
  have gK := ((Keep.refl NoB w).alloc (.cells v.cells 25)).alloc (.cells #[.slice none 0 0, .slice none 0 0] 25)
  simp only [World.size_alloc] at bz
  have HIM := Lib.hid (fun W hk => (h.keepN hk : ImAt W v es fs))
  have hlx := h.lx
  have hly := h.ly
  have hnx := hs.ns
  have hny := hs.nf
  rw [hlx] at hnx
  rw [hly] at hny
  have HSM := Lib.hid hs
  have hmz : ((w.alloc (.cells v.cells 25)).alloc (.cells #[.slice none 0 0, .slice none 0 0] 25)).heap.size = w.heap.size + 1 + 1 := by simp
  clear h hs
  obtain ⟨X, nx, cx, Y, ny, cy⟩ := v
  dsimp only [IV.val, IV.cells] at *
  obtain ⟨p0, p1⟩ := blk2 (v := ⟨X, nx, cx, Y, ny, cy⟩) bx
  dsimp only at p0 p1
  have HBZ := Lib.hid bz
  have HLX : Hid (es.length = nx) := hlx
  have HLY : Hid (fs.length = ny) := hly
  generalize hwb : (w.alloc (.cells #[.slice X nx cx, .slice Y ny cy] 25)).alloc (.cells #[.slice none 0 0, .slice none 0 0] 25) = wb at *
  have HCS := Lib.hid (fun W (hk : Keep NoB wb W) => copiesS_any X es nx cx W (fun W' hk' => (HIM.out W' (keepN gK (keepN hk hk'))).rx) HLX.out hnx (fun e he W' hk' => ⟨(HIM.out W' (keepN gK (keepN hk hk'))).hs e he, HSM.out.sh e he⟩))
  have HCF := Lib.hid (fun W (hk : Keep NoB wb W) => copiesF_any Y fs ny cy W (fun W' hk' => (HIM.out W' (keepN gK (keepN hk hk'))).ry) HLY.out hny (fun e he W' hk' => ⟨(HIM.out W' (keepN gK (keepN hk hk'))).hf e he, HSM.out.fn e he⟩))
  have HGK := Lib.hid gK
  clear bx bz gK hlx hly
  go_enter Tryz.func25, Tryz.ntmps25
  go_wp2_with fail
  clear hwb
  refine wp_region_tail (fun i => [3, 4, 5, 6, 7, 8, 9, 10].getD i 0) 8 (by kernel_rfl) (by kernel_rfl) (by kernel_rfl) (by kernel_rfl) (by kernel_rfl) (SCi w.heap.size (w.heap.size + 1 + 1) ⟨X, nx, cx, Y, ny, cy⟩ es fs) (fun i u x y h hk => SCi_stable _ _ _ _ _ i u x y h hk) rfl ?step ?fin
  case step =>
    intro i o a w' hoo hi hF hK hA
    by_cases h0 : i = 0
    · subst h0
      simp only [List.getElem?_toArray, List.getElem?_cons_zero, Option.some.injEq] at hoo
      subst hoo
      have e1 : a.tmps.getD 1 undef = .pointer (some ⟨w.heap.size, 0, none⟩) := hF.2.2 1 (by decide)
      refine Does.plain rfl ?_
      unfold yieldsK
      go_simp
      exact ⟨rfl, Keep.refl _ _⟩
    by_cases h1 : i = 1
    · subst h1
      simp only [List.getElem?_toArray, List.getElem?_cons_zero, List.getElem?_cons_succ, Option.some.injEq] at hoo
      subst hoo
      have e3 : a.tmps.getD 3 undef = .pointer (some ⟨w.heap.size, 0, none⟩) := hA ⟨0, .data⟩ (by simp) rfl
      have q0 := Keep.cell hK p0 id
      refine Does.plain rfl ?_
      unfold yieldsK
      go_simp
      exact ⟨rfl, Keep.refl _ _⟩
    by_cases h2 : i = 2
    · subst h2
      simp only [List.getElem?_toArray, List.getElem?_cons_zero, List.getElem?_cons_succ, Option.some.injEq] at hoo
      subst hoo
      refine Does.plain rfl ?_
      unfold yieldsK
      go_simp
      refine (partsS_any w').mono ?_
      rintro e w9 ⟨rfl, hk9⟩
      exact ⟨_, rfl, rfl, hk9⟩
    by_cases h3 : i = 3
    · subst h3
      simp only [List.getElem?_toArray, List.getElem?_cons_zero, List.getElem?_cons_succ, Option.some.injEq] at hoo
      subst hoo
      have e4 : a.tmps.getD 4 undef = .slice X nx cx := hA ⟨1, .data⟩ (by simp) rfl
      have e5 : a.tmps.getD 5 undef = partS := hA ⟨2, .data⟩ (by simp) rfl
      refine Does.plain rfl ?_
      unfold yieldsK
      go_simp
      refine (HCS.out w' hK).mono ?_
      rintro e w9 ⟨A9, c9, es9, rfl, h9, h9s, h9m, hk9⟩
      exact ⟨_, rfl, ⟨A9, c9, es9, rfl, h9.mono (fun i (hi : Fresh w' i) _ => by have := hK.size; unfold Fresh at hi; omega), fun e he => (h9s e he).mono (fun i (hi : Fresh w' i) _ => by have := hK.size; unfold Fresh at hi; omega), h9m⟩, hk9⟩
    by_cases h4 : i = 4
    · subst h4
      simp only [List.getElem?_toArray, List.getElem?_cons_zero, List.getElem?_cons_succ, Option.some.injEq] at hoo
      subst hoo
      have e1 : a.tmps.getD 1 undef = .pointer (some ⟨w.heap.size, 0, none⟩) := hF.2.2 1 (by decide)
      refine Does.plain rfl ?_
      unfold yieldsK
      go_simp
      exact ⟨rfl, Keep.refl _ _⟩
    by_cases h5 : i = 5
    · subst h5
      simp only [List.getElem?_toArray, List.getElem?_cons_zero, List.getElem?_cons_succ, Option.some.injEq] at hoo
      subst hoo
      have e7 : a.tmps.getD 7 undef = .pointer (some ⟨w.heap.size, 1, none⟩) := hA ⟨4, .data⟩ (by simp) rfl
      have q0 := Keep.cell hK p1 id
      refine Does.plain rfl ?_
      unfold yieldsK
      go_simp
      exact ⟨rfl, Keep.refl _ _⟩
    by_cases h6 : i = 6
    · subst h6
      simp only [List.getElem?_toArray, List.getElem?_cons_zero, List.getElem?_cons_succ, Option.some.injEq] at hoo
      subst hoo
      refine Does.plain rfl ?_
      unfold yieldsK
      go_simp
      refine (partsF_any w').mono ?_
      rintro e w9 ⟨rfl, hk9⟩
      exact ⟨_, rfl, rfl, hk9⟩
    by_cases h7 : i = 7
    · subst h7
      simp only [List.getElem?_toArray, List.getElem?_cons_zero, List.getElem?_cons_succ, Option.some.injEq] at hoo
      subst hoo
      have e8 : a.tmps.getD 8 undef = .slice Y ny cy := hA ⟨5, .data⟩ (by simp) rfl
      have e9 : a.tmps.getD 9 undef = partF := hA ⟨6, .data⟩ (by simp) rfl
      refine Does.plain rfl ?_
      unfold yieldsK
      go_simp
      refine (HCF.out w' hK).mono ?_
      rintro e w9 ⟨A9, c9, es9, rfl, h9, h9s, h9m, hk9⟩
      exact ⟨_, rfl, ⟨A9, c9, es9, rfl, h9.mono (fun i (hi : Fresh w' i) _ => by have := hK.size; unfold Fresh at hi; omega), fun e he => OwnF.mono (h9s e he) (fun i (hi : Fresh w' i) _ => by have := hK.size; unfold Fresh at hi; omega), h9m⟩, hk9⟩
    omega
  case fin =>
    intro a w' hF gK hA
    obtain ⟨A6, c6, es6, e6, o6, s6, m6⟩ := hA 3 (by decide)
    have e6 : a.tmps.getD 6 undef = .slice A6 nx c6 := e6
    obtain ⟨A7, c7, fs7, e10, o7, s7, m7⟩ := hA 7 (by decide)
    have e10 : a.tmps.getD 10 undef = .slice A7 ny c7 := e10
    have ha := frameD_list (l := [3, 4, 5, 6, 7, 8, 9, 10]) rfl hF
    rw [ha]
    simp only [List.map_cons, List.map_nil, e6, e10]
    generalize a.tmps.getD 3 undef = u0
    generalize a.tmps.getD 4 undef = u1
    generalize a.tmps.getD 5 undef = u2
    generalize a.tmps.getD 7 undef = u4
    generalize a.tmps.getD 8 undef = u5
    generalize a.tmps.getD 9 undef = u6
    simp only [fillD, List.setIfInBounds_toArray, List.set_cons_zero, List.set_cons_succ]
    have bz2 := HBZ.out.keep gK id
    have HP := Lib.hid (put2_img bz2 (.slice A6 nx c6) (.slice A7 ny c7))
    have kq := keep2_img w' (w.heap.size + 1) (.slice A6 nx c6) (.slice A7 ny c7)
    have f3 := fun i => bz2.frozen i
    have q0 := bz2.cell 0
    have q1 := bz2.cell 1
    simp only [List.getElem?_toArray, List.getElem?_cons_zero, List.getElem?_cons_succ] at q0 q1
    have hlt2 := bz2.lt
    have HK : Hid (Keep NoB w ((w'.setCell ⟨w.heap.size + 1, 0, none⟩ (.slice A6 nx c6)).setCell ⟨w.heap.size + 1, 1, none⟩ (.slice A7 ny c7))) := (keepN HGK.out gK).trans kq (fun k e hl => by omega)
    have HO : Hid (OwnIm ((w'.setCell ⟨w.heap.size + 1, 0, none⟩ (.slice A6 nx c6)).setCell ⟨w.heap.size + 1, 1, none⟩ (.slice A7 ny c7)) (Fresh w) ⟨A6, nx, c6, A7, ny, c7⟩ es6 fs7) :=
      ((⟨o6, o7, s6, s7⟩ : OwnIm w' (fun j => w.heap.size + 1 + 1 ≤ j) ⟨A6, nx, c6, A7, ny, c7⟩ es6 fs7).keep kq (fun i hi e => by omega)).mono (fun i hi _ => by unfold Fresh; omega)
    have HM : Hid (imOf es6 fs7 = imOf es fs) := by
      show _ = _
      unfold imOf
      rw [m6, m7]
    clear bz2 kq hA hF ha o6 o7 s6 s7 m6 m7 HCS HCF HIM HSM HBZ p0 p1 e6 e10
    simp only [List.drop_succ_cons, List.drop_zero]
    go_wp2
    refine bodyPost_ret (ret_img (v := ⟨A6, nx, c6, A7, ny, c7⟩) rfl rfl HP.out) rfl ?_
    exact ⟨⟨A6, nx, c6, A7, ny, c7⟩, es6, fs7, rfl, HO.out, HM.out, HK.out⟩
end Go.Proofs.YtgifflfjhockaaaGreatDoor.I
