/-
  Are two images the same: the program's Same, by EqualFunc over shapes and over functions, and the document's. Conditions: the images' lists lie in memory, and are no greater than statements go through.
  What the document's Named answers. Conditions: the name's length fits an int64.
  The document's Types and Check of layer function. Conditions: the function's lists lie in memory, and are no longer than statements go through.
  The document's Check of images. Conditions: the image's lists lie in memory, and are no greater than statements go through.
  The sum of bytes: the program's, over any number of parts, and the document's; a sum's four bytes. Conditions: the parts lie in memory; no more than 2^31 bytes.
  bytes.Equal, bytes.HasPrefix, bytes.CutPrefix: what they answer of bytes in memory. No conditions but that the bytes lie in memory.
  What write puts on a Tape: an operand's bytes. Conditions: the number is one of the kind; no more than 2^47 bytes in all.
  What Encode answers. Condition: numbers fit an int64.
  Show and Encode of any instruction; the law's own bytes, of, alive. Conditions: the listed package-level variables hold what their initialisers lay; numbers fit an int64.
  What the document's Encode answers. Conditions: the operands fit an int64.
  What Encode of layer code answers, the program's and the document's: a body's bytes. Conditions: the list lies in memory; numbers fit an int64.
  What the document's Bytes and Encode of layer code answer. Conditions: the list lies in memory; numbers fit an int64.
  The document's bytes of a function: Bytes and Encode. Conditions: the function's lists lie in memory, and are no longer than statements go through.
  What the closures of writes do: a part's bytes behind others; a name's bytes. Conditions: what encodes answers by its contract.
  A name's bytes: what encodeName answers. Conditions: the name is no longer than statements go through.
-/
import Derived.Laws.BitsAllLaws
import Derived.Test.YtgifflfjhockaaaGreatDoorQ9
import Derived.Test.YtgifflfjhockaaaGreatDoorQ11
import Derived.Test.YtgifflfjhockaaaGreatDoorQ5
import Derived.Test.YtgifflfjhockaaaGreatDoorQ3
import Derived.Test.YtgifflfjhockaaaGreatDoorQ7
import Derived.Test.YtgifflfjhockaaaGreatDoorQ8
import Derived.Test.YtgifflfjhockaaaGreatDoorQ2
import Derived.Test.YtgifflfjhockaaaGreatDoorQ4
import Derived.Test.YtgifflfjhockaaaGreatDoorQ6
namespace Go.Proofs.YtgifflfjhockaaaGreatDoor.I
open Go.RowKit W

theorem map_take_step {α β : Type} {f : α → β} {pa pb : List α} {j : Nat} (h : (pa.map f).take j = (pb.map f).take j) (ha : j < pa.length) (hb : j < pb.length) (he : f pa[j] = f pb[j]) : (pa.map f).take (j + 1) = (pb.map f).take (j + 1) := by
  rw [List.take_succ_eq_append_getElem (by simpa using ha), List.take_succ_eq_append_getElem (by simpa using hb), h]; simp [he]
theorem map_ne {α β : Type} {f : α → β} {pa pb : List α} {j : Nat} (ha : j < pa.length) (hb : j < pb.length) (he : f pa[j] ≠ f pb[j]) : pa.map f ≠ pb.map f := by
  intro h
  have : (pa.map f)[j]? = (pb.map f)[j]? := by rw [h]
  rw [List.getElem?_map, List.getElem?_map, List.getElem?_eq_getElem ha, List.getElem?_eq_getElem hb] at this
  exact he (Option.some.inj this)
theorem map_all {α β : Type} {f : α → β} {pa pb : List α} {j : Nat} (h : (pa.map f).take j = (pb.map f).take j) (ha : pa.length = j) (hb : pb.length = j) : pa.map f = pb.map f := by
  rwa [List.take_of_length_le (by simp [ha]), List.take_of_length_le (by simp [hb])] at h

set_option maxRecDepth 100000 in
set_option maxHeartbeats 2000000 in
theorem equalSh_any (A B : Option Addr) (la lb : List Int) (n m c d : Nat) (w : World) (ha : Rd w A (ivs la)) (hb : Rd w B (ivs lb)) (hn : Hid (la.length = n)) (hm : Hid (lb.length = m))
    (h1 : n ≤ 9223372036854775807) (h2 : m ≤ 9223372036854775807) (R : Bool) (hR : Hid (R = decide (la = lb))) :
    Calls Tryz.prog 64 #[.slice A n c, .slice B m d] w fun e w' => e = .returned (.bool R) ∧ Keep NoB w w' := by
  by_cases hnm : n = m
  · subst hnm
    go_enter Tryz.func64, Tryz.ntmps64
    go_wp2
    go_loopw [13] (fun i wr => ∃ k : Nat, k ≤ n ∧ i = .int .i64 k ∧ Hid (la.take k = lb.take k) ∧ Keep NoB w wr) (fun i _ => n - (intOf i).toNat)
    case atStart => exact ⟨0, Nat.zero_le _, rfl, rfl, Keep.refl _ _⟩
    case round =>
      obtain ⟨k, hk, rfl, ht, hK⟩ := hrel
      by_cases hlt : k < n
      · have hka : k < la.length := by rw [hn.out]; exact hlt
        have hkb : k < lb.length := by rw [hm.out]; exact hlt
        obtain ⟨ga, oa, rfl, hca⟩ := rdI_at ha (by omega)
        obtain ⟨gb, ob, rfl, hcb⟩ := rdI_at hb (by omega)
        have ca := hK.cell (hca k hka) id
        have cb := hK.cell (hcb k hkb) id
        have HT := Lib.hid (show la.take (k + 1) = la.take k ++ [la[k]] from List.take_succ_eq_append_getElem hka)
        have HU := Lib.hid (show lb.take (k + 1) = lb.take k ++ [lb[k]] from List.take_succ_eq_append_getElem hkb)
        clear hca hcb
        by_cases he : la[k] = lb[k]
        · have HV : Hid (la.take (k + 1) = lb.take (k + 1)) := by show _ = _; rw [HT.out, HU.out, ht.out, he]
          rw [he] at ca
          clear he HT HU ha hb
          generalize lb[k] = y at ca cb
          go_wp2
          go_quiet (fail)
          go_wp2
          go_roundw
          case rel => exact ⟨k + 1, by omega, by go_num, HV, hK.drewN _⟩
          case measure => simp [intOf]; omega
        · have hf : R = false := by
            rw [hR.out, decide_eq_false_iff_not]
            intro e
            exact he (by simp [e])
          subst hf
          clear HT HU ha hb
          generalize la[k] = x at ca he
          generalize lb[k] = y at cb he
          have hne : (x != y) = true := by rw [bne_iff_ne]; exact he
          clear he
          go_wp2
          go_quiet (fail)
          go_wp2
          go_ret
          exact ⟨rfl, hK.drewN _⟩
      · have hf : R = true := by
          rw [hR.out, decide_eq_true_iff]
          have e1 := ht.out
          rwa [List.take_of_length_le (by rw [hn.out]; omega), List.take_of_length_le (by rw [hm.out]; omega)] at e1
        subst hf
        go_wp2
        go_ret
        exact ⟨rfl, hK⟩
  · have hf : R = false := by
      rw [hR.out, decide_eq_false_iff_not]
      intro e
      exact hnm (by rw [← hn.out, ← hm.out, e])
    subst hf
    have hne : ((n : Int) != (m : Int)) = true := by rw [bne_iff_ne]; omega
    clear hnm
    go_enter Tryz.func64, Tryz.ntmps64
    go_wp2
    go_ret
    exact ⟨rfl, Keep.refl _ _⟩

set_option maxRecDepth 100000 in
set_option maxHeartbeats 4000000 in
theorem eqfnS_any (A B : Option Addr) (pa pb : List SE) (n m c d k : Nat) (w : World) (hcf : ∀ args w, (callFunc k args).run Tryz.prog w = .ok (.enter k args) w) (hra : Hid (∀ W, Keep NoB w W → Rd W A (svs pa))) (hrb : Hid (∀ W, Keep NoB w W → Rd W B (svs pb)))
    (hn : Hid (pa.length = n)) (hm : Hid (pb.length = m)) (hn1 : n ≤ 140737488355328) (hm1 : m ≤ 140737488355328)
    (hq : Hid (∀ i (h : i < pa.length) (h' : i < pb.length) W, Keep NoB w W → Calls Tryz.prog k #[pa[i].1.val, pb[i].1.val] W fun e W' => e = .returned (.bool (decide (pa[i].2 = pb[i].2))) ∧ Keep NoB W W')) (R : Bool) (hR : Hid (R = decide ((pa.map fun e => e.2) = pb.map fun e => e.2))) :
    Calls Tryz.prog 63 #[.slice A n c, .slice B m d, .func (.func k) #[] #[]] w fun e w' => e = .returned (.bool R) ∧ Keep NoB w w' := by
  by_cases hnm : n = m
  · subst hnm
    go_enter Tryz.func63, Tryz.ntmps63
    go_wp2
    go_loopw [17] (fun i wr => ∃ j : Nat, j ≤ n ∧ i = .int .i64 j ∧ Hid ((pa.map fun e => e.2).take j = (pb.map fun e => e.2).take j) ∧ Keep NoB w wr) (fun i _ => n - (intOf i).toNat)
    case atStart => exact ⟨0, Nat.zero_le _, rfl, rfl, Keep.refl _ _⟩
    case round =>
      obtain ⟨j, hj, rfl, ht, hK⟩ := hrel
      by_cases hlt : j < n
      · have hja : j < pa.length := by rw [hn.out]; exact hlt
        have hjb : j < pb.length := by rw [hm.out]; exact hlt
        obtain ⟨ga, oa, rfl, c0⟩ := shape_at (hra.out _ hK) hja
        obtain ⟨gb, ob, rfl, d0⟩ := shape_at (hrb.out _ hK) hjb
        have HQ := Lib.hid (fun W hk => hq.out j hja hjb W (keepN hK hk))
        have HY := Lib.hid (fun he => map_take_step ht.out hja hjb he)
        have HN := Lib.hid (fun he => map_ne (f := fun e : SE => e.2) hja hjb he)
        clear ht
        generalize pa[j] = ea at c0 HQ HY HN
        generalize pb[j] = eb at d0 HQ HY HN
        obtain ⟨⟨A1, n1, e1⟩, l1⟩ := ea
        obtain ⟨⟨A2, n2, e2⟩, l2⟩ := eb
        dsimp only [SV.val] at c0 d0 HQ HY HN
        by_cases he : l1 = l2
        · have HV := Lib.hid (HY.out he)
          rw [decide_eq_true he] at HQ
          clear HY HN he
          go_wp2_with fail
          refine (HQ.out _ (Keep.refl _ _)).mono ?_
          rintro e w1 ⟨rfl, k1⟩
          have hK1 := keepN hK (keepN (Keep.refl _ _) k1)
          go_wp2
          go_roundw
          case rel => exact ⟨j + 1, by omega, by go_num, HV, hK1⟩
          case measure => simp [intOf]; omega
        · obtain rfl : R = false := by rw [hR.out, decide_eq_false_iff_not]; exact HN.out he
          rw [decide_eq_false he] at HQ
          clear HY HN he hR
          go_wp2_with fail
          refine (HQ.out _ (Keep.refl _ _)).mono ?_
          rintro e w1 ⟨rfl, k1⟩
          have hK1 := keepN hK (keepN (Keep.refl _ _) k1)
          go_wp2
          go_ret
          exact ⟨rfl, hK1⟩
      · obtain rfl : j = n := by omega
        obtain rfl : R = true := by rw [hR.out, decide_eq_true_iff]; exact map_all ht.out hn.out hm.out
        clear hR
        go_wp2
        go_ret
        exact ⟨rfl, hK⟩
  · obtain rfl : R = false := by
      rw [hR.out, decide_eq_false_iff_not]
      intro e
      have := congrArg List.length e
      rw [List.length_map, List.length_map, hn.out, hm.out] at this
      exact hnm this
    have hne : ((n : Int) != (m : Int)) = true := by rw [bne_iff_ne]; omega
    clear hnm hR
    go_enter Tryz.func63, Tryz.ntmps63
    go_wp2
    go_ret
    exact ⟨rfl, Keep.refl _ _⟩

set_option maxRecDepth 100000 in
set_option maxHeartbeats 4000000 in
theorem eqfnF_any (A B : Option Addr) (pa pb : List FE) (n m c d k : Nat) (w : World) (hcf : ∀ args w, (callFunc k args).run Tryz.prog w = .ok (.enter k args) w) (hra : Hid (∀ W, Keep NoB w W → Rd W A (fvs pa))) (hrb : Hid (∀ W, Keep NoB w W → Rd W B (fvs pb)))
    (hn : Hid (pa.length = n)) (hm : Hid (pb.length = m)) (hn1 : n ≤ 140737488355328) (hm1 : m ≤ 140737488355328)
    (hq : Hid (∀ i (h : i < pa.length) (h' : i < pb.length) W, Keep NoB w W → Calls Tryz.prog k #[pa[i].1.val, pb[i].1.val] W fun e W' => e = .returned (.bool (decide (pa[i].2 = pb[i].2))) ∧ Keep NoB W W')) (R : Bool) (hR : Hid (R = decide ((pa.map fun e => e.2) = pb.map fun e => e.2))) :
    Calls Tryz.prog 65 #[.slice A n c, .slice B m d, .func (.func k) #[] #[]] w fun e w' => e = .returned (.bool R) ∧ Keep NoB w w' := by
  by_cases hnm : n = m
  · subst hnm
    go_enter Tryz.func65, Tryz.ntmps65
    go_wp2
    go_loopw [17] (fun i wr => ∃ j : Nat, j ≤ n ∧ i = .int .i64 j ∧ Hid ((pa.map fun e => e.2).take j = (pb.map fun e => e.2).take j) ∧ Keep NoB w wr) (fun i _ => n - (intOf i).toNat)
    case atStart => exact ⟨0, Nat.zero_le _, rfl, rfl, Keep.refl _ _⟩
    case round =>
      obtain ⟨j, hj, rfl, ht, hK⟩ := hrel
      by_cases hlt : j < n
      · have hja : j < pa.length := by rw [hn.out]; exact hlt
        have hjb : j < pb.length := by rw [hm.out]; exact hlt
        obtain ⟨ga, oa, rfl, c0, c1, c2, c3, c4⟩ := fun_at (hra.out _ hK) hja
        obtain ⟨gb, ob, rfl, d0, d1, d2, d3, d4⟩ := fun_at (hrb.out _ hK) hjb
        have HQ := Lib.hid (fun W hk => hq.out j hja hjb W (keepN hK hk))
        have HY := Lib.hid (fun he => map_take_step ht.out hja hjb he)
        have HN := Lib.hid (fun he => map_ne (f := fun e : FE => e.2) hja hjb he)
        clear ht
        generalize pa[j] = ea at c0 c1 c2 c3 c4 HQ HY HN
        generalize pb[j] = eb at d0 d1 d2 d3 d4 HQ HY HN
        obtain ⟨⟨S1, A1, na1, ca1, B1, nb1, cb1, L1, nl1, cl1, D1, nd1, cd1⟩, l1⟩ := ea
        obtain ⟨⟨S2, A2, na2, ca2, B2, nb2, cb2, L2, nl2, cl2, D2, nd2, cd2⟩, l2⟩ := eb
        dsimp only [F.FV.val, F.FV.cells] at c0 c1 c2 c3 c4 d0 d1 d2 d3 d4 HQ HY HN
        have kA := (Keep.refl NoB wr).alloc (.cells #[.string S1, .slice A1 na1 ca1, .slice B1 nb1 cb1, .slice L1 nl1 cl1, .slice D1 nd1 cd1] 61)
        have kB := kA.alloc (.cells #[.string S2, .slice A2 na2 ca2, .slice B2 nb2 cb2, .slice L2 nl2 cl2, .slice D2 nd2 cd2] 61)
        have f0 := kA.cell d0 id
        have f1 := kA.cell d1 id
        have f2 := kA.cell d2 id
        have f3 := kA.cell d3 id
        have f4 := kA.cell d4 id
        obtain ⟨g0, g1, g2, g3, g4⟩ := F.blk5 (v := ⟨S1, A1, na1, ca1, B1, nb1, cb1, L1, nl1, cl1, D1, nd1, cd1⟩) ((Blk.new wr 61 #[.string S1, .slice A1 na1 ca1, .slice B1 nb1 cb1, .slice L1 nl1 cl1, .slice D1 nd1 cd1]).alloc (.cells #[.string S2, .slice A2 na2 ca2, .slice B2 nb2 cb2, .slice L2 nl2 cl2, .slice D2 nd2 cd2] 61))
        dsimp only at g0 g1 g2 g3 g4
        by_cases he : l1 = l2
        · have HV := Lib.hid (HY.out he)
          rw [decide_eq_true he] at HQ
          clear HY HN he
          go_wp2_with fail
          refine (HQ.out _ kB).mono ?_
          rintro e w1 ⟨rfl, k1⟩
          have hK1 := keepN hK (keepN kB k1)
          go_wp2
          go_roundw
          case rel => exact ⟨j + 1, by omega, by go_num, HV, hK1⟩
          case measure => simp [intOf]; omega
        · obtain rfl : R = false := by rw [hR.out, decide_eq_false_iff_not]; exact HN.out he
          rw [decide_eq_false he] at HQ
          clear HY HN he hR
          go_wp2_with fail
          refine (HQ.out _ kB).mono ?_
          rintro e w1 ⟨rfl, k1⟩
          have hK1 := keepN hK (keepN kB k1)
          go_wp2
          go_ret
          exact ⟨rfl, hK1⟩
      · obtain rfl : j = n := by omega
        obtain rfl : R = true := by rw [hR.out, decide_eq_true_iff]; exact map_all ht.out hn.out hm.out
        clear hR
        go_wp2
        go_ret
        exact ⟨rfl, hK⟩
  · obtain rfl : R = false := by
      rw [hR.out, decide_eq_false_iff_not]
      intro e
      have := congrArg List.length e
      rw [List.length_map, List.length_map, hn.out, hm.out] at this
      exact hnm this
    have hne : ((n : Int) != (m : Int)) = true := by rw [bne_iff_ne]; omega
    clear hnm hR
    go_enter Tryz.func65, Tryz.ntmps65
    go_wp2
    go_ret
    exact ⟨rfl, Keep.refl _ _⟩

theorem sameI_of (es gs : List SE) (fs hs : List FE) : sameI (imOf es fs) (imOf gs hs) = (decide ((es.map fun e => e.2) = gs.map fun e => e.2) && decide ((fs.map fun e => e.2) = hs.map fun e => e.2)) := by
  unfold sameI imOf; dsimp only; rw [Bool.decide_and]
theorem ImAt.shp {w : World} {v : IV} {es : List SE} {fs : List FE} (h : ImAt w v es fs) {i : Nat} (hi : i < es.length) : Rd w es[i].1.A (ivs es[i].2) ∧ es[i].2.length = es[i].1.n := h.hs _ (List.getElem_mem hi)
theorem ImAt.fun_ {w : World} {v : IV} {es : List SE} {fs : List FE} (h : ImAt w v es fs) {i : Nat} (hi : i < fs.length) : F.FnAt w fs[i].1 fs[i].2 := h.hf _ (List.getElem_mem hi)
theorem sme {es : List SE} {fs : List FE} (h : SmI es fs) {i : Nat} (hi : i < es.length) : es[i].1.n ≤ 100 := h.sh _ (List.getElem_mem hi)
theorem smf {es : List SE} {fs : List FE} (h : SmI es fs) {i : Nat} (hi : i < fs.length) : F.SmF fs[i].1 := h.fn _ (List.getElem_mem hi)

set_option maxRecDepth 100000 in
set_option maxHeartbeats 4000000 in
theorem same_any (v u : IV) (es gs : List SE) (fs hs : List FE) (w : World) (h : ImAt w v es fs) (h2 : ImAt w u gs hs) (hs1 : SmI es fs) (hs2 : SmI gs hs) :
    Calls Tryz.prog 28 #[v.val, u.val] w fun e w' => e = .returned (.bool (sameI (imOf es fs) (imOf gs hs))) ∧ Keep NoB w w' := by
  have bx := (Blk.new w 25 v.cells).alloc (.cells u.cells 25)
  have by0 := Blk.new (w.alloc (.cells v.cells 25)) 25 u.cells
  have k0 := ((Keep.refl NoB w).alloc (.cells v.cells 25)).alloc (.cells u.cells 25)
  rw [World.size_alloc] at by0
  have hl := h.lx
  have hl2 := h.ly
  have hl3 := h2.lx
  have hl4 := h2.ly
  have n1 := hs1.ns
  have n2 := hs1.nf
  have n3 := hs2.ns
  have n4 := hs2.nf
  have HS := Lib.hid (fun W (hk : Keep NoB w W) => eqfnS_any v.X u.X es gs v.nx u.nx v.cx u.cx 64 W (enters_of Tryz.func64 (by kernel_rfl) rfl) (fun W' hk' => (h.keepN (keepN hk hk')).rx) (fun W' hk' => (h2.keepN (keepN hk hk')).rx) hl hl3 (by omega) (by omega)
    (fun i hi hi' W' hk' => equalSh_any es[i].1.A gs[i].1.A es[i].2 gs[i].2 es[i].1.n gs[i].1.n es[i].1.c gs[i].1.c W' ((h.keepN (keepN hk hk')).shp hi).1 ((h2.keepN (keepN hk hk')).shp hi').1 (h.shp hi).2 (h2.shp hi').2 (by have := sme hs1 hi; omega) (by have := sme hs2 hi'; omega) _ rfl) _ rfl)
  have HF := Lib.hid (fun W (hk : Keep NoB w W) => eqfnF_any v.Y u.Y fs hs v.ny u.ny v.cy u.cy 66 W (enters_of Tryz.func66 (by kernel_rfl) rfl) (fun W' hk' => (h.keepN (keepN hk hk')).ry) (fun W' hk' => (h2.keepN (keepN hk hk')).ry) hl2 hl4 (by omega) (by omega)
    (fun i hi hi' W' hk' => by
      have e : F.sameF fs[i].2 hs[i].2 = decide (fs[i].2 = hs[i].2) := by rw [Bool.eq_iff_iff, F.sameF_iff, decide_eq_true_iff]
      rw [← e]
      exact F.sameF_any fs[i].1 fs[i].2 hs[i].1 hs[i].2 W' ((h.keepN (keepN hk hk')).fun_ hi) ((h2.keepN (keepN hk hk')).fun_ hi') (smf hs1 hi) (smf hs2 hi')) _ rfl)
  rw [sameI_of]
  obtain ⟨x0, x1⟩ := blk2 bx
  obtain ⟨y0, y1⟩ := blk2 by0
  have HX := Lib.hid bx
  have HY := Lib.hid by0
  generalize decide ((es.map fun e => e.2) = gs.map fun e => e.2) = r1 at *
  generalize decide ((fs.map fun e => e.2) = hs.map fun e => e.2) = r2 at *
  clear h h2 hs1 hs2 hl hl2 hl3 hl4 n1 n2 n3 n4 bx by0
  obtain ⟨X, nx, cx, Y, ny, cy⟩ := v
  obtain ⟨X2, nx2, cx2, Y2, ny2, cy2⟩ := u
  dsimp only [IV.val, IV.cells] at *
  go_enter Tryz.func28, Tryz.ntmps28
  go_wp2_with fail
  refine (HS.out _ k0).mono ?_
  rintro e w1 ⟨rfl, k1⟩
  cases r1
  · go_wp2
    go_ret
    exact ⟨rfl, keepN k0 k1⟩
  · have hx := k1.cell x1 id
    have hy := k1.cell y1 id
    go_wp2_with fail
    refine (HF.out _ (keepN k0 k1)).mono ?_
    rintro e w2 ⟨rfl, k2⟩
    go_wp2
    go_ret
    exact ⟨by simp, keepN k0 (keepN k1 k2)⟩

end Go.Proofs.YtgifflfjhockaaaGreatDoor.I

namespace Go.Proofs.YtgifflfjhockaaaGreatDoor.F
open Go.RowKit W

end Go.Proofs.YtgifflfjhockaaaGreatDoor.F

namespace Go.Proofs.YtgifflfjhockaaaGreatDoor.F
open Go.RowKit W

end Go.Proofs.YtgifflfjhockaaaGreatDoor.F

namespace Go.Proofs.YtgifflfjhockaaaGreatDoor.I
open Go.RowKit W

end Go.Proofs.YtgifflfjhockaaaGreatDoor.I

namespace Go.Proofs.YtgifflfjhockaaaGreatDoor.I
open Go.RowKit W

/-- Parts of bytes in memory. -/
abbrev PE := SV × List UInt8
def PartAt (w : World) (e : PE) : Prop := V.Rd w e.1.A e.2 ∧ e.2.length = e.1.n
def pvs (ps : List PE) : List Value := ps.map fun e => e.1.val
def allB (ps : List PE) : List UInt8 := ps.flatMap fun e => e.2
theorem pvs_length (ps : List PE) : (pvs ps).length = ps.length := by simp [pvs]
theorem part_at {w : World} {X : Option Addr} {ps : List PE} (h : Rd w X (pvs ps)) {i : Nat} (hi : i < ps.length) : ∃ g off, X = some ⟨g, off, none⟩ ∧ w.cell? ⟨g, off + i, none⟩ = some (.slice ps[i].1.A ps[i].1.n ps[i].1.c) := by
  obtain ⟨g, off, e, hc⟩ := h (by rw [pvs_length]; omega)
  exact ⟨g, off, e, hc i _ (by simp [pvs, hi]; rfl)⟩
theorem allB_take {ps : List PE} {k : Nat} (h : k < ps.length) : allB (ps.take (k + 1)) = allB (ps.take k) ++ ps[k].2 := by
  unfold allB; rw [List.take_succ_eq_append_getElem h, List.flatMap_append]; simp
/-- The two numbers as the program holds them. -/
def sA (l : List UInt8) : Nat := (ad l).1 % 65521
def sB (l : List UInt8) : Nat := (ad l).2 % 65521
theorem sA_lt (l : List UInt8) : sA l < 65521 := Nat.mod_lt _ (by omega)
theorem sB_lt (l : List UInt8) : sB l < 65521 := Nat.mod_lt _ (by omega)
theorem sA_snoc (l : List UInt8) (x : UInt8) : sA (l ++ [x]) = (sA l + x.toNat) % 65521 := by unfold sA; rw [ad_snoc]; simp [adS]
theorem sB_snoc (l : List UInt8) (x : UInt8) : sB (l ++ [x]) = (sB l + (sA l + x.toNat) % 65521) % 65521 := by unfold sA sB; rw [ad_snoc]; simp only [adS]; omega
theorem sum_or (l : List UInt8) : bits .or .u32 ((sB l * 65536 : Nat) : Int) ((sA l : Nat) : Int) = (sumN l : Int) := by
  have h1 := sA_lt l
  have h2 := sB_lt l
  rw [u32_or_nat _ _ (by omega) (by omega)]
  congr 1
  have : sB l * 65536 ||| sA l = sB l * 65536 + sA l := by
    have h := Nat.shiftLeft_add_eq_or_of_lt (show sA l < 2 ^ 16 by omega) (sB l)
    rw [Nat.shiftLeft_eq] at h
    exact h.symm
  rw [this]; rfl
theorem rdB_at {w : World} {A : Option Addr} {l : List UInt8} (h : V.Rd w A l) (h0 : 0 < l.length) : ∃ ad, A = some ad ∧ ∀ (i : Nat) (hi : i < l.length), w.cell? (ad.add i) = some (.int .u8 (l[i].toNat : Int)) := by
  obtain ⟨ad, e, hc⟩ := h h0
  exact ⟨ad, e, fun i hi => hc i _ (by simp [V.bvs, V.bv, hi])⟩

set_option maxRecDepth 100000 in
set_option maxHeartbeats 4000000 in
theorem sum_any (P : Option Addr) (ps : List PE) (m c : Nat) (w : World) (hr : Rd w P (pvs ps)) (hn : Hid (ps.length = m)) (hp : Hid (∀ e ∈ ps, PartAt w e)) (hm : m ≤ 1000) (hl : Hid (∀ e ∈ ps, e.1.n ≤ 140737488355328)) (R : Nat) (hR : Hid (sumN (allB ps) = R)) :
    Calls Tryz.prog 18 #[.slice P m c] w fun e w' => e = .returned (.int .u32 (R : Int)) ∧ w = w' := by
  go_enter Tryz.func18, Tryz.ntmps18
  go_wp2
  go_loop [3, 4, 11] (fun a b i => ∃ k : Nat, k ≤ m ∧ i = .int .i64 k ∧ a = .int .u32 (sA (allB (ps.take k)) : Nat) ∧ b = .int .u32 (sB (allB (ps.take k)) : Nat)) (fun _ _ i => m - (intOf i).toNat)
  case atStart => exact ⟨0, Nat.zero_le _, rfl, rfl, rfl⟩
  case round =>
    obtain ⟨k, hk, rfl, rfl, rfl⟩ := hrel
    by_cases hlt : k < m
    · have hkp : k < ps.length := by rw [hn.out]; exact hlt
      obtain ⟨g, off, rfl, hc⟩ := part_at hr hkp
      have HT := Lib.hid (allB_take hkp)
      have HP := Lib.hid (hp.out _ (List.getElem_mem hkp))
      have hL := hl.out _ (List.getElem_mem hkp)
      generalize ps[k] = e at hc HT HP hL
      obtain ⟨⟨A, n, c'⟩, l⟩ := e
      dsimp only at hc HT HP hL
      have hln : l.length = n := HP.out.2
      have HRB : Hid (V.Rd w A l) := HP.out.1
      clear hr
      generalize allB (ps.take k) = pre at HT ⊢
      go_wp2
      go_loop [3, 4, 17] (fun a b i => ∃ j : Nat, j ≤ n ∧ i = .int .i64 j ∧ a = .int .u32 (sA (pre ++ l.take j) : Nat) ∧ b = .int .u32 (sB (pre ++ l.take j) : Nat)) (fun _ _ i => n - (intOf i).toNat)
      case atStart => exact ⟨0, Nat.zero_le _, rfl, by simp, by simp⟩
      case round =>
        obtain ⟨j, hj, rfl, rfl, rfl⟩ := hrel
        by_cases hjl : j < n
        · have hjl2 : j < l.length := by omega
          obtain ⟨ad, rfl, hcb⟩ := rdB_at HRB.out (by omega)
          have cb := hcb j hjl2
          have HS : Hid (sA (pre ++ l.take (j + 1)) = (sA (pre ++ l.take j) + l[j].toNat) % 65521 ∧ sB (pre ++ l.take (j + 1)) = (sB (pre ++ l.take j) + (sA (pre ++ l.take j) + l[j].toNat) % 65521) % 65521) := by
            have e : pre ++ l.take (j + 1) = (pre ++ l.take j) ++ [l[j]] := by rw [List.take_succ_eq_append_getElem hjl2, List.append_assoc]
            show _ ∧ _
            rw [e]
            exact ⟨sA_snoc _ _, sB_snoc _ _⟩
          have h1 := sA_lt (pre ++ l.take j)
          have h2 := sB_lt (pre ++ l.take j)
          have h3 := l[j].toNat_lt
          clear hcb
          generalize sA (pre ++ l.take j) = a at HS h1 ⊢
          generalize sB (pre ++ l.take j) = b at HS h2 ⊢
          generalize l[j].toNat = x at cb HS h3
          go_wp2
          go_round
          case rel => exact ⟨j + 1, by omega, by go_num, by rw [HS.out.1]; go_num, by rw [HS.out.2]; go_num⟩
          case measure => simp [intOf]; omega
        · obtain rfl : j = n := by omega
          rw [List.take_of_length_le (by omega), ← HT.out]
          go_wp2
          go_round
          case rel => exact ⟨k + 1, by omega, by go_num, rfl, rfl⟩
          case measure => simp [intOf]; omega
    · obtain rfl : k = m := by omega
      have hall : ps.take k = ps := List.take_of_length_le (by rw [hn.out]; exact Nat.le_refl _)
      rw [hall]
      have h1 := sA_lt (allB ps)
      have h2 := sB_lt (allB ps)
      have hor := sum_or (allB ps)
      rw [hR.out] at hor
      generalize sA (allB ps) = a at *
      generalize sB (allB ps) = b at *
      have HOR : Hid (bits .or .u32 ((b : Int) * 65536) (a : Int) = (R : Int)) := by
        show bits .or .u32 ((b : Int) * 65536) (a : Int) = (R : Int)
        rw [show (b : Int) * 65536 = ((b * 65536 : Nat) : Int) by omega]
        exact hor
      clear hR hall hn hp hl hr hor
      go_wp2
      go_ret
      exact ⟨congrArg (fun x => Ending.returned (.int .u32 x)) HOR.out, rfl⟩

theorem made_bytes {w : World} (cs : List UInt8) (n : Nat) (h : cs.length = n) (hn : n ≤ 1000) : V.OwnB (w.alloc (.cells (V.bvs cs).toArray 5)) (Fresh w) (.slice (some ⟨w.heap.size, 0, none⟩) n n) cs := by
  subst h
  refine ⟨⟨by simp, .inr ⟨w.heap.size, cs.length, (V.bvs cs).toArray, rfl, Nat.zero_le _, heap_alloc_new w _, Nat.le_refl _, by unfold maxLen; omega, by simp, ?_⟩⟩, fun g e => by cases e; exact Nat.le_refl _⟩
  rw [Nat.mul_one]
  exact List.take_of_length_le (by simp)
theorem four_cells (n : Nat) (h : n < 4294967296) : #[Value.int .u8 ((n : Int) / 16777216), Value.int .u8 ((n : Int) / 65536 % 256), Value.int .u8 ((n : Int) / 256 % 256), Value.int .u8 ((n : Int) % 256)] = (V.bvs (four n)).toArray := by
  have f : ∀ a : Nat, a < 256 → ((UInt8.ofNat a).toNat : Int) = (a : Int) := fun a ha => by rw [UInt8.toNat_ofNat', Nat.mod_eq_of_lt ha]
  unfold four V.bvs V.bv
  simp only [List.map_cons, List.map_nil]
  rw [f _ (by omega), f _ (by omega), f _ (by omega), f _ (by omega)]
  rfl
theorem made_four {w : World} (n : Nat) (h : n < 4294967296) : V.OwnB (w.alloc (.cells #[Value.int .u8 ((n : Int) / 16777216), Value.int .u8 ((n : Int) / 65536 % 256), Value.int .u8 ((n : Int) / 256 % 256), Value.int .u8 ((n : Int) % 256)] 5)) (Fresh w) (.slice (some ⟨w.heap.size, 0, none⟩) 4 4) (four n) := by
  rw [four_cells n h]; exact made_bytes (four n) 4 rfl (by omega)

set_option maxRecDepth 100000 in
set_option maxHeartbeats 2000000 in
theorem seal_any (P : Option Addr) (ps : List PE) (m c : Nat) (w : World) (hr : Rd w P (pvs ps)) (hn : Hid (ps.length = m)) (hp : Hid (∀ e ∈ ps, PartAt w e)) (hm : m ≤ 1000) (hl : Hid (∀ e ∈ ps, e.1.n ≤ 140737488355328)) :
    Calls Tryz.prog 40 #[.slice P m c] w fun e w' => ∃ v, e = .returned v ∧ V.OwnB w' (Fresh w) v (four (sumN (allB ps))) ∧ Keep NoB w w' := by
  have HS := Lib.hid (sum_any P ps m c w hr hn hp hm hl _ rfl)
  have hlt := sumN_lt (allB ps)
  clear hr hn hp hl
  generalize sumN (allB ps) = n at *
  go_enter Tryz.func40, Tryz.ntmps40
  go_wp2_with fail
  refine HS.out.mono ?_
  rintro e w1 ⟨rfl, rfl⟩
  go_wp2
  go_ret
  exact ⟨_, rfl, made_four n hlt, (Keep.refl NoB w).alloc _⟩

end Go.Proofs.YtgifflfjhockaaaGreatDoor.I

namespace Go.Proofs.YtgifflfjhockaaaGreatDoor.I
open Go.RowKit W

theorem str_eq (l m : List UInt8) : ((V.str l).toList == (V.str m).toList) = decide (l = m) := by
  rw [ByteArray.toList_eq, ByteArray.toList_eq]
  show (l == m) = decide (l = m)
  rw [Bool.eq_iff_iff, beq_iff_eq, decide_eq_true_iff]
theorem rd_tk {w : World} {A : Option Addr} {l : List UInt8} (h : V.Rd w A l) (k : Nat) : V.Rd w A (l.take k) := fun h0 => by
  have hl : 0 < l.length := by rw [List.length_take] at h0; omega
  obtain ⟨ad, e, hc⟩ := h hl
  refine ⟨ad, e, fun j u hu => hc j u ?_⟩
  obtain ⟨hj, hju⟩ := List.getElem?_eq_some_iff.1 hu
  have hj2 : j < l.length := by simp at hj; omega
  simp at hju
  rw [← hju]
  simp [hj2]
theorem rd_dp {w : World} {ad : Addr} {l : List UInt8} (h : V.Rd w (some ad) l) (k : Nat) : V.Rd w (some (ad.add k)) (l.drop k) := fun h0 => by
  have hl : 0 < l.length := by rw [List.length_drop] at h0; omega
  obtain ⟨ad', e, hc⟩ := h hl
  injection e with e
  subst e
  refine ⟨ad.add k, rfl, fun j u hu => ?_⟩
  rw [V.add_add]
  refine hc (k + j) u ?_
  rw [List.getElem?_map, List.getElem?_drop] at hu
  rw [List.getElem?_map]; exact hu
set_option maxRecDepth 100000 in
set_option maxHeartbeats 2000000 in
theorem equalB_any (A B : Option Addr) (l m : List UInt8) (nl nm c d : Nat) (w : World) (ha : V.Rd w A l) (hb : V.Rd w B m) (hl : l.length = nl) (hm : m.length = nm) (R : Bool) (hR : Hid (decide (l = m) = R)) :
    Calls Tryz.prog 43 #[.slice A nl c, .slice B nm d] w fun e w' => e = .returned (.bool R) ∧ w = w' := by
  subst hl hm
  have c1 : (convert 26 9 (.slice A l.length c)).run Tryz.prog w = .ok (.string (V.str l)) w := V.conv_rd ha
  have c2 : (convert 26 9 (.slice B m.length d)).run Tryz.prog w = .ok (.string (V.str m)) w := V.conv_rd hb
  have he := (str_eq l m).trans hR.out
  clear ha hb hR
  generalize V.str l = X at *
  generalize V.str m = Y at *
  go_enter Tryz.func43, Tryz.ntmps43
  go_wp2
  go_ret
  exact ⟨rfl, rfl⟩

set_option maxRecDepth 100000 in
set_option maxHeartbeats 2000000 in
theorem hasPre_any (A B : Option Addr) (l m : List UInt8) (c d : Nat) (w : World) (ha : V.Rd w A l) (hb : V.Rd w B m) (hc : l.length ≤ c) (hm : m.length = 5) (R : Bool) (hR : Hid (decide (l.take 5 = m) = R)) :
    Calls Tryz.prog 83 #[.slice A l.length c, .slice B 5 d] w fun e w' => e = .returned (.bool R) ∧ w = w' := by
  go_enter Tryz.func83, Tryz.ntmps83
  by_cases h5 : 5 ≤ l.length
  · have hd : decide ((5 : Int) ≤ (l.length : Int)) = true := decide_eq_true (by omega)
    have HE := Lib.hid (equalB_any A B (l.take 5) m 5 5 c d w (rd_tk ha 5) hb (by rw [List.length_take]; omega) hm R hR)
    clear ha hb hR
    go_wp2_with fail
    refine HE.out.mono ?_
    rintro e w1 ⟨rfl, rfl⟩
    go_wp2
    go_ret
    exact ⟨rfl, rfl⟩
  · have hd : decide ((5 : Int) ≤ (l.length : Int)) = false := decide_eq_false (by omega)
    obtain rfl : false = R := by
      rw [← hR.out]; symm
      rw [decide_eq_false_iff_not]
      intro h
      have := congrArg List.length h
      rw [List.length_take, hm] at this; omega
    clear hR
    go_wp2
    go_ret
    exact ⟨rfl, rfl⟩

set_option maxRecDepth 100000 in
set_option maxHeartbeats 2000000 in
theorem cut_any (A B : Option Addr) (l m : List UInt8) (c d : Nat) (w : World) (ha : V.Rd w A l) (hb : V.Rd w B m) (hc : l.length ≤ c) (hcm : c ≤ maxLen) (hm : m.length = 5) :
    Calls Tryz.prog 42 #[.slice A l.length c, .slice B 5 d] w fun e w' => w = w' ∧ ((l.take 5 ≠ m ∧ ∃ v, e = .returned (.tuple #[v, .bool false])) ∨ (l.take 5 = m ∧ ∃ A' c', e = .returned (.tuple #[.slice A' (l.length - 5) c', .bool true]) ∧ V.Rd w A' (l.drop 5) ∧ Hid (l.length - 5 ≤ c' ∧ c' ≤ maxLen))) := by
  by_cases h5 : l.take 5 = m
  · have hl : 5 ≤ l.length := by
      have := congrArg List.length h5
      rw [List.length_take, hm] at this; omega
    have HP := Lib.hid (hasPre_any A B l m c d w ha hb hc hm true (decide_eq_true h5))
    obtain ⟨ad, rfl, _⟩ := ha (by omega)
    have HR : Hid (V.Rd w (some ⟨ad.block, ad.off + 5, none⟩) (l.drop 5)) := by
      have := rd_dp ha 5
      unfold Addr.add at this
      rw [if_neg (by decide)] at this
      exact this
    have HC : Hid (l.length - 5 ≤ c - 5 ∧ c - 5 ≤ maxLen) := ⟨by omega, by omega⟩
    have HT := Lib.hid h5
    clear ha hb h5 hcm
    by_cases hc5 : c = 5
    · subst hc5
      have HW : Hid (V.Rd w (some ad) (l.drop 5)) := fun h0 => by rw [List.length_drop] at h0; omega
      have hz : l.length - 5 = 0 := by omega
      rw [hz] at HC
      rw [hz]
      go_enter Tryz.func42, Tryz.ntmps42
      go_wp2_with fail
      refine HP.out.mono ?_
      rintro e w1 ⟨rfl, rfl⟩
      go_wp2
      go_ret2
      exact ⟨rfl, .inr ⟨HT.out, _, _, rfl, HW.out, HC.out⟩⟩
    go_enter Tryz.func42, Tryz.ntmps42
    go_wp2_with fail
    refine HP.out.mono ?_
    rintro e w1 ⟨rfl, rfl⟩
    go_wp2
    go_ret2
    exact ⟨rfl, .inr ⟨HT.out, _, _, rfl, HR.out, HC.out⟩⟩
  · have HP := Lib.hid (hasPre_any A B l m c d w ha hb hc hm false (decide_eq_false h5))
    clear ha hb
    go_enter Tryz.func42, Tryz.ntmps42
    go_wp2_with fail
    refine HP.out.mono ?_
    rintro e w1 ⟨rfl, rfl⟩
    go_wp2
    go_ret2
    exact ⟨rfl, .inl ⟨h5, _, rfl⟩⟩

end Go.Proofs.YtgifflfjhockaaaGreatDoor.I

namespace Go.Proofs.YtgifflfjhockaaaGreatDoor.O
open Go.RowKit

/-- Block k holds cells. -/
def CellsAt (W : World) (k : Nat) : Prop := ∃ cs t f, W.heap[k]? = some (.cells cs t f)
theorem CellsAt.lt {W : World} {k : Nat} (h : CellsAt W k) : k < W.heap.size := by obtain ⟨_, _, _, h⟩ := h; exact (Array.getElem?_eq_some_iff.1 h).1
theorem Blk.cellsAt {w : World} {g : Nat} {t : TypeId} {cs : Array Value} (h : Blk w g t cs) : CellsAt w g := ⟨cs, t, (0, 0), h⟩
theorem own_cells {w : World} {O : Nat → Prop} {v : Value} {l : List UInt8} (h : V.OwnB w O v l) : ∀ g, v.ownBlock = some g → CellsAt w g := by
  intro g e
  rcases h.1.2 with ⟨rfl, _⟩ | ⟨g', cap, cur, rfl, _, hh, _⟩
  · simp [Value.ownBlock] at e
  · simp [Value.ownBlock] at e
    subst e
    exact ⟨_, _, _, hh⟩
/-- A Tape's blocks are cells. -/
theorem tape_cells {w : World} {bt : Nat} {O : Nat → Prop} {l : List UInt8} (h : V.TapeAt w bt O l) : V.TapeAt w bt (fun k => O k ∧ CellsAt w k) l := by
  rcases h.2 with ⟨hb, hl⟩ | ⟨bs, v, ho, hb, hs, hv⟩
  · exact ⟨⟨h.1, Blk.cellsAt hb⟩, .inl ⟨hb, hl⟩⟩
  · exact ⟨⟨h.1, Blk.cellsAt hb⟩, .inr ⟨bs, v, ⟨ho, Blk.cellsAt hs⟩, hb, hs, hv.1, fun g e => ⟨hv.2 g e, own_cells hv g e⟩⟩⟩
/-- A step that turns none of a Tape's blocks leaves it. -/
theorem tape_grown {w w' : World} {row : Option Nat} {bt : Nat} {O : Nat → Prop} {l : List UInt8} (h : V.TapeAt w bt O l) (hg : w.grownBy w' row) (hr : ∀ r, row = some r → ¬ O r) : V.TapeAt w' bt O l := by
  have hk : Keep (fun k => some k = row) w w' := ⟨hg.os, hg.tape, hg.output, hg.size, fun k hk hn => hg.block k hk hn⟩
  exact h.keep hk (fun k ho e => hr k e.symm ho)

/-- What write leaves. -/
def WroteR (w : World) (bt : Nat) (O : Nat → Prop) (xs : List UInt8) (e : Ending) (w' : World) : Prop := e = .returned (.tuple #[]) ∧ V.TapeAt w' bt (V.More O w w') xs ∧ Keep O w w'

set_option maxHeartbeats 1000000 in
theorem write_any (k n : Int) (sh gu : Value) (bt : Nat) (O : Nat → Prop) (l : List UInt8) (w : World) (hk : k ≠ 0) (hn : inK k n = true) (h64 : -9223372036854775808 ≤ n ∧ n ≤ 9223372036854775807)
    (h : V.TapeAt w bt O l) (hO : ∀ k, O k → k < w.heap.size) (hb : l.length + 9 ≤ 140737488355328) :
    Calls Tryz.prog 195 #[opV k sh gu, .pointer (some ⟨bt, 0, none⟩), .int .i64 n] w (WroteR w bt O (l ++ encP k n)) := by
  have hK := (Keep.refl NoB w).alloc (.cells #[.int .i64 k, .int .i64 (lo k), .int .i64 (hi k), sh, gu] 268)
  have h1 := h.keep hK (fun _ _ => id)
  have hO1 : ∀ j, O j → j < (w.alloc (.cells #[.int .i64 k, .int .i64 (lo k), .int .i64 (hi k), sh, gu] 268)).heap.size := by intro j hj; have := hO j hj; simp; omega
  have hsz : (w.alloc (.cells #[.int .i64 k, .int .i64 (lo k), .int .i64 (hi k), sh, gu] 268)).heap.size = w.heap.size + 1 := by simp
  by_cases h1k : k = 1
  · subst h1k
    have HE : Hid (encP 1 n = V.encL (V.zig n)) := rfl
    have HS := Lib.hid (V.tsigned_any _ bt O l n h64.1 h64.2 h1 hO1 hb)
    clear hk hn hO hb h h1 hO1
    unfold opV
    go_enter Tryz.func195, Tryz.ntmps195
    go_wp2_with fail
    refine HS.out.mono ?_
    rintro e w2 ⟨rfl, h2, k2⟩
    go_wp2
    go_end0
    rw [HE.out]
    refine ⟨rfl, h2.mono ?_, hK.mono (fun _ hf _ => hf.elim) |>.trans k2 (fun _ ho _ => ho)⟩
    rintro j (hj | ⟨hj1, hj2⟩) _
    · exact .inl hj
    · exact .inr ⟨by omega, hj2⟩
  · have hn0 : 0 ≤ n := by
      have := (of_decide_eq_true hn).1
      unfold lo at this
      rw [if_neg h1k] at this
      split at this <;> omega
    obtain ⟨m, rfl⟩ := Int.eq_ofNat_of_zero_le hn0
    have HE : Hid (encP k m = V.encL m) := by show _ = _; unfold encP; rw [if_neg hk, if_neg h1k]; rfl
    have HS := Lib.hid (V.tnumber_any _ bt O l m h1 hO1 hb)
    have q1 : (k == 1) = false := by rw [beq_eq_false_iff_ne]; exact h1k
    have hm : (m : Int) ≤ 9223372036854775807 := h64.2
    have hw : IntKind.u64.wrap (m : Int) = (m : Int) := by simp [IntKind.wrap, IntKind.bits, IntKind.signed]; omega
    clear hk hn hO hb h h1 hO1 h1k h64
    unfold opV
    go_enter Tryz.func195, Tryz.ntmps195
    go_wp2_with fail
    refine HS.out.mono ?_
    rintro e w2 ⟨rfl, h2, k2⟩
    go_wp2
    go_end0
    rw [HE.out]
    refine ⟨rfl, h2.mono ?_, hK.mono (fun _ hf _ => hf.elim) |>.trans k2 (fun _ ho _ => ho)⟩
    rintro j (hj | ⟨hj1, hj2⟩) _
    · exact .inl hj
    · exact .inr ⟨by omega, hj2⟩

end Go.Proofs.YtgifflfjhockaaaGreatDoor.O

namespace Go.Proofs.YtgifflfjhockaaaGreatDoor.O
open Go.RowKit Go.Shelf
attribute [local go_sem] Oper.semAt_some

/-- The bytes of the operands that have come. -/
def bytesP (l : List (Int × Int)) : List UInt8 := l.flatMap fun x => encP x.1 x.2
theorem bytesP_snoc (l : List (Int × Int)) (x : Int × Int) : bytesP (l ++ [x]) = bytesP l ++ encP x.1 x.2 := by unfold bytesP; simp
theorem encP_0 (n : Int) : encP 0 n = [] := rfl
theorem bytesP_parts (ka kb a b : Int) (h : ka = 0 → kb = 0) : bytesP (partsL ka kb a b) = encP ka a ++ encP kb b := by
  unfold partsL bytesP
  split
  · rename_i hz
    rw [hz, h hz]; rfl
  · split
    · rename_i h2; rw [h2]; simp [encP_0]
    · simp
theorem encP_len (k n : Int) : (encP k n).length ≤ 9 := by
  unfold encP
  split
  · exact Nat.zero_le _
  · split <;> exact V.encL_len _
theorem bytesP_len : ∀ (l : List (Int × Int)), (bytesP l).length ≤ 9 * l.length
  | [] => Nat.zero_le _
  | x :: l => by
    have h1 := encP_len x.1 x.2
    have h2 := bytesP_len l
    have e : bytesP (x :: l) = encP x.1 x.2 ++ bytesP l := by unfold bytesP; simp
    rw [e]
    simp
    omega
theorem parts_in {ka kb a b : Int} {x : Int × Int} (h : x ∈ partsL ka kb a b) (ha : inK ka a = true) (hb : inK kb b = true) : inK x.1 x.2 = true := by
  unfold partsL at h
  split at h
  · cases h
  · split at h
    · simp at h; subst h; exact ha
    · simp at h
      rcases h with rfl | rfl
      · exact ha
      · exact hb

/-- What a Tape in the loop is. -/
def TapeI (w : World) (bt Bx Br : Nat) (xs : List UInt8) (op a b : Int) (r : Row) (W : World) : Prop :=
  ∃ O, V.TapeAt W bt O xs ∧ (∀ k, O k → CellsAt W k ∧ w.heap.size ≤ k ∧ k ≠ Bx ∧ k ≠ Br) ∧ Blk W Bx 63 #[.int .i64 op, .int .i64 a, .int .i64 b] ∧ Blk W Br 259 (cells9 r) ∧ Keep NoB w W
theorem tapeI_own {β : Type} {B : Nat} {w : World} (hB : w.heap.size ≤ B) (bt Bx Br : Nat) (xs : β → List UInt8) (op a b : Int) (r : Row) : OwnFrom B (fun s W => TapeI w bt Bx Br (xs s) op a b r W) := by
  rintro s X Y row ⟨O, h1, h2, h3, h4, h5⟩ hg hrow
  have hO : ∀ k, row = some k → ¬ O k := fun k e ho => by
    obtain ⟨cs, t, f, hc⟩ := (h2 k ho).1
    obtain ⟨_, o, ho', hn⟩ := hrow k e
    rw [hc] at ho'; cases ho'; cases hn
  refine ⟨O, tape_grown h1 hg hO, fun k ho => ⟨?_, (h2 k ho).2⟩, blk_own (β := Unit) _ _ _ (fun _ => _) () _ _ _ h3 hg hrow, blk_own (β := Unit) _ _ _ (fun _ => _) () _ _ _ h4 hg hrow, keep_own (β := Unit) NoB hB () _ _ _ h5 hg hrow⟩
  obtain ⟨cs, t, f, hc⟩ := (h2 k ho).1
  exact ⟨cs, t, f, (hg.block k (Array.getElem?_eq_some_iff.1 hc).1 (fun e => hO k e.symm ho)).trans hc⟩
theorem tapeI_keep {w : World} {bt Bx Br : Nat} {xs : List UInt8} {op a b : Int} {r : Row} {W W' : World} (h : TapeI w bt Bx Br xs op a b r W) (hk : Keep NoB W W') : TapeI w bt Bx Br xs op a b r W' :=
  tapeI_own (β := Unit) (Nat.le_refl _) bt Bx Br (fun _ => xs) op a b r () W W' none h hk.grows (fun _ e => by cases e)

/-- A round: the Tape with so much more. -/
theorem tapeI_wrote {w : World} {bt Bx Br B : Nat} {xs ys : List UInt8} {op a b : Int} {r : Row} {W W' : World} {O : Nat → Prop} (hO : ∀ k, O k → CellsAt W k ∧ w.heap.size ≤ k ∧ k ≠ Bx ∧ k ≠ Br)
    (h3 : Blk W Bx 63 #[.int .i64 op, .int .i64 a, .int .i64 b]) (h4 : Blk W Br 259 (cells9 r)) (h5 : Keep NoB w W) (ht : V.TapeAt W' bt (V.More O W W') ys) (hk : Keep O W W') (hxy : ys = xs) :
    TapeI w bt Bx Br xs op a b r W' ∧ KeepsFrom B W W' := by
  subst hxy
  have hx := h3.lt
  have hr := h4.lt
  refine ⟨⟨_, tape_cells ht, ?_, h3.keep hk (fun h => (hO _ h).2.2.1 rfl), h4.keep hk (fun h => (hO _ h).2.2.2 rfl), h5.trans hk (fun k h hl => by have := (hO k h).2.1; omega)⟩, ?_⟩
  · rintro k ⟨h | ⟨h, _⟩, hc⟩
    · exact ⟨hc, (hO k h).2⟩
    · have := h5.size
      exact ⟨hc, by omega, by omega, by omega⟩
  · refine ⟨hk.size, fun k o _ hh hn => (hk.block k (Array.getElem?_eq_some_iff.1 hh).1 (fun ho => ?_)).trans hh⟩
    obtain ⟨cs, t, f, hc⟩ := (hO k ho).1
    rw [hh] at hc; cases hc; cases hn

/-- The activation at the head of the loop's body. -/
def encAct (op a b : Int) (r : Row) (g h q : Nat) (x : Part) (Bo : Nat) : Act :=
  { tmps := #[instV op a b, .pointer (some ⟨g, 0, none⟩), .slice none 0 0, .int .i64 0, .pointer (some ⟨h, 0, none⟩), .bool true, .pointer (some ⟨h + 1, 0, none⟩), .pointer (some ⟨Bo, 0, none⟩), .int .i64 x.n, .tuple #[rowV r, .bool true],
      instV op a b, .tuple #[rowV r, .bool true], rowV r, .bool true, .bool true, .bool false, .pointer (some ⟨g, 0, none⟩), .int .i64 op, .int .u64 op, .pointer (some ⟨h + 1, 0, none⟩), rowV r, instV op a b,
      .func (.func 210) #[] #[.pointer (some ⟨q + 1, 0, none⟩), .pointer (some ⟨q, 0, none⟩)], .agg #[.int .i64 x.k, .int .i64 (lo x.k), .int .i64 (hi x.k), x.sh, x.gu], .int .i64 x.n,
      undef, undef, undef, undef], defers := [] }

set_option maxRecDepth 100000 in
set_option maxHeartbeats 4000000 in
theorem encode_yes (op a b : Int) (w : World) (hok : okI op a b = true) (ha : I64 a) (hb : I64 b) :
    Calls Tryz.prog 175 #[instV op a b] w fun e w' => ∃ v, e = .returned (.tuple #[v, .int .i64 0]) ∧ V.OwnB w' (Fresh w) v (bytesI op a b) ∧ Keep NoB w w' := by
  obtain ⟨r, hr⟩ : ∃ r, rowAt op = r := ⟨_, rfl⟩
  have hka := kinds_ok op
  have hkn := kinds_none op
  obtain ⟨ho, hia, hib⟩ := ok_op hok
  obtain ⟨m, rfl⟩ := Int.eq_ofNat_of_zero_le (isOp_yes ho).1
  have hm : m < 30 := by have := (isOp_yes ho).2; omega
  have HT : Hid (bytesI m a b = V.encL m ++ bytesP (partsL r.ka r.kb a b)) := by show _ = _; unfold bytesI; rw [hr, bytesP_parts _ _ _ _ (hr ▸ hkn)]; rfl
  have HR := Lib.hid (fun w => rowFor_any m a b r w (by rw [rowR_ok hok]; exact hr))
  rw [hr] at hka hia hib
  rw [hok] at HR
  have HA := Lib.hid (And.intro ha hia)
  have HB := Lib.hid (And.intro hb hib)
  have hw64 : IntKind.u64.wrap (m : Int) = (m : Int) := by simp [IntKind.wrap, IntKind.bits, IntKind.signed]; omega
  clear hok hr hkn ha hb ho hia hib
  refine (callsIn_wide (n := 4)).1 ?_
  refine callsIn_of_wp_marks Tryz.func175 rfl trivial ?_ rfl
  simp only [Tryz.ntmps175, List.size_toArray, List.length_cons, List.length_nil, Nat.reduceAdd, Nat.reduceSub, Array.replicate_succ, Array.replicate_zero, List.push_toArray, List.append_toArray, List.nil_append, List.cons_append]
  gi_wp2_with (refine ⟨trivial, ?_⟩; gi_at_call 193; refine (callsIn_wide.2 (HR.out _)).mono ?_; rintro e w1 ⟨rfl, k1⟩; have bi := (Blk.new w 63 #[.int .i64 m, .int .i64 a, .int .i64 b]).keep k1 id; have i0 : ∀ o o', ((w1.alloc o).alloc o').cell? ⟨w.heap.size, 0, none⟩ = some (.int .i64 m) := fun o o' => ((bi.alloc o).alloc o').cell 0)
  have ht := V.TapeAt.new (w1.alloc (.cells (cells9 r) 259))
  rw [World.size_alloc] at ht
  have hl0 := V.encL_len m
  refine ⟨trivial, ?_⟩
  refine (callsIn_wide.2 (V.tnumber_any _ (w1.heap.size + 1) _ [] m ht (fun k e => by subst e; simp) (by simp))).mono ?_
  rintro e w2 ⟨rfl, ht2, k2⟩
  have hsz : w.heap.size < w1.heap.size := by have := k1.size; simp at this; omega
  have hs2 : w1.heap.size + 1 < w2.heap.size := by have := k2.size; simp at this; omega
  have bi2 := ((bi.alloc (.cells (cells9 r) 259)).alloc (.cells #[.pointer none, .int .i64 0] 134)).keep k2 (by omega)
  have br2 := ((Blk.new w1 259 (cells9 r)).alloc (.cells #[.pointer none, .int .i64 0] 134)).keep k2 (by omega)
  have hK2 : Keep NoB w w2 := ((keepN ((Keep.refl NoB w).alloc _) k1).alloc _ |>.alloc _).trans k2 (fun k e hl => by omega)
  obtain ⟨c0, c1, c2, c3, c4, c5, c6, c7, c8⟩ := blk9 br2
  have d0 : w2.cell? ⟨w.heap.size, 0, none⟩ = some (.int .i64 m) := bi2.cell 0
  have d1 : w2.cell? ⟨w.heap.size, 1, none⟩ = some (.int .i64 a) := bi2.cell 1
  have d2 : w2.cell? ⟨w.heap.size, 2, none⟩ = some (.int .i64 b) := bi2.cell 2
  have HT2 := Lib.hid ht2
  clear ht2 ht bi i0 bi2 br2 k1 k2
  gi_wp2_with (refine ⟨trivial, ?_⟩; gi_at_call 194; refine (callsIn_wide.2 (parts_any r m a b _)).mono ?_; rintro e w3 ⟨rfl, br, bx, k3⟩)
  have hK3 : Keep NoB w w3 := keepN hK2 k3
  have hI0 : TapeI w (w1.heap.size + 1) (w2.heap.size + 1) w2.heap.size (V.encL m ++ bytesP (([] : List Part).map Part.key)) m a b r w3 := by
    have h1 := tape_cells HT2.out
    have h2 := h1.keep k3 (fun _ _ => id)
    refine ⟨_, by simpa [bytesP] using h2, ?_, bx, br, hK3⟩
    rintro k ⟨hk, hc⟩
    have hlt := hc.lt
    obtain ⟨cs, t, f, hh⟩ := hc
    refine ⟨⟨cs, t, f, (k3.block k hlt id).trans hh⟩, ?_, by omega, by omega⟩
    rcases hk with rfl | ⟨hk, _⟩
    · omega
    · simp at hk; omega
  clear c0 c1 c2 c3 c4 c5 c6 c7 c8 d0 d1 d2 HT2 hs2 hw64 HR
  have hI : OwnFrom w3.heap.size (fun (pre : List Part) W => TapeI w (w1.heap.size + 1) (w2.heap.size + 1) w2.heap.size (V.encL m ++ bytesP (pre.map Part.key)) m a b r W) :=
    tapeI_own hK3.size (w1.heap.size + 1) (w2.heap.size + 1) w2.heap.size (fun pre : List Part => V.encL m ++ bytesP (pre.map Part.key)) m a b r
  refine wpIn_rangeFunc_brings (m := 2) (gf := 210) (lb := #[.pointer (some ⟨w2.heap.size + 1, 0, none⟩), .pointer (some ⟨w2.heap.size, 0, none⟩)]) rfl (enters_of Tryz.func210 (by kernel_rfl) rfl)
    (parts1_in 2 r m a b (w2.heap.size + 1) w2.heap.size ⟨hka.1, hka.2.1⟩ hka.2.2 (fun pre W => TapeI w (w1.heap.size + 1) (w2.heap.size + 1) w2.heap.size (V.encL m ++ bytesP (pre.map Part.key)) m a b r W)
      (fun pre W ⟨_, _, _, h, _⟩ => h) (fun pre W ⟨_, _, _, _, h, _⟩ => h)) (fun _ => rfl) hI hI0
    (fun pre x a' W => TapeI w (w1.heap.size + 1) (w2.heap.size + 1) w2.heap.size (V.encL m ++ bytesP (pre.map Part.key)) m a b r W ∧ (∃ post, pre.map Part.key ++ x.key :: post = partsL r.ka r.kb a b) ∧ ∃ Bo, Blk W Bo 268 #[.int .i64 x.k, .int .i64 (lo x.k), .int .i64 (hi x.k), x.sh, x.gu] ∧ a' = encAct m a b r w.heap.size w1.heap.size w2.heap.size x Bo) ?hax ?assign ?body ?done
  case hax =>
    rintro pre x a' s X Y row ⟨h1, h2, Bo, h5, h6⟩ hg hrow
    exact ⟨hI _ _ _ _ h1 hg hrow, h2, Bo, blk_own (β := Unit) _ _ _ (fun _ => _) () _ _ _ h5 hg hrow, h6⟩
  case assign =>
    rintro l pre ⟨k, n, sh, gu⟩ W hi hen
    have hk0 := (part_facts hen HA.out.1 HB.out.1).1
    have hen2 := Lib.hid hen.1
    have hi2 := Lib.hid hi
    rcases hen.2 with ⟨h0, _⟩ | ⟨_, h1, h2⟩ | ⟨_, b1, c1, h1, h2, _, _⟩
    · exact absurd h0 hk0
    all_goals
      simp only at h1 h2
      subst h1 h2
      clear hen hi
      dsimp only [partE, opV]
      gi_wp2
      exact ⟨⟨tapeI_keep hi2.out ((Keep.refl NoB W).alloc _), hen2.out, W.heap.size, Blk.new W _ _, rfl⟩, keepsFrom_keep ((Keep.refl NoB W).alloc _)⟩
  case body =>
    rintro l pre ⟨k, n, sh, gu⟩ a' W ⟨⟨O, ht, hO, bx2, br2, hKW⟩, hen, Bo, bo, rfl⟩
    obtain ⟨post, hp⟩ := hen
    have hmem : ((k, n) : Int × Int) ∈ partsL r.ka r.kb a b := by rw [← hp]; simp [Part.key]
    have hk0 : k ≠ 0 := (parts_mem hmem).1
    have hn64 : -9223372036854775808 ≤ n ∧ n ≤ 9223372036854775807 := by
      rcases (parts_mem hmem).2 with e | e
      · simp only at e; rw [e]; exact HA.out.1
      · simp only at e; rw [e]; exact HB.out.1
    have hin : inK k n = true := parts_in hmem HA.out.2 HB.out.2
    have hl1 := bytesP_len (pre.map Part.key)
    have hl2 := congrArg List.length hp
    have hl3 := parts_len r.ka r.kb a b
    simp at hl1 hl2
    have HC := Lib.hid (write_any k n sh gu (w1.heap.size + 1) O (V.encL m ++ bytesP (pre.map Part.key)) W hk0 hin hn64 ht (fun j hj => (hO j hj).1.lt) (by rw [List.length_append]; omega))
    have o0 : W.cell? ⟨Bo, 0, none⟩ = some (.int .i64 k) := bo.cell 0
    have o1 : W.cell? ⟨Bo, 1, none⟩ = some (.int .i64 (lo k)) := bo.cell 1
    have o2 : W.cell? ⟨Bo, 2, none⟩ = some (.int .i64 (hi k)) := bo.cell 2
    have o3 : W.cell? ⟨Bo, 3, none⟩ = some sh := bo.cell 3
    have o4 : W.cell? ⟨Bo, 4, none⟩ = some gu := bo.cell 4
    have HX : Hid ((V.encL m ++ bytesP (pre.map Part.key)) ++ encP k n = V.encL m ++ bytesP (pre.map Part.key ++ [(⟨k, n, sh, gu⟩ : Part).key])) := by
      show _ = _
      rw [bytesP_snoc, List.append_assoc]
      rfl
    have HE := Lib.hid (fun (W' : World) (h1 : V.TapeAt W' (w1.heap.size + 1) (V.More O W W') ((V.encL m ++ bytesP (pre.map Part.key)) ++ encP k n)) (h2 : Keep O W W') => tapeI_wrote (B := w3.heap.size) hO bx2 br2 hKW h1 h2 HX.out)
    clear hp hmem hk0 hn64 hin hl1 hl2 hl3 ht hO bx2 br2 hKW bo HX
    dsimp only [encAct]
    gi_wp2_with (refine ⟨trivial, ?_⟩; gi_at_call 195; refine (CallsIn.inRound l (callsIn_wide.2 HC.out)).mono ?_; rintro e w4 ⟨rfl, h4, k4⟩)
    exact HE.out _ h4 k4
  case done =>
    rintro D xs W hD hS ⟨O, ht, hO, _, _, hKW⟩ hK
    rw [hS, ← HT.out] at ht
    have hlen : (bytesI m a b).length ≤ 140737488355328 := by
      have h1 := bytesP_len (partsL r.ka r.kb a b)
      have h2 := parts_len r.ka r.kb a b
      rw [HT.out, List.length_append]; omega
    have HC := Lib.hid (V.all_any W (w1.heap.size + 1) O (bytesI m a b) ht hlen)
    clear ht hO hlen
    gi_wp2_with (refine ⟨trivial, ?_⟩; gi_at_call 71; refine (callsIn_wide.2 HC.out).mono ?_; rintro e w4 ⟨v, rfl, h4, k4⟩)
    have hK4 := (k4.block _ (Array.getElem?_eq_some_iff.1 hK).1 id).trans hK
    refine ⟨by simp, .inl ⟨_, _, rfl, run_takeDeferred hK4, ?_⟩⟩
    exact ⟨_, results_tmp2 rfl _ _ _, v, rfl, ⟨ownsRow_putObj h4.1 _ hK4 rfl, fun g e => Nat.le_trans hKW.size (h4.2 g e)⟩, Keep_putObj (keepN hKW k4) (Nat.le_trans hK3.size hD)⟩

end Go.Proofs.YtgifflfjhockaaaGreatDoor.O

namespace Go.Proofs.YtgifflfjhockaaaGreatDoor.O
open Go.RowKit

set_option maxHeartbeats 1000000 in
theorem encode_any (op a b : Int) (w : World) (ha : I64 a) (hb : I64 b) :
    Calls Tryz.prog 175 #[instV op a b] w fun e w' => ∃ v, e = .returned (.tuple #[v, .int .i64 (chk op a b)]) ∧ V.OwnB w' (Fresh w) v (encI op a b) ∧ Keep NoB w w' := by
  cases hok : okI op a b
  · have hK := (Keep.refl NoB w).alloc (.cells #[.int .i64 op, .int .i64 a, .int .i64 b] 63)
    have HR := Lib.hid (fun w => rowFor_any op a b row0 w (rowR_no hok))
    rw [hok] at HR
    have HX : Hid (encI op a b = [] ∧ chk op a b = 40) := ⟨by unfold encI; rw [if_neg (by rw [hok]; decide)], by unfold chk; rw [if_neg (by rw [hok]; decide)]⟩
    clear hok ha hb
    go_enter Tryz.func175, Tryz.ntmps175
    go_wp2_with fail
    refine (HR.out _).mono ?_
    rintro e w1 ⟨rfl, k1⟩
    go_wp2
    go_ret2
    rw [HX.out.1, HX.out.2]
    exact ⟨_, rfl, V.OwnB.nil _ _, (keepN hK k1).alloc _⟩
  · refine (encode_yes op a b w hok ha hb).mono ?_
    rintro e w' ⟨v, rfl, hv, hk⟩
    refine ⟨v, ?_, ?_, hk⟩
    · unfold chk; rw [if_pos hok]
    · unfold encI; rw [if_pos hok]; exact hv

end Go.Proofs.YtgifflfjhockaaaGreatDoor.O

namespace Go.Proofs.YtgifflfjhockaaaGreatDoor.O
open Go.RowKit

theorem own_app {w w1 w2 : World} {v v' : Value} {l m : List UInt8} (hv : V.OwnB w1 (Fresh w) v l) (hk : Keep NoB w w1) (hown : w2.ownsRow 0 5 1 v' (l ++ m).length (V.bvs (l ++ m))) (hg : w1.grownBy w2 v.ownBlock)
    (hat : v'.ownBlock = v.ownBlock ∨ v'.ownBlock = some w1.heap.size) : V.OwnB w2 (Fresh w) v' (l ++ m) ∧ Keep NoB w w2 := by
  refine ⟨⟨hown, fun g e => ?_⟩, hk.grown hg (fun g e hlt => by have := hv.2 g e; unfold Fresh at this; omega)⟩
  rcases hat with h | h
  · rw [h] at e; exact hv.2 g e
  · rw [h] at e
    injection e with e
    subst e
    exact hk.size
theorem own_keep {w w1 w2 : World} {v : Value} {l : List UInt8} (hv : V.OwnB w1 (Fresh w) v l) (hk : Keep NoB w1 w2) : V.OwnB w2 (Fresh w) v l := hv.keep hk (fun _ _ => id)

theorem nat_of {k n : Int} (h1 : k ≠ 1) (h : inK k n = true) : ∃ m : Nat, n = (m : Int) ∧ m ≤ 511 := by
  have := (in_bounds h).2.1 h1
  exact ⟨n.toNat, by omega, by omega⟩
theorem wrap_u64 {m : Nat} (h : m ≤ 511) : IntKind.u64.wrap (m : Int) = (m : Int) := by simp [IntKind.wrap, IntKind.bits, IntKind.signed]; omega

theorem kind_one (op : Int) : (rowAt op).ka = 1 → (rowAt op).kb = 0 := by
  have := rowAt_all (p := fun r => decide (r.ka = 1 → r.kb = 0)) (by decide) (by decide) op
  exact of_decide_eq_true this
theorem kind_two (op : Int) : (rowAt op).kb ≠ 1 := by
  have := rowAt_all (p := fun r => decide (r.kb ≠ 1)) (by decide) (by decide) op
  simpa using this

set_option maxHeartbeats 2000000 in
theorem rbytes_any (op a b : Int) (w : World) (hok : okI op a b = true) :
    Calls Tryz.prog 185 #[instV op a b] w fun e w' => ∃ v, e = .returned v ∧ V.OwnB w' (Fresh w) v (bytesI op a b) ∧ Keep NoB w w' := by
  obtain ⟨ho, hA, hB⟩ := ok_op hok
  have hb := isOp_yes ho
  obtain ⟨o, rfl⟩ := Int.eq_ofNat_of_zero_le hb.1
  have hwo := wrap_u64 (m := o) (by omega)
  have HO := Lib.hid (fun w => V.refnum_any o w (by show _ < _; omega))
  have HK := Lib.hid (fun w => rkinds_any (o : Int) w)
  have hkk := kinds_ok (o : Int)
  have hkn := kinds_none (o : Int)
  have HX : Hid (bytesI o a b = V.encL o ++ (encP (rowAt o).ka a ++ encP (rowAt o).kb b)) := rfl
  have hl1 := V.encL_len o
  have hk1 := kind_one (o : Int)
  have hkb := kind_two (o : Int)
  clear ho hok hb
  generalize (rowAt (o : Int)).ka = ka at *
  generalize (rowAt (o : Int)).kb = kb at *
  have bx0 := Blk.new w 63 #[.int .i64 o, .int .i64 a, .int .i64 b]
  have gK := (Keep.refl NoB w).alloc (.cells #[.int .i64 o, .int .i64 a, .int .i64 b] 63)
  by_cases h0 : ka = 0
  · have h00 := hkn h0
    subst h0 h00
    have HX2 : Hid (bytesI o a b = V.encL o) := by show _ = _; rw [HX.out]; simp [encP_0]
    clear HX hA hB hkk hkn hk1 hkb
    go_enter Tryz.func185, Tryz.ntmps185
    go_wp2_with fail
    refine (HO.out _).mono ?_
    rintro e w1 ⟨v, rfl, hv, k1⟩
    obtain ⟨x0, x1, x2⟩ := blk_inst (bx0.keep k1 id)
    go_wp2_with fail
    refine (HK.out _).mono ?_
    rintro e w2 ⟨rfl, rfl⟩
    go_wp2
    go_ret
    rw [HX2.out]
    exact ⟨v, rfl, hv.mono (fun k hk _ => by unfold Fresh at hk ⊢; simp at hk; omega), keepN gK k1⟩
  · have q0 : decide (0 < ka) = true := by rw [decide_eq_true_iff]; omega
    by_cases h1 : ka = 1
    · subst h1
      have h00 := hk1 rfl
      subst h00
      have HX2 : Hid (bytesI o a b = V.encL o ++ V.encL (V.zig a)) := by show _ = _; rw [HX.out]; unfold encP; simp
      have hb1 := in_bounds hA
      have HZ := Lib.hid (fun w => V.rzig_any a w hb1.1.1 hb1.1.2)
      have HN := Lib.hid (fun w => V.refnum_any (V.zig a) w (V.zig_lt a hb1.1.1 hb1.1.2))
      have hl2 := V.encL_len (V.zig a)
      clear HX hA hB hkk hkn hk1 hb1 h0
      go_enter Tryz.func185, Tryz.ntmps185
      go_wp2_with fail
      refine (HO.out _).mono ?_
      rintro e w1 ⟨v, rfl, hv, k1⟩
      have bx := bx0.keep k1 id
      have hv : V.OwnB w1 (Fresh w) v (V.encL o) := hv.mono (fun k hk _ => by unfold Fresh at hk ⊢; simp at hk; omega)
      replace gK := keepN gK k1
      obtain ⟨x0, x1, x2⟩ := blk_inst bx
      go_wp2_with fail
      refine (HK.out _).mono ?_
      rintro e w2 ⟨rfl, rfl⟩
      go_wp2_with fail
      refine (HZ.out _).mono ?_
      rintro e w2 ⟨rfl, rfl⟩
      go_wp2_with fail
      refine (HN.out _).mono ?_
      rintro e w3 ⟨v2, rfl, hv2, k2⟩
      obtain ⟨A2, c2, rfl, _, hr2, _, _⟩ := hv2.form
      have hv3 := own_keep hv k2
      replace gK := keepN gK k2
      go_wp2_with (at_builtin; refine V.wpList_append_rd _ rfl _ _ rfl v (V.encL o) (V.encL (V.zig a)) A2 c2 rfl hv3.1 rfl hr2 (by omega) ?_; intro v' w4 hown' hg hat)
      go_ret
      rw [HX2.out]
      have := own_app hv3 gK hown' hg hat
      exact ⟨v', rfl, this.1, this.2⟩
    · have q1 : (ka == 1) = false := by rw [beq_eq_false_iff_ne]; exact h1
      obtain ⟨m, rfl, hm⟩ := nat_of h1 hA
      have hwm := wrap_u64 hm
      have HN := Lib.hid (fun w => V.refnum_any m w (by show _ < _; omega))
      have hl2 := V.encL_len m
      have e1 : encP ka (m : Int) = V.encL m := by unfold encP; rw [if_neg h0, if_neg h1]; simp
      by_cases h2 : kb = 0
      · subst h2
        have HX2 : Hid (bytesI o (m : Int) b = V.encL o ++ V.encL m) := by show _ = _; rw [HX.out, e1, encP_0]; simp
        clear HX hA hB hkk hkn hk1 h0 h1 e1 hm
        go_enter Tryz.func185, Tryz.ntmps185
        go_wp2_with fail
        refine (HO.out _).mono ?_
        rintro e w1 ⟨v, rfl, hv, k1⟩
        have bx := bx0.keep k1 id
        have hv : V.OwnB w1 (Fresh w) v (V.encL o) := hv.mono (fun k hk _ => by unfold Fresh at hk ⊢; simp at hk; omega)
        replace gK := keepN gK k1
        obtain ⟨x0, x1, x2⟩ := blk_inst bx
        go_wp2_with fail
        refine (HK.out _).mono ?_
        rintro e w2 ⟨rfl, rfl⟩
        go_wp2_with fail
        refine (HN.out _).mono ?_
        rintro e w3 ⟨v2, rfl, hv2, k2⟩
        obtain ⟨A2, c2, rfl, _, hr2, _, _⟩ := hv2.form
        have hv3 := own_keep hv k2
        replace gK := keepN gK k2
        go_wp2_with (at_builtin; refine V.wpList_append_rd _ rfl _ _ rfl v (V.encL o) (V.encL m) A2 c2 rfl hv3.1 rfl hr2 (by omega) ?_; intro v' w4 hown' hg hat)
        go_ret
        rw [HX2.out]
        have := own_app hv3 gK hown' hg hat
        exact ⟨v', rfl, this.1, this.2⟩
      · have hkb1 : kb ≠ 1 := hkb
        obtain ⟨n, rfl, hn⟩ := nat_of hkb1 hB
        have hwn := wrap_u64 hn
        have q2 : decide (0 < kb) = true := by rw [decide_eq_true_iff]; omega
        have HN2 := Lib.hid (fun w => V.refnum_any n w (by show _ < _; omega))
        have hl3 := V.encL_len n
        have e2 : encP kb (n : Int) = V.encL n := by unfold encP; rw [if_neg h2, if_neg hkb1]; simp
        have HX2 : Hid (bytesI o (m : Int) (n : Int) = (V.encL o ++ V.encL m) ++ V.encL n) := by show _ = _; rw [HX.out, e1, e2]; simp
        clear HX hA hB hkk hkn hk1 h0 h1 e1 e2 hm hn h2 hkb hkb1
        go_enter Tryz.func185, Tryz.ntmps185
        go_wp2_with fail
        refine (HO.out _).mono ?_
        rintro e w1 ⟨v, rfl, hv, k1⟩
        have bx := bx0.keep k1 id
        have hv : V.OwnB w1 (Fresh w) v (V.encL o) := hv.mono (fun k hk _ => by unfold Fresh at hk ⊢; simp at hk; omega)
        replace gK := keepN gK k1
        obtain ⟨x0, x1, x2⟩ := blk_inst bx
        go_wp2_with fail
        refine (HK.out _).mono ?_
        rintro e w2 ⟨rfl, rfl⟩
        go_wp2_with fail
        refine (HN.out _).mono ?_
        rintro e w3 ⟨v2, rfl, hv2, k2⟩
        obtain ⟨A2, c2, rfl, _, hr2, _, _⟩ := hv2.form
        have hv3 := own_keep hv k2
        have bx2 := bx.keep k2 id
        replace gK := keepN gK k2
        clear x0 x1 x2
        go_wp2_with (at_builtin; refine V.wpList_append_rd _ rfl _ _ rfl v (V.encL o) (V.encL m) A2 c2 rfl hv3.1 rfl hr2 (by omega) ?_; intro v' w4 hown' hg hat; have hap := own_app hv3 gK hown' hg hat; have hne : some w.heap.size ≠ v.ownBlock := (hv3.not_blk bx2 (by decide)).symm; have bx4 := bx2.grown hg hne; obtain ⟨x0, x1, x2⟩ := blk_inst bx4)
        go_wp2_with fail
        refine (HN2.out _).mono ?_
        rintro e w5 ⟨v5, rfl, hv5, k5⟩
        obtain ⟨A5, c5, rfl, _, hr5, _, _⟩ := hv5.form
        have hv6 := own_keep hap.1 k5
        have gK6 := keepN hap.2 k5
        go_wp2_with (at_builtin; refine V.wpList_append_rd _ rfl _ _ rfl v' (V.encL o ++ V.encL m) (V.encL n) A5 c5 rfl hv6.1 rfl hr5 (by simp; omega) ?_; intro v7 w7 hown7 hg7 hat7)
        go_ret
        rw [HX2.out]
        have := own_app hv6 gK6 hown7 hg7 hat7
        exact ⟨v7, rfl, this.1, this.2⟩

end Go.Proofs.YtgifflfjhockaaaGreatDoor.O

namespace Go.Proofs.YtgifflfjhockaaaGreatDoor.C
open Go.RowKit O

theorem bytesI_len (op a b : Int) : (bytesI op a b).length ≤ 27 := by
  unfold bytesI
  have h1 := V.encL_len op.toNat
  have h2 := encP_len (O.rowAt op).ka a
  have h3 := encP_len (O.rowAt op).kb b
  rw [List.length_append, List.length_append]
  omega
theorem byt_len : ∀ (l : List I3), (byt l).length ≤ 27 * l.length
  | [] => Nat.zero_le _
  | x :: l => by
    have h1 := bytesI_len x.1 x.2.1 x.2.2
    have h2 := byt_len l
    have e : byt (x :: l) = bytesI x.1 x.2.1 x.2.2 ++ byt l := rfl
    rw [e, List.length_append]
    simp only [List.length_cons]; omega
theorem wrap_n {n : Nat} (h : n ≤ 512) : IntKind.u64.wrap (n : Int) = (n : Int) := by simp [IntKind.wrap, IntKind.bits, IntKind.signed]; omega
theorem encB_ok {l : List I3} (h : okB l = true) : encB l = bytesB l := if_pos h
theorem encB_no {l : List I3} (h : okB l = false) : encB l = [] := if_neg (by rw [h]; decide)
theorem enc_one (op a b : Int) (w : World) (h : okI op a b = true) (ha : O.I64 a) (hb : O.I64 b) :
    Calls Tryz.prog 175 #[instV op a b] w fun e w' => ∃ v, e = .returned (.tuple #[v, .int .i64 0]) ∧ V.OwnB w' (Fresh w) v (bytesI op a b) ∧ Keep NoB w w' :=
  encode_yes op a b w h ha hb
/-- How Encode ends. -/
def EncR (w : World) (bs : List UInt8) (E : Int) (e : Ending) (w' : World) : Prop := ∃ v, e = .returned (.tuple #[v, .int .i64 E]) ∧ V.OwnB w' (Fresh w) v bs ∧ Keep NoB w w'
theorem encR_none {w w' : World} {E : Int} (h : Keep NoB w w') : EncR w [] E (.returned (.tuple #[.slice none 0 0, .int .i64 E])) w' := ⟨_, rfl, V.OwnB.nil _ _, h⟩
theorem ownB_older {w w0 w' : World} {v : Value} {l : List UInt8} (h : V.OwnB w' (Fresh w0) v l) (hk : Keep NoB w w0) : V.OwnB w' (Fresh w) v l := h.mono (fun _ hf _ => Nat.le_trans hk.size hf)

set_option maxRecDepth 100000 in
set_option maxHeartbeats 4000000 in
theorem cencode_any (A : Option Addr) (l : List I3) (n c : Nat) (w : World) (hr : Rd w A (iis l)) (hn : Hid (l.length = n)) (hI : Hid (AllI l)) (hm : n ≤ 9223372036854775807) :
    Calls Tryz.prog 131 #[.slice A n c] w (EncR w (encB l) (chkB l)) := by
  have hr0 := Lib.hid hr
  cases ho : okB l
  · rw [encB_no ho, chkB_no ho]
    have HC := Lib.hid (fun w hr => cchk_any A l n c w hr hn hm 50 (chkB_no ho))
    clear ho hr
    go_enter Tryz.func131, Tryz.ntmps131
    go_wp2_with (go_at_call 125; refine (HC.out _ hr0.out).mono ?_; rintro e w1 ⟨rfl, k1⟩)
    go_ret2
    exact encR_none k1
  · rw [encB_ok ho, chkB_ok ho]
    obtain ⟨h1, h5, _, hall⟩ := okB_parts ho
    rw [hn.out] at h1 h5
    have HC := Lib.hid (fun w hr => cchk_any A l n c w hr hn hm 0 (chkB_ok ho))
    have HA : Hid (∀ (k : Nat) (hk : k < l.length), okI l[k].1 l[k].2.1 l[k].2.2 = true) := fun k hk => (item_parts (okB_at ho hk)).1
    have HB : Hid (bytesB l = V.encL n ++ byt l) := by show _ = _; unfold bytesB; rw [hn.out]
    have hw64 := wrap_n h5
    have hl0 := V.encL_len n
    clear ho hr hall
    go_enter Tryz.func131, Tryz.ntmps131
    go_wp2_with fail
    refine (HC.out _ hr0.out).mono ?_
    rintro e w1 ⟨rfl, k1⟩
    have ht := V.TapeAt.new w1
    have hr1 := Lib.hid (hr0.out.keepN (k1.alloc (.cells #[.pointer none, .int .i64 0] 134)))
    have gK := k1.alloc (.cells #[.pointer none, .int .i64 0] 134)
    have hsz : w.heap.size ≤ w1.heap.size := k1.size
    go_wp2_with fail
    refine (V.tnumber_any _ w1.heap.size _ [] n ht (fun k e => by subst e; simp) (by simp)).mono ?_
    rintro e w2 ⟨rfl, ht2, k2⟩
    replace gK := gK.trans k2 (fun k e hl => by omega)
    have hr2 := Lib.hid (hr1.out.keep k2 (fun ad e ho => by
      have hlt : 0 < (iis l).length := by rw [iis_length, hn.out]; omega
      obtain ⟨g, off, e2, hc⟩ := hr0.out hlt
      rw [e2] at e; cases e
      obtain ⟨u, hu⟩ : ∃ u, (iis l)[0]? = some u := ⟨_, List.getElem?_eq_getElem hlt⟩
      have := World.block_lt_of_cell? w _ (hc 0 u hu)
      simp at this ho; omega))
    clear hr1 ht k1 k2
    rw [List.nil_append] at ht2
    go_wp2_with (go_at_call 71; refine (V.all_any w2 w1.heap.size _ (V.encL n) ht2 (by omega)).mono ?_; rintro e w3 ⟨v3, rfl, h3, k3⟩)
    have h3' := ownB_older h3 gK
    replace gK := keepN gK k3
    have hr3 := Lib.hid (hr2.out.keepN k3)
    clear ht2 h3 k3 hr2 hsz HC
    have gsz := gK.size
    go_loopw [5, 20] (fun v i wr => ∃ k : Nat, k ≤ n ∧ i = .int .i64 k ∧ V.OwnB wr (Fresh w) v (V.encL n ++ byt (l.take k)) ∧ Keep NoB w wr) (fun _ i _ => n - (intOf i).toNat)
    case atStart => exact ⟨0, Nat.zero_le _, rfl, by rw [List.take_zero]; simpa [byt] using h3', gK⟩
    case round =>
      obtain ⟨k, hk, rfl, hO, hK⟩ := hrel
      have hR := hr0.out.keepN hK
      clear h3' gK gsz hr3
      by_cases hlt : k < n
      · have hkl : k < l.length := by rw [hn.out]; exact hlt
        obtain ⟨g, off, rfl, hc⟩ := rdJ_at hR (by omega)
        obtain ⟨c0, c1, c2⟩ := hc k hkl
        have HT := Lib.hid (show l.take (k + 1) = l.take k ++ [l[k]] from List.take_succ_eq_append_getElem hkl)
        have hab := hI.out l[k] (List.getElem_mem hkl)
        have hok := HA.out k hkl
        have hl1 := byt_len (l.take k)
        rw [List.length_take] at hl1
        clear hc
        generalize l[k] = x at c0 c1 c2 HT hab hok
        obtain ⟨op, a, b⟩ := x
        dsimp only at c0 c1 c2 hab hok
        have HE := Lib.hid (fun w => enc_one op a b w hok hab.1 hab.2)
        have HX : Hid ((V.encL n ++ byt (l.take k)) ++ bytesI op a b = V.encL n ++ byt (l.take (k + 1))) := by show _ = _; rw [HT.out, byt_snoc, List.append_assoc]
        have hl2 := bytesI_len op a b
        have hl3 : (V.encL n ++ byt (l.take k)).length ≤ 20000 := by rw [List.length_append]; omega
        have hO1 := own_keep hO ((Keep.refl NoB wr).alloc (.cells #[.int .i64 op, .int .i64 a, .int .i64 b] 63))
        have hK1 := hK.alloc (.cells #[.int .i64 op, .int .i64 a, .int .i64 b] 63)
        have hR1 := hR.keepN ((Keep.refl NoB wr).alloc (.cells #[.int .i64 op, .int .i64 a, .int .i64 b] 63))
        clear hab hok HT hl1 hO hK hR hl0
        go_wp2_with fail
        refine (HE.out _).mono ?_
        rintro e w4 ⟨v4, rfl, h4, k4⟩
        obtain ⟨A4, c4, rfl, _, hr4, _, _⟩ := h4.form
        have hO2 := own_keep hO1 k4
        have hK2 := keepN hK1 k4
        have hR2 := hR1.keepN k4
        clear h4 k4 hO1 hK1 hR1 c0 c1 c2
        go_wp2_with (at_builtin; refine V.wpList_append_rd _ rfl _ _ rfl _ (V.encL n ++ byt (l.take k)) (bytesI op a b) A4 c4 rfl hO2.1 rfl hr4 (by omega) ?_; intro v5 w5 hown hg hat; obtain ⟨hO3, hK3⟩ := own_app hO2 hK2 hown hg hat; rw [HX.out] at hO3; clear hown hg hat)
        go_roundw
        case rel => exact ⟨k + 1, by omega, by go_num, hO3, hK3⟩
        case measure => simp [intOf]; omega
      · obtain rfl : k = n := by omega
        rw [List.take_of_length_le (by rw [hn.out]; omega), ← HB.out] at hO
        go_wp2
        go_ret2
        exact ⟨_, rfl, hO, hK⟩

end Go.Proofs.YtgifflfjhockaaaGreatDoor.C

namespace Go.Proofs.YtgifflfjhockaaaGreatDoor.C
open Go.RowKit O

end Go.Proofs.YtgifflfjhockaaaGreatDoor.C

namespace Go.Proofs.YtgifflfjhockaaaGreatDoor.F
open Go.RowKit W

theorem bytesB_len {l : List C.I3} (h : C.okB l = true) : (C.bytesB l).length ≤ 13840 := by
  have h1 := V.encL_len l.length
  have h2 := C.byt_len l
  obtain ⟨_, h5, _, _⟩ := C.okB_parts h
  unfold C.bytesB
  rw [List.length_append]
  omega
theorem str_of {S : ByteArray} {l : List UInt8} (h : S.data.toList = l) : S = V.str l := by subst h; rfl
theorem rd_mark (w : World) (l : List UInt8) (C : Array Value) (fr : Nat × Nat) (hC : ∀ (j : Nat) (u : Value), (V.bvs l)[j]? = some u → C[j]? = some u) :
    V.Rd (w.alloc (.cells C 5 fr)) (some ⟨w.heap.size, 0, none⟩) l := fun _ =>
  ⟨_, rfl, fun j u hu => by
    have e : (⟨w.heap.size, 0, none⟩ : Addr).add j = ⟨w.heap.size, j, none⟩ := by unfold Addr.add; split <;> simp_all
    rw [e, World.cell?_alloc_mark]
    exact hC j u hu⟩
theorem conv_name (w : World) (l : List UInt8) : ∃ w' c, (convert 9 26 (.string (V.str l))).run Tryz.prog w = .ok (.slice (some ⟨w.heap.size, 0, none⟩) l.length c) w' ∧ V.Rd w' (some ⟨w.heap.size, 0, none⟩) l ∧ Keep NoB w w' ∧ w.heap.size < w'.heap.size := by
  have h := run_bytes_of_string w 9 26 5 (V.str l) Tryz.underlying9 Tryz.underlying26 Tryz.underlying5
  refine ⟨_, _, h, ?_, ((Keep.refl NoB w).drew).alloc _, by simp⟩
  refine rd_mark w.drew l _ _ (fun j u hu => ?_)
  obtain ⟨hj, rfl⟩ := List.getElem?_eq_some_iff.1 hu
  rw [bytesRow_at (V.str l) _ j (by simpa using hj)]
  simp
end Go.Proofs.YtgifflfjhockaaaGreatDoor.F

namespace Go.Proofs.YtgifflfjhockaaaGreatDoor.F
open Go.RowKit W

/-- The bytes so far. -/
def Byt (W2 : World) (b : Nat) (bs : List UInt8) (w : World) : Prop := Keep (fun k => k = b) W2 w ∧ ∃ u, Blk w b 26 #[u] ∧ V.OwnB w (Fresh W2) u bs
/-- A writer: what encodes, the part, and where the bytes go, each in a cell of its own. -/
def WrV (k : Nat) (tc tp : TypeId) (enc : Value) (cells : Array Value) (b m : Nat) (v : Value) (w : World) : Prop :=
  ∃ c p q, v = askV k #[.pointer (some ⟨c, 0, none⟩), .pointer (some ⟨p, 0, none⟩), .pointer (some ⟨q, 0, none⟩)] ∧ (m ≤ c ∧ m ≤ p ∧ m ≤ q) ∧ Blk w c tc #[enc] ∧ Blk w p tp cells ∧ Blk w q 188 #[.pointer (some ⟨b, 0, none⟩)]
theorem WrV.keep {k : Nat} {tc tp : TypeId} {enc : Value} {cells : Array Value} {b m : Nat} {v : Value} {w w' : World} {O : Nat → Prop} (h : WrV k tc tp enc cells b m v w) (hk : Keep O w w') (hO : ∀ x, m ≤ x → ¬ O x) : WrV k tc tp enc cells b m v w' := by
  obtain ⟨c, p, q, e, ⟨m1, m2, m3⟩, h1, h2, h3⟩ := h
  exact ⟨c, p, q, e, ⟨m1, m2, m3⟩, h1.keep hk (hO _ m1), h2.keep hk (hO _ m2), h3.keep hk (hO _ m3)⟩
theorem Byt.keepN {W2 w w' : World} {b : Nat} {bs : List UInt8} (h : Byt W2 b bs w) (hk : Keep NoB w w') : Byt W2 b bs w' := by
  obtain ⟨h1, u, h2, h3⟩ := h
  exact ⟨h1.trans hk (fun _ h _ => h.elim), u, h2.keep hk id, h3.keep hk (fun _ _ => id)⟩
/-- What an encoder answers. -/
def EncA (w : World) (xs : List UInt8) (E : Int) (e : Ending) (w' : World) : Prop := ∃ v, e = .returned (.tuple #[v, .int .i64 E]) ∧ V.OwnB w' (Fresh w) v xs ∧ Keep NoB w w'

theorem wr_put {W2 w1 w' : World} {b : Nat} {bs xs : List UInt8} {u v' : Value} {u0 : Value} (hb2 : b < W2.heap.size) (hK : Keep (fun k => k = b) W2 w1) (hb : Blk w1 b 26 #[u0]) (hO : V.OwnB w1 (Fresh W2) u bs)
    (hown : w'.ownsRow 0 5 1 v' (bs ++ xs).length (V.bvs (bs ++ xs))) (hg : w1.drew.grownBy w' u.ownBlock) (hat : v'.ownBlock = u.ownBlock ∨ v'.ownBlock = some w1.drew.heap.size) : Byt W2 b (bs ++ xs) (w'.setCell ⟨b, 0, none⟩ v') := by
  have hF : ∀ g, v'.ownBlock = some g → Fresh W2 g := fun g e => by
    rcases hat with h | h
    · exact hO.2 g (h ▸ e)
    · rw [h] at e
      injection e with e
      subst e
      exact hK.size
  have hne : ∀ g, u.ownBlock = some g → g ≠ b := fun g e h => by have := hO.2 g e; unfold Fresh at this; omega
  have hb1 : Blk w' b 26 #[u0] := Blk.grown (show Blk w1.drew b 26 #[u0] from hb) hg (fun e => hne b e.symm rfl)
  have hK1 : Keep (fun k => k = b) W2 w' := hK.drew.grown hg (fun g e h => by have := hO.2 g e; unfold Fresh at this; omega)
  refine ⟨hK1.setCell (fun _ => rfl) _, v', ?_, ⟨?_, hF⟩⟩
  · have := hb1.put 0 v'
    simpa using this
  · exact ownsRow_keep hown ((Keep.refl (fun k => k = b) w').setCell (fun _ => rfl) _) (fun g e h => by have := hF g e; unfold Fresh at this; omega)

set_option maxRecDepth 100000 in
set_option maxHeartbeats 4000000 in
theorem writesStr_any (k b m : Nat) (S : ByteArray) (w : World) (hm : m ≤ w.heap.size) :
    Calls Tryz.prog 126 #[.pointer (some ⟨b, 0, none⟩), fnV k, .string S] w fun e w' => ∃ u, e = .returned u ∧ WrV 170 189 9 (fnV k) (#[.string S]) b m u w' ∧ Keep NoB w w' := by
  have hmf : ∀ (fn : Go.Fn) (first cap : Array Value) (w : World), (Instr.makeFunc fn first cap).run Tryz.prog w = .ok (.func fn first cap) w := fun _ _ _ _ => rfl
  have b0 := ((Blk.new w 188 #[.pointer (some ⟨b, 0, none⟩)]).alloc (.cells #[fnV k] 189)).alloc (.cells (#[.string S]) 9)
  have b1 := (Blk.new (w.alloc (.cells #[.pointer (some ⟨b, 0, none⟩)] 188)) 189 #[fnV k]).alloc (.cells (#[.string S]) 9)
  have b2 := Blk.new ((w.alloc (.cells #[.pointer (some ⟨b, 0, none⟩)] 188)).alloc (.cells #[fnV k] 189)) 9 (#[.string S])
  simp only [World.size_alloc] at b1 b2
  have k0 := (((Keep.refl NoB w).alloc (.cells #[.pointer (some ⟨b, 0, none⟩)] 188)).alloc (.cells #[fnV k] 189)).alloc (.cells (#[.string S]) 9)
  unfold fnV at *
  have HB0 := Lib.hid b0
  have HB1 := Lib.hid b1
  have HB2 := Lib.hid b2
  have HK := Lib.hid k0
  clear b0 b1 b2 k0
  go_enter Tryz.func126, Tryz.ntmps126
  go_wp2
  go_ret
  exact ⟨_, rfl, ⟨w.heap.size + 1, w.heap.size + 1 + 1, w.heap.size, rfl, ⟨by omega, by omega, hm⟩, HB1.out, HB2.out, HB0.out⟩, HK.out⟩

set_option maxRecDepth 100000 in
set_option maxHeartbeats 4000000 in
theorem wroteStr_any (k : Nat) (hcf : ∀ args w, (callFunc k args).run Tryz.prog w = .ok (.enter k args) w) (S : ByteArray) (W2 : World) (c p q b : Nat) (bs xs : List UInt8) (w : World) (hc : Blk w c 189 #[fnV k]) (hp : Blk w p 9 (#[.string S])) (hq : Blk w q 188 #[.pointer (some ⟨b, 0, none⟩)]) (hqb : q < W2.heap.size) (hb2 : b < W2.heap.size)
    (hB : Byt W2 b bs w) (hl : bs.length + xs.length ≤ 140737488355328) (E : Int) (a : Bool) (ha : (E == 0) = a)
    (HG : Hid (Calls Tryz.prog k #[.string S] w (EncA w xs E))) :
    Calls Tryz.prog 170 #[.pointer (some ⟨c, 0, none⟩), .pointer (some ⟨p, 0, none⟩), .pointer (some ⟨q, 0, none⟩)] w fun e w' => e = .returned (.bool a) ∧ Byt W2 b (bs ++ xs) w' := by
  obtain ⟨hK, u, hb, hO⟩ := hB
  have cc := hc.cell 0
  have cq := hq.cell 0
  unfold fnV at cc
  have cp : w.cell? ⟨p, 0, none⟩ = some (.string S) := hp.cell 0
  have hqne : q ≠ b := hq.ne hb (by decide)
  clear hc hp
  go_enter Tryz.func170, Tryz.ntmps170
  go_wp2_with fail
  refine HG.out.mono ?_
  rintro e w1 ⟨v, rfl, hv, k1⟩
  obtain ⟨A, cA, rfl, _, hr, _, _⟩ := hv.form
  have hb1 := hb.keep k1 id
  have hq1 := hq.keep k1 id
  have cq1 := hq1.cell 0
  have cb1 := hb1.cell 0
  simp at cq1 cb1
  have hO1 := hO.keep k1 (fun _ _ => id)
  have hK1 := hK.trans k1 (fun _ h _ => h.elim)
  obtain ⟨A0, c0, rfl, _, _, _, _⟩ := hO1.form
  have HX := Lib.hid (fun (A' : Option Addr) (c' : Nat) (w' : World) (hown : w'.ownsRow 0 5 1 (.slice A' (bs ++ xs).length c') (bs ++ xs).length (V.bvs (bs ++ xs))) (hg : w1.drew.grownBy w' (Value.slice A0 bs.length c0).ownBlock) (hat : (Value.slice A' (bs ++ xs).length c').ownBlock = (Value.slice A0 bs.length c0).ownBlock ∨ (Value.slice A' (bs ++ xs).length c').ownBlock = some w1.drew.heap.size) =>
    (show Byt W2 b (bs ++ xs) (w'.setCell ⟨b, 0, none⟩ (.slice A' (bs ++ xs).length c')) from wr_put hb2 hK1 hb1 hO1 hown hg hat))
  have HN1 : Hid (some b ≠ (Value.slice A0 bs.length c0).ownBlock) := fun e => absurd (hO1.2 b e.symm) (by unfold Fresh; omega)
  have HN2 : Hid (some q ≠ (Value.slice A0 bs.length c0).ownBlock) := fun e => absurd (hO1.2 q e.symm) (by unfold Fresh; omega)
  have hrow := hO1.1
  clear hv hO hb hq hK cc cp cq k1 HG
  go_wp2_with fail
  go_region_law ((refine V.step_append_rd _ (by rfl) _ _ (by rfl) (.slice A0 bs.length c0) bs xs A cA (by rfl) (by exact hrow) (by rfl) (by exact hr) hl ?_; intro A1 c1 w2 hown1 hgrow hat; have hs1 := Blk.grown (w' := w2) (by exact hb1) hgrow HN1.out; have ht1 := Blk.grown (w' := w2) (by exact hq1) hgrow HN2.out; have cs1 := hs1.cell 0; have fs1 := hs1.frozen 0; have ct1 := ht1.cell 0; have HD := Lib.hid (HX.out _ _ _ hown1 hgrow hat); simp at cs1 ct1))
  all_goals go_wp2
  all_goals go_ret
  all_goals exact ⟨rfl, by have h9 := HD.out; rw [List.length_append] at h9; exact h9⟩

set_option maxRecDepth 100000 in
set_option maxHeartbeats 4000000 in
theorem writesSig_any (k b m : Nat) (x y : Value) (w : World) (hm : m ≤ w.heap.size) :
    Calls Tryz.prog 128 #[.pointer (some ⟨b, 0, none⟩), fnV k, .agg #[x, y]] w fun e w' => ∃ u, e = .returned u ∧ WrV 172 191 57 (fnV k) (#[x, y]) b m u w' ∧ Keep NoB w w' := by
  have hmf : ∀ (fn : Go.Fn) (first cap : Array Value) (w : World), (Instr.makeFunc fn first cap).run Tryz.prog w = .ok (.func fn first cap) w := fun _ _ _ _ => rfl
  have b0 := ((Blk.new w 188 #[.pointer (some ⟨b, 0, none⟩)]).alloc (.cells #[fnV k] 191)).alloc (.cells (#[x, y]) 57)
  have b1 := (Blk.new (w.alloc (.cells #[.pointer (some ⟨b, 0, none⟩)] 188)) 191 #[fnV k]).alloc (.cells (#[x, y]) 57)
  have b2 := Blk.new ((w.alloc (.cells #[.pointer (some ⟨b, 0, none⟩)] 188)).alloc (.cells #[fnV k] 191)) 57 (#[x, y])
  simp only [World.size_alloc] at b1 b2
  have k0 := (((Keep.refl NoB w).alloc (.cells #[.pointer (some ⟨b, 0, none⟩)] 188)).alloc (.cells #[fnV k] 191)).alloc (.cells (#[x, y]) 57)
  unfold fnV at *
  have HB0 := Lib.hid b0
  have HB1 := Lib.hid b1
  have HB2 := Lib.hid b2
  have HK := Lib.hid k0
  clear b0 b1 b2 k0
  go_enter Tryz.func128, Tryz.ntmps128
  go_wp2
  go_ret
  exact ⟨_, rfl, ⟨w.heap.size + 1, w.heap.size + 1 + 1, w.heap.size, rfl, ⟨by omega, by omega, hm⟩, HB1.out, HB2.out, HB0.out⟩, HK.out⟩

set_option maxRecDepth 100000 in
set_option maxHeartbeats 4000000 in
theorem wroteSig_any (k : Nat) (hcf : ∀ args w, (callFunc k args).run Tryz.prog w = .ok (.enter k args) w) (x y : Value) (W2 : World) (c p q b : Nat) (bs xs : List UInt8) (w : World) (hc : Blk w c 191 #[fnV k]) (hp : Blk w p 57 (#[x, y])) (hq : Blk w q 188 #[.pointer (some ⟨b, 0, none⟩)]) (hqb : q < W2.heap.size) (hb2 : b < W2.heap.size)
    (hB : Byt W2 b bs w) (hl : bs.length + xs.length ≤ 140737488355328) (E : Int) (a : Bool) (ha : (E == 0) = a)
    (HG : Hid (Calls Tryz.prog k #[.agg #[x, y]] w (EncA w xs E))) :
    Calls Tryz.prog 172 #[.pointer (some ⟨c, 0, none⟩), .pointer (some ⟨p, 0, none⟩), .pointer (some ⟨q, 0, none⟩)] w fun e w' => e = .returned (.bool a) ∧ Byt W2 b (bs ++ xs) w' := by
  obtain ⟨hK, u, hb, hO⟩ := hB
  have cc := hc.cell 0
  have cq := hq.cell 0
  unfold fnV at cc
  have cp : w.cell? ⟨p, 0, none⟩ = some x := hp.cell 0
  have cp2 : w.cell? ⟨p, 1, none⟩ = some y := hp.cell 1
  have hqne : q ≠ b := hq.ne hb (by decide)
  clear hc hp
  go_enter Tryz.func172, Tryz.ntmps172
  go_wp2_with fail
  refine HG.out.mono ?_
  rintro e w1 ⟨v, rfl, hv, k1⟩
  obtain ⟨A, cA, rfl, _, hr, _, _⟩ := hv.form
  have hb1 := hb.keep k1 id
  have hq1 := hq.keep k1 id
  have cq1 := hq1.cell 0
  have cb1 := hb1.cell 0
  simp at cq1 cb1
  have hO1 := hO.keep k1 (fun _ _ => id)
  have hK1 := hK.trans k1 (fun _ h _ => h.elim)
  obtain ⟨A0, c0, rfl, _, _, _, _⟩ := hO1.form
  have HX := Lib.hid (fun (A' : Option Addr) (c' : Nat) (w' : World) (hown : w'.ownsRow 0 5 1 (.slice A' (bs ++ xs).length c') (bs ++ xs).length (V.bvs (bs ++ xs))) (hg : w1.drew.grownBy w' (Value.slice A0 bs.length c0).ownBlock) (hat : (Value.slice A' (bs ++ xs).length c').ownBlock = (Value.slice A0 bs.length c0).ownBlock ∨ (Value.slice A' (bs ++ xs).length c').ownBlock = some w1.drew.heap.size) =>
    (show Byt W2 b (bs ++ xs) (w'.setCell ⟨b, 0, none⟩ (.slice A' (bs ++ xs).length c')) from wr_put hb2 hK1 hb1 hO1 hown hg hat))
  have HN1 : Hid (some b ≠ (Value.slice A0 bs.length c0).ownBlock) := fun e => absurd (hO1.2 b e.symm) (by unfold Fresh; omega)
  have HN2 : Hid (some q ≠ (Value.slice A0 bs.length c0).ownBlock) := fun e => absurd (hO1.2 q e.symm) (by unfold Fresh; omega)
  have hrow := hO1.1
  clear hv hO hb hq hK cc cp cq k1 HG
  go_wp2_with fail
  go_region_law ((refine V.step_append_rd _ (by rfl) _ _ (by rfl) (.slice A0 bs.length c0) bs xs A cA (by rfl) (by exact hrow) (by rfl) (by exact hr) hl ?_; intro A1 c1 w2 hown1 hgrow hat; have hs1 := Blk.grown (w' := w2) (by exact hb1) hgrow HN1.out; have ht1 := Blk.grown (w' := w2) (by exact hq1) hgrow HN2.out; have cs1 := hs1.cell 0; have fs1 := hs1.frozen 0; have ct1 := ht1.cell 0; have HD := Lib.hid (HX.out _ _ _ hown1 hgrow hat); simp at cs1 ct1))
  all_goals go_wp2
  all_goals go_ret
  all_goals exact ⟨rfl, by have h9 := HD.out; rw [List.length_append] at h9; exact h9⟩

set_option maxRecDepth 100000 in
set_option maxHeartbeats 4000000 in
theorem writesBod_any (k b m : Nat) (D : Option Addr) (nd cd : Nat) (w : World) (hm : m ≤ w.heap.size) :
    Calls Tryz.prog 130 #[.pointer (some ⟨b, 0, none⟩), fnV k, .slice D nd cd] w fun e w' => ∃ u, e = .returned u ∧ WrV 174 193 59 (fnV k) (#[.slice D nd cd]) b m u w' ∧ Keep NoB w w' := by
  have hmf : ∀ (fn : Go.Fn) (first cap : Array Value) (w : World), (Instr.makeFunc fn first cap).run Tryz.prog w = .ok (.func fn first cap) w := fun _ _ _ _ => rfl
  have b0 := ((Blk.new w 188 #[.pointer (some ⟨b, 0, none⟩)]).alloc (.cells #[fnV k] 193)).alloc (.cells (#[.slice D nd cd]) 59)
  have b1 := (Blk.new (w.alloc (.cells #[.pointer (some ⟨b, 0, none⟩)] 188)) 193 #[fnV k]).alloc (.cells (#[.slice D nd cd]) 59)
  have b2 := Blk.new ((w.alloc (.cells #[.pointer (some ⟨b, 0, none⟩)] 188)).alloc (.cells #[fnV k] 193)) 59 (#[.slice D nd cd])
  simp only [World.size_alloc] at b1 b2
  have k0 := (((Keep.refl NoB w).alloc (.cells #[.pointer (some ⟨b, 0, none⟩)] 188)).alloc (.cells #[fnV k] 193)).alloc (.cells (#[.slice D nd cd]) 59)
  unfold fnV at *
  have HB0 := Lib.hid b0
  have HB1 := Lib.hid b1
  have HB2 := Lib.hid b2
  have HK := Lib.hid k0
  clear b0 b1 b2 k0
  go_enter Tryz.func130, Tryz.ntmps130
  go_wp2
  go_ret
  exact ⟨_, rfl, ⟨w.heap.size + 1, w.heap.size + 1 + 1, w.heap.size, rfl, ⟨by omega, by omega, hm⟩, HB1.out, HB2.out, HB0.out⟩, HK.out⟩

set_option maxRecDepth 100000 in
set_option maxHeartbeats 4000000 in
theorem wroteBod_any (k : Nat) (hcf : ∀ args w, (callFunc k args).run Tryz.prog w = .ok (.enter k args) w) (D : Option Addr) (nd cd : Nat) (W2 : World) (c p q b : Nat) (bs xs : List UInt8) (w : World) (hc : Blk w c 193 #[fnV k]) (hp : Blk w p 59 (#[.slice D nd cd])) (hq : Blk w q 188 #[.pointer (some ⟨b, 0, none⟩)]) (hqb : q < W2.heap.size) (hb2 : b < W2.heap.size)
    (hB : Byt W2 b bs w) (hl : bs.length + xs.length ≤ 140737488355328) (E : Int) (a : Bool) (ha : (E == 0) = a)
    (HG : Hid (Calls Tryz.prog k #[.slice D nd cd] w (EncA w xs E))) :
    Calls Tryz.prog 174 #[.pointer (some ⟨c, 0, none⟩), .pointer (some ⟨p, 0, none⟩), .pointer (some ⟨q, 0, none⟩)] w fun e w' => e = .returned (.bool a) ∧ Byt W2 b (bs ++ xs) w' := by
  obtain ⟨hK, u, hb, hO⟩ := hB
  have cc := hc.cell 0
  have cq := hq.cell 0
  unfold fnV at cc
  have cp : w.cell? ⟨p, 0, none⟩ = some (.slice D nd cd) := hp.cell 0
  have hqne : q ≠ b := hq.ne hb (by decide)
  clear hc hp
  go_enter Tryz.func174, Tryz.ntmps174
  go_wp2_with fail
  refine HG.out.mono ?_
  rintro e w1 ⟨v, rfl, hv, k1⟩
  obtain ⟨A, cA, rfl, _, hr, _, _⟩ := hv.form
  have hb1 := hb.keep k1 id
  have hq1 := hq.keep k1 id
  have cq1 := hq1.cell 0
  have cb1 := hb1.cell 0
  simp at cq1 cb1
  have hO1 := hO.keep k1 (fun _ _ => id)
  have hK1 := hK.trans k1 (fun _ h _ => h.elim)
  obtain ⟨A0, c0, rfl, _, _, _, _⟩ := hO1.form
  have HX := Lib.hid (fun (A' : Option Addr) (c' : Nat) (w' : World) (hown : w'.ownsRow 0 5 1 (.slice A' (bs ++ xs).length c') (bs ++ xs).length (V.bvs (bs ++ xs))) (hg : w1.drew.grownBy w' (Value.slice A0 bs.length c0).ownBlock) (hat : (Value.slice A' (bs ++ xs).length c').ownBlock = (Value.slice A0 bs.length c0).ownBlock ∨ (Value.slice A' (bs ++ xs).length c').ownBlock = some w1.drew.heap.size) =>
    (show Byt W2 b (bs ++ xs) (w'.setCell ⟨b, 0, none⟩ (.slice A' (bs ++ xs).length c')) from wr_put hb2 hK1 hb1 hO1 hown hg hat))
  have HN1 : Hid (some b ≠ (Value.slice A0 bs.length c0).ownBlock) := fun e => absurd (hO1.2 b e.symm) (by unfold Fresh; omega)
  have HN2 : Hid (some q ≠ (Value.slice A0 bs.length c0).ownBlock) := fun e => absurd (hO1.2 q e.symm) (by unfold Fresh; omega)
  have hrow := hO1.1
  clear hv hO hb hq hK cc cp cq k1 HG
  go_wp2_with fail
  go_region_law ((refine V.step_append_rd _ (by rfl) _ _ (by rfl) (.slice A0 bs.length c0) bs xs A cA (by rfl) (by exact hrow) (by rfl) (by exact hr) hl ?_; intro A1 c1 w2 hown1 hgrow hat; have hs1 := Blk.grown (w' := w2) (by exact hb1) hgrow HN1.out; have ht1 := Blk.grown (w' := w2) (by exact hq1) hgrow HN2.out; have cs1 := hs1.cell 0; have fs1 := hs1.frozen 0; have ct1 := ht1.cell 0; have HD := Lib.hid (HX.out _ _ _ hown1 hgrow hat); simp at cs1 ct1))
  all_goals go_wp2
  all_goals go_ret
  all_goals exact ⟨rfl, by have h9 := HD.out; rw [List.length_append] at h9; exact h9⟩

end Go.Proofs.YtgifflfjhockaaaGreatDoor.F

namespace Go.Proofs.YtgifflfjhockaaaGreatDoor.F
open Go.RowKit W

set_option maxRecDepth 100000 in
set_option maxHeartbeats 4000000 in
theorem encName_any (S : ByteArray) (s : List UInt8) (hS : S.data.toList = s) (hl : s.length ≤ 1000) (w : World) : Calls Tryz.prog 127 #[.string S] w (EncA w (V.encL s.length ++ s) 0) := by
  have hcv : ∀ w : World, ∃ w' c, (convert 9 26 (.string S)).run Tryz.prog w = .ok (.slice (some ⟨w.heap.size, 0, none⟩) s.length c) w' ∧ V.Rd w' (some ⟨w.heap.size, 0, none⟩) s ∧ Keep NoB w w' ∧ w.heap.size < w'.heap.size := fun w => by rw [str_of hS]; exact conv_name w s
  have ht := V.TapeAt.new w
  have k0 := (Keep.refl NoB w).alloc (.cells #[.pointer none, .int .i64 0] 134)
  have hel := V.encL_len s.length
  obtain ⟨wc, cc, hcv2, hrc, kc, hz⟩ := hcv (w.alloc (.cells #[.pointer none, .int .i64 0] 134))
  simp only [World.size_alloc] at hrc hz
  have HT := Lib.hid (V.tbytes_any wc w.heap.size _ [] s _ cc (ht.keep kc (fun _ _ h => h.elim)) (fun k hk => by subst hk; omega) hrc (fun ad e => by injection e with e; subst e; exact ⟨by show ¬ (w.heap.size + 1 = w.heap.size); omega, hz⟩) (by simp; omega))
  rw [List.nil_append] at HT
  have hlx : (V.encL s.length ++ s).length ≤ 1009 := by rw [List.length_append]; omega
  generalize V.encL s.length ++ s = xs at HT hlx ⊢
  clear hS ht hcv hl hel
  go_enter Tryz.func127, Tryz.ntmps127
  go_wp2_with fail
  refine HT.out.mono ?_
  rintro e w2 ⟨rfl, h2, k2⟩
  have kA : Keep NoB w w2 := (k0.trans kc (fun _ h _ => h.elim)).trans k2 (fun k e hl => by subst e; omega)
  clear hrc hcv2 kc k0 HT
  go_wp2_with fail
  refine (V.all_any _ _ _ _ h2 (by omega)).mono ?_
  rintro e w3 ⟨v, rfl, hO, k3⟩
  obtain ⟨A3, c3, rfl, _, _, _, _⟩ := hO.form
  have HO := Lib.hid (hO.mono (fun k (hf : Fresh w2 k) _ => (Nat.le_trans kA.size hf : Fresh w k)))
  have HK := Lib.hid (keepN kA k3)
  clear hO k2 k3 h2 kA
  go_wp2
  go_ret2
  exact ⟨_, rfl, HO.out, HK.out⟩

end Go.Proofs.YtgifflfjhockaaaGreatDoor.F
