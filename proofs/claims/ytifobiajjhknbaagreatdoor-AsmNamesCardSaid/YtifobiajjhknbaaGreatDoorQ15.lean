/-
  Which parts may be: IndexFunc and ContainsFunc over what lies in memory, and may, of shapes and of functions. Conditions: what is asked answers by its contract.
  The iterator of an image's functions, with their numbers; and Find, the program's and the document's. Conditions: the image's lists lie in memory; a round keeps them.
  Are no two functions of one name: the program's apart, by the iterator and a map. Conditions: the image's lists lie in memory; no more than 1000 functions.
  Which images may be: what Check of layer image answers. Conditions: the image's lists lie in memory, each below 2^47.
  What layer asm's read answers: a reader that holds what a text says, or what is wrong, and in which line. Conditions: the text is not too long; what is laid is laid.
  Parts read from a Reel: how many, and these: what read answers, of shapes and of functions. Conditions: the Reel reads bytes in memory, no more than 2^47.
  What stands between Magic and the sum: what inner answers. Conditions: the bytes lie in memory, no more than 2^47.
  The sum of bytes: the program's, over any number of parts, and the document's; a sum's four bytes. Conditions: the parts lie in memory; no more than 2^31 bytes.
  bytes.Equal, bytes.HasPrefix, bytes.CutPrefix: what they answer of bytes in memory. No conditions but that the bytes lie in memory.
  What the document's Encode answers. Conditions: the operands fit an int64.
  What Encode of layer code answers, the program's and the document's: a body's bytes. Conditions: the list lies in memory; numbers fit an int64.
  What the document's Named answers. Conditions: the name's length fits an int64.
  The document's Types and Check of layer function. Conditions: the function's lists lie in memory, and are no longer than statements go through.
  What the document's Bytes and Encode of layer code answer. Conditions: the list lies in memory; numbers fit an int64.
  The document's bytes of a function: Bytes and Encode. Conditions: the function's lists lie in memory, and are no longer than statements go through.
  What the closures of writes do: a part's bytes behind others; a name's bytes. Conditions: what encodes answers by its contract.
  A name's bytes: what encodeName answers. Conditions: the name is no longer than statements go through.
  What Encode of layer function answers: a function's bytes. Conditions: the function's lists lie in memory, and are no longer than statements go through.
  Parts' bytes: what write answers, of shapes and of functions. Conditions: the parts lie in memory, and may be; no more than 64.
  slices.Concat of parts of bytes, and slices.Grow of the nil slice. Conditions: the parts lie in memory; no more than 2^46 bytes in all.
  A region that draws its order, by what each of its values is, as in KProps5; what binds in the text's order alone, or in the compiler's alone, is not asked about. No program, no conditions.
  A region that draws its order, by what each of its values is, as in KProps6; one operation changes the world by a relation of one's own. No program, no conditions.
  What Encode of layer image answers: an image's bytes. Conditions: the image's lists lie in memory, each below 2^47.
  An argument that is a list of instructions, opened: an address from which its cells stand; its numbers fit. No conditions.
  What Decode of layer image answers: bytes' image, or what is wrong. Conditions: the bytes lie in memory, no more than 2^30.
  What the laws' own one and alive answer. No conditions.
  ImageSums' walk: the sum of bytes hangs on no parting; one byte changed, it is another one; all noughts, it tells how many there are. Conditions: the bytes lie in memory.
  ImageTurned's walk: an image's bytes of which one was changed, or that were cut, or with one more behind, are no image's. Conditions: the image's lists lie in memory, each below 2^47.
  ImageBack's walk: an image is read from its bytes as it was; what is read of any bytes has just these. Conditions: the image's lists, and the bytes, lie in memory, each list below 2^47.
  What Parse of layer asm answers, as the reader says it. Conditions: the text is not too long; what is laid is laid.
  The plain mathematics of layer asm's reader: what it says of a text is what the text says. No program, no conditions.
  What Labels of layer asm answers: the labels of a text's function. Conditions: the text is not too long; what is laid is laid.
  What the law's wrong answers, of lines that are wrong so. Conditions: what the program's Parse answers, in worlds of a class that making memory keeps; the lines lie in memory.
-/
import Derived.ChangeSame
import Derived.Deep.Fields
import Derived.Deep.OwnRows
import Derived.Deep.Slices
import Derived.Deep.Strs
import Derived.Laws.BitsAllLaws
import Derived.Laws.EntriesVeiled
import Derived.Lib.AppendZeros
import Derived.Lib.SlBytesConst
import Derived.Test.YtifobiajjhknbaaGreatDoorQ7
import Derived.Test.YtifobiajjhknbaaGreatDoorQ8
import Derived.Test.YtifobiajjhknbaaGreatDoorQ4
import Derived.Test.YtifobiajjhknbaaGreatDoorQ10
import Derived.Test.YtifobiajjhknbaaGreatDoorQ2
import Derived.Test.YtifobiajjhknbaaGreatDoorQ14
import Derived.Test.YtifobiajjhknbaaGreatDoorQ5
import Derived.Test.YtifobiajjhknbaaGreatDoorQ3
import Derived.Test.YtifobiajjhknbaaGreatDoorQ13
import Derived.Test.YtifobiajjhknbaaGreatDoorQ6
import Derived.Test.YtifobiajjhknbaaGreatDoorQ11
namespace Go.Proofs.YtifobiajjhknbaaGreatDoor.I
open Go.RowKit W

set_option maxRecDepth 100000 in
set_option maxHeartbeats 4000000 in
theorem indexS_any (A : Option Addr) (es : List SE) (n c k b : Nat) (w : World) (hcf : ∀ args w, (callFunc k args).run Tryz.prog w = .ok (.enter k args) w) (hr : Hid (∀ W, Keep NoB w W → Rd W A (svs es))) (hn : Hid (es.length = n)) (hm : n ≤ 1000) (bs : Nat → Bool)
    (hq : Hid (∀ i (h : i < es.length) W, Keep NoB w W → Calls Tryz.prog k #[es[i].1.val, .pointer (some ⟨b, 0, none⟩)] W fun e W' => e = .returned (.bool (bs i)) ∧ Keep NoB W W')) :
    Calls Tryz.prog 113 #[.slice A n c, .func (.func k) #[] #[.pointer (some ⟨b, 0, none⟩)]] w fun e w' => ∃ R : Int, e = .returned (.int .i64 R) ∧ ((0 ≤ R ∧ ∃ i, i < n ∧ bs i = true) ∨ (R = -1 ∧ ∀ i, i < n → bs i = false)) ∧ Keep NoB w w' := by
  go_enter Tryz.func113, Tryz.ntmps113
  go_wp2
  go_loopw [8] (fun i wr => ∃ j : Nat, j ≤ n ∧ i = .int .i64 j ∧ Hid (∀ t, t < j → bs t = false) ∧ Keep NoB w wr) (fun i _ => n - (intOf i).toNat)
  case atStart => exact ⟨0, Nat.zero_le _, rfl, fun t h => absurd h (by omega), Keep.refl _ _⟩
  case round =>
    obtain ⟨j, hj, rfl, hB, hK⟩ := hrel
    by_cases hlt : j < n
    · have hje : j < es.length := by rw [hn.out]; exact hlt
      obtain ⟨g, off, rfl, c0⟩ := shape_at (hr.out _ hK) hje
      have HQ := Lib.hid (hq.out j hje _ hK)
      generalize es[j] = e at c0 HQ
      obtain ⟨⟨A1, n1, d1⟩, l⟩ := e
      dsimp only [SV.val] at c0 HQ
      obtain ⟨bj, hbj⟩ : ∃ x, bs j = x := ⟨_, rfl⟩
      rw [hbj] at HQ
      have HBJ := Lib.hid hbj
      clear hbj
      go_wp2_with fail
      refine HQ.out.mono ?_
      rintro e w1 ⟨rfl, k1⟩
      replace hK := keepN hK k1
      cases bj
      · go_wp2
        go_roundw
        case rel => exact ⟨j + 1, by omega, by go_num, fun t ht => (by
          rcases Nat.lt_succ_iff_lt_or_eq.1 ht with h | rfl
          · exact hB.out t h
          · exact HBJ.out), hK⟩
        case measure => simp [intOf]; omega
      · go_wp2
        go_ret
        exact ⟨_, rfl, .inl ⟨by omega, j, hlt, HBJ.out⟩, hK⟩
    · obtain rfl : j = n := by omega
      go_wp2
      go_ret
      exact ⟨_, rfl, .inr ⟨rfl, hB.out⟩, hK⟩

set_option maxRecDepth 100000 in
set_option maxHeartbeats 2000000 in
theorem containsS_any (A : Option Addr) (es : List SE) (n c k b : Nat) (w : World) (hcf : ∀ args w, (callFunc k args).run Tryz.prog w = .ok (.enter k args) w) (hr : Hid (∀ W, Keep NoB w W → Rd W A (svs es))) (hn : Hid (es.length = n)) (hm : n ≤ 1000) (bs : Nat → Bool)
    (hq : Hid (∀ i (h : i < es.length) W, Keep NoB w W → Calls Tryz.prog k #[es[i].1.val, .pointer (some ⟨b, 0, none⟩)] W fun e W' => e = .returned (.bool (bs i)) ∧ Keep NoB W W'))
    (B : Bool) (h1 : Hid ((∃ i, i < n ∧ bs i = true) → B = true)) (h0 : Hid ((∀ i, i < n → bs i = false) → B = false)) :
    Calls Tryz.prog 78 #[.slice A n c, .func (.func k) #[] #[.pointer (some ⟨b, 0, none⟩)]] w fun e w' => e = .returned (.bool B) ∧ Keep NoB w w' := by
  have HI := Lib.hid (indexS_any A es n c k b w hcf hr hn hm bs hq)
  clear hq hr hcf
  go_enter Tryz.func78, Tryz.ntmps78
  go_wp2_with fail
  refine HI.out.mono ?_
  rintro e w1 ⟨R, rfl, hR, k1⟩
  rcases hR with ⟨h2, h3⟩ | ⟨rfl, h3⟩
  · obtain rfl : B = true := h1.out h3
    have hd : decide ((0 : Int) ≤ R) = true := decide_eq_true h2
    clear h3 h1 h0
    go_wp2
    go_ret
    exact ⟨rfl, k1⟩
  · obtain rfl : B = false := h0.out h3
    clear h3 h1 h0
    go_wp2
    go_ret
    exact ⟨rfl, k1⟩

set_option maxRecDepth 100000 in
set_option maxHeartbeats 2000000 in
theorem asksS_any (k : Nat) (hcf : ∀ args w, (callFunc k args).run Tryz.prog w = .ok (.enter k args) w) (v : SV) (b : Nat) (w : World) (u0 u1 u3 u4 u5 : Value) (hb : Blk w b 104 #[u0, u1, F.fnV k, u3, u4, u5]) (R : Int) (B : Bool) (hB : (R != 0) = B)
    (HG : Hid (∀ W, Keep NoB w W → Calls Tryz.prog k #[v.val] W fun e w' => e = .returned (.int .i64 R) ∧ Keep NoB W w')) :
    Calls Tryz.prog 79 #[v.val, .pointer (some ⟨b, 0, none⟩)] w fun e w' => e = .returned (.bool B) ∧ Keep NoB w w' := by
  have c2 := hb.cell 2
  unfold F.fnV at c2
  simp only [List.getElem?_toArray, List.getElem?_cons_zero, List.getElem?_cons_succ] at c2
  clear hb
  dsimp only [SV.val] at HG ⊢
  go_enter Tryz.func79, Tryz.ntmps79
  go_wp2_with fail
  refine (HG.out _ (Keep.refl _ _)).mono ?_
  rintro e w1 ⟨rfl, k1⟩
  go_wp2
  go_ret
  exact ⟨rfl, k1⟩

/-- What an image's parts of this kind have. -/
def partS : Value := .agg #[.int .i64 0, .int .i64 64, F.fnV 56, F.fnV 80, F.fnV 81, F.fnV 82]
theorem partS_size : (Tryz.prog.info? 104).map (·.size) = some 6 := by kernel_rfl
set_option maxRecDepth 100000 in
set_option maxHeartbeats 2000000 in
theorem partsS_any (w : World) : Calls Tryz.prog 47 #[] w fun e w' => e = .returned partS ∧ Keep NoB w w' := by
  have bz := Blk.new w 104 #[.int .i64 0, .int .i64 64, F.fnV 56, F.fnV 80, F.fnV 81, F.fnV 82]
  have k0 := (Keep.refl NoB w).alloc (.cells #[.int .i64 0, .int .i64 64, F.fnV 56, F.fnV 80, F.fnV 81, F.fnV 82] 104)
  have HB := Lib.hid bz
  have HK := Lib.hid k0
  unfold partS F.fnV at *
  clear bz k0
  go_enter Tryz.func47, Tryz.ntmps47
  go_wp2
  refine bodyPost_ret (results_cell_row rfl _ _ w.heap.size 104 _ (0, 0) _ rfl HB.out Tryz.underlying104 rfl partS_size) rfl ?_
  exact ⟨rfl, HK.out⟩

/-- What may answers. -/
def mayS (l : List SE) : Bool := decide (0 ≤ l.length ∧ l.length ≤ 64) && l.all fun e => S.okS e.2
set_option maxRecDepth 100000 in
set_option maxHeartbeats 4000000 in
theorem mayS_any (A : Option Addr) (es : List SE) (n c : Nat) (w : World) (hr : Hid (∀ W, Keep NoB w W → Rd W A (svs es))) (hn : Hid (es.length = n)) (hm : n ≤ 9223372036854775807) (he : Hid (∀ e ∈ es, ∀ W, Keep NoB w W → Calls Tryz.prog 56 #[e.1.val] W fun r W' => r = .returned (.int .i64 (S.chkS e.2)) ∧ Keep NoB W W')) :
    Calls Tryz.prog 46 #[.slice A n c, partS] w fun r w' => r = .returned (.bool (mayS es)) ∧ Keep NoB w w' := by
  have bz := Blk.new w 104 #[.int .i64 0, .int .i64 64, F.fnV 56, F.fnV 80, F.fnV 81, F.fnV 82]
  have k0 := (Keep.refl NoB w).alloc (.cells #[.int .i64 0, .int .i64 64, F.fnV 56, F.fnV 80, F.fnV 81, F.fnV 82] 104)
  have hmf : ∀ (fn : Go.Fn) (first cap : Array Value) (w : World), (Instr.makeFunc fn first cap).run Tryz.prog w = .ok (.func fn first cap) w := fun _ _ _ _ => rfl
  have q0 := bz.cell 0
  have q1 := bz.cell 1
  simp only [List.getElem?_toArray, List.getElem?_cons_zero, List.getElem?_cons_succ] at q0 q1
  have HZ := Lib.hid bz
  obtain ⟨M, hM⟩ : ∃ M, mayS es = M := ⟨_, rfl⟩
  rw [hM]
  have HM := Lib.hid hM
  clear hM bz
  unfold partS F.fnV at *
  by_cases h64 : n ≤ 64
  · have HC := Lib.hid (fun W (hk : Keep NoB (w.alloc (.cells #[.int .i64 0, .int .i64 64, F.fnV 56, F.fnV 80, F.fnV 81, F.fnV 82] 104)) W) => containsS_any A es n c 79 w.heap.size W (enters_of Tryz.func79 (by kernel_rfl) rfl) (fun W' hk' => hr.out W' (keepN (keepN k0 hk) hk')) hn (by omega) (fun i => (es[i]?.map fun e => (S.chkS e.2 != 0)).getD false)
      (fun i h W' hk' => asksS_any 56 (enters_of Tryz.func56 (by kernel_rfl) rfl) es[i].1 w.heap.size W' _ _ _ _ _ (HZ.out.keep (keepN hk hk') id) (S.chkS es[i].2) _ (by simp [h]) (fun W2 hk2 => he.out _ (List.getElem_mem h) W2 (keepN (keepN (keepN k0 hk) hk') hk2)))
      (!(es.all fun e => S.okS e.2))
      (by
        rintro ⟨i, hi, hb⟩
        have hi2 : i < es.length := by rw [hn.out]; exact hi
        simp only [List.getElem?_eq_getElem hi2, Option.map_some, Option.getD_some] at hb
        rw [Bool.not_eq_true', ← Bool.not_eq_true]
        intro hall
        have := List.all_eq_true.1 hall _ (List.getElem_mem hi2)
        rw [S.chkS_ok this] at hb
        exact absurd hb (by decide))
      (by
        intro hb
        rw [Bool.not_eq_false']
        refine List.all_eq_true.2 fun e hm => ?_
        obtain ⟨i, hi, rfl⟩ := List.getElem_of_mem hm
        have := hb i (by rw [← hn.out]; exact hi)
        simp only [List.getElem?_eq_getElem hi, Option.map_some, Option.getD_some] at this
        cases ho : S.okS es[i].2
        · rw [S.chkS_no ho] at this; exact absurd this (by decide)
        · rfl))
    unfold F.fnV at HC
    obtain ⟨al, hal⟩ : ∃ al, (es.all fun e => S.okS e.2) = al := ⟨_, rfl⟩
    rw [hal] at HC
    have HV : Hid (al = M) := by
      show _ = _
      rw [← HM.out, ← hal]; unfold mayS; rw [hn.out, decide_eq_true (by omega : 0 ≤ n ∧ n ≤ 64)]; rfl
    clear hal HM he hr HZ
    go_enter Tryz.func46, Tryz.ntmps46
    go_wp2_with fail
    refine (HC.out _ (Keep.refl _ _)).mono ?_
    rintro e w1 ⟨rfl, k1⟩
    go_wp2
    go_ret
    exact ⟨by rw [← HV.out]; cases al <;> rfl, keepN k0 k1⟩
  · have hd : decide ((n : Int) ≤ 64) = false := by rw [decide_eq_false_iff_not]; omega
    obtain rfl : false = M := by
      rw [← HM.out]; unfold mayS; rw [hn.out, decide_eq_false (by omega : ¬ (0 ≤ n ∧ n ≤ 64))]; rfl
    clear HM he hr HZ
    go_enter Tryz.func46, Tryz.ntmps46
    go_wp2
    go_ret
    exact ⟨rfl, k0⟩

set_option maxRecDepth 100000 in
set_option maxHeartbeats 4000000 in
theorem indexF_any (A : Option Addr) (fs : List FE) (n c k b : Nat) (w : World) (hcf : ∀ args w, (callFunc k args).run Tryz.prog w = .ok (.enter k args) w) (hr : Hid (∀ W, Keep NoB w W → Rd W A (fvs fs))) (hn : Hid (fs.length = n)) (hm : n ≤ 1000) (bs : Nat → Bool)
    (hq : Hid (∀ i (h : i < fs.length) W, Keep NoB w W → Calls Tryz.prog k #[fs[i].1.val, .pointer (some ⟨b, 0, none⟩)] W fun e W' => e = .returned (.bool (bs i)) ∧ Keep NoB W W')) :
    Calls Tryz.prog 117 #[.slice A n c, .func (.func k) #[] #[.pointer (some ⟨b, 0, none⟩)]] w fun e w' => ∃ R : Int, e = .returned (.int .i64 R) ∧ ((0 ≤ R ∧ ∃ i, i < n ∧ bs i = true) ∨ (R = -1 ∧ ∀ i, i < n → bs i = false)) ∧ Keep NoB w w' := by
  go_enter Tryz.func117, Tryz.ntmps117
  go_wp2
  go_loopw [8] (fun i wr => ∃ j : Nat, j ≤ n ∧ i = .int .i64 j ∧ Hid (∀ t, t < j → bs t = false) ∧ Keep NoB w wr) (fun i _ => n - (intOf i).toNat)
  case atStart => exact ⟨0, Nat.zero_le _, rfl, fun t h => absurd h (by omega), Keep.refl _ _⟩
  case round =>
    obtain ⟨j, hj, rfl, hB, hK⟩ := hrel
    by_cases hlt : j < n
    · have hje : j < fs.length := by rw [hn.out]; exact hlt
      obtain ⟨g, off, rfl, c0, c1, c2, c3, c4⟩ := fun_at (hr.out _ hK) hje
      have HQ := Lib.hid (hq.out j hje _ hK)
      generalize fs[j] = e at c0 c1 c2 c3 c4 HQ
      obtain ⟨⟨S1, A1, na1, ca1, B1, nb1, cb1, L1, nl1, cl1, D1, nd1, cd1⟩, l⟩ := e
      dsimp only [F.FV.val, F.FV.cells] at c0 c1 c2 c3 c4 HQ
      obtain ⟨bj, hbj⟩ : ∃ x, bs j = x := ⟨_, rfl⟩
      rw [hbj] at HQ
      have HBJ := Lib.hid hbj
      clear hbj
      go_wp2_with fail
      refine HQ.out.mono ?_
      rintro e w1 ⟨rfl, k1⟩
      replace hK := keepN hK k1
      cases bj
      · go_wp2
        go_roundw
        case rel => exact ⟨j + 1, by omega, by go_num, fun t ht => (by
          rcases Nat.lt_succ_iff_lt_or_eq.1 ht with h | rfl
          · exact hB.out t h
          · exact HBJ.out), hK⟩
        case measure => simp [intOf]; omega
      · go_wp2
        go_ret
        exact ⟨_, rfl, .inl ⟨by omega, j, hlt, HBJ.out⟩, hK⟩
    · obtain rfl : j = n := by omega
      go_wp2
      go_ret
      exact ⟨_, rfl, .inr ⟨rfl, hB.out⟩, hK⟩

set_option maxRecDepth 100000 in
set_option maxHeartbeats 2000000 in
theorem containsF_any (A : Option Addr) (fs : List FE) (n c k b : Nat) (w : World) (hcf : ∀ args w, (callFunc k args).run Tryz.prog w = .ok (.enter k args) w) (hr : Hid (∀ W, Keep NoB w W → Rd W A (fvs fs))) (hn : Hid (fs.length = n)) (hm : n ≤ 1000) (bs : Nat → Bool)
    (hq : Hid (∀ i (h : i < fs.length) W, Keep NoB w W → Calls Tryz.prog k #[fs[i].1.val, .pointer (some ⟨b, 0, none⟩)] W fun e W' => e = .returned (.bool (bs i)) ∧ Keep NoB W W'))
    (B : Bool) (h1 : Hid ((∃ i, i < n ∧ bs i = true) → B = true)) (h0 : Hid ((∀ i, i < n → bs i = false) → B = false)) :
    Calls Tryz.prog 83 #[.slice A n c, .func (.func k) #[] #[.pointer (some ⟨b, 0, none⟩)]] w fun e w' => e = .returned (.bool B) ∧ Keep NoB w w' := by
  have HI := Lib.hid (indexF_any A fs n c k b w hcf hr hn hm bs hq)
  clear hq hr hcf
  go_enter Tryz.func83, Tryz.ntmps83
  go_wp2_with fail
  refine HI.out.mono ?_
  rintro e w1 ⟨R, rfl, hR, k1⟩
  rcases hR with ⟨h2, h3⟩ | ⟨rfl, h3⟩
  · obtain rfl : B = true := h1.out h3
    have hd : decide ((0 : Int) ≤ R) = true := decide_eq_true h2
    clear h3 h1 h0
    go_wp2
    go_ret
    exact ⟨rfl, k1⟩
  · obtain rfl : B = false := h0.out h3
    clear h3 h1 h0
    go_wp2
    go_ret
    exact ⟨rfl, k1⟩

set_option maxRecDepth 100000 in
set_option maxHeartbeats 2000000 in
theorem asksF_any (k : Nat) (hcf : ∀ args w, (callFunc k args).run Tryz.prog w = .ok (.enter k args) w) (v : F.FV) (b : Nat) (w : World) (u0 u1 u3 u4 u5 : Value) (hb : Blk w b 112 #[u0, u1, F.fnV k, u3, u4, u5]) (R : Int) (B : Bool) (hB : (R != 0) = B)
    (HG : Hid (∀ W, Keep NoB w W → Calls Tryz.prog k #[v.val] W fun e w' => e = .returned (.int .i64 R) ∧ Keep NoB W w')) :
    Calls Tryz.prog 84 #[v.val, .pointer (some ⟨b, 0, none⟩)] w fun e w' => e = .returned (.bool B) ∧ Keep NoB w w' := by
  have k0 := (Keep.refl NoB w).alloc (.cells v.cells 35)
  have bx := Blk.new w 35 v.cells
  replace hb := hb.alloc (.cells v.cells 35)
  have c2 := hb.cell 2
  unfold F.fnV at c2
  simp only [List.getElem?_toArray, List.getElem?_cons_zero, List.getElem?_cons_succ] at c2
  clear hb
  obtain ⟨S1, A1, na1, ca1, B1, nb1, cb1, L1, nl1, cl1, D1, nd1, cd1⟩ := v
  obtain ⟨q0, q1, q2, q3, q4⟩ := F.blk5 bx
  dsimp only [F.FV.val, F.FV.cells] at HG k0 q0 q1 q2 q3 q4 c2 bx ⊢
  clear bx
  go_enter Tryz.func84, Tryz.ntmps84
  go_wp2_with fail
  refine (HG.out _ k0).mono ?_
  rintro e w1 ⟨rfl, k1⟩
  go_wp2
  go_ret
  exact ⟨rfl, keepN k0 k1⟩

/-- What an image's parts of this kind have. -/
def partF : Value := .agg #[.int .i64 1, .int .i64 64, F.fnV 85, F.fnV 86, F.fnV 87, F.fnV 88]
theorem partF_size : (Tryz.prog.info? 112).map (·.size) = some 6 := by kernel_rfl
set_option maxRecDepth 100000 in
set_option maxHeartbeats 2000000 in
theorem partsF_any (w : World) : Calls Tryz.prog 49 #[] w fun e w' => e = .returned partF ∧ Keep NoB w w' := by
  have bz := Blk.new w 112 #[.int .i64 1, .int .i64 64, F.fnV 85, F.fnV 86, F.fnV 87, F.fnV 88]
  have k0 := (Keep.refl NoB w).alloc (.cells #[.int .i64 1, .int .i64 64, F.fnV 85, F.fnV 86, F.fnV 87, F.fnV 88] 112)
  have HB := Lib.hid bz
  have HK := Lib.hid k0
  unfold partF F.fnV at *
  clear bz k0
  go_enter Tryz.func49, Tryz.ntmps49
  go_wp2
  refine bodyPost_ret (results_cell_row rfl _ _ w.heap.size 112 _ (0, 0) _ rfl HB.out Tryz.underlying112 rfl partF_size) rfl ?_
  exact ⟨rfl, HK.out⟩

/-- What may answers. -/
def mayF (l : List FE) : Bool := decide (1 ≤ l.length ∧ l.length ≤ 64) && l.all fun e => F.okF e.2
set_option maxRecDepth 100000 in
set_option maxHeartbeats 4000000 in
theorem mayF_any (A : Option Addr) (fs : List FE) (n c : Nat) (w : World) (hr : Hid (∀ W, Keep NoB w W → Rd W A (fvs fs))) (hn : Hid (fs.length = n)) (hm : n ≤ 9223372036854775807) (he : Hid (∀ e ∈ fs, ∀ W, Keep NoB w W → Calls Tryz.prog 85 #[e.1.val] W fun r W' => r = .returned (.int .i64 (F.chkF e.2)) ∧ Keep NoB W W')) :
    Calls Tryz.prog 48 #[.slice A n c, partF] w fun r w' => r = .returned (.bool (mayF fs)) ∧ Keep NoB w w' := by
  have bz := Blk.new w 112 #[.int .i64 1, .int .i64 64, F.fnV 85, F.fnV 86, F.fnV 87, F.fnV 88]
  have k0 := (Keep.refl NoB w).alloc (.cells #[.int .i64 1, .int .i64 64, F.fnV 85, F.fnV 86, F.fnV 87, F.fnV 88] 112)
  have hmf : ∀ (fn : Go.Fn) (first cap : Array Value) (w : World), (Instr.makeFunc fn first cap).run Tryz.prog w = .ok (.func fn first cap) w := fun _ _ _ _ => rfl
  have q0 := bz.cell 0
  have q1 := bz.cell 1
  simp only [List.getElem?_toArray, List.getElem?_cons_zero, List.getElem?_cons_succ] at q0 q1
  have HZ := Lib.hid bz
  obtain ⟨M, hM⟩ : ∃ M, mayF fs = M := ⟨_, rfl⟩
  rw [hM]
  have HM := Lib.hid hM
  clear hM bz
  unfold partF F.fnV at *
  by_cases hz : n = 0
  · subst hz
    obtain rfl : false = M := by
      rw [← HM.out]; unfold mayF; rw [hn.out]; rfl
    clear HM he hr HZ
    go_enter Tryz.func48, Tryz.ntmps48
    go_wp2
    go_ret
    exact ⟨rfl, k0⟩
  have hd1 : decide ((1 : Int) ≤ (n : Int)) = true := by rw [decide_eq_true_iff]; omega
  by_cases h64 : n ≤ 64
  · have HC := Lib.hid (fun W (hk : Keep NoB (w.alloc (.cells #[.int .i64 1, .int .i64 64, F.fnV 85, F.fnV 86, F.fnV 87, F.fnV 88] 112)) W) => containsF_any A fs n c 84 w.heap.size W (enters_of Tryz.func84 (by kernel_rfl) rfl) (fun W' hk' => hr.out W' (keepN (keepN k0 hk) hk')) hn (by omega) (fun i => (fs[i]?.map fun e => (F.chkF e.2 != 0)).getD false)
      (fun i h W' hk' => asksF_any 85 (enters_of Tryz.func85 (by kernel_rfl) rfl) fs[i].1 w.heap.size W' _ _ _ _ _ (HZ.out.keep (keepN hk hk') id) (F.chkF fs[i].2) _ (by simp [h]) (fun W2 hk2 => he.out _ (List.getElem_mem h) W2 (keepN (keepN (keepN k0 hk) hk') hk2)))
      (!(fs.all fun e => F.okF e.2))
      (by
        rintro ⟨i, hi, hb⟩
        have hi2 : i < fs.length := by rw [hn.out]; exact hi
        simp only [List.getElem?_eq_getElem hi2, Option.map_some, Option.getD_some] at hb
        rw [Bool.not_eq_true', ← Bool.not_eq_true]
        intro hall
        have := List.all_eq_true.1 hall _ (List.getElem_mem hi2)
        rw [F.chkF_ok this] at hb
        exact absurd hb (by decide))
      (by
        intro hb
        rw [Bool.not_eq_false']
        refine List.all_eq_true.2 fun e hm => ?_
        obtain ⟨i, hi, rfl⟩ := List.getElem_of_mem hm
        have := hb i (by rw [← hn.out]; exact hi)
        simp only [List.getElem?_eq_getElem hi, Option.map_some, Option.getD_some] at this
        cases ho : F.okF fs[i].2
        · rw [F.chkF_no ho] at this; exact absurd this (by decide)
        · rfl))
    unfold F.fnV at HC
    obtain ⟨al, hal⟩ : ∃ al, (fs.all fun e => F.okF e.2) = al := ⟨_, rfl⟩
    rw [hal] at HC
    have HV : Hid (al = M) := by
      show _ = _
      rw [← HM.out, ← hal]; unfold mayF; rw [hn.out, decide_eq_true (by omega : 1 ≤ n ∧ n ≤ 64)]; rfl
    clear hal HM he hr HZ
    go_enter Tryz.func48, Tryz.ntmps48
    go_wp2_with fail
    refine (HC.out _ (Keep.refl _ _)).mono ?_
    rintro e w1 ⟨rfl, k1⟩
    go_wp2
    go_ret
    exact ⟨by rw [← HV.out]; cases al <;> rfl, keepN k0 k1⟩
  · have hd : decide ((n : Int) ≤ 64) = false := by rw [decide_eq_false_iff_not]; omega
    obtain rfl : false = M := by
      rw [← HM.out]; unfold mayF; rw [hn.out, decide_eq_false (by omega : ¬ (1 ≤ n ∧ n ≤ 64))]; rfl
    clear HM he hr HZ
    go_enter Tryz.func48, Tryz.ntmps48
    go_wp2
    go_ret
    exact ⟨rfl, k0⟩

end Go.Proofs.YtifobiajjhknbaaGreatDoor.I

namespace Go.Proofs.YtifobiajjhknbaaGreatDoor.I
open Go.RowKit Go.Shelf W
attribute [local go_sem] Oper.semAt_some

/-- The function of a number, and what comes. -/
def fnI (fs : List FE) (x : Nat) : FE := fs[x]?.getD (F.nilV, F.nilF)
theorem fnI_at {fs : List FE} {x : Nat} (h : x < fs.length) : fnI fs x = fs[x] := by unfold fnI; rw [List.getElem?_eq_getElem h]; rfl
abbrev eaA (fs : List FE) (x : Nat) : Array Value := #[.int .i64 (x : Int), (fnI fs x).1.val]
/-- What a round keeps: the list of functions. -/
def FsK (Y : Option Addr) (fs : List FE) (W W' : World) : Prop := Rd W Y (fvs fs) → Rd W' Y (fvs fs)
theorem FsK.trans {Y : Option Addr} {fs : List FE} {A B C : World} (h : FsK Y fs A B) (h' : FsK Y fs B C) : FsK Y fs A C := fun hr => h' (h hr)
theorem rd_putObj {A : Option Addr} {xs : List Value} (W : World) (l : Nat) (o o' : Obj) (hl : W.heap[l]? = some o) (ho : o.isCells = false) (hr : Rd W A xs) : Rd (W.putObj l o') A xs := fun h0 => by
  obtain ⟨g, off, e, hc⟩ := hr h0
  refine ⟨g, off, e, fun j u hu => ?_⟩
  have h1 := hc j u hu
  have hne : g ≠ l := by
    intro e2
    unfold World.cell? at h1
    dsimp only at h1
    rw [e2, hl] at h1
    cases o with
    | cells cs t f => cases ho
    | _ => simp at h1
  exact (World.cell?_of_block (World.putObj_heap_other (show (⟨g, off + j, none⟩ : Addr).block ≠ l from hne))).trans h1
theorem FsK.putObj {Y : Option Addr} {fs : List FE} (W : World) (l : Nat) (o o' : Obj) (hl : W.heap[l]? = some o) (ho : o.isCells = false) : FsK Y fs W (W.putObj l o') := fun h => rd_putObj W l o o' hl ho h
set_option maxRecDepth 100000 in
set_option maxHeartbeats 4000000 in
theorem each1_in (m l : Nat) (hm : 1 ≤ m) (b : Nat) (v : IV) (fs : List FE) (hl : fs.length = v.ny) (hn : v.ny ≤ 1000) (J Jx : List Nat → World → Prop) (hJk : ∀ pre W W', J pre W → Keep NoB W W' → J pre W')
    (hY : ∀ pre x W, J pre W → pre.length < v.ny → YieldAt Fence.wide (m - 1) Tryz.prog l (eaA fs x) W fun e W' =>
      (e = .returned (.bool true) ∧ J (pre ++ [x]) W' ∧ FsK v.Y fs W W') ∨ (e = .returned (.bool false) ∧ Jx (pre ++ [x]) W'))
    (W : World) (hx : Blk W b 27 v.cells) (hr : Rd W v.Y (fvs fs)) (h0 : J [] W) :
    CallsIn Fence.wide m Tryz.prog 143 #[.func (.yield l) #[] #[], .pointer (some ⟨b, 0, none⟩)] W fun e W' => (∃ v, e = .returned v) ∧
      ((∃ ys : List Nat, ys = List.range v.ny ∧ J ys W') ∨ (∃ pre : List Nat, (∃ k, k ≤ v.ny ∧ pre = List.range k) ∧ Jx pre W')) := by
  obtain ⟨q0, q1⟩ := blk2 hx
  obtain ⟨X, nx, cx, Y, ny, cy⟩ := v
  dsimp only at *
  have HR := Lib.hid hr
  clear hr hx
  refine callsIn_of_wp Tryz.func143 rfl trivial ?_ rfl
  simp only [Tryz.ntmps143, List.size_toArray, List.length_cons, List.length_nil, Nat.reduceAdd, Nat.reduceSub, Array.replicate_succ, Array.replicate_zero, List.push_toArray, List.append_toArray, List.nil_append, List.cons_append]
  gi_wp2
  gi_loopw [8] (fun p wr => ∃ j : Nat, j ≤ ny ∧ p = .int .i64 (j : Int) ∧ J (List.range j) wr ∧ Hid (Rd wr Y (fvs fs))) (fun p _ => ny - (intOf p).toNat)
  case atStart => exact ⟨0, by omega, rfl, h0, HR.out⟩
  case round =>
    clear h0 HR q0 q1
    obtain ⟨j, hj, rfl, hJ, hL⟩ := hrel
    by_cases hlt : j < ny
    · have hje : j < fs.length := by omega
      obtain ⟨g, off, rfl, c0, c1, c2, c3, c4⟩ := fun_at hL.out hje
      have hk0 := (Keep.refl NoB wr).alloc (.cells (fnI fs j).1.cells 35)
      have HY := Lib.hid (hY (List.range j) j _ (hJk _ _ _ hJ hk0) (by simp; omega))
      have HL2 := Lib.hid (hL.out.keepN hk0)
      have HE : Hid (List.range j ++ [j] = List.range (j + 1)) := by show _ = _; rw [List.range_succ]
      have hfi := fnI_at hje
      dsimp only [eaA] at HY
      rw [hfi] at HY HL2
      clear hJ hk0 hfi
      generalize fs[j] = e at c0 c1 c2 c3 c4 HY HL2
      obtain ⟨⟨S1, A1, na1, ca1, B1, nb1, cb1, L1, nl1, cl1, D1, nd1, cd1⟩, f⟩ := e
      dsimp only [F.FV.val, F.FV.cells] at c0 c1 c2 c3 c4 HY HL2
      obtain ⟨fn, tmps, assign, body, hy, hRun⟩ := HY.out
      clear HY hY
      gi_wp2
      refine hRun.mono ?_
      rintro e W3 (⟨rfl, hJ3, hk3⟩ | ⟨rfl, hJx3⟩)
      · have hL3 := hk3 HL2.out
        rw [HE.out] at hJ3
        gi_wp2
        go_roundw
        case rel => exact ⟨j + 1, by omega, by go_num, hJ3, hL3⟩
        case measure => simp [intOf]; omega
      · rw [HE.out] at hJx3
        gi_wp2
        refine bodyPost_ret (results_none rfl _ _ _) rfl ?_
        exact ⟨⟨_, rfl⟩, .inr ⟨_, ⟨_, by omega, rfl⟩, hJx3⟩⟩
    · obtain rfl : j = ny := by omega
      gi_wp2
      go_end0
      exact ⟨⟨_, rfl⟩, .inl ⟨_, rfl, hJ⟩⟩

theorem each_abides {B : Nat} {J : List Nat → World → Prop} (h : AbidesFrom B J) : ∀ pre W W', J pre W → Keep NoB W W' → J pre W' := fun pre W W' hj hk => h pre W W' none hj hk.grows (fun r e => by cases e)
theorem each_stops (m : Nat) (hm : 1 ≤ m) (b : Nat) (v : IV) (fs : List FE) (hl : fs.length = v.ny) (hn : v.ny ≤ 1000) (w : World) (hx : Blk w b 27 v.cells) (hr : Rd w v.Y (fvs fs)) :
    SeqStopsK Fence.wide m Tryz.prog 143 #[.pointer (some ⟨b, 0, none⟩)] (eaA fs) (FsK v.Y fs) (fun ys : List Nat => ys = List.range v.ny) (fun pre : List Nat => ∃ k, k ≤ v.ny ∧ pre = List.range k) v.ny w := fun l J Jx W hb hJ _ hY h0 =>
  each1_in m l hm b v fs hl hn J Jx (each_abides hJ) hY W (Blk.keep hx (Keep.of_below (O := NoB) hb) id) (hr.keepN (Keep.of_below (O := NoB) hb)) h0

set_option maxRecDepth 100000 in
theorem each_any (m : Nat) (v : IV) (w : World) :
    CallsIn Fence.wide m Tryz.prog 89 #[v.val] w fun e w' => e = .returned (.func (.func 143) #[] #[.pointer (some ⟨w.heap.size, 0, none⟩)]) ∧ w' = w.alloc (.cells v.cells 27) := by
  obtain ⟨X, nx, cx, Y, ny, cy⟩ := v
  dsimp only [IV.val, IV.cells]
  refine callsIn_of_wp Tryz.func89 rfl trivial ?_ rfl
  simp only [Tryz.ntmps89, List.size_toArray, List.length_cons, List.length_nil, Nat.reduceAdd, Nat.reduceSub, Array.replicate_succ, Array.replicate_zero, List.push_toArray, List.append_toArray, List.nil_append, List.cons_append]
  gi_wp2
  go_ret
  exact ⟨rfl, rfl⟩

end Go.Proofs.YtifobiajjhknbaaGreatDoor.I

namespace Go.Proofs.YtifobiajjhknbaaGreatDoor.I
open Go.RowKit Go.Shelf W
attribute [local go_sem] Oper.semAt_some

/-- The name of a number. -/
def nmx (fs : List FE) (x : Nat) : List UInt8 := (fnI fs x).1.S.data.toList
/-- How often a name has come, if none came twice. -/
def cntF (fs : List FE) (pre : List Nat) (s : List UInt8) : Nat := if s ∈ pre.map (nmx fs) then 1 else 0
theorem cntF_new {fs : List FE} {pre : List Nat} {x : Nat} : ∀ s, cntF fs (pre ++ [x]) s = setS (cntF fs pre) (nmx fs x) 1 s := by
  intro s
  unfold cntF setS
  by_cases e : s = nmx fs x
  · subst e; simp
  · rw [if_neg e]; simp [e]
theorem nodup_new {fs : List FE} {pre : List Nat} {x : Nat} (h : nmx fs x ∉ pre.map (nmx fs)) (hp : (pre.map (nmx fs)).Nodup) : ((pre ++ [x]).map (nmx fs)).Nodup := by
  rw [List.map_append, List.nodup_append]
  refine ⟨hp, by simp, ?_⟩
  intro a ha b hb
  simp at hb
  subst hb
  rintro rfl
  exact h ha
theorem names_range {fs : List FE} {n : Nat} (hn : fs.length = n) (hN : ∀ e ∈ fs, e.1.S.data.toList = e.2.nm) : (List.range n).map (nmx fs) = names (imOf [] fs) := by
  apply List.ext_getElem?
  intro i
  unfold names imOf nmx
  by_cases h : i < fs.length
  · rw [List.getElem?_map, List.getElem?_range (by omega)]
    simp [fnI_at h, h, hN _ (List.getElem_mem h)]
  · rw [List.getElem?_eq_none (by simp; omega), List.getElem?_eq_none (by simp; omega)]
theorem rd_grown {W W' : World} {A : Option Addr} {xs : List Value} {mb : Nat} {es : Array MapEntry} {c : Nat} (hg : W.grownBy W' (some mb)) (hm : W.heap[mb]? = some (.map es c)) (hr : Rd W A xs) : Rd W' A xs := fun h0 => by
  obtain ⟨g, off, e, hc⟩ := hr h0
  refine ⟨g, off, e, fun j u hu => ?_⟩
  have h1 := hc j u hu
  have hne : g ≠ mb := by
    rintro rfl
    unfold World.cell? at h1
    simp [hm] at h1
  exact (World.cell?_of_block (hg.block g (World.block_lt_of_cell? W _ h1) (by simp [hne]))).trans h1
theorem blk_grown_map {W W' : World} {mb g : Nat} {t : TypeId} {cs : Array Value} {es : Array MapEntry} {c : Nat} (hg : W.grownBy W' (some mb)) (hm : W.heap[mb]? = some (.map es c)) (h : Blk W g t cs) : Blk W' g t cs :=
  h.grown hg (fun e => by
    cases e
    unfold Blk at h
    rw [hm] at h; cases h)
/-- What the loop keeps. -/
def ApI (w : World) (b : Nat) (fs : List FE) (pre : List Nat) (W : World) : Prop :=
  (Blk W (b + 1) 4 #[.bool false] ∧ Blk W (b + 1 + 1 + 1) 78 #[.map (some (b + 1 + 1))]) ∧ SMap Tryz.prog 9 3 (b + 1 + 1) pre.length (cntF fs pre) W ∧ Keep NoB w W ∧ (pre.map (nmx fs)).Nodup
/-- Where it is left: a name came twice. -/
def ApX (w : World) (b : Nat) (fs : List FE) (c : Code) (pre : List Nat) (W : World) : Prop :=
  c = .ret ∧ Blk W (b + 1) 4 #[.bool false] ∧ Keep NoB w W ∧ ¬ (pre.map (nmx fs)).Nodup
def ApA (v : IV) (fs : List FE) (b : Nat) (x : Nat) (Bo : Nat) : Act :=
  { tmps := #[v.val, .pointer (some ⟨b, 0, none⟩), .pointer (some ⟨b + 1, 0, none⟩), .pointer (some ⟨b + 1 + 1 + 1, 0, none⟩), undef, .pointer (some ⟨Bo, 0, none⟩), .map (some (b + 1 + 1)), v.val, .func (.func 143) #[] #[.pointer (some ⟨b + 1 + 1 + 1 + 1, 0, none⟩)], .int .i64 (x : Int), (fnI fs x).1.val, undef, undef, undef, undef, undef, undef, undef, undef, undef, undef], defers := [] }
theorem apI_own {w : World} {b B : Nat} {fs : List FE} (hb : b + 4 ≤ B) (hB : w.heap.size ≤ B) : OwnFrom B (ApI w b fs) := by
  intro s X Y row ⟨⟨h1, h2⟩, h3, h4, h5⟩ hg hrow
  exact ⟨⟨O.blk_own (β := Unit) _ _ _ (fun _ => _) () _ _ _ h1 hg hrow, O.blk_own (β := Unit) _ _ _ (fun _ => _) () _ _ _ h2 hg hrow⟩, h3.grown hg (fun e => by have := (hrow _ e.symm).1; omega), O.keep_own (β := Unit) _ hB () _ _ _ h4 hg hrow, h5⟩
theorem apX_own {w : World} {b B : Nat} {fs : List FE} (hB : w.heap.size ≤ B) (c : Code) : OwnFrom B (fun (pre : List Nat) W => ApX w b fs c pre W) := by
  intro s X Y row ⟨h0, h1, h4, h5⟩ hg hrow
  exact ⟨h0, O.blk_own (β := Unit) _ _ _ (fun _ => _) () _ _ _ h1 hg hrow, O.keep_own (β := Unit) _ hB () _ _ _ h4 hg hrow, h5⟩
theorem met_zero (w : World) : (zeroValue 3).run Tryz.prog w = .ok (.int .i64 0) w := Tryz.zeroValue3 w
theorem not_nodup_range {fs : List FE} {k n : Nat} (hk : k ≤ n) (h : ¬ ((List.range k).map (nmx fs)).Nodup) : ¬ ((List.range n).map (nmx fs)).Nodup := by
  intro h2
  refine h (List.Nodup.sublist ?_ h2)
  exact (List.range_sublist.2 hk).map _
theorem blk_putObj {W : World} {g D : Nat} {t : TypeId} {cs : Array Value} {o o' : Obj} (h : Blk W g t cs) (hl : W.heap[D]? = some o) (ho : o.isCells = false) : Blk (W.putObj D o') g t cs := by
  have hne : g ≠ D := by
    rintro rfl
    unfold Blk at h
    rw [hl] at h; cases h; cases ho
  exact (World.putObj_heap_other hne).trans h
theorem run_bool {w : World} {g : Nat} {u : Bool} (h : Blk w g 4 #[.bool u]) : (loadVar 4 ⟨g, 0, none⟩).run Tryz.prog w = .ok (.bool u) w := by
  have ha : (isAgg 4).run Tryz.prog w = .ok false w := Tryz.isAgg4 w
  have hc : w.cell? ⟨g, 0, none⟩ = some (.bool u) := h.cell 0
  simp [loadVar, ha, hc]

set_option maxRecDepth 100000 in
set_option maxHeartbeats 4000000 in
theorem apart_any (v : IV) (es : List SE) (fs : List FE) (w : World) (h : ImAt w v es fs) (hn : v.ny ≤ 1000) (hf : ∀ e ∈ fs, e.1.S.size ≤ 140737488355328) (R : Bool) (hR : Hid (decide ((names (imOf [] fs)).Nodup) = R)) :
    Calls Tryz.prog 50 #[v.val] w fun e w' => e = .returned (.bool R) ∧ Keep NoB w w' := by
  have hly := h.ly
  have HR := Lib.hid (fun W (hk : Keep NoB w W) => h.ry.keepN hk)
  have HN := Lib.hid (names_range hly (fun e he => (h.hf e he).nm))
  have HSZ : Hid (∀ x, (fnI fs x).1.S.size ≤ maxLen) := fun x => by
    by_cases hx : x < fs.length
    · rw [fnI_at hx]; have := hf _ (List.getElem_mem hx); unfold maxLen; omega
    · unfold fnI; rw [List.getElem?_eq_none (by omega)]; exact Nat.zero_le _
  clear h hf
  refine (callsIn_wide (n := 4)).1 ?_
  refine callsIn_of_wp_marks Tryz.func50 rfl trivial ?_ rfl
  have hmm := @run_makeMap Tryz.prog
  have hst := Lib.hid (fun m hm b w hx hr => each_stops m hm b v fs hly hn w hx hr)
  have he1 := Lib.hid (fun m w => each_any m v w)
  have hkk := ((((Keep.refl NoB w).alloc (.cells v.cells 27)).alloc (.cells #[.bool false] 4)).alloc (.map #[] 0)).alloc (.cells #[.map (some (w.heap.size + 1 + 1))] 78)
  have hs := (((Blk.new (w.alloc (.cells v.cells 27)) 4 #[.bool false]).alloc (.map #[] 0)).alloc (.cells #[.map (some (w.heap.size + 1 + 1))] 78)).alloc (.cells v.cells 27)
  have hm0 := SMap.new Tryz.prog 9 3 ((w.alloc (.cells v.cells 27)).alloc (.cells #[.bool false] 4))
  simp only [World.size_alloc] at hm0
  have hm1 := hm0.keep (O := NoB) (((Keep.refl NoB _).alloc (.cells #[.map (some (w.heap.size + 1 + 1))] 78)).alloc (.cells v.cells 27)) id
  have hb3 := (Blk.new (((w.alloc (.cells v.cells 27)).alloc (.cells #[.bool false] 4)).alloc (.map #[] 0)) 78 #[.map (some (w.heap.size + 1 + 1))]).alloc (.cells v.cells 27)
  have hi5 := Blk.new ((((w.alloc (.cells v.cells 27)).alloc (.cells #[.bool false] 4)).alloc (.map #[] 0)).alloc (.cells #[.map (some (w.heap.size + 1 + 1))] 78)) 27 v.cells
  simp only [World.size_alloc] at hs hb3 hi5
  have hK := hkk.alloc (.cells v.cells 27)
  have hr5 := HR.out _ hK
  have hI0 : ApI w w.heap.size fs [] _ := ⟨⟨hs, hb3⟩, hm1.congr (fun x => by simp [cntF]), hK, by simp⟩
  have HI0 := Lib.hid hI0
  have HX5 := Lib.hid hi5
  have HR5 := Lib.hid hr5
  clear hs hm0 hm1 hb3 hi5 hkk hK hr5 hI0
  obtain ⟨X, nx, cx, Y, ny, cy⟩ := v
  dsimp only [IV.val, IV.cells] at *
  simp only [Tryz.ntmps50, List.size_toArray, List.length_cons, List.length_nil, Nat.reduceAdd, Nat.reduceSub, Array.replicate_succ, Array.replicate_zero, List.push_toArray, List.append_toArray, List.nil_append, List.cons_append]
  gi_wp2_with (refine ⟨trivial, ?_⟩; gi_at_call 89; refine (he1.out _ _).mono ?_; rintro e w1 ⟨rfl, rfl⟩)
  refine wpIn_rangeFunc_ownH rfl (by omega) (gf := 143) (lb := #[.pointer (some ⟨w.heap.size + 1 + 1 + 1 + 1, 0, none⟩)]) rfl trivial (enters_of Tryz.func143 (by kernel_rfl) rfl)
    (hst.out _ (by omega) _ _ HX5.out HR5.out) FsK.trans (fun W l o o' _ hl ho _ => FsK.putObj W l o o' hl ho) (Below.refl _ _) (fun _ => rfl)
    (ApI w w.heap.size fs) (fun c pre W => ApX w w.heap.size fs c pre W) (apI_own (by simp) (by simp; omega)) (fun c => apX_own (by simp; omega) c) HI0.out
    (fun x a' W => ∃ Bo, Blk W Bo 35 (fnI fs x).1.cells ∧ a' = ApA ⟨X, nx, cx, Y, ny, cy⟩ fs w.heap.size x Bo) ?hax ?assign ?body ?done ?stop
  case hax =>
    rintro x a' s X Y row ⟨Bo, h1, h2⟩ hg hrow
    exact ⟨Bo, O.blk_own (β := Unit) _ _ _ (fun _ => _) () _ _ _ h1 hg hrow, h2⟩
  case assign =>
    intro l pre x W K hi hK
    have HI := Lib.hid (fun W' hk => apI_own (w := w) (b := w.heap.size) (fs := fs) (B := w.heap.size + 4) (Nat.le_refl _) (by omega) pre W W' none hi (Keep.grows hk) (fun r e => by cases e))
    have HB1 := Lib.hid (Blk.new W 35 (fnI fs x).1.cells)
    have HK2 := Lib.hid (fun a' W' h1 h2 h3 h4 => hK a' W' h1 h2 h3 h4)
    unfold ApA at HK2
    dsimp only [eaA]
    clear hi
    generalize fnI fs x = e at *
    obtain ⟨⟨S1, A1, na1, ca1, B1, nb1, cb1, L1, nl1, cl1, D1, nd1, cd1⟩, f⟩ := e
    dsimp only [F.FV.val, F.FV.cells, IV.val, IV.cells] at *
    clear hK
    gi_wp2
    exact HK2.out _ _ (keepsFrom_keep ((Keep.refl NoB W).alloc _)) (fun h => h.keepN ((Keep.refl NoB W).alloc _)) (HI.out _ ((Keep.refl NoB W).alloc _)) ⟨_, HB1.out, rfl⟩
  case body =>
    rintro l pre x a' W hl _ ⟨⟨hs, hm3⟩, hM, hK, hnd⟩ ⟨Bo, hb, rfl⟩ hlt
    have cb : W.cell? ⟨Bo, 0, none⟩ = some (.string (fnI fs x).1.S) := hb.cell 0
    have cm : W.cell? ⟨w.heap.size + 1 + 1 + 1, 0, none⟩ = some (.map (some (w.heap.size + 1 + 1))) := hm3.cell 0
    have hsz := HSZ.out x
    obtain ⟨em, cmc, hobj⟩ := hM.obj
    dsimp only [ApA, IV.val, IV.cells]
    have hzs := hs.lt
    by_cases hx : nmx fs x ∈ pre.map (nmx fs)
    · have e1 : cntF fs pre (fnI fs x).1.S.data.toList = 1 := if_pos hx
      have hlk := hM.look (t := 78) Tryz.underlying78 Tryz.underlying9 Tryz.underlying3 (met_zero _) (fnI fs x).1.S hsz
      obtain ⟨w5, hup, hM5, hg5⟩ := hM.update (t := 78) Tryz.underlying78 Tryz.underlying9 Tryz.underlying3 (by unfold maxLen; omega) (fnI fs x).1.S 2 hsz (by decide)
      have hlk5 := hM5.look (t := 78) Tryz.underlying78 Tryz.underlying9 Tryz.underlying3 (met_zero _) (fnI fs x).1.S hsz
      have e2 : setS (cntF fs pre) (fnI fs x).1.S.data.toList 2 (fnI fs x).1.S.data.toList = 2 := if_pos rfl
      rw [e1, show ((1 : Nat) : Int) = 1 from rfl] at hlk
      rw [e2, show ((2 : Nat) : Int) = 2 from rfl] at hlk5
      rw [show ((2 : Nat) : Int) = 2 from rfl] at hup
      have cb5 := (blk_grown_map hg5 hobj hb).cell 0
      have cm5 := (blk_grown_map hg5 hobj hm3).cell 0
      have hs5 := blk_grown_map hg5 hobj hs
      have hs6 := hs5.put 0 (.bool false)
      have fz := fun i => hs5.frozen i
      have c5 := hs5.cell 0
      have hzs5 := hs5.lt
      have HX : Hid (ApX w w.heap.size fs .ret (pre ++ [x]) (w5.setCell ⟨w.heap.size + 1, 0, none⟩ (.bool false))) :=
        ⟨rfl, hs6, (hK.grown hg5 (fun g e hl => by cases e; omega)).setCell (fun h => absurd h (by simp)) _, fun h => by
          rw [List.map_append, List.nodup_append] at h
          exact h.2.2 _ hx _ (by simp) rfl⟩
      have HKF : Hid (KeepsFrom (w.heap.size + 1 + 1 + 1 + 1 + 1) W (w5.setCell ⟨w.heap.size + 1, 0, none⟩ (.bool false))) :=
        ⟨by have := hg5.size; simpa [World.setCell] using this, fun k o hk1 hk2 hk3 => (Below.heap_setCell _ _ _ _ (by show k ≠ w.heap.size + 1; omega)).trans ((hg5.block k (Array.getElem?_eq_some_iff.1 hk2).1 (by simp; omega)).trans hk2)⟩
      simp only [F.FV.cells, List.getElem?_toArray, List.getElem?_cons_zero] at cb5 cm5 c5
      clear hM hM5 hs hm3 hb hs5 hs6 hK hg5 hobj hnd e1 e2 hx
      generalize fnI fs x = e at *
      obtain ⟨⟨S1, A1, na1, ca1, B1, nb1, cb1, L1, nl1, cl1, D1, nd1, cd1⟩, f⟩ := e
      dsimp only [F.FV.val, F.FV.cells] at *
      gi_wp2
      exact ⟨by simpa using HKF.out, HX.out⟩
    · have e1 : cntF fs pre (fnI fs x).1.S.data.toList = 0 := if_neg hx
      have hlk := hM.look (t := 78) Tryz.underlying78 Tryz.underlying9 Tryz.underlying3 (met_zero _) (fnI fs x).1.S hsz
      obtain ⟨w5, hup, hM5, hg5⟩ := hM.update (t := 78) Tryz.underlying78 Tryz.underlying9 Tryz.underlying3 (by unfold maxLen; omega) (fnI fs x).1.S 1 hsz (by decide)
      have hlk5 := hM5.look (t := 78) Tryz.underlying78 Tryz.underlying9 Tryz.underlying3 (met_zero _) (fnI fs x).1.S hsz
      have e2 : setS (cntF fs pre) (fnI fs x).1.S.data.toList 1 (fnI fs x).1.S.data.toList = 1 := if_pos rfl
      rw [e1, show ((0 : Nat) : Int) = 0 from rfl] at hlk
      rw [e2, show ((1 : Nat) : Int) = 1 from rfl] at hlk5
      rw [show ((1 : Nat) : Int) = 1 from rfl] at hup
      have cb5 := (blk_grown_map hg5 hobj hb).cell 0
      have cm5 := (blk_grown_map hg5 hobj hm3).cell 0
      have HX : Hid (ApI w w.heap.size fs (pre ++ [x]) w5) :=
        ⟨⟨blk_grown_map hg5 hobj hs, blk_grown_map hg5 hobj hm3⟩, by
          have := hM5.congr (g := cntF fs (pre ++ [x])) cntF_new
          rwa [show pre.length + 1 = (pre ++ [x]).length by simp] at this, hK.grown hg5 (fun g e hl => by cases e; omega), nodup_new hx hnd⟩
      have HKF : Hid (KeepsFrom (w.heap.size + 1 + 1 + 1 + 1 + 1) W w5 ∧ FsK Y fs W w5) :=
        ⟨⟨hg5.size, fun k o hk1 hk2 hk3 => (hg5.block k (Array.getElem?_eq_some_iff.1 hk2).1 (by simp; omega)).trans hk2⟩, fun hr => rd_grown hg5 hobj hr⟩
      simp only [F.FV.cells, List.getElem?_toArray, List.getElem?_cons_zero] at cb5 cm5
      clear hM hM5 hs hm3 hb hK hg5 hobj hnd e1 e2 hx
      generalize fnI fs x = e at *
      obtain ⟨⟨S1, A1, na1, ca1, B1, nb1, cb1, L1, nl1, cl1, D1, nd1, cd1⟩, f⟩ := e
      dsimp only [F.FV.val, F.FV.cells] at *
      gi_wp2
      exact ⟨by simpa using HKF.out.1, HKF.out.2, HX.out⟩
  case done =>
    rintro D ys W hD rfl ⟨⟨hs, hm3⟩, hM, hK, hnd⟩ hDf
    rw [HN.out] at hnd
    obtain rfl : true = R := by rw [← hR.out, decide_eq_true hnd]
    have hs6 := hs.put 0 (.bool true)
    have fz := fun i => hs.frozen i
    have c5 : W.cell? ⟨w.heap.size + 1, 0, none⟩ = some (.bool false) := hs.cell 0
    have hK6 := hK.setCell (p := ⟨w.heap.size + 1, 0, none⟩) (fun h => absurd h (by simp)) (.bool true)
    have hDf6 := (Below.heap_setCell W ⟨w.heap.size + 1, 0, none⟩ (.bool true) D (by show D ≠ w.heap.size + 1; simp at hD; omega)).trans hDf
    have HS6 := Lib.hid hs6
    clear hs hm3 hM hnd hK hs6
    gi_wp2
    refine ⟨by simp, .inl ⟨_, _, rfl, run_takeDeferred hDf6, ?_⟩⟩
    exact ⟨_, O.results_cell rfl rfl (run_bool (blk_putObj HS6.out hDf6 rfl)), rfl, O.Keep_putObj hK6 (by simp at hD; omega)⟩
  case stop =>
    rintro D c pre W hD ⟨k, hk, rfl⟩ ⟨rfl, hs, hK, hnd⟩ hDf
    have hnd2 := not_nodup_range hk hnd
    rw [HN.out] at hnd2
    obtain rfl : false = R := by rw [← hR.out, decide_eq_false hnd2]
    gi_wp2
    refine ⟨by simp, .inl ⟨_, _, rfl, run_takeDeferred hDf, ?_⟩⟩
    exact ⟨_, O.results_cell rfl rfl (run_bool (blk_putObj hs hDf rfl)), rfl, O.Keep_putObj hK (by simp at hD; omega)⟩

end Go.Proofs.YtifobiajjhknbaaGreatDoor.I

namespace Go.Proofs.YtifobiajjhknbaaGreatDoor.I
open Go.RowKit W

theorem okI_parts (es : List SE) (fs : List FE) : okI (imOf es fs) = (mayS es && (mayF fs && decide ((names (imOf [] fs)).Nodup))) := by
  have hn : names (imOf es fs) = names (imOf [] fs) := rfl
  rw [Bool.eq_iff_iff, okI_iff, hn]
  simp only [Bool.and_eq_true, mayS, mayF, decide_eq_true_eq]
  have e1 : (imOf es fs).sh.all S.okS = es.all fun e => S.okS e.2 := by simp [imOf, List.all_map, Function.comp_def]
  have e2 : (imOf es fs).fn.all F.okF = fs.all fun e => F.okF e.2 := by simp [imOf, List.all_map, Function.comp_def]
  have e3 : (imOf es fs).sh.length = es.length := by simp [imOf]
  have e4 : (imOf es fs).fn.length = fs.length := by simp [imOf]
  rw [e1, e2, e3, e4]
  constructor
  · rintro ⟨⟨a, ⟨b, c⟩, d⟩, e, f⟩
    exact ⟨⟨⟨Nat.zero_le _, a⟩, e⟩, ⟨⟨b, c⟩, f⟩, d⟩
  · rintro ⟨⟨⟨_, a⟩, e⟩, ⟨⟨b, c⟩, f⟩, d⟩
    exact ⟨⟨a, ⟨b, c⟩, d⟩, e, f⟩

set_option maxRecDepth 100000 in
set_option maxHeartbeats 8000000 in
theorem check_any (v : IV) (es : List SE) (fs : List FE) (w : World) (h : ImAt w v es fs) (hl : LgI v es fs) (R : Int) (hR : Hid (chkI (imOf es fs) = R)) :
    Calls Tryz.prog 16 #[v.val] w fun e w' => e = .returned (.int .i64 R) ∧ Keep NoB w w' := by
  have bx := Blk.new w 27 v.cells
  have k0 := (Keep.refl NoB w).alloc (.cells v.cells 27)
  have hlx := h.lx
  have hly := h.ly
  have HS := Lib.hid (fun W (hk : Keep NoB w W) => mayS_any v.X es v.nx v.cx W (fun W' hk' => (h.keepN (keepN hk hk')).rx) hlx (by have := hl.nx; omega) (fun e he W' hk' => S.chkS_any e.1.A e.2 e.1.n e.1.c W' ((h.keepN (keepN hk hk')).hs e he).1 (h.hs e he).2 (by have := hl.sh e he; omega) _ rfl))
  have HF := Lib.hid (fun W (hk : Keep NoB w W) => mayF_any v.Y fs v.ny v.cy W (fun W' hk' => (h.keepN (keepN hk hk')).ry) hly (by have := hl.ny; omega) (fun e he W' hk' => F.checkL_any e.1 e.2 W' ((h.keepN (keepN hk hk')).hf e he) (hl.fn e he) _ rfl))
  have HA : Hid (mayF fs = true → ∀ W, Keep NoB w W → Calls Tryz.prog 50 #[v.val] W fun e w' => e = .returned (.bool (decide ((names (imOf [] fs)).Nodup))) ∧ Keep NoB W w') := fun hm W hk =>
    apart_any v es fs W (h.keepN hk) (by unfold mayF at hm; rw [Bool.and_eq_true, decide_eq_true_eq] at hm; omega) (fun e he => (hl.fn e he).sz) _ rfl
  have HR : Hid (chkI (imOf es fs) = if (mayS es && (mayF fs && decide ((names (imOf [] fs)).Nodup))) = true then 0 else 80) := by show _ = _; unfold chkI; rw [okI_parts]
  obtain ⟨q0, q1⟩ := blk2 bx
  clear h hl bx hlx hly
  obtain ⟨X, nx, cx, Y, ny, cy⟩ := v
  dsimp only [IV.val, IV.cells] at *
  generalize hw1 : w.alloc (.cells #[.slice X nx cx, .slice Y ny cy] 27) = w1 at k0 q0 q1
  have HP := Lib.hid (fun (n : KW w1) => keepN k0 n.keep)
  have z0 : ∀ n : KW w1, n.w.cell? ⟨w.heap.size, 0, none⟩ = some (.slice X nx cx) := fun n => n.keep.cell q0 id
  have z1 : ∀ n : KW w1, n.w.cell? ⟨w.heap.size, 1, none⟩ = some (.slice Y ny cy) := fun n => n.keep.cell q1 id
  generalize decide ((names (imOf [] fs)).Nodup) = bA at *
  cases hs : mayS es
  · rw [hs] at HS HR
    obtain rfl : 80 = R := by rw [← hR.out, HR.out]; rfl
    clear hR HR HF HA hs
    go_enter Tryz.func16, Tryz.ntmps16
    go_wp2_with fail
    clear hw1
    refine wp_region_kept w1 (by kernel_rfl) (by kernel_rfl) (Keep.refl NoB w1) ?_
    repeat (go_big_quiet_step (first | (go_at_call 47; exact kept_of (partsS_any _)) | (go_at_call 46; exact kept_of (HS.out _ (HP.out _)))))
    refine wpQuiet_nil ?_
    rintro _ ⟨n9, rfl⟩
    have hk9 := n9.keep
    generalize n9.w = w9 at hk9 ⊢
    have hK9 := keepN k0 hk9
    go_wp2
    go_ret
    exact ⟨rfl, hK9⟩
  · rw [hs] at HS HR
    cases hf : mayF fs
    · rw [hf] at HF HR
      obtain rfl : 80 = R := by rw [← hR.out, HR.out]; rfl
      clear hR HR HA hs hf
      go_enter Tryz.func16, Tryz.ntmps16
      go_wp2_with fail
      clear hw1
      refine wp_region_kept w1 (by kernel_rfl) (by kernel_rfl) (Keep.refl NoB w1) ?_
      repeat (go_big_quiet_step (first | (go_at_call 47; exact kept_of (partsS_any _)) | (go_at_call 46; exact kept_of (HS.out _ (HP.out _))) | (go_at_call 49; exact kept_of (partsF_any _)) | (go_at_call 48; exact kept_of (HF.out _ (HP.out _)))))
      refine wpQuiet_nil ?_
      rintro _ ⟨n9, rfl⟩
      have hk9 := n9.keep
      generalize n9.w = w9 at hk9 ⊢
      have hK9 := keepN k0 hk9
      go_wp2
      go_ret
      exact ⟨rfl, hK9⟩
    · have HA2 := Lib.hid (HA.out hf)
      rw [hf] at HF HR
      cases bA
      · obtain rfl : 80 = R := by rw [← hR.out, HR.out]; rfl
        clear hR HR HA hs hf
        go_enter Tryz.func16, Tryz.ntmps16
        go_wp2_with fail
        clear hw1
        refine wp_region_kept w1 (by kernel_rfl) (by kernel_rfl) (Keep.refl NoB w1) ?_
        repeat (go_big_quiet_step (first | (go_at_call 47; exact kept_of (partsS_any _)) | (go_at_call 46; exact kept_of (HS.out _ (HP.out _))) | (go_at_call 49; exact kept_of (partsF_any _)) | (go_at_call 48; exact kept_of (HF.out _ (HP.out _))) | (go_at_call 50; exact kept_of (HA2.out _ (HP.out _)))))
        refine wpQuiet_nil ?_
        rintro _ ⟨n9, rfl⟩
        have hk9 := n9.keep
        generalize n9.w = w9 at hk9 ⊢
        have hK9 := keepN k0 hk9
        go_wp2
        go_ret
        exact ⟨rfl, hK9⟩
      · obtain rfl : 0 = R := by rw [← hR.out, HR.out]; rfl
        clear hR HR HA hs hf
        go_enter Tryz.func16, Tryz.ntmps16
        go_wp2_with fail
        clear hw1
        refine wp_region_kept w1 (by kernel_rfl) (by kernel_rfl) (Keep.refl NoB w1) ?_
        repeat (go_big_quiet_step (first | (go_at_call 47; exact kept_of (partsS_any _)) | (go_at_call 46; exact kept_of (HS.out _ (HP.out _))) | (go_at_call 49; exact kept_of (partsF_any _)) | (go_at_call 48; exact kept_of (HF.out _ (HP.out _))) | (go_at_call 50; exact kept_of (HA2.out _ (HP.out _)))))
        refine wpQuiet_nil ?_
        rintro _ ⟨n9, rfl⟩
        have hk9 := n9.keep
        generalize n9.w = w9 at hk9 ⊢
        have hK9 := keepN k0 hk9
        go_wp2
        go_ret
        exact ⟨rfl, hK9⟩

end Go.Proofs.YtifobiajjhknbaaGreatDoor.I

namespace Go.Proofs.YtifobiajjhknbaaGreatDoor.M
open Go.RowKit Go.Shelf W

/-- What a text says, as the reader keeps it. -/
def readP (s : Bs) : PS ⊕ (Nat × Int) := if 131072 < s.length then .inr (0, 93) else match pRun ps0 (linesL s) with
  | .inr n => .inr (n, 90)
  | .inl q => match pSettle q q.im.fn q.ms with
    | .inr x => .inr x
    | .inl fn => if I.okI ⟨q.im.sh, fn⟩ = true then .inl ⟨⟨q.im.sh, fn⟩, q.last, q.nums, q.labs, q.ms⟩ else .inr (0, 93)
def ReadMR (s : Bs) (w : World) (e : Ending) (W' : World) : Prop :=
  Keep NoB w W' ∧ ((∃ l c, readP s = .inr (l, c) ∧ e = .returned (.tuple #[.pointer none, .int .i64 ((l : Nat) : Int), .int .i64 c])) ∨ (∃ q rb T N ln, readP s = .inl q ∧ e = .returned (.tuple #[.pointer (some ⟨rb, 0, none⟩), .int .i64 0, .int .i64 0]) ∧ RdAt w W' T rb q N ln ∧ N ≤ 300000))
/-- The image that the reader has. -/
theorem rdr_own {B : Nat} {W w0 : World} {T : Nat → Tg} {rb : Nat} {v : RV} {es : List I.SE} {fs : List I.FE} {ls : List LE} {R : Tg → Row} {F : Tg → Option Mp} {p : PS} {N : Nat} (h : Rdr B W T rb v es fs ls R F p N) (hB : w0.heap.size = B) (hN : N ≤ 300000) :
    I.OwnIm W (Fresh w0) ⟨v.X, v.nx, v.cx, v.Y, v.ny, v.cy⟩ es fs ∧ I.LgI ⟨v.X, v.nx, v.cx, v.Y, v.ny, v.cy⟩ es fs := by
  subst hB
  have hO : ∀ {t : Tg} {E sz n : Nat} {u : Value} {xs : List Value}, okT t → R t = ⟨E, sz, u, n, xs⟩ → Own W E sz (Fresh w0) u n xs := fun {t E sz n u xs} ht e => by
    have h1 := h.pa.row t ht
    rw [e] at h1
    exact h1.mono (fun k hk _ => (h.pa.fit k (by rw [show T k = mk t from hk]; exact (okT_mk ht).1)).1)
  have hX := hO ⟨Tg.noConfusion, Tg.noConfusion⟩ h.rsh
  have hY := hO ⟨Tg.noConfusion, Tg.noConfusion⟩ h.rfn
  have hxl := hX.1.1
  have hyl := hY.1.1
  rw [I.svs_length] at hxl
  rw [I.fvs_length] at hyl
  have hbx := h.bx
  have hby := h.by_
  refine ⟨⟨hX, hY, fun e he => ?_, fun e he => ?_⟩, by show v.nx ≤ _; omega, by show v.ny ≤ _; omega, fun e he => ?_, fun e he => ?_⟩
  · obtain ⟨i, hi, rfl⟩ := List.getElem_of_mem he
    exact hO ⟨Tg.noConfusion, Tg.noConfusion⟩ (h.rse i hi)
  · obtain ⟨i, hi, rfl⟩ := List.getElem_of_mem he
    exact ⟨(h.fnm i hi).1, hO ⟨Tg.noConfusion, Tg.noConfusion⟩ (h.rfa i hi), hO ⟨Tg.noConfusion, Tg.noConfusion⟩ (h.rfb i hi), hO ⟨Tg.noConfusion, Tg.noConfusion⟩ (h.rfl_ i hi), hO ⟨Tg.noConfusion, Tg.noConfusion⟩ (h.rbd i hi), (h.fnm i hi).2⟩
  · obtain ⟨i, hi, rfl⟩ := List.getElem_of_mem he
    exact h.esm i hi
  · obtain ⟨i, hi, rfl⟩ := List.getElem_of_mem he
    exact h.fsm i hi
def R0 : Tg → Row
  | .sh => ⟨53, 1, .slice none 0 0, 0, []⟩
  | .fn => ⟨35, 5, .slice none 0 0, 0, []⟩
  | .lb => ⟨84, 2, .slice none 0 0, 0, []⟩
  | .mn => ⟨179, 6, .slice none 0 0, 0, []⟩
  | _ => row0
theorem r0_own (t : Tg) (W : World) (P : Nat → Prop) : (R0 t).own W P := by cases t <;> exact Own.nil _ _ _ _
/-- A reader that is new. -/
theorem rdr_start {w W : World} {mb rb : Nat} (hk : Keep NoB w W) (hM : OMap Tryz.prog 9 3 mb 0 (fun _ => none) W) (hb : Blk W rb 82 #[.slice none 0 0, .slice none 0 0, .int .i64 0, .int .i64 0, .map (some mb), .slice none 0 0, .slice none 0 0]) (hne : mb ≠ rb) (h1 : w.heap.size ≤ mb) (h2 : w.heap.size ≤ rb) :
    ∃ T, RdAt w W T rb ps0 0 0 := by
  refine ⟨fun k => if k = rb then .rd else if k = mb then .nu else .no, hk, ⟨none, 0, 0, none, 0, 0, 0, 0, mb, none, 0, 0, none, 0, 0⟩, [], [], [], R0, fun t => if t = .nu then some ⟨mb, 0, fun _ => none⟩ else none, rfl, ?_⟩
  refine { pa := ⟨fun t _ => r0_own t W _, fun t m hm => ?_, fun k hk2 => ?_⟩, bk := hb, tb := if_pos rfl, rsh := rfl, rse := fun i hi => absurd hi (Nat.not_lt_zero _), rfn := rfl, rfa := fun i hi => absurd hi (Nat.not_lt_zero _), rfb := fun i hi => absurd hi (Nat.not_lt_zero _), rfl_ := fun i hi => absurd hi (Nat.not_lt_zero _), rbd := fun i hi => absurd hi (Nat.not_lt_zero _), fnm := fun i hi => absurd hi (Nat.not_lt_zero _), rlb := rfl, rnm := fun i hi => absurd hi (Nat.not_lt_zero _), rmn := rfl, fnu := ⟨0, Nat.le_refl _, rfl⟩, fpl := fun i hi => absurd hi (Nat.not_lt_zero _), fno := fun t _ h => if_neg h, rno := ⟨rfl, fun _ => rfl⟩, im := rfl, lb := rfl, lf := rfl, la := rfl, bx := Nat.le_refl _, by_ := Nat.le_refl _, bm := Nat.le_refl _, bd := fun i hi => absurd hi (Nat.not_lt_zero _), bl := fun i hi => absurd hi (Nat.not_lt_zero _), esm := fun i hi => absurd hi (Nat.not_lt_zero _), fsm := fun i hi => absurd hi (Nat.not_lt_zero _), wm := fun m hm => (List.not_mem_nil hm).elim }
  · split at hm
    · rename_i e
      subst e
      cases hm
      refine ⟨hM, ?_, ⟨Tg.noConfusion, Tg.noConfusion⟩, rfl, by intro t e; cases t <;> first | exact e | cases e⟩
      show (if mb = rb then Tg.rd else if mb = mb then .nu else .no) = .nu
      rw [if_neg hne, if_pos rfl]
    · cases hm
  · by_cases e : k = rb
    · subst e; exact ⟨h2, hb.lt⟩
    · by_cases e2 : k = mb
      · subst e2; exact ⟨h1, hM.lt⟩
      · exact absurd (show (if k = rb then Tg.rd else if k = mb then .nu else .no) = .no by rw [if_neg e, if_neg e2]) hk2
theorem settle_wrong {p : PS} {l : Nat} {c : Int} : ∀ (ms : List Mn) (fn : List _root_.Go.Proofs.YtifobiajjhknbaaGreatDoor.F.Fu), pSettle p fn ms = .inr (l, c) → c ≠ 0
  | [], fn, h => by cases h
  | m :: r, fn, h => by
    rw [pSettle] at h
    split at h
    · injection h with h
      injection h with _ h
      rw [← h]
      unfold wrongM
      split <;> decide
    · exact settle_wrong r _ h
theorem ones_len : ∀ (n : Nat) (l : List Bs), (ones n l).length ≤ l.length
  | _, [] => Nat.le_refl _
  | n, s :: r => by
    have ih := ones_len (n + 1) r
    rw [ones, List.length_append, List.length_cons]
    unfold one
    split
    · simp; omega
    · simp; omega
theorem lines_count (s : Bs) : (linesL s).length ≤ s.length := by
  rw [lines_segs]
  exact Nat.le_trans (ones_len 1 _) (segs_count s)

set_option maxRecDepth 100000 in
set_option maxHeartbeats 4000000 in
theorem read_any (S : ByteArray) (s : Bs) (w : World) (hE : Hid (EnvM w)) (hs : Hid (S.data.toList = s)) (hl : S.size ≤ 140000) :
    Calls Tryz.prog 33 #[.string S] w (ReadMR s w) := by
  have hsz := size_of hs.out
  by_cases h1 : 131072 < s.length
  · have hR : readP s = .inr (0, 93) := if_pos h1
    have hgt : (131072 : Int) < (S.size : Int) := by omega
    go_enter Tryz.func33, Tryz.ntmps33
    go_wp2
    refine bodyPost_ret (results_tmp3 rfl _ _ _) rfl ?_
    exact ⟨Keep.refl _ _, .inl ⟨0, 93, hR, rfl⟩⟩
  · have hngt : ¬ (131072 : Int) < (S.size : Int) := by omega
    have hmm := @run_makeMap Tryz.prog
    have hk1 := ((Keep.refl NoB w).alloc (.map #[] 0)).alloc (.cells #[.slice none 0 0, .slice none 0 0, .int .i64 0, .int .i64 0, .map (some w.heap.size), .slice none 0 0, .slice none 0 0] 82)
    have hM := (OMap.new Tryz.prog 9 3 w).keep ((Keep.refl NoB _).alloc (.cells #[.slice none 0 0, .slice none 0 0, .int .i64 0, .int .i64 0, .map (some w.heap.size), .slice none 0 0, .slice none 0 0] 82)) id
    have hb := Blk.new (w.alloc (.map #[] 0)) 82 #[.slice none 0 0, .slice none 0 0, .int .i64 0, .int .i64 0, .map (some w.heap.size), .slice none 0 0, .slice none 0 0]
    rw [World.size_alloc] at hb
    obtain ⟨T, hT⟩ := rdr_start hk1 hM hb (by omega) (Nat.le_refl _) (by omega)
    have HL := Lib.hid (readLines_any w _ T _ hE hT S s hs hl)
    have hP : readP s = _ := if_neg h1
    have HP := Lib.hid hP
    clear hk1 hM hb hT hP
    go_enter Tryz.func33, Tryz.ntmps33
    go_wp2_with fail
    refine HL.out.mono ?_
    rintro e w2 ⟨k2, ⟨n, hp, rfl⟩ | ⟨q, T2, N, ln, hp, rfl, hr2, hN⟩⟩
    · have hR : readP s = .inr (n, 90) := by rw [HP.out, hp]
      go_wp2
      refine bodyPost_ret (results_tmp3 rfl _ _ _) rfl ?_
      exact ⟨k2, .inl ⟨n, 90, hR, rfl⟩⟩
    · have hG := GP.start.run (linesL s) hp
      have hLc := lines_count s
      have HSe := Lib.hid (settle_any w w2 T2 _ q N ln _ hr2 (by omega) hG (by omega))
      rw [hp] at HP
      have HP2 := Lib.hid (show readP s = (match pSettle q q.im.fn q.ms with
        | .inr x => .inr x
        | .inl fn => if I.okI ⟨q.im.sh, fn⟩ = true then .inl ⟨⟨q.im.sh, fn⟩, q.last, q.nums, q.labs, q.ms⟩ else .inr (0, 93)) from HP.out)
      clear hp hr2 hG k2 HP HL hmm hLc
      generalize w.heap.size + 1 = rb at *
      go_wp2_with fail
      refine HSe.out.mono ?_
      rintro e w3 ⟨k3, ⟨l, c, hp, rfl⟩ | ⟨fn, hp, rfl, hr3⟩⟩
      · have hR : readP s = .inr (l, c) := by rw [HP2.out, hp]
        have HR := Lib.hid hR
        have hc := settle_wrong _ _ hp
        clear hp hR
        have hc2 : (c == 0) = false := by rw [beq_eq_false_iff_ne]; exact hc
        go_wp2
        refine bodyPost_ret (results_tmp3 rfl _ _ _) rfl ?_
        exact ⟨k3, .inl ⟨l, c, HR.out, rfl⟩⟩
      · have hR : readP s = (if I.okI ⟨q.im.sh, fn⟩ = true then .inl ⟨⟨q.im.sh, fn⟩, q.last, q.nums, q.labs, q.ms⟩ else .inr (0, 93)) := by rw [HP2.out, hp]
        have HR := Lib.hid hR
        have HR3 := Lib.hid hr3
        obtain ⟨hk3, v, es, fs, ls, R, F, hln, hr4⟩ := hr3
        obtain ⟨ho, hlg⟩ := rdr_own hr4 rfl (by omega)
        obtain ⟨c0, c1, _⟩ := rd_cells hr4.bk
        have him := hr4.im
        have HC := Lib.hid (I.check_any ⟨v.X, v.nx, v.cx, v.Y, v.ny, v.cy⟩ es fs w3 ho.im hlg (I.chkI ⟨q.im.sh, fn⟩) (by show _ = _; rw [him]))
        unfold I.IV.val I.IV.cells at HC
        clear hp hR hr4 hk3 hln ho hlg him
        cases hok : I.okI ⟨q.im.sh, fn⟩ with
        | true =>
          rw [if_pos hok] at HR
          rw [I.chkI_ok hok] at HC
          go_wp2_with fail
          refine HC.out.mono ?_
          rintro e w4 ⟨rfl, k4⟩
          go_wp2
          refine bodyPost_ret (results_tmp3 rfl _ _ _) rfl ?_
          exact ⟨keepN k3 k4, .inr ⟨_, rb, T2, N, ln, HR.out, rfl, HR3.out.keepN k4, by omega⟩⟩
        | false =>
          rw [if_neg (by rw [hok]; decide)] at HR
          rw [I.chkI_no hok] at HC
          go_wp2_with fail
          refine HC.out.mono ?_
          rintro e w4 ⟨rfl, k4⟩
          go_wp2
          refine bodyPost_ret (results_tmp3 rfl _ _ _) rfl ?_
          exact ⟨keepN k3 k4, .inl ⟨0, 93, HR.out, rfl⟩⟩

end Go.Proofs.YtifobiajjhknbaaGreatDoor.M

namespace Go.Proofs.YtifobiajjhknbaaGreatDoor.I
open Go.RowKit W

/-- Parts that are owned, each. -/
def OwnS (W : World) (P : Nat → Prop) (e : SE) : Prop := Own W 3 1 P (.slice e.1.A e.1.n e.1.c) e.1.n (ivs e.2)
theorem OwnS.keep {W W' : World} {P O : Nat → Prop} {e : SE} (h : OwnS W P e) (hk : Keep O W W') (hn : ∀ k, P k → ¬ O k) : OwnS W' P e := by
  unfold OwnS at *
  exact h.keep hk hn
theorem OwnS.mono {W : World} {P P' : Nat → Prop} {e : SE} (h : OwnS W P e) (hP : ∀ k, P k → k < W.heap.size → P' k) : OwnS W P' e := by
  unfold OwnS at *
  exact h.mono hP
/-- Parts that are owned, each. -/
def OwnF (W : World) (P : Nat → Prop) (e : FE) : Prop := F.OwnF W P e.1 e.2
theorem OwnF.keep {W W' : World} {P O : Nat → Prop} {e : FE} (h : OwnF W P e) (hk : Keep O W W') (hn : ∀ k, P k → ¬ O k) : OwnF W' P e := by
  unfold OwnF at *
  exact h.keep hk hn
theorem OwnF.mono {W : World} {P P' : Nat → Prop} {e : FE} (h : OwnF W P e) (hP : ∀ k, P k → k < W.heap.size → P' k) : OwnF W P' e := by
  unfold OwnF at *
  exact h.mono hP
end Go.Proofs.YtifobiajjhknbaaGreatDoor.I

namespace Go.Proofs.YtifobiajjhknbaaGreatDoor.I
open Go.RowKit W

end Go.Proofs.YtifobiajjhknbaaGreatDoor.I

namespace Go.Proofs.YtifobiajjhknbaaGreatDoor.I
open Go.RowKit W

end Go.Proofs.YtifobiajjhknbaaGreatDoor.I

namespace Go.Proofs.YtifobiajjhknbaaGreatDoor.I
open Go.RowKit W

end Go.Proofs.YtifobiajjhknbaaGreatDoor.I

namespace Go.Proofs.YtifobiajjhknbaaGreatDoor.O
open Go.RowKit

theorem wrap_u64 {m : Nat} (h : m ≤ 511) : IntKind.u64.wrap (m : Int) = (m : Int) := by simp [IntKind.wrap, IntKind.bits, IntKind.signed]; omega

end Go.Proofs.YtifobiajjhknbaaGreatDoor.O

namespace Go.Proofs.YtifobiajjhknbaaGreatDoor.C
open Go.RowKit O

end Go.Proofs.YtifobiajjhknbaaGreatDoor.C

namespace Go.Proofs.YtifobiajjhknbaaGreatDoor.F
open Go.RowKit W

end Go.Proofs.YtifobiajjhknbaaGreatDoor.F

namespace Go.Proofs.YtifobiajjhknbaaGreatDoor.F
open Go.RowKit W

end Go.Proofs.YtifobiajjhknbaaGreatDoor.F

namespace Go.Proofs.YtifobiajjhknbaaGreatDoor.C
open Go.RowKit O

end Go.Proofs.YtifobiajjhknbaaGreatDoor.C

namespace Go.Proofs.YtifobiajjhknbaaGreatDoor.F
open Go.RowKit W

end Go.Proofs.YtifobiajjhknbaaGreatDoor.F

namespace Go.Proofs.YtifobiajjhknbaaGreatDoor.F
open Go.RowKit W

/-- The bytes so far. -/
def Byt (W2 : World) (b : Nat) (bs : List UInt8) (w : World) : Prop := Keep (fun k => k = b) W2 w ∧ ∃ u, Blk w b 50 #[u] ∧ V.OwnB w (Fresh W2) u bs
/-- A writer: what encodes, the part, and where the bytes go, each in a cell of its own. -/
def WrV (k : Nat) (tc tp : TypeId) (enc : Value) (cells : Array Value) (b m : Nat) (v : Value) (w : World) : Prop :=
  ∃ c p q, v = askV k #[.pointer (some ⟨c, 0, none⟩), .pointer (some ⟨p, 0, none⟩), .pointer (some ⟨q, 0, none⟩)] ∧ (m ≤ c ∧ m ≤ p ∧ m ≤ q) ∧ Blk w c tc #[enc] ∧ Blk w p tp cells ∧ Blk w q 198 #[.pointer (some ⟨b, 0, none⟩)]
theorem WrV.keep {k : Nat} {tc tp : TypeId} {enc : Value} {cells : Array Value} {b m : Nat} {v : Value} {w w' : World} {O : Nat → Prop} (h : WrV k tc tp enc cells b m v w) (hk : Keep O w w') (hO : ∀ x, m ≤ x → ¬ O x) : WrV k tc tp enc cells b m v w' := by
  obtain ⟨c, p, q, e, ⟨m1, m2, m3⟩, h1, h2, h3⟩ := h
  exact ⟨c, p, q, e, ⟨m1, m2, m3⟩, h1.keep hk (hO _ m1), h2.keep hk (hO _ m2), h3.keep hk (hO _ m3)⟩
theorem Byt.keepN {W2 w w' : World} {b : Nat} {bs : List UInt8} (h : Byt W2 b bs w) (hk : Keep NoB w w') : Byt W2 b bs w' := by
  obtain ⟨h1, u, h2, h3⟩ := h
  exact ⟨h1.trans hk (fun _ h _ => h.elim), u, h2.keep hk id, h3.keep hk (fun _ _ => id)⟩
end Go.Proofs.YtifobiajjhknbaaGreatDoor.F

namespace Go.Proofs.YtifobiajjhknbaaGreatDoor.F
open Go.RowKit W

end Go.Proofs.YtifobiajjhknbaaGreatDoor.F

namespace Go.Proofs.YtifobiajjhknbaaGreatDoor.F
open Go.RowKit W

end Go.Proofs.YtifobiajjhknbaaGreatDoor.F

namespace Go.Proofs.YtifobiajjhknbaaGreatDoor.I
open Go.RowKit W

end Go.Proofs.YtifobiajjhknbaaGreatDoor.I

namespace Go.Proofs.YtifobiajjhknbaaGreatDoor.I
open Go.RowKit W

end Go.Proofs.YtifobiajjhknbaaGreatDoor.I

namespace Go.Proofs.YtifobiajjhknbaaGreatDoor
open Go.RowKit
section
variable {P : Program} {md : Region.Mode} {ops : Array Oper}

end
end Go.Proofs.YtifobiajjhknbaaGreatDoor

namespace Go.Proofs.YtifobiajjhknbaaGreatDoor
open Go.RowKit
section
variable {P : Program} {md : Region.Mode} {ops : Array Oper}
end
end Go.Proofs.YtifobiajjhknbaaGreatDoor

namespace Go.Proofs.YtifobiajjhknbaaGreatDoor.I
open Go.RowKit W

/-- A slice of bytes that reads as a list. -/
def PtV (l : List UInt8) (u : Value) (w : World) : Prop := ∃ A c, u = .slice A l.length c ∧ V.Rd w A l
theorem PtV.keepN {l : List UInt8} {u : Value} {w w' : World} (h : PtV l u w) (hk : Keep NoB w w') : PtV l u w' := by
  obtain ⟨A, c, e, h⟩ := h
  exact ⟨A, c, e, h.keep hk (fun _ _ _ => id)⟩
theorem PtV.rd {l : List UInt8} {A : Option Addr} {n c : Nat} {w : World} (h : PtV l (.slice A n c) w) : V.Rd w A l := by
  obtain ⟨A', c', e, h⟩ := h
  injection e with e1 e2 e3
  subst e1; exact h
/-- One block of bytes gets the run-time's mark. -/
structure MarkK (w w' : World) : Prop where
  os : w'.os = w.os
  tape : w'.tape = w.tape
  output : w'.output = w.output
  size : w'.heap.size = w.heap.size
  block : ∀ k : Nat, w'.heap[k]? = w.heap[k]? ∨ ∃ (cs : Array Value) (t : TypeId) (f f' : Nat × Nat), w.heap[k]? = some (Obj.cells cs t f) ∧ w'.heap[k]? = some (Obj.cells cs t f')
theorem MarkK.cell {w w' : World} (h : MarkK w w') {p : Addr} {v : Value} (hc : w.cell? p = some v) : w'.cell? p = some v := by
  rcases h.block p.block with hb | ⟨cs, t, f, f', h1, h2⟩
  · exact (World.cell?_of_block hb).trans hc
  · unfold World.cell? at hc ⊢
    rw [h1] at hc
    rw [h2]
    exact hc
/-- What the values are that Encode's region yields. -/
def SN (v : IV) (a b d : List UInt8) (x m m2 : Nat) : Nat → Value → World → Prop
  | 0 => fun u w => ∃ g f, u = .slice (some ⟨g, 0, none⟩) 5 5 ∧ m2 ≤ g ∧ w.heap[g]? = some (.cells (V.bvs magicL).toArray 5 f)
  | 1 => PtV a
  | 2 => fun u _ => u = .pointer (some ⟨x, 0, none⟩)
  | 3 => fun u _ => u = .slice v.X v.nx v.cx
  | 4 => fun u _ => u = partS
  | 5 => PtV b
  | 6 => fun u _ => u = .pointer (some ⟨x, 1, none⟩)
  | 7 => fun u _ => u = .slice v.Y v.ny v.cy
  | 8 => fun u _ => u = partF
  | 9 => PtV d
  | 10 => fun u w => ∃ g A1 c1 A2 c2 A3 c3, u = .slice (some ⟨g, 0, none⟩) 3 3 ∧ Blk w g 50 #[.slice A1 a.length c1, .slice A2 b.length c2, .slice A3 d.length c3] ∧ V.Rd w A1 a ∧ V.Rd w A2 b ∧ V.Rd w A3 d
  | 11 => fun u w => ∃ A c, u = .slice A (a ++ (b ++ d)).length c ∧ V.OwnB w (fun k => m ≤ k) (.slice A (a ++ (b ++ d)).length c) (a ++ (b ++ d))
  | 12 => fun u w => ∃ A c, u = .slice A (a ++ (b ++ d)).length c ∧ V.OwnB w (fun k => m ≤ k) (.slice A (a ++ (b ++ d)).length c) (a ++ (b ++ d))
  | _ => fun _ _ => True
theorem smF_ok {W : World} {v : F.FV} {f : F.Fu} (hn : F.FnAt W v f) (hf : F.okF f = true) : F.SmF v := by
  obtain ⟨h1, h2, _, h4, h5⟩ := (F.okF_iff f).1 hf
  have h6 := ((F.okN_iff _).1 h1).1
  have h7 := (C.okB_parts h4).2.1
  have e0 := F.sz_len hn.nm
  have := hn.la
  have := hn.lb
  have := hn.ll
  have := hn.ld
  exact ⟨by omega, by omega, by omega, by omega, by omega⟩
end Go.Proofs.YtifobiajjhknbaaGreatDoor.I

namespace Go.Proofs.YtifobiajjhknbaaGreatDoor.C
open Go.ChangeShapes Go.WideShapes Go.ChangeAt Go.RowKit Go.Deep O

section
variable {H : Type} {enc : TypeId × Value → H} {W : World} {base : Nat} {spare : Nat → Bool} {held : Bool} {fuel : Nat} {cs : List Value} {x : DataW H × List MemPlace}
end
section
variable {H : Type} {enc : TypeId × Value → H} {w : World} {base b0 : Nat} {spare : Nat → Bool} {held : Bool} {r : Reach} {v : Value} {d : DataW H} {p : List MemPlace}
end

end Go.Proofs.YtifobiajjhknbaaGreatDoor.C

namespace Go.Proofs.YtifobiajjhknbaaGreatDoor.I
open Go.RowKit W

theorem sm_of {w : World} {v : IV} {es : List SE} {fs : List FE} (h : ImAt w v es fs) (hs : es.length ≤ 64 ∧ fs.length ≤ 64 ∧ (∀ e ∈ es, S.okS e.2 = true) ∧ ∀ e ∈ fs, F.okF e.2 = true) : SmI es fs ∧ LgI v es fs := by
  obtain ⟨h1, h2, h3, h4⟩ := hs
  have hsh : ∀ e ∈ es, e.1.n ≤ 100 := fun e he => by
    have a := (h.hs e he).2
    have b := ((S.okS_iff _).1 (h3 e he)).1
    omega
  have hfn : ∀ e ∈ fs, F.SmF e.1 := fun e he => smF_ok (h.hf e he) (h4 e he)
  have hx := h.lx
  have hy := h.ly
  exact ⟨⟨by omega, by omega, hsh, hfn⟩, ⟨by omega, by omega, fun e he => by have := hsh e he; omega, fun e he => (hfn e he).lg⟩⟩
end Go.Proofs.YtifobiajjhknbaaGreatDoor.I

namespace Go.Proofs.YtifobiajjhknbaaGreatDoor.I
open Go.RowKit W

end Go.Proofs.YtifobiajjhknbaaGreatDoor.I

namespace Go.Proofs.YtifobiajjhknbaaGreatDoor.I
open Go.RowKit W

end Go.Proofs.YtifobiajjhknbaaGreatDoor.I

namespace Go.Proofs.YtifobiajjhknbaaGreatDoor.I
open Go.RowKit W

end Go.Proofs.YtifobiajjhknbaaGreatDoor.I

namespace Go.Proofs.YtifobiajjhknbaaGreatDoor.I
open Go.RowKit W

theorem sm_ok {w : World} {v : IV} {es : List SE} {fs : List FE} (h : ImAt w v es fs) (ho : okI (imOf es fs) = true) : SmI es fs ∧ LgI v es fs := by
  obtain ⟨⟨h1, ⟨_, h2⟩, _⟩, h3, h4⟩ := (okI_iff _).1 ho
  refine sm_of h ⟨by simpa [imOf] using h1, by simpa [imOf] using h2, fun e he => List.all_eq_true.1 h3 _ ?_, fun e he => List.all_eq_true.1 h4 _ ?_⟩
  · exact List.mem_map.2 ⟨e, he, rfl⟩
  · exact List.mem_map.2 ⟨e, he, rfl⟩
end Go.Proofs.YtifobiajjhknbaaGreatDoor.I

namespace Go.Proofs.YtifobiajjhknbaaGreatDoor.M
open Go.RowKit Go.Shelf W

/-- What Parse answers of it. -/
def outP : PS ⊕ (Nat × Int) → I.Im × Nat × Int
  | .inr x => (I.nilI, x.1, x.2)
  | .inl q => (q.im, 0, 0)
theorem readP_ok {s : Bs} {q : PS} (h : readP s = .inl q) : I.okI q.im = true := by
  unfold readP at h
  split at h
  · cases h
  · split at h
    · cases h
    · split at h
      · cases h
      · split at h
        · rename_i ho
          cases h; exact ho
        · cases h
theorem readP_no {s : Bs} {l : Nat} {c : Int} (h : readP s = .inr (l, c)) : c ≠ 0 := by
  unfold readP at h
  split at h
  · cases h; decide
  · split at h
    · cases h; decide
    · split at h
      · rename_i hp
        cases h
        exact settle_wrong _ _ hp
      · split at h
        · cases h
        · cases h; decide
theorem nil_sm : I.SmI [] [] := ⟨by decide, by decide, (fun _ h => nomatch h), (fun _ h => nomatch h)⟩

set_option maxRecDepth 100000 in
set_option maxHeartbeats 4000000 in
theorem parse_any (S : ByteArray) (s : Bs) (w : World) (hE : Hid (EnvM w)) (hs : Hid (S.data.toList = s)) (hl : S.size ≤ 140000) :
    Calls Tryz.prog 8 #[.string S] w (ParseR (outP (readP s)) w) := by
  have hk1 := (Keep.refl NoB w).alloc (.cells #[.slice none 0 0, .slice none 0 0] 27)
  have bp := Blk.new w 27 #[.slice none 0 0, .slice none 0 0]
  have HRd := Lib.hid (read_any S s _ (Lib.hid (hE.out.keep hk1)) hs hl)
  have HK := Lib.hid hk1
  clear hk1
  go_enter Tryz.func8, Tryz.ntmps8
  go_wp2_with fail
  refine HRd.out.mono ?_
  rintro e w2 ⟨k2, ⟨l, c, hp, rfl⟩ | ⟨q, rb, T, N, ln, hp, rfl, hr, hN⟩⟩
  · have hc := readP_no hp
    have hc2 : (c == 0) = false := by rw [beq_eq_false_iff_ne]; exact hc
    have b2 := bp.keep k2 id
    have z0 := b2.cell 0
    have z1 := b2.cell 1
    have zf := fun i => b2.frozen i
    have zl := b2.lt
    simp only [List.getElem?_toArray, List.getElem?_cons_zero, List.getElem?_cons_succ] at z0 z1
    have HP := Lib.hid hp
    have HB := Lib.hid b2
    clear hp HRd bp b2
    go_wp2
    have b9 := (HB.out.put 0 (.slice none 0 0)).put 1 (.slice none 0 0)
    have o0 := b9.cell 0
    have o1 := b9.cell 1
    simp only [List.setIfInBounds_toArray, List.set_cons_zero, List.set_cons_succ, List.getElem?_toArray, List.getElem?_cons_zero, List.getElem?_cons_succ] at o0 o1
    refine bodyPost_ret (v := .tuple #[.agg #[.slice none 0 0, .slice none 0 0], .int .i64 ((l : Nat) : Int), .int .i64 c]) (by simp [results, Tryz.results8, go_sem, o0, o1]) rfl ?_
    rw [HP.out]
    exact ⟨I.nilW, [], [], rfl, I.nil_own _ _, nil_sm, rfl, ((keepN HK.out k2).setCell (p := ⟨w.heap.size, 0, none⟩) (fun h => absurd h (Nat.lt_irrefl _)) _).setCell (p := ⟨w.heap.size, 1, none⟩) (fun h => absurd h (Nat.lt_irrefl _)) _⟩
  · have b2 := bp.keep k2 id
    have z0 := b2.cell 0
    have z1 := b2.cell 1
    have zf := fun i => b2.frozen i
    have zl := b2.lt
    simp only [List.getElem?_toArray, List.getElem?_cons_zero, List.getElem?_cons_succ] at z0 z1
    have HP := Lib.hid hp
    have HR := Lib.hid hr
    obtain ⟨hk3, v, es, fs, ls, R, F, hln, hr4⟩ := hr
    obtain ⟨c0, c1, _⟩ := rd_cells hr4.bk
    have hne : w.heap.size ≠ rb := fun e => by
      have h1 := (hr4.pa.fit rb (by rw [hr4.tb]; exact Tg.noConfusion)).1
      simp at h1
      omega
    have hne2 := hne.symm
    have HR4 := Lib.hid hr4
    have HN := Lib.hid hN
    have HB := Lib.hid b2
    clear hp HRd bp b2 hr4 hk3 hln
    go_wp2
    have b9 := (HB.out.put 0 (.slice v.X v.nx v.cx)).put 1 (.slice v.Y v.ny v.cy)
    have o0 := b9.cell 0
    have o1 := b9.cell 1
    simp only [List.setIfInBounds_toArray, List.set_cons_zero, List.set_cons_succ, List.getElem?_toArray, List.getElem?_cons_zero, List.getElem?_cons_succ] at o0 o1
    refine bodyPost_ret (v := .tuple #[.agg #[.slice v.X v.nx v.cx, .slice v.Y v.ny v.cy], .int .i64 0, .int .i64 0]) (by simp [results, Tryz.results8, go_sem, o0, o1]) rfl ?_
    rw [HP.out]
    obtain ⟨ho, _⟩ := rdr_own (w0 := w.alloc (.cells #[.slice none 0 0, .slice none 0 0] 27)) HR4.out rfl HN.out
    have hsm := (I.sm_ok ho.im (by rw [HR4.out.im]; exact readP_ok HP.out)).1
    have hkb : Keep (fun k => k = w.heap.size) w2 ((w2.setCell ⟨w.heap.size, 0, none⟩ (.slice v.X v.nx v.cx)).setCell ⟨w.heap.size, 1, none⟩ (.slice v.Y v.ny v.cy)) := ((Keep.refl (fun k => k = w.heap.size) w2).setCell (p := ⟨w.heap.size, 0, none⟩) (fun _ => rfl) _).setCell (p := ⟨w.heap.size, 1, none⟩) (fun _ => rfl) _
    have ho2 := ho.keep hkb (fun k hk e => by unfold Fresh at hk; rw [World.size_alloc] at hk; omega)
    exact ⟨⟨v.X, v.nx, v.cx, v.Y, v.ny, v.cy⟩, es, fs, rfl, ho2.mono (fun k hk _ => by unfold Fresh at hk ⊢; rw [World.size_alloc] at hk; omega), hsm, HR4.out.im, ((keepN HK.out k2).setCell (p := ⟨w.heap.size, 0, none⟩) (fun h => absurd h (Nat.lt_irrefl _)) _).setCell (p := ⟨w.heap.size, 1, none⟩) (fun h => absurd h (Nat.lt_irrefl _)) _⟩

end Go.Proofs.YtifobiajjhknbaaGreatDoor.M

namespace Go.Proofs.YtifobiajjhknbaaGreatDoor.M
open Go.RowKit

theorem words_ne (s : Bs) : ∀ w ∈ wordsL s, w ≠ [] := by
  have hfl : ∀ cur : Bs, ∀ w ∈ fl cur, w ≠ [] := by
    intro cur w hw
    by_cases h : cur = []
    · subst h; rw [fl_nil] at hw; cases hw
    · rw [fl_some h, List.mem_singleton] at hw; subst hw; exact h
  have key : ∀ (s cur : Bs), ∀ w ∈ wgo cur s, w ≠ [] := by
    intro s
    induction s with
    | nil => intro cur w hw; exact hfl cur w hw
    | cons c r ih =>
      intro cur w hw
      rw [wgo] at hw
      split at hw
      · exact hfl cur w hw
      · split at hw
        · rcases List.mem_append.1 hw with hw | hw
          · exact hfl cur w hw
          · exact ih [] w hw
        · exact ih _ w hw
  exact key s []
theorem lines_ne (s : Bs) : ∀ l ∈ linesL s, ∀ w ∈ l.2, w ≠ [] := by
  rw [lines_segs]
  have key : ∀ (ls : List Bs) (n : Nat), ∀ l ∈ ones n ls, ∀ w ∈ l.2, w ≠ [] := by
    intro ls
    induction ls with
    | nil => intro n l hl; cases hl
    | cons s r ih =>
      intro n l hl
      rw [ones, List.mem_append] at hl
      rcases hl with hl | hl
      · unfold one at hl
        split at hl
        · cases hl
        · rw [List.mem_singleton.1 hl]; exact words_ne s
      · exact ih _ l hl
  exact key _ _

theorem opAt_put (x : Nm) (v : Int) (fn : List F.Fu) (y : Nm) : opAt (putA x v fn) y = opAt fn y := by
  unfold opAt putA
  rw [List.getElem?_modify]
  cases fn[y.fn]? with
  | none => rfl
  | some f =>
    by_cases e : x.fn = y.fn
    · simp only [e, if_true, Option.map_eq_map, Option.map_some, Option.bind_some]
      rw [List.getElem?_modify]
      cases f.bd[y.pl]? with
      | none => rfl
      | some z =>
        by_cases e2 : x.pl = y.pl <;> simp [e2, putB]
    · simp [e]
theorem findI_put (x : Nm) (v : Int) (fn : List F.Fu) (s : Bs) : I.findI (putA x v fn) s = I.findI fn s := by
  have key : ∀ l : List F.Fu, I.findI l s = (l.map F.Fu.nm).findIdx? (fun a => decide (a = s)) := fun l => by unfold I.findI; rw [List.findIdx?_map]; rfl
  rw [key, key]
  congr 1
  apply List.ext_getElem?
  intro k
  unfold putA
  rw [List.getElem?_map, List.getElem?_modify, List.getElem?_map]
  cases fn[k]? with
  | none => rfl
  | some f => by_cases e : x.fn = k <;> simp [e]
theorem kindA_two (op : Int) : kindA op = 0 ∨ kindA op = 1 ∨ kindA op = 2 := by
  unfold kindA
  split
  · exact .inr (.inl rfl)
  · split
    · exact .inr (.inr rfl)
    · exact .inl rfl
/-- Names are settled as the text's are. -/
theorem sim_settle {st : St} {p : PS} (h : Sim st p) : ∀ (r pre : List Nm) (fn : List F.Fu), pre ++ r = st.ns → (∀ x, opAt fn x = opAt st.im.fn x) → (∀ s, I.findI fn s = I.findI st.im.fn s) → pSettle p fn (notes st.im.fn pre r) = resL st.ns pre fn r
  | [], pre, fn, _, _, _ => rfl
  | x :: r, pre, fn, he, ho, hf => by
    have hx : x ∈ st.ns := by rw [← he]; simp
    have he2 : (pre ++ [x]) ++ r = st.ns := by rw [← he]; simp
    rw [notes, resL]
    by_cases hl : x.lb = true
    · rw [if_pos hl, if_pos hl]
      by_cases ha : again pre x = true
      · rw [if_pos ha, if_pos ha, List.singleton_append, pSettle]
        rfl
      · rw [if_neg ha, if_neg ha, List.nil_append]
        exact sim_settle h r _ fn he2 ho hf
    · have hl2 : x.lb = false := by simpa using hl
      have hk0 := h.kd x hx hl2
      rw [if_neg hl, if_neg hl, List.singleton_append, pSettle]
      have hv : valA st.ns fn x = (match amongP p ⟨x.ln, x.fn, x.pl, x.s, kindA (opAt st.im.fn x)⟩ with | some n => .inl n | none => .inr (wrongM ⟨x.ln, x.fn, x.pl, x.s, kindA (opAt st.im.fn x)⟩)) := by
        unfold valA amongP wrongM
        dsimp only
        rw [ho, hf, if_neg hk0]
        rcases kindA_two (opAt st.im.fn x) with e | e | e
        · exact absurd e hk0
        · rw [e, if_pos rfl, if_pos rfl, h.labs _ (h.ns x hx).1]
          rfl
        · rw [e, if_neg (by decide), if_neg (by decide), h.nums]
          rfl
      rw [hv]
      cases amongP p ⟨x.ln, x.fn, x.pl, x.s, kindA (opAt st.im.fn x)⟩ with
      | none => rfl
      | some v =>
        dsimp only
        exact sim_settle h r _ (putA x (v : Int) fn) he2 (fun y => (opAt_put x _ fn y).trans (ho y)) (fun s => (findI_put x _ fn s).trans (hf s))
/-- What Parse answers is what the text says. -/
theorem parse_read (s : Bs) : outP (readP s) = parseL s := by
  unfold readP parseL
  by_cases h1 : 131072 < s.length
  · rw [if_pos h1, if_pos h1]; rfl
  · rw [if_neg h1, if_neg h1]
    unfold sayL
    rcases sim_run (linesL s) Sim.start (lines_ne s) with ⟨n, e1, e2⟩ | ⟨st, p, e1, e2, h⟩
    · rw [e1, e2]; rfl
    · rw [e1, e2]
      dsimp only
      unfold endL
      rw [h.ms, h.im, sim_settle h st.ns [] st.im.fn rfl (fun _ => rfl) (fun _ => rfl)]
      cases resL st.ns [] st.im.fn st.ns with
      | inr x => rfl
      | inl fn =>
        dsimp only
        by_cases ho : I.okI ⟨st.im.sh, fn⟩ = true
        · rw [if_pos ho, if_pos ho]; rfl
        · rw [if_neg ho, if_neg ho]; rfl

end Go.Proofs.YtifobiajjhknbaaGreatDoor.M

namespace Go.Proofs.YtifobiajjhknbaaGreatDoor.M
open Go.RowKit Go.Shelf W

/-- The labels that the reader has of a function. -/
def labP (fn : Int) : PS ⊕ (Nat × Int) → List Bs
  | .inr _ => []
  | .inl q => if 0 ≤ fn then ((q.labs[fn.toNat]?).map Prod.fst).getD [] else []
theorem firsts_names (i : Nat) : ∀ (r pre : List Nm) (ns : List Nm) (fn fn' : List _root_.Go.Proofs.YtifobiajjhknbaaGreatDoor.F.Fu), resL ns pre fn r = .inl fn' → firsts i pre r = (r.filter fun x => x.lb && decide ((x.fn : Int) = (i : Int))).map Nm.s
  | [], _, _, _, _, _ => rfl
  | x :: r, pre, ns, fn, fn', h => by
    rw [resL] at h
    rw [firsts, List.filter_cons]
    by_cases hl : x.lb = true
    · rw [if_pos hl] at h
      by_cases ha : again pre x = true
      · rw [if_pos ha] at h; cases h
      · rw [if_neg ha] at h
        have ih := firsts_names i r _ _ _ _ h
        have ha2 : again pre x = false := by simpa using ha
        by_cases e : x.fn = i
        · rw [if_pos ⟨hl, e, ha2⟩, ih, if_pos (by simp [hl, e])]; rfl
        · rw [if_neg (fun h2 => e h2.2.1), ih, if_neg (by simp [hl]; omega)]
    · rw [if_neg hl] at h
      rw [if_neg (fun h2 => hl h2.1), if_neg (by simp [hl])]
      split at h
      · exact firsts_names i r _ _ _ _ h
      · cases h
theorem names_none {ns : List Nm} {fn : Int} (h : ∀ x ∈ ns, (x.fn : Int) ≠ fn) : namesL ns fn = [] := by
  unfold namesL
  rw [List.filter_eq_nil_iff.2]
  · rfl
  · intro x hx
    simp [h x hx]
theorem labels_read (s : Bs) (fn : Int) : labP fn (readP s) = labelsL s fn := by
  unfold readP labelsL
  by_cases h1 : 131072 < s.length
  · rw [if_pos h1, if_pos h1]; rfl
  · rw [if_neg h1, if_neg h1]
    unfold labsL
    rcases sim_run (linesL s) Sim.start (lines_ne s) with ⟨n, e1, e2⟩ | ⟨st, p, e1, e2, h⟩
    · rw [e1, e2]; rfl
    · rw [e1, e2]
      dsimp only
      rw [h.ms, h.im, sim_settle h st.ns [] st.im.fn rfl (fun _ => rfl) (fun _ => rfl)]
      cases hr : resL st.ns [] st.im.fn st.ns with
      | inr x =>
        have hc : x.2 ≠ 0 := by
          have h2 := sim_settle h st.ns [] st.im.fn rfl (fun _ => rfl) (fun _ => rfl)
          rw [hr] at h2
          exact settle_wrong (l := x.1) (c := x.2) _ _ h2
        have he : (endL st).2.2 = x.2 := by unfold endL; rw [hr]
        rw [if_neg (by rw [he]; exact hc)]; rfl
      | inl fn2 =>
        dsimp only
        by_cases ho : I.okI ⟨st.im.sh, fn2⟩ = true
        · have he : (endL st).2.2 = 0 := by unfold endL; rw [hr]; dsimp only; rw [if_pos ho]
          rw [if_pos ho, if_pos he]
          unfold labP
          dsimp only
          by_cases h0 : 0 ≤ fn
          · rw [if_pos h0]
            by_cases h2 : fn.toNat < st.im.fn.length
            · rw [h.labs _ h2]
              have e : ((fn.toNat : Nat) : Int) = fn := by omega
              have := firsts_names fn.toNat st.ns [] st.ns st.im.fn fn2 hr
              rw [e] at this
              exact this
            · rw [List.getElem?_eq_none (by rw [h.lbl]; omega), names_none (fun x hx => by have := (h.ns x hx).1; omega)]
              rfl
          · rw [if_neg h0, names_none (fun x _ => by omega)]
        · have he : (endL st).2.2 = 93 := by unfold endL; rw [hr]; dsimp only; rw [if_neg ho]
          rw [if_neg ho, if_neg (by rw [he]; decide)]; rfl
def LabR (l : List Bs) (w : World) (e : Ending) (W' : World) : Prop := ∃ A c, e = .returned (.slice A l.length c) ∧ Rd W' A (sv l) ∧ l.length ≤ c ∧ Keep NoB w W'
/-- A function's labels in memory. -/
theorem lab_cells {B : Nat} {W : World} {T : Nat → Tg} {rb : Nat} {v : RV} {es : List I.SE} {fs : List I.FE} {ls : List LE} {R : Tg → Row} {F : Tg → Option Mp} {p : PS} {N : Nat} (h : Rdr B W T rb v es fs ls R F p N) : v.nl = ls.length ∧ ∀ k (hk : k < ls.length), ∃ g, v.L = some ⟨g, 0, none⟩ ∧ W.cell? ⟨g, k * 2, none⟩ = some (.slice ls[k].A ls[k].n ls[k].c) ∧ ls[k].n = ls[k].ws.length ∧ ls[k].n ≤ ls[k].c ∧ Rd W ls[k].A (sv ls[k].ws) := by
  have hrow := h.pa.row .lb ⟨Tg.noConfusion, Tg.noConfusion⟩
  rw [h.rlb] at hrow
  have hlen : (lvs ls).length = v.nl * 2 := hrow.1.1
  rw [lvs_length] at hlen
  refine ⟨by omega, fun k hk => ?_⟩
  obtain ⟨A, c, e, _, _, hr, ho⟩ := Own.form hrow
  injection e with e1 e2 e3
  obtain ⟨g, off, rfl, hcs⟩ := hr (by show 0 < (lvs ls).length; rw [lvs_length]; omega)
  have h2 := (ho _ rfl).2
  injection h2 with _ h3
  subst h3
  have h4 := hcs (k * 2 + 0) _ (by rw [lvs_at _ _ _ hk (by omega)]; rfl)
  rw [Nat.zero_add, Nat.add_zero] at h4
  have hn := h.pa.row (.nm k) ⟨Tg.noConfusion, Tg.noConfusion⟩
  rw [h.rnm k hk] at hn
  have hnl : (sv ls[k].ws).length = ls[k].n * 1 := hn.1.1
  obtain ⟨A2, c2, e5, h6, _, hr2, _⟩ := Own.form hn
  injection e5 with e5 _ e7
  subst e5 e7
  exact ⟨g, e1, h4, by simpa [sv] using hnl.symm, h6, hr2⟩

set_option maxRecDepth 100000 in
set_option maxHeartbeats 4000000 in
theorem labels_any (S : ByteArray) (s : Bs) (fn : Int) (w : World) (hE : Hid (EnvM w)) (hs : Hid (S.data.toList = s)) (hl : S.size ≤ 140000) (hf : O.I64 fn) :
    Calls Tryz.prog 10 #[.string S, .int .i64 fn] w (LabR (labelsL s fn) w) := by
  have HRd := Lib.hid (read_any S s w hE hs hl)
  have HQ := Lib.hid (labels_read s fn)
  obtain ⟨Q, hQ⟩ : ∃ Q, labelsL s fn = Q := ⟨_, rfl⟩
  rw [hQ] at HQ ⊢
  clear hQ
  have hno : Q = [] → ∀ W', Keep NoB w W' → LabR Q w (.returned (.slice none 0 0)) W' := by
    rintro rfl W' hk
    exact ⟨none, 0, rfl, Rd.none_ _ _, Nat.le_refl _, hk⟩
  have HNo := Lib.hid hno
  clear hno
  unfold O.I64 at hf
  go_enter Tryz.func10, Tryz.ntmps10
  go_wp2_with fail
  refine HRd.out.mono ?_
  rintro e w2 ⟨k2, ⟨l, c, hp, rfl⟩ | ⟨q, rb, T, N, ln, hp, rfl, hr, hN⟩⟩
  · have hc := readP_no hp
    have hc2 : (c == 0) = false := by rw [beq_eq_false_iff_ne]; exact hc
    have h0 : Q = [] := by rw [← HQ.out, hp]; rfl
    clear hp HRd HQ
    go_wp2
    go_ret
    exact HNo.out h0 _ k2
  · have HP := HQ.out
    rw [hp] at HP
    unfold labP at HP
    dsimp only at HP
    obtain ⟨hk3, v, es, fs, ls, R, F, hln, hr4⟩ := hr
    obtain ⟨_, _, _, _, _, c5, _⟩ := rd_cells hr4.bk
    obtain ⟨hnl, hlc⟩ := lab_cells hr4
    have hlb := hr4.lb
    have hlf := hr4.lf
    have hfb := hr4.by_
    rw [hnl] at c5
    by_cases h0 : fn < 0
    · have hQ0 : Q = [] := by rw [← HP, if_neg (by omega)]
      clear HP HQ HRd hp hr4 hk3
      go_wp2
      go_ret
      exact HNo.out hQ0 _ k2
    · by_cases h1 : (ls.length : Int) ≤ fn
      · have hQ0 : Q = [] := by
          rw [← HP, if_pos (by omega), ← hlb, List.getElem?_eq_none (by simp; omega)]; rfl
        clear HP HQ HRd hp hr4 hk3
        go_wp2
        go_ret
        exact HNo.out hQ0 _ k2
      · obtain ⟨i, rfl⟩ : ∃ i : Nat, fn = (i : Int) := ⟨fn.toNat, by omega⟩
        have hi : i < ls.length := by omega
        obtain ⟨g, hL, z0, hn, hc, hrd⟩ := hlc i hi
        have hQ0 : Q = ls[i].ws := by
          rw [← HP, if_pos (by omega), ← hlb, List.getElem?_map, Int.toNat_natCast, List.getElem?_eq_getElem hi]; rfl
        have HF : Hid (LabR Q w (.returned (.slice ls[i].A ls[i].n ls[i].c)) w2) := by
          rw [hQ0]
          exact ⟨ls[i].A, ls[i].c, by rw [hn], hrd, by omega, k2⟩
        rw [hL] at c5
        generalize ls[i] = le at *
        obtain ⟨LA, Ln, Lc, Lb, Lw, Lf⟩ := le
        dsimp only at z0 HF
        clear HP HQ HRd hp hr4 hk3 hlc hQ0 hn hc hrd
        go_wp2
        go_ret
        exact HF.out

end Go.Proofs.YtifobiajjhknbaaGreatDoor.M

namespace Go.Proofs.YtifobiajjhknbaaGreatDoor.M
open Go.RowKit W

theorem im_none {W : World} {P : Nat → Prop} {X Y : Option Addr} {nx cx ny cy : Nat} {es : List I.SE} {fs : List I.FE} (h : I.OwnIm W P ⟨X, nx, cx, Y, ny, cy⟩ es fs) (hi : I.imOf es fs = I.nilI) : nx = 0 ∧ ny = 0 := by
  have h1 : (es.map fun e => e.2) = [] := congrArg I.Im.sh hi
  have h2 : (fs.map fun e => e.2) = [] := congrArg I.Im.fn hi
  rw [List.map_eq_nil_iff] at h1 h2
  subst h1 h2
  have h3 := h.ox.1.1
  have h4 := h.oy.1.1
  simp [I.svs, I.fvs] at h3 h4
  exact ⟨by omega, by omega⟩
/-- The library's Join of words in memory. -/
theorem join_any (A : Option Addr) (ls : List Bs) (n c : Nat) (sep : ByteArray) (w : World) (hr : Rd w A (sv ls)) (hn : ls.length = n) (hm : n ≤ 1000) (hc : n ≤ c) (t : Bs) (ht : Lib.join ls sep.data.toList = t) (hl : t.length ≤ 1000000) :
    Calls Tryz.prog 27 #[.slice A n c, .string sep] w fun e w' => e = .returned (.string (str t)) ∧ Keep NoB w w' := by
  subst hn ht
  by_cases h0 : ls = []
  · subst h0
    refine (Tryz.strings_Join_none A c sep w).mono ?_
    rintro e w' ⟨rfl, rfl⟩
    exact ⟨rfl, Keep.refl _ _⟩
  · have hpos : 0 < ls.length := by cases ls with | nil => exact absurd rfl h0 | cons _ _ => simp
    obtain ⟨g, off, rfl, hcs⟩ := sv_at hr hpos
    have e1 : (ls.map str).map (·.data.toList) = ls := by rw [List.map_map]; simp [Function.comp_def]
    have hg : g < w.heap.size := by
      have := hcs 0 hpos
      unfold World.cell? at this
      cases hh : w.heap[g]? with
      | none => simp [hh] at this
      | some o => exact (Array.getElem?_eq_some_iff.1 hh).1
    have hJ := Tryz.strings_Join g off c (ls.map str) sep w (fun j x hx => by
      rw [List.getElem?_map] at hx
      rcases Nat.lt_or_ge j ls.length with hj | hj
      · rw [List.getElem?_eq_getElem hj] at hx
        injection hx with hx
        rw [← hx]
        exact hcs j hj
      · rw [List.getElem?_eq_none hj] at hx; cases hx) hg (by simp; omega) (by simpa using hc) (by rw [e1]; omega)
    rw [e1, List.length_map] at hJ
    exact hJ.mono (by rintro e w' ⟨rfl, hb⟩; exact ⟨rfl, Keep.of_below hb⟩)

set_option maxRecDepth 100000 in
set_option maxHeartbeats 2000000 in
theorem wrong_yes (T : World → Prop) (hT : ∀ W W', T W → Keep NoB W W' → T W') (HP : Hid (ParseT T)) (c : Int) (line : Nat) (A : Option Addr) (ls : List Bs) (n cp : Nat) (w : World) (hw : T w) (hr : Rd w A (sv ls)) (hn : Hid (ls.length = n)) (hm : n ≤ 1000) (hc : n ≤ cp)
    (t : Bs) (ht : Lib.join ls [10] = t) (hl : t.length ≤ 140000) (hp : parseL t = (I.nilI, line, c)) :
    Calls Tryz.prog 7 #[.int .i64 c, .int .i64 (line : Int), .slice A n cp] w fun e w' => e = .returned (.bool true) ∧ Keep NoB w w' := by
  have HJ := Lib.hid (join_any A ls n cp ⟨#[10]⟩ w hr hn.out hm hc t ht (by omega))
  have hts : (str t).data.toList = t := by simp
  have HPa := Lib.hid (fun W (hk : Keep NoB w W) => (show ParseR (parseL t) W = ParseR (I.nilI, line, c) W by rw [hp]) ▸ HP.out (str t) t W (hT w W hw hk) (Lib.hid hts) (by rw [size_of hts]; exact hl))
  have HPa := Lib.hid (fun W hk => (HPa.out W hk).mono (fun _ _ h => parseO_of h))
  generalize str t = TX at HJ HPa
  clear ht hl hp hts hr hw hT HP
  go_enter Tryz.func7, Tryz.ntmps7
  go_wp2_with fail
  refine HJ.out.mono ?_
  rintro e w1 ⟨rfl, k1⟩
  go_wp2_with fail
  refine (HPa.out _ k1).mono ?_
  rintro e w2 ⟨X, nx, cx, Y, ny, cy, es, fs, rfl, hio, hsm, him, k2⟩
  have b3 := Blk.new w2 27 #[.slice X nx cx, .slice Y ny cy]
  have k3 := (keepM k1 k2).alloc (.cells #[.slice X nx cx, .slice Y ny cy] 27)
  obtain ⟨rfl, rfl⟩ := im_none hio him
  obtain ⟨r0, r1⟩ := I.blk2 (v := ⟨X, 0, cx, Y, 0, cy⟩) b3
  dsimp only at r0 r1
  clear hio hsm him b3 k2 HPa HJ
  go_wp2
  go_ret
  exact ⟨rfl, k3⟩

/-! ### The chapter's examples -/

theorem ex1 : parseL [102, 117, 110, 99, 32, 109, 97, 105, 110, 32, 62, 10, 114, 101, 116] = (⟨[], [⟨[109, 97, 105, 110], [], [], [], [(24, 0, 0)]⟩]⟩, 0, 0) := by kernel_rfl
theorem ex2 : parseL ([102, 117, 110, 99, 32, 109, 97, 105, 110, 32, 62, 10] ++ [116, 111, 112, 58, 32, 10] ++ [106, 109, 112, 32, 116, 111, 112, 32, 59, 32, 114, 111, 117, 110, 100, 10]) = (⟨[], [⟨[109, 97, 105, 110], [], [], [], [(18, 0, 0)]⟩]⟩, 0, 0) := by kernel_rfl
theorem ex3 : parseL (Lib.join [[102, 117, 110, 99, 32, 109, 97, 105, 110, 32, 62], [106, 109, 112, 32, 101, 110, 100]] [10]) = (I.nilI, 2, 91) := by kernel_rfl
theorem ex4 : parseL (Lib.join [[114, 101, 116]] [10]) = (I.nilI, 1, 90) := by kernel_rfl
theorem ex5 : parseL (Lib.join [] [10]) = (I.nilI, 0, 93) := by kernel_rfl

end Go.Proofs.YtifobiajjhknbaaGreatDoor.M
