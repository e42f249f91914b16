/-
  Which parts may be: IndexFunc and ContainsFunc over what lies in memory, and may, of shapes and of functions. Conditions: what is asked answers by its contract.
  Parts read from a Reel: how many, and these: what read answers, of shapes and of functions. Conditions: the Reel reads bytes in memory, no more than 2^47.
  What stands between Magic and the sum: what inner answers. Conditions: the bytes lie in memory, no more than 2^47.
  Copies of functions: the program's and the document's. Conditions: the function's lists lie in memory, and are no longer than statements go through.
  The document's copy of a function. Conditions: the function's lists lie in memory, and are no longer than statements go through.
  The document's copy of an image. Conditions: the image's lists lie in memory, and are no greater than statements go through.
  Which images may be: what Check of layer image answers. Conditions: the image's lists lie in memory, each below 2^47.
  Which function has a name: the program's Find, by the iterator, left by a label, and the document's. Conditions: the image's lists lie in memory; no more than 1000 functions.
  Are two functions the same: the program's Same and the document's. Conditions: the functions' lists lie in memory, and are no longer than statements go through.
-/
import Derived.Laws.EntriesVeiled
import Derived.Test.YtgifflfjhockaaaGreatDoorQ9
import Derived.Test.YtgifflfjhockaaaGreatDoorQ8
import Derived.Test.YtgifflfjhockaaaGreatDoorQ3
import Derived.Test.YtgifflfjhockaaaGreatDoorQ10
import Derived.Test.YtgifflfjhockaaaGreatDoorQ5
namespace Go.Proofs.YtgifflfjhockaaaGreatDoor.I
open Go.RowKit W

set_option maxRecDepth 100000 in
set_option maxHeartbeats 4000000 in
theorem indexS_any (A : Option Addr) (es : List SE) (n c k b : Nat) (w : World) (hcf : ∀ args w, (callFunc k args).run Tryz.prog w = .ok (.enter k args) w) (hr : Hid (∀ W, Keep NoB w W → Rd W A (svs es))) (hn : Hid (es.length = n)) (hm : n ≤ 1000) (bs : Nat → Bool)
    (hq : Hid (∀ i (h : i < es.length) W, Keep NoB w W → Calls Tryz.prog k #[es[i].1.val, .pointer (some ⟨b, 0, none⟩)] W fun e W' => e = .returned (.bool (bs i)) ∧ Keep NoB W W')) :
    Calls Tryz.prog 147 #[.slice A n c, .func (.func k) #[] #[.pointer (some ⟨b, 0, none⟩)]] w fun e w' => ∃ R : Int, e = .returned (.int .i64 R) ∧ ((0 ≤ R ∧ ∃ i, i < n ∧ bs i = true) ∨ (R = -1 ∧ ∀ i, i < n → bs i = false)) ∧ Keep NoB w w' := by
  go_enter Tryz.func147, Tryz.ntmps147
  go_wp2
  go_loopw [8] (fun i wr => ∃ j : Nat, j ≤ n ∧ i = .int .i64 j ∧ Hid (∀ t, t < j → bs t = false) ∧ Keep NoB w wr) (fun i _ => n - (intOf i).toNat)
  case atStart => exact ⟨0, Nat.zero_le _, rfl, fun t h => absurd h (by omega), Keep.refl _ _⟩
  case round =>
    obtain ⟨j, hj, rfl, hB, hK⟩ := hrel
    by_cases hlt : j < n
    · have hje : j < es.length := by rw [hn.out]; exact hlt
      obtain ⟨g, off, rfl, c0⟩ := shape_at (hr.out _ hK) hje
      have HQ := Lib.hid (hq.out j hje _ hK)
      generalize es[j] = e at c0 HQ
      obtain ⟨⟨A1, n1, d1⟩, l⟩ := e
      dsimp only [SV.val] at c0 HQ
      obtain ⟨bj, hbj⟩ : ∃ x, bs j = x := ⟨_, rfl⟩
      rw [hbj] at HQ
      have HBJ := Lib.hid hbj
      clear hbj
      go_wp2_with fail
      refine HQ.out.mono ?_
      rintro e w1 ⟨rfl, k1⟩
      replace hK := keepN hK k1
      cases bj
      · go_wp2
        go_roundw
        case rel => exact ⟨j + 1, by omega, by go_num, fun t ht => (by
          rcases Nat.lt_succ_iff_lt_or_eq.1 ht with h | rfl
          · exact hB.out t h
          · exact HBJ.out), hK⟩
        case measure => simp [intOf]; omega
      · go_wp2
        go_ret
        exact ⟨_, rfl, .inl ⟨by omega, j, hlt, HBJ.out⟩, hK⟩
    · obtain rfl : j = n := by omega
      go_wp2
      go_ret
      exact ⟨_, rfl, .inr ⟨rfl, hB.out⟩, hK⟩

set_option maxRecDepth 100000 in
set_option maxHeartbeats 2000000 in
theorem containsS_any (A : Option Addr) (es : List SE) (n c k b : Nat) (w : World) (hcf : ∀ args w, (callFunc k args).run Tryz.prog w = .ok (.enter k args) w) (hr : Hid (∀ W, Keep NoB w W → Rd W A (svs es))) (hn : Hid (es.length = n)) (hm : n ≤ 1000) (bs : Nat → Bool)
    (hq : Hid (∀ i (h : i < es.length) W, Keep NoB w W → Calls Tryz.prog k #[es[i].1.val, .pointer (some ⟨b, 0, none⟩)] W fun e W' => e = .returned (.bool (bs i)) ∧ Keep NoB W W'))
    (B : Bool) (h1 : Hid ((∃ i, i < n ∧ bs i = true) → B = true)) (h0 : Hid ((∀ i, i < n → bs i = false) → B = false)) :
    Calls Tryz.prog 94 #[.slice A n c, .func (.func k) #[] #[.pointer (some ⟨b, 0, none⟩)]] w fun e w' => e = .returned (.bool B) ∧ Keep NoB w w' := by
  have HI := Lib.hid (indexS_any A es n c k b w hcf hr hn hm bs hq)
  clear hq hr hcf
  go_enter Tryz.func94, Tryz.ntmps94
  go_wp2_with fail
  refine HI.out.mono ?_
  rintro e w1 ⟨R, rfl, hR, k1⟩
  rcases hR with ⟨h2, h3⟩ | ⟨rfl, h3⟩
  · obtain rfl : B = true := h1.out h3
    have hd : decide ((0 : Int) ≤ R) = true := decide_eq_true h2
    clear h3 h1 h0
    go_wp2
    go_ret
    exact ⟨rfl, k1⟩
  · obtain rfl : B = false := h0.out h3
    clear h3 h1 h0
    go_wp2
    go_ret
    exact ⟨rfl, k1⟩

set_option maxRecDepth 100000 in
set_option maxHeartbeats 2000000 in
theorem asksS_any (k : Nat) (hcf : ∀ args w, (callFunc k args).run Tryz.prog w = .ok (.enter k args) w) (v : SV) (b : Nat) (w : World) (u0 u1 u3 u4 u5 : Value) (hb : Blk w b 86 #[u0, u1, F.fnV k, u3, u4, u5]) (R : Int) (B : Bool) (hB : (R != 0) = B)
    (HG : Hid (∀ W, Keep NoB w W → Calls Tryz.prog k #[v.val] W fun e w' => e = .returned (.int .i64 R) ∧ Keep NoB W w')) :
    Calls Tryz.prog 95 #[v.val, .pointer (some ⟨b, 0, none⟩)] w fun e w' => e = .returned (.bool B) ∧ Keep NoB w w' := by
  have c2 := hb.cell 2
  unfold F.fnV at c2
  simp only [List.getElem?_toArray, List.getElem?_cons_zero, List.getElem?_cons_succ] at c2
  clear hb
  dsimp only [SV.val] at HG ⊢
  go_enter Tryz.func95, Tryz.ntmps95
  go_wp2_with fail
  refine (HG.out _ (Keep.refl _ _)).mono ?_
  rintro e w1 ⟨rfl, k1⟩
  go_wp2
  go_ret
  exact ⟨rfl, k1⟩

/-- What an image's parts of this kind have. -/
def partS : Value := .agg #[.int .i64 0, .int .i64 64, F.fnV 72, F.fnV 73, F.fnV 74, F.fnV 75]
theorem partS_size : (Tryz.prog.info? 86).map (·.size) = some 6 := by kernel_rfl
set_option maxRecDepth 100000 in
set_option maxHeartbeats 2000000 in
theorem partsS_any (w : World) : Calls Tryz.prog 37 #[] w fun e w' => e = .returned partS ∧ Keep NoB w w' := by
  have bz := Blk.new w 86 #[.int .i64 0, .int .i64 64, F.fnV 72, F.fnV 73, F.fnV 74, F.fnV 75]
  have k0 := (Keep.refl NoB w).alloc (.cells #[.int .i64 0, .int .i64 64, F.fnV 72, F.fnV 73, F.fnV 74, F.fnV 75] 86)
  have HB := Lib.hid bz
  have HK := Lib.hid k0
  unfold partS F.fnV at *
  clear bz k0
  go_enter Tryz.func37, Tryz.ntmps37
  go_wp2
  refine bodyPost_ret (results_cell_row rfl _ _ w.heap.size 86 _ (0, 0) _ rfl HB.out Tryz.underlying86 rfl partS_size) rfl ?_
  exact ⟨rfl, HK.out⟩

/-- What may answers. -/
def mayS (l : List SE) : Bool := decide (0 ≤ l.length ∧ l.length ≤ 64) && l.all fun e => S.okS e.2
set_option maxRecDepth 100000 in
set_option maxHeartbeats 4000000 in
theorem mayS_any (A : Option Addr) (es : List SE) (n c : Nat) (w : World) (hr : Hid (∀ W, Keep NoB w W → Rd W A (svs es))) (hn : Hid (es.length = n)) (hm : n ≤ 9223372036854775807) (he : Hid (∀ e ∈ es, ∀ W, Keep NoB w W → Calls Tryz.prog 72 #[e.1.val] W fun r W' => r = .returned (.int .i64 (S.chkS e.2)) ∧ Keep NoB W W')) :
    Calls Tryz.prog 52 #[.slice A n c, partS] w fun r w' => r = .returned (.bool (mayS es)) ∧ Keep NoB w w' := by
  have bz := Blk.new w 86 #[.int .i64 0, .int .i64 64, F.fnV 72, F.fnV 73, F.fnV 74, F.fnV 75]
  have k0 := (Keep.refl NoB w).alloc (.cells #[.int .i64 0, .int .i64 64, F.fnV 72, F.fnV 73, F.fnV 74, F.fnV 75] 86)
  have hmf : ∀ (fn : Go.Fn) (first cap : Array Value) (w : World), (Instr.makeFunc fn first cap).run Tryz.prog w = .ok (.func fn first cap) w := fun _ _ _ _ => rfl
  have q0 := bz.cell 0
  have q1 := bz.cell 1
  simp only [List.getElem?_toArray, List.getElem?_cons_zero, List.getElem?_cons_succ] at q0 q1
  have HZ := Lib.hid bz
  obtain ⟨M, hM⟩ : ∃ M, mayS es = M := ⟨_, rfl⟩
  rw [hM]
  have HM := Lib.hid hM
  clear hM bz
  unfold partS F.fnV at *
  by_cases h64 : n ≤ 64
  · have HC := Lib.hid (fun W (hk : Keep NoB (w.alloc (.cells #[.int .i64 0, .int .i64 64, F.fnV 72, F.fnV 73, F.fnV 74, F.fnV 75] 86)) W) => containsS_any A es n c 95 w.heap.size W (enters_of Tryz.func95 (by kernel_rfl) rfl) (fun W' hk' => hr.out W' (keepN (keepN k0 hk) hk')) hn (by omega) (fun i => (es[i]?.map fun e => (S.chkS e.2 != 0)).getD false)
      (fun i h W' hk' => asksS_any 72 (enters_of Tryz.func72 (by kernel_rfl) rfl) es[i].1 w.heap.size W' _ _ _ _ _ (HZ.out.keep (keepN hk hk') id) (S.chkS es[i].2) _ (by simp [h]) (fun W2 hk2 => he.out _ (List.getElem_mem h) W2 (keepN (keepN (keepN k0 hk) hk') hk2)))
      (!(es.all fun e => S.okS e.2))
      (by
        rintro ⟨i, hi, hb⟩
        have hi2 : i < es.length := by rw [hn.out]; exact hi
        simp only [List.getElem?_eq_getElem hi2, Option.map_some, Option.getD_some] at hb
        rw [Bool.not_eq_true', ← Bool.not_eq_true]
        intro hall
        have := List.all_eq_true.1 hall _ (List.getElem_mem hi2)
        rw [S.chkS_ok this] at hb
        exact absurd hb (by decide))
      (by
        intro hb
        rw [Bool.not_eq_false']
        refine List.all_eq_true.2 fun e hm => ?_
        obtain ⟨i, hi, rfl⟩ := List.getElem_of_mem hm
        have := hb i (by rw [← hn.out]; exact hi)
        simp only [List.getElem?_eq_getElem hi, Option.map_some, Option.getD_some] at this
        cases ho : S.okS es[i].2
        · rw [S.chkS_no ho] at this; exact absurd this (by decide)
        · rfl))
    unfold F.fnV at HC
    obtain ⟨al, hal⟩ : ∃ al, (es.all fun e => S.okS e.2) = al := ⟨_, rfl⟩
    rw [hal] at HC
    have HV : Hid (al = M) := by
      show _ = _
      rw [← HM.out, ← hal]; unfold mayS; rw [hn.out, decide_eq_true (by omega : 0 ≤ n ∧ n ≤ 64)]; rfl
    clear hal HM he hr HZ
    go_enter Tryz.func52, Tryz.ntmps52
    go_wp2_with fail
    refine (HC.out _ (Keep.refl _ _)).mono ?_
    rintro e w1 ⟨rfl, k1⟩
    go_wp2
    go_ret
    exact ⟨by rw [← HV.out]; cases al <;> rfl, keepN k0 k1⟩
  · have hd : decide ((n : Int) ≤ 64) = false := by rw [decide_eq_false_iff_not]; omega
    obtain rfl : false = M := by
      rw [← HM.out]; unfold mayS; rw [hn.out, decide_eq_false (by omega : ¬ (0 ≤ n ∧ n ≤ 64))]; rfl
    clear HM he hr HZ
    go_enter Tryz.func52, Tryz.ntmps52
    go_wp2
    go_ret
    exact ⟨rfl, k0⟩

set_option maxRecDepth 100000 in
set_option maxHeartbeats 4000000 in
theorem indexF_any (A : Option Addr) (fs : List FE) (n c k b : Nat) (w : World) (hcf : ∀ args w, (callFunc k args).run Tryz.prog w = .ok (.enter k args) w) (hr : Hid (∀ W, Keep NoB w W → Rd W A (fvs fs))) (hn : Hid (fs.length = n)) (hm : n ≤ 1000) (bs : Nat → Bool)
    (hq : Hid (∀ i (h : i < fs.length) W, Keep NoB w W → Calls Tryz.prog k #[fs[i].1.val, .pointer (some ⟨b, 0, none⟩)] W fun e W' => e = .returned (.bool (bs i)) ∧ Keep NoB W W')) :
    Calls Tryz.prog 148 #[.slice A n c, .func (.func k) #[] #[.pointer (some ⟨b, 0, none⟩)]] w fun e w' => ∃ R : Int, e = .returned (.int .i64 R) ∧ ((0 ≤ R ∧ ∃ i, i < n ∧ bs i = true) ∨ (R = -1 ∧ ∀ i, i < n → bs i = false)) ∧ Keep NoB w w' := by
  go_enter Tryz.func148, Tryz.ntmps148
  go_wp2
  go_loopw [8] (fun i wr => ∃ j : Nat, j ≤ n ∧ i = .int .i64 j ∧ Hid (∀ t, t < j → bs t = false) ∧ Keep NoB w wr) (fun i _ => n - (intOf i).toNat)
  case atStart => exact ⟨0, Nat.zero_le _, rfl, fun t h => absurd h (by omega), Keep.refl _ _⟩
  case round =>
    obtain ⟨j, hj, rfl, hB, hK⟩ := hrel
    by_cases hlt : j < n
    · have hje : j < fs.length := by rw [hn.out]; exact hlt
      obtain ⟨g, off, rfl, c0, c1, c2, c3, c4⟩ := fun_at (hr.out _ hK) hje
      have HQ := Lib.hid (hq.out j hje _ hK)
      generalize fs[j] = e at c0 c1 c2 c3 c4 HQ
      obtain ⟨⟨S1, A1, na1, ca1, B1, nb1, cb1, L1, nl1, cl1, D1, nd1, cd1⟩, l⟩ := e
      dsimp only [F.FV.val, F.FV.cells] at c0 c1 c2 c3 c4 HQ
      obtain ⟨bj, hbj⟩ : ∃ x, bs j = x := ⟨_, rfl⟩
      rw [hbj] at HQ
      have HBJ := Lib.hid hbj
      clear hbj
      go_wp2_with fail
      refine HQ.out.mono ?_
      rintro e w1 ⟨rfl, k1⟩
      replace hK := keepN hK k1
      cases bj
      · go_wp2
        go_roundw
        case rel => exact ⟨j + 1, by omega, by go_num, fun t ht => (by
          rcases Nat.lt_succ_iff_lt_or_eq.1 ht with h | rfl
          · exact hB.out t h
          · exact HBJ.out), hK⟩
        case measure => simp [intOf]; omega
      · go_wp2
        go_ret
        exact ⟨_, rfl, .inl ⟨by omega, j, hlt, HBJ.out⟩, hK⟩
    · obtain rfl : j = n := by omega
      go_wp2
      go_ret
      exact ⟨_, rfl, .inr ⟨rfl, hB.out⟩, hK⟩

set_option maxRecDepth 100000 in
set_option maxHeartbeats 2000000 in
theorem containsF_any (A : Option Addr) (fs : List FE) (n c k b : Nat) (w : World) (hcf : ∀ args w, (callFunc k args).run Tryz.prog w = .ok (.enter k args) w) (hr : Hid (∀ W, Keep NoB w W → Rd W A (fvs fs))) (hn : Hid (fs.length = n)) (hm : n ≤ 1000) (bs : Nat → Bool)
    (hq : Hid (∀ i (h : i < fs.length) W, Keep NoB w W → Calls Tryz.prog k #[fs[i].1.val, .pointer (some ⟨b, 0, none⟩)] W fun e W' => e = .returned (.bool (bs i)) ∧ Keep NoB W W'))
    (B : Bool) (h1 : Hid ((∃ i, i < n ∧ bs i = true) → B = true)) (h0 : Hid ((∀ i, i < n → bs i = false) → B = false)) :
    Calls Tryz.prog 96 #[.slice A n c, .func (.func k) #[] #[.pointer (some ⟨b, 0, none⟩)]] w fun e w' => e = .returned (.bool B) ∧ Keep NoB w w' := by
  have HI := Lib.hid (indexF_any A fs n c k b w hcf hr hn hm bs hq)
  clear hq hr hcf
  go_enter Tryz.func96, Tryz.ntmps96
  go_wp2_with fail
  refine HI.out.mono ?_
  rintro e w1 ⟨R, rfl, hR, k1⟩
  rcases hR with ⟨h2, h3⟩ | ⟨rfl, h3⟩
  · obtain rfl : B = true := h1.out h3
    have hd : decide ((0 : Int) ≤ R) = true := decide_eq_true h2
    clear h3 h1 h0
    go_wp2
    go_ret
    exact ⟨rfl, k1⟩
  · obtain rfl : B = false := h0.out h3
    clear h3 h1 h0
    go_wp2
    go_ret
    exact ⟨rfl, k1⟩

set_option maxRecDepth 100000 in
set_option maxHeartbeats 2000000 in
theorem asksF_any (k : Nat) (hcf : ∀ args w, (callFunc k args).run Tryz.prog w = .ok (.enter k args) w) (v : F.FV) (b : Nat) (w : World) (u0 u1 u3 u4 u5 : Value) (hb : Blk w b 93 #[u0, u1, F.fnV k, u3, u4, u5]) (R : Int) (B : Bool) (hB : (R != 0) = B)
    (HG : Hid (∀ W, Keep NoB w W → Calls Tryz.prog k #[v.val] W fun e w' => e = .returned (.int .i64 R) ∧ Keep NoB W w')) :
    Calls Tryz.prog 97 #[v.val, .pointer (some ⟨b, 0, none⟩)] w fun e w' => e = .returned (.bool B) ∧ Keep NoB w w' := by
  have k0 := (Keep.refl NoB w).alloc (.cells v.cells 61)
  have bx := Blk.new w 61 v.cells
  replace hb := hb.alloc (.cells v.cells 61)
  have c2 := hb.cell 2
  unfold F.fnV at c2
  simp only [List.getElem?_toArray, List.getElem?_cons_zero, List.getElem?_cons_succ] at c2
  clear hb
  obtain ⟨S1, A1, na1, ca1, B1, nb1, cb1, L1, nl1, cl1, D1, nd1, cd1⟩ := v
  obtain ⟨q0, q1, q2, q3, q4⟩ := F.blk5 bx
  dsimp only [F.FV.val, F.FV.cells] at HG k0 q0 q1 q2 q3 q4 c2 bx ⊢
  clear bx
  go_enter Tryz.func97, Tryz.ntmps97
  go_wp2_with fail
  refine (HG.out _ k0).mono ?_
  rintro e w1 ⟨rfl, k1⟩
  go_wp2
  go_ret
  exact ⟨rfl, keepN k0 k1⟩

/-- What an image's parts of this kind have. -/
def partF : Value := .agg #[.int .i64 1, .int .i64 64, F.fnV 76, F.fnV 77, F.fnV 78, F.fnV 79]
theorem partF_size : (Tryz.prog.info? 93).map (·.size) = some 6 := by kernel_rfl
set_option maxRecDepth 100000 in
set_option maxHeartbeats 2000000 in
theorem partsF_any (w : World) : Calls Tryz.prog 39 #[] w fun e w' => e = .returned partF ∧ Keep NoB w w' := by
  have bz := Blk.new w 93 #[.int .i64 1, .int .i64 64, F.fnV 76, F.fnV 77, F.fnV 78, F.fnV 79]
  have k0 := (Keep.refl NoB w).alloc (.cells #[.int .i64 1, .int .i64 64, F.fnV 76, F.fnV 77, F.fnV 78, F.fnV 79] 93)
  have HB := Lib.hid bz
  have HK := Lib.hid k0
  unfold partF F.fnV at *
  clear bz k0
  go_enter Tryz.func39, Tryz.ntmps39
  go_wp2
  refine bodyPost_ret (results_cell_row rfl _ _ w.heap.size 93 _ (0, 0) _ rfl HB.out Tryz.underlying93 rfl partF_size) rfl ?_
  exact ⟨rfl, HK.out⟩

/-- What may answers. -/
def mayF (l : List FE) : Bool := decide (1 ≤ l.length ∧ l.length ≤ 64) && l.all fun e => F.okF e.2
set_option maxRecDepth 100000 in
set_option maxHeartbeats 4000000 in
theorem mayF_any (A : Option Addr) (fs : List FE) (n c : Nat) (w : World) (hr : Hid (∀ W, Keep NoB w W → Rd W A (fvs fs))) (hn : Hid (fs.length = n)) (hm : n ≤ 9223372036854775807) (he : Hid (∀ e ∈ fs, ∀ W, Keep NoB w W → Calls Tryz.prog 76 #[e.1.val] W fun r W' => r = .returned (.int .i64 (F.chkF e.2)) ∧ Keep NoB W W')) :
    Calls Tryz.prog 53 #[.slice A n c, partF] w fun r w' => r = .returned (.bool (mayF fs)) ∧ Keep NoB w w' := by
  have bz := Blk.new w 93 #[.int .i64 1, .int .i64 64, F.fnV 76, F.fnV 77, F.fnV 78, F.fnV 79]
  have k0 := (Keep.refl NoB w).alloc (.cells #[.int .i64 1, .int .i64 64, F.fnV 76, F.fnV 77, F.fnV 78, F.fnV 79] 93)
  have hmf : ∀ (fn : Go.Fn) (first cap : Array Value) (w : World), (Instr.makeFunc fn first cap).run Tryz.prog w = .ok (.func fn first cap) w := fun _ _ _ _ => rfl
  have q0 := bz.cell 0
  have q1 := bz.cell 1
  simp only [List.getElem?_toArray, List.getElem?_cons_zero, List.getElem?_cons_succ] at q0 q1
  have HZ := Lib.hid bz
  obtain ⟨M, hM⟩ : ∃ M, mayF fs = M := ⟨_, rfl⟩
  rw [hM]
  have HM := Lib.hid hM
  clear hM bz
  unfold partF F.fnV at *
  by_cases hz : n = 0
  · subst hz
    obtain rfl : false = M := by
      rw [← HM.out]; unfold mayF; rw [hn.out]; rfl
    clear HM he hr HZ
    go_enter Tryz.func53, Tryz.ntmps53
    go_wp2
    go_ret
    exact ⟨rfl, k0⟩
  have hd1 : decide ((1 : Int) ≤ (n : Int)) = true := by rw [decide_eq_true_iff]; omega
  by_cases h64 : n ≤ 64
  · have HC := Lib.hid (fun W (hk : Keep NoB (w.alloc (.cells #[.int .i64 1, .int .i64 64, F.fnV 76, F.fnV 77, F.fnV 78, F.fnV 79] 93)) W) => containsF_any A fs n c 97 w.heap.size W (enters_of Tryz.func97 (by kernel_rfl) rfl) (fun W' hk' => hr.out W' (keepN (keepN k0 hk) hk')) hn (by omega) (fun i => (fs[i]?.map fun e => (F.chkF e.2 != 0)).getD false)
      (fun i h W' hk' => asksF_any 76 (enters_of Tryz.func76 (by kernel_rfl) rfl) fs[i].1 w.heap.size W' _ _ _ _ _ (HZ.out.keep (keepN hk hk') id) (F.chkF fs[i].2) _ (by simp [h]) (fun W2 hk2 => he.out _ (List.getElem_mem h) W2 (keepN (keepN (keepN k0 hk) hk') hk2)))
      (!(fs.all fun e => F.okF e.2))
      (by
        rintro ⟨i, hi, hb⟩
        have hi2 : i < fs.length := by rw [hn.out]; exact hi
        simp only [List.getElem?_eq_getElem hi2, Option.map_some, Option.getD_some] at hb
        rw [Bool.not_eq_true', ← Bool.not_eq_true]
        intro hall
        have := List.all_eq_true.1 hall _ (List.getElem_mem hi2)
        rw [F.chkF_ok this] at hb
        exact absurd hb (by decide))
      (by
        intro hb
        rw [Bool.not_eq_false']
        refine List.all_eq_true.2 fun e hm => ?_
        obtain ⟨i, hi, rfl⟩ := List.getElem_of_mem hm
        have := hb i (by rw [← hn.out]; exact hi)
        simp only [List.getElem?_eq_getElem hi, Option.map_some, Option.getD_some] at this
        cases ho : F.okF fs[i].2
        · rw [F.chkF_no ho] at this; exact absurd this (by decide)
        · rfl))
    unfold F.fnV at HC
    obtain ⟨al, hal⟩ : ∃ al, (fs.all fun e => F.okF e.2) = al := ⟨_, rfl⟩
    rw [hal] at HC
    have HV : Hid (al = M) := by
      show _ = _
      rw [← HM.out, ← hal]; unfold mayF; rw [hn.out, decide_eq_true (by omega : 1 ≤ n ∧ n ≤ 64)]; rfl
    clear hal HM he hr HZ
    go_enter Tryz.func53, Tryz.ntmps53
    go_wp2_with fail
    refine (HC.out _ (Keep.refl _ _)).mono ?_
    rintro e w1 ⟨rfl, k1⟩
    go_wp2
    go_ret
    exact ⟨by rw [← HV.out]; cases al <;> rfl, keepN k0 k1⟩
  · have hd : decide ((n : Int) ≤ 64) = false := by rw [decide_eq_false_iff_not]; omega
    obtain rfl : false = M := by
      rw [← HM.out]; unfold mayF; rw [hn.out, decide_eq_false (by omega : ¬ (1 ≤ n ∧ n ≤ 64))]; rfl
    clear HM he hr HZ
    go_enter Tryz.func53, Tryz.ntmps53
    go_wp2
    go_ret
    exact ⟨rfl, k0⟩

end Go.Proofs.YtgifflfjhockaaaGreatDoor.I

namespace Go.Proofs.YtgifflfjhockaaaGreatDoor.I
open Go.RowKit W

theorem shape_info : (Tryz.prog.info? 58).map (fun i => (i.zero, i.size, i.bytes)) = some (some (.slice none 0 0), 1, 24) := by kernel_rfl
theorem shape_size1 : (Tryz.prog.info? 58).map (·.size) = some 1 := by kernel_rfl
theorem fun_info : (Tryz.prog.info? 61).map (fun i => (i.zero, i.size, i.bytes)) = some (some (.agg F.nilV.cells), 5, 112) := by kernel_rfl
theorem made_gen {w w1 : World} {E sz n : Nat} {zs : List Value} (hrow : w1.ownsRow 0 E sz (.slice (some ⟨w.heap.size, 0, none⟩) n n) n zs) : ∃ rest : List Value, rest.length = n * sz ∧ Blk w1 w.heap.size E ([] ++ rest).toArray := by
  obtain ⟨h3, h4⟩ := hrow
  rcases h4 with ⟨h4, _⟩ | ⟨g, cap, cur, h4, _, h6, _, _, h7, _⟩
  · cases h4
  · injection h4 with h4 _ h8
    injection h4 with h4
    injection h4 with h4 _ _
    subst h4 h8
    exact ⟨cur.toList, by simpa using h7, by rw [List.nil_append, Array.toArray_toList]; exact h6⟩
theorem split_at {rest : List Value} {m sz : Nat} (h : rest.length = m) (h0 : sz ≤ m) : ∃ old r, rest = old ++ r ∧ old.length = sz ∧ r.length = m - sz :=
  ⟨rest.take sz, rest.drop sz, (List.take_append_drop _ _).symm, by rw [List.length_take]; omega, by rw [List.length_drop]; omega⟩
theorem own_blk {W : World} {g E sz n : Nat} {P : Nat → Prop} {xs : List Value} (h : Blk W g E xs.toArray) (hl : xs.length = n * sz) (hm : n ≤ maxLen) (hP : P g) : Own W E sz P (.slice (some ⟨g, 0, none⟩) n n) n xs :=
  ⟨⟨hl, .inr ⟨g, n, xs.toArray, rfl, Nat.zero_le _, h, Nat.le_refl _, hm, by simpa using hl, by rw [← hl]; simp⟩⟩, fun k e => by cases e; exact hP⟩
/-- A value put at an element's place. -/
theorem wpList_putN {ops : Array Oper} {rest : List Oper} {o : Oper} {a : Act} {w : World} {Q : Exit → Act → World → Prop} (hgd : o.guard = none) (x y : Operand) {E sz : Nat} (ho : o.op = .store E x y) (hE : (Tryz.prog.info? E).map (·.size) = some sz)
    {g off : Nat} {pre old r : List Value} {u : Value} (hB : Blk w g E (pre ++ (old ++ r)).toArray) (hp : pre.length = off) (hol : old.length = sz) (hu : u.cells.size = sz) (h1 : ∀ c ∈ u.cells.toList, c.oneCell' = true)
    (hx : a.eval x = .pointer (some ⟨g, off, none⟩)) (hy : a.eval y = u)
    (h : ∀ w', Blk w' g E (pre ++ u.cells.toList ++ r).toArray → Keep (fun b => b = g) w w' → wpList Tryz.prog ops Q rest (a.put o.dst undef) w') : wpList Tryz.prog ops Q (o :: rest) a w := by
  refine wpList_plain hgd fun K hK => ?_
  have hul : u.cells.toList.length = sz := by simpa using hu
  have hst := run_storeCells_at Tryz.prog g off E u.cells.toList 0 _ w hB (by simp; omega) h1
  have e : (pre ++ (old ++ r)).take (off + 0) ++ u.cells.toList ++ (pre ++ (old ++ r)).drop (off + 0 + u.cells.toList.length) = pre ++ u.cells.toList ++ r := by
    rw [Nat.add_zero, ← hp, List.take_left', List.drop_length_add_append, hul, ← hol, List.drop_left'] <;> rfl
  rw [e] at hst
  try rw [Nat.add_zero] at hst
  cases hq : Tryz.prog.info? E with
  | none => rw [hq] at hE; cases hE
  | some i0 =>
    have hz : i0.size = sz := by simpa [hq] using hE
    have hrun : (storeVar E ⟨g, off, none⟩ u).run Tryz.prog w = .ok () (w.setRow g (pre ++ u.cells.toList ++ r).toArray) := by
      simp [storeVar, sizeOf, typeInfo, hq, hz, hu, hst]
    unfold Oper.wp execOp
    simp only [ho, hx, hy, Instr.storeAt, Instr.sureAddr, Sem.run_bind, Sem.run_pure, Result.andThen_ok, hrun]
    exact hK _ _ (h _ (setRow_heap w g _ _ _ _ hB) ⟨rfl, rfl, rfl, by simp, fun b _ hne => setRow_other w g b _ hne⟩)

/-- Parts that are owned, each. -/
def OwnS (W : World) (P : Nat → Prop) (e : SE) : Prop := Own W 3 1 P (.slice e.1.A e.1.n e.1.c) e.1.n (ivs e.2)
theorem OwnS.keep {W W' : World} {P O : Nat → Prop} {e : SE} (h : OwnS W P e) (hk : Keep O W W') (hn : ∀ k, P k → ¬ O k) : OwnS W' P e := by
  unfold OwnS at *
  exact h.keep hk hn
theorem OwnS.mono {W : World} {P P' : Nat → Prop} {e : SE} (h : OwnS W P e) (hP : ∀ k, P k → k < W.heap.size → P' k) : OwnS W P' e := by
  unfold OwnS at *
  exact h.mono hP
/-- How read ends. -/
def RdRS (w : World) (br : Nat) (At : World → Nat → Prop) (R : Option (List (List Int) × Nat)) (e : Ending) (w' : World) : Prop :=
  (R = none ∧ e = .returned (.tuple #[.slice none 0 0, .bool false]) ∧ (∃ q, At w' q) ∧ Keep (fun k => k = br) w w') ∨
  (∃ q A n c, ∃ es : List SE, R = some (es.map (fun e => e.2), q) ∧ e = .returned (.tuple #[.slice A n c, .bool true]) ∧ Own w' 58 1 (Fresh w) (.slice A n c) n (svs es) ∧ (∀ e ∈ es, OwnS w' (Fresh w) e) ∧ At w' q ∧ Keep (fun k => k = br) w w')
theorem rdLS_1 {l : List UInt8} {p n r q : Nat} (h : V.NumR l p 64 = (n, r, q)) (hr : r ≠ 0) : rdL (S.decS l) l p = none := by unfold rdL; rw [h]; exact if_neg hr
theorem rdLS_2 {l : List UInt8} {p n q : Nat} (h : V.NumR l p 64 = (n, 0, q)) : rdL (S.decS l) l p = rdK (S.decS l) n q := by unfold rdL; rw [h]; exact if_pos rfl
/-- One part read: a failure, or the part, owned. -/
theorem decS_cases (w : World) (br : Nat) (Ob : Nat → Prop) (l : List UInt8) (p : Nat) (hO : ∀ k, Ob k → k < w.heap.size) (h : V.ReelAt w br Ob l p) (hlen : l.length ≤ 140737488355328) :
    Calls Tryz.prog 74 #[.pointer (some ⟨br, 0, none⟩)] w fun r w' => (∃ E q, ∃ e : SE, r = .returned (.tuple #[e.1.val, .int .i64 E]) ∧ E ≠ 0 ∧ (S.decS l) p = none ∧ V.ReelAt w' br Ob l q ∧ Keep (fun k => k = br) w w') ∨
      (∃ q, ∃ e : SE, r = .returned (.tuple #[e.1.val, .int .i64 0]) ∧ (S.decS l) p = some (e.2, q) ∧ OwnS w' (Fresh w) e ∧ V.ReelAt w' br Ob l q ∧ Keep (fun k => k = br) w w') := by
  have _ := hO
  refine (S.decodeS_any w br Ob l p h hlen).mono ?_
  rintro r w' ⟨v, q, rfl, hv, hat, hq, hk⟩
  obtain ⟨A, c, rfl, _, _, _, _⟩ := hv.form
  cases hd : S.decS l p with
  | none =>
    exact .inl ⟨60, q, (⟨A, 0, c⟩, []), rfl, by decide, rfl, hat, hk⟩
  | some y =>
    obtain ⟨y, q'⟩ := y
    have hv2 : Own w' 3 1 (Fresh w) (.slice A y.length c) y.length (ivs y) := by rw [hd] at hv; exact hv
    refine .inr ⟨q', (⟨A, y.length, c⟩, y), ?_, rfl, hv2, ?_, hk⟩
    · rfl
    · have := hq _ hd
      dsimp only at this
      rw [← this]; exact hat

set_option maxRecDepth 100000 in
set_option maxHeartbeats 8000000 in
theorem readS_any (w : World) (br : Nat) (Ob : Nat → Prop) (l : List UInt8) (p : Nat) (hO : ∀ k, Ob k → k < w.heap.size) (h : V.ReelAt w br Ob l p) (hlen : l.length ≤ 140737488355328) :
    Calls Tryz.prog 85 #[.pointer (some ⟨br, 0, none⟩), partS] w (RdRS w br (fun w' q => V.ReelAt w' br Ob l q) (rdL (S.decS l) l p)) := by
  have hbr := S.reel_lt h
  have bz := Blk.new w 86 #[.int .i64 0, .int .i64 64, F.fnV 72, F.fnV 73, F.fnV 74, F.fnV 75]
  have k0 := (Keep.refl NoB w).alloc (.cells #[.int .i64 0, .int .i64 64, F.fnV 72, F.fnV 73, F.fnV 74, F.fnV 75] 86)
  have HS := Lib.hid (V.rnumber_any _ br Ob l p 64 (h.keep k0 (fun _ _ => id)) hlen)
  obtain ⟨n, r, q, hN, hN0, hN1⟩ := S.num_case l p 64
  rw [hN] at HS
  have z1 := bz.cell 1
  simp only [List.getElem?_toArray, List.getElem?_cons_zero, List.getElem?_cons_succ] at z1
  have HZ := Lib.hid bz
  unfold partS F.fnV at *
  clear h bz
  by_cases hr : r = 0
  · subst hr
    obtain ⟨hn1, hn2⟩ := hN0 rfl
    have HD := Lib.hid (rdLS_2 hN)
    obtain ⟨i0, hi, hz0, hz1, hz2⟩ := info_parts shape_info
    have HO := Lib.hid hO
    clear hN0 hN1 hN hO
    go_enter Tryz.func85, Tryz.ntmps85
    go_wp2_with fail
    refine HS.out.mono ?_
    rintro e w1 ⟨rfl, h1, k1⟩
    have gs := k1.size
    simp only [World.size_alloc] at gs
    have hZ1 := HZ.out.keep k1 (by show ¬ (w.heap.size = br); omega)
    go_wp2_with (at_make; refine wpList_make_full _ rfl _ _ 22 rfl 0 58 i0 _ 1 Tryz.underlying22 hi hz0 hz1 _ _ _ _ n rfl rfl rfl rfl (by rw [hz2]; omega) (by unfold maxLen; omega) (Nat.zero_le _) ?_; intro w2 hrow2 hg2; obtain ⟨rest, hrl, hB2⟩ := made_gen hrow2; have k2 : Keep NoB w1 w2 := (Keep.refl NoB w1).grown hg2 (fun g e _ => by cases e); clear hrow2 hg2)
    have h2 := h1.keep k2 (fun _ _ => id)
    have gK : Keep (fun k => k = br) w w2 := ((k0.mono (fun _ hf _ => hf.elim)).trans k1 (fun _ ho _ => ho)).trans (k2.mono (fun _ hf _ => hf.elim)) (fun _ ho _ => ho)
    have HZ2 := Lib.hid (hZ1.keep k2 id)
    clear h1 k1 k2 hZ1 HZ k0 z1 HS
    go_loopw [24] (fun i wr => ∃ k : Nat, k ≤ n ∧ i = .int .i64 k ∧ ∃ es : List SE, ∃ qk rest, Hid (rdK (S.decS l) k q = some (es.map (fun e => e.2), qk)) ∧ es.length = k ∧ rest.length = (n - k) * 1 ∧ Hid (Blk wr w1.heap.size 58 (svs es ++ rest).toArray) ∧ Hid (∀ e ∈ es, OwnS wr (fun b => w.heap.size ≤ b ∧ b ≠ w1.heap.size) e) ∧ V.ReelAt wr br Ob l qk ∧ Keep (fun k => k = br) w wr ∧ w1.heap.size < wr.heap.size ∧ Hid (Blk wr w.heap.size 86 #[.int .i64 0, .int .i64 64, .func (.func 72) #[] #[], .func (.func 73) #[] #[], .func (.func 74) #[] #[], .func (.func 75) #[] #[]])) (fun i _ => n - (intOf i).toNat)
    case atStart => exact ⟨0, Nat.zero_le _, rfl, [], q, rest, rfl, rfl, hrl, hB2, (fun _ h => nomatch h), h2, gK, hB2.lt, HZ2.out⟩
    case round =>
      clear hB2 h2 gK hrl HZ2
      obtain ⟨k, hk, rfl, es, qk, rest, hf, hel, hrl, hB, hE, hA, hK, hwz, hZ⟩ := hrel
      by_cases hlt : k < n
      · obtain ⟨old, r, rfl, hol, hrl2⟩ := split_at hrl (show 1 ≤ (n - k) * 1 by omega)
        have HE := Lib.hid (decS_cases wr br Ob l qk (fun k h => Nat.lt_of_lt_of_le (HO.out k h) hK.size) hA hlen)
        have z4 := hZ.out.cell 4
        simp only [List.getElem?_toArray, List.getElem?_cons_zero, List.getElem?_cons_succ] at z4
        clear hA
        go_wp2_with fail
        refine HE.out.mono ?_
        have hgo : ∀ k, Ob k → ¬ (k = w1.heap.size) := fun k h e => by have := HO.out k h; omega
        have hgz : ¬ (w1.heap.size = br) := by omega
        have hwbr : ¬ (w.heap.size = br) := by omega
        have hwg : ¬ (w.heap.size = w1.heap.size) := by omega
        rintro e w4 (⟨E, q4, ⟨ev, ey⟩, rfl, hE0, hnone, h4, k4⟩ | ⟨q4, ⟨ev, ey⟩, rfl, hsome, hO4, h4, k4⟩)
        · have hB4 := hB.out.keep k4 hgz
          have hK4 := hK.trans k4 (fun _ ho _ => ho)
          have hr3 : (E != 0) = true := by rw [bne_iff_ne]; exact hE0
          have HD2 := Lib.hid (HD.out.trans (rdK_none (rdK_succ_no hf.out hnone) n (by omega)))
          clear hB hK k4 hE hZ z4 hnone hf
          obtain ⟨A1, n1, d1⟩ := ev
          have HU : Hid (∀ c ∈ (Value.slice A1 n1 d1).cells.toList, c.oneCell' = true) := fun u hu => by
            simp [Value.cells] at hu
            subst hu; rfl
          dsimp only [SV.val]
          go_wp2_with (refine wpList_putN rfl _ _ rfl shape_size1 hB4 (by rw [svs_length, hel]) hol (by rfl) HU.out rfl rfl ?_; intro w6 hB6 k6)
          go_ret2
          exact .inl ⟨HD2.out, rfl, ⟨q4, h4.keep k6 hgo⟩, hK4.trans k6 (fun b e hl => by omega)⟩
        · have hB4 := hB.out.keep k4 hgz
          have hK4 := hK.trans k4 (fun _ ho _ => ho)
          have hZ4 := hZ.out.keep k4 hwbr
          have HE4 : Hid (∀ e ∈ es, OwnS w4 (fun b => w.heap.size ≤ b ∧ b ≠ w1.heap.size) e) := fun e he => (hE.out e he).keep k4 (fun b hb e => by omega)
          have HN : Hid (OwnS w4 (fun b => w.heap.size ≤ b ∧ b ≠ w1.heap.size) (ev, ey)) := hO4.mono (fun b (hb : Fresh wr b) _ => ⟨Nat.le_trans hK.size hb, by have : wr.heap.size ≤ b := hb; omega⟩)
          have HF2 : Hid (rdK (S.decS l) (k + 1) q = some ((es ++ [(ev, ey)]).map (fun e => e.2), q4)) := by
            show _ = _
            rw [rdK_succ hf.out hsome]; simp
          have hsz4 := k4.size
          clear hB hK k4 hE hZ z4 hsome hf hO4
          obtain ⟨A1, n1, d1⟩ := ev
          have HU : Hid (∀ c ∈ (Value.slice A1 n1 d1).cells.toList, c.oneCell' = true) := fun u hu => by
            simp [Value.cells] at hu
            subst hu; rfl
          have HL := Lib.hid (And.intro HE4.out (And.intro HN.out (And.intro hK4 (And.intro h4 hZ4))))
          clear HE4 HN hK4 h4 hZ4
          dsimp only [SV.val]
          go_wp2_with (refine wpList_putN rfl _ _ rfl shape_size1 hB4 (by rw [svs_length, hel]) hol (by rfl) HU.out rfl rfl ?_; intro w6 hB6 k6)
          obtain ⟨HE4, HN, hK4, h4, hZ4⟩ := HL.out
          have hE6 : ∀ e ∈ es ++ [((⟨A1, n1, d1⟩ : SV), ey)], OwnS w6 (fun b => w.heap.size ≤ b ∧ b ≠ w1.heap.size) e := fun e he => by
            rcases List.mem_append.1 he with he | he
            · exact (HE4 e he).keep k6 (fun b hb e => hb.2 e)
            · rw [List.mem_singleton.1 he]; exact HN.keep k6 (fun b hb e => hb.2 e)
          have hBe : (svs es ++ [Value.slice A1 n1 d1] ++ r) = svs (es ++ [((⟨A1, n1, d1⟩ : SV), ey)]) ++ r := by rw [svs_append]; rfl
          replace hB6 : Blk w6 w1.heap.size 58 (svs (es ++ [((⟨A1, n1, d1⟩ : SV), ey)]) ++ r).toArray := by rw [← hBe]; exact hB6
          have hsz6 := k6.size
          go_roundw
          case rel => exact ⟨k + 1, by omega, by go_num, es ++ [((⟨A1, n1, d1⟩ : SV), ey)], q4, r, HF2.out, by simp [hel], by omega, hB6, hE6, h4.keep k6 hgo, hK4.trans k6 (fun b e hl => by omega), by omega, hZ4.keep k6 hwg⟩
          case measure => simp [intOf]; omega
      · obtain rfl : k = n := by omega
        obtain rfl : rest = [] := List.length_eq_zero_iff.1 (by rw [hrl]; omega)
        rw [List.append_nil] at hB
        rw [hf.out] at HD
        have hown : Own wr 58 1 (Fresh w) (.slice (some ⟨w1.heap.size, 0, none⟩) k k) k (svs es) := own_blk hB.out (by rw [svs_length, hel]; omega) (by unfold maxLen; omega) (by unfold Fresh; omega)
        clear hB hf
        go_wp2
        go_ret2
        exact .inr ⟨qk, _, k, k, es, HD.out, rfl, hown, fun e he => (hE.out e he).mono (fun b hb _ => hb.1), hA, hK⟩
  · have e1 := rdLS_1 hN hr
    rw [e1]
    have hr3 : ((r : Int) != 0) = true := by rw [bne_iff_ne]; omega
    clear hN0 hN1 hN hr e1
    go_enter Tryz.func85, Tryz.ntmps85
    go_wp2_with fail
    refine HS.out.mono ?_
    rintro e w1 ⟨rfl, h1, k1⟩
    go_wp2
    go_ret2
    exact .inl ⟨rfl, rfl, ⟨_, h1⟩, (k0.mono (fun _ hf _ => hf.elim)).trans k1 (fun _ ho _ => ho)⟩

/-- Parts that are owned, each. -/
def OwnF (W : World) (P : Nat → Prop) (e : FE) : Prop := F.OwnF W P e.1 e.2
theorem OwnF.keep {W W' : World} {P O : Nat → Prop} {e : FE} (h : OwnF W P e) (hk : Keep O W W') (hn : ∀ k, P k → ¬ O k) : OwnF W' P e := by
  unfold OwnF at *
  exact h.keep hk hn
theorem OwnF.mono {W : World} {P P' : Nat → Prop} {e : FE} (h : OwnF W P e) (hP : ∀ k, P k → k < W.heap.size → P' k) : OwnF W P' e := by
  unfold OwnF at *
  exact h.mono hP
/-- How read ends. -/
def RdRF (w : World) (br : Nat) (At : World → Nat → Prop) (R : Option (List (F.Fu) × Nat)) (e : Ending) (w' : World) : Prop :=
  (R = none ∧ e = .returned (.tuple #[.slice none 0 0, .bool false]) ∧ (∃ q, At w' q) ∧ Keep (fun k => k = br) w w') ∨
  (∃ q A n c, ∃ es : List FE, R = some (es.map (fun e => e.2), q) ∧ e = .returned (.tuple #[.slice A n c, .bool true]) ∧ Own w' 61 5 (Fresh w) (.slice A n c) n (fvs es) ∧ (∀ e ∈ es, OwnF w' (Fresh w) e) ∧ At w' q ∧ Keep (fun k => k = br) w w')
theorem rdLF_1 {l : List UInt8} {p n r q : Nat} (h : V.NumR l p 64 = (n, r, q)) (hr : r ≠ 0) : rdL (F.decF l) l p = none := by unfold rdL; rw [h]; exact if_neg hr
theorem rdLF_2 {l : List UInt8} {p n q : Nat} (h : V.NumR l p 64 = (n, 0, q)) : rdL (F.decF l) l p = rdK (F.decF l) n q := by unfold rdL; rw [h]; exact if_pos rfl
/-- One part read: a failure, or the part, owned. -/
theorem decF_cases (w : World) (br : Nat) (Ob : Nat → Prop) (l : List UInt8) (p : Nat) (hO : ∀ k, Ob k → k < w.heap.size) (h : V.ReelAt w br Ob l p) (hlen : l.length ≤ 140737488355328) :
    Calls Tryz.prog 78 #[.pointer (some ⟨br, 0, none⟩)] w fun r w' => (∃ E q, ∃ e : FE, r = .returned (.tuple #[e.1.val, .int .i64 E]) ∧ E ≠ 0 ∧ (F.decF l) p = none ∧ V.ReelAt w' br Ob l q ∧ Keep (fun k => k = br) w w') ∨
      (∃ q, ∃ e : FE, r = .returned (.tuple #[e.1.val, .int .i64 0]) ∧ (F.decF l) p = some (e.2, q) ∧ OwnF w' (Fresh w) e ∧ V.ReelAt w' br Ob l q ∧ Keep (fun k => k = br) w w') := by
  refine (F.decodeF_any w br Ob l p hO h hlen).mono ?_
  rintro r w' (⟨h1, rfl, ⟨q, hat⟩, hk⟩ | ⟨f, q, v, h1, rfl, hv, hat, hk⟩)
  · exact .inl ⟨70, q, (F.nilV, F.nilF), rfl, by decide, h1, hat, hk⟩
  · exact .inr ⟨q, (v, f), rfl, h1, hv, hat, hk⟩

set_option maxRecDepth 100000 in
set_option maxHeartbeats 8000000 in
theorem readF_any (w : World) (br : Nat) (Ob : Nat → Prop) (l : List UInt8) (p : Nat) (hO : ∀ k, Ob k → k < w.heap.size) (h : V.ReelAt w br Ob l p) (hlen : l.length ≤ 140737488355328) :
    Calls Tryz.prog 86 #[.pointer (some ⟨br, 0, none⟩), partF] w (RdRF w br (fun w' q => V.ReelAt w' br Ob l q) (rdL (F.decF l) l p)) := by
  have hbr := S.reel_lt h
  have bz := Blk.new w 93 #[.int .i64 1, .int .i64 64, F.fnV 76, F.fnV 77, F.fnV 78, F.fnV 79]
  have k0 := (Keep.refl NoB w).alloc (.cells #[.int .i64 1, .int .i64 64, F.fnV 76, F.fnV 77, F.fnV 78, F.fnV 79] 93)
  have HS := Lib.hid (V.rnumber_any _ br Ob l p 64 (h.keep k0 (fun _ _ => id)) hlen)
  obtain ⟨n, r, q, hN, hN0, hN1⟩ := S.num_case l p 64
  rw [hN] at HS
  have z1 := bz.cell 1
  simp only [List.getElem?_toArray, List.getElem?_cons_zero, List.getElem?_cons_succ] at z1
  have HZ := Lib.hid bz
  unfold partF F.fnV at *
  clear h bz
  by_cases hr : r = 0
  · subst hr
    obtain ⟨hn1, hn2⟩ := hN0 rfl
    have HD := Lib.hid (rdLF_2 hN)
    obtain ⟨i0, hi, hz0, hz1, hz2⟩ := info_parts fun_info
    have HO := Lib.hid hO
    clear hN0 hN1 hN hO
    go_enter Tryz.func86, Tryz.ntmps86
    go_wp2_with fail
    refine HS.out.mono ?_
    rintro e w1 ⟨rfl, h1, k1⟩
    have gs := k1.size
    simp only [World.size_alloc] at gs
    have hZ1 := HZ.out.keep k1 (by show ¬ (w.heap.size = br); omega)
    go_wp2_with (at_make; refine wpList_make_full _ rfl _ _ 23 rfl 0 61 i0 _ 5 Tryz.underlying23 hi hz0 hz1 _ _ _ _ n rfl rfl rfl rfl (by rw [hz2]; omega) (by unfold maxLen; omega) (Nat.zero_le _) ?_; intro w2 hrow2 hg2; obtain ⟨rest, hrl, hB2⟩ := made_gen hrow2; have k2 : Keep NoB w1 w2 := (Keep.refl NoB w1).grown hg2 (fun g e _ => by cases e); clear hrow2 hg2)
    have h2 := h1.keep k2 (fun _ _ => id)
    have gK : Keep (fun k => k = br) w w2 := ((k0.mono (fun _ hf _ => hf.elim)).trans k1 (fun _ ho _ => ho)).trans (k2.mono (fun _ hf _ => hf.elim)) (fun _ ho _ => ho)
    have HZ2 := Lib.hid (hZ1.keep k2 id)
    clear h1 k1 k2 hZ1 HZ k0 z1 HS
    go_loopw [24] (fun i wr => ∃ k : Nat, k ≤ n ∧ i = .int .i64 k ∧ ∃ es : List FE, ∃ qk rest, Hid (rdK (F.decF l) k q = some (es.map (fun e => e.2), qk)) ∧ es.length = k ∧ rest.length = (n - k) * 5 ∧ Hid (Blk wr w1.heap.size 61 (fvs es ++ rest).toArray) ∧ Hid (∀ e ∈ es, OwnF wr (fun b => w.heap.size ≤ b ∧ b ≠ w1.heap.size) e) ∧ V.ReelAt wr br Ob l qk ∧ Keep (fun k => k = br) w wr ∧ w1.heap.size < wr.heap.size ∧ Hid (Blk wr w.heap.size 93 #[.int .i64 1, .int .i64 64, .func (.func 76) #[] #[], .func (.func 77) #[] #[], .func (.func 78) #[] #[], .func (.func 79) #[] #[]])) (fun i _ => n - (intOf i).toNat)
    case atStart => exact ⟨0, Nat.zero_le _, rfl, [], q, rest, rfl, rfl, hrl, hB2, (fun _ h => nomatch h), h2, gK, hB2.lt, HZ2.out⟩
    case round =>
      clear hB2 h2 gK hrl HZ2
      obtain ⟨k, hk, rfl, es, qk, rest, hf, hel, hrl, hB, hE, hA, hK, hwz, hZ⟩ := hrel
      by_cases hlt : k < n
      · obtain ⟨old, r, rfl, hol, hrl2⟩ := split_at hrl (show 5 ≤ (n - k) * 5 by omega)
        have HE := Lib.hid (decF_cases wr br Ob l qk (fun k h => Nat.lt_of_lt_of_le (HO.out k h) hK.size) hA hlen)
        have z4 := hZ.out.cell 4
        simp only [List.getElem?_toArray, List.getElem?_cons_zero, List.getElem?_cons_succ] at z4
        clear hA
        go_wp2_with fail
        refine HE.out.mono ?_
        have hgo : ∀ k, Ob k → ¬ (k = w1.heap.size) := fun k h e => by have := HO.out k h; omega
        have hgz : ¬ (w1.heap.size = br) := by omega
        have hwbr : ¬ (w.heap.size = br) := by omega
        have hwg : ¬ (w.heap.size = w1.heap.size) := by omega
        rintro e w4 (⟨E, q4, ⟨ev, ey⟩, rfl, hE0, hnone, h4, k4⟩ | ⟨q4, ⟨ev, ey⟩, rfl, hsome, hO4, h4, k4⟩)
        · have hB4 := hB.out.keep k4 hgz
          have hK4 := hK.trans k4 (fun _ ho _ => ho)
          have hr3 : (E != 0) = true := by rw [bne_iff_ne]; exact hE0
          have HD2 := Lib.hid (HD.out.trans (rdK_none (rdK_succ_no hf.out hnone) n (by omega)))
          clear hB hK k4 hE hZ z4 hnone hf
          obtain ⟨S1, A1, na1, ca1, B1, nb1, cb1, L1, nl1, cl1, D1, nd1, cd1⟩ := ev
          have HU : Hid (∀ c ∈ (Value.agg #[.string S1, .slice A1 na1 ca1, .slice B1 nb1 cb1, .slice L1 nl1 cl1, .slice D1 nd1 cd1]).cells.toList, c.oneCell' = true) := fun u hu => by
            simp [Value.cells] at hu
            rcases hu with rfl | rfl | rfl | rfl | rfl <;> rfl
          dsimp only [F.FV.val, F.FV.cells]
          go_wp2_with (refine wpList_putN rfl _ _ rfl F.fun_size hB4 (by rw [fvs_length, hel]) hol (by rfl) HU.out rfl rfl ?_; intro w6 hB6 k6)
          go_ret2
          exact .inl ⟨HD2.out, rfl, ⟨q4, h4.keep k6 hgo⟩, hK4.trans k6 (fun b e hl => by omega)⟩
        · have hB4 := hB.out.keep k4 hgz
          have hK4 := hK.trans k4 (fun _ ho _ => ho)
          have hZ4 := hZ.out.keep k4 hwbr
          have HE4 : Hid (∀ e ∈ es, OwnF w4 (fun b => w.heap.size ≤ b ∧ b ≠ w1.heap.size) e) := fun e he => (hE.out e he).keep k4 (fun b hb e => by omega)
          have HN : Hid (OwnF w4 (fun b => w.heap.size ≤ b ∧ b ≠ w1.heap.size) (ev, ey)) := hO4.mono (fun b (hb : Fresh wr b) _ => ⟨Nat.le_trans hK.size hb, by have : wr.heap.size ≤ b := hb; omega⟩)
          have HF2 : Hid (rdK (F.decF l) (k + 1) q = some ((es ++ [(ev, ey)]).map (fun e => e.2), q4)) := by
            show _ = _
            rw [rdK_succ hf.out hsome]; simp
          have hsz4 := k4.size
          clear hB hK k4 hE hZ z4 hsome hf hO4
          obtain ⟨S1, A1, na1, ca1, B1, nb1, cb1, L1, nl1, cl1, D1, nd1, cd1⟩ := ev
          have HU : Hid (∀ c ∈ (Value.agg #[.string S1, .slice A1 na1 ca1, .slice B1 nb1 cb1, .slice L1 nl1 cl1, .slice D1 nd1 cd1]).cells.toList, c.oneCell' = true) := fun u hu => by
            simp [Value.cells] at hu
            rcases hu with rfl | rfl | rfl | rfl | rfl <;> rfl
          have HL := Lib.hid (And.intro HE4.out (And.intro HN.out (And.intro hK4 (And.intro h4 hZ4))))
          clear HE4 HN hK4 h4 hZ4
          dsimp only [F.FV.val, F.FV.cells]
          go_wp2_with (refine wpList_putN rfl _ _ rfl F.fun_size hB4 (by rw [fvs_length, hel]) hol (by rfl) HU.out rfl rfl ?_; intro w6 hB6 k6)
          obtain ⟨HE4, HN, hK4, h4, hZ4⟩ := HL.out
          have hE6 : ∀ e ∈ es ++ [((⟨S1, A1, na1, ca1, B1, nb1, cb1, L1, nl1, cl1, D1, nd1, cd1⟩ : F.FV), ey)], OwnF w6 (fun b => w.heap.size ≤ b ∧ b ≠ w1.heap.size) e := fun e he => by
            rcases List.mem_append.1 he with he | he
            · exact (HE4 e he).keep k6 (fun b hb e => hb.2 e)
            · rw [List.mem_singleton.1 he]; exact HN.keep k6 (fun b hb e => hb.2 e)
          have hBe : (fvs es ++ [Value.string S1, .slice A1 na1 ca1, .slice B1 nb1 cb1, .slice L1 nl1 cl1, .slice D1 nd1 cd1] ++ r) = fvs (es ++ [((⟨S1, A1, na1, ca1, B1, nb1, cb1, L1, nl1, cl1, D1, nd1, cd1⟩ : F.FV), ey)]) ++ r := by rw [fvs_append]; rfl
          replace hB6 : Blk w6 w1.heap.size 61 (fvs (es ++ [((⟨S1, A1, na1, ca1, B1, nb1, cb1, L1, nl1, cl1, D1, nd1, cd1⟩ : F.FV), ey)]) ++ r).toArray := by rw [← hBe]; exact hB6
          have hsz6 := k6.size
          go_roundw
          case rel => exact ⟨k + 1, by omega, by go_num, es ++ [((⟨S1, A1, na1, ca1, B1, nb1, cb1, L1, nl1, cl1, D1, nd1, cd1⟩ : F.FV), ey)], q4, r, HF2.out, by simp [hel], by omega, hB6, hE6, h4.keep k6 hgo, hK4.trans k6 (fun b e hl => by omega), by omega, hZ4.keep k6 hwg⟩
          case measure => simp [intOf]; omega
      · obtain rfl : k = n := by omega
        obtain rfl : rest = [] := List.length_eq_zero_iff.1 (by rw [hrl]; omega)
        rw [List.append_nil] at hB
        rw [hf.out] at HD
        have hown : Own wr 61 5 (Fresh w) (.slice (some ⟨w1.heap.size, 0, none⟩) k k) k (fvs es) := own_blk hB.out (by rw [fvs_length, hel]) (by unfold maxLen; omega) (by unfold Fresh; omega)
        clear hB hf
        go_wp2
        go_ret2
        exact .inr ⟨qk, _, k, k, es, HD.out, rfl, hown, fun e he => (hE.out e he).mono (fun b hb _ => hb.1), hA, hK⟩
  · have e1 := rdLF_1 hN hr
    rw [e1]
    have hr3 : ((r : Int) != 0) = true := by rw [bne_iff_ne]; omega
    clear hN0 hN1 hN hr e1
    go_enter Tryz.func86, Tryz.ntmps86
    go_wp2_with fail
    refine HS.out.mono ?_
    rintro e w1 ⟨rfl, h1, k1⟩
    go_wp2
    go_ret2
    exact .inl ⟨rfl, rfl, ⟨_, h1⟩, (k0.mono (fun _ hf _ => hf.elim)).trans k1 (fun _ ho _ => ho)⟩

end Go.Proofs.YtgifflfjhockaaaGreatDoor.I

namespace Go.Proofs.YtgifflfjhockaaaGreatDoor.I
open Go.RowKit W

theorem img_size : (Tryz.prog.info? 25).map (·.size) = some 2 := by kernel_rfl
theorem ret_imgE {fn : Func} {tmps : Array Value} {w : World} {g : Nat} {v : IV} {e : Value} (h : fn.results = #[.cell 2 25, .tmp 3]) (hp : tmps.getD 2 undef = .pointer (some ⟨g, 0, none⟩)) (hb : Blk w g 25 v.cells) (he : tmps.getD 3 undef = e) :
    (results fn tmps).run Tryz.prog w = .ok (.tuple #[v.val, e]) w := by
  rw [results_cell_tmp h, hp, he]
  simp only [asAddr, Sem.run_pure, Result.andThen_ok]
  rw [run_loadVar_row w g 25 25 v.cells (0, 0) _ hb Tryz.underlying25 rfl img_size]
  rfl
theorem ret_img {fn : Func} {p : Tmp} {tmps : Array Value} {w : World} {g : Nat} {v : IV} (h : fn.results = #[.cell p 25]) (hp : tmps.getD p undef = .pointer (some ⟨g, 0, none⟩)) (hb : Blk w g 25 v.cells) :
    (results fn tmps).run Tryz.prog w = .ok v.val w :=
  results_cell_row h tmps w g 25 v.cells (0, 0) _ hp hb Tryz.underlying25 rfl img_size
theorem put2_img {W : World} {g : Nat} {x y : Value} (h : Blk W g 25 #[x, y]) (u v : Value) : Blk ((W.setCell ⟨g, 0, none⟩ u).setCell ⟨g, 1, none⟩ v) g 25 #[u, v] := by
  have := (h.put 0 u).put 1 v
  simpa using this
theorem keep2_img (W : World) (g : Nat) (u v : Value) : Keep (fun k => k = g) W ((W.setCell ⟨g, 0, none⟩ u).setCell ⟨g, 1, none⟩ v) :=
  ((Keep.refl (fun k => k = g) W).setCell (p := ⟨g, 0, none⟩) (fun _ => rfl) u).setCell (p := ⟨g, 1, none⟩) (fun _ => rfl) v
/-- How inner ends. -/
def InnR (w : World) (l : List UInt8) (e : Ending) (w' : World) : Prop :=
  ∃ v es fs, ∃ b : Bool, e = .returned (.tuple #[v.val, .bool b]) ∧ OwnIm w' (Fresh w) v es fs ∧ Keep NoB w w' ∧ (b = true → rdI l 0 = some (imOf es fs, l.length)) ∧ (b = false → ∀ x, rdI l 0 = some x → x.2 ≠ l.length)
theorem end_of {q n : Nat} : ((if q < n then (13 : Int) else 0) == 0) = decide (n ≤ q) := by
  by_cases h : q < n
  · rw [if_pos h, decide_eq_false (by omega)]; rfl
  · rw [if_neg h, decide_eq_true (by omega)]; rfl

set_option maxRecDepth 100000 in
set_option maxHeartbeats 8000000 in
theorem inner_any (A : Option Addr) (l : List UInt8) (c : Nat) (w : World) (hr : V.Rd w A l) (hlen : l.length ≤ 140737488355328) :
    Calls Tryz.prog 44 #[.slice A l.length c] w (InnR w l) := by
  have bz := Blk.new w 25 nilW.cells
  have k0 := (Keep.refl NoB w).alloc (.cells nilW.cells 25)
  have HO := Lib.hid (V.on_any (w.alloc (.cells nilW.cells 25)) A l c (hr.keep k0 (fun _ _ _ => id)) hlen)
  have HB := Lib.hid bz
  have hb0 := bz.lt
  unfold nilW IV.cells at *
  dsimp only at *
  generalize hw0 : w.alloc (.cells #[.slice none 0 0, .slice none 0 0] 25) = w0 at *
  clear hr bz
  go_enter Tryz.func44, Tryz.ntmps44
  go_wp2_with fail
  refine HO.out.mono ?_
  rintro e w1 ⟨br, rfl, h1, k1⟩
  have hbr : w.heap.size < br := by
    have := h1.1
    unfold Fresh at this; omega
  have h1' : V.ReelAt w1 br (fun k => w.heap.size < k ∧ k < w1.heap.size) l 0 := h1.mono (fun k hk hl => ⟨by unfold Fresh at hk; omega, hl⟩)
  have hB1 := HB.out.keep k1 id
  have gK := keepN k0 k1
  clear h1 k1 hw0 HO HB
  go_wp2_with fail
  refine (partsS_any _).mono ?_
  rintro e w2 ⟨rfl, k2⟩
  have h2 := h1'.keep k2 (fun _ _ => id)
  have hB2 := hB1.keep k2 id
  replace gK := keepN gK k2
  have hz2 := k2.size
  have hbr2 := S.reel_lt h2
  clear h1' k2 hB1
  go_wp2_with fail
  refine (readS_any w2 br _ l 0 (fun k hk => by have := hk.2; omega) h2 hlen).mono ?_
  rintro e w3 (⟨hnone, rfl, ⟨q, h3⟩, k3⟩ | ⟨q, A3, n3, c3, es, hsome, rfl, hO3, hE3, h3, k3⟩)
  · have hB3 := hB2.keep k3 (by show ¬ (w.heap.size = br); omega)
    have gK3 := gK.trans k3 (fun k e hl => by omega)
    have HN := Lib.hid (rdI_1 hnone)
    have hlt3 := hB3.lt
    have f3 := fun i => hB3.frozen i
    have hc30 := hB3.cell 0
    have hc31 := hB3.cell 1
    simp only [List.getElem?_toArray, List.getElem?_cons_zero, List.getElem?_cons_succ] at hc30 hc31
    have HP := Lib.hid (put2_img hB3 (.slice none 0 0) (.slice none 0 0))
    have HK := Lib.hid (gK3.trans (keep2_img w3 w.heap.size (.slice none 0 0) (.slice none 0 0)) (fun k e hl => by omega))
    clear hB2 gK h2 h3 k3 hnone hB3 gK3
    go_wp2
    refine bodyPost_ret (ret_imgE (v := nilW) rfl rfl HP.out rfl) rfl ?_
    exact ⟨nilW, [], [], false, rfl, nil_own _ _, HK.out, (fun h => nomatch h), fun _ x hx => by rw [HN.out] at hx; cases hx⟩
  · have hB3 := hB2.keep k3 (by show ¬ (w.heap.size = br); omega)
    have gK3 := gK.trans k3 (fun k e hl => by omega)
    have hz3 := k3.size
    have hbr3 := S.reel_lt h3
    have hw2 : w.heap.size < w2.heap.size := hB2.lt
    clear hB2 gK h2 k3
    go_wp2_with fail
    refine (partsF_any _).mono ?_
    rintro e w4 ⟨rfl, k4⟩
    have h4 := h3.keep k4 (fun _ _ => id)
    have hB4 := hB3.keep k4 id
    have gK4 := keepN gK3 k4
    have hO4 := hO3.keepN k4
    have hE4 : ∀ e ∈ es, OwnS w4 (Fresh w2) e := fun e he => (hE3 e he).keep k4 (fun _ _ => id)
    have hz4 := k4.size
    clear h3 hB3 gK3 hO3 hE3 k4
    go_wp2_with fail
    refine (readF_any w4 br _ l q (fun k hk => by have := hk.2; omega) h4 hlen).mono ?_
    rintro e w5 (⟨hnone, rfl, ⟨q5, h5⟩, k5⟩ | ⟨q5, A5, n5, c5, fs, hsome5, rfl, hO5, hF5, h5, k5⟩)
    · have hB5 := hB4.keep k5 (by show ¬ (w.heap.size = br); omega)
      have gK5 := gK4.trans k5 (fun k e hl => by omega)
      have hO5 := hO4.keep k5 (fun k hk e => by unfold Fresh at hk; omega)
      have hE5 : ∀ e ∈ es, OwnS w5 (Fresh w2) e := fun e he => (hE4 e he).keep k5 (fun k hk e => by unfold Fresh at hk; omega)
      have HN := Lib.hid (rdI_2 hsome hnone)
      have hlt5 := hB5.lt
      have f5 := fun i => hB5.frozen i
      have hc50 := hB5.cell 0
      have hc51 := hB5.cell 1
      simp only [List.getElem?_toArray, List.getElem?_cons_zero, List.getElem?_cons_succ] at hc50 hc51
      have HP := Lib.hid (put2_img hB5 (.slice A3 n3 c3) (.slice none 0 0))
      have kq := keep2_img w5 w.heap.size (.slice A3 n3 c3) (.slice none 0 0)
      have HK := Lib.hid (gK5.trans kq (fun k e hl => by omega))
      have HOI : Hid (OwnIm ((w5.setCell ⟨w.heap.size, 0, none⟩ (.slice A3 n3 c3)).setCell ⟨w.heap.size, 1, none⟩ (.slice none 0 0)) (Fresh w) ⟨A3, n3, c3, none, 0, 0⟩ es []) :=
        ⟨(hO5.keep kq (fun k hk e => by unfold Fresh at hk; omega)).mono (fun k hk _ => by unfold Fresh at *; omega), Own.nil _ _ _ _, fun e he => (((hE5 e he).keep kq (fun k hk e => by unfold Fresh at hk; omega)).mono (fun k hk _ => by unfold Fresh at *; omega) : OwnS _ (Fresh w) e), (fun _ h => nomatch h)⟩
      clear hB4 gK4 h4 h5 k5 hnone hB5 gK5 hO4 hE4 hO5 hE5 kq hsome
      go_wp2
      refine bodyPost_ret (ret_imgE (v := ⟨A3, n3, c3, none, 0, 0⟩) rfl rfl HP.out rfl) rfl ?_
      exact ⟨⟨A3, n3, c3, none, 0, 0⟩, es, [], false, rfl, HOI.out, HK.out, (fun h => nomatch h), fun _ x hx => by rw [HN.out] at hx; cases hx⟩
    · have hB5 := hB4.keep k5 (by show ¬ (w.heap.size = br); omega)
      have gK5 := gK4.trans k5 (fun k e hl => by omega)
      have hO3 := hO4.keep k5 (fun k hk e => by unfold Fresh at hk; omega)
      have hE3 : ∀ e ∈ es, OwnS w5 (Fresh w2) e := fun e he => (hE4 e he).keep k5 (fun k hk e => by unfold Fresh at hk; omega)
      have HN := Lib.hid (rdI_3 hsome hsome5)
      have hq5 : q5 ≤ l.length := h5.2.1
      clear hB4 gK4 h4 hO4 hE4 hsome hsome5
      go_wp2_with fail
      refine (V.end_any w5 br _ l q5 h5).mono ?_
      rintro e w6 ⟨rfl, k6⟩
      have hB6 := hB5.keep k6 id
      have gK6 := keepN gK5 k6
      have hO6 := hO3.keepN k6
      have hP6 := hO5.keepN k6
      have hE6 : ∀ e ∈ es, OwnS w6 (Fresh w2) e := fun e he => (hE3 e he).keep k6 (fun _ _ => id)
      have hF6 : ∀ e ∈ fs, OwnF w6 (Fresh w4) e := fun e he => (hF5 e he).keep k6 (fun _ _ => id)
      have hz6 := k6.size
      have hend := end_of (q := q5) (n := l.length)
      have hlt6 := hB6.lt
      have f6 := fun i => hB6.frozen i
      have hc60 := hB6.cell 0
      have hc61 := hB6.cell 1
      simp only [List.getElem?_toArray, List.getElem?_cons_zero, List.getElem?_cons_succ] at hc60 hc61
      have HP := Lib.hid (put2_img hB6 (.slice A3 n3 c3) (.slice A5 n5 c5))
      have kq := keep2_img w6 w.heap.size (.slice A3 n3 c3) (.slice A5 n5 c5)
      have HK := Lib.hid (gK6.trans kq (fun k e hl => by omega))
      have HOI : Hid (OwnIm ((w6.setCell ⟨w.heap.size, 0, none⟩ (.slice A3 n3 c3)).setCell ⟨w.heap.size, 1, none⟩ (.slice A5 n5 c5)) (Fresh w) ⟨A3, n3, c3, A5, n5, c5⟩ es fs) :=
        ⟨(hO6.keep kq (fun k hk e => by unfold Fresh at hk; omega)).mono (fun k hk _ => by unfold Fresh at *; omega), (hP6.keep kq (fun k hk e => by unfold Fresh at hk; omega)).mono (fun k hk _ => by unfold Fresh at *; omega),
          fun e he => (((hE6 e he).keep kq (fun k hk e => by unfold Fresh at hk; omega)).mono (fun k hk _ => by unfold Fresh at *; omega) : OwnS _ (Fresh w) e),
          fun e he => (((hF6 e he).keep kq (fun k hk e => by unfold Fresh at hk; omega)).mono (fun k hk _ => by unfold Fresh at *; omega) : OwnF _ (Fresh w) e)⟩
      have HE : Hid ((decide (l.length ≤ q5) = true → rdI l 0 = some (imOf es fs, l.length)) ∧ (decide (l.length ≤ q5) = false → ∀ x, rdI l 0 = some x → x.2 ≠ l.length)) := by
        refine ⟨fun h => ?_, fun h x hx => ?_⟩
        · have h7 := of_decide_eq_true h
          rw [HN.out]
          have : q5 = l.length := by omega
          rw [← this]; rfl
        · have h7 := of_decide_eq_false h
          rw [HN.out] at hx
          injection hx with hx
          rw [← hx]
          dsimp only; omega
      generalize (if q5 < l.length then (13 : Int) else 0) = E at *
      generalize decide (l.length ≤ q5) = bb at *
      clear hB5 gK5 h5 k5 hO3 hE3 hO5 hF5 hB6 gK6 hO6 hP6 hE6 hF6 kq HN k6
      go_wp2
      refine bodyPost_ret (ret_imgE (v := ⟨A3, n3, c3, A5, n5, c5⟩) rfl rfl HP.out rfl) rfl ?_
      exact ⟨⟨A3, n3, c3, A5, n5, c5⟩, es, fs, bb, rfl, HOI.out, HK.out, HE.out.1, HE.out.2⟩

end Go.Proofs.YtgifflfjhockaaaGreatDoor.I

namespace Go.Proofs.YtgifflfjhockaaaGreatDoor.F
open Go.RowKit W

end Go.Proofs.YtgifflfjhockaaaGreatDoor.F

namespace Go.Proofs.YtgifflfjhockaaaGreatDoor.F
open Go.RowKit W

end Go.Proofs.YtgifflfjhockaaaGreatDoor.F

namespace Go.Proofs.YtgifflfjhockaaaGreatDoor.I
open Go.RowKit W

/-- A field's row that gets longer. -/
theorem row_append {W W5 : World} {g i : Nat} {T E : TypeId} {sz k m : Nat} {P : Nat → Prop} {cs : Array Value} {v v' : Value} {xs ys : List Value} (hb : Blk W g T cs) (hrow : Own W E sz P v k xs) (hPg : ∀ j, P j → j ≠ g) (hg : W.grownBy W5 v.ownBlock) (hrow5 : W5.ownsRow 0 E sz v' m ys)
    (hv5 : v'.ownBlock = v.ownBlock ∨ v'.ownBlock = some W.heap.size) (hPn : P W.heap.size) :
    Blk W5 g T cs ∧ Own (W5.setCell ⟨g, i, none⟩ v') E sz P v' m ys ∧ Blk (W5.setCell ⟨g, i, none⟩ v') g T (cs.setIfInBounds i v') ∧ Keep (fun j => j = g ∨ v.ownBlock = some j) W (W5.setCell ⟨g, i, none⟩ v') := by
  have hb5 : Blk W5 g T cs := hb.grown hg (fun e => hPg g (hrow.2 g e.symm) rfl)
  have h5 : Own W5 E sz P v' m ys := ⟨hrow5, fun j e => by
    rcases hv5 with h | h
    · exact hrow.2 j (h ▸ e)
    · rw [h] at e; cases e; exact hPn⟩
  have hkk : Keep (fun j => j = g) W5 (W5.setCell ⟨g, i, none⟩ v') := (Keep.refl (fun j => j = g) W5).setCell (p := ⟨g, i, none⟩) (fun _ => rfl) v'
  refine ⟨hb5, h5.keep hkk (fun j hj e => hPg j hj e), hb5.put i v', ((Keep.refl _ W).grown hg (fun j e _ => .inr e)).setCell (fun _ => .inl rfl) v'⟩
theorem row_at {W : World} {g : Nat} {T E : TypeId} {sz k : Nat} {P : Nat → Prop} {cs : Array Value} {v : Value} {xs : List Value} (hb : Blk W g T cs) (hrow : Own W E sz P v k xs) : ∀ j, (j = g ∨ v.ownBlock = some j) → (j = g ∨ P j) ∧ ∃ cs t f, W.heap[j]? = some (.cells cs t f) ∧ (t = T ∨ t = E) := by
  rintro j (rfl | e)
  · exact ⟨.inl rfl, _, _, _, hb, .inl rfl⟩
  · rcases hrow.1.2 with ⟨rfl, _⟩ | ⟨g2, cap, cur, rfl, _, hh, _⟩
    · simp [Value.ownBlock] at e
    · obtain rfl : g2 = j := by simpa [Value.ownBlock] using e
      exact ⟨.inr (hrow.2 _ rfl), _, _, _, hh, .inr rfl⟩
theorem row_ty {W : World} {g : Nat} {T E F : TypeId} {sz k : Nat} {P : Nat → Prop} {cs : Array Value} {v : Value} {xs : List Value} (hb : Blk W g T cs) (hrow : Own W E sz P v k xs) (h1 : F ≠ T) (h2 : F ≠ E) : ∀ j, (j = g ∨ v.ownBlock = some j) → ∀ cs f, W.heap[j]? ≠ some (.cells cs F f) := fun j hj cs f h3 => by
  obtain ⟨_, cs2, t, f2, h4, h5⟩ := row_at hb hrow j hj
  rw [h4] at h3
  cases h3
  exact h5.elim h1 h2
theorem ownF_other {W W' : World} {O P : Nat → Prop} {v : F.FV} {f : F.Fu} (h : F.OwnF W P v f) (hk : Keep O W W') (h1 : ∀ k, O k → ∀ cs f, W.heap[k]? ≠ some (.cells cs 3 f)) (h2 : ∀ k, O k → ∀ cs f, W.heap[k]? ≠ some (.cells cs 63 f)) : F.OwnF W' P v f :=
  ⟨h.nm, own_other h.oa hk h1, own_other h.ob hk h1, own_other h.ol hk h1, own_other h.od hk h2, h.hI⟩
theorem rd_blkN {w : World} {g : Nat} {t : TypeId} {cs : Array Value} (h : Blk w g t cs) : Rd w (some ⟨g, 0, none⟩) cs.toList := fun _ => ⟨g, 0, rfl, fun j u hu => by
  rw [Nat.zero_add, h.cell j]; simpa using hu⟩

end Go.Proofs.YtgifflfjhockaaaGreatDoor.I

namespace Go.Proofs.YtgifflfjhockaaaGreatDoor.I
open Go.RowKit W

theorem okI_parts (es : List SE) (fs : List FE) : okI (imOf es fs) = (mayS es && (mayF fs && decide ((names (imOf [] fs)).Nodup))) := by
  have hn : names (imOf es fs) = names (imOf [] fs) := rfl
  rw [Bool.eq_iff_iff, okI_iff, hn]
  simp only [Bool.and_eq_true, mayS, mayF, decide_eq_true_eq]
  have e1 : (imOf es fs).sh.all S.okS = es.all fun e => S.okS e.2 := by simp [imOf, List.all_map, Function.comp_def]
  have e2 : (imOf es fs).fn.all F.okF = fs.all fun e => F.okF e.2 := by simp [imOf, List.all_map, Function.comp_def]
  have e3 : (imOf es fs).sh.length = es.length := by simp [imOf]
  have e4 : (imOf es fs).fn.length = fs.length := by simp [imOf]
  rw [e1, e2, e3, e4]
  constructor
  · rintro ⟨⟨a, ⟨b, c⟩, d⟩, e, f⟩
    exact ⟨⟨⟨Nat.zero_le _, a⟩, e⟩, ⟨⟨b, c⟩, f⟩, d⟩
  · rintro ⟨⟨⟨_, a⟩, e⟩, ⟨⟨b, c⟩, f⟩, d⟩
    exact ⟨⟨a, ⟨b, c⟩, d⟩, e, f⟩

set_option maxRecDepth 100000 in
set_option maxHeartbeats 8000000 in
theorem check_any (v : IV) (es : List SE) (fs : List FE) (w : World) (h : ImAt w v es fs) (hl : LgI v es fs) (R : Int) (hR : Hid (chkI (imOf es fs) = R)) :
    Calls Tryz.prog 20 #[v.val] w fun e w' => e = .returned (.int .i64 R) ∧ Keep NoB w w' := by
  have bx := Blk.new w 25 v.cells
  have k0 := (Keep.refl NoB w).alloc (.cells v.cells 25)
  have hlx := h.lx
  have hly := h.ly
  have HS := Lib.hid (fun W (hk : Keep NoB w W) => mayS_any v.X es v.nx v.cx W (fun W' hk' => (h.keepN (keepN hk hk')).rx) hlx (by have := hl.nx; omega) (fun e he W' hk' => S.chkS_any e.1.A e.2 e.1.n e.1.c W' ((h.keepN (keepN hk hk')).hs e he).1 (h.hs e he).2 (by have := hl.sh e he; omega) _ rfl))
  have HF := Lib.hid (fun W (hk : Keep NoB w W) => mayF_any v.Y fs v.ny v.cy W (fun W' hk' => (h.keepN (keepN hk hk')).ry) hly (by have := hl.ny; omega) (fun e he W' hk' => F.checkL_any e.1 e.2 W' ((h.keepN (keepN hk hk')).hf e he) (hl.fn e he) _ rfl))
  have HA : Hid (mayF fs = true → ∀ W, Keep NoB w W → Calls Tryz.prog 54 #[v.val] W fun e w' => e = .returned (.bool (decide ((names (imOf [] fs)).Nodup))) ∧ Keep NoB W w') := fun hm W hk =>
    apart_any v es fs W (h.keepN hk) (by unfold mayF at hm; rw [Bool.and_eq_true, decide_eq_true_eq] at hm; omega) (fun e he => (hl.fn e he).sz) _ rfl
  have HR : Hid (chkI (imOf es fs) = if (mayS es && (mayF fs && decide ((names (imOf [] fs)).Nodup))) = true then 0 else 80) := by show _ = _; unfold chkI; rw [okI_parts]
  obtain ⟨q0, q1⟩ := blk2 bx
  clear h hl bx hlx hly
  obtain ⟨X, nx, cx, Y, ny, cy⟩ := v
  dsimp only [IV.val, IV.cells] at *
  generalize hw1 : w.alloc (.cells #[.slice X nx cx, .slice Y ny cy] 25) = w1 at k0 q0 q1
  have HP := Lib.hid (fun (n : KW w1) => keepN k0 n.keep)
  have z0 : ∀ n : KW w1, n.w.cell? ⟨w.heap.size, 0, none⟩ = some (.slice X nx cx) := fun n => n.keep.cell q0 id
  have z1 : ∀ n : KW w1, n.w.cell? ⟨w.heap.size, 1, none⟩ = some (.slice Y ny cy) := fun n => n.keep.cell q1 id
  generalize decide ((names (imOf [] fs)).Nodup) = bA at *
  cases hs : mayS es
  · rw [hs] at HS HR
    obtain rfl : 80 = R := by rw [← hR.out, HR.out]; rfl
    clear hR HR HF HA hs
    go_enter Tryz.func20, Tryz.ntmps20
    go_wp2_with fail
    clear hw1
    refine wp_region_kept w1 (by kernel_rfl) (by kernel_rfl) (Keep.refl NoB w1) ?_
    repeat (go_big_quiet_step (first | (go_at_call 37; exact kept_of (partsS_any _)) | (go_at_call 52; exact kept_of (HS.out _ (HP.out _)))))
    refine wpQuiet_nil ?_
    rintro _ ⟨n9, rfl⟩
    have hk9 := n9.keep
    generalize n9.w = w9 at hk9 ⊢
    have hK9 := keepN k0 hk9
    go_wp2
    go_ret
    exact ⟨rfl, hK9⟩
  · rw [hs] at HS HR
    cases hf : mayF fs
    · rw [hf] at HF HR
      obtain rfl : 80 = R := by rw [← hR.out, HR.out]; rfl
      clear hR HR HA hs hf
      go_enter Tryz.func20, Tryz.ntmps20
      go_wp2_with fail
      clear hw1
      refine wp_region_kept w1 (by kernel_rfl) (by kernel_rfl) (Keep.refl NoB w1) ?_
      repeat (go_big_quiet_step (first | (go_at_call 37; exact kept_of (partsS_any _)) | (go_at_call 52; exact kept_of (HS.out _ (HP.out _))) | (go_at_call 39; exact kept_of (partsF_any _)) | (go_at_call 53; exact kept_of (HF.out _ (HP.out _)))))
      refine wpQuiet_nil ?_
      rintro _ ⟨n9, rfl⟩
      have hk9 := n9.keep
      generalize n9.w = w9 at hk9 ⊢
      have hK9 := keepN k0 hk9
      go_wp2
      go_ret
      exact ⟨rfl, hK9⟩
    · have HA2 := Lib.hid (HA.out hf)
      rw [hf] at HF HR
      cases bA
      · obtain rfl : 80 = R := by rw [← hR.out, HR.out]; rfl
        clear hR HR HA hs hf
        go_enter Tryz.func20, Tryz.ntmps20
        go_wp2_with fail
        clear hw1
        refine wp_region_kept w1 (by kernel_rfl) (by kernel_rfl) (Keep.refl NoB w1) ?_
        repeat (go_big_quiet_step (first | (go_at_call 37; exact kept_of (partsS_any _)) | (go_at_call 52; exact kept_of (HS.out _ (HP.out _))) | (go_at_call 39; exact kept_of (partsF_any _)) | (go_at_call 53; exact kept_of (HF.out _ (HP.out _))) | (go_at_call 54; exact kept_of (HA2.out _ (HP.out _)))))
        refine wpQuiet_nil ?_
        rintro _ ⟨n9, rfl⟩
        have hk9 := n9.keep
        generalize n9.w = w9 at hk9 ⊢
        have hK9 := keepN k0 hk9
        go_wp2
        go_ret
        exact ⟨rfl, hK9⟩
      · obtain rfl : 0 = R := by rw [← hR.out, HR.out]; rfl
        clear hR HR HA hs hf
        go_enter Tryz.func20, Tryz.ntmps20
        go_wp2_with fail
        clear hw1
        refine wp_region_kept w1 (by kernel_rfl) (by kernel_rfl) (Keep.refl NoB w1) ?_
        repeat (go_big_quiet_step (first | (go_at_call 37; exact kept_of (partsS_any _)) | (go_at_call 52; exact kept_of (HS.out _ (HP.out _))) | (go_at_call 39; exact kept_of (partsF_any _)) | (go_at_call 53; exact kept_of (HF.out _ (HP.out _))) | (go_at_call 54; exact kept_of (HA2.out _ (HP.out _)))))
        refine wpQuiet_nil ?_
        rintro _ ⟨n9, rfl⟩
        have hk9 := n9.keep
        generalize n9.w = w9 at hk9 ⊢
        have hK9 := keepN k0 hk9
        go_wp2
        go_ret
        exact ⟨rfl, hK9⟩

end Go.Proofs.YtgifflfjhockaaaGreatDoor.I

namespace Go.Proofs.YtgifflfjhockaaaGreatDoor.I
open Go.RowKit Go.Shelf W
attribute [local go_sem] Oper.semAt_some

theorem findI_none {l : List F.Fu} {s : List UInt8} (h : ∀ i (hi : i < l.length), l[i].nm ≠ s) : findI l s = none := by
  unfold findI
  rw [List.findIdx?_eq_none_iff]
  intro f hf
  obtain ⟨i, hi, rfl⟩ := List.getElem_of_mem hf
  exact decide_eq_false (h i hi)
theorem findI_some {l : List F.Fu} {s : List UInt8} {i : Nat} (hi : i < l.length) (h : l[i].nm = s) (h2 : ∀ j (hj : j < i), l[j].nm ≠ s) : findI l s = some i := by
  unfold findI
  rw [List.findIdx?_eq_some_iff_getElem]
  exact ⟨hi, decide_eq_true h, fun j hj => by rw [Bool.not_eq_true, decide_eq_false_iff_not]; exact h2 j hj⟩
theorem find_no {l : List F.Fu} {s : List UInt8} (h : findI l s = none) : findN l s = 0 ∧ findE l s = 83 := by unfold findN findE; rw [h]; exact ⟨rfl, rfl⟩
theorem find_yes {l : List F.Fu} {s : List UInt8} {i : Nat} (h : findI l s = some i) : findN l s = (i : Int) ∧ findE l s = 0 := by unfold findN findE; rw [h]; exact ⟨rfl, rfl⟩
/-- Functions and their names. -/
def NmsI (fs : List FE) : Prop := ∀ e ∈ fs, e.1.S.data.toList = e.2.nm
theorem nms_of {w : World} {v : IV} {es : List SE} {fs : List FE} (h : ImAt w v es fs) : NmsI fs := fun e he => (h.hf e he).nm
theorem nm_at {fs : List FE} (h : NmsI fs) {i : Nat} (hi : i < fs.length) {S : ByteArray} {s : List UInt8} (hS : S.data.toList = s) : fs[i].1.S = S ↔ ((imOf [] fs).fn[i]'(by simp [imOf, hi])).nm = s := by
  have h1 := h _ (List.getElem_mem hi)
  have e : ((imOf [] fs).fn[i]'(by simp [imOf, hi])) = fs[i].2 := by simp [imOf]
  rw [e, ← h1, ← hS]
  constructor
  · intro h; rw [h]
  · intro h
    generalize fs[i].1.S = T at h
    cases T; cases S; simp at h; rw [h]
theorem str_ne {S T : ByteArray} (h : T ≠ S) : (T.toList == S.toList) = false := by
  rw [beq_eq_false_iff_ne]
  intro e
  rw [ByteArray.toList_eq, ByteArray.toList_eq] at e
  exact h (by cases T; cases S; simp at e; rw [e])
/-- What the loop keeps: none that has come has the name. -/
def FdI (w : World) (bs bn be : Nat) (S : ByteArray) (fs : List FE) (pre : List Nat) (W : World) : Prop :=
  (Blk W bs 9 #[.string S] ∧ Blk W bn 3 #[.int .i64 0] ∧ Blk W be 31 #[.int .i64 83]) ∧ Keep NoB w W ∧ ∀ x ∈ pre, (fnI fs x).1.S ≠ S
/-- Where it is left: one has it. -/
def FdX (w : World) (bn be : Nat) (S : ByteArray) (fs : List FE) (c : Code) (pre : List Nat) (W : World) : Prop :=
  c = .exit 0 ∧ ∃ pre0 x, pre = pre0 ++ [x] ∧ (fnI fs x).1.S = S ∧ (∀ y ∈ pre0, (fnI fs y).1.S ≠ S) ∧ (Blk W bn 3 #[.int .i64 (x : Int)] ∧ Blk W be 31 #[.int .i64 0]) ∧ Keep NoB w W
/-- The activation at the head of the loop's body. -/
def FdA (v : IV) (S : ByteArray) (fs : List FE) (b : Nat) (x : Nat) (Bo : Nat) : Act :=
  { tmps := #[v.val, .string S, .pointer (some ⟨b, 0, none⟩), .pointer (some ⟨b + 1, 0, none⟩), .int .i64 0, .int .i64 0, .pointer (some ⟨b + 1 + 1, 0, none⟩), .pointer (some ⟨b + 1 + 1 + 1, 0, none⟩), .int .i64 (x : Int), .pointer (some ⟨Bo, 0, none⟩), v.val, .func (.func 104) #[] #[.pointer (some ⟨b + 1 + 1 + 1 + 1, 0, none⟩)], .int .i64 (x : Int), (fnI fs x).1.val, undef, undef, undef, undef, undef, undef, undef], defers := [] }
theorem fdI_own {w : World} {bs bn be B : Nat} {S : ByteArray} {fs : List FE} (hB : w.heap.size ≤ B) : OwnFrom B (FdI w bs bn be S fs) := by
  intro s X Y row ⟨⟨h1, h2, h3⟩, h4, h5⟩ hg hrow
  exact ⟨⟨O.blk_own (β := Unit) _ _ _ (fun _ => _) () _ _ _ h1 hg hrow, O.blk_own (β := Unit) _ _ _ (fun _ => _) () _ _ _ h2 hg hrow, O.blk_own (β := Unit) _ _ _ (fun _ => _) () _ _ _ h3 hg hrow⟩, O.keep_own (β := Unit) _ hB () _ _ _ h4 hg hrow, h5⟩
theorem fdX_own {w : World} {bn be B : Nat} {S : ByteArray} {fs : List FE} (hB : w.heap.size ≤ B) (c : Code) : OwnFrom B (fun (pre : List Nat) W => FdX w bn be S fs c pre W) := by
  intro s X Y row ⟨h0, p0, x, h5, h1, h6, ⟨h2, h3⟩, h4⟩ hg hrow
  exact ⟨h0, p0, x, h5, h1, h6, ⟨O.blk_own (β := Unit) _ _ _ (fun _ => _) () _ _ _ h2 hg hrow, O.blk_own (β := Unit) _ _ _ (fun _ => _) () _ _ _ h3 hg hrow⟩, O.keep_own (β := Unit) _ hB () _ _ _ h4 hg hrow⟩

set_option maxRecDepth 100000 in
set_option maxHeartbeats 4000000 in
theorem find_any (v : IV) (es : List SE) (fs : List FE) (S : ByteArray) (s : List UInt8) (w : World) (h : ImAt w v es fs) (hn : v.ny ≤ 1000) (hS : S.data.toList = s) :
    Calls Tryz.prog 22 #[v.val, .string S] w fun e w' => e = .returned (.tuple #[.int .i64 (findN (imOf [] fs).fn s), .int .i64 (findE (imOf [] fs).fn s)]) ∧ Keep NoB w w' := by
  have hly := h.ly
  have HB := Lib.hid (fun (ad : Addr) (e : v.Y = some ad) (h0 : 0 < (fvs fs).length) => rd_lt h.ry e h0)
  have HR := Lib.hid (fun W (hk : Keep NoB w W) => h.ry.keepN hk)
  have HN := Lib.hid (nms_of h)
  clear h
  refine (callsIn_wide (n := 4)).1 ?_
  refine callsIn_of_wp_marks Tryz.func22 rfl trivial ?_ rfl
  have hst := Lib.hid (fun m hm b w hx hr => each_stops m hm b v fs hly hn w hx hr)
  have he1 := Lib.hid (fun m w => each_any m v w)
  have hkk := ((((Keep.refl NoB w).alloc (.cells v.cells 25)).alloc (.cells #[.string S] 9)).alloc (.cells #[.int .i64 0] 3)).alloc (.cells #[.int .i64 83] 31)
  have hs := ((((Blk.new (w.alloc (.cells v.cells 25)) 9 #[.string S]).alloc (.cells #[.int .i64 0] 3)).alloc (.cells #[.int .i64 83] 31))).alloc (.cells v.cells 25)
  have hn0 := ((Blk.new ((w.alloc (.cells v.cells 25)).alloc (.cells #[.string S] 9)) 3 #[.int .i64 0]).alloc (.cells #[.int .i64 83] 31)).alloc (.cells v.cells 25)
  have he := (Blk.new (((w.alloc (.cells v.cells 25)).alloc (.cells #[.string S] 9)).alloc (.cells #[.int .i64 0] 3)) 31 #[.int .i64 83]).alloc (.cells v.cells 25)
  have hi5 := Blk.new ((((w.alloc (.cells v.cells 25)).alloc (.cells #[.string S] 9)).alloc (.cells #[.int .i64 0] 3)).alloc (.cells #[.int .i64 83] 31)) 25 v.cells
  simp only [World.size_alloc] at hs hn0 he hi5
  have hK := hkk.alloc (.cells v.cells 25)
  have hr5 := HR.out _ hK
  have hI0 : FdI w (w.heap.size + 1) (w.heap.size + 1 + 1) (w.heap.size + 1 + 1 + 1) S fs [] _ := ⟨⟨hs, hn0, he⟩, hK, fun x hx => by simp at hx⟩
  have HI0 := Lib.hid hI0
  have HX5 := Lib.hid hi5
  have HR5 := Lib.hid hr5
  have hsz : ((((w.alloc (.cells v.cells 25)).alloc (.cells #[.string S] 9)).alloc (.cells #[.int .i64 0] 3)).alloc (.cells #[.int .i64 83] 31)).heap.size = w.heap.size + 1 + 1 + 1 + 1 := by simp
  clear hs hn0 he hi5 hkk hK hr5 hI0
  obtain ⟨X, nx, cx, Y, ny, cy⟩ := v
  dsimp only [IV.val, IV.cells] at *
  simp only [Tryz.ntmps22, List.size_toArray, List.length_cons, List.length_nil, Nat.reduceAdd, Nat.reduceSub, Array.replicate_succ, Array.replicate_zero, List.push_toArray, List.append_toArray, List.nil_append, List.cons_append]
  gi_wp2
  refine V.wpIn_scope_wide ?_
  gi_wp2
  refine wpIn_label ?_
  gi_wp2_with (refine ⟨trivial, ?_⟩; gi_at_call 57; refine (he1.out _ _).mono ?_; rintro e w1 ⟨rfl, rfl⟩)
  refine wpIn_rangeFunc_ownH rfl (by omega) (gf := 104) (lb := #[.pointer (some ⟨w.heap.size + 1 + 1 + 1 + 1, 0, none⟩)]) rfl trivial (enters_of Tryz.func104 (by kernel_rfl) rfl)
    (hst.out _ (by omega) _ _ HX5.out HR5.out) FsK.trans (fun W l o o' _ hl ho _ => FsK.putObj W l o o' hl ho) (Below.refl _ _) (fun _ => rfl)
    (FdI w (w.heap.size + 1) (w.heap.size + 1 + 1) (w.heap.size + 1 + 1 + 1) S fs) (fun c pre W => FdX w (w.heap.size + 1 + 1) (w.heap.size + 1 + 1 + 1) S fs c pre W) (fdI_own (by simp; omega)) (fun c => fdX_own (by simp; omega) c) HI0.out
    (fun x a' W => ∃ Bo, Blk W Bo 61 (fnI fs x).1.cells ∧ a' = FdA ⟨X, nx, cx, Y, ny, cy⟩ S fs w.heap.size x Bo) ?hax ?assign ?body ?done ?stop
  case hax =>
    rintro x a' s X Y row ⟨Bo, h1, h2⟩ hg hrow
    exact ⟨Bo, O.blk_own (β := Unit) _ _ _ (fun _ => _) () _ _ _ h1 hg hrow, h2⟩
  case assign =>
    intro l pre x W K hi hK
    have HI := Lib.hid (fun W' hk => fdI_own (w := w) (bs := w.heap.size + 1) (bn := w.heap.size + 1 + 1) (be := w.heap.size + 1 + 1 + 1) (S := S) (fs := fs) (Nat.le_refl _) pre W W' none hi (Keep.grows hk) (fun r e => by cases e))
    have HB1 := Lib.hid (Blk.new W 61 (fnI fs x).1.cells)
    have HA : Hid (∀ Bo, FdA ⟨X, nx, cx, Y, ny, cy⟩ S fs w.heap.size x Bo = FdA ⟨X, nx, cx, Y, ny, cy⟩ S fs w.heap.size x Bo) := fun _ => rfl
    have HK2 := Lib.hid (fun a' W' h1 h2 h3 h4 => hK a' W' h1 h2 h3 h4)
    unfold FdA at HA HK2
    dsimp only [eaA]
    clear hi
    generalize fnI fs x = e at *
    obtain ⟨⟨S1, A1, na1, ca1, B1, nb1, cb1, L1, nl1, cl1, D1, nd1, cd1⟩, f⟩ := e
    dsimp only [F.FV.val, F.FV.cells, IV.val, IV.cells] at *
    clear hK
    gi_wp2
    exact HK2.out _ _ (keepsFrom_keep ((Keep.refl NoB W).alloc _)) (fun h => h.keepN ((Keep.refl NoB W).alloc _)) (HI.out _ ((Keep.refl NoB W).alloc _)) ⟨_, HB1.out, rfl⟩
  case body =>
    rintro l pre x a' W hl _ ⟨⟨hs, hn, he⟩, hK, hall⟩ ⟨Bo, hb, rfl⟩ _
    have cs : W.cell? ⟨w.heap.size + 1, 0, none⟩ = some (.string S) := hs.cell 0
    have cb : W.cell? ⟨Bo, 0, none⟩ = some (.string (fnI fs x).1.S) := hb.cell 0
    have hzn := hn.lt
    have hze := he.lt
    have fn := fun i => hn.frozen i
    have fe := fun i => he.frozen i
    have cn := hn.cell 0
    have ce := he.cell 0
    dsimp only [FdA, IV.val, IV.cells]
    by_cases hx : (fnI fs x).1.S = S
    · have hq : ((fnI fs x).1.S.toList == S.toList) = true := by rw [hx]; simp
      have hn2 := (hn.put 0 (.int .i64 (x : Int))).far (p := ⟨w.heap.size + 1 + 1 + 1, 0, none⟩) (by simp) (.int .i64 0)
      have he2 := (he.far (p := ⟨w.heap.size + 1 + 1, 0, none⟩) (by simp) (.int .i64 (x : Int))).put 0 (.int .i64 0)
      have HX : Hid (FdX w (w.heap.size + 1 + 1) (w.heap.size + 1 + 1 + 1) S fs (.exit 0) (pre ++ [x]) ((W.setCell ⟨w.heap.size + 1 + 1, 0, none⟩ (.int .i64 (x : Int))).setCell ⟨w.heap.size + 1 + 1 + 1, 0, none⟩ (.int .i64 0))) :=
        ⟨rfl, pre, x, rfl, hx, hall, ⟨hn2, he2⟩, (hK.setCell (fun h => absurd h (by simp; omega)) _).setCell (fun h => absurd h (by simp; omega)) _⟩
      clear hx hs hn he hn2 he2 hK hall hb
      generalize fnI fs x = e at *
      obtain ⟨⟨S1, A1, na1, ca1, B1, nb1, cb1, L1, nl1, cl1, D1, nd1, cd1⟩, f⟩ := e
      dsimp only [F.FV.val, F.FV.cells] at *
      gi_wp2
      refine ⟨⟨?_, ?_⟩, HX.out⟩
      · simp
      · intro k o hk1 hk2 hk3
        have hk1' : w.heap.size + 4 ≤ k := by simp at hk1; omega
        exact ((Below.heap_setCell _ _ _ _ (by show k ≠ w.heap.size + 1 + 1 + 1; omega)).trans (Below.heap_setCell _ _ _ _ (by show k ≠ w.heap.size + 1 + 1; omega))).trans hk2
    · have hq := str_ne hx
      have HX : Hid (FdI w (w.heap.size + 1) (w.heap.size + 1 + 1) (w.heap.size + 1 + 1 + 1) S fs (pre ++ [x]) W) := ⟨⟨hs, hn, he⟩, hK, fun y hy => by
        rcases List.mem_append.1 hy with h | h
        · exact hall y h
        · rw [List.mem_singleton.1 h]; exact hx⟩
      clear hx hs hn he hK hall hb
      generalize fnI fs x = e at *
      obtain ⟨⟨S1, A1, na1, ca1, B1, nb1, cb1, L1, nl1, cl1, D1, nd1, cd1⟩, f⟩ := e
      dsimp only [F.FV.val, F.FV.cells] at *
      gi_wp2
      exact ⟨KeepsFrom.refl _ _, fun h => h, HX.out⟩
  case done =>
    rintro D ys W hD hS2 ⟨⟨hs, hn, he⟩, hK, hall⟩ hDf
    have HX := Lib.hid (find_no (findI_none (l := (imOf [] fs).fn) (s := s) fun i hi => by
      have hif : i < fs.length := by simpa [imOf] using hi
      have h1 := hall i (by rw [hS2]; simp; omega)
      rw [fnI_at hif] at h1
      exact fun h2 => h1 ((nm_at HN.out hif hS).2 h2)))
    have cn : W.cell? ⟨w.heap.size + 1 + 1, 0, none⟩ = some (.int .i64 0) := hn.cell 0
    have ce : W.cell? ⟨w.heap.size + 1 + 1 + 1, 0, none⟩ = some (.int .i64 83) := he.cell 0
    have hmix : Tryz.prog.follows .mixedOrders = true := by kernel_rfl
    gi_wp2
    gi_region
    gi_wp2
    refine ⟨by simp, .inl ⟨_, _, rfl, run_takeDeferred (w := W.drew) hDf, ?_⟩⟩
    refine ⟨_, results_tmp2 rfl _ _ _, ?_, O.Keep_putObj hK.drew (by simp at hD; omega)⟩
    exact O.pr_ii HX.out.1.symm HX.out.2.symm
  case stop =>
    rintro D c pre W hD ⟨k, hk, hpre⟩ ⟨rfl, p0, x, hp, hx, hp0, ⟨hn, he⟩, hK⟩ hDf
    have hxk : p0 = List.range x ∧ x < fs.length := by
      rw [hpre] at hp
      rcases Nat.eq_zero_or_pos k with h0 | h0
      · subst h0; exact absurd hp (by simp)
      · obtain ⟨j, rfl⟩ : ∃ j, k = j + 1 := ⟨k - 1, by omega⟩
        rw [List.range_succ] at hp
        obtain ⟨h1, h2⟩ := List.append_inj' hp rfl
        simp at h2
        subst h2
        exact ⟨h1.symm, by omega⟩
    have HX := Lib.hid (find_yes (findI_some (l := (imOf [] fs).fn) (s := s) (i := x) (by simpa [imOf] using hxk.2) ((nm_at HN.out hxk.2 hS).1 (by rw [← fnI_at hxk.2]; exact hx)) fun j hj h2 => by
      have hjf : j < fs.length := by have := hxk.2; omega
      have h3 := hp0 j (by rw [hxk.1]; simpa using hj)
      rw [fnI_at hjf] at h3
      exact h3 ((nm_at HN.out hjf hS).2 h2)))
    have cn : W.cell? ⟨w.heap.size + 1 + 1, 0, none⟩ = some (.int .i64 (x : Int)) := hn.cell 0
    have ce : W.cell? ⟨w.heap.size + 1 + 1 + 1, 0, none⟩ = some (.int .i64 0) := he.cell 0
    have hmix : Tryz.prog.follows .mixedOrders = true := by kernel_rfl
    gi_wp2
    gi_region
    gi_wp2
    refine ⟨by simp, .inl ⟨_, _, rfl, run_takeDeferred (w := W.drew) hDf, ?_⟩⟩
    refine ⟨_, results_tmp2 rfl _ _ _, ?_, O.Keep_putObj hK.drew (by simp at hD; omega)⟩
    exact O.pr_ii HX.out.1.symm HX.out.2.symm

end Go.Proofs.YtgifflfjhockaaaGreatDoor.I

namespace Go.Proofs.YtgifflfjhockaaaGreatDoor.F
open Go.RowKit W

set_option maxRecDepth 100000 in
set_option maxHeartbeats 8000000 in
theorem equalI_any (A B : Option Addr) (la lb : List C.I3) (n m c d : Nat) (w : World) (ha : Rd w A (C.iis la)) (hb : Rd w B (C.iis lb)) (hn : Hid (la.length = n)) (hm : Hid (lb.length = m))
    (h1 : n ≤ 9223372036854775807) (h2 : m ≤ 9223372036854775807) (R : Bool) (hR : Hid (R = decide (la = lb))) :
    Calls Tryz.prog 107 #[.slice A n c, .slice B m d] w fun e w' => e = .returned (.bool R) ∧ Keep NoB w w' := by
  by_cases hnm : n = m
  · subst hnm
    go_enter Tryz.func107, Tryz.ntmps107
    go_wp2
    go_loopw [13] (fun i wr => ∃ k : Nat, k ≤ n ∧ i = .int .i64 k ∧ Hid (la.take k = lb.take k) ∧ Keep NoB w wr) (fun i _ => n - (intOf i).toNat)
    case atStart => exact ⟨0, Nat.zero_le _, rfl, rfl, Keep.refl _ _⟩
    case round =>
      obtain ⟨k, hk, rfl, ht, hK⟩ := hrel
      by_cases hlt : k < n
      · have hka : k < la.length := by rw [hn.out]; exact hlt
        have hkb : k < lb.length := by rw [hm.out]; exact hlt
        obtain ⟨ga, oa, rfl, hca⟩ := C.rdJ_at ha (by omega)
        obtain ⟨gb, ob, rfl, hcb⟩ := C.rdJ_at hb (by omega)
        have ca0 := hK.cell (hca k hka).1 id
        have ca1 := hK.cell (hca k hka).2.1 id
        have ca2 := hK.cell (hca k hka).2.2 id
        have cb0 := hK.cell (hcb k hkb).1 id
        have cb1 := hK.cell (hcb k hkb).2.1 id
        have cb2 := hK.cell (hcb k hkb).2.2 id
        have HT := Lib.hid (show la.take (k + 1) = la.take k ++ [la[k]] from List.take_succ_eq_append_getElem hka)
        have HU := Lib.hid (show lb.take (k + 1) = lb.take k ++ [lb[k]] from List.take_succ_eq_append_getElem hkb)
        clear hca hcb
        by_cases he : la[k] = lb[k]
        · have HV : Hid (la.take (k + 1) = lb.take (k + 1)) := by show _ = _; rw [HT.out, HU.out, ht.out, he]
          rw [he] at ca0 ca1 ca2
          clear he HT HU ha hb
          generalize lb[k] = y at ca0 ca1 ca2 cb0 cb1 cb2
          obtain ⟨y0, y1, y2⟩ := y
          dsimp only at ca0 ca1 ca2 cb0 cb1 cb2
          go_wp2
          go_quiet (fail)
          go_wp2
          go_roundw
          case rel => exact ⟨k + 1, by omega, by go_num, HV, hK.drewN _⟩
          case measure => simp [intOf]; omega
        · have hf : R = false := by
            rw [hR.out, decide_eq_false_iff_not]
            intro e
            exact he (by simp [e])
          subst hf
          clear HT HU ha hb
          generalize la[k] = x at ca0 ca1 ca2 he
          generalize lb[k] = y at cb0 cb1 cb2 he
          obtain ⟨x0, x1, x2⟩ := x
          obtain ⟨y0, y1, y2⟩ := y
          dsimp only at ca0 ca1 ca2 cb0 cb1 cb2
          by_cases h0 : x0 = y0
          · subst h0
            by_cases h3 : x1 = y1
            · subst h3
              have hne : (x2 == y2) = false := by rw [beq_eq_false_iff_ne]; rintro rfl; exact he rfl
              clear he
              go_wp2
              go_quiet (fail)
              go_wp2
              go_ret
              exact ⟨rfl, hK.drewN _⟩
            · have hne : (x1 == y1) = false := by rw [beq_eq_false_iff_ne]; exact h3
              clear he h3
              go_wp2
              go_quiet (fail)
              go_wp2
              go_ret
              exact ⟨rfl, hK.drewN _⟩
          · have hne : (x0 == y0) = false := by rw [beq_eq_false_iff_ne]; exact h0
            clear he h0
            go_wp2
            go_quiet (fail)
            go_wp2
            go_ret
            exact ⟨rfl, hK.drewN _⟩
      · have hf : R = true := by
          rw [hR.out, decide_eq_true_iff]
          have e1 := ht.out
          rwa [List.take_of_length_le (by rw [hn.out]; omega), List.take_of_length_le (by rw [hm.out]; omega)] at e1
        subst hf
        go_wp2
        go_ret
        exact ⟨rfl, hK⟩
  · have hf : R = false := by
      rw [hR.out, decide_eq_false_iff_not]
      intro e
      exact hnm (by rw [← hn.out, ← hm.out, e])
    subst hf
    have hne : ((n : Int) != (m : Int)) = true := by rw [bne_iff_ne]; omega
    clear hnm
    go_enter Tryz.func107, Tryz.ntmps107
    go_wp2
    go_ret
    exact ⟨rfl, Keep.refl _ _⟩

theorem retB {a b : Bool} (h : a = b) : Ending.returned (.bool a) = .returned (.bool b) := by rw [h]
theorem same_bits (f g : Fu) : sameF f g = (decide (f.nm = g.nm) && (decide (f.ar = g.ar ∧ f.rs = g.rs) && (decide (f.lc = g.lc) && decide (f.bd = g.bd)))) := by
  unfold sameF
  simp only [Bool.decide_and]
theorem name_eq {S T : ByteArray} {s t : List UInt8} (hS : S.data.toList = s) (hT : T.data.toList = t) : (S.toList == T.toList) = decide (s = t) := by
  subst hS hT
  rw [ByteArray.toList_eq, ByteArray.toList_eq]
  by_cases h : S.data.toList = T.data.toList
  · rw [decide_eq_true h, h]; exact beq_self_eq_true _
  · rw [decide_eq_false h]; exact beq_eq_false_iff_ne.2 h

set_option maxRecDepth 100000 in
set_option maxHeartbeats 8000000 in
theorem sameF_any (v : FV) (f : Fu) (u : FV) (g : Fu) (w : World) (h : FnAt w v f) (h2 : FnAt w u g) (hs : SmF v) (hs2 : SmF u) :
    Calls Tryz.prog 66 #[v.val, u.val] w fun e w' => e = .returned (.bool (sameF f g)) ∧ Keep NoB w w' := by
  have bx := (Blk.new w 61 v.cells).alloc (.cells u.cells 61)
  have by1 := Blk.new (w.alloc (.cells v.cells 61)) 61 u.cells
  have k0 := ((Keep.refl NoB w).alloc (.cells v.cells 61)).alloc (.cells u.cells 61)
  rw [World.size_alloc] at by1
  have HF := Lib.hid (h.keepN k0)
  have HG := Lib.hid (h2.keepN k0)
  have HX := Lib.hid bx
  have HY := Lib.hid by1
  have HR := Lib.hid (same_bits f g)
  have HN := name_eq h.nm h2.nm
  have HS := Lib.hid (fun w1 hk => S.same_any v.A f.ar v.na v.ca v.B f.rs v.nb v.cb u.A g.ar u.na u.ca u.B g.rs u.nb u.cb w1 (HF.out.keepN hk).ra (HF.out.keepN hk).rb (HG.out.keepN hk).ra (HG.out.keepN hk).rb h.la h.lb h2.la h2.lb (by have := hs.na; omega) (by have := hs.nb; omega) (by have := hs2.na; omega) (by have := hs2.nb; omega) _ rfl)
  have HL := Lib.hid (fun w1 hk => S.equal_any v.L u.L f.lc g.lc v.nl u.nl v.cl u.cl w1 (HF.out.keepN hk).rl (HG.out.keepN hk).rl h.ll h2.ll (by have := hs.nl; omega) (by have := hs2.nl; omega) _ rfl)
  have HD := Lib.hid (fun w1 hk => equalI_any v.D u.D f.bd g.bd v.nd u.nd v.cd u.cd w1 (HF.out.keepN hk).rd (HG.out.keepN hk).rd h.ld h2.ld (by have := hs.nd; omega) (by have := hs2.nd; omega) _ rfl)
  generalize sameF f g = R at HR ⊢
  generalize decide (f.nm = g.nm) = b0 at HR HN
  generalize decide (f.ar = g.ar ∧ f.rs = g.rs) = b1 at HR HS
  generalize decide (f.lc = g.lc) = b2 at HR HL
  generalize decide (f.bd = g.bd) = b3 at HR HD
  obtain ⟨s0, A, na, ca, B, nb, cb, L, nl, cl, D, nd, cd⟩ := v
  obtain ⟨s1, A1, na1, ca1, B1, nb1, cb1, L1, nl1, cl1, D1, nd1, cd1⟩ := u
  unfold FV.val FV.cells at *
  dsimp only at HN HS HL HD
  clear h h2 hs hs2 bx by1 HF HG
  cases b0
  · go_enter Tryz.func66, Tryz.ntmps66
    obtain ⟨c0, c1, c2, c3, c4⟩ := blk5 (v := ⟨s0, A, na, ca, B, nb, cb, L, nl, cl, D, nd, cd⟩) HX.out
    obtain ⟨d0, d1, d2, d3, d4⟩ := blk5 (v := ⟨s1, A1, na1, ca1, B1, nb1, cb1, L1, nl1, cl1, D1, nd1, cd1⟩) HY.out
    dsimp only at c0 c1 c2 c3 c4 d0 d1 d2 d3 d4
    go_wp2
    go_ret
    exact ⟨retB HR.out.symm, k0⟩
  · cases b1
    · go_enter Tryz.func66, Tryz.ntmps66
      obtain ⟨c0, c1, c2, c3, c4⟩ := blk5 (v := ⟨s0, A, na, ca, B, nb, cb, L, nl, cl, D, nd, cd⟩) HX.out
      obtain ⟨d0, d1, d2, d3, d4⟩ := blk5 (v := ⟨s1, A1, na1, ca1, B1, nb1, cb1, L1, nl1, cl1, D1, nd1, cd1⟩) HY.out
      dsimp only at c0 c1 c2 c3 c4 d0 d1 d2 d3 d4
      go_wp2_with fail
      refine (HS.out _ (Keep.refl _ _)).mono ?_
      rintro e w1 ⟨rfl, k1⟩
      go_wp2
      go_ret
      exact ⟨retB HR.out.symm, keepN k0 k1⟩
    · cases b2
      · go_enter Tryz.func66, Tryz.ntmps66
        obtain ⟨c0, c1, c2, c3, c4⟩ := blk5 (v := ⟨s0, A, na, ca, B, nb, cb, L, nl, cl, D, nd, cd⟩) HX.out
        obtain ⟨d0, d1, d2, d3, d4⟩ := blk5 (v := ⟨s1, A1, na1, ca1, B1, nb1, cb1, L1, nl1, cl1, D1, nd1, cd1⟩) HY.out
        dsimp only at c0 c1 c2 c3 c4 d0 d1 d2 d3 d4
        go_wp2_with fail
        refine (HS.out _ (Keep.refl _ _)).mono ?_
        rintro e w1 ⟨rfl, k1⟩
        clear c0 c1 c2 c3 c4 d0 d1 d2 d3 d4
        obtain ⟨c0, c1, c2, c3, c4⟩ := blk5 (v := ⟨s0, A, na, ca, B, nb, cb, L, nl, cl, D, nd, cd⟩) (HX.out.keep k1 id)
        obtain ⟨d0, d1, d2, d3, d4⟩ := blk5 (v := ⟨s1, A1, na1, ca1, B1, nb1, cb1, L1, nl1, cl1, D1, nd1, cd1⟩) (HY.out.keep k1 id)
        dsimp only at c0 c1 c2 c3 c4 d0 d1 d2 d3 d4
        go_wp2_with fail
        refine (HL.out _ k1).mono ?_
        rintro e w2 ⟨rfl, k2⟩
        replace k2 := keepN k1 k2
        go_wp2
        go_ret
        exact ⟨retB HR.out.symm, keepN k0 k2⟩
      · cases b3
        · go_enter Tryz.func66, Tryz.ntmps66
          obtain ⟨c0, c1, c2, c3, c4⟩ := blk5 (v := ⟨s0, A, na, ca, B, nb, cb, L, nl, cl, D, nd, cd⟩) HX.out
          obtain ⟨d0, d1, d2, d3, d4⟩ := blk5 (v := ⟨s1, A1, na1, ca1, B1, nb1, cb1, L1, nl1, cl1, D1, nd1, cd1⟩) HY.out
          dsimp only at c0 c1 c2 c3 c4 d0 d1 d2 d3 d4
          go_wp2_with fail
          refine (HS.out _ (Keep.refl _ _)).mono ?_
          rintro e w1 ⟨rfl, k1⟩
          clear c0 c1 c2 c3 c4 d0 d1 d2 d3 d4
          obtain ⟨c0, c1, c2, c3, c4⟩ := blk5 (v := ⟨s0, A, na, ca, B, nb, cb, L, nl, cl, D, nd, cd⟩) (HX.out.keep k1 id)
          obtain ⟨d0, d1, d2, d3, d4⟩ := blk5 (v := ⟨s1, A1, na1, ca1, B1, nb1, cb1, L1, nl1, cl1, D1, nd1, cd1⟩) (HY.out.keep k1 id)
          dsimp only at c0 c1 c2 c3 c4 d0 d1 d2 d3 d4
          go_wp2_with fail
          refine (HL.out _ k1).mono ?_
          rintro e w2 ⟨rfl, k2⟩
          replace k2 := keepN k1 k2
          clear c0 c1 c2 c3 c4 d0 d1 d2 d3 d4
          obtain ⟨c0, c1, c2, c3, c4⟩ := blk5 (v := ⟨s0, A, na, ca, B, nb, cb, L, nl, cl, D, nd, cd⟩) (HX.out.keep k2 id)
          obtain ⟨d0, d1, d2, d3, d4⟩ := blk5 (v := ⟨s1, A1, na1, ca1, B1, nb1, cb1, L1, nl1, cl1, D1, nd1, cd1⟩) (HY.out.keep k2 id)
          dsimp only at c0 c1 c2 c3 c4 d0 d1 d2 d3 d4
          go_wp2_with fail
          refine (HD.out _ k2).mono ?_
          rintro e w3 ⟨rfl, k3⟩
          replace k3 := keepN k2 k3
          go_wp2
          go_ret
          exact ⟨retB HR.out.symm, keepN k0 k3⟩
        · go_enter Tryz.func66, Tryz.ntmps66
          obtain ⟨c0, c1, c2, c3, c4⟩ := blk5 (v := ⟨s0, A, na, ca, B, nb, cb, L, nl, cl, D, nd, cd⟩) HX.out
          obtain ⟨d0, d1, d2, d3, d4⟩ := blk5 (v := ⟨s1, A1, na1, ca1, B1, nb1, cb1, L1, nl1, cl1, D1, nd1, cd1⟩) HY.out
          dsimp only at c0 c1 c2 c3 c4 d0 d1 d2 d3 d4
          go_wp2_with fail
          refine (HS.out _ (Keep.refl _ _)).mono ?_
          rintro e w1 ⟨rfl, k1⟩
          clear c0 c1 c2 c3 c4 d0 d1 d2 d3 d4
          obtain ⟨c0, c1, c2, c3, c4⟩ := blk5 (v := ⟨s0, A, na, ca, B, nb, cb, L, nl, cl, D, nd, cd⟩) (HX.out.keep k1 id)
          obtain ⟨d0, d1, d2, d3, d4⟩ := blk5 (v := ⟨s1, A1, na1, ca1, B1, nb1, cb1, L1, nl1, cl1, D1, nd1, cd1⟩) (HY.out.keep k1 id)
          dsimp only at c0 c1 c2 c3 c4 d0 d1 d2 d3 d4
          go_wp2_with fail
          refine (HL.out _ k1).mono ?_
          rintro e w2 ⟨rfl, k2⟩
          replace k2 := keepN k1 k2
          clear c0 c1 c2 c3 c4 d0 d1 d2 d3 d4
          obtain ⟨c0, c1, c2, c3, c4⟩ := blk5 (v := ⟨s0, A, na, ca, B, nb, cb, L, nl, cl, D, nd, cd⟩) (HX.out.keep k2 id)
          obtain ⟨d0, d1, d2, d3, d4⟩ := blk5 (v := ⟨s1, A1, na1, ca1, B1, nb1, cb1, L1, nl1, cl1, D1, nd1, cd1⟩) (HY.out.keep k2 id)
          dsimp only at c0 c1 c2 c3 c4 d0 d1 d2 d3 d4
          go_wp2_with fail
          refine (HD.out _ k2).mono ?_
          rintro e w3 ⟨rfl, k3⟩
          replace k3 := keepN k2 k3
          go_wp2
          go_ret
          exact ⟨retB HR.out.symm, keepN k0 k3⟩

end Go.Proofs.YtgifflfjhockaaaGreatDoor.F
