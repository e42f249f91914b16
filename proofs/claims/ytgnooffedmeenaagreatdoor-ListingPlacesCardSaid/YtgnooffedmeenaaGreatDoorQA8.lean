/-
  Which parts may be: IndexFunc and ContainsFunc over what lies in memory, and may, of shapes and of functions. Conditions: what is asked answers by its contract.
  The iterator of an image's functions, with their numbers; and Find, the program's and the document's. Conditions: the image's lists lie in memory; a round keeps them.
  A map from numbers to numbers that a call makes: what each key has. No program, no conditions.
  A map from texts to numbers that a call makes: what each key has. No program, no conditions.
  Are no two functions of one name: the program's apart, by the iterator and a map. Conditions: the image's lists lie in memory; no more than 1000 functions.
  Which images may be: what Check of layer image answers. Conditions: the image's lists lie in memory, each below 2^47.
  Layer listing: what plain and numbered answer: a sheet of the image, or of one that has nothing. Conditions: the image lies in memory.
  Layer listing: what the named sheet's operand answers: a label for a place, a function's name, or nothing. Conditions: the image may be; its functions lie in memory; the map of labels has what it has to.
  What targets of layer listing answers: the places that a body's instructions go to, rising, each once. Conditions: the body lies in memory.
-/
import Derived.Laws.EntriesVeiled
import Derived.Lib.OwnBridge
import Derived.Maps.Keyed
import Derived.Maps.Own
import Derived.Maps.OwnIn
import Derived.Maps.OwnOps
import Derived.Maps.OwnSet
import Derived.Maps.Views
import Derived.Sort.Grow
import Derived.Sort.OwnSortedInts
import Derived.WalkArith
import Derived.Test.YtgnooffedmeenaaGreatDoorQA6
import Derived.Test.YtgnooffedmeenaaGreatDoorQA7
import Derived.Test.YtgnooffedmeenaaGreatDoorQA4
import Derived.Test.YtgnooffedmeenaaGreatDoorQA2
import Derived.Test.YtgnooffedmeenaaGreatDoorQA3
import Derived.Test.YtgnooffedmeenaaGreatDoorQA5
import Derived.Test.YtgnooffedmeenaaGreatDoorShelf
namespace Go.Proofs.YtgnooffedmeenaaGreatDoor.I
open Go.RowKit W

set_option maxRecDepth 100000 in
set_option maxHeartbeats 4000000 in
theorem indexS_any (A : Option Addr) (es : List SE) (n c k b : Nat) (w : World) (hcf : ∀ args w, (callFunc k args).run Tryz.prog w = .ok (.enter k args) w) (hr : Hid (∀ W, Keep NoB w W → Rd W A (svs es))) (hn : Hid (es.length = n)) (hm : n ≤ 1000) (bs : Nat → Bool)
    (hq : Hid (∀ i (h : i < es.length) W, Keep NoB w W → Calls Tryz.prog k #[es[i].1.val, .pointer (some ⟨b, 0, none⟩)] W fun e W' => e = .returned (.bool (bs i)) ∧ Keep NoB W W')) :
    Calls Tryz.prog 173 #[.slice A n c, .func (.func k) #[] #[.pointer (some ⟨b, 0, none⟩)]] w fun e w' => ∃ R : Int, e = .returned (.int .i64 R) ∧ ((0 ≤ R ∧ ∃ i, i < n ∧ bs i = true) ∨ (R = -1 ∧ ∀ i, i < n → bs i = false)) ∧ Keep NoB w w' := by
  go_enter Tryz.func173, Tryz.ntmps173
  go_wp2
  go_loopw [8] (fun i wr => ∃ j : Nat, j ≤ n ∧ i = .int .i64 j ∧ Hid (∀ t, t < j → bs t = false) ∧ Keep NoB w wr) (fun i _ => n - (intOf i).toNat)
  case atStart => exact ⟨0, Nat.zero_le _, rfl, fun t h => absurd h (by omega), Keep.refl _ _⟩
  case round =>
    obtain ⟨j, hj, rfl, hB, hK⟩ := hrel
    by_cases hlt : j < n
    · have hje : j < es.length := by rw [hn.out]; exact hlt
      obtain ⟨g, off, rfl, c0⟩ := shape_at (hr.out _ hK) hje
      have HQ := Lib.hid (hq.out j hje _ hK)
      generalize es[j] = e at c0 HQ
      obtain ⟨⟨A1, n1, d1⟩, l⟩ := e
      dsimp only [SV.val] at c0 HQ
      obtain ⟨bj, hbj⟩ : ∃ x, bs j = x := ⟨_, rfl⟩
      rw [hbj] at HQ
      have HBJ := Lib.hid hbj
      clear hbj
      go_wp2_with fail
      refine HQ.out.mono ?_
      rintro e w1 ⟨rfl, k1⟩
      replace hK := keepN hK k1
      cases bj
      · go_wp2
        go_roundw
        case rel => exact ⟨j + 1, by omega, by go_num, fun t ht => (by
          rcases Nat.lt_succ_iff_lt_or_eq.1 ht with h | rfl
          · exact hB.out t h
          · exact HBJ.out), hK⟩
        case measure => simp [intOf]; omega
      · go_wp2
        go_ret
        exact ⟨_, rfl, .inl ⟨by omega, j, hlt, HBJ.out⟩, hK⟩
    · obtain rfl : j = n := by omega
      go_wp2
      go_ret
      exact ⟨_, rfl, .inr ⟨rfl, hB.out⟩, hK⟩

set_option maxRecDepth 100000 in
set_option maxHeartbeats 2000000 in
theorem containsS_any (A : Option Addr) (es : List SE) (n c k b : Nat) (w : World) (hcf : ∀ args w, (callFunc k args).run Tryz.prog w = .ok (.enter k args) w) (hr : Hid (∀ W, Keep NoB w W → Rd W A (svs es))) (hn : Hid (es.length = n)) (hm : n ≤ 1000) (bs : Nat → Bool)
    (hq : Hid (∀ i (h : i < es.length) W, Keep NoB w W → Calls Tryz.prog k #[es[i].1.val, .pointer (some ⟨b, 0, none⟩)] W fun e W' => e = .returned (.bool (bs i)) ∧ Keep NoB W W'))
    (B : Bool) (h1 : Hid ((∃ i, i < n ∧ bs i = true) → B = true)) (h0 : Hid ((∀ i, i < n → bs i = false) → B = false)) :
    Calls Tryz.prog 115 #[.slice A n c, .func (.func k) #[] #[.pointer (some ⟨b, 0, none⟩)]] w fun e w' => e = .returned (.bool B) ∧ Keep NoB w w' := by
  have HI := Lib.hid (indexS_any A es n c k b w hcf hr hn hm bs hq)
  clear hq hr hcf
  go_enter Tryz.func115, Tryz.ntmps115
  go_wp2_with fail
  refine HI.out.mono ?_
  rintro e w1 ⟨R, rfl, hR, k1⟩
  rcases hR with ⟨h2, h3⟩ | ⟨rfl, h3⟩
  · obtain rfl : B = true := h1.out h3
    have hd : decide ((0 : Int) ≤ R) = true := decide_eq_true h2
    clear h3 h1 h0
    go_wp2
    go_ret
    exact ⟨rfl, k1⟩
  · obtain rfl : B = false := h0.out h3
    clear h3 h1 h0
    go_wp2
    go_ret
    exact ⟨rfl, k1⟩

set_option maxRecDepth 100000 in
set_option maxHeartbeats 2000000 in
theorem asksS_any (k : Nat) (hcf : ∀ args w, (callFunc k args).run Tryz.prog w = .ok (.enter k args) w) (v : SV) (b : Nat) (w : World) (u0 u1 u3 u4 u5 : Value) (hb : Blk w b 100 #[u0, u1, F.fnV k, u3, u4, u5]) (R : Int) (B : Bool) (hB : (R != 0) = B)
    (HG : Hid (∀ W, Keep NoB w W → Calls Tryz.prog k #[v.val] W fun e w' => e = .returned (.int .i64 R) ∧ Keep NoB W w')) :
    Calls Tryz.prog 116 #[v.val, .pointer (some ⟨b, 0, none⟩)] w fun e w' => e = .returned (.bool B) ∧ Keep NoB w w' := by
  have c2 := hb.cell 2
  unfold F.fnV at c2
  simp only [List.getElem?_toArray, List.getElem?_cons_zero, List.getElem?_cons_succ] at c2
  clear hb
  dsimp only [SV.val] at HG ⊢
  go_enter Tryz.func116, Tryz.ntmps116
  go_wp2_with fail
  refine (HG.out _ (Keep.refl _ _)).mono ?_
  rintro e w1 ⟨rfl, k1⟩
  go_wp2
  go_ret
  exact ⟨rfl, k1⟩

/-- What an image's parts of this kind have. -/
def partS : Value := .agg #[.int .i64 0, .int .i64 64, F.fnV 117, F.fnV 118, F.fnV 119, F.fnV 120]
theorem partS_size : (Tryz.prog.info? 100).map (·.size) = some 6 := by kernel_rfl
set_option maxRecDepth 100000 in
set_option maxHeartbeats 2000000 in
theorem partsS_any (w : World) : Calls Tryz.prog 55 #[] w fun e w' => e = .returned partS ∧ Keep NoB w w' := by
  have bz := Blk.new w 100 #[.int .i64 0, .int .i64 64, F.fnV 117, F.fnV 118, F.fnV 119, F.fnV 120]
  have k0 := (Keep.refl NoB w).alloc (.cells #[.int .i64 0, .int .i64 64, F.fnV 117, F.fnV 118, F.fnV 119, F.fnV 120] 100)
  have HB := Lib.hid bz
  have HK := Lib.hid k0
  unfold partS F.fnV at *
  clear bz k0
  go_enter Tryz.func55, Tryz.ntmps55
  go_wp2
  refine bodyPost_ret (results_cell_row rfl _ _ w.heap.size 100 _ (0, 0) _ rfl HB.out Tryz.underlying100 rfl partS_size) rfl ?_
  exact ⟨rfl, HK.out⟩

/-- What may answers. -/
def mayS (l : List SE) : Bool := decide (0 ≤ l.length ∧ l.length ≤ 64) && l.all fun e => S.okS e.2
set_option maxRecDepth 100000 in
set_option maxHeartbeats 4000000 in
theorem mayS_any (A : Option Addr) (es : List SE) (n c : Nat) (w : World) (hr : Hid (∀ W, Keep NoB w W → Rd W A (svs es))) (hn : Hid (es.length = n)) (hm : n ≤ 9223372036854775807) (he : Hid (∀ e ∈ es, ∀ W, Keep NoB w W → Calls Tryz.prog 117 #[e.1.val] W fun r W' => r = .returned (.int .i64 (S.chkS e.2)) ∧ Keep NoB W W')) :
    Calls Tryz.prog 54 #[.slice A n c, partS] w fun r w' => r = .returned (.bool (mayS es)) ∧ Keep NoB w w' := by
  have bz := Blk.new w 100 #[.int .i64 0, .int .i64 64, F.fnV 117, F.fnV 118, F.fnV 119, F.fnV 120]
  have k0 := (Keep.refl NoB w).alloc (.cells #[.int .i64 0, .int .i64 64, F.fnV 117, F.fnV 118, F.fnV 119, F.fnV 120] 100)
  have hmf : ∀ (fn : Go.Fn) (first cap : Array Value) (w : World), (Instr.makeFunc fn first cap).run Tryz.prog w = .ok (.func fn first cap) w := fun _ _ _ _ => rfl
  have q0 := bz.cell 0
  have q1 := bz.cell 1
  simp only [List.getElem?_toArray, List.getElem?_cons_zero, List.getElem?_cons_succ] at q0 q1
  have HZ := Lib.hid bz
  obtain ⟨M, hM⟩ : ∃ M, mayS es = M := ⟨_, rfl⟩
  rw [hM]
  have HM := Lib.hid hM
  clear hM bz
  unfold partS F.fnV at *
  by_cases h64 : n ≤ 64
  · have HC := Lib.hid (fun W (hk : Keep NoB (w.alloc (.cells #[.int .i64 0, .int .i64 64, F.fnV 117, F.fnV 118, F.fnV 119, F.fnV 120] 100)) W) => containsS_any A es n c 116 w.heap.size W (enters_of Tryz.func116 (by kernel_rfl) rfl) (fun W' hk' => hr.out W' (keepN (keepN k0 hk) hk')) hn (by omega) (fun i => (es[i]?.map fun e => (S.chkS e.2 != 0)).getD false)
      (fun i h W' hk' => asksS_any 117 (enters_of Tryz.func117 (by kernel_rfl) rfl) es[i].1 w.heap.size W' _ _ _ _ _ (HZ.out.keep (keepN hk hk') id) (S.chkS es[i].2) _ (by simp [h]) (fun W2 hk2 => he.out _ (List.getElem_mem h) W2 (keepN (keepN (keepN k0 hk) hk') hk2)))
      (!(es.all fun e => S.okS e.2))
      (by
        rintro ⟨i, hi, hb⟩
        have hi2 : i < es.length := by rw [hn.out]; exact hi
        simp only [List.getElem?_eq_getElem hi2, Option.map_some, Option.getD_some] at hb
        rw [Bool.not_eq_true', ← Bool.not_eq_true]
        intro hall
        have := List.all_eq_true.1 hall _ (List.getElem_mem hi2)
        rw [S.chkS_ok this] at hb
        exact absurd hb (by decide))
      (by
        intro hb
        rw [Bool.not_eq_false']
        refine List.all_eq_true.2 fun e hm => ?_
        obtain ⟨i, hi, rfl⟩ := List.getElem_of_mem hm
        have := hb i (by rw [← hn.out]; exact hi)
        simp only [List.getElem?_eq_getElem hi, Option.map_some, Option.getD_some] at this
        cases ho : S.okS es[i].2
        · rw [S.chkS_no ho] at this; exact absurd this (by decide)
        · rfl))
    unfold F.fnV at HC
    obtain ⟨al, hal⟩ : ∃ al, (es.all fun e => S.okS e.2) = al := ⟨_, rfl⟩
    rw [hal] at HC
    have HV : Hid (al = M) := by
      show _ = _
      rw [← HM.out, ← hal]; unfold mayS; rw [hn.out, decide_eq_true (by omega : 0 ≤ n ∧ n ≤ 64)]; rfl
    clear hal HM he hr HZ
    go_enter Tryz.func54, Tryz.ntmps54
    go_wp2_with fail
    refine (HC.out _ (Keep.refl _ _)).mono ?_
    rintro e w1 ⟨rfl, k1⟩
    go_wp2
    go_ret
    exact ⟨by rw [← HV.out]; cases al <;> rfl, keepN k0 k1⟩
  · have hd : decide ((n : Int) ≤ 64) = false := by rw [decide_eq_false_iff_not]; omega
    obtain rfl : false = M := by
      rw [← HM.out]; unfold mayS; rw [hn.out, decide_eq_false (by omega : ¬ (0 ≤ n ∧ n ≤ 64))]; rfl
    clear HM he hr HZ
    go_enter Tryz.func54, Tryz.ntmps54
    go_wp2
    go_ret
    exact ⟨rfl, k0⟩

set_option maxRecDepth 100000 in
set_option maxHeartbeats 4000000 in
theorem indexF_any (A : Option Addr) (fs : List FE) (n c k b : Nat) (w : World) (hcf : ∀ args w, (callFunc k args).run Tryz.prog w = .ok (.enter k args) w) (hr : Hid (∀ W, Keep NoB w W → Rd W A (fvs fs))) (hn : Hid (fs.length = n)) (hm : n ≤ 1000) (bs : Nat → Bool)
    (hq : Hid (∀ i (h : i < fs.length) W, Keep NoB w W → Calls Tryz.prog k #[fs[i].1.val, .pointer (some ⟨b, 0, none⟩)] W fun e W' => e = .returned (.bool (bs i)) ∧ Keep NoB W W')) :
    Calls Tryz.prog 178 #[.slice A n c, .func (.func k) #[] #[.pointer (some ⟨b, 0, none⟩)]] w fun e w' => ∃ R : Int, e = .returned (.int .i64 R) ∧ ((0 ≤ R ∧ ∃ i, i < n ∧ bs i = true) ∨ (R = -1 ∧ ∀ i, i < n → bs i = false)) ∧ Keep NoB w w' := by
  go_enter Tryz.func178, Tryz.ntmps178
  go_wp2
  go_loopw [8] (fun i wr => ∃ j : Nat, j ≤ n ∧ i = .int .i64 j ∧ Hid (∀ t, t < j → bs t = false) ∧ Keep NoB w wr) (fun i _ => n - (intOf i).toNat)
  case atStart => exact ⟨0, Nat.zero_le _, rfl, fun t h => absurd h (by omega), Keep.refl _ _⟩
  case round =>
    obtain ⟨j, hj, rfl, hB, hK⟩ := hrel
    by_cases hlt : j < n
    · have hje : j < fs.length := by rw [hn.out]; exact hlt
      obtain ⟨g, off, rfl, c0, c1, c2, c3, c4⟩ := fun_at (hr.out _ hK) hje
      have HQ := Lib.hid (hq.out j hje _ hK)
      generalize fs[j] = e at c0 c1 c2 c3 c4 HQ
      obtain ⟨⟨S1, A1, na1, ca1, B1, nb1, cb1, L1, nl1, cl1, D1, nd1, cd1⟩, l⟩ := e
      dsimp only [F.FV.val, F.FV.cells] at c0 c1 c2 c3 c4 HQ
      obtain ⟨bj, hbj⟩ : ∃ x, bs j = x := ⟨_, rfl⟩
      rw [hbj] at HQ
      have HBJ := Lib.hid hbj
      clear hbj
      go_wp2_with fail
      refine HQ.out.mono ?_
      rintro e w1 ⟨rfl, k1⟩
      replace hK := keepN hK k1
      cases bj
      · go_wp2
        go_roundw
        case rel => exact ⟨j + 1, by omega, by go_num, fun t ht => (by
          rcases Nat.lt_succ_iff_lt_or_eq.1 ht with h | rfl
          · exact hB.out t h
          · exact HBJ.out), hK⟩
        case measure => simp [intOf]; omega
      · go_wp2
        go_ret
        exact ⟨_, rfl, .inl ⟨by omega, j, hlt, HBJ.out⟩, hK⟩
    · obtain rfl : j = n := by omega
      go_wp2
      go_ret
      exact ⟨_, rfl, .inr ⟨rfl, hB.out⟩, hK⟩

set_option maxRecDepth 100000 in
set_option maxHeartbeats 2000000 in
theorem containsF_any (A : Option Addr) (fs : List FE) (n c k b : Nat) (w : World) (hcf : ∀ args w, (callFunc k args).run Tryz.prog w = .ok (.enter k args) w) (hr : Hid (∀ W, Keep NoB w W → Rd W A (fvs fs))) (hn : Hid (fs.length = n)) (hm : n ≤ 1000) (bs : Nat → Bool)
    (hq : Hid (∀ i (h : i < fs.length) W, Keep NoB w W → Calls Tryz.prog k #[fs[i].1.val, .pointer (some ⟨b, 0, none⟩)] W fun e W' => e = .returned (.bool (bs i)) ∧ Keep NoB W W'))
    (B : Bool) (h1 : Hid ((∃ i, i < n ∧ bs i = true) → B = true)) (h0 : Hid ((∀ i, i < n → bs i = false) → B = false)) :
    Calls Tryz.prog 121 #[.slice A n c, .func (.func k) #[] #[.pointer (some ⟨b, 0, none⟩)]] w fun e w' => e = .returned (.bool B) ∧ Keep NoB w w' := by
  have HI := Lib.hid (indexF_any A fs n c k b w hcf hr hn hm bs hq)
  clear hq hr hcf
  go_enter Tryz.func121, Tryz.ntmps121
  go_wp2_with fail
  refine HI.out.mono ?_
  rintro e w1 ⟨R, rfl, hR, k1⟩
  rcases hR with ⟨h2, h3⟩ | ⟨rfl, h3⟩
  · obtain rfl : B = true := h1.out h3
    have hd : decide ((0 : Int) ≤ R) = true := decide_eq_true h2
    clear h3 h1 h0
    go_wp2
    go_ret
    exact ⟨rfl, k1⟩
  · obtain rfl : B = false := h0.out h3
    clear h3 h1 h0
    go_wp2
    go_ret
    exact ⟨rfl, k1⟩

set_option maxRecDepth 100000 in
set_option maxHeartbeats 2000000 in
theorem asksF_any (k : Nat) (hcf : ∀ args w, (callFunc k args).run Tryz.prog w = .ok (.enter k args) w) (v : F.FV) (b : Nat) (w : World) (u0 u1 u3 u4 u5 : Value) (hb : Blk w b 106 #[u0, u1, F.fnV k, u3, u4, u5]) (R : Int) (B : Bool) (hB : (R != 0) = B)
    (HG : Hid (∀ W, Keep NoB w W → Calls Tryz.prog k #[v.val] W fun e w' => e = .returned (.int .i64 R) ∧ Keep NoB W w')) :
    Calls Tryz.prog 122 #[v.val, .pointer (some ⟨b, 0, none⟩)] w fun e w' => e = .returned (.bool B) ∧ Keep NoB w w' := by
  have k0 := (Keep.refl NoB w).alloc (.cells v.cells 37)
  have bx := Blk.new w 37 v.cells
  replace hb := hb.alloc (.cells v.cells 37)
  have c2 := hb.cell 2
  unfold F.fnV at c2
  simp only [List.getElem?_toArray, List.getElem?_cons_zero, List.getElem?_cons_succ] at c2
  clear hb
  obtain ⟨S1, A1, na1, ca1, B1, nb1, cb1, L1, nl1, cl1, D1, nd1, cd1⟩ := v
  obtain ⟨q0, q1, q2, q3, q4⟩ := F.blk5 bx
  dsimp only [F.FV.val, F.FV.cells] at HG k0 q0 q1 q2 q3 q4 c2 bx ⊢
  clear bx
  go_enter Tryz.func122, Tryz.ntmps122
  go_wp2_with fail
  refine (HG.out _ k0).mono ?_
  rintro e w1 ⟨rfl, k1⟩
  go_wp2
  go_ret
  exact ⟨rfl, keepN k0 k1⟩

/-- What an image's parts of this kind have. -/
def partF : Value := .agg #[.int .i64 1, .int .i64 64, F.fnV 47, F.fnV 123, F.fnV 124, F.fnV 125]
theorem partF_size : (Tryz.prog.info? 106).map (·.size) = some 6 := by kernel_rfl
set_option maxRecDepth 100000 in
set_option maxHeartbeats 2000000 in
theorem partsF_any (w : World) : Calls Tryz.prog 57 #[] w fun e w' => e = .returned partF ∧ Keep NoB w w' := by
  have bz := Blk.new w 106 #[.int .i64 1, .int .i64 64, F.fnV 47, F.fnV 123, F.fnV 124, F.fnV 125]
  have k0 := (Keep.refl NoB w).alloc (.cells #[.int .i64 1, .int .i64 64, F.fnV 47, F.fnV 123, F.fnV 124, F.fnV 125] 106)
  have HB := Lib.hid bz
  have HK := Lib.hid k0
  unfold partF F.fnV at *
  clear bz k0
  go_enter Tryz.func57, Tryz.ntmps57
  go_wp2
  refine bodyPost_ret (results_cell_row rfl _ _ w.heap.size 106 _ (0, 0) _ rfl HB.out Tryz.underlying106 rfl partF_size) rfl ?_
  exact ⟨rfl, HK.out⟩

/-- What may answers. -/
def mayF (l : List FE) : Bool := decide (1 ≤ l.length ∧ l.length ≤ 64) && l.all fun e => F.okF e.2
set_option maxRecDepth 100000 in
set_option maxHeartbeats 4000000 in
theorem mayF_any (A : Option Addr) (fs : List FE) (n c : Nat) (w : World) (hr : Hid (∀ W, Keep NoB w W → Rd W A (fvs fs))) (hn : Hid (fs.length = n)) (hm : n ≤ 9223372036854775807) (he : Hid (∀ e ∈ fs, ∀ W, Keep NoB w W → Calls Tryz.prog 47 #[e.1.val] W fun r W' => r = .returned (.int .i64 (F.chkF e.2)) ∧ Keep NoB W W')) :
    Calls Tryz.prog 56 #[.slice A n c, partF] w fun r w' => r = .returned (.bool (mayF fs)) ∧ Keep NoB w w' := by
  have bz := Blk.new w 106 #[.int .i64 1, .int .i64 64, F.fnV 47, F.fnV 123, F.fnV 124, F.fnV 125]
  have k0 := (Keep.refl NoB w).alloc (.cells #[.int .i64 1, .int .i64 64, F.fnV 47, F.fnV 123, F.fnV 124, F.fnV 125] 106)
  have hmf : ∀ (fn : Go.Fn) (first cap : Array Value) (w : World), (Instr.makeFunc fn first cap).run Tryz.prog w = .ok (.func fn first cap) w := fun _ _ _ _ => rfl
  have q0 := bz.cell 0
  have q1 := bz.cell 1
  simp only [List.getElem?_toArray, List.getElem?_cons_zero, List.getElem?_cons_succ] at q0 q1
  have HZ := Lib.hid bz
  obtain ⟨M, hM⟩ : ∃ M, mayF fs = M := ⟨_, rfl⟩
  rw [hM]
  have HM := Lib.hid hM
  clear hM bz
  unfold partF F.fnV at *
  by_cases hz : n = 0
  · subst hz
    obtain rfl : false = M := by
      rw [← HM.out]; unfold mayF; rw [hn.out]; rfl
    clear HM he hr HZ
    go_enter Tryz.func56, Tryz.ntmps56
    go_wp2
    go_ret
    exact ⟨rfl, k0⟩
  have hd1 : decide ((1 : Int) ≤ (n : Int)) = true := by rw [decide_eq_true_iff]; omega
  by_cases h64 : n ≤ 64
  · have HC := Lib.hid (fun W (hk : Keep NoB (w.alloc (.cells #[.int .i64 1, .int .i64 64, F.fnV 47, F.fnV 123, F.fnV 124, F.fnV 125] 106)) W) => containsF_any A fs n c 122 w.heap.size W (enters_of Tryz.func122 (by kernel_rfl) rfl) (fun W' hk' => hr.out W' (keepN (keepN k0 hk) hk')) hn (by omega) (fun i => (fs[i]?.map fun e => (F.chkF e.2 != 0)).getD false)
      (fun i h W' hk' => asksF_any 47 (enters_of Tryz.func47 (by kernel_rfl) rfl) fs[i].1 w.heap.size W' _ _ _ _ _ (HZ.out.keep (keepN hk hk') id) (F.chkF fs[i].2) _ (by simp [h]) (fun W2 hk2 => he.out _ (List.getElem_mem h) W2 (keepN (keepN (keepN k0 hk) hk') hk2)))
      (!(fs.all fun e => F.okF e.2))
      (by
        rintro ⟨i, hi, hb⟩
        have hi2 : i < fs.length := by rw [hn.out]; exact hi
        simp only [List.getElem?_eq_getElem hi2, Option.map_some, Option.getD_some] at hb
        rw [Bool.not_eq_true', ← Bool.not_eq_true]
        intro hall
        have := List.all_eq_true.1 hall _ (List.getElem_mem hi2)
        rw [F.chkF_ok this] at hb
        exact absurd hb (by decide))
      (by
        intro hb
        rw [Bool.not_eq_false']
        refine List.all_eq_true.2 fun e hm => ?_
        obtain ⟨i, hi, rfl⟩ := List.getElem_of_mem hm
        have := hb i (by rw [← hn.out]; exact hi)
        simp only [List.getElem?_eq_getElem hi, Option.map_some, Option.getD_some] at this
        cases ho : F.okF fs[i].2
        · rw [F.chkF_no ho] at this; exact absurd this (by decide)
        · rfl))
    unfold F.fnV at HC
    obtain ⟨al, hal⟩ : ∃ al, (fs.all fun e => F.okF e.2) = al := ⟨_, rfl⟩
    rw [hal] at HC
    have HV : Hid (al = M) := by
      show _ = _
      rw [← HM.out, ← hal]; unfold mayF; rw [hn.out, decide_eq_true (by omega : 1 ≤ n ∧ n ≤ 64)]; rfl
    clear hal HM he hr HZ
    go_enter Tryz.func56, Tryz.ntmps56
    go_wp2_with fail
    refine (HC.out _ (Keep.refl _ _)).mono ?_
    rintro e w1 ⟨rfl, k1⟩
    go_wp2
    go_ret
    exact ⟨by rw [← HV.out]; cases al <;> rfl, keepN k0 k1⟩
  · have hd : decide ((n : Int) ≤ 64) = false := by rw [decide_eq_false_iff_not]; omega
    obtain rfl : false = M := by
      rw [← HM.out]; unfold mayF; rw [hn.out, decide_eq_false (by omega : ¬ (1 ≤ n ∧ n ≤ 64))]; rfl
    clear HM he hr HZ
    go_enter Tryz.func56, Tryz.ntmps56
    go_wp2
    go_ret
    exact ⟨rfl, k0⟩

end Go.Proofs.YtgnooffedmeenaaGreatDoor.I

namespace Go.Proofs.YtgnooffedmeenaaGreatDoor.I
open Go.RowKit Go.Shelf W
attribute [local go_sem] Oper.semAt_some

/-- The function of a number, and what comes. -/
def fnI (fs : List FE) (x : Nat) : FE := fs[x]?.getD (F.nilV, F.nilF)
theorem fnI_at {fs : List FE} {x : Nat} (h : x < fs.length) : fnI fs x = fs[x] := by unfold fnI; rw [List.getElem?_eq_getElem h]; rfl
abbrev eaA (fs : List FE) (x : Nat) : Array Value := #[.int .i64 (x : Int), (fnI fs x).1.val]
/-- What a round keeps: the list of functions. -/
def FsK (Y : Option Addr) (fs : List FE) (W W' : World) : Prop := Rd W Y (fvs fs) → Rd W' Y (fvs fs)
theorem FsK.trans {Y : Option Addr} {fs : List FE} {A B C : World} (h : FsK Y fs A B) (h' : FsK Y fs B C) : FsK Y fs A C := fun hr => h' (h hr)
theorem rd_putObj {A : Option Addr} {xs : List Value} (W : World) (l : Nat) (o o' : Obj) (hl : W.heap[l]? = some o) (ho : o.isCells = false) (hr : Rd W A xs) : Rd (W.putObj l o') A xs := fun h0 => by
  obtain ⟨g, off, e, hc⟩ := hr h0
  refine ⟨g, off, e, fun j u hu => ?_⟩
  have h1 := hc j u hu
  have hne : g ≠ l := by
    intro e2
    unfold World.cell? at h1
    dsimp only at h1
    rw [e2, hl] at h1
    cases o with
    | cells cs t f => cases ho
    | _ => simp at h1
  exact (World.cell?_of_block (World.putObj_heap_other (show (⟨g, off + j, none⟩ : Addr).block ≠ l from hne))).trans h1
theorem FsK.putObj {Y : Option Addr} {fs : List FE} (W : World) (l : Nat) (o o' : Obj) (hl : W.heap[l]? = some o) (ho : o.isCells = false) : FsK Y fs W (W.putObj l o') := fun h => rd_putObj W l o o' hl ho h
set_option maxRecDepth 100000 in
set_option maxHeartbeats 4000000 in
theorem each1_in (m l : Nat) (hm : 1 ≤ m) (b : Nat) (v : IV) (fs : List FE) (hl : fs.length = v.ny) (hn : v.ny ≤ 1000) (J Jx : List Nat → World → Prop) (hJk : ∀ pre W W', J pre W → Keep NoB W W' → J pre W')
    (hY : ∀ pre x W, J pre W → pre.length < v.ny → YieldAt Fence.wide (m - 1) Tryz.prog l (eaA fs x) W fun e W' =>
      (e = .returned (.bool true) ∧ J (pre ++ [x]) W' ∧ FsK v.Y fs W W') ∨ (e = .returned (.bool false) ∧ Jx (pre ++ [x]) W'))
    (W : World) (hx : Blk W b 25 v.cells) (hr : Rd W v.Y (fvs fs)) (h0 : J [] W) :
    CallsIn Fence.wide m Tryz.prog 195 #[.func (.yield l) #[] #[], .pointer (some ⟨b, 0, none⟩)] W fun e W' => (∃ v, e = .returned v) ∧
      ((∃ ys : List Nat, ys = List.range v.ny ∧ J ys W') ∨ (∃ pre : List Nat, (∃ k, k ≤ v.ny ∧ pre = List.range k) ∧ Jx pre W')) := by
  obtain ⟨q0, q1⟩ := blk2 hx
  obtain ⟨X, nx, cx, Y, ny, cy⟩ := v
  dsimp only at *
  have HR := Lib.hid hr
  clear hr hx
  refine callsIn_of_wp Tryz.func195 rfl trivial ?_ rfl
  simp only [Tryz.ntmps195, List.size_toArray, List.length_cons, List.length_nil, Nat.reduceAdd, Nat.reduceSub, Array.replicate_succ, Array.replicate_zero, List.push_toArray, List.append_toArray, List.nil_append, List.cons_append]
  gi_wp2
  gi_loopw [8] (fun p wr => ∃ j : Nat, j ≤ ny ∧ p = .int .i64 (j : Int) ∧ J (List.range j) wr ∧ Hid (Rd wr Y (fvs fs))) (fun p _ => ny - (intOf p).toNat)
  case atStart => exact ⟨0, by omega, rfl, h0, HR.out⟩
  case round =>
    clear h0 HR q0 q1
    obtain ⟨j, hj, rfl, hJ, hL⟩ := hrel
    by_cases hlt : j < ny
    · have hje : j < fs.length := by omega
      obtain ⟨g, off, rfl, c0, c1, c2, c3, c4⟩ := fun_at hL.out hje
      have hk0 := (Keep.refl NoB wr).alloc (.cells (fnI fs j).1.cells 37)
      have HY := Lib.hid (hY (List.range j) j _ (hJk _ _ _ hJ hk0) (by simp; omega))
      have HL2 := Lib.hid (hL.out.keepN hk0)
      have HE : Hid (List.range j ++ [j] = List.range (j + 1)) := by show _ = _; rw [List.range_succ]
      have hfi := fnI_at hje
      dsimp only [eaA] at HY
      rw [hfi] at HY HL2
      clear hJ hk0 hfi
      generalize fs[j] = e at c0 c1 c2 c3 c4 HY HL2
      obtain ⟨⟨S1, A1, na1, ca1, B1, nb1, cb1, L1, nl1, cl1, D1, nd1, cd1⟩, f⟩ := e
      dsimp only [F.FV.val, F.FV.cells] at c0 c1 c2 c3 c4 HY HL2
      obtain ⟨fn, tmps, assign, body, hy, hRun⟩ := HY.out
      clear HY hY
      gi_wp2
      refine hRun.mono ?_
      rintro e W3 (⟨rfl, hJ3, hk3⟩ | ⟨rfl, hJx3⟩)
      · have hL3 := hk3 HL2.out
        rw [HE.out] at hJ3
        gi_wp2
        go_roundw
        case rel => exact ⟨j + 1, by omega, by go_num, hJ3, hL3⟩
        case measure => simp [intOf]; omega
      · rw [HE.out] at hJx3
        gi_wp2
        refine bodyPost_ret (results_none rfl _ _ _) rfl ?_
        exact ⟨⟨_, rfl⟩, .inr ⟨_, ⟨_, by omega, rfl⟩, hJx3⟩⟩
    · obtain rfl : j = ny := by omega
      gi_wp2
      go_end0
      exact ⟨⟨_, rfl⟩, .inl ⟨_, rfl, hJ⟩⟩

theorem each_abides {B : Nat} {J : List Nat → World → Prop} (h : AbidesFrom B J) : ∀ pre W W', J pre W → Keep NoB W W' → J pre W' := fun pre W W' hj hk => h pre W W' none hj hk.grows (fun r e => by cases e)
theorem each_stops (m : Nat) (hm : 1 ≤ m) (b : Nat) (v : IV) (fs : List FE) (hl : fs.length = v.ny) (hn : v.ny ≤ 1000) (w : World) (hx : Blk w b 25 v.cells) (hr : Rd w v.Y (fvs fs)) :
    SeqStopsK Fence.wide m Tryz.prog 195 #[.pointer (some ⟨b, 0, none⟩)] (eaA fs) (FsK v.Y fs) (fun ys : List Nat => ys = List.range v.ny) (fun pre : List Nat => ∃ k, k ≤ v.ny ∧ pre = List.range k) v.ny w := fun l J Jx W hb hJ _ hY h0 =>
  each1_in m l hm b v fs hl hn J Jx (each_abides hJ) hY W (Blk.keep hx (Keep.of_below (O := NoB) hb) id) (hr.keepN (Keep.of_below (O := NoB) hb)) h0

set_option maxRecDepth 100000 in
theorem each_any (m : Nat) (v : IV) (w : World) :
    CallsIn Fence.wide m Tryz.prog 126 #[v.val] w fun e w' => e = .returned (.func (.func 195) #[] #[.pointer (some ⟨w.heap.size, 0, none⟩)]) ∧ w' = w.alloc (.cells v.cells 25) := by
  obtain ⟨X, nx, cx, Y, ny, cy⟩ := v
  dsimp only [IV.val, IV.cells]
  refine callsIn_of_wp Tryz.func126 rfl trivial ?_ rfl
  simp only [Tryz.ntmps126, List.size_toArray, List.length_cons, List.length_nil, Nat.reduceAdd, Nat.reduceSub, Array.replicate_succ, Array.replicate_zero, List.push_toArray, List.append_toArray, List.nil_append, List.cons_append]
  gi_wp2
  go_ret
  exact ⟨rfl, rfl⟩

end Go.Proofs.YtgnooffedmeenaaGreatDoor.I

namespace Go.Proofs.YtgnooffedmeenaaGreatDoor
open Go.RowKit Go.Maps

/-- Block b is a map of at most n keys; each number has what f says. -/
def IMap (P : Program) (k e : TypeId) (b n : Nat) (f : Int → Nat) (w : World) : Prop :=
  ∃ D : DataW Unit, w.ownsMap P k (plainElem P e) b n D ∧ IsMap D ∧ ∀ h : Int, D.atKey (.int .i64 h) (.lit (.int .i64 0)) = .lit (.int .i64 (f h : Int))
section
variable {P : Program} {k e t : TypeId} {b n : Nat} {f : Int → Nat} {w w' : World}
theorem IMap.new (P : Program) (k e : TypeId) (w : World) : IMap P k e w.heap.size 0 (fun _ => 0) (w.alloc (.map #[] 0)) :=
  ⟨.map [], World.ownsMap_made w P k _, isMap_empty, fun _ => rfl⟩
theorem IMap.lt (h : IMap P k e b n f w) : b < w.heap.size := by obtain ⟨_, h, _⟩ := h; exact h.lt
theorem IMap.obj (h : IMap P k e b n f w) : ∃ es c, w.heap[b]? = some (.map es c) := by
  obtain ⟨_, ⟨es, c, hb, _⟩, _⟩ := h
  exact ⟨es, c, hb⟩
theorem IMap.grown {row : Option Nat} (h : IMap P k e b n f w) (hg : w.grownBy w' row) (hne : some b ≠ row) : IMap P k e b n f w' := by
  obtain ⟨D, h1, h2, h3⟩ := h
  exact ⟨D, h1.kept hg hne, h2, h3⟩
theorem IMap.keep {O : Nat → Prop} (h : IMap P k e b n f w) (hk : Keep O w w') (hb : ¬ O b) : IMap P k e b n f w' := by
  obtain ⟨D, ⟨es, c, h0, hr⟩, h2, h3⟩ := h
  exact ⟨D, ⟨es, c, (hk.block b (Array.getElem?_eq_some_iff.1 h0).1 hb).trans h0, hr⟩, h2, h3⟩
theorem IMap.mono {m : Nat} (h : IMap P k e b n f w) (hm : n ≤ m) : IMap P k e b m f w := by
  obtain ⟨D, h1, h2, h3⟩ := h
  exact ⟨D, h1.mono hm, h2, h3⟩
theorem IMap.congr {g : Int → Nat} (h : IMap P k e b n f w) (hg : ∀ x, g x = f x) : IMap P k e b n g w := by
  obtain ⟨D, h1, h2, h3⟩ := h
  exact ⟨D, h1, h2, fun x => by rw [hg]; exact h3 x⟩
/-- What a store of one makes of f. -/
def setF (f : Int → Nat) (x : Int) (v : Nat) : Int → Nat := fun y => if y = x then v else f y
theorem lit_inj {a b : Int} (h : (DataW.lit (.int .i64 a) : DataW Unit) = .lit (.int .i64 b)) : a = b := by injection h with h; injection h with _ h
theorem isMap_put {D : DataW Unit} {f : Int → Nat} {x : Int} {v : Nat} (hD : IsMap D) (h3 : ∀ h : Int, D.atKey (.int .i64 h) (.lit (.int .i64 0)) = .lit (.int .i64 (f h : Int))) :
    ∀ h : Int, (D.put (.int .i64 x) (.lit (.int .i64 (v : Int)))).atKey (.int .i64 h) (.lit (.int .i64 0)) = .lit (.int .i64 (setF f x v h : Int)) := by
  intro h
  unfold setF
  by_cases he : h = x
  · subst he; rw [if_pos rfl]; exact atKey_put_same hD (by unfold WideAt.IsKeyLit; trivial) _ _
  · rw [if_neg he, atKey_put_other (by intro e; injection e with _ e; exact he e)]; exact h3 h
/-- A store. -/
theorem IMap.update (h : IMap P k e b n f w) (ht : P.underlying t = some (.map k e)) (hk : P.underlying k = some (.int .i64)) (he : P.underlying e = some (.int .i64)) (hn : n < maxLen) (x : Int) (v : Nat) (hx : (Lit.int .i64 x).wf = true) (hv : (Lit.int .i64 (v : Int)).wf = true) :
    ∃ w', (Instr.mapUpdate t (.map (some b)) (.int .i64 x) (.int .i64 (v : Int))).run P w = .ok () w' ∧ IMap P k e b (n + 1) (setF f x v) w' ∧ w.grownBy w' (some b) := by
  obtain ⟨D, h1, h2, h3⟩ := h
  obtain ⟨w', hrun, r1, r2⟩ := h1.update (int_keyed hk) ht hn (keyOf_int_mk hk hx) (plainElem_int he hv)
  exact ⟨w', hrun, ⟨_, r1, h2.put _ _, isMap_put h2 h3⟩, r2⟩
/-- A look. -/
theorem IMap.look (h : IMap P k e b n f w) (ht : P.underlying t = some (.map k e)) (hk : P.underlying k = some (.int .i64)) (he : P.underlying e = some (.int .i64)) (hz : (zeroValue e).run P w = .ok (.int .i64 0) w) (x : Int) (hx : (Lit.int .i64 x).wf = true) :
    (Instr.lookup t (.map (some b)) (.int .i64 x) false).run P w = .ok (.int .i64 (f x : Int)) w := by
  obtain ⟨D, h1, h2, h3⟩ := h
  obtain ⟨c, hrun, hat, _⟩ := h1.lookup_int (int_keyed hk) ht he hz (keyOf_int_mk hk hx)
  rw [h3 x] at hat
  rw [lit_inj hat]
  exact hrun
end
end Go.Proofs.YtgnooffedmeenaaGreatDoor

namespace Go.Proofs.YtgnooffedmeenaaGreatDoor
open Go.RowKit Go.Maps

/-- Block b is a map of at most n keys; each text has what f says. -/
def SMap (P : Program) (k e : TypeId) (b n : Nat) (f : List UInt8 → Nat) (w : World) : Prop :=
  ∃ D : DataW Unit, w.ownsMap P k (plainElem P e) b n D ∧ IsMap D ∧ ∀ s : List UInt8, D.atKey (.string s) (.lit (.int .i64 0)) = .lit (.int .i64 (f s : Int))
section
variable {P : Program} {k e t : TypeId} {b n : Nat} {f : List UInt8 → Nat} {w w' : World}
theorem SMap.new (P : Program) (k e : TypeId) (w : World) : SMap P k e w.heap.size 0 (fun _ => 0) (w.alloc (.map #[] 0)) :=
  ⟨.map [], World.ownsMap_made w P k _, isMap_empty, fun _ => rfl⟩
theorem SMap.lt (h : SMap P k e b n f w) : b < w.heap.size := by obtain ⟨_, h, _⟩ := h; exact h.lt
theorem SMap.obj (h : SMap P k e b n f w) : ∃ es c, w.heap[b]? = some (.map es c) := by
  obtain ⟨_, ⟨es, c, hb, _⟩, _⟩ := h
  exact ⟨es, c, hb⟩
theorem SMap.grown {row : Option Nat} (h : SMap P k e b n f w) (hg : w.grownBy w' row) (hne : some b ≠ row) : SMap P k e b n f w' := by
  obtain ⟨D, h1, h2, h3⟩ := h
  exact ⟨D, h1.kept hg hne, h2, h3⟩
theorem SMap.keep {O : Nat → Prop} (h : SMap P k e b n f w) (hk : Keep O w w') (hb : ¬ O b) : SMap P k e b n f w' := by
  obtain ⟨D, ⟨es, c, h0, hr⟩, h2, h3⟩ := h
  exact ⟨D, ⟨es, c, (hk.block b (Array.getElem?_eq_some_iff.1 h0).1 hb).trans h0, hr⟩, h2, h3⟩
theorem SMap.mono {m : Nat} (h : SMap P k e b n f w) (hm : n ≤ m) : SMap P k e b m f w := by
  obtain ⟨D, h1, h2, h3⟩ := h
  exact ⟨D, h1.mono hm, h2, h3⟩
theorem SMap.congr {g : List UInt8 → Nat} (h : SMap P k e b n f w) (hg : ∀ x, g x = f x) : SMap P k e b n g w := by
  obtain ⟨D, h1, h2, h3⟩ := h
  exact ⟨D, h1, h2, fun x => by rw [hg]; exact h3 x⟩
/-- What a store makes of f. -/
def setS (f : List UInt8 → Nat) (x : List UInt8) (v : Nat) : List UInt8 → Nat := fun y => if y = x then v else f y
theorem isMap_putS {D : DataW Unit} {f : List UInt8 → Nat} {x : List UInt8} {v : Nat} (hD : IsMap D) (h3 : ∀ h : List UInt8, D.atKey (.string h) (.lit (.int .i64 0)) = .lit (.int .i64 (f h : Int))) :
    ∀ h : List UInt8, (D.put (.string x) (.lit (.int .i64 (v : Int)))).atKey (.string h) (.lit (.int .i64 0)) = .lit (.int .i64 (setS f x v h : Int)) := by
  intro h
  unfold setS
  by_cases he : h = x
  · subst he; rw [if_pos rfl]; exact atKey_put_same hD (by unfold WideAt.IsKeyLit; trivial) _ _
  · rw [if_neg he, atKey_put_other (by intro e; injection e with e; exact he e)]; exact h3 h
theorem keyOf_str {P : Program} {k : TypeId} (hk : P.underlying k = some .string) {S : ByteArray} (hs : S.size ≤ maxLen) : keyOf P k (.string S) = some (.string S.data.toList) := by
  simp [keyOf, hk, mapKey, hs]
/-- A store. -/
theorem SMap.update (h : SMap P k e b n f w) (ht : P.underlying t = some (.map k e)) (hk : P.underlying k = some .string) (he : P.underlying e = some (.int .i64)) (hn : n < maxLen) (S : ByteArray) (v : Nat) (hx : S.size ≤ maxLen) (hv : (Lit.int .i64 (v : Int)).wf = true) :
    ∃ w', (Instr.mapUpdate t (.map (some b)) (.string S) (.int .i64 (v : Int))).run P w = .ok () w' ∧ SMap P k e b (n + 1) (setS f S.data.toList v) w' ∧ w.grownBy w' (some b) := by
  obtain ⟨D, h1, h2, h3⟩ := h
  obtain ⟨w', hrun, r1, r2⟩ := h1.update (string_keyed hk) ht hn (keyOf_str hk hx) (plainElem_int he hv)
  exact ⟨w', hrun, ⟨_, r1, h2.put _ _, isMap_putS h2 h3⟩, r2⟩
/-- A look. -/
theorem SMap.look (h : SMap P k e b n f w) (ht : P.underlying t = some (.map k e)) (hk : P.underlying k = some .string) (he : P.underlying e = some (.int .i64)) (hz : (zeroValue e).run P w = .ok (.int .i64 0) w) (S : ByteArray) (hx : S.size ≤ maxLen) :
    (Instr.lookup t (.map (some b)) (.string S) false).run P w = .ok (.int .i64 (f S.data.toList : Int)) w := by
  obtain ⟨D, h1, h2, h3⟩ := h
  obtain ⟨c, hrun, hat, _⟩ := h1.lookup_int (string_keyed hk) ht he hz (keyOf_str hk hx)
  rw [h3 S.data.toList] at hat
  rw [lit_inj hat]
  exact hrun
end
end Go.Proofs.YtgnooffedmeenaaGreatDoor

namespace Go.Proofs.YtgnooffedmeenaaGreatDoor.I
open Go.RowKit Go.Shelf W
attribute [local go_sem] Oper.semAt_some

/-- The name of a number. -/
def nmx (fs : List FE) (x : Nat) : List UInt8 := (fnI fs x).1.S.data.toList
/-- How often a name has come, if none came twice. -/
def cntF (fs : List FE) (pre : List Nat) (s : List UInt8) : Nat := if s ∈ pre.map (nmx fs) then 1 else 0
theorem cntF_new {fs : List FE} {pre : List Nat} {x : Nat} : ∀ s, cntF fs (pre ++ [x]) s = setS (cntF fs pre) (nmx fs x) 1 s := by
  intro s
  unfold cntF setS
  by_cases e : s = nmx fs x
  · subst e; simp
  · rw [if_neg e]; simp [e]
theorem nodup_new {fs : List FE} {pre : List Nat} {x : Nat} (h : nmx fs x ∉ pre.map (nmx fs)) (hp : (pre.map (nmx fs)).Nodup) : ((pre ++ [x]).map (nmx fs)).Nodup := by
  rw [List.map_append, List.nodup_append]
  refine ⟨hp, by simp, ?_⟩
  intro a ha b hb
  simp at hb
  subst hb
  rintro rfl
  exact h ha
theorem names_range {fs : List FE} {n : Nat} (hn : fs.length = n) (hN : ∀ e ∈ fs, e.1.S.data.toList = e.2.nm) : (List.range n).map (nmx fs) = names (imOf [] fs) := by
  apply List.ext_getElem?
  intro i
  unfold names imOf nmx
  by_cases h : i < fs.length
  · rw [List.getElem?_map, List.getElem?_range (by omega)]
    simp [fnI_at h, h, hN _ (List.getElem_mem h)]
  · rw [List.getElem?_eq_none (by simp; omega), List.getElem?_eq_none (by simp; omega)]
theorem rd_grown {W W' : World} {A : Option Addr} {xs : List Value} {mb : Nat} {es : Array MapEntry} {c : Nat} (hg : W.grownBy W' (some mb)) (hm : W.heap[mb]? = some (.map es c)) (hr : Rd W A xs) : Rd W' A xs := fun h0 => by
  obtain ⟨g, off, e, hc⟩ := hr h0
  refine ⟨g, off, e, fun j u hu => ?_⟩
  have h1 := hc j u hu
  have hne : g ≠ mb := by
    rintro rfl
    unfold World.cell? at h1
    simp [hm] at h1
  exact (World.cell?_of_block (hg.block g (World.block_lt_of_cell? W _ h1) (by simp [hne]))).trans h1
theorem blk_grown_map {W W' : World} {mb g : Nat} {t : TypeId} {cs : Array Value} {es : Array MapEntry} {c : Nat} (hg : W.grownBy W' (some mb)) (hm : W.heap[mb]? = some (.map es c)) (h : Blk W g t cs) : Blk W' g t cs :=
  h.grown hg (fun e => by
    cases e
    unfold Blk at h
    rw [hm] at h; cases h)
/-- What the loop keeps. -/
def ApI (w : World) (b : Nat) (fs : List FE) (pre : List Nat) (W : World) : Prop :=
  (Blk W (b + 1) 4 #[.bool false] ∧ Blk W (b + 1 + 1 + 1) 111 #[.map (some (b + 1 + 1))]) ∧ SMap Tryz.prog 9 3 (b + 1 + 1) pre.length (cntF fs pre) W ∧ Keep NoB w W ∧ (pre.map (nmx fs)).Nodup
/-- Where it is left: a name came twice. -/
def ApX (w : World) (b : Nat) (fs : List FE) (c : Code) (pre : List Nat) (W : World) : Prop :=
  c = .ret ∧ Blk W (b + 1) 4 #[.bool false] ∧ Keep NoB w W ∧ ¬ (pre.map (nmx fs)).Nodup
def ApA (v : IV) (fs : List FE) (b : Nat) (x : Nat) (Bo : Nat) : Act :=
  { tmps := #[v.val, .pointer (some ⟨b, 0, none⟩), .pointer (some ⟨b + 1, 0, none⟩), .pointer (some ⟨b + 1 + 1 + 1, 0, none⟩), undef, .pointer (some ⟨Bo, 0, none⟩), .map (some (b + 1 + 1)), v.val, .func (.func 195) #[] #[.pointer (some ⟨b + 1 + 1 + 1 + 1, 0, none⟩)], .int .i64 (x : Int), (fnI fs x).1.val, undef, undef, undef, undef, undef, undef, undef, undef, undef, undef], defers := [] }
theorem apI_own {w : World} {b B : Nat} {fs : List FE} (hb : b + 4 ≤ B) (hB : w.heap.size ≤ B) : OwnFrom B (ApI w b fs) := by
  intro s X Y row ⟨⟨h1, h2⟩, h3, h4, h5⟩ hg hrow
  exact ⟨⟨O.blk_own (β := Unit) _ _ _ (fun _ => _) () _ _ _ h1 hg hrow, O.blk_own (β := Unit) _ _ _ (fun _ => _) () _ _ _ h2 hg hrow⟩, h3.grown hg (fun e => by have := (hrow _ e.symm).1; omega), O.keep_own (β := Unit) _ hB () _ _ _ h4 hg hrow, h5⟩
theorem apX_own {w : World} {b B : Nat} {fs : List FE} (hB : w.heap.size ≤ B) (c : Code) : OwnFrom B (fun (pre : List Nat) W => ApX w b fs c pre W) := by
  intro s X Y row ⟨h0, h1, h4, h5⟩ hg hrow
  exact ⟨h0, O.blk_own (β := Unit) _ _ _ (fun _ => _) () _ _ _ h1 hg hrow, O.keep_own (β := Unit) _ hB () _ _ _ h4 hg hrow, h5⟩
theorem met_zero (w : World) : (zeroValue 3).run Tryz.prog w = .ok (.int .i64 0) w := Tryz.zeroValue3 w
theorem not_nodup_range {fs : List FE} {k n : Nat} (hk : k ≤ n) (h : ¬ ((List.range k).map (nmx fs)).Nodup) : ¬ ((List.range n).map (nmx fs)).Nodup := by
  intro h2
  refine h (List.Nodup.sublist ?_ h2)
  exact (List.range_sublist.2 hk).map _
theorem blk_putObj {W : World} {g D : Nat} {t : TypeId} {cs : Array Value} {o o' : Obj} (h : Blk W g t cs) (hl : W.heap[D]? = some o) (ho : o.isCells = false) : Blk (W.putObj D o') g t cs := by
  have hne : g ≠ D := by
    rintro rfl
    unfold Blk at h
    rw [hl] at h; cases h; cases ho
  exact (World.putObj_heap_other hne).trans h
theorem run_bool {w : World} {g : Nat} {u : Bool} (h : Blk w g 4 #[.bool u]) : (loadVar 4 ⟨g, 0, none⟩).run Tryz.prog w = .ok (.bool u) w := by
  have ha : (isAgg 4).run Tryz.prog w = .ok false w := Tryz.isAgg4 w
  have hc : w.cell? ⟨g, 0, none⟩ = some (.bool u) := h.cell 0
  simp [loadVar, ha, hc]

set_option maxRecDepth 100000 in
set_option maxHeartbeats 4000000 in
theorem apart_any (v : IV) (es : List SE) (fs : List FE) (w : World) (h : ImAt w v es fs) (hn : v.ny ≤ 1000) (hf : ∀ e ∈ fs, e.1.S.size ≤ 140737488355328) (R : Bool) (hR : Hid (decide ((names (imOf [] fs)).Nodup) = R)) :
    Calls Tryz.prog 58 #[v.val] w fun e w' => e = .returned (.bool R) ∧ Keep NoB w w' := by
  have hly := h.ly
  have HR := Lib.hid (fun W (hk : Keep NoB w W) => h.ry.keepN hk)
  have HN := Lib.hid (names_range hly (fun e he => (h.hf e he).nm))
  have HSZ : Hid (∀ x, (fnI fs x).1.S.size ≤ maxLen) := fun x => by
    by_cases hx : x < fs.length
    · rw [fnI_at hx]; have := hf _ (List.getElem_mem hx); unfold maxLen; omega
    · unfold fnI; rw [List.getElem?_eq_none (by omega)]; exact Nat.zero_le _
  clear h hf
  refine (callsIn_wide (n := 4)).1 ?_
  refine callsIn_of_wp_marks Tryz.func58 rfl trivial ?_ rfl
  have hmm := @run_makeMap Tryz.prog
  have hst := Lib.hid (fun m hm b w hx hr => each_stops m hm b v fs hly hn w hx hr)
  have he1 := Lib.hid (fun m w => each_any m v w)
  have hkk := ((((Keep.refl NoB w).alloc (.cells v.cells 25)).alloc (.cells #[.bool false] 4)).alloc (.map #[] 0)).alloc (.cells #[.map (some (w.heap.size + 1 + 1))] 111)
  have hs := (((Blk.new (w.alloc (.cells v.cells 25)) 4 #[.bool false]).alloc (.map #[] 0)).alloc (.cells #[.map (some (w.heap.size + 1 + 1))] 111)).alloc (.cells v.cells 25)
  have hm0 := SMap.new Tryz.prog 9 3 ((w.alloc (.cells v.cells 25)).alloc (.cells #[.bool false] 4))
  simp only [World.size_alloc] at hm0
  have hm1 := hm0.keep (O := NoB) (((Keep.refl NoB _).alloc (.cells #[.map (some (w.heap.size + 1 + 1))] 111)).alloc (.cells v.cells 25)) id
  have hb3 := (Blk.new (((w.alloc (.cells v.cells 25)).alloc (.cells #[.bool false] 4)).alloc (.map #[] 0)) 111 #[.map (some (w.heap.size + 1 + 1))]).alloc (.cells v.cells 25)
  have hi5 := Blk.new ((((w.alloc (.cells v.cells 25)).alloc (.cells #[.bool false] 4)).alloc (.map #[] 0)).alloc (.cells #[.map (some (w.heap.size + 1 + 1))] 111)) 25 v.cells
  simp only [World.size_alloc] at hs hb3 hi5
  have hK := hkk.alloc (.cells v.cells 25)
  have hr5 := HR.out _ hK
  have hI0 : ApI w w.heap.size fs [] _ := ⟨⟨hs, hb3⟩, hm1.congr (fun x => by simp [cntF]), hK, by simp⟩
  have HI0 := Lib.hid hI0
  have HX5 := Lib.hid hi5
  have HR5 := Lib.hid hr5
  clear hs hm0 hm1 hb3 hi5 hkk hK hr5 hI0
  obtain ⟨X, nx, cx, Y, ny, cy⟩ := v
  dsimp only [IV.val, IV.cells] at *
  simp only [Tryz.ntmps58, List.size_toArray, List.length_cons, List.length_nil, Nat.reduceAdd, Nat.reduceSub, Array.replicate_succ, Array.replicate_zero, List.push_toArray, List.append_toArray, List.nil_append, List.cons_append]
  gi_wp2_with (refine ⟨trivial, ?_⟩; gi_at_call 126; refine (he1.out _ _).mono ?_; rintro e w1 ⟨rfl, rfl⟩)
  refine wpIn_rangeFunc_ownH rfl (by omega) (gf := 195) (lb := #[.pointer (some ⟨w.heap.size + 1 + 1 + 1 + 1, 0, none⟩)]) rfl trivial (enters_of Tryz.func195 (by kernel_rfl) rfl)
    (hst.out _ (by omega) _ _ HX5.out HR5.out) FsK.trans (fun W l o o' _ hl ho _ => FsK.putObj W l o o' hl ho) (Below.refl _ _) (fun _ => rfl)
    (ApI w w.heap.size fs) (fun c pre W => ApX w w.heap.size fs c pre W) (apI_own (by simp) (by simp; omega)) (fun c => apX_own (by simp; omega) c) HI0.out
    (fun x a' W => ∃ Bo, Blk W Bo 37 (fnI fs x).1.cells ∧ a' = ApA ⟨X, nx, cx, Y, ny, cy⟩ fs w.heap.size x Bo) ?hax ?assign ?body ?done ?stop
  case hax =>
    rintro x a' s X Y row ⟨Bo, h1, h2⟩ hg hrow
    exact ⟨Bo, O.blk_own (β := Unit) _ _ _ (fun _ => _) () _ _ _ h1 hg hrow, h2⟩
  case assign =>
    intro l pre x W K hi hK
    have HI := Lib.hid (fun W' hk => apI_own (w := w) (b := w.heap.size) (fs := fs) (B := w.heap.size + 4) (Nat.le_refl _) (by omega) pre W W' none hi (Keep.grows hk) (fun r e => by cases e))
    have HB1 := Lib.hid (Blk.new W 37 (fnI fs x).1.cells)
    have HK2 := Lib.hid (fun a' W' h1 h2 h3 h4 => hK a' W' h1 h2 h3 h4)
    unfold ApA at HK2
    dsimp only [eaA]
    clear hi
    generalize fnI fs x = e at *
    obtain ⟨⟨S1, A1, na1, ca1, B1, nb1, cb1, L1, nl1, cl1, D1, nd1, cd1⟩, f⟩ := e
    dsimp only [F.FV.val, F.FV.cells, IV.val, IV.cells] at *
    clear hK
    gi_wp2
    exact HK2.out _ _ (keepsFrom_keep ((Keep.refl NoB W).alloc _)) (fun h => h.keepN ((Keep.refl NoB W).alloc _)) (HI.out _ ((Keep.refl NoB W).alloc _)) ⟨_, HB1.out, rfl⟩
  case body =>
    rintro l pre x a' W hl _ ⟨⟨hs, hm3⟩, hM, hK, hnd⟩ ⟨Bo, hb, rfl⟩ hlt
    have cb : W.cell? ⟨Bo, 0, none⟩ = some (.string (fnI fs x).1.S) := hb.cell 0
    have cm : W.cell? ⟨w.heap.size + 1 + 1 + 1, 0, none⟩ = some (.map (some (w.heap.size + 1 + 1))) := hm3.cell 0
    have hsz := HSZ.out x
    obtain ⟨em, cmc, hobj⟩ := hM.obj
    dsimp only [ApA, IV.val, IV.cells]
    have hzs := hs.lt
    by_cases hx : nmx fs x ∈ pre.map (nmx fs)
    · have e1 : cntF fs pre (fnI fs x).1.S.data.toList = 1 := if_pos hx
      have hlk := hM.look (t := 111) Tryz.underlying111 Tryz.underlying9 Tryz.underlying3 (met_zero _) (fnI fs x).1.S hsz
      obtain ⟨w5, hup, hM5, hg5⟩ := hM.update (t := 111) Tryz.underlying111 Tryz.underlying9 Tryz.underlying3 (by unfold maxLen; omega) (fnI fs x).1.S 2 hsz (by decide)
      have hlk5 := hM5.look (t := 111) Tryz.underlying111 Tryz.underlying9 Tryz.underlying3 (met_zero _) (fnI fs x).1.S hsz
      have e2 : setS (cntF fs pre) (fnI fs x).1.S.data.toList 2 (fnI fs x).1.S.data.toList = 2 := if_pos rfl
      rw [e1, show ((1 : Nat) : Int) = 1 from rfl] at hlk
      rw [e2, show ((2 : Nat) : Int) = 2 from rfl] at hlk5
      rw [show ((2 : Nat) : Int) = 2 from rfl] at hup
      have cb5 := (blk_grown_map hg5 hobj hb).cell 0
      have cm5 := (blk_grown_map hg5 hobj hm3).cell 0
      have hs5 := blk_grown_map hg5 hobj hs
      have hs6 := hs5.put 0 (.bool false)
      have fz := fun i => hs5.frozen i
      have c5 := hs5.cell 0
      have hzs5 := hs5.lt
      have HX : Hid (ApX w w.heap.size fs .ret (pre ++ [x]) (w5.setCell ⟨w.heap.size + 1, 0, none⟩ (.bool false))) :=
        ⟨rfl, hs6, (hK.grown hg5 (fun g e hl => by cases e; omega)).setCell (fun h => absurd h (by simp)) _, fun h => by
          rw [List.map_append, List.nodup_append] at h
          exact h.2.2 _ hx _ (by simp) rfl⟩
      have HKF : Hid (KeepsFrom (w.heap.size + 1 + 1 + 1 + 1 + 1) W (w5.setCell ⟨w.heap.size + 1, 0, none⟩ (.bool false))) :=
        ⟨by have := hg5.size; simpa [World.setCell] using this, fun k o hk1 hk2 hk3 => (Below.heap_setCell _ _ _ _ (by show k ≠ w.heap.size + 1; omega)).trans ((hg5.block k (Array.getElem?_eq_some_iff.1 hk2).1 (by simp; omega)).trans hk2)⟩
      simp only [F.FV.cells, List.getElem?_toArray, List.getElem?_cons_zero] at cb5 cm5 c5
      clear hM hM5 hs hm3 hb hs5 hs6 hK hg5 hobj hnd e1 e2 hx
      generalize fnI fs x = e at *
      obtain ⟨⟨S1, A1, na1, ca1, B1, nb1, cb1, L1, nl1, cl1, D1, nd1, cd1⟩, f⟩ := e
      dsimp only [F.FV.val, F.FV.cells] at *
      gi_wp2
      exact ⟨by simpa using HKF.out, HX.out⟩
    · have e1 : cntF fs pre (fnI fs x).1.S.data.toList = 0 := if_neg hx
      have hlk := hM.look (t := 111) Tryz.underlying111 Tryz.underlying9 Tryz.underlying3 (met_zero _) (fnI fs x).1.S hsz
      obtain ⟨w5, hup, hM5, hg5⟩ := hM.update (t := 111) Tryz.underlying111 Tryz.underlying9 Tryz.underlying3 (by unfold maxLen; omega) (fnI fs x).1.S 1 hsz (by decide)
      have hlk5 := hM5.look (t := 111) Tryz.underlying111 Tryz.underlying9 Tryz.underlying3 (met_zero _) (fnI fs x).1.S hsz
      have e2 : setS (cntF fs pre) (fnI fs x).1.S.data.toList 1 (fnI fs x).1.S.data.toList = 1 := if_pos rfl
      rw [e1, show ((0 : Nat) : Int) = 0 from rfl] at hlk
      rw [e2, show ((1 : Nat) : Int) = 1 from rfl] at hlk5
      rw [show ((1 : Nat) : Int) = 1 from rfl] at hup
      have cb5 := (blk_grown_map hg5 hobj hb).cell 0
      have cm5 := (blk_grown_map hg5 hobj hm3).cell 0
      have HX : Hid (ApI w w.heap.size fs (pre ++ [x]) w5) :=
        ⟨⟨blk_grown_map hg5 hobj hs, blk_grown_map hg5 hobj hm3⟩, by
          have := hM5.congr (g := cntF fs (pre ++ [x])) cntF_new
          rwa [show pre.length + 1 = (pre ++ [x]).length by simp] at this, hK.grown hg5 (fun g e hl => by cases e; omega), nodup_new hx hnd⟩
      have HKF : Hid (KeepsFrom (w.heap.size + 1 + 1 + 1 + 1 + 1) W w5 ∧ FsK Y fs W w5) :=
        ⟨⟨hg5.size, fun k o hk1 hk2 hk3 => (hg5.block k (Array.getElem?_eq_some_iff.1 hk2).1 (by simp; omega)).trans hk2⟩, fun hr => rd_grown hg5 hobj hr⟩
      simp only [F.FV.cells, List.getElem?_toArray, List.getElem?_cons_zero] at cb5 cm5
      clear hM hM5 hs hm3 hb hK hg5 hobj hnd e1 e2 hx
      generalize fnI fs x = e at *
      obtain ⟨⟨S1, A1, na1, ca1, B1, nb1, cb1, L1, nl1, cl1, D1, nd1, cd1⟩, f⟩ := e
      dsimp only [F.FV.val, F.FV.cells] at *
      gi_wp2
      exact ⟨by simpa using HKF.out.1, HKF.out.2, HX.out⟩
  case done =>
    rintro D ys W hD rfl ⟨⟨hs, hm3⟩, hM, hK, hnd⟩ hDf
    rw [HN.out] at hnd
    obtain rfl : true = R := by rw [← hR.out, decide_eq_true hnd]
    have hs6 := hs.put 0 (.bool true)
    have fz := fun i => hs.frozen i
    have c5 : W.cell? ⟨w.heap.size + 1, 0, none⟩ = some (.bool false) := hs.cell 0
    have hK6 := hK.setCell (p := ⟨w.heap.size + 1, 0, none⟩) (fun h => absurd h (by simp)) (.bool true)
    have hDf6 := (Below.heap_setCell W ⟨w.heap.size + 1, 0, none⟩ (.bool true) D (by show D ≠ w.heap.size + 1; simp at hD; omega)).trans hDf
    have HS6 := Lib.hid hs6
    clear hs hm3 hM hnd hK hs6
    gi_wp2
    refine ⟨by simp, .inl ⟨_, _, rfl, run_takeDeferred hDf6, ?_⟩⟩
    exact ⟨_, O.results_cell rfl rfl (run_bool (blk_putObj HS6.out hDf6 rfl)), rfl, O.Keep_putObj hK6 (by simp at hD; omega)⟩
  case stop =>
    rintro D c pre W hD ⟨k, hk, rfl⟩ ⟨rfl, hs, hK, hnd⟩ hDf
    have hnd2 := not_nodup_range hk hnd
    rw [HN.out] at hnd2
    obtain rfl : false = R := by rw [← hR.out, decide_eq_false hnd2]
    gi_wp2
    refine ⟨by simp, .inl ⟨_, _, rfl, run_takeDeferred hDf, ?_⟩⟩
    exact ⟨_, O.results_cell rfl rfl (run_bool (blk_putObj hs hDf rfl)), rfl, O.Keep_putObj hK (by simp at hD; omega)⟩

end Go.Proofs.YtgnooffedmeenaaGreatDoor.I

namespace Go.Proofs.YtgnooffedmeenaaGreatDoor.I
open Go.RowKit W

theorem okI_parts (es : List SE) (fs : List FE) : okI (imOf es fs) = (mayS es && (mayF fs && decide ((names (imOf [] fs)).Nodup))) := by
  have hn : names (imOf es fs) = names (imOf [] fs) := rfl
  rw [Bool.eq_iff_iff, okI_iff, hn]
  simp only [Bool.and_eq_true, mayS, mayF, decide_eq_true_eq]
  have e1 : (imOf es fs).sh.all S.okS = es.all fun e => S.okS e.2 := by simp [imOf, List.all_map, Function.comp_def]
  have e2 : (imOf es fs).fn.all F.okF = fs.all fun e => F.okF e.2 := by simp [imOf, List.all_map, Function.comp_def]
  have e3 : (imOf es fs).sh.length = es.length := by simp [imOf]
  have e4 : (imOf es fs).fn.length = fs.length := by simp [imOf]
  rw [e1, e2, e3, e4]
  constructor
  · rintro ⟨⟨a, ⟨b, c⟩, d⟩, e, f⟩
    exact ⟨⟨⟨Nat.zero_le _, a⟩, e⟩, ⟨⟨b, c⟩, f⟩, d⟩
  · rintro ⟨⟨⟨_, a⟩, e⟩, ⟨⟨b, c⟩, f⟩, d⟩
    exact ⟨⟨a, ⟨b, c⟩, d⟩, e, f⟩

set_option maxRecDepth 100000 in
set_option maxHeartbeats 8000000 in
theorem check_any (v : IV) (es : List SE) (fs : List FE) (w : World) (h : ImAt w v es fs) (hl : LgI v es fs) (R : Int) (hR : Hid (chkI (imOf es fs) = R)) :
    Calls Tryz.prog 30 #[v.val] w fun e w' => e = .returned (.int .i64 R) ∧ Keep NoB w w' := by
  have bx := Blk.new w 25 v.cells
  have k0 := (Keep.refl NoB w).alloc (.cells v.cells 25)
  have hlx := h.lx
  have hly := h.ly
  have HS := Lib.hid (fun W (hk : Keep NoB w W) => mayS_any v.X es v.nx v.cx W (fun W' hk' => (h.keepN (keepN hk hk')).rx) hlx (by have := hl.nx; omega) (fun e he W' hk' => S.chkS_any e.1.A e.2 e.1.n e.1.c W' ((h.keepN (keepN hk hk')).hs e he).1 (h.hs e he).2 (by have := hl.sh e he; omega) _ rfl))
  have HF := Lib.hid (fun W (hk : Keep NoB w W) => mayF_any v.Y fs v.ny v.cy W (fun W' hk' => (h.keepN (keepN hk hk')).ry) hly (by have := hl.ny; omega) (fun e he W' hk' => F.checkL_any e.1 e.2 W' ((h.keepN (keepN hk hk')).hf e he) (hl.fn e he) _ rfl))
  have HA : Hid (mayF fs = true → ∀ W, Keep NoB w W → Calls Tryz.prog 58 #[v.val] W fun e w' => e = .returned (.bool (decide ((names (imOf [] fs)).Nodup))) ∧ Keep NoB W w') := fun hm W hk =>
    apart_any v es fs W (h.keepN hk) (by unfold mayF at hm; rw [Bool.and_eq_true, decide_eq_true_eq] at hm; omega) (fun e he => (hl.fn e he).sz) _ rfl
  have HR : Hid (chkI (imOf es fs) = if (mayS es && (mayF fs && decide ((names (imOf [] fs)).Nodup))) = true then 0 else 80) := by show _ = _; unfold chkI; rw [okI_parts]
  obtain ⟨q0, q1⟩ := blk2 bx
  clear h hl bx hlx hly
  obtain ⟨X, nx, cx, Y, ny, cy⟩ := v
  dsimp only [IV.val, IV.cells] at *
  generalize hw1 : w.alloc (.cells #[.slice X nx cx, .slice Y ny cy] 25) = w1 at k0 q0 q1
  have HP := Lib.hid (fun (n : KW w1) => keepN k0 n.keep)
  have z0 : ∀ n : KW w1, n.w.cell? ⟨w.heap.size, 0, none⟩ = some (.slice X nx cx) := fun n => n.keep.cell q0 id
  have z1 : ∀ n : KW w1, n.w.cell? ⟨w.heap.size, 1, none⟩ = some (.slice Y ny cy) := fun n => n.keep.cell q1 id
  generalize decide ((names (imOf [] fs)).Nodup) = bA at *
  cases hs : mayS es
  · rw [hs] at HS HR
    obtain rfl : 80 = R := by rw [← hR.out, HR.out]; rfl
    clear hR HR HF HA hs
    go_enter Tryz.func30, Tryz.ntmps30
    go_wp2_with fail
    clear hw1
    refine wp_region_kept w1 (by kernel_rfl) (by kernel_rfl) (Keep.refl NoB w1) ?_
    repeat (go_big_quiet_step (first | (go_at_call 55; exact kept_of (partsS_any _)) | (go_at_call 54; exact kept_of (HS.out _ (HP.out _)))))
    refine wpQuiet_nil ?_
    rintro _ ⟨n9, rfl⟩
    have hk9 := n9.keep
    generalize n9.w = w9 at hk9 ⊢
    have hK9 := keepN k0 hk9
    go_wp2
    go_ret
    exact ⟨rfl, hK9⟩
  · rw [hs] at HS HR
    cases hf : mayF fs
    · rw [hf] at HF HR
      obtain rfl : 80 = R := by rw [← hR.out, HR.out]; rfl
      clear hR HR HA hs hf
      go_enter Tryz.func30, Tryz.ntmps30
      go_wp2_with fail
      clear hw1
      refine wp_region_kept w1 (by kernel_rfl) (by kernel_rfl) (Keep.refl NoB w1) ?_
      repeat (go_big_quiet_step (first | (go_at_call 55; exact kept_of (partsS_any _)) | (go_at_call 54; exact kept_of (HS.out _ (HP.out _))) | (go_at_call 57; exact kept_of (partsF_any _)) | (go_at_call 56; exact kept_of (HF.out _ (HP.out _)))))
      refine wpQuiet_nil ?_
      rintro _ ⟨n9, rfl⟩
      have hk9 := n9.keep
      generalize n9.w = w9 at hk9 ⊢
      have hK9 := keepN k0 hk9
      go_wp2
      go_ret
      exact ⟨rfl, hK9⟩
    · have HA2 := Lib.hid (HA.out hf)
      rw [hf] at HF HR
      cases bA
      · obtain rfl : 80 = R := by rw [← hR.out, HR.out]; rfl
        clear hR HR HA hs hf
        go_enter Tryz.func30, Tryz.ntmps30
        go_wp2_with fail
        clear hw1
        refine wp_region_kept w1 (by kernel_rfl) (by kernel_rfl) (Keep.refl NoB w1) ?_
        repeat (go_big_quiet_step (first | (go_at_call 55; exact kept_of (partsS_any _)) | (go_at_call 54; exact kept_of (HS.out _ (HP.out _))) | (go_at_call 57; exact kept_of (partsF_any _)) | (go_at_call 56; exact kept_of (HF.out _ (HP.out _))) | (go_at_call 58; exact kept_of (HA2.out _ (HP.out _)))))
        refine wpQuiet_nil ?_
        rintro _ ⟨n9, rfl⟩
        have hk9 := n9.keep
        generalize n9.w = w9 at hk9 ⊢
        have hK9 := keepN k0 hk9
        go_wp2
        go_ret
        exact ⟨rfl, hK9⟩
      · obtain rfl : 0 = R := by rw [← hR.out, HR.out]; rfl
        clear hR HR HA hs hf
        go_enter Tryz.func30, Tryz.ntmps30
        go_wp2_with fail
        clear hw1
        refine wp_region_kept w1 (by kernel_rfl) (by kernel_rfl) (Keep.refl NoB w1) ?_
        repeat (go_big_quiet_step (first | (go_at_call 55; exact kept_of (partsS_any _)) | (go_at_call 54; exact kept_of (HS.out _ (HP.out _))) | (go_at_call 57; exact kept_of (partsF_any _)) | (go_at_call 56; exact kept_of (HF.out _ (HP.out _))) | (go_at_call 58; exact kept_of (HA2.out _ (HP.out _)))))
        refine wpQuiet_nil ?_
        rintro _ ⟨n9, rfl⟩
        have hk9 := n9.keep
        generalize n9.w = w9 at hk9 ⊢
        have hK9 := keepN k0 hk9
        go_wp2
        go_ret
        exact ⟨rfl, hK9⟩

end Go.Proofs.YtgnooffedmeenaaGreatDoor.I

namespace Go.Proofs.YtgnooffedmeenaaGreatDoor.M.L
open Go.RowKit W

def cutV (b : Bool) (v : I.IV) : I.IV := if b = true then v else I.nilW
def cutE (b : Bool) (es : List I.SE) : List I.SE := if b = true then es else []
def cutF (b : Bool) (fs : List I.FE) : List I.FE := if b = true then fs else []
theorem cut_im {b : Bool} {w : World} {v : I.IV} {es : List I.SE} {fs : List I.FE} (h : I.ImAt w v es fs) : I.ImAt w (cutV b v) (cutE b es) (cutF b fs) := by
  cases b
  · exact (I.nil_own w NoB).im
  · exact h
/-- A sheet's cells, written over. -/
abbrev sheetW (W : World) (b : Nat) (u0 u1 u2 u3 u4 : Value) : World := ((((W.setCell ⟨b, 0, none⟩ u0).setCell ⟨b, 1, none⟩ u1).setCell ⟨b, 2, none⟩ u2).setCell ⟨b, 3, none⟩ u3).setCell ⟨b, 4, none⟩ u4
theorem sheet_put {W : World} {b : Nat} {T : TypeId} {a0 a1 a2 a3 a4 : Value} (h : Blk W b T #[a0, a1, a2, a3, a4]) (u0 u1 u2 u3 u4 : Value) : Blk (sheetW W b u0 u1 u2 u3 u4) b T #[u0, u1, u2, u3, u4] := ((((h.put 0 u0).put 1 u1).put 2 u2).put 3 u3).put 4 u4
theorem sheet_keep {w W : World} {b : Nat} (h : Keep NoB w W) (u0 u1 u2 u3 u4 : Value) (hb : w.heap.size ≤ b) : Keep NoB w (sheetW W b u0 u1 u2 u3 u4) :=
  ((((h.setCell (p := ⟨b, 0, none⟩) (fun h => absurd h (Nat.not_lt.2 hb)) u0).setCell (p := ⟨b, 1, none⟩) (fun h => absurd h (Nat.not_lt.2 hb)) u1).setCell (p := ⟨b, 2, none⟩) (fun h => absurd h (Nat.not_lt.2 hb)) u2).setCell (p := ⟨b, 3, none⟩) (fun h => absurd h (Nat.not_lt.2 hb)) u3).setCell (p := ⟨b, 4, none⟩) (fun h => absurd h (Nat.not_lt.2 hb)) u4
/-- The plain sheet of an image's value; the numbered one. -/
def plainH (v : I.IV) : SH := ⟨v, none, 89, #[], 90, #[]⟩
def numbH (v : I.IV) : SH := ⟨v, none, 89, #[], 91, #[]⟩

set_option maxRecDepth 100000 in
set_option maxHeartbeats 4000000 in
theorem plain_any (v : I.IV) (es : List I.SE) (fs : List I.FE) (w : World) (h : I.ImAt w v es fs) (hl : I.LgI v es fs) :
    Calls Tryz.prog 42 #[v.val] w fun e w' => e = .returned (plainH (cutV (I.okI (I.imOf es fs)) v)).val ∧ Keep NoB w w' := by
  have HC := Lib.hid (fun W (hk : Keep NoB w W) => I.check_any v es fs W (h.keepN hk) hl (I.chkI (I.imOf es fs)) rfl)
  have hB := (Blk.new w 25 v.cells).alloc (.cells #[.slice none 0 0, .slice none 0 0, .map none, .nilFunc, .nilFunc] 72)
  have hS := Blk.new (w.alloc (.cells v.cells 25)) 72 #[.slice none 0 0, .slice none 0 0, .map none, .nilFunc, .nilFunc]
  have k0 := ((Keep.refl NoB w).alloc (.cells v.cells 25)).alloc (.cells #[.slice none 0 0, .slice none 0 0, .map none, .nilFunc, .nilFunc] 72)
  rw [World.size_alloc] at hS
  clear h hl
  obtain ⟨X, nx, cx, Y, ny, cy⟩ := v
  dsimp only [I.IV.val, I.IV.cells] at *
  have c0 := hB.cell 0
  have c1 := hB.cell 1
  simp only [List.getElem?_toArray, List.getElem?_cons_zero, List.getElem?_cons_succ] at c0 c1
  cases hok : I.okI (I.imOf es fs)
  · rw [I.chkI_no hok] at HC
    clear hok
    go_enter Tryz.func42, Tryz.ntmps42
    go_wp2_with fail
    refine (HC.out _ k0).mono ?_
    rintro e w1 ⟨rfl, k1⟩
    have hK := keepN k0 k1
    have hB1 := hB.keep k1 id
    have hS1 := hS.keep k1 id
    have hne : w.heap.size ≠ w.heap.size + 1 := by omega
    obtain ⟨q0, q1⟩ := And.intro (hB1.cell 0) (hB1.cell 1)
    simp only [List.getElem?_toArray, List.getElem?_cons_zero, List.getElem?_cons_succ] at q0 q1
    have f1 := fun i => hB1.frozen i
    have l1 := hB1.lt
    have hB2 : Blk ((w1.setCell ⟨w.heap.size, 0, none⟩ (.slice none 0 0)).setCell ⟨w.heap.size, 1, none⟩ (.slice none 0 0)) w.heap.size 25 #[.slice none 0 0, .slice none 0 0] := (hB1.put 0 _).put 1 _
    have hS2 : Blk ((w1.setCell ⟨w.heap.size, 0, none⟩ (.slice none 0 0)).setCell ⟨w.heap.size, 1, none⟩ (.slice none 0 0)) (w.heap.size + 1) 72 #[.slice none 0 0, .slice none 0 0, .map none, .nilFunc, .nilFunc] := (hS1.far (p := ⟨w.heap.size, 0, none⟩) (fun e => hne e.symm) _).far (p := ⟨w.heap.size, 1, none⟩) (fun e => hne e.symm) _
    have hK2 : Keep NoB w ((w1.setCell ⟨w.heap.size, 0, none⟩ (.slice none 0 0)).setCell ⟨w.heap.size, 1, none⟩ (.slice none 0 0)) := (hK.setCell (p := ⟨w.heap.size, 0, none⟩) (fun h => absurd h (Nat.lt_irrefl _)) _).setCell (p := ⟨w.heap.size, 1, none⟩) (fun h => absurd h (Nat.lt_irrefl _)) _
    obtain ⟨d0, d1⟩ := And.intro (hB2.cell 0) (hB2.cell 1)
    simp only [List.getElem?_toArray, List.getElem?_cons_zero, List.getElem?_cons_succ] at d0 d1
    have s0 := hS2.cell 0
    have s1 := hS2.cell 1
    have s2 := hS2.cell 2
    have s3 := hS2.cell 3
    have s4 := hS2.cell 4
    simp only [List.getElem?_toArray, List.getElem?_cons_zero, List.getElem?_cons_succ] at s0 s1 s2 s3 s4
    have f2 := fun i => hS2.frozen i
    have l2 := hS2.lt
    generalize hW2 : (w1.setCell ⟨w.heap.size, 0, none⟩ (.slice none 0 0)).setCell ⟨w.heap.size, 1, none⟩ (.slice none 0 0) = W2 at *
    have HS3 := Lib.hid (sheet_put hS2 (.slice none 0 0) (.slice none 0 0) (.map none) (.func (.func 89) #[] #[]) (.func (.func 90) #[] #[]))
    have HK3 := Lib.hid (sheet_keep hK2 (.slice none 0 0) (.slice none 0 0) (.map none) (.func (.func 89) #[] #[]) (.func (.func 90) #[] #[]) (by omega : w.heap.size ≤ w.heap.size + 1))
    clear hB hS k0 k1 hK hB1 hS1 hB2 hS2 hK2 c0 c1 HC
    go_wp2
    have b3 := HS3.out
    have o0 := b3.cell 0
    have o1 := b3.cell 1
    have o2 := b3.cell 2
    have o3 := b3.cell 3
    have o4 := b3.cell 4
    simp only [List.getElem?_toArray, List.getElem?_cons_zero, List.getElem?_cons_succ] at o0 o1 o2 o3 o4
    refine bodyPost_ret (v := .agg #[.slice none 0 0, .slice none 0 0, .map none, .func (.func 89) #[] #[], .func (.func 90) #[] #[]]) (by simp [results, Tryz.results42, go_sem, o0, o1, o2, o3, o4]) rfl ?_
    exact ⟨rfl, HK3.out⟩
  · rw [I.chkI_ok hok] at HC
    clear hok
    go_enter Tryz.func42, Tryz.ntmps42
    go_wp2_with fail
    refine (HC.out _ k0).mono ?_
    rintro e w1 ⟨rfl, k1⟩
    have hK2 := keepN k0 k1
    have hB1 := hB.keep k1 id
    have hS2 := hS.keep k1 id
    obtain ⟨d0, d1⟩ := And.intro (hB1.cell 0) (hB1.cell 1)
    simp only [List.getElem?_toArray, List.getElem?_cons_zero, List.getElem?_cons_succ] at d0 d1
    have s0 := hS2.cell 0
    have s1 := hS2.cell 1
    have s2 := hS2.cell 2
    have s3 := hS2.cell 3
    have s4 := hS2.cell 4
    simp only [List.getElem?_toArray, List.getElem?_cons_zero, List.getElem?_cons_succ] at s0 s1 s2 s3 s4
    have f2 := fun i => hS2.frozen i
    have l2 := hS2.lt
    have HS3 := Lib.hid (sheet_put hS2 (.slice X nx cx) (.slice Y ny cy) (.map none) (.func (.func 89) #[] #[]) (.func (.func 90) #[] #[]))
    have HK3 := Lib.hid (sheet_keep hK2 (.slice X nx cx) (.slice Y ny cy) (.map none) (.func (.func 89) #[] #[]) (.func (.func 90) #[] #[]) (by omega : w.heap.size ≤ w.heap.size + 1))
    clear hB hS k0 k1 hB1 hS2 hK2 c0 c1 HC
    go_wp2
    have b3 := HS3.out
    have o0 := b3.cell 0
    have o1 := b3.cell 1
    have o2 := b3.cell 2
    have o3 := b3.cell 3
    have o4 := b3.cell 4
    simp only [List.getElem?_toArray, List.getElem?_cons_zero, List.getElem?_cons_succ] at o0 o1 o2 o3 o4
    refine bodyPost_ret (v := .agg #[.slice X nx cx, .slice Y ny cy, .map none, .func (.func 89) #[] #[], .func (.func 90) #[] #[]]) (by simp [results, Tryz.results42, go_sem, o0, o1, o2, o3, o4]) rfl ?_
    exact ⟨rfl, HK3.out⟩

end Go.Proofs.YtgnooffedmeenaaGreatDoor.M.L

namespace Go.Proofs.YtgnooffedmeenaaGreatDoor.M.L
open Go.RowKit W

def opS (p : I.Im) (k : Nat) (x : C.I3) : Bs := (NWp p k x).getD []
def opT (p : I.Im) (k : Nat) (x : C.I3) : Bool := (NWp p k x).isSome
theorem nw_place {p : I.Im} (hp : ImOk p) {k : Nat} {f : F.Fu} (hf : p.fn[k]? = some f) {x : C.I3} (hx : x ∈ f.bd) (h : (O.rowAt x.1).ka = 10) :
    ∃ t n : Nat, x.2.1 = (t : Int) ∧ t ≤ 511 ∧ lbN p k t = some n ∧ n ≤ 511 ∧ NWp p k x = some (lbl ((n : Nat) : Int)) := by
  obtain ⟨h1, h2⟩ := hp.fn hf
  obtain ⟨b1, _, b3, b4⟩ := ok_body h1
  have hok := List.all_eq_true.1 b1 x hx
  have hg := C.ka_gB hok h
  have hin := C.gB_in hg
  have h6 := b4 x hx
  rw [C.gN_yes hg] at h6
  have ht : x.2.1 = ((x.2.1.toNat : Nat) : Int) := by omega
  have hm : x.2.1.toNat ∈ tgs f.bd := tgs_mem.2 ⟨by omega, hit_of hx hg ht⟩
  obtain ⟨s, hs⟩ := labA_mem hm
  have hl : LBp p k x.2.1.toNat = some s := by unfold LBp; rw [hf]; exact hs
  have hnw : NWp p k x = some s := by unfold NWp; rw [if_pos hg]; exact hl
  rw [lb_lbN] at hl
  cases hn : lbN p k x.2.1.toNat with
  | none => rw [hn] at hl; cases hl
  | some n =>
    rw [hn] at hl
    injection hl with hl
    obtain ⟨f', hf', hlt, _⟩ := lbN_lt hn
    rw [hf] at hf'
    injection hf' with hf'
    subst hf'
    have := tgs_len f.bd
    exact ⟨_, n, ht, by omega, hn, by omega, by rw [hnw, ← hl]⟩
theorem nw_func {p : I.Im} (hp : ImOk p) {k : Nat} {f : F.Fu} (hf : p.fn[k]? = some f) {x : C.I3} (hx : x ∈ f.bd) (h : (O.rowAt x.1).ka = 7) :
    ∃ t : Nat, x.2.1 = (t : Int) ∧ NWp p k x = (p.fn[t]?).map F.Fu.nm := by
  obtain ⟨h1, h2⟩ := hp.fn hf
  have hok := List.all_eq_true.1 (ok_body h1).1 x hx
  have hng : ¬ C.gB x = true := fun hg => by have := (C.gB_ka hg).2; rw [h] at this; exact absurd this (by decide)
  have h3 := (O.ok_op hok).2.1
  rw [h] at h3
  have hb := (O.in_bounds h3).2.1 (by decide)
  refine ⟨x.2.1.toNat, by omega, ?_⟩
  unfold NWp
  rw [if_neg hng, if_pos h]
theorem nw_else {p : I.Im} {k : Nat} {x : C.I3} (h1 : ¬ (O.rowAt x.1).ka = 10) (h2 : ¬ (O.rowAt x.1).ka = 7) : NWp p k x = none := by
  unfold NWp
  rw [if_neg (fun hg => h1 (C.gB_ka hg).2), if_neg h2]

/-- What the named sheet's operand reads. -/
structure NmAt (w : World) (p : I.Im) (b n b1 b2 : Nat) (Y : Option Addr) (ny cy : Nat) (fs : List I.FE) : Prop where
  pm : PM b n (labF p) w
  k1 : Blk w b1 69 #[.map (some b)]
  k2 : Blk w b2 23 #[.slice Y ny cy]
  rd : Rd w Y (I.fvs fs)
  nl : fs.length = ny
  pf : p.fn = fs.map fun e => e.2
  nm : ∀ e ∈ fs, e.1.S.data.toList = e.2.nm
theorem NmAt.keep {w w' : World} {p : I.Im} {b n b1 b2 : Nat} {Y : Option Addr} {ny cy : Nat} {fs : List I.FE} (h : NmAt w p b n b1 b2 Y ny cy fs) (hk : Keep NoB w w') : NmAt w' p b n b1 b2 Y ny cy fs :=
  ⟨h.pm.keep hk id, h.k1.keep hk id, h.k2.keep hk id, h.rd.keepN hk, h.nl, h.pf, h.nm⟩

set_option maxRecDepth 100000 in
set_option maxHeartbeats 4000000 in
theorem named1_any (p : I.Im) (hp : ImOk p) (b n b1 b2 : Nat) (Y : Option Addr) (ny cy : Nat) (fs : List I.FE) (w : World) (h : NmAt w p b n b1 b2 Y ny cy fs) (hL : W.Laid w) (k : Nat) (f : F.Fu) (hf : p.fn[k]? = some f) (x : C.I3) (hx : x ∈ f.bd) :
    Calls Tryz.prog 77 #[.int .i64 (k : Int), O.instV x.1 x.2.1 x.2.2, .pointer (some ⟨b1, 0, none⟩), .pointer (some ⟨b2, 0, none⟩)] w fun e w' =>
      e = .returned (.tuple #[.string (str (opS p k x)), .bool (opT p k x)]) ∧ Keep NoB w w' := by
  have hkf : k < 64 := by
    have h1 := (List.getElem?_eq_some_iff.1 hf).1
    have h2 := hp.nf
    omega
  have hB := Blk.new w 55 #[.int .i64 x.1, .int .i64 x.2.1, .int .i64 x.2.2]
  have k0 := (Keep.refl NoB w).alloc (.cells #[.int .i64 x.1, .int .i64 x.2.1, .int .i64 x.2.2] 55)
  have HK := Lib.hid (fun W => O.kinds_any x.1 W)
  have HA := Lib.hid (fun W (hk : Keep NoB w W) => h.keep hk)
  have HLd := Lib.hid (fun W (hk : Keep NoB w W) => hL.keep hk)
  by_cases h10 : (O.rowAt x.1).ka = 10
  · obtain ⟨t, m, e1, e2, e3, e4, e5⟩ := nw_place hp hf hx h10
    have HX : Hid (opS p k x = lbl ((m : Nat) : Int) ∧ opT p k x = true) := by unfold opS opT; rw [e5]; exact ⟨rfl, rfl⟩
    have HLb := Lib.hid (fun W (hk : Keep NoB w W) => label_any m W (by omega) (hL.keep hk))
    have HLk : Hid (∀ W, Keep NoB w W → (Instr.lookup 69 (.map (some b)) (.agg #[.int .i64 (k : Int), .int .i64 (t : Int)]) false).run Tryz.prog W = .ok (.int .i64 (m : Int)) W) := by
      intro W hk
      have h1 := pm_look (h.keep hk).pm k t (by omega) (by omega)
      rw [labF_nat, e3] at h1
      exact h1
    obtain ⟨op, a, c⟩ := x
    dsimp only at *
    subst e1
    rw [HX.out.1, HX.out.2]
    rw [h10] at HK
    have c0 := hB.cell 0
    have c1 := hB.cell 1
    simp only [List.getElem?_toArray, List.getElem?_cons_zero, List.getElem?_cons_succ] at c0 c1
    clear h hL hp hf hx h10 e2 e3 e4 e5 HX
    go_enter Tryz.func77, Tryz.ntmps77
    go_wp2_with fail
    refine (HK.out _).mono ?_
    rintro e w1 ⟨rfl, k1⟩
    have hk1 := keepN k0 k1
    have hB1 := hB.keep k1 id
    have c1 := hB1.cell 1
    have d0 := (HA.out _ hk1).k1.cell 0
    have hlk := HLk.out _ hk1
    simp only [List.getElem?_toArray, List.getElem?_cons_zero, List.getElem?_cons_succ] at c1 d0
    clear hB hB1 k0 k1 c0 HK
    go_wp2_with fail
    refine (HLb.out _ hk1).mono ?_
    rintro e w2 ⟨rfl, k2⟩
    go_wp2
    go_ret2
    exact ⟨rfl, keepN hk1 k2⟩
  · have q10 : ((O.rowAt x.1).ka == 10) = false := by rw [beq_eq_false_iff_ne]; exact h10
    by_cases h7 : (O.rowAt x.1).ka = 7
    · obtain ⟨t, e1, e2⟩ := nw_func hp hf hx h7
      rw [h.pf] at e2
      rw [List.getElem?_map] at e2
      have hny := h.nl
      have hn64 : ny ≤ 64 := by
        have := hp.nf
        rw [h.pf, List.length_map] at this
        omega
      by_cases hlt : t < ny
      · have hlf : t < fs.length := by omega
        rw [List.getElem?_eq_getElem hlf] at e2
        have hfa := h.nm _ (List.getElem_mem hlf)
        have HX : Hid (str (opS p k x) = fs[t].1.S ∧ opT p k x = true) := by
          unfold opS opT
          rw [e2]
          refine ⟨?_, rfl⟩
          show str fs[t].2.nm = _
          rw [str_of hfa]
        have HFa : Hid (∀ W, Keep NoB w W → ∃ g off, Y = some ⟨g, off, none⟩ ∧ W.cell? ⟨g, off + t * 5, none⟩ = some (.string fs[t].1.S)) := fun W hk => by
          obtain ⟨g, off, h1, h2, _⟩ := I.fun_at (h.keep hk).rd hlf
          exact ⟨g, off, h1, h2⟩
        obtain ⟨op, a, c⟩ := x
        dsimp only at *
        subst e1
        rw [HX.out.1, HX.out.2]
        rw [h7] at HK
        have c0 := hB.cell 0
        simp only [List.getElem?_toArray, List.getElem?_cons_zero] at c0
        generalize fs[t].1.S = S at *
        clear h hL hp hf hx h10 h7 q10 e2 HX hfa hny hlf
        go_enter Tryz.func77, Tryz.ntmps77
        go_wp2_with fail
        refine (HK.out _).mono ?_
        rintro e w1 ⟨rfl, k1⟩
        have hk1 := keepN k0 k1
        have hB1 := hB.keep k1 id
        have c1 := hB1.cell 1
        have d0 := (HA.out _ hk1).k2.cell 0
        obtain ⟨g, off, rfl, hc⟩ := HFa.out _ hk1
        simp only [List.getElem?_toArray, List.getElem?_cons_zero, List.getElem?_cons_succ] at c1 d0
        clear hB hB1 k0 k1 c0 HK HFa HA
        go_wp2
        go_ret2
        exact ⟨rfl, hk1⟩
      · rw [List.getElem?_eq_none (by omega)] at e2
        have HX : Hid (opS p k x = [] ∧ opT p k x = false) := by unfold opS opT; rw [e2]; exact ⟨rfl, rfl⟩
        obtain ⟨op, a, c⟩ := x
        dsimp only at *
        subst e1
        rw [HX.out.1, HX.out.2]
        rw [h7] at HK
        have c0 := hB.cell 0
        simp only [List.getElem?_toArray, List.getElem?_cons_zero] at c0
        have hge : ¬ (t : Int) < (ny : Int) := by omega
        clear h hL hp hf hx h10 h7 q10 e2 HX hny hlt
        go_enter Tryz.func77, Tryz.ntmps77
        go_wp2_with fail
        refine (HK.out _).mono ?_
        rintro e w1 ⟨rfl, k1⟩
        have hk1 := keepN k0 k1
        have hB1 := hB.keep k1 id
        have c1 := hB1.cell 1
        have d0 := (HA.out _ hk1).k2.cell 0
        simp only [List.getElem?_toArray, List.getElem?_cons_zero, List.getElem?_cons_succ] at c1 d0
        clear hB hB1 k0 k1 c0 HK HA
        go_wp2
        go_ret2
        exact ⟨rfl, hk1⟩
    · have q7 : ((O.rowAt x.1).ka == 7) = false := by rw [beq_eq_false_iff_ne]; exact h7
      have HX : Hid (opS p k x = [] ∧ opT p k x = false) := by unfold opS opT; rw [nw_else h10 h7]; exact ⟨rfl, rfl⟩
      obtain ⟨op, a, c⟩ := x
      dsimp only at *
      rw [HX.out.1, HX.out.2]
      have c0 := hB.cell 0
      simp only [List.getElem?_toArray, List.getElem?_cons_zero] at c0
      generalize (O.rowAt op).ka = ka at *
      clear h hL hp hf hx h10 h7 HX
      go_enter Tryz.func77, Tryz.ntmps77
      go_wp2_with fail
      refine (HK.out _).mono ?_
      rintro e w1 ⟨rfl, k1⟩
      have hk1 := keepN k0 k1
      clear hB k0 k1 c0 HK HA
      go_wp2
      go_ret2
      exact ⟨rfl, hk1⟩

end Go.Proofs.YtgnooffedmeenaaGreatDoor.M.L

namespace Go.Proofs.YtgnooffedmeenaaGreatDoor.M.L
open Go.RowKit W

theorem goL_succ {l : List C.I3} {k : Nat} (h : k < l.length) : goL (l.take (k + 1)) = goL (l.take k) ++ (if C.gB l[k] = true then [C.gN l[k]] else []) := by
  unfold goL
  rw [List.take_succ_eq_append_getElem h, List.filterMap_append]
  congr 1
  by_cases hg : C.gB l[k] = true
  · rw [if_pos hg]; simp [hg]
  · rw [if_neg hg]; simp [hg]
/-- A sorted, and compacted, slice of one's own. -/
theorem sort_own {w w1 : World} {g cap nn q : Nat} {os : Array Obj} {zs : List Int} (hown : Own w1 3 1 (Fresh w) (.slice (some ⟨g, 0, none⟩) zs.length cap) zs.length (ivs zs)) (hk : Keep NoB w w1) (hg : w.heap.size ≤ g) :
    let w3 := Sort.putRow (Value.int .i64) (Sort.ahead (Sort.grow (Sort.putRow (Value.int .i64) (Sort.ahead w1 nn) g 0 (zs.mergeSort fun x y => decide (x ≤ y)).toArray) os) q) g 0 (Lib.compact (zs.mergeSort fun x y => decide (x ≤ y)) ++ List.replicate ((zs.mergeSort fun x y => decide (x ≤ y)).length - (Lib.compact (zs.mergeSort fun x y => decide (x ≤ y))).length) 0).toArray
    Own w3 3 1 (Fresh w) (.slice (some ⟨g, 0, none⟩) (Lib.compact (zs.mergeSort fun x y => decide (x ≤ y))).length cap) (Lib.compact (zs.mergeSort fun x y => decide (x ≤ y))).length (ivs (Lib.compact (zs.mergeSort fun x y => decide (x ≤ y)))) ∧ Keep NoB w w3 := by
  intro w3
  have hl2 : (zs.mergeSort fun x y => decide (x ≤ y)).length = zs.length := List.length_mergeSort zs
  have hle := Lib.compact_length_le (zs.mergeSort fun x y => decide (x ≤ y))
  rcases hown.1.2 with ⟨h0, _⟩ | ⟨g', cap', cur, hv, hbase, hb, h1, h2, h3, h4⟩
  · cases h0
  cases hv
  have hs := ownsRow_sortedI (n := nn) (os := os) (ts := zs.mergeSort fun x y => decide (x ≤ y)) hl2 hbase hb h1 h2 h3
  have hc := Lib.ownsRow_putRow (q := q) (k := (Lib.compact (zs.mergeSort fun x y => decide (x ≤ y))).length) (ys := Lib.compact (zs.mergeSort fun x y => decide (x ≤ y)) ++ List.replicate ((zs.mergeSort fun x y => decide (x ≤ y)).length - (Lib.compact (zs.mergeSort fun x y => decide (x ≤ y))).length) 0) hs (by simp; omega) (by omega)
  rw [List.take_left] at hc
  refine ⟨⟨hc, fun b e => ?_⟩, Keep.of_below (Lib.below_putRow (hk.toBelow.grown (row := some g) (grownBy_sortedI _) hk.size (fun j hj => by injection hj with hj; omega)) hg)⟩
  simp only [Value.ownBlock, Option.some.injEq] at e
  subst e
  exact hg

set_option maxRecDepth 100000 in
set_option maxHeartbeats 4000000 in
theorem targets_any (A : Option Addr) (l : List C.I3) (n c : Nat) (w : World) (hr : Rd w A (C.iis l)) (hn : Hid (l.length = n)) (h6 : n ≤ 9000000000000) :
    Calls Tryz.prog 48 #[.slice A n c] w fun e w' => ∃ B d, e = .returned (.slice B (tgI l).length d) ∧ Own w' 3 1 (Fresh w) (.slice B (tgI l).length d) (tgI l).length (ivs (tgI l)) ∧ Keep NoB w w' := by
  have HR := Lib.hid hr
  obtain ⟨T, hT⟩ : ∃ T, tgI l = T := ⟨_, rfl⟩
  have HT := Lib.hid hT
  rw [hT]
  clear hT
  obtain ⟨i0, hi, hz0, hz1, hz2⟩ := info_parts int_info
  clear hr
  go_enter Tryz.func48, Tryz.ntmps48
  go_wp2_with fail
  go_loopw [3, 10] (fun v i wr => ∃ k : Nat, k ≤ n ∧ i = .int .i64 k ∧ (∃ B d, v = .slice B (goL (l.take k)).length d ∧ Own wr 3 1 (Fresh w) (.slice B (goL (l.take k)).length d) (goL (l.take k)).length (ivs (goL (l.take k)))) ∧ Keep NoB w wr) (fun _ i _ => n - (intOf i).toNat)
  case atStart => exact ⟨0, Nat.zero_le _, rfl, ⟨none, 0, rfl, Own.nil _ _ _ _⟩, Keep.refl _ _⟩
  case round =>
    obtain ⟨k, hk, rfl, ⟨B, d, rfl, hO⟩, hK⟩ := hrel
    by_cases hlt : k < n
    · have hkl : k < l.length := by rw [hn.out]; exact hlt
      obtain ⟨g, off, rfl, hc⟩ := C.rdJ_at HR.out (by omega)
      obtain ⟨d0, d1, d2⟩ := hc k hkl
      have c0 := hK.cell d0 id
      have c1 := hK.cell d1 id
      have c2 := hK.cell d2 id
      have hs := Lib.hid (goL_succ hkl)
      have hle : (goL (l.take k)).length ≤ k := Nat.le_trans (goL_len _) (by simp; omega)
      clear hc d0 d1 d2
      generalize l[k] = x at c0 c1 c2 hs
      obtain ⟨op, a, b⟩ := x
      dsimp only at c0 c1 c2
      obtain ⟨m, hm'⟩ : ∃ m, (goL (l.take k)).length = m := ⟨_, rfl⟩
      rw [hm'] at hle hO ⊢
      have hgn : O.goesN op a b = C.gN (op, a, b) := rfl
      have hgi : O.goesI op a b = C.gB (op, a, b) := rfl
      have HG := Lib.hid (fun w => O.goes_any op a b w)
      simp only [hgn, hgi] at HG
      clear hgn hgi
      generalize C.gN (op, a, b) = to1 at HG hs
      cases hg : C.gB (op, a, b)
      · have HS : Hid (goL (l.take (k + 1)) = goL (l.take k)) := by show _ = _; rw [hs.out, hg]; simp
        have HL : Hid ((goL (l.take (k + 1))).length = m) := by show _ = _; rw [HS.out, hm']
        rw [hg] at HG
        have hO2 := hO.keepN ((Keep.refl NoB wr).alloc (.cells #[.int .i64 op, .int .i64 a, .int .i64 b] 55))
        have hK2 := hK.alloc (.cells #[.int .i64 op, .int .i64 a, .int .i64 b] 55)
        clear hg hm' hs hO hK
        go_wp2_with (go_at_call 106; refine (HG.out _).mono ?_; rintro e w2 ⟨rfl, k2⟩)
        go_roundw
        case rel => exact ⟨k + 1, by omega, by go_num, ⟨B, d, by rw [HL.out], by rw [HL.out, HS.out]; exact hO2.keepN k2⟩, keepN hK2 k2⟩
        case measure => simp [intOf]; omega
      · have HS : Hid (ivs (goL (l.take (k + 1))) = ivs (goL (l.take k)) ++ [.int .i64 to1]) := by show _ = _; rw [hs.out, hg]; simp [ivs]
        have HL : Hid ((goL (l.take (k + 1))).length = m + 1) := by show _ = _; rw [hs.out, hg, List.length_append, hm']; rfl
        rw [hg] at HG
        have hO1 := hO.keepN ((Keep.refl NoB wr).alloc (.cells #[.int .i64 op, .int .i64 a, .int .i64 b] 55))
        have hK1 := hK.alloc (.cells #[.int .i64 op, .int .i64 a, .int .i64 b] 55)
        clear hg hm' hs hO hK
        go_wp2_with fail
        refine (HG.out _).mono ?_
        rintro e w2 ⟨rfl, k2⟩
        have hO2 := hO1.keepN k2
        have hK2 := keepN hK1 k2
        clear hO1 hK1 k2 c0 c1 c2
        go_wp2_with (at_builtin; refine wpList_append_rd _ rfl (.tmp 20) (.tmp 22) _ rfl 3 1 8 i0 _ Tryz.underlying32 hi hz0 hz1 hz2 rfl (by decide) _ m _ _ 1 _ [.int .i64 to1] rfl (hO2.1.alloc _) rfl (W.rd_made (by simp) rfl) rfl (by simp [Value.oneCell']) (by unfold maxLen; omega) (by omega) ?_; intro B2 d2 w3 hrow3 hg3 hv3; rw [← HS.out] at hrow3; obtain ⟨hO3, hK3⟩ := W.own_after hO2.2 (hK2.alloc _) hg3 hv3 hrow3; clear hrow3 hg3 hv3)
        go_roundw
        case rel => exact ⟨k + 1, by omega, by go_num, ⟨B2, d2, by rw [HL.out], by rw [HL.out]; exact hO3⟩, hK3⟩
        case measure => simp [intOf]; omega
    · obtain rfl : k = n := by omega
      have hall : goL (l.take k) = goL l := by rw [List.take_of_length_le (by rw [hn.out]; exact Nat.le_refl _)]
      have hlen : (goL l).length ≤ k := by rw [← hn.out]; exact goL_len l
      rw [hall] at hO ⊢
      have HT2 : Hid (T = Lib.compact ((goL l).mergeSort fun x y => decide (x ≤ y))) := HT.out.symm
      clear hall HT hn HR
      generalize goL l = zs at *
      by_cases h0 : zs.length = 0
      · obtain rfl : zs = [] := List.length_eq_zero_iff.1 h0
        have HS := Lib.hid (fun W => Tryz.slices_Sort_int_none B d W)
        have HC := Lib.hid (fun W => Tryz.slices_Compact_int_empty B d W)
        clear h0
        go_wp2_with (go_at_call 107; refine (HS.out _).mono ?_; rintro e w2 ⟨rfl, rfl⟩)
        go_wp2_with (go_at_call 108; refine (HC.out _).mono ?_; rintro e w2 ⟨rfl, rfl⟩)
        go_ret
        rw [HT2.out, List.mergeSort_nil, show Lib.compact ([] : List Int) = [] from rfl]
        exact ⟨B, d, rfl, hO, hK⟩
      · have hnn : (Value.slice B zs.length d) ≠ .slice none 0 0 := fun e => by injection e with _ e; exact h0 e
        obtain ⟨g, cap, e0, _, hgl, hcap, hcm, _, hH⟩ := Lib.holds_of_ownsRow hO.1 hnn
        injection e0 with e1 _ e2
        subst e1 e2
        have hgf : w.heap.size ≤ g := hO.2 g rfl
        have HS := Lib.hid (Tryz.slices_Sort_int g 0 d zs wr hH hgl (by omega))
        have hl2 : (zs.mergeSort fun x y => decide (x ≤ y)).length = zs.length := List.length_mergeSort zs
        have HC : Hid (∀ nn os, Calls Tryz.prog 108 #[.slice (some ⟨g, 0, none⟩) zs.length d] (Sort.grow (Sort.putRow (Value.int .i64) (Sort.ahead wr nn) g 0 (zs.mergeSort fun x y => decide (x ≤ y)).toArray) os) fun e w' =>
            e = .returned (.slice (some ⟨g, 0, none⟩) (Lib.compact (zs.mergeSort fun x y => decide (x ≤ y))).length d) ∧ ∃ q, w' = Sort.putRow (Value.int .i64) (Sort.ahead (Sort.grow (Sort.putRow (Value.int .i64) (Sort.ahead wr nn) g 0 (zs.mergeSort fun x y => decide (x ≤ y)).toArray) os) q) g 0 (Lib.compact (zs.mergeSort fun x y => decide (x ≤ y)) ++ List.replicate ((zs.mergeSort fun x y => decide (x ≤ y)).length - (Lib.compact (zs.mergeSort fun x y => decide (x ≤ y))).length) 0).toArray) := by
          intro nn os
          have hH2 : Sort.Holds (Value.int .i64) (Sort.grow (Sort.putRow (Value.int .i64) (Sort.ahead wr nn) g 0 (zs.mergeSort fun x y => decide (x ≤ y)).toArray) os) g 0 (zs.mergeSort fun x y => decide (x ≤ y)).toArray :=
            Sort.holds_grow _ _ os g 0 _ (by simpa [Sort.putRow, Sort.mapBlock, Sort.ahead] using hgl) (Sort.holds_putRow _ _ g 0 _ _ (Sort.holds_ahead _ wr nn g 0 _ hH) (by simp))
          have h := Tryz.slices_Compact_int g 0 d (zs.mergeSort fun x y => decide (x ≤ y)) _ hH2 (by omega) (by omega)
          rw [hl2] at h ⊢
          exact h
        have HO : Hid (∀ nn os q, _) := fun nn os q => sort_own (w := w) (nn := nn) (os := os) (q := q) hO hK hgf
        clear hH hO hK hnn hl2
        go_wp2_with (go_at_call 107; refine HS.out.mono ?_; rintro e w2 ⟨rfl, nn, os, rfl⟩)
        go_wp2_with (go_at_call 108; refine (HC.out nn os).mono ?_; rintro e w2 ⟨rfl, q, rfl⟩)
        go_ret
        have h := HO.out nn os q
        simp only [List.length_mergeSort] at h
        rw [HT2.out]
        exact ⟨_, _, rfl, h.1, h.2⟩

end Go.Proofs.YtgnooffedmeenaaGreatDoor.M.L
