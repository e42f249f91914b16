/-
  What bodies may refer to: the program's Context, by the iterator. Conditions: the image's lists lie in memory; no more than 1000 functions, none greater than statements go through.
  Which parts may be: IndexFunc and ContainsFunc over what lies in memory, and may, of shapes and of functions. Conditions: what is asked answers by its contract.
  Parts read from a Reel: how many, and these: what read answers, of shapes and of functions. Conditions: the Reel reads bytes in memory, no more than 2^47.
  What stands between Magic and the sum: what inner answers. Conditions: the bytes lie in memory, no more than 2^47.
  Copies of functions: the program's and the document's. Conditions: the function's lists lie in memory, and are no longer than statements go through.
  The document's copy of a function. Conditions: the function's lists lie in memory, and are no longer than statements go through.
-/
import Derived.Laws.EntriesVeiled
import Derived.Test.YtgifflfjhockaaaGreatDoorQ10
import Derived.Test.YtgifflfjhockaaaGreatDoorQ9
import Derived.Test.YtgifflfjhockaaaGreatDoorQ3
namespace Go.Proofs.YtgifflfjhockaaaGreatDoor.I
open Go.RowKit Go.Shelf W
attribute [local go_sem] Oper.semAt_some

/-- A signature in memory: its lists, and what they hold. -/
abbrev GE := (SV × List Int) × (SV × List Int)
structure OwnGE (W : World) (P : Nat → Prop) (e : GE) : Prop where
  a : Own W 3 1 P (.slice e.1.1.A e.1.1.n e.1.1.c) e.1.1.n (ivs e.1.2)
  b : Own W 3 1 P (.slice e.2.1.A e.2.1.n e.2.1.c) e.2.1.n (ivs e.2.2)
/-- A row of another type stays as it was. -/
theorem own_other {W W' : World} {O P : Nat → Prop} {E sz n : Nat} {v : Value} {xs : List Value} (h : Own W E sz P v n xs) (hk : Keep O W W') (hO : ∀ k, O k → ∀ cs f, W.heap[k]? ≠ some (.cells cs E f)) : Own W' E sz P v n xs := by
  refine ⟨⟨h.1.1, ?_⟩, h.2⟩
  rcases h.1.2 with h2 | ⟨g, cap, cur, rfl, hb, hh, r⟩
  · exact .inl h2
  · exact .inr ⟨g, cap, cur, rfl, hb, (hk.block g (Array.getElem?_eq_some_iff.1 hh).1 (fun ho => hO g ho _ _ hh)).trans hh, r⟩
theorem OwnGE.keepN {W W' : World} {P : Nat → Prop} {e : GE} (h : OwnGE W P e) (hk : Keep NoB W W') : OwnGE W' P e := ⟨h.a.keepN hk, h.b.keepN hk⟩
theorem one_ivs (l : List Int) : ∀ u ∈ ivs l, u.oneCell' = true := fun u hu => by
  obtain ⟨z, _, rfl⟩ := List.mem_map.1 hu; rfl

end Go.Proofs.YtgifflfjhockaaaGreatDoor.I

namespace Go.Proofs.YtgifflfjhockaaaGreatDoor.I
open Go.RowKit W

set_option maxRecDepth 100000 in
set_option maxHeartbeats 4000000 in
theorem indexS_any (A : Option Addr) (es : List SE) (n c k b : Nat) (w : World) (hcf : ∀ args w, (callFunc k args).run Tryz.prog w = .ok (.enter k args) w) (hr : Hid (∀ W, Keep NoB w W → Rd W A (svs es))) (hn : Hid (es.length = n)) (hm : n ≤ 1000) (bs : Nat → Bool)
    (hq : Hid (∀ i (h : i < es.length) W, Keep NoB w W → Calls Tryz.prog k #[es[i].1.val, .pointer (some ⟨b, 0, none⟩)] W fun e W' => e = .returned (.bool (bs i)) ∧ Keep NoB W W')) :
    Calls Tryz.prog 147 #[.slice A n c, .func (.func k) #[] #[.pointer (some ⟨b, 0, none⟩)]] w fun e w' => ∃ R : Int, e = .returned (.int .i64 R) ∧ ((0 ≤ R ∧ ∃ i, i < n ∧ bs i = true) ∨ (R = -1 ∧ ∀ i, i < n → bs i = false)) ∧ Keep NoB w w' := by
  go_enter Tryz.func147, Tryz.ntmps147
  go_wp2
  go_loopw [8] (fun i wr => ∃ j : Nat, j ≤ n ∧ i = .int .i64 j ∧ Hid (∀ t, t < j → bs t = false) ∧ Keep NoB w wr) (fun i _ => n - (intOf i).toNat)
  case atStart => exact ⟨0, Nat.zero_le _, rfl, fun t h => absurd h (by omega), Keep.refl _ _⟩
  case round =>
    obtain ⟨j, hj, rfl, hB, hK⟩ := hrel
    by_cases hlt : j < n
    · have hje : j < es.length := by rw [hn.out]; exact hlt
      obtain ⟨g, off, rfl, c0⟩ := shape_at (hr.out _ hK) hje
      have HQ := Lib.hid (hq.out j hje _ hK)
      generalize es[j] = e at c0 HQ
      obtain ⟨⟨A1, n1, d1⟩, l⟩ := e
      dsimp only [SV.val] at c0 HQ
      obtain ⟨bj, hbj⟩ : ∃ x, bs j = x := ⟨_, rfl⟩
      rw [hbj] at HQ
      have HBJ := Lib.hid hbj
      clear hbj
      go_wp2_with fail
      refine HQ.out.mono ?_
      rintro e w1 ⟨rfl, k1⟩
      replace hK := keepN hK k1
      cases bj
      · go_wp2
        go_roundw
        case rel => exact ⟨j + 1, by omega, by go_num, fun t ht => (by
          rcases Nat.lt_succ_iff_lt_or_eq.1 ht with h | rfl
          · exact hB.out t h
          · exact HBJ.out), hK⟩
        case measure => simp [intOf]; omega
      · go_wp2
        go_ret
        exact ⟨_, rfl, .inl ⟨by omega, j, hlt, HBJ.out⟩, hK⟩
    · obtain rfl : j = n := by omega
      go_wp2
      go_ret
      exact ⟨_, rfl, .inr ⟨rfl, hB.out⟩, hK⟩

set_option maxRecDepth 100000 in
set_option maxHeartbeats 2000000 in
theorem containsS_any (A : Option Addr) (es : List SE) (n c k b : Nat) (w : World) (hcf : ∀ args w, (callFunc k args).run Tryz.prog w = .ok (.enter k args) w) (hr : Hid (∀ W, Keep NoB w W → Rd W A (svs es))) (hn : Hid (es.length = n)) (hm : n ≤ 1000) (bs : Nat → Bool)
    (hq : Hid (∀ i (h : i < es.length) W, Keep NoB w W → Calls Tryz.prog k #[es[i].1.val, .pointer (some ⟨b, 0, none⟩)] W fun e W' => e = .returned (.bool (bs i)) ∧ Keep NoB W W'))
    (B : Bool) (h1 : Hid ((∃ i, i < n ∧ bs i = true) → B = true)) (h0 : Hid ((∀ i, i < n → bs i = false) → B = false)) :
    Calls Tryz.prog 94 #[.slice A n c, .func (.func k) #[] #[.pointer (some ⟨b, 0, none⟩)]] w fun e w' => e = .returned (.bool B) ∧ Keep NoB w w' := by
  have HI := Lib.hid (indexS_any A es n c k b w hcf hr hn hm bs hq)
  clear hq hr hcf
  go_enter Tryz.func94, Tryz.ntmps94
  go_wp2_with fail
  refine HI.out.mono ?_
  rintro e w1 ⟨R, rfl, hR, k1⟩
  rcases hR with ⟨h2, h3⟩ | ⟨rfl, h3⟩
  · obtain rfl : B = true := h1.out h3
    have hd : decide ((0 : Int) ≤ R) = true := decide_eq_true h2
    clear h3 h1 h0
    go_wp2
    go_ret
    exact ⟨rfl, k1⟩
  · obtain rfl : B = false := h0.out h3
    clear h3 h1 h0
    go_wp2
    go_ret
    exact ⟨rfl, k1⟩

set_option maxRecDepth 100000 in
set_option maxHeartbeats 2000000 in
theorem asksS_any (k : Nat) (hcf : ∀ args w, (callFunc k args).run Tryz.prog w = .ok (.enter k args) w) (v : SV) (b : Nat) (w : World) (u0 u1 u3 u4 u5 : Value) (hb : Blk w b 86 #[u0, u1, F.fnV k, u3, u4, u5]) (R : Int) (B : Bool) (hB : (R != 0) = B)
    (HG : Hid (∀ W, Keep NoB w W → Calls Tryz.prog k #[v.val] W fun e w' => e = .returned (.int .i64 R) ∧ Keep NoB W w')) :
    Calls Tryz.prog 95 #[v.val, .pointer (some ⟨b, 0, none⟩)] w fun e w' => e = .returned (.bool B) ∧ Keep NoB w w' := by
  have c2 := hb.cell 2
  unfold F.fnV at c2
  simp only [List.getElem?_toArray, List.getElem?_cons_zero, List.getElem?_cons_succ] at c2
  clear hb
  dsimp only [SV.val] at HG ⊢
  go_enter Tryz.func95, Tryz.ntmps95
  go_wp2_with fail
  refine (HG.out _ (Keep.refl _ _)).mono ?_
  rintro e w1 ⟨rfl, k1⟩
  go_wp2
  go_ret
  exact ⟨rfl, k1⟩

/-- What an image's parts of this kind have. -/
def partS : Value := .agg #[.int .i64 0, .int .i64 64, F.fnV 72, F.fnV 73, F.fnV 74, F.fnV 75]
theorem partS_size : (Tryz.prog.info? 86).map (·.size) = some 6 := by kernel_rfl
set_option maxRecDepth 100000 in
set_option maxHeartbeats 2000000 in
theorem partsS_any (w : World) : Calls Tryz.prog 37 #[] w fun e w' => e = .returned partS ∧ Keep NoB w w' := by
  have bz := Blk.new w 86 #[.int .i64 0, .int .i64 64, F.fnV 72, F.fnV 73, F.fnV 74, F.fnV 75]
  have k0 := (Keep.refl NoB w).alloc (.cells #[.int .i64 0, .int .i64 64, F.fnV 72, F.fnV 73, F.fnV 74, F.fnV 75] 86)
  have HB := Lib.hid bz
  have HK := Lib.hid k0
  unfold partS F.fnV at *
  clear bz k0
  go_enter Tryz.func37, Tryz.ntmps37
  go_wp2
  refine bodyPost_ret (results_cell_row rfl _ _ w.heap.size 86 _ (0, 0) _ rfl HB.out Tryz.underlying86 rfl partS_size) rfl ?_
  exact ⟨rfl, HK.out⟩

/-- What may answers. -/
def mayS (l : List SE) : Bool := decide (0 ≤ l.length ∧ l.length ≤ 64) && l.all fun e => S.okS e.2
set_option maxRecDepth 100000 in
set_option maxHeartbeats 4000000 in
theorem mayS_any (A : Option Addr) (es : List SE) (n c : Nat) (w : World) (hr : Hid (∀ W, Keep NoB w W → Rd W A (svs es))) (hn : Hid (es.length = n)) (hm : n ≤ 9223372036854775807) (he : Hid (∀ e ∈ es, ∀ W, Keep NoB w W → Calls Tryz.prog 72 #[e.1.val] W fun r W' => r = .returned (.int .i64 (S.chkS e.2)) ∧ Keep NoB W W')) :
    Calls Tryz.prog 52 #[.slice A n c, partS] w fun r w' => r = .returned (.bool (mayS es)) ∧ Keep NoB w w' := by
  have bz := Blk.new w 86 #[.int .i64 0, .int .i64 64, F.fnV 72, F.fnV 73, F.fnV 74, F.fnV 75]
  have k0 := (Keep.refl NoB w).alloc (.cells #[.int .i64 0, .int .i64 64, F.fnV 72, F.fnV 73, F.fnV 74, F.fnV 75] 86)
  have hmf : ∀ (fn : Go.Fn) (first cap : Array Value) (w : World), (Instr.makeFunc fn first cap).run Tryz.prog w = .ok (.func fn first cap) w := fun _ _ _ _ => rfl
  have q0 := bz.cell 0
  have q1 := bz.cell 1
  simp only [List.getElem?_toArray, List.getElem?_cons_zero, List.getElem?_cons_succ] at q0 q1
  have HZ := Lib.hid bz
  obtain ⟨M, hM⟩ : ∃ M, mayS es = M := ⟨_, rfl⟩
  rw [hM]
  have HM := Lib.hid hM
  clear hM bz
  unfold partS F.fnV at *
  by_cases h64 : n ≤ 64
  · have HC := Lib.hid (fun W (hk : Keep NoB (w.alloc (.cells #[.int .i64 0, .int .i64 64, F.fnV 72, F.fnV 73, F.fnV 74, F.fnV 75] 86)) W) => containsS_any A es n c 95 w.heap.size W (enters_of Tryz.func95 (by kernel_rfl) rfl) (fun W' hk' => hr.out W' (keepN (keepN k0 hk) hk')) hn (by omega) (fun i => (es[i]?.map fun e => (S.chkS e.2 != 0)).getD false)
      (fun i h W' hk' => asksS_any 72 (enters_of Tryz.func72 (by kernel_rfl) rfl) es[i].1 w.heap.size W' _ _ _ _ _ (HZ.out.keep (keepN hk hk') id) (S.chkS es[i].2) _ (by simp [h]) (fun W2 hk2 => he.out _ (List.getElem_mem h) W2 (keepN (keepN (keepN k0 hk) hk') hk2)))
      (!(es.all fun e => S.okS e.2))
      (by
        rintro ⟨i, hi, hb⟩
        have hi2 : i < es.length := by rw [hn.out]; exact hi
        simp only [List.getElem?_eq_getElem hi2, Option.map_some, Option.getD_some] at hb
        rw [Bool.not_eq_true', ← Bool.not_eq_true]
        intro hall
        have := List.all_eq_true.1 hall _ (List.getElem_mem hi2)
        rw [S.chkS_ok this] at hb
        exact absurd hb (by decide))
      (by
        intro hb
        rw [Bool.not_eq_false']
        refine List.all_eq_true.2 fun e hm => ?_
        obtain ⟨i, hi, rfl⟩ := List.getElem_of_mem hm
        have := hb i (by rw [← hn.out]; exact hi)
        simp only [List.getElem?_eq_getElem hi, Option.map_some, Option.getD_some] at this
        cases ho : S.okS es[i].2
        · rw [S.chkS_no ho] at this; exact absurd this (by decide)
        · rfl))
    unfold F.fnV at HC
    obtain ⟨al, hal⟩ : ∃ al, (es.all fun e => S.okS e.2) = al := ⟨_, rfl⟩
    rw [hal] at HC
    have HV : Hid (al = M) := by
      show _ = _
      rw [← HM.out, ← hal]; unfold mayS; rw [hn.out, decide_eq_true (by omega : 0 ≤ n ∧ n ≤ 64)]; rfl
    clear hal HM he hr HZ
    go_enter Tryz.func52, Tryz.ntmps52
    go_wp2_with fail
    refine (HC.out _ (Keep.refl _ _)).mono ?_
    rintro e w1 ⟨rfl, k1⟩
    go_wp2
    go_ret
    exact ⟨by rw [← HV.out]; cases al <;> rfl, keepN k0 k1⟩
  · have hd : decide ((n : Int) ≤ 64) = false := by rw [decide_eq_false_iff_not]; omega
    obtain rfl : false = M := by
      rw [← HM.out]; unfold mayS; rw [hn.out, decide_eq_false (by omega : ¬ (0 ≤ n ∧ n ≤ 64))]; rfl
    clear HM he hr HZ
    go_enter Tryz.func52, Tryz.ntmps52
    go_wp2
    go_ret
    exact ⟨rfl, k0⟩

set_option maxRecDepth 100000 in
set_option maxHeartbeats 4000000 in
theorem indexF_any (A : Option Addr) (fs : List FE) (n c k b : Nat) (w : World) (hcf : ∀ args w, (callFunc k args).run Tryz.prog w = .ok (.enter k args) w) (hr : Hid (∀ W, Keep NoB w W → Rd W A (fvs fs))) (hn : Hid (fs.length = n)) (hm : n ≤ 1000) (bs : Nat → Bool)
    (hq : Hid (∀ i (h : i < fs.length) W, Keep NoB w W → Calls Tryz.prog k #[fs[i].1.val, .pointer (some ⟨b, 0, none⟩)] W fun e W' => e = .returned (.bool (bs i)) ∧ Keep NoB W W')) :
    Calls Tryz.prog 148 #[.slice A n c, .func (.func k) #[] #[.pointer (some ⟨b, 0, none⟩)]] w fun e w' => ∃ R : Int, e = .returned (.int .i64 R) ∧ ((0 ≤ R ∧ ∃ i, i < n ∧ bs i = true) ∨ (R = -1 ∧ ∀ i, i < n → bs i = false)) ∧ Keep NoB w w' := by
  go_enter Tryz.func148, Tryz.ntmps148
  go_wp2
  go_loopw [8] (fun i wr => ∃ j : Nat, j ≤ n ∧ i = .int .i64 j ∧ Hid (∀ t, t < j → bs t = false) ∧ Keep NoB w wr) (fun i _ => n - (intOf i).toNat)
  case atStart => exact ⟨0, Nat.zero_le _, rfl, fun t h => absurd h (by omega), Keep.refl _ _⟩
  case round =>
    obtain ⟨j, hj, rfl, hB, hK⟩ := hrel
    by_cases hlt : j < n
    · have hje : j < fs.length := by rw [hn.out]; exact hlt
      obtain ⟨g, off, rfl, c0, c1, c2, c3, c4⟩ := fun_at (hr.out _ hK) hje
      have HQ := Lib.hid (hq.out j hje _ hK)
      generalize fs[j] = e at c0 c1 c2 c3 c4 HQ
      obtain ⟨⟨S1, A1, na1, ca1, B1, nb1, cb1, L1, nl1, cl1, D1, nd1, cd1⟩, l⟩ := e
      dsimp only [F.FV.val, F.FV.cells] at c0 c1 c2 c3 c4 HQ
      obtain ⟨bj, hbj⟩ : ∃ x, bs j = x := ⟨_, rfl⟩
      rw [hbj] at HQ
      have HBJ := Lib.hid hbj
      clear hbj
      go_wp2_with fail
      refine HQ.out.mono ?_
      rintro e w1 ⟨rfl, k1⟩
      replace hK := keepN hK k1
      cases bj
      · go_wp2
        go_roundw
        case rel => exact ⟨j + 1, by omega, by go_num, fun t ht => (by
          rcases Nat.lt_succ_iff_lt_or_eq.1 ht with h | rfl
          · exact hB.out t h
          · exact HBJ.out), hK⟩
        case measure => simp [intOf]; omega
      · go_wp2
        go_ret
        exact ⟨_, rfl, .inl ⟨by omega, j, hlt, HBJ.out⟩, hK⟩
    · obtain rfl : j = n := by omega
      go_wp2
      go_ret
      exact ⟨_, rfl, .inr ⟨rfl, hB.out⟩, hK⟩

set_option maxRecDepth 100000 in
set_option maxHeartbeats 2000000 in
theorem containsF_any (A : Option Addr) (fs : List FE) (n c k b : Nat) (w : World) (hcf : ∀ args w, (callFunc k args).run Tryz.prog w = .ok (.enter k args) w) (hr : Hid (∀ W, Keep NoB w W → Rd W A (fvs fs))) (hn : Hid (fs.length = n)) (hm : n ≤ 1000) (bs : Nat → Bool)
    (hq : Hid (∀ i (h : i < fs.length) W, Keep NoB w W → Calls Tryz.prog k #[fs[i].1.val, .pointer (some ⟨b, 0, none⟩)] W fun e W' => e = .returned (.bool (bs i)) ∧ Keep NoB W W'))
    (B : Bool) (h1 : Hid ((∃ i, i < n ∧ bs i = true) → B = true)) (h0 : Hid ((∀ i, i < n → bs i = false) → B = false)) :
    Calls Tryz.prog 96 #[.slice A n c, .func (.func k) #[] #[.pointer (some ⟨b, 0, none⟩)]] w fun e w' => e = .returned (.bool B) ∧ Keep NoB w w' := by
  have HI := Lib.hid (indexF_any A fs n c k b w hcf hr hn hm bs hq)
  clear hq hr hcf
  go_enter Tryz.func96, Tryz.ntmps96
  go_wp2_with fail
  refine HI.out.mono ?_
  rintro e w1 ⟨R, rfl, hR, k1⟩
  rcases hR with ⟨h2, h3⟩ | ⟨rfl, h3⟩
  · obtain rfl : B = true := h1.out h3
    have hd : decide ((0 : Int) ≤ R) = true := decide_eq_true h2
    clear h3 h1 h0
    go_wp2
    go_ret
    exact ⟨rfl, k1⟩
  · obtain rfl : B = false := h0.out h3
    clear h3 h1 h0
    go_wp2
    go_ret
    exact ⟨rfl, k1⟩

set_option maxRecDepth 100000 in
set_option maxHeartbeats 2000000 in
theorem asksF_any (k : Nat) (hcf : ∀ args w, (callFunc k args).run Tryz.prog w = .ok (.enter k args) w) (v : F.FV) (b : Nat) (w : World) (u0 u1 u3 u4 u5 : Value) (hb : Blk w b 93 #[u0, u1, F.fnV k, u3, u4, u5]) (R : Int) (B : Bool) (hB : (R != 0) = B)
    (HG : Hid (∀ W, Keep NoB w W → Calls Tryz.prog k #[v.val] W fun e w' => e = .returned (.int .i64 R) ∧ Keep NoB W w')) :
    Calls Tryz.prog 97 #[v.val, .pointer (some ⟨b, 0, none⟩)] w fun e w' => e = .returned (.bool B) ∧ Keep NoB w w' := by
  have k0 := (Keep.refl NoB w).alloc (.cells v.cells 61)
  have bx := Blk.new w 61 v.cells
  replace hb := hb.alloc (.cells v.cells 61)
  have c2 := hb.cell 2
  unfold F.fnV at c2
  simp only [List.getElem?_toArray, List.getElem?_cons_zero, List.getElem?_cons_succ] at c2
  clear hb
  obtain ⟨S1, A1, na1, ca1, B1, nb1, cb1, L1, nl1, cl1, D1, nd1, cd1⟩ := v
  obtain ⟨q0, q1, q2, q3, q4⟩ := F.blk5 bx
  dsimp only [F.FV.val, F.FV.cells] at HG k0 q0 q1 q2 q3 q4 c2 bx ⊢
  clear bx
  go_enter Tryz.func97, Tryz.ntmps97
  go_wp2_with fail
  refine (HG.out _ k0).mono ?_
  rintro e w1 ⟨rfl, k1⟩
  go_wp2
  go_ret
  exact ⟨rfl, keepN k0 k1⟩

/-- What an image's parts of this kind have. -/
def partF : Value := .agg #[.int .i64 1, .int .i64 64, F.fnV 76, F.fnV 77, F.fnV 78, F.fnV 79]
theorem partF_size : (Tryz.prog.info? 93).map (·.size) = some 6 := by kernel_rfl
set_option maxRecDepth 100000 in
set_option maxHeartbeats 2000000 in
theorem partsF_any (w : World) : Calls Tryz.prog 39 #[] w fun e w' => e = .returned partF ∧ Keep NoB w w' := by
  have bz := Blk.new w 93 #[.int .i64 1, .int .i64 64, F.fnV 76, F.fnV 77, F.fnV 78, F.fnV 79]
  have k0 := (Keep.refl NoB w).alloc (.cells #[.int .i64 1, .int .i64 64, F.fnV 76, F.fnV 77, F.fnV 78, F.fnV 79] 93)
  have HB := Lib.hid bz
  have HK := Lib.hid k0
  unfold partF F.fnV at *
  clear bz k0
  go_enter Tryz.func39, Tryz.ntmps39
  go_wp2
  refine bodyPost_ret (results_cell_row rfl _ _ w.heap.size 93 _ (0, 0) _ rfl HB.out Tryz.underlying93 rfl partF_size) rfl ?_
  exact ⟨rfl, HK.out⟩

/-- What may answers. -/
def mayF (l : List FE) : Bool := decide (1 ≤ l.length ∧ l.length ≤ 64) && l.all fun e => F.okF e.2
set_option maxRecDepth 100000 in
set_option maxHeartbeats 4000000 in
theorem mayF_any (A : Option Addr) (fs : List FE) (n c : Nat) (w : World) (hr : Hid (∀ W, Keep NoB w W → Rd W A (fvs fs))) (hn : Hid (fs.length = n)) (hm : n ≤ 9223372036854775807) (he : Hid (∀ e ∈ fs, ∀ W, Keep NoB w W → Calls Tryz.prog 76 #[e.1.val] W fun r W' => r = .returned (.int .i64 (F.chkF e.2)) ∧ Keep NoB W W')) :
    Calls Tryz.prog 53 #[.slice A n c, partF] w fun r w' => r = .returned (.bool (mayF fs)) ∧ Keep NoB w w' := by
  have bz := Blk.new w 93 #[.int .i64 1, .int .i64 64, F.fnV 76, F.fnV 77, F.fnV 78, F.fnV 79]
  have k0 := (Keep.refl NoB w).alloc (.cells #[.int .i64 1, .int .i64 64, F.fnV 76, F.fnV 77, F.fnV 78, F.fnV 79] 93)
  have hmf : ∀ (fn : Go.Fn) (first cap : Array Value) (w : World), (Instr.makeFunc fn first cap).run Tryz.prog w = .ok (.func fn first cap) w := fun _ _ _ _ => rfl
  have q0 := bz.cell 0
  have q1 := bz.cell 1
  simp only [List.getElem?_toArray, List.getElem?_cons_zero, List.getElem?_cons_succ] at q0 q1
  have HZ := Lib.hid bz
  obtain ⟨M, hM⟩ : ∃ M, mayF fs = M := ⟨_, rfl⟩
  rw [hM]
  have HM := Lib.hid hM
  clear hM bz
  unfold partF F.fnV at *
  by_cases hz : n = 0
  · subst hz
    obtain rfl : false = M := by
      rw [← HM.out]; unfold mayF; rw [hn.out]; rfl
    clear HM he hr HZ
    go_enter Tryz.func53, Tryz.ntmps53
    go_wp2
    go_ret
    exact ⟨rfl, k0⟩
  have hd1 : decide ((1 : Int) ≤ (n : Int)) = true := by rw [decide_eq_true_iff]; omega
  by_cases h64 : n ≤ 64
  · have HC := Lib.hid (fun W (hk : Keep NoB (w.alloc (.cells #[.int .i64 1, .int .i64 64, F.fnV 76, F.fnV 77, F.fnV 78, F.fnV 79] 93)) W) => containsF_any A fs n c 97 w.heap.size W (enters_of Tryz.func97 (by kernel_rfl) rfl) (fun W' hk' => hr.out W' (keepN (keepN k0 hk) hk')) hn (by omega) (fun i => (fs[i]?.map fun e => (F.chkF e.2 != 0)).getD false)
      (fun i h W' hk' => asksF_any 76 (enters_of Tryz.func76 (by kernel_rfl) rfl) fs[i].1 w.heap.size W' _ _ _ _ _ (HZ.out.keep (keepN hk hk') id) (F.chkF fs[i].2) _ (by simp [h]) (fun W2 hk2 => he.out _ (List.getElem_mem h) W2 (keepN (keepN (keepN k0 hk) hk') hk2)))
      (!(fs.all fun e => F.okF e.2))
      (by
        rintro ⟨i, hi, hb⟩
        have hi2 : i < fs.length := by rw [hn.out]; exact hi
        simp only [List.getElem?_eq_getElem hi2, Option.map_some, Option.getD_some] at hb
        rw [Bool.not_eq_true', ← Bool.not_eq_true]
        intro hall
        have := List.all_eq_true.1 hall _ (List.getElem_mem hi2)
        rw [F.chkF_ok this] at hb
        exact absurd hb (by decide))
      (by
        intro hb
        rw [Bool.not_eq_false']
        refine List.all_eq_true.2 fun e hm => ?_
        obtain ⟨i, hi, rfl⟩ := List.getElem_of_mem hm
        have := hb i (by rw [← hn.out]; exact hi)
        simp only [List.getElem?_eq_getElem hi, Option.map_some, Option.getD_some] at this
        cases ho : F.okF fs[i].2
        · rw [F.chkF_no ho] at this; exact absurd this (by decide)
        · rfl))
    unfold F.fnV at HC
    obtain ⟨al, hal⟩ : ∃ al, (fs.all fun e => F.okF e.2) = al := ⟨_, rfl⟩
    rw [hal] at HC
    have HV : Hid (al = M) := by
      show _ = _
      rw [← HM.out, ← hal]; unfold mayF; rw [hn.out, decide_eq_true (by omega : 1 ≤ n ∧ n ≤ 64)]; rfl
    clear hal HM he hr HZ
    go_enter Tryz.func53, Tryz.ntmps53
    go_wp2_with fail
    refine (HC.out _ (Keep.refl _ _)).mono ?_
    rintro e w1 ⟨rfl, k1⟩
    go_wp2
    go_ret
    exact ⟨by rw [← HV.out]; cases al <;> rfl, keepN k0 k1⟩
  · have hd : decide ((n : Int) ≤ 64) = false := by rw [decide_eq_false_iff_not]; omega
    obtain rfl : false = M := by
      rw [← HM.out]; unfold mayF; rw [hn.out, decide_eq_false (by omega : ¬ (1 ≤ n ∧ n ≤ 64))]; rfl
    clear HM he hr HZ
    go_enter Tryz.func53, Tryz.ntmps53
    go_wp2
    go_ret
    exact ⟨rfl, k0⟩

end Go.Proofs.YtgifflfjhockaaaGreatDoor.I

namespace Go.Proofs.YtgifflfjhockaaaGreatDoor.I
open Go.RowKit W

theorem shape_info : (Tryz.prog.info? 58).map (fun i => (i.zero, i.size, i.bytes)) = some (some (.slice none 0 0), 1, 24) := by kernel_rfl
theorem shape_size1 : (Tryz.prog.info? 58).map (·.size) = some 1 := by kernel_rfl
theorem fun_info : (Tryz.prog.info? 61).map (fun i => (i.zero, i.size, i.bytes)) = some (some (.agg F.nilV.cells), 5, 112) := by kernel_rfl
theorem made_gen {w w1 : World} {E sz n : Nat} {zs : List Value} (hrow : w1.ownsRow 0 E sz (.slice (some ⟨w.heap.size, 0, none⟩) n n) n zs) : ∃ rest : List Value, rest.length = n * sz ∧ Blk w1 w.heap.size E ([] ++ rest).toArray := by
  obtain ⟨h3, h4⟩ := hrow
  rcases h4 with ⟨h4, _⟩ | ⟨g, cap, cur, h4, _, h6, _, _, h7, _⟩
  · cases h4
  · injection h4 with h4 _ h8
    injection h4 with h4
    injection h4 with h4 _ _
    subst h4 h8
    exact ⟨cur.toList, by simpa using h7, by rw [List.nil_append, Array.toArray_toList]; exact h6⟩
theorem split_at {rest : List Value} {m sz : Nat} (h : rest.length = m) (h0 : sz ≤ m) : ∃ old r, rest = old ++ r ∧ old.length = sz ∧ r.length = m - sz :=
  ⟨rest.take sz, rest.drop sz, (List.take_append_drop _ _).symm, by rw [List.length_take]; omega, by rw [List.length_drop]; omega⟩
theorem own_blk {W : World} {g E sz n : Nat} {P : Nat → Prop} {xs : List Value} (h : Blk W g E xs.toArray) (hl : xs.length = n * sz) (hm : n ≤ maxLen) (hP : P g) : Own W E sz P (.slice (some ⟨g, 0, none⟩) n n) n xs :=
  ⟨⟨hl, .inr ⟨g, n, xs.toArray, rfl, Nat.zero_le _, h, Nat.le_refl _, hm, by simpa using hl, by rw [← hl]; simp⟩⟩, fun k e => by cases e; exact hP⟩
/-- A value put at an element's place. -/
theorem wpList_putN {ops : Array Oper} {rest : List Oper} {o : Oper} {a : Act} {w : World} {Q : Exit → Act → World → Prop} (hgd : o.guard = none) (x y : Operand) {E sz : Nat} (ho : o.op = .store E x y) (hE : (Tryz.prog.info? E).map (·.size) = some sz)
    {g off : Nat} {pre old r : List Value} {u : Value} (hB : Blk w g E (pre ++ (old ++ r)).toArray) (hp : pre.length = off) (hol : old.length = sz) (hu : u.cells.size = sz) (h1 : ∀ c ∈ u.cells.toList, c.oneCell' = true)
    (hx : a.eval x = .pointer (some ⟨g, off, none⟩)) (hy : a.eval y = u)
    (h : ∀ w', Blk w' g E (pre ++ u.cells.toList ++ r).toArray → Keep (fun b => b = g) w w' → wpList Tryz.prog ops Q rest (a.put o.dst undef) w') : wpList Tryz.prog ops Q (o :: rest) a w := by
  refine wpList_plain hgd fun K hK => ?_
  have hul : u.cells.toList.length = sz := by simpa using hu
  have hst := run_storeCells_at Tryz.prog g off E u.cells.toList 0 _ w hB (by simp; omega) h1
  have e : (pre ++ (old ++ r)).take (off + 0) ++ u.cells.toList ++ (pre ++ (old ++ r)).drop (off + 0 + u.cells.toList.length) = pre ++ u.cells.toList ++ r := by
    rw [Nat.add_zero, ← hp, List.take_left', List.drop_length_add_append, hul, ← hol, List.drop_left'] <;> rfl
  rw [e] at hst
  try rw [Nat.add_zero] at hst
  cases hq : Tryz.prog.info? E with
  | none => rw [hq] at hE; cases hE
  | some i0 =>
    have hz : i0.size = sz := by simpa [hq] using hE
    have hrun : (storeVar E ⟨g, off, none⟩ u).run Tryz.prog w = .ok () (w.setRow g (pre ++ u.cells.toList ++ r).toArray) := by
      simp [storeVar, sizeOf, typeInfo, hq, hz, hu, hst]
    unfold Oper.wp execOp
    simp only [ho, hx, hy, Instr.storeAt, Instr.sureAddr, Sem.run_bind, Sem.run_pure, Result.andThen_ok, hrun]
    exact hK _ _ (h _ (setRow_heap w g _ _ _ _ hB) ⟨rfl, rfl, rfl, by simp, fun b _ hne => setRow_other w g b _ hne⟩)

/-- Parts that are owned, each. -/
def OwnS (W : World) (P : Nat → Prop) (e : SE) : Prop := Own W 3 1 P (.slice e.1.A e.1.n e.1.c) e.1.n (ivs e.2)
theorem OwnS.keep {W W' : World} {P O : Nat → Prop} {e : SE} (h : OwnS W P e) (hk : Keep O W W') (hn : ∀ k, P k → ¬ O k) : OwnS W' P e := by
  unfold OwnS at *
  exact h.keep hk hn
theorem OwnS.mono {W : World} {P P' : Nat → Prop} {e : SE} (h : OwnS W P e) (hP : ∀ k, P k → k < W.heap.size → P' k) : OwnS W P' e := by
  unfold OwnS at *
  exact h.mono hP
/-- How read ends. -/
def RdRS (w : World) (br : Nat) (At : World → Nat → Prop) (R : Option (List (List Int) × Nat)) (e : Ending) (w' : World) : Prop :=
  (R = none ∧ e = .returned (.tuple #[.slice none 0 0, .bool false]) ∧ (∃ q, At w' q) ∧ Keep (fun k => k = br) w w') ∨
  (∃ q A n c, ∃ es : List SE, R = some (es.map (fun e => e.2), q) ∧ e = .returned (.tuple #[.slice A n c, .bool true]) ∧ Own w' 58 1 (Fresh w) (.slice A n c) n (svs es) ∧ (∀ e ∈ es, OwnS w' (Fresh w) e) ∧ At w' q ∧ Keep (fun k => k = br) w w')
theorem rdLS_1 {l : List UInt8} {p n r q : Nat} (h : V.NumR l p 64 = (n, r, q)) (hr : r ≠ 0) : rdL (S.decS l) l p = none := by unfold rdL; rw [h]; exact if_neg hr
theorem rdLS_2 {l : List UInt8} {p n q : Nat} (h : V.NumR l p 64 = (n, 0, q)) : rdL (S.decS l) l p = rdK (S.decS l) n q := by unfold rdL; rw [h]; exact if_pos rfl
/-- One part read: a failure, or the part, owned. -/
theorem decS_cases (w : World) (br : Nat) (Ob : Nat → Prop) (l : List UInt8) (p : Nat) (hO : ∀ k, Ob k → k < w.heap.size) (h : V.ReelAt w br Ob l p) (hlen : l.length ≤ 140737488355328) :
    Calls Tryz.prog 74 #[.pointer (some ⟨br, 0, none⟩)] w fun r w' => (∃ E q, ∃ e : SE, r = .returned (.tuple #[e.1.val, .int .i64 E]) ∧ E ≠ 0 ∧ (S.decS l) p = none ∧ V.ReelAt w' br Ob l q ∧ Keep (fun k => k = br) w w') ∨
      (∃ q, ∃ e : SE, r = .returned (.tuple #[e.1.val, .int .i64 0]) ∧ (S.decS l) p = some (e.2, q) ∧ OwnS w' (Fresh w) e ∧ V.ReelAt w' br Ob l q ∧ Keep (fun k => k = br) w w') := by
  have _ := hO
  refine (S.decodeS_any w br Ob l p h hlen).mono ?_
  rintro r w' ⟨v, q, rfl, hv, hat, hq, hk⟩
  obtain ⟨A, c, rfl, _, _, _, _⟩ := hv.form
  cases hd : S.decS l p with
  | none =>
    exact .inl ⟨60, q, (⟨A, 0, c⟩, []), rfl, by decide, rfl, hat, hk⟩
  | some y =>
    obtain ⟨y, q'⟩ := y
    have hv2 : Own w' 3 1 (Fresh w) (.slice A y.length c) y.length (ivs y) := by rw [hd] at hv; exact hv
    refine .inr ⟨q', (⟨A, y.length, c⟩, y), ?_, rfl, hv2, ?_, hk⟩
    · rfl
    · have := hq _ hd
      dsimp only at this
      rw [← this]; exact hat

set_option maxRecDepth 100000 in
set_option maxHeartbeats 8000000 in
theorem readS_any (w : World) (br : Nat) (Ob : Nat → Prop) (l : List UInt8) (p : Nat) (hO : ∀ k, Ob k → k < w.heap.size) (h : V.ReelAt w br Ob l p) (hlen : l.length ≤ 140737488355328) :
    Calls Tryz.prog 85 #[.pointer (some ⟨br, 0, none⟩), partS] w (RdRS w br (fun w' q => V.ReelAt w' br Ob l q) (rdL (S.decS l) l p)) := by
  have hbr := S.reel_lt h
  have bz := Blk.new w 86 #[.int .i64 0, .int .i64 64, F.fnV 72, F.fnV 73, F.fnV 74, F.fnV 75]
  have k0 := (Keep.refl NoB w).alloc (.cells #[.int .i64 0, .int .i64 64, F.fnV 72, F.fnV 73, F.fnV 74, F.fnV 75] 86)
  have HS := Lib.hid (V.rnumber_any _ br Ob l p 64 (h.keep k0 (fun _ _ => id)) hlen)
  obtain ⟨n, r, q, hN, hN0, hN1⟩ := S.num_case l p 64
  rw [hN] at HS
  have z1 := bz.cell 1
  simp only [List.getElem?_toArray, List.getElem?_cons_zero, List.getElem?_cons_succ] at z1
  have HZ := Lib.hid bz
  unfold partS F.fnV at *
  clear h bz
  by_cases hr : r = 0
  · subst hr
    obtain ⟨hn1, hn2⟩ := hN0 rfl
    have HD := Lib.hid (rdLS_2 hN)
    obtain ⟨i0, hi, hz0, hz1, hz2⟩ := info_parts shape_info
    have HO := Lib.hid hO
    clear hN0 hN1 hN hO
    go_enter Tryz.func85, Tryz.ntmps85
    go_wp2_with fail
    refine HS.out.mono ?_
    rintro e w1 ⟨rfl, h1, k1⟩
    have gs := k1.size
    simp only [World.size_alloc] at gs
    have hZ1 := HZ.out.keep k1 (by show ¬ (w.heap.size = br); omega)
    go_wp2_with (at_make; refine wpList_make_full _ rfl _ _ 22 rfl 0 58 i0 _ 1 Tryz.underlying22 hi hz0 hz1 _ _ _ _ n rfl rfl rfl rfl (by rw [hz2]; omega) (by unfold maxLen; omega) (Nat.zero_le _) ?_; intro w2 hrow2 hg2; obtain ⟨rest, hrl, hB2⟩ := made_gen hrow2; have k2 : Keep NoB w1 w2 := (Keep.refl NoB w1).grown hg2 (fun g e _ => by cases e); clear hrow2 hg2)
    have h2 := h1.keep k2 (fun _ _ => id)
    have gK : Keep (fun k => k = br) w w2 := ((k0.mono (fun _ hf _ => hf.elim)).trans k1 (fun _ ho _ => ho)).trans (k2.mono (fun _ hf _ => hf.elim)) (fun _ ho _ => ho)
    have HZ2 := Lib.hid (hZ1.keep k2 id)
    clear h1 k1 k2 hZ1 HZ k0 z1 HS
    go_loopw [24] (fun i wr => ∃ k : Nat, k ≤ n ∧ i = .int .i64 k ∧ ∃ es : List SE, ∃ qk rest, Hid (rdK (S.decS l) k q = some (es.map (fun e => e.2), qk)) ∧ es.length = k ∧ rest.length = (n - k) * 1 ∧ Hid (Blk wr w1.heap.size 58 (svs es ++ rest).toArray) ∧ Hid (∀ e ∈ es, OwnS wr (fun b => w.heap.size ≤ b ∧ b ≠ w1.heap.size) e) ∧ V.ReelAt wr br Ob l qk ∧ Keep (fun k => k = br) w wr ∧ w1.heap.size < wr.heap.size ∧ Hid (Blk wr w.heap.size 86 #[.int .i64 0, .int .i64 64, .func (.func 72) #[] #[], .func (.func 73) #[] #[], .func (.func 74) #[] #[], .func (.func 75) #[] #[]])) (fun i _ => n - (intOf i).toNat)
    case atStart => exact ⟨0, Nat.zero_le _, rfl, [], q, rest, rfl, rfl, hrl, hB2, (fun _ h => nomatch h), h2, gK, hB2.lt, HZ2.out⟩
    case round =>
      clear hB2 h2 gK hrl HZ2
      obtain ⟨k, hk, rfl, es, qk, rest, hf, hel, hrl, hB, hE, hA, hK, hwz, hZ⟩ := hrel
      by_cases hlt : k < n
      · obtain ⟨old, r, rfl, hol, hrl2⟩ := split_at hrl (show 1 ≤ (n - k) * 1 by omega)
        have HE := Lib.hid (decS_cases wr br Ob l qk (fun k h => Nat.lt_of_lt_of_le (HO.out k h) hK.size) hA hlen)
        have z4 := hZ.out.cell 4
        simp only [List.getElem?_toArray, List.getElem?_cons_zero, List.getElem?_cons_succ] at z4
        clear hA
        go_wp2_with fail
        refine HE.out.mono ?_
        have hgo : ∀ k, Ob k → ¬ (k = w1.heap.size) := fun k h e => by have := HO.out k h; omega
        have hgz : ¬ (w1.heap.size = br) := by omega
        have hwbr : ¬ (w.heap.size = br) := by omega
        have hwg : ¬ (w.heap.size = w1.heap.size) := by omega
        rintro e w4 (⟨E, q4, ⟨ev, ey⟩, rfl, hE0, hnone, h4, k4⟩ | ⟨q4, ⟨ev, ey⟩, rfl, hsome, hO4, h4, k4⟩)
        · have hB4 := hB.out.keep k4 hgz
          have hK4 := hK.trans k4 (fun _ ho _ => ho)
          have hr3 : (E != 0) = true := by rw [bne_iff_ne]; exact hE0
          have HD2 := Lib.hid (HD.out.trans (rdK_none (rdK_succ_no hf.out hnone) n (by omega)))
          clear hB hK k4 hE hZ z4 hnone hf
          obtain ⟨A1, n1, d1⟩ := ev
          have HU : Hid (∀ c ∈ (Value.slice A1 n1 d1).cells.toList, c.oneCell' = true) := fun u hu => by
            simp [Value.cells] at hu
            subst hu; rfl
          dsimp only [SV.val]
          go_wp2_with (refine wpList_putN rfl _ _ rfl shape_size1 hB4 (by rw [svs_length, hel]) hol (by rfl) HU.out rfl rfl ?_; intro w6 hB6 k6)
          go_ret2
          exact .inl ⟨HD2.out, rfl, ⟨q4, h4.keep k6 hgo⟩, hK4.trans k6 (fun b e hl => by omega)⟩
        · have hB4 := hB.out.keep k4 hgz
          have hK4 := hK.trans k4 (fun _ ho _ => ho)
          have hZ4 := hZ.out.keep k4 hwbr
          have HE4 : Hid (∀ e ∈ es, OwnS w4 (fun b => w.heap.size ≤ b ∧ b ≠ w1.heap.size) e) := fun e he => (hE.out e he).keep k4 (fun b hb e => by omega)
          have HN : Hid (OwnS w4 (fun b => w.heap.size ≤ b ∧ b ≠ w1.heap.size) (ev, ey)) := hO4.mono (fun b (hb : Fresh wr b) _ => ⟨Nat.le_trans hK.size hb, by have : wr.heap.size ≤ b := hb; omega⟩)
          have HF2 : Hid (rdK (S.decS l) (k + 1) q = some ((es ++ [(ev, ey)]).map (fun e => e.2), q4)) := by
            show _ = _
            rw [rdK_succ hf.out hsome]; simp
          have hsz4 := k4.size
          clear hB hK k4 hE hZ z4 hsome hf hO4
          obtain ⟨A1, n1, d1⟩ := ev
          have HU : Hid (∀ c ∈ (Value.slice A1 n1 d1).cells.toList, c.oneCell' = true) := fun u hu => by
            simp [Value.cells] at hu
            subst hu; rfl
          have HL := Lib.hid (And.intro HE4.out (And.intro HN.out (And.intro hK4 (And.intro h4 hZ4))))
          clear HE4 HN hK4 h4 hZ4
          dsimp only [SV.val]
          go_wp2_with (refine wpList_putN rfl _ _ rfl shape_size1 hB4 (by rw [svs_length, hel]) hol (by rfl) HU.out rfl rfl ?_; intro w6 hB6 k6)
          obtain ⟨HE4, HN, hK4, h4, hZ4⟩ := HL.out
          have hE6 : ∀ e ∈ es ++ [((⟨A1, n1, d1⟩ : SV), ey)], OwnS w6 (fun b => w.heap.size ≤ b ∧ b ≠ w1.heap.size) e := fun e he => by
            rcases List.mem_append.1 he with he | he
            · exact (HE4 e he).keep k6 (fun b hb e => hb.2 e)
            · rw [List.mem_singleton.1 he]; exact HN.keep k6 (fun b hb e => hb.2 e)
          have hBe : (svs es ++ [Value.slice A1 n1 d1] ++ r) = svs (es ++ [((⟨A1, n1, d1⟩ : SV), ey)]) ++ r := by rw [svs_append]; rfl
          replace hB6 : Blk w6 w1.heap.size 58 (svs (es ++ [((⟨A1, n1, d1⟩ : SV), ey)]) ++ r).toArray := by rw [← hBe]; exact hB6
          have hsz6 := k6.size
          go_roundw
          case rel => exact ⟨k + 1, by omega, by go_num, es ++ [((⟨A1, n1, d1⟩ : SV), ey)], q4, r, HF2.out, by simp [hel], by omega, hB6, hE6, h4.keep k6 hgo, hK4.trans k6 (fun b e hl => by omega), by omega, hZ4.keep k6 hwg⟩
          case measure => simp [intOf]; omega
      · obtain rfl : k = n := by omega
        obtain rfl : rest = [] := List.length_eq_zero_iff.1 (by rw [hrl]; omega)
        rw [List.append_nil] at hB
        rw [hf.out] at HD
        have hown : Own wr 58 1 (Fresh w) (.slice (some ⟨w1.heap.size, 0, none⟩) k k) k (svs es) := own_blk hB.out (by rw [svs_length, hel]; omega) (by unfold maxLen; omega) (by unfold Fresh; omega)
        clear hB hf
        go_wp2
        go_ret2
        exact .inr ⟨qk, _, k, k, es, HD.out, rfl, hown, fun e he => (hE.out e he).mono (fun b hb _ => hb.1), hA, hK⟩
  · have e1 := rdLS_1 hN hr
    rw [e1]
    have hr3 : ((r : Int) != 0) = true := by rw [bne_iff_ne]; omega
    clear hN0 hN1 hN hr e1
    go_enter Tryz.func85, Tryz.ntmps85
    go_wp2_with fail
    refine HS.out.mono ?_
    rintro e w1 ⟨rfl, h1, k1⟩
    go_wp2
    go_ret2
    exact .inl ⟨rfl, rfl, ⟨_, h1⟩, (k0.mono (fun _ hf _ => hf.elim)).trans k1 (fun _ ho _ => ho)⟩

/-- Parts that are owned, each. -/
def OwnF (W : World) (P : Nat → Prop) (e : FE) : Prop := F.OwnF W P e.1 e.2
theorem OwnF.keep {W W' : World} {P O : Nat → Prop} {e : FE} (h : OwnF W P e) (hk : Keep O W W') (hn : ∀ k, P k → ¬ O k) : OwnF W' P e := by
  unfold OwnF at *
  exact h.keep hk hn
theorem OwnF.mono {W : World} {P P' : Nat → Prop} {e : FE} (h : OwnF W P e) (hP : ∀ k, P k → k < W.heap.size → P' k) : OwnF W P' e := by
  unfold OwnF at *
  exact h.mono hP
/-- How read ends. -/
def RdRF (w : World) (br : Nat) (At : World → Nat → Prop) (R : Option (List (F.Fu) × Nat)) (e : Ending) (w' : World) : Prop :=
  (R = none ∧ e = .returned (.tuple #[.slice none 0 0, .bool false]) ∧ (∃ q, At w' q) ∧ Keep (fun k => k = br) w w') ∨
  (∃ q A n c, ∃ es : List FE, R = some (es.map (fun e => e.2), q) ∧ e = .returned (.tuple #[.slice A n c, .bool true]) ∧ Own w' 61 5 (Fresh w) (.slice A n c) n (fvs es) ∧ (∀ e ∈ es, OwnF w' (Fresh w) e) ∧ At w' q ∧ Keep (fun k => k = br) w w')
theorem rdLF_1 {l : List UInt8} {p n r q : Nat} (h : V.NumR l p 64 = (n, r, q)) (hr : r ≠ 0) : rdL (F.decF l) l p = none := by unfold rdL; rw [h]; exact if_neg hr
theorem rdLF_2 {l : List UInt8} {p n q : Nat} (h : V.NumR l p 64 = (n, 0, q)) : rdL (F.decF l) l p = rdK (F.decF l) n q := by unfold rdL; rw [h]; exact if_pos rfl
/-- One part read: a failure, or the part, owned. -/
theorem decF_cases (w : World) (br : Nat) (Ob : Nat → Prop) (l : List UInt8) (p : Nat) (hO : ∀ k, Ob k → k < w.heap.size) (h : V.ReelAt w br Ob l p) (hlen : l.length ≤ 140737488355328) :
    Calls Tryz.prog 78 #[.pointer (some ⟨br, 0, none⟩)] w fun r w' => (∃ E q, ∃ e : FE, r = .returned (.tuple #[e.1.val, .int .i64 E]) ∧ E ≠ 0 ∧ (F.decF l) p = none ∧ V.ReelAt w' br Ob l q ∧ Keep (fun k => k = br) w w') ∨
      (∃ q, ∃ e : FE, r = .returned (.tuple #[e.1.val, .int .i64 0]) ∧ (F.decF l) p = some (e.2, q) ∧ OwnF w' (Fresh w) e ∧ V.ReelAt w' br Ob l q ∧ Keep (fun k => k = br) w w') := by
  refine (F.decodeF_any w br Ob l p hO h hlen).mono ?_
  rintro r w' (⟨h1, rfl, ⟨q, hat⟩, hk⟩ | ⟨f, q, v, h1, rfl, hv, hat, hk⟩)
  · exact .inl ⟨70, q, (F.nilV, F.nilF), rfl, by decide, h1, hat, hk⟩
  · exact .inr ⟨q, (v, f), rfl, h1, hv, hat, hk⟩

set_option maxRecDepth 100000 in
set_option maxHeartbeats 8000000 in
theorem readF_any (w : World) (br : Nat) (Ob : Nat → Prop) (l : List UInt8) (p : Nat) (hO : ∀ k, Ob k → k < w.heap.size) (h : V.ReelAt w br Ob l p) (hlen : l.length ≤ 140737488355328) :
    Calls Tryz.prog 86 #[.pointer (some ⟨br, 0, none⟩), partF] w (RdRF w br (fun w' q => V.ReelAt w' br Ob l q) (rdL (F.decF l) l p)) := by
  have hbr := S.reel_lt h
  have bz := Blk.new w 93 #[.int .i64 1, .int .i64 64, F.fnV 76, F.fnV 77, F.fnV 78, F.fnV 79]
  have k0 := (Keep.refl NoB w).alloc (.cells #[.int .i64 1, .int .i64 64, F.fnV 76, F.fnV 77, F.fnV 78, F.fnV 79] 93)
  have HS := Lib.hid (V.rnumber_any _ br Ob l p 64 (h.keep k0 (fun _ _ => id)) hlen)
  obtain ⟨n, r, q, hN, hN0, hN1⟩ := S.num_case l p 64
  rw [hN] at HS
  have z1 := bz.cell 1
  simp only [List.getElem?_toArray, List.getElem?_cons_zero, List.getElem?_cons_succ] at z1
  have HZ := Lib.hid bz
  unfold partF F.fnV at *
  clear h bz
  by_cases hr : r = 0
  · subst hr
    obtain ⟨hn1, hn2⟩ := hN0 rfl
    have HD := Lib.hid (rdLF_2 hN)
    obtain ⟨i0, hi, hz0, hz1, hz2⟩ := info_parts fun_info
    have HO := Lib.hid hO
    clear hN0 hN1 hN hO
    go_enter Tryz.func86, Tryz.ntmps86
    go_wp2_with fail
    refine HS.out.mono ?_
    rintro e w1 ⟨rfl, h1, k1⟩
    have gs := k1.size
    simp only [World.size_alloc] at gs
    have hZ1 := HZ.out.keep k1 (by show ¬ (w.heap.size = br); omega)
    go_wp2_with (at_make; refine wpList_make_full _ rfl _ _ 23 rfl 0 61 i0 _ 5 Tryz.underlying23 hi hz0 hz1 _ _ _ _ n rfl rfl rfl rfl (by rw [hz2]; omega) (by unfold maxLen; omega) (Nat.zero_le _) ?_; intro w2 hrow2 hg2; obtain ⟨rest, hrl, hB2⟩ := made_gen hrow2; have k2 : Keep NoB w1 w2 := (Keep.refl NoB w1).grown hg2 (fun g e _ => by cases e); clear hrow2 hg2)
    have h2 := h1.keep k2 (fun _ _ => id)
    have gK : Keep (fun k => k = br) w w2 := ((k0.mono (fun _ hf _ => hf.elim)).trans k1 (fun _ ho _ => ho)).trans (k2.mono (fun _ hf _ => hf.elim)) (fun _ ho _ => ho)
    have HZ2 := Lib.hid (hZ1.keep k2 id)
    clear h1 k1 k2 hZ1 HZ k0 z1 HS
    go_loopw [24] (fun i wr => ∃ k : Nat, k ≤ n ∧ i = .int .i64 k ∧ ∃ es : List FE, ∃ qk rest, Hid (rdK (F.decF l) k q = some (es.map (fun e => e.2), qk)) ∧ es.length = k ∧ rest.length = (n - k) * 5 ∧ Hid (Blk wr w1.heap.size 61 (fvs es ++ rest).toArray) ∧ Hid (∀ e ∈ es, OwnF wr (fun b => w.heap.size ≤ b ∧ b ≠ w1.heap.size) e) ∧ V.ReelAt wr br Ob l qk ∧ Keep (fun k => k = br) w wr ∧ w1.heap.size < wr.heap.size ∧ Hid (Blk wr w.heap.size 93 #[.int .i64 1, .int .i64 64, .func (.func 76) #[] #[], .func (.func 77) #[] #[], .func (.func 78) #[] #[], .func (.func 79) #[] #[]])) (fun i _ => n - (intOf i).toNat)
    case atStart => exact ⟨0, Nat.zero_le _, rfl, [], q, rest, rfl, rfl, hrl, hB2, (fun _ h => nomatch h), h2, gK, hB2.lt, HZ2.out⟩
    case round =>
      clear hB2 h2 gK hrl HZ2
      obtain ⟨k, hk, rfl, es, qk, rest, hf, hel, hrl, hB, hE, hA, hK, hwz, hZ⟩ := hrel
      by_cases hlt : k < n
      · obtain ⟨old, r, rfl, hol, hrl2⟩ := split_at hrl (show 5 ≤ (n - k) * 5 by omega)
        have HE := Lib.hid (decF_cases wr br Ob l qk (fun k h => Nat.lt_of_lt_of_le (HO.out k h) hK.size) hA hlen)
        have z4 := hZ.out.cell 4
        simp only [List.getElem?_toArray, List.getElem?_cons_zero, List.getElem?_cons_succ] at z4
        clear hA
        go_wp2_with fail
        refine HE.out.mono ?_
        have hgo : ∀ k, Ob k → ¬ (k = w1.heap.size) := fun k h e => by have := HO.out k h; omega
        have hgz : ¬ (w1.heap.size = br) := by omega
        have hwbr : ¬ (w.heap.size = br) := by omega
        have hwg : ¬ (w.heap.size = w1.heap.size) := by omega
        rintro e w4 (⟨E, q4, ⟨ev, ey⟩, rfl, hE0, hnone, h4, k4⟩ | ⟨q4, ⟨ev, ey⟩, rfl, hsome, hO4, h4, k4⟩)
        · have hB4 := hB.out.keep k4 hgz
          have hK4 := hK.trans k4 (fun _ ho _ => ho)
          have hr3 : (E != 0) = true := by rw [bne_iff_ne]; exact hE0
          have HD2 := Lib.hid (HD.out.trans (rdK_none (rdK_succ_no hf.out hnone) n (by omega)))
          clear hB hK k4 hE hZ z4 hnone hf
          obtain ⟨S1, A1, na1, ca1, B1, nb1, cb1, L1, nl1, cl1, D1, nd1, cd1⟩ := ev
          have HU : Hid (∀ c ∈ (Value.agg #[.string S1, .slice A1 na1 ca1, .slice B1 nb1 cb1, .slice L1 nl1 cl1, .slice D1 nd1 cd1]).cells.toList, c.oneCell' = true) := fun u hu => by
            simp [Value.cells] at hu
            rcases hu with rfl | rfl | rfl | rfl | rfl <;> rfl
          dsimp only [F.FV.val, F.FV.cells]
          go_wp2_with (refine wpList_putN rfl _ _ rfl F.fun_size hB4 (by rw [fvs_length, hel]) hol (by rfl) HU.out rfl rfl ?_; intro w6 hB6 k6)
          go_ret2
          exact .inl ⟨HD2.out, rfl, ⟨q4, h4.keep k6 hgo⟩, hK4.trans k6 (fun b e hl => by omega)⟩
        · have hB4 := hB.out.keep k4 hgz
          have hK4 := hK.trans k4 (fun _ ho _ => ho)
          have hZ4 := hZ.out.keep k4 hwbr
          have HE4 : Hid (∀ e ∈ es, OwnF w4 (fun b => w.heap.size ≤ b ∧ b ≠ w1.heap.size) e) := fun e he => (hE.out e he).keep k4 (fun b hb e => by omega)
          have HN : Hid (OwnF w4 (fun b => w.heap.size ≤ b ∧ b ≠ w1.heap.size) (ev, ey)) := hO4.mono (fun b (hb : Fresh wr b) _ => ⟨Nat.le_trans hK.size hb, by have : wr.heap.size ≤ b := hb; omega⟩)
          have HF2 : Hid (rdK (F.decF l) (k + 1) q = some ((es ++ [(ev, ey)]).map (fun e => e.2), q4)) := by
            show _ = _
            rw [rdK_succ hf.out hsome]; simp
          have hsz4 := k4.size
          clear hB hK k4 hE hZ z4 hsome hf hO4
          obtain ⟨S1, A1, na1, ca1, B1, nb1, cb1, L1, nl1, cl1, D1, nd1, cd1⟩ := ev
          have HU : Hid (∀ c ∈ (Value.agg #[.string S1, .slice A1 na1 ca1, .slice B1 nb1 cb1, .slice L1 nl1 cl1, .slice D1 nd1 cd1]).cells.toList, c.oneCell' = true) := fun u hu => by
            simp [Value.cells] at hu
            rcases hu with rfl | rfl | rfl | rfl | rfl <;> rfl
          have HL := Lib.hid (And.intro HE4.out (And.intro HN.out (And.intro hK4 (And.intro h4 hZ4))))
          clear HE4 HN hK4 h4 hZ4
          dsimp only [F.FV.val, F.FV.cells]
          go_wp2_with (refine wpList_putN rfl _ _ rfl F.fun_size hB4 (by rw [fvs_length, hel]) hol (by rfl) HU.out rfl rfl ?_; intro w6 hB6 k6)
          obtain ⟨HE4, HN, hK4, h4, hZ4⟩ := HL.out
          have hE6 : ∀ e ∈ es ++ [((⟨S1, A1, na1, ca1, B1, nb1, cb1, L1, nl1, cl1, D1, nd1, cd1⟩ : F.FV), ey)], OwnF w6 (fun b => w.heap.size ≤ b ∧ b ≠ w1.heap.size) e := fun e he => by
            rcases List.mem_append.1 he with he | he
            · exact (HE4 e he).keep k6 (fun b hb e => hb.2 e)
            · rw [List.mem_singleton.1 he]; exact HN.keep k6 (fun b hb e => hb.2 e)
          have hBe : (fvs es ++ [Value.string S1, .slice A1 na1 ca1, .slice B1 nb1 cb1, .slice L1 nl1 cl1, .slice D1 nd1 cd1] ++ r) = fvs (es ++ [((⟨S1, A1, na1, ca1, B1, nb1, cb1, L1, nl1, cl1, D1, nd1, cd1⟩ : F.FV), ey)]) ++ r := by rw [fvs_append]; rfl
          replace hB6 : Blk w6 w1.heap.size 61 (fvs (es ++ [((⟨S1, A1, na1, ca1, B1, nb1, cb1, L1, nl1, cl1, D1, nd1, cd1⟩ : F.FV), ey)]) ++ r).toArray := by rw [← hBe]; exact hB6
          have hsz6 := k6.size
          go_roundw
          case rel => exact ⟨k + 1, by omega, by go_num, es ++ [((⟨S1, A1, na1, ca1, B1, nb1, cb1, L1, nl1, cl1, D1, nd1, cd1⟩ : F.FV), ey)], q4, r, HF2.out, by simp [hel], by omega, hB6, hE6, h4.keep k6 hgo, hK4.trans k6 (fun b e hl => by omega), by omega, hZ4.keep k6 hwg⟩
          case measure => simp [intOf]; omega
      · obtain rfl : k = n := by omega
        obtain rfl : rest = [] := List.length_eq_zero_iff.1 (by rw [hrl]; omega)
        rw [List.append_nil] at hB
        rw [hf.out] at HD
        have hown : Own wr 61 5 (Fresh w) (.slice (some ⟨w1.heap.size, 0, none⟩) k k) k (fvs es) := own_blk hB.out (by rw [fvs_length, hel]) (by unfold maxLen; omega) (by unfold Fresh; omega)
        clear hB hf
        go_wp2
        go_ret2
        exact .inr ⟨qk, _, k, k, es, HD.out, rfl, hown, fun e he => (hE.out e he).mono (fun b hb _ => hb.1), hA, hK⟩
  · have e1 := rdLF_1 hN hr
    rw [e1]
    have hr3 : ((r : Int) != 0) = true := by rw [bne_iff_ne]; omega
    clear hN0 hN1 hN hr e1
    go_enter Tryz.func86, Tryz.ntmps86
    go_wp2_with fail
    refine HS.out.mono ?_
    rintro e w1 ⟨rfl, h1, k1⟩
    go_wp2
    go_ret2
    exact .inl ⟨rfl, rfl, ⟨_, h1⟩, (k0.mono (fun _ hf _ => hf.elim)).trans k1 (fun _ ho _ => ho)⟩

end Go.Proofs.YtgifflfjhockaaaGreatDoor.I

namespace Go.Proofs.YtgifflfjhockaaaGreatDoor.I
open Go.RowKit W

theorem img_size : (Tryz.prog.info? 25).map (·.size) = some 2 := by kernel_rfl
theorem ret_imgE {fn : Func} {tmps : Array Value} {w : World} {g : Nat} {v : IV} {e : Value} (h : fn.results = #[.cell 2 25, .tmp 3]) (hp : tmps.getD 2 undef = .pointer (some ⟨g, 0, none⟩)) (hb : Blk w g 25 v.cells) (he : tmps.getD 3 undef = e) :
    (results fn tmps).run Tryz.prog w = .ok (.tuple #[v.val, e]) w := by
  rw [results_cell_tmp h, hp, he]
  simp only [asAddr, Sem.run_pure, Result.andThen_ok]
  rw [run_loadVar_row w g 25 25 v.cells (0, 0) _ hb Tryz.underlying25 rfl img_size]
  rfl
theorem ret_img {fn : Func} {p : Tmp} {tmps : Array Value} {w : World} {g : Nat} {v : IV} (h : fn.results = #[.cell p 25]) (hp : tmps.getD p undef = .pointer (some ⟨g, 0, none⟩)) (hb : Blk w g 25 v.cells) :
    (results fn tmps).run Tryz.prog w = .ok v.val w :=
  results_cell_row h tmps w g 25 v.cells (0, 0) _ hp hb Tryz.underlying25 rfl img_size
theorem put2_img {W : World} {g : Nat} {x y : Value} (h : Blk W g 25 #[x, y]) (u v : Value) : Blk ((W.setCell ⟨g, 0, none⟩ u).setCell ⟨g, 1, none⟩ v) g 25 #[u, v] := by
  have := (h.put 0 u).put 1 v
  simpa using this
theorem keep2_img (W : World) (g : Nat) (u v : Value) : Keep (fun k => k = g) W ((W.setCell ⟨g, 0, none⟩ u).setCell ⟨g, 1, none⟩ v) :=
  ((Keep.refl (fun k => k = g) W).setCell (p := ⟨g, 0, none⟩) (fun _ => rfl) u).setCell (p := ⟨g, 1, none⟩) (fun _ => rfl) v
/-- How inner ends. -/
def InnR (w : World) (l : List UInt8) (e : Ending) (w' : World) : Prop :=
  ∃ v es fs, ∃ b : Bool, e = .returned (.tuple #[v.val, .bool b]) ∧ OwnIm w' (Fresh w) v es fs ∧ Keep NoB w w' ∧ (b = true → rdI l 0 = some (imOf es fs, l.length)) ∧ (b = false → ∀ x, rdI l 0 = some x → x.2 ≠ l.length)
theorem end_of {q n : Nat} : ((if q < n then (13 : Int) else 0) == 0) = decide (n ≤ q) := by
  by_cases h : q < n
  · rw [if_pos h, decide_eq_false (by omega)]; rfl
  · rw [if_neg h, decide_eq_true (by omega)]; rfl

set_option maxRecDepth 100000 in
set_option maxHeartbeats 8000000 in
theorem inner_any (A : Option Addr) (l : List UInt8) (c : Nat) (w : World) (hr : V.Rd w A l) (hlen : l.length ≤ 140737488355328) :
    Calls Tryz.prog 44 #[.slice A l.length c] w (InnR w l) := by
  have bz := Blk.new w 25 nilW.cells
  have k0 := (Keep.refl NoB w).alloc (.cells nilW.cells 25)
  have HO := Lib.hid (V.on_any (w.alloc (.cells nilW.cells 25)) A l c (hr.keep k0 (fun _ _ _ => id)) hlen)
  have HB := Lib.hid bz
  have hb0 := bz.lt
  unfold nilW IV.cells at *
  dsimp only at *
  generalize hw0 : w.alloc (.cells #[.slice none 0 0, .slice none 0 0] 25) = w0 at *
  clear hr bz
  go_enter Tryz.func44, Tryz.ntmps44
  go_wp2_with fail
  refine HO.out.mono ?_
  rintro e w1 ⟨br, rfl, h1, k1⟩
  have hbr : w.heap.size < br := by
    have := h1.1
    unfold Fresh at this; omega
  have h1' : V.ReelAt w1 br (fun k => w.heap.size < k ∧ k < w1.heap.size) l 0 := h1.mono (fun k hk hl => ⟨by unfold Fresh at hk; omega, hl⟩)
  have hB1 := HB.out.keep k1 id
  have gK := keepN k0 k1
  clear h1 k1 hw0 HO HB
  go_wp2_with fail
  refine (partsS_any _).mono ?_
  rintro e w2 ⟨rfl, k2⟩
  have h2 := h1'.keep k2 (fun _ _ => id)
  have hB2 := hB1.keep k2 id
  replace gK := keepN gK k2
  have hz2 := k2.size
  have hbr2 := S.reel_lt h2
  clear h1' k2 hB1
  go_wp2_with fail
  refine (readS_any w2 br _ l 0 (fun k hk => by have := hk.2; omega) h2 hlen).mono ?_
  rintro e w3 (⟨hnone, rfl, ⟨q, h3⟩, k3⟩ | ⟨q, A3, n3, c3, es, hsome, rfl, hO3, hE3, h3, k3⟩)
  · have hB3 := hB2.keep k3 (by show ¬ (w.heap.size = br); omega)
    have gK3 := gK.trans k3 (fun k e hl => by omega)
    have HN := Lib.hid (rdI_1 hnone)
    have hlt3 := hB3.lt
    have f3 := fun i => hB3.frozen i
    have hc30 := hB3.cell 0
    have hc31 := hB3.cell 1
    simp only [List.getElem?_toArray, List.getElem?_cons_zero, List.getElem?_cons_succ] at hc30 hc31
    have HP := Lib.hid (put2_img hB3 (.slice none 0 0) (.slice none 0 0))
    have HK := Lib.hid (gK3.trans (keep2_img w3 w.heap.size (.slice none 0 0) (.slice none 0 0)) (fun k e hl => by omega))
    clear hB2 gK h2 h3 k3 hnone hB3 gK3
    go_wp2
    refine bodyPost_ret (ret_imgE (v := nilW) rfl rfl HP.out rfl) rfl ?_
    exact ⟨nilW, [], [], false, rfl, nil_own _ _, HK.out, (fun h => nomatch h), fun _ x hx => by rw [HN.out] at hx; cases hx⟩
  · have hB3 := hB2.keep k3 (by show ¬ (w.heap.size = br); omega)
    have gK3 := gK.trans k3 (fun k e hl => by omega)
    have hz3 := k3.size
    have hbr3 := S.reel_lt h3
    have hw2 : w.heap.size < w2.heap.size := hB2.lt
    clear hB2 gK h2 k3
    go_wp2_with fail
    refine (partsF_any _).mono ?_
    rintro e w4 ⟨rfl, k4⟩
    have h4 := h3.keep k4 (fun _ _ => id)
    have hB4 := hB3.keep k4 id
    have gK4 := keepN gK3 k4
    have hO4 := hO3.keepN k4
    have hE4 : ∀ e ∈ es, OwnS w4 (Fresh w2) e := fun e he => (hE3 e he).keep k4 (fun _ _ => id)
    have hz4 := k4.size
    clear h3 hB3 gK3 hO3 hE3 k4
    go_wp2_with fail
    refine (readF_any w4 br _ l q (fun k hk => by have := hk.2; omega) h4 hlen).mono ?_
    rintro e w5 (⟨hnone, rfl, ⟨q5, h5⟩, k5⟩ | ⟨q5, A5, n5, c5, fs, hsome5, rfl, hO5, hF5, h5, k5⟩)
    · have hB5 := hB4.keep k5 (by show ¬ (w.heap.size = br); omega)
      have gK5 := gK4.trans k5 (fun k e hl => by omega)
      have hO5 := hO4.keep k5 (fun k hk e => by unfold Fresh at hk; omega)
      have hE5 : ∀ e ∈ es, OwnS w5 (Fresh w2) e := fun e he => (hE4 e he).keep k5 (fun k hk e => by unfold Fresh at hk; omega)
      have HN := Lib.hid (rdI_2 hsome hnone)
      have hlt5 := hB5.lt
      have f5 := fun i => hB5.frozen i
      have hc50 := hB5.cell 0
      have hc51 := hB5.cell 1
      simp only [List.getElem?_toArray, List.getElem?_cons_zero, List.getElem?_cons_succ] at hc50 hc51
      have HP := Lib.hid (put2_img hB5 (.slice A3 n3 c3) (.slice none 0 0))
      have kq := keep2_img w5 w.heap.size (.slice A3 n3 c3) (.slice none 0 0)
      have HK := Lib.hid (gK5.trans kq (fun k e hl => by omega))
      have HOI : Hid (OwnIm ((w5.setCell ⟨w.heap.size, 0, none⟩ (.slice A3 n3 c3)).setCell ⟨w.heap.size, 1, none⟩ (.slice none 0 0)) (Fresh w) ⟨A3, n3, c3, none, 0, 0⟩ es []) :=
        ⟨(hO5.keep kq (fun k hk e => by unfold Fresh at hk; omega)).mono (fun k hk _ => by unfold Fresh at *; omega), Own.nil _ _ _ _, fun e he => (((hE5 e he).keep kq (fun k hk e => by unfold Fresh at hk; omega)).mono (fun k hk _ => by unfold Fresh at *; omega) : OwnS _ (Fresh w) e), (fun _ h => nomatch h)⟩
      clear hB4 gK4 h4 h5 k5 hnone hB5 gK5 hO4 hE4 hO5 hE5 kq hsome
      go_wp2
      refine bodyPost_ret (ret_imgE (v := ⟨A3, n3, c3, none, 0, 0⟩) rfl rfl HP.out rfl) rfl ?_
      exact ⟨⟨A3, n3, c3, none, 0, 0⟩, es, [], false, rfl, HOI.out, HK.out, (fun h => nomatch h), fun _ x hx => by rw [HN.out] at hx; cases hx⟩
    · have hB5 := hB4.keep k5 (by show ¬ (w.heap.size = br); omega)
      have gK5 := gK4.trans k5 (fun k e hl => by omega)
      have hO3 := hO4.keep k5 (fun k hk e => by unfold Fresh at hk; omega)
      have hE3 : ∀ e ∈ es, OwnS w5 (Fresh w2) e := fun e he => (hE4 e he).keep k5 (fun k hk e => by unfold Fresh at hk; omega)
      have HN := Lib.hid (rdI_3 hsome hsome5)
      have hq5 : q5 ≤ l.length := h5.2.1
      clear hB4 gK4 h4 hO4 hE4 hsome hsome5
      go_wp2_with fail
      refine (V.end_any w5 br _ l q5 h5).mono ?_
      rintro e w6 ⟨rfl, k6⟩
      have hB6 := hB5.keep k6 id
      have gK6 := keepN gK5 k6
      have hO6 := hO3.keepN k6
      have hP6 := hO5.keepN k6
      have hE6 : ∀ e ∈ es, OwnS w6 (Fresh w2) e := fun e he => (hE3 e he).keep k6 (fun _ _ => id)
      have hF6 : ∀ e ∈ fs, OwnF w6 (Fresh w4) e := fun e he => (hF5 e he).keep k6 (fun _ _ => id)
      have hz6 := k6.size
      have hend := end_of (q := q5) (n := l.length)
      have hlt6 := hB6.lt
      have f6 := fun i => hB6.frozen i
      have hc60 := hB6.cell 0
      have hc61 := hB6.cell 1
      simp only [List.getElem?_toArray, List.getElem?_cons_zero, List.getElem?_cons_succ] at hc60 hc61
      have HP := Lib.hid (put2_img hB6 (.slice A3 n3 c3) (.slice A5 n5 c5))
      have kq := keep2_img w6 w.heap.size (.slice A3 n3 c3) (.slice A5 n5 c5)
      have HK := Lib.hid (gK6.trans kq (fun k e hl => by omega))
      have HOI : Hid (OwnIm ((w6.setCell ⟨w.heap.size, 0, none⟩ (.slice A3 n3 c3)).setCell ⟨w.heap.size, 1, none⟩ (.slice A5 n5 c5)) (Fresh w) ⟨A3, n3, c3, A5, n5, c5⟩ es fs) :=
        ⟨(hO6.keep kq (fun k hk e => by unfold Fresh at hk; omega)).mono (fun k hk _ => by unfold Fresh at *; omega), (hP6.keep kq (fun k hk e => by unfold Fresh at hk; omega)).mono (fun k hk _ => by unfold Fresh at *; omega),
          fun e he => (((hE6 e he).keep kq (fun k hk e => by unfold Fresh at hk; omega)).mono (fun k hk _ => by unfold Fresh at *; omega) : OwnS _ (Fresh w) e),
          fun e he => (((hF6 e he).keep kq (fun k hk e => by unfold Fresh at hk; omega)).mono (fun k hk _ => by unfold Fresh at *; omega) : OwnF _ (Fresh w) e)⟩
      have HE : Hid ((decide (l.length ≤ q5) = true → rdI l 0 = some (imOf es fs, l.length)) ∧ (decide (l.length ≤ q5) = false → ∀ x, rdI l 0 = some x → x.2 ≠ l.length)) := by
        refine ⟨fun h => ?_, fun h x hx => ?_⟩
        · have h7 := of_decide_eq_true h
          rw [HN.out]
          have : q5 = l.length := by omega
          rw [← this]; rfl
        · have h7 := of_decide_eq_false h
          rw [HN.out] at hx
          injection hx with hx
          rw [← hx]
          dsimp only; omega
      generalize (if q5 < l.length then (13 : Int) else 0) = E at *
      generalize decide (l.length ≤ q5) = bb at *
      clear hB5 gK5 h5 k5 hO3 hE3 hO5 hF5 hB6 gK6 hO6 hP6 hE6 hF6 kq HN k6
      go_wp2
      refine bodyPost_ret (ret_imgE (v := ⟨A3, n3, c3, A5, n5, c5⟩) rfl rfl HP.out rfl) rfl ?_
      exact ⟨⟨A3, n3, c3, A5, n5, c5⟩, es, fs, bb, rfl, HOI.out, HK.out, HE.out.1, HE.out.2⟩

end Go.Proofs.YtgifflfjhockaaaGreatDoor.I

namespace Go.Proofs.YtgifflfjhockaaaGreatDoor.F
open Go.RowKit W

theorem rd_older {w0 w w' : World} {O : Nat → Prop} {A : Option Addr} {xs : List Value} (h2 : Rd w0 A xs) (h1 : Rd w A xs) (hk : Keep O w w') (hO : ∀ k, k < w0.heap.size → ¬ O k) : Rd w' A xs := fun hx => by
  obtain ⟨g, off, e, hc⟩ := h2 hx
  obtain ⟨g', off', e', hc'⟩ := h1 hx
  rw [e] at e'
  injection e' with e'
  injection e' with e1 e2
  subst e1 e2
  refine ⟨g, off, e, fun j u hu => hk.cell (hc' j u hu) (fun ho => ?_)⟩
  have := World.block_lt_of_cell? w0 _ (hc j u hu)
  exact hO _ this ho
/-- How Copy ends. -/
def CpyR (w : World) (f : Fu) (e : Ending) (w' : World) : Prop := ∃ u, e = .returned (FV.val u) ∧ OwnF w' (Fresh w) u f ∧ Keep NoB w w'
theorem iis_one (l : List C.I3) : ∀ u ∈ C.iis l, u.oneCell' = true := by
  intro u hu
  obtain ⟨b, _, hb⟩ := List.mem_flatMap.1 hu
  simp only [List.mem_cons, List.not_mem_nil, or_false] at hb
  rcases hb with rfl | rfl | rfl <;> rfl
theorem ret_fun1 {fn : Func} {p : Tmp} {tmps : Array Value} {w : World} {g : Nat} {v : FV} (h : fn.results = #[.cell p 61]) (hp : tmps.getD p undef = .pointer (some ⟨g, 0, none⟩)) (hb : Blk w g 61 v.cells) :
    (results fn tmps).run Tryz.prog w = .ok v.val w := ret_fun h hp hb

end Go.Proofs.YtgifflfjhockaaaGreatDoor.F

namespace Go.Proofs.YtgifflfjhockaaaGreatDoor.F
open Go.RowKit W

/-- What the values are that the document's Copy's region yields. -/
def SQ (v : FV) (f : Fu) (x m : Nat) : Nat → Value → World → Prop
  | 0 => fun u _ => u = .pointer (some ⟨x, 0, none⟩)
  | 1 => fun u _ => u = .string v.S
  | 2 => fun u _ => u = .pointer (some ⟨x, 1, none⟩)
  | 3 => fun u _ => u = .agg #[.slice v.A v.na v.ca, .slice v.B v.nb v.cb]
  | 4 => fun u w => ∃ A c B d, u = .agg #[.slice A v.na c, .slice B v.nb d] ∧ Own w 3 1 (fun k => m ≤ k) (.slice A v.na c) v.na (ivs f.ar) ∧ Own w 3 1 (fun k => m ≤ k) (.slice B v.nb d) v.nb (ivs f.rs)
  | 5 => fun u w => ∃ A c B d, u = .agg #[.string v.S, .slice A v.na c, .slice B v.nb d, .slice none 0 0, .slice none 0 0] ∧ Own w 3 1 (fun k => m ≤ k) (.slice A v.na c) v.na (ivs f.ar) ∧ Own w 3 1 (fun k => m ≤ k) (.slice B v.nb d) v.nb (ivs f.rs)
  | 6 => fun u w => ∃ g, u = .pointer (some ⟨g, 0, none⟩) ∧ m ≤ g ∧ Blk w g 61 #[.string ⟨#[]⟩, .slice none 0 0, .slice none 0 0, .slice none 0 0, .slice none 0 0]
  | _ => fun _ _ => True
theorem SQ_stable (v : FV) (f : Fu) (x m : Nat) : ∀ i u w w', SQ v f x m i u w → Keep NoB w w' → SQ v f x m i u w'
  | 0, _, _, _, h, _ => h
  | 1, _, _, _, h, _ => h
  | 2, _, _, _, h, _ => h
  | 3, _, _, _, h, _ => h
  | 4, _, _, _, ⟨A, c, B, d, e, h1, h2⟩, hk => ⟨A, c, B, d, e, h1.keepN hk, h2.keepN hk⟩
  | 5, _, _, _, ⟨A, c, B, d, e, h1, h2⟩, hk => ⟨A, c, B, d, e, h1.keepN hk, h2.keepN hk⟩
  | 6, _, _, _, ⟨g, e, hm, hb⟩, hk => ⟨g, e, hm, hb.keep hk id⟩
  | _ + 7, _, _, _, h, _ => h

/-- A row that is owned lies in no block of another type. -/
theorem own_off {w : World} {E t size n g c : Nat} {P : Nat → Prop} {A : Option Addr} {xs : List Value} {cs : Array Value} (h : Own w E size P (.slice A n c) n xs) (hb : Blk w g t cs) (hne : E ≠ t) : Own w E size (fun k => P k ∧ k ≠ g) (.slice A n c) n xs :=
  ⟨h.1, fun k e => ⟨h.2 k e, fun ek => by
    subst ek
    rcases h.1.2 with ⟨h2, _⟩ | ⟨g', cap, cur, h2, _, hh, _⟩
    · rw [h2] at e; cases e
    · rw [h2] at e
      injection e with e
      subst e
      have hbb : w.heap[g']? = some (.cells cs t (0, 0)) := hb
      rw [hh] at hbb
      injection hbb with hbb
      injection hbb with _ h4 _
      exact hne h4⟩⟩
/-- A row that append has made of nothing. -/
theorem own_app {w w' : World} {E size n c : Nat} {P : Nat → Prop} {A : Option Addr} {xs : List Value} (h : w'.ownsRow 0 E size (.slice A n c) n ([] ++ xs)) (hv : (Value.slice A n c).ownBlock = (Value.slice none 0 0).ownBlock ∨ (Value.slice A n c).ownBlock = some w.heap.size) (hP : ∀ k, w.heap.size ≤ k → P k) : Own w' E size P (.slice A n c) n xs := by
  rw [List.nil_append] at h
  refine ⟨h, fun k e => ?_⟩
  rcases hv with h1 | h1
  · rw [h1] at e; cases e
  · rw [h1] at e
    injection e with e
    exact hP k (by omega)

set_option maxRecDepth 100000 in
set_option maxHeartbeats 8000000 in
theorem rcopyF_any (v : FV) (f : Fu) (w : World) (h : FnAt w v f) (hs : SmF v) :
    Calls Tryz.prog 34 #[v.val] w (CpyR w f) := by
  obtain ⟨i0, hi, hz0, hz1, hz2⟩ := info_parts int_info
  obtain ⟨j0, hj, hy0, hy1, hy2⟩ := info_parts inst_info
  have bx := (Blk.new w 61 v.cells).alloc (.cells nilV.cells 61)
  have by0 := Blk.new (w.alloc (.cells v.cells 61)) 61 nilV.cells
  have k0 := ((Keep.refl NoB w).alloc (.cells v.cells 61)).alloc (.cells nilV.cells 61)
  rw [World.size_alloc] at by0
  have HF := Lib.hid (h.keepN k0)
  have hlo : w.heap.size + 2 ≤ ((w.alloc (.cells v.cells 61)).alloc (.cells nilV.cells 61)).heap.size := by simp
  obtain ⟨S, A, na, ca, B, nb, cb, L, nl, cl, D, nd, cd⟩ := v
  obtain ⟨q0, q1, q2, q3, q4⟩ := blk5 bx
  obtain ⟨p1, p2, p3, p4⟩ : na ≤ 100 ∧ nb ≤ 100 ∧ nl ≤ 100 ∧ nd ≤ 600 := ⟨hs.na, hs.nb, hs.nl, hs.nd⟩
  dsimp only [FV.val, FV.cells, nilV] at bx by0 k0 HF hlo q0 q1 q2 q3 q4 ⊢
  generalize hw1 : (w.alloc (.cells #[.string S, .slice A na ca, .slice B nb cb, .slice L nl cl, .slice D nd cd] 61)).alloc (.cells #[.string ⟨#[]⟩, .slice none 0 0, .slice none 0 0, .slice none 0 0, .slice none 0 0] 61) = w1 at bx by0 k0 HF hlo q0 q1 q2 q3 q4
  have HX := Lib.hid bx
  have HY := Lib.hid by0
  have HG := Lib.hid (fun W hk => rcopyG_any A f.ar na ca B f.rs nb cb W (HF.out.keepN hk).ra (HF.out.keepN hk).rb h.la h.lb p1 p2)
  have hbl := by0.lt
  have HRL : Hid (Rd w L (ivs f.lc)) := h.rl
  have HRD : Hid (Rd w D (C.iis f.bd)) := h.rd
  clear bx by0 hs h
  go_enter Tryz.func34, Tryz.ntmps34
  go_wp2_with fail
  clear hw1
  refine wp_region_tail (fun i => [4, 5, 6, 7, 8, 9, 3].getD i 0) 7 (by kernel_rfl) (by kernel_rfl) (by kernel_rfl) (by kernel_rfl) (by kernel_rfl) (SQ ⟨S, A, na, ca, B, nb, cb, L, nl, cl, D, nd, cd⟩ f w.heap.size (w.heap.size + 2)) (fun i u x y h hk => SQ_stable _ _ _ _ i u x y h hk) rfl ?step ?fin
  case step =>
    intro i o a w' hoo hi hF hK hA
    by_cases h0 : i = 0
    · subst h0
      simp only [List.getElem?_toArray, List.getElem?_cons_zero, Option.some.injEq] at hoo
      subst hoo
      have e1 : a.tmps.getD 1 undef = .pointer (some ⟨w.heap.size, 0, none⟩) := hF.2.2 1 (by decide)
      refine Does.plain rfl ?_
      unfold yieldsK
      go_simp
      exact ⟨rfl, Keep.refl _ _⟩
    by_cases h1 : i = 1
    · subst h1
      simp only [List.getElem?_toArray, List.getElem?_cons_zero, List.getElem?_cons_succ, Option.some.injEq] at hoo
      subst hoo
      have e4 : a.tmps.getD 4 undef = .pointer (some ⟨w.heap.size, 0, none⟩) := hA ⟨0, .data⟩ (by simp) rfl
      have c0 := Keep.cell hK q0 id
      refine Does.plain rfl ?_
      unfold yieldsK
      go_simp
      exact ⟨rfl, Keep.refl _ _⟩
    by_cases h2 : i = 2
    · subst h2
      simp only [List.getElem?_toArray, List.getElem?_cons_zero, List.getElem?_cons_succ, Option.some.injEq] at hoo
      subst hoo
      have e1 : a.tmps.getD 1 undef = .pointer (some ⟨w.heap.size, 0, none⟩) := hF.2.2 1 (by decide)
      refine Does.plain rfl ?_
      unfold yieldsK
      go_simp
      exact ⟨rfl, Keep.refl _ _⟩
    by_cases h3 : i = 3
    · subst h3
      simp only [List.getElem?_toArray, List.getElem?_cons_zero, List.getElem?_cons_succ, Option.some.injEq] at hoo
      subst hoo
      have e6 : a.tmps.getD 6 undef = .pointer (some ⟨w.heap.size, 1, none⟩) := hA ⟨2, .data⟩ (by simp) rfl
      have c1 := Keep.cell hK q1 id
      have c2 := Keep.cell hK q2 id
      refine Does.plain rfl ?_
      unfold yieldsK
      go_simp
      exact ⟨rfl, Keep.refl _ _⟩
    by_cases h4 : i = 4
    · subst h4
      simp only [List.getElem?_toArray, List.getElem?_cons_zero, List.getElem?_cons_succ, Option.some.injEq] at hoo
      subst hoo
      have e7 : a.tmps.getD 7 undef = .agg #[.slice A na ca, .slice B nb cb] := hA ⟨3, .data⟩ (by simp) rfl
      refine Does.plain rfl ?_
      unfold yieldsK
      go_simp
      refine (HG.out w' hK).mono ?_
      rintro e w2 ⟨v1, v2, rfl, h1, h2, h3⟩
      obtain ⟨A1, c1, rfl, _⟩ := h1.form
      obtain ⟨A2, c2, rfl, _⟩ := h2.form
      exact ⟨_, rfl, ⟨A1, c1, A2, c2, rfl, h1.mono (fun k (hk : Fresh w' k) _ => (Nat.le_trans (Nat.le_trans hlo hK.size) hk : w.heap.size + 2 ≤ k)), h2.mono (fun k (hk : Fresh w' k) _ => (Nat.le_trans (Nat.le_trans hlo hK.size) hk : w.heap.size + 2 ≤ k))⟩, h3⟩
    by_cases h5 : i = 5
    · subst h5
      simp only [List.getElem?_toArray, List.getElem?_cons_zero, List.getElem?_cons_succ, Option.some.injEq] at hoo
      subst hoo
      have e5 : a.tmps.getD 5 undef = .string S := hA ⟨1, .data⟩ (by simp) rfl
      obtain ⟨A5, c5, B5, d5, e8, h5, h6⟩ := hA ⟨4, .data⟩ (by simp) rfl
      have e8 : a.tmps.getD 8 undef = .agg #[.slice A5 na c5, .slice B5 nb d5] := e8
      refine Does.plain rfl ?_
      unfold yieldsK
      simp only [Array.getD_eq_getD_getElem?] at e5 e8
      go_simp
      exact ⟨⟨A5, c5, B5, d5, rfl, h5, h6⟩, Keep.refl _ _⟩
    by_cases h6 : i = 6
    · subst h6
      simp only [List.getElem?_toArray, List.getElem?_cons_zero, List.getElem?_cons_succ, Option.some.injEq] at hoo
      subst hoo
      refine Does.plain rfl ?_
      unfold yieldsK
      go_simp
      exact ⟨⟨w'.heap.size, rfl, Nat.le_trans hlo hK.size, Blk.new _ _ _⟩, (Keep.refl _ _).alloc _⟩
    omega
  case fin =>
    intro a w' hF gK hA
    obtain ⟨A5, c5, B5, d5, e9, h5, h6⟩ := hA 5 (by decide)
    obtain ⟨g, e3, hg, hb⟩ := hA 6 (by decide)
    have e9 : a.tmps.getD 9 undef = .agg #[.string S, .slice A5 na c5, .slice B5 nb d5, .slice none 0 0, .slice none 0 0] := e9
    have e3 : a.tmps.getD 3 undef = .pointer (some ⟨g, 0, none⟩) := e3
    have ha := frameD_list (l := [4, 5, 6, 7, 8, 9, 3]) rfl hF
    rw [ha]
    simp only [List.map_cons, List.map_nil, e9, e3]
    generalize a.tmps.getD 4 undef = u0
    generalize a.tmps.getD 5 undef = u1
    generalize a.tmps.getD 6 undef = u2
    generalize a.tmps.getD 7 undef = u3
    generalize a.tmps.getD 8 undef = u4
    simp only [fillD, List.setIfInBounds_toArray, List.set_cons_zero, List.set_cons_succ]
    simp only [List.drop_succ_cons, List.drop_zero]
    have bg0 := blk_put5 hb ⟨S, A5, na, c5, B5, nb, d5, none, 0, 0, none, 0, 0⟩
    have kg0 := keep_at5 w' g ⟨S, A5, na, c5, B5, nb, d5, none, 0, 0, none, 0, 0⟩
    have hgl := hb.lt
    have hxl := (HX.out.keep gK id).lt
    have hO5 := (own_off h5 hb (by decide)).keep kg0 (fun k hk e => hk.2 e)
    have hO6 := (own_off h6 hb (by decide)).keep kg0 (fun k hk e => hk.2 e)
    have bx0 := (HX.out.keep gK id).keep kg0 (fun e => by omega)
    have bs0 := (HY.out.keep gK id).keep kg0 (fun e => by omega)
    have hrl := rd_older HRL.out (HF.out.keepN gK).rl kg0 (fun k hk e => by omega)
    have hrd := rd_older HRD.out (HF.out.keepN gK).rd kg0 (fun k hk e => by omega)
    have HN := Lib.hid (And.intro HF.out.nm (And.intro HF.out.hI (And.intro HF.out.ll HF.out.ld)))
    have hsz0 := kg0.size
    have HK0 := (keepN k0 gK).trans kg0 (fun k e hk => by omega)
    obtain ⟨d0, d1, d2, d3, d4⟩ := blk5 (v := nilV) hb
    obtain ⟨x0, x1, x2, x3, x4⟩ := blk5 (v := ⟨S, A, na, ca, B, nb, cb, L, nl, cl, D, nd, cd⟩) (HX.out.keep gK id)
    have fz := fun i => hb.frozen i
    have hgx : w.heap.size ≠ g := by omega
    have hl1 : (ivs f.lc).length = nl * 1 := by have := HN.out.2.2.1; simpa using this
    have hl2 : (C.iis f.bd).length = nd * 3 := by have := HN.out.2.2.2; rw [C.iis_length]; dsimp only at this; omega
    have HALL := Lib.hid (And.intro hO5 (And.intro hO6 (And.intro bx0 (And.intro bs0 (And.intro hrl (And.intro hrd (And.intro HK0 (And.intro bg0 (And.intro hl1 (And.intro hl2 (And.intro hsz0 (And.intro (ivs_one f.lc) (iis_one f.bd)))))))))))))
    clear hA hF ha hb gK HX HY HF h5 h6 HG q0 q1 q2 q3 q4 k0 hO5 hO6 bx0 bs0 hrl hrd HK0 bg0 hl1 hl2 hsz0 kg0 HRL
    unfold nilV at d0 d1 d2 d3 d4
    dsimp only at d0 d1 d2 d3 d4 x0 x1 x2 x3 x4
    go_wp2_with (first
      | (at_builtin; obtain ⟨hO5, hO6, bx0, bs0, hrl, hrd, HK0, bg0, hl1, hl2, hsz0, ho1, ho2⟩ := HALL.out; refine wpList_append_rd (put5 w' g ⟨S, A5, na, c5, B5, nb, d5, none, 0, 0, none, 0, 0⟩) rfl (.tmp 11) (.tmp 13) _ rfl 3 1 8 i0 _ Tryz.underlying55 hi hz0 hz1 hz2 rfl (by decide) (.slice none 0 0) 0 [] L nl cl (ivs f.lc) rfl (World.ownsRow_nil _ _ _ _) rfl hrl hl1 ho1 (by unfold maxLen; omega) (by omega) ?_; intro A7 c7 w7 hrow7 hg7 hv7; rw [Nat.zero_add] at hrow7 hv7 ⊢; clear d0 d1 d2 d3 d4 x0 x1 x2 x3 x4 fz HALL; have k7 : Keep NoB _ w7 := (Keep.refl NoB _).grown hg7 (fun g e _ => by cases e); have bg7 := bg0.keep k7 id; have bx7 := bx0.keep k7 id; obtain ⟨d0, d1, d2, d3, d4⟩ := blk5 (v := ⟨S, A5, na, c5, B5, nb, d5, none, 0, 0, none, 0, 0⟩) bg7; obtain ⟨x0, x1, x2, x3, x4⟩ := blk5 (v := ⟨S, A, na, ca, B, nb, cb, L, nl, cl, D, nd, cd⟩) bx7; have fz := fun i => bg7.frozen i; have hO7 : Own w7 3 1 (fun k => w.heap.size + 2 ≤ k ∧ k ≠ g) (.slice A7 nl c7) nl (ivs f.lc) := own_app hrow7 hv7 (fun k hk => ⟨by omega, by omega⟩); have HALL := Lib.hid (And.intro (hO5.keepN k7) (And.intro (hO6.keepN k7) (And.intro hO7 (And.intro bx7 (And.intro (bs0.keep k7 id) (And.intro (hrd.keepN k7) (And.intro (keepN HK0 k7) (And.intro bg7 (And.intro hl2 (And.intro (Nat.le_trans hsz0 k7.size) ho2)))))))))); clear hO5 hO6 bx0 bs0 hrl hrd HK0 bg0 hl1 hl2 hsz0 ho1 ho2 k7 bg7 bx7 hO7 hrow7 hg7 hv7)
      | (at_builtin; obtain ⟨hO5, hO6, hO7, bx7, bs7, hrd, HK7, bg7, hl2, hsz7, ho2⟩ := HALL.out; have kp := keep_one w7 g 3 (.slice A7 nl c7); have hp := Nat.le_trans hsz7 kp.size; refine wpList_append_rd (w7.setCell ⟨g, 3, none⟩ (.slice A7 nl c7)) rfl (.tmp 17) (.tmp 19) _ rfl 63 3 24 j0 _ Tryz.underlying59 hj hy0 hy1 hy2 rfl (by decide) (.slice none 0 0) 0 [] D nd cd (C.iis f.bd) rfl (World.ownsRow_nil _ _ _ _) rfl (rd_older HRD.out hrd kp (fun k hk e => by omega)) hl2 ho2 (by unfold maxLen; omega) (by omega) ?_; intro A9 c9 w9 hrow9 hg9 hv9; rw [Nat.zero_add] at hrow9 hv9 ⊢; clear d0 d1 d2 d3 d4 x0 x1 x2 x3 x4 fz HALL; have k9 : Keep NoB _ w9 := (Keep.refl NoB _).grown hg9 (fun g e _ => by cases e); have bg9 : Blk w9 g 61 (FV.cells ⟨S, A5, na, c5, B5, nb, d5, A7, nl, c7, none, 0, 0⟩) := (bg7.put 3 (.slice A7 nl c7)).keep k9 id; have bs9 := (bs7.keep kp (fun e => by omega)).keep k9 id; obtain ⟨d0, d1, d2, d3, d4⟩ := blk5 (v := ⟨S, A5, na, c5, B5, nb, d5, A7, nl, c7, none, 0, 0⟩) bg9; obtain ⟨x0, x1, x2, x3, x4⟩ := blk5 (v := nilV) bs9; unfold nilV at x0 x1 x2 x3 x4; dsimp only at x0 x1 x2 x3 x4; have fz := fun i => bg9.frozen i; have fy := fun i => bs9.frozen i; have hO9 : Own w9 63 3 (fun k => w.heap.size + 2 ≤ k ∧ k ≠ g) (.slice A9 nd c9) nd (C.iis f.bd) := own_app hrow9 hv9 (fun k hk => ⟨by omega, by omega⟩); have HALL := Lib.hid (And.intro ((hO5.keep kp (fun k hk e => hk.2 e)).keepN k9) (And.intro ((hO6.keep kp (fun k hk e => hk.2 e)).keepN k9) (And.intro ((hO7.keep kp (fun k hk e => hk.2 e)).keepN k9) (And.intro hO9 (And.intro bs9 (And.intro (keepN (HK7.trans kp (fun k e hk => by omega)) k9) bg9)))))); clear hO5 hO6 hO7 bx7 bs7 hrd HK7 bg7 hl2 hsz7 ho2 k9 bg9 bs9 hO9 hrow9 hg9 hv9 kp hp))
    obtain ⟨hO5, hO6, hO7, hO9, bs9, HK9, _⟩ := HALL.out
    have kp := keep_one w9 g 4 (.slice A9 nd c9)
    have bsp := bs9.keep kp (fun e => by omega)
    have kq := keep_at5 (w9.setCell ⟨g, 4, none⟩ (.slice A9 nd c9)) (w.heap.size + 1) ⟨S, A5, na, c5, B5, nb, d5, A7, nl, c7, A9, nd, c9⟩
    have hOF : OwnF (put5 (w9.setCell ⟨g, 4, none⟩ (.slice A9 nd c9)) (w.heap.size + 1) ⟨S, A5, na, c5, B5, nb, d5, A7, nl, c7, A9, nd, c9⟩) (Fresh w) ⟨S, A5, na, c5, B5, nb, d5, A7, nl, c7, A9, nd, c9⟩ f :=
      ((OwnF.keep (W := w9) ⟨HN.out.1, hO5, hO6, hO7, hO9, HN.out.2.1⟩ kp (fun k hk e => hk.2 e)).keep kq (fun k hk e => by omega)).mono (fun k hk _ => by unfold Fresh; omega)
    refine bodyPost_ret (ret_fun1 (v := ⟨S, A5, na, c5, B5, nb, d5, A7, nl, c7, A9, nd, c9⟩) rfl rfl (blk_put5 bsp ⟨S, A5, na, c5, B5, nb, d5, A7, nl, c7, A9, nd, c9⟩)) rfl ?_
    exact ⟨⟨S, A5, na, c5, B5, nb, d5, A7, nl, c7, A9, nd, c9⟩, rfl, hOF, (HK9.trans kp (fun k e hk => by omega)).trans kq (fun k e hk => by omega)⟩

end Go.Proofs.YtgifflfjhockaaaGreatDoor.F
