/-
  CodeInserts' walk: what was put in, and taken out again, is as it was; with one more there is one more of its op; all others are there, in order. Conditions: the listed package-level variables hold what their initialisers lay; the list lies in memory.
-/
import Derived.Test.YtonpplpfipfnfaaGreatDoorQ10
import Derived.Test.YtonpplpfipfnfaaGreatDoorQ6
namespace Go.Proofs.YtonpplpfipfnfaaGreatDoor.C
open Go.RowKit O

theorem insE_cases (l : List I3) (p : Int) (x : I3) : (insE l p x = 0 ∧ hasB l p = true ∧ okB (insL l p.toNat x) = true ∧ insG l p x = insL l p.toNat x) ∨ (insE l p x = 50) := by
  unfold insE insG
  split
  · next h => exact .inl ⟨rfl, h.1, h.2, rfl⟩
  · exact .inr rfl
theorem del_back {l : List I3} {k : Nat} {x : I3} (hk : k < l.length) (ho : okB l = true) (hm : okB (insL l k x) = true) : delG (insL l k x) (k : Int) = l ∧ delE (insL l k x) (k : Int) = 0 := by
  have h5 := (okB_parts hm).2.1
  rw [insL_length] at h5
  have e := delL_insL (x := x) hk ho h5
  have hb : hasB (insL l k x) (k : Int) = true := by unfold hasB; rw [hm, decide_eq_true (by rw [insL_length]; omega)]; rfl
  unfold delG delE
  rw [Int.toNat_natCast, e, if_pos ⟨hb, ho⟩, if_pos ⟨hb, ho⟩]
  exact ⟨rfl, rfl⟩
open Go.Proofs.YtonpplpfipfnfaaGreatDoor in
/-- A step that isn't wanted, in a slot that had something. -/
theorem shM_skipU {P : Program} {l tl : List Oper} {i : Nat} {gen : Bool} {o : Oper} {a : Act} {Q : Act → World → Prop} {rest : List (Nat × Bool)} {I : World → Prop} (ho : l.drop i = o :: tl) (hw : Region.wanted o (yielded l.toArray a.tmps) = false) (h : Shut (wpM P l.toArray Q rest (a.put o.dst undef) I)) : Shut (wpM P l.toArray Q ((i, gen) :: rest) a I) :=
  ⟨wpM_skip ho hw h.out⟩
/-- Where each of the old ones is, in the new list. -/
def upP (k j : Nat) : Nat := if k ≤ j then j + 1 else j
theorem up_at {l : List I3} {k j : Nat} (x : I3) (hk : k ≤ l.length) (hj : j < l.length) : (insL l k x)[upP k j]? = some (gone k 1 l[j]) := by
  unfold upP
  split
  · next h => exact insL_high l x h hj
  · next h => exact insL_low l x (by omega) hk
theorem blk_inst3 {w : World} {g : Nat} {t : TypeId} {a0 a1 a2 : Value} (h : Blk w g t #[a0, a1, a2]) (i : Nat) : w.cell? ⟨g, i, none⟩ = #[a0, a1, a2][i]? := h.cell i
theorem rdJ_q {w : World} {A : Option Addr} {l : List I3} (h : Rd w A (iis l)) (h0 : 0 < l.length) : ∃ g off, A = some ⟨g, off, none⟩ ∧ ∀ (w' : World), Keep NoB w w' → ∀ (i : Nat) (x : I3), l[i]? = some x →
    w'.cell? ⟨g, off + i * 3, none⟩ = some (.int .i64 x.1) ∧ w'.cell? ⟨g, off + i * 3 + 1, none⟩ = some (.int .i64 x.2.1) ∧ w'.cell? ⟨g, off + i * 3 + 2, none⟩ = some (.int .i64 x.2.2) := by
  obtain ⟨g, off, e, hc⟩ := rdJ_at h h0
  refine ⟨g, off, e, fun w' hk i x hx => ?_⟩
  obtain ⟨hi, hxe⟩ := List.getElem?_eq_some_iff.1 hx
  obtain ⟨c0, c1, c2⟩ := hc i hi
  rw [hxe] at c0 c1 c2
  exact ⟨hk.cell c0 id, hk.cell c1 id, hk.cell c2 id⟩

set_option maxRecDepth 100000 in
set_option maxHeartbeats 2000000 in
theorem cinserts_early (A : Option Addr) (l : List I3) (n c : Nat) (p op a b : Int) (w : World) (hL : Hid (LaidO w)) (hC : Hid (CutAt w)) (hr : Hid (Rd w A (iis l))) (hn : Hid (l.length = n)) (hm : n ≤ 9223372036854775807) (h : 100 < n ∨ insE l p (op, a, b) = 50) :
    Calls Tryz.prog 7 #[.slice A n c, .int .i64 p, instV op a b] w fun e w' => e = .returned (.bool true) ∧ Keep NoB w w' := by
  have HI := Lib.hid (fun w hr => insert_any A l n c p op a b w hr hn hm)
  have bx := Blk.new w 46 #[.int .i64 op, .int .i64 a, .int .i64 b]
  have gK := (Keep.refl NoB w).alloc (.cells #[.int .i64 op, .int .i64 a, .int .i64 b] 46)
  by_cases h1 : 100 < n
  · have hq : decide ((100 : Int) < (n : Int)) = true := by rw [decide_eq_true_iff]; omega
    clear h h1
    go_enter Tryz.func7, Tryz.ntmps7
    go_wp2_with fail
    refine (alive_any _ (hL.out.keep gK) (hC.out.keep gK)).mono ?_
    rintro e w1 ⟨rfl, k1⟩
    replace gK := keepN gK k1
    obtain ⟨x0, x1, x2⟩ := blk3 (bx.keep k1 id)
    go_wp2_with fail
    refine (HI.out _ (hr.out.keepN gK)).mono ?_
    rintro e w2 ⟨v, rfl, ho, k2⟩
    go_wp2
    go_ret
    exact ⟨rfl, keepN gK k2⟩
  · have hq : decide ((100 : Int) < (n : Int)) = false := by rw [decide_eq_false_iff_not]; omega
    have hE : insE l p (op, a, b) = 50 := by rcases h with h | h; exact absurd h h1; exact h
    rw [hE] at HI
    clear h h1 hE
    go_enter Tryz.func7, Tryz.ntmps7
    go_wp2_with fail
    refine (alive_any _ (hL.out.keep gK) (hC.out.keep gK)).mono ?_
    rintro e w1 ⟨rfl, k1⟩
    replace gK := keepN gK k1
    obtain ⟨x0, x1, x2⟩ := blk3 (bx.keep k1 id)
    go_wp2_with fail
    refine (HI.out _ (hr.out.keepN gK)).mono ?_
    rintro e w2 ⟨v, rfl, ho, k2⟩
    go_wp2
    go_ret
    exact ⟨rfl, keepN gK k2⟩

set_option maxRecDepth 100000 in
set_option maxHeartbeats 16000000 in
theorem cinserts_yes (A : Option Addr) (l : List I3) (n c : Nat) (k : Nat) (op a b : Int) (w : World) (hL : Hid (LaidO w)) (hC : Hid (CutAt w)) (hr : Hid (Rd w A (iis l))) (hn : Hid (l.length = n)) (h : n ≤ 100) (hk : k < n) (ho : okB l = true) (M : List I3) (hM : insL l k (op, a, b) = M) (hoM : okB M = true) (hE : insE l (k : Int) (op, a, b) = 0) (hG : insG l (k : Int) (op, a, b) = M) :
    Calls Tryz.prog 7 #[.slice A n c, .int .i64 (k : Int), instV op a b] w fun e w' => e = .returned (.bool true) ∧ Keep NoB w w' := by
  have HI := Lib.hid (fun w hr => insert_any A l n c k op a b w hr hn (by omega))
  rw [hE, hG] at HI
  have hml : M.length = n + 1 := by rw [← hM, insL_length, hn.out]
  obtain ⟨n1, hn1⟩ : ∃ n1, n + 1 = n1 := ⟨_, rfl⟩
  rw [hn1] at hml
  have HML := Lib.hid hml
  have HC := Lib.hid (fun A c w hr => cchk_any A M n1 c w hr hml (by omega) 0 (chkB_ok hoM))
  obtain ⟨cl, hcl⟩ : ∃ q, cntB l op = q := ⟨_, rfl⟩
  have hcm : cntB M op = cl + 1 := by rw [← hM, ← hcl]; exact cnt_ins l k (op, a, b)
  obtain ⟨cm, hcm1⟩ : ∃ q, cl + 1 = q := ⟨_, rfl⟩
  rw [hcm1] at hcm
  have hclb := cnt_le l op
  rw [hcl, hn.out] at hclb
  have HN1 := Lib.hid (fun A c w hr => count_any A M n1 c op w hr hml (by omega) (cm : Int) (by show _ = _; rw [hcm]))
  have HN2 := Lib.hid (fun w hr => count_any A l n c op w hr hn (by omega) (cl : Int) (by show _ = _; rw [hcl]))
  have hdb := del_back (x := (op, a, b)) (show k < l.length by rw [hn.out]; exact hk) ho (by rw [hM]; exact hoM)
  rw [hM] at hdb
  have HD := Lib.hid (fun A c w hr => delete_any A M n1 c k w hr hml (by omega))
  rw [hdb.1, hdb.2] at HD
  have HLL := Lib.hid (fun A1 c1 w h1 h2 => lists_any A1 A l l n n c1 c w h1 h2 hn hn (by omega) (by omega) true (by show _ = _; simp))
  have HU : Hid (∀ (j : Nat) (hj : j < l.length), M[upP k j]? = some (gone k 1 l[j])) := fun j hj => by rw [← hM]; exact up_at (op, a, b) (by rw [hn.out]; omega) hj
  have HH : Hid (M[k]? = some (op, a, b)) := by show _ = _; rw [← hM]; exact insL_here l (op, a, b) (by rw [hn.out]; omega)
  have HGx := Lib.hid (fun w => goes_gen op a b _ _ w rfl rfl)
  have hq : decide ((100 : Int) < (n : Int)) = false := by rw [decide_eq_false_iff_not]; omega
  have q43 : ((n1 : Int) != (n : Int) + 1) = false := by rw [bne_eq_false_iff_eq]; omega
  have q67 : ((cm : Int) != (cl : Int) + 1) = false := by rw [bne_eq_false_iff_eq]; omega
  have hkn1 : k < n1 := by omega
  have bx := Blk.new w 46 #[.int .i64 op, .int .i64 a, .int .i64 b]
  have gK := (Keep.refl NoB w).alloc (.cells #[.int .i64 op, .int .i64 a, .int .i64 b] 46)
  obtain ⟨gx, hgx⟩ : ∃ gx, w.heap.size = gx := ⟨_, rfl⟩
  rw [hgx] at bx
  have HGX := Lib.hid hgx
  clear hE hG hM hoM hdb hcm hcl hml hgx
  go_enter Tryz.func7, Tryz.ntmps7
  go_wp2_with fail
  refine (alive_any _ (hL.out.keep gK) (hC.out.keep gK)).mono ?_
  rintro e w1 ⟨rfl, k1⟩
  replace gK := keepN gK k1
  replace bx := bx.keep k1 id
  rw [HGX.out]
  obtain ⟨x0, x1, x2⟩ := blk3 bx
  clear k1
  go_wp2_with fail
  refine (HI.out _ (hr.out.keepN gK)).mono ?_
  rintro e w2 ⟨vm, rfl, hOm, k1⟩
  rw [HML.out] at hOm
  obtain ⟨Am, cM, rfl, rm⟩ := own_rdI hOm
  replace gK := keepN gK k1
  replace bx := bx.keep k1 id
  have rl := hr.out.keepN gK
  obtain ⟨gm, offm, rfl, hcm0⟩ := rdJ_q rm (by rw [HML.out]; omega)
  obtain ⟨gl, offl, rfl, hcl0⟩ := rdJ_q rl (by rw [hn.out]; omega)
  clear k1 hOm x0 x1 x2
  have HM := Lib.hid (fun w' hk => hcm0 w' hk k _ HH.out)
  dsimp only at HM
  have HCM := Lib.hid hcm0
  have HCL := Lib.hid hcl0
  clear hcm0 hcl0
  go_wp2_with fail
  refine wp_region_sh ((0, false) :: (1, false) :: (2, false) :: (3, false) :: (4, false) :: (5, false) :: (6, false) :: (7, false) :: (8, false) :: (9, false) :: (10, false) :: (11, false) :: (12, false) :: (13, false) :: (14, false) :: (15, false) :: (16, false) :: (17, false) :: (18, false) :: (19, false) :: (20, false) :: (21, false) :: (22, false) :: (23, false) :: (24, false) :: (25, false) :: (26, false) :: (27, false) :: (28, false) :: (29, false) :: (30, false) :: []) (fun w' => Keep NoB w2 w') (by kernel_rfl) (by kernel_rfl) (by rfl) (by kernel_rfl) (stable_keep w2) (Keep.refl NoB w2).drew ?_
  refine shM_step rfl rfl rfl (by rfl) (by rfl) ?_
  apply Exists.intro
  refine ⟨fun n K hK => ?_, ?_, ?_⟩
  · go_big_quiet_op
    exact hK _ rfl
  · kernel_rfl
  refine shM_step rfl rfl rfl (by rfl) (by rfl) ?_
  apply Exists.intro
  refine ⟨fun n K hK => ?_, ?_, ?_⟩
  · go_big_quiet_op
    exact hK _ rfl
  · kernel_rfl
  refine shM_step rfl rfl rfl (by rfl) (by rfl) ?_
  apply Exists.intro
  refine ⟨fun n K hK => ?_, ?_, ?_⟩
  · go_big_quiet_op
    exact hK _ rfl
  · kernel_rfl
  refine shM_step rfl rfl rfl (by rfl) (by rfl) ?_
  apply Exists.intro
  refine ⟨fun n K hK => ?_, ?_, ?_⟩
  · go_big_quiet_op
    exact hK _ rfl
  · kernel_rfl
  refine shM_step rfl rfl rfl (by rfl) (by rfl) ?_
  apply Exists.intro
  refine ⟨fun n K hK => ?_, ?_, ?_⟩
  · go_big_quiet_op
    exact hK _ rfl
  · kernel_rfl
  refine shM_step rfl rfl rfl (by rfl) (by rfl) ?_
  apply Exists.intro
  refine ⟨fun n K hK => ?_, ?_, ?_⟩
  · go_big_quiet_op
    exact hK _ rfl
  · kernel_rfl
  refine shM_step rfl rfl rfl (by rfl) (by rfl) ?_
  apply Exists.intro
  refine ⟨fun n K hK => ?_, ?_, ?_⟩
  · go_big_quiet_op
    exact hK _ rfl
  · kernel_rfl
  refine shM_step rfl rfl rfl (by rfl) (by rfl) ?_
  apply Exists.intro
  refine ⟨fun n K hK => ?_, ?_, ?_⟩
  · go_big_quiet_op
    exact hK _ rfl
  · kernel_rfl
  refine shM_step rfl rfl rfl (by rfl) (by rfl) ?_
  apply Exists.intro
  refine ⟨fun n K hK => ?_, ?_, ?_⟩
  · go_big_quiet_op
    apply Exists.intro
    refine ⟨fun m => ?_, ?_⟩
    · go_at_call 17
      exact kept_of (HC.out _ _ _ (rm.keepN (keepN n.has m.keep)))
    · exact hK _ rfl
  · kernel_rfl
  refine shM_step rfl rfl rfl (by rfl) (by rfl) ?_
  apply Exists.intro
  refine ⟨fun n K hK => ?_, ?_, ?_⟩
  · go_big_quiet_op
    exact hK _ rfl
  · kernel_rfl
  refine shM_step rfl rfl rfl (by rfl) (by rfl) ?_
  apply Exists.intro
  refine ⟨fun n K hK => ?_, ?_, ?_⟩
  · go_big_quiet_op
    exact hK _ rfl
  · kernel_rfl
  refine shM_step rfl rfl rfl (by rfl) (by rfl) ?_
  apply Exists.intro
  refine ⟨fun n K hK => ?_, ?_, ?_⟩
  · go_big_quiet_op
    exact hK _ rfl
  · kernel_rfl
  refine shM_step rfl rfl rfl (by rfl) (by rfl) ?_
  apply Exists.intro
  refine ⟨fun n K hK => ?_, ?_, ?_⟩
  · go_big_quiet_op
    exact hK _ rfl
  · kernel_rfl
  refine shM_step rfl rfl rfl (by rfl) (by rfl) ?_
  apply Exists.intro
  refine ⟨fun n K hK => ?_, ?_, ?_⟩
  · go_big_quiet_op
    exact hK _ rfl
  · kernel_rfl
  refine shM_step rfl rfl rfl (by rfl) (by rfl) ?_
  apply Exists.intro
  refine ⟨fun n K hK => ?_, ?_, ?_⟩
  · go_big_quiet_op
    exact hK _ rfl
  · kernel_rfl
  refine shM_step rfl rfl rfl (by rfl) (by rfl) ?_
  apply Exists.intro
  refine ⟨fun n K hK => ?_, ?_, ?_⟩
  · have cm0 : ∀ m : KW n.w, m.w.cell? ⟨gm, offm + k * 3, none⟩ = some (.int .i64 op) := fun m => (HM.out _ (keepN n.has m.keep)).1
    have cm1 : ∀ m : KW n.w, m.w.cell? ⟨gm, offm + k * 3 + 1, none⟩ = some (.int .i64 a) := fun m => (HM.out _ (keepN n.has m.keep)).2.1
    have cm2 : ∀ m : KW n.w, m.w.cell? ⟨gm, offm + k * 3 + 2, none⟩ = some (.int .i64 b) := fun m => (HM.out _ (keepN n.has m.keep)).2.2
    go_big_quiet_op
    exact hK _ rfl
  · kernel_rfl
  refine shM_step rfl rfl rfl (by rfl) (by rfl) ?_
  apply Exists.intro
  refine ⟨fun n K hK => ?_, ?_, ?_⟩
  · have cx0 : ∀ m : KW n.w, m.w.cell? ⟨gx, 0, none⟩ = some (.int .i64 op) := fun m => (bx.keep (keepN n.has m.keep) id).cell 0
    have cx1 : ∀ m : KW n.w, m.w.cell? ⟨gx, 1, none⟩ = some (.int .i64 a) := fun m => (bx.keep (keepN n.has m.keep) id).cell 1
    have cx2 : ∀ m : KW n.w, m.w.cell? ⟨gx, 2, none⟩ = some (.int .i64 b) := fun m => (bx.keep (keepN n.has m.keep) id).cell 2
    go_big_quiet_op
    exact hK _ rfl
  · kernel_rfl
  refine shM_step rfl rfl rfl (by rfl) (by rfl) ?_
  apply Exists.intro
  refine ⟨fun n K hK => ?_, ?_, ?_⟩
  · go_big_quiet_op
    exact hK _ rfl
  · kernel_rfl
  refine shM_step rfl rfl rfl (by rfl) (by rfl) ?_
  apply Exists.intro
  refine ⟨fun n K hK => ?_, ?_, ?_⟩
  · go_big_quiet_op
    exact hK _ rfl
  · kernel_rfl
  refine shM_step rfl rfl rfl (by rfl) (by rfl) ?_
  apply Exists.intro
  refine ⟨fun n K hK => ?_, ?_, ?_⟩
  · go_big_quiet_op
    exact hK _ rfl
  · kernel_rfl
  refine shM_step rfl rfl rfl (by rfl) (by rfl) ?_
  apply Exists.intro
  refine ⟨fun n K hK => ?_, ?_, ?_⟩
  · go_big_quiet_op
    exact hK _ rfl
  · kernel_rfl
  refine shM_step rfl rfl rfl (by rfl) (by rfl) ?_
  apply Exists.intro
  refine ⟨fun n K hK => ?_, ?_, ?_⟩
  · go_big_quiet_op
    exact hK _ rfl
  · kernel_rfl
  refine shM_step rfl rfl rfl (by rfl) (by rfl) ?_
  apply Exists.intro
  refine ⟨fun n K hK => ?_, ?_, ?_⟩
  · have cx0 : ∀ m : KW n.w, m.w.cell? ⟨gx, 0, none⟩ = some (.int .i64 op) := fun m => (bx.keep (keepN n.has m.keep) id).cell 0
    go_big_quiet_op
    exact hK _ rfl
  · kernel_rfl
  refine shM_step rfl rfl rfl (by rfl) (by rfl) ?_
  apply Exists.intro
  refine ⟨fun n K hK => ?_, ?_, ?_⟩
  · go_big_quiet_op
    apply Exists.intro
    refine ⟨fun m => ?_, ?_⟩
    · go_at_call 23
      exact kept_of (HN1.out _ _ _ (rm.keepN (keepN n.has m.keep)))
    · exact hK _ rfl
  · kernel_rfl
  refine shM_step rfl rfl rfl (by rfl) (by rfl) ?_
  apply Exists.intro
  refine ⟨fun n K hK => ?_, ?_, ?_⟩
  · go_big_quiet_op
    exact hK _ rfl
  · kernel_rfl
  refine shM_step rfl rfl rfl (by rfl) (by rfl) ?_
  apply Exists.intro
  refine ⟨fun n K hK => ?_, ?_, ?_⟩
  · go_big_quiet_op
    exact hK _ rfl
  · kernel_rfl
  refine shM_step rfl rfl rfl (by rfl) (by rfl) ?_
  apply Exists.intro
  refine ⟨fun n K hK => ?_, ?_, ?_⟩
  · have cx0 : ∀ m : KW n.w, m.w.cell? ⟨gx, 0, none⟩ = some (.int .i64 op) := fun m => (bx.keep (keepN n.has m.keep) id).cell 0
    go_big_quiet_op
    exact hK _ rfl
  · kernel_rfl
  refine shM_step rfl rfl rfl (by rfl) (by rfl) ?_
  apply Exists.intro
  refine ⟨fun n K hK => ?_, ?_, ?_⟩
  · go_big_quiet_op
    apply Exists.intro
    refine ⟨fun m => ?_, ?_⟩
    · go_at_call 23
      exact kept_of (HN2.out _ (rl.keepN (keepN n.has m.keep)))
    · exact hK _ rfl
  · kernel_rfl
  refine shM_step rfl rfl rfl (by rfl) (by rfl) ?_
  apply Exists.intro
  refine ⟨fun n K hK => ?_, ?_, ?_⟩
  · go_big_quiet_op
    exact hK _ rfl
  · kernel_rfl
  refine shM_step rfl rfl rfl (by rfl) (by rfl) ?_
  apply Exists.intro
  refine ⟨fun n K hK => ?_, ?_, ?_⟩
  · go_big_quiet_op
    exact hK _ rfl
  · kernel_rfl
  refine shM_step rfl rfl rfl (by rfl) (by rfl) ?_
  apply Exists.intro
  refine ⟨fun n K hK => ?_, ?_, ?_⟩
  · go_big_quiet_op
    exact hK _ rfl
  · kernel_rfl
  refine shM_nil (fun z => ?_)
  have k5 := z.has
  generalize z.w = w3 at k5 ⊢
  clear HM q43 q67
  go_wp2
  go_loopw [71] (fun i wr => ∃ j : Nat, j ≤ n ∧ i = .int .i64 (j : Int) ∧ Keep NoB w2 wr) (fun i _ => n - (intOf i).toNat)
  case atStart => exact ⟨0, Nat.zero_le _, rfl, k5⟩
  case round =>
    clear k5
    obtain ⟨j, hj, rfl, gR⟩ := hrel
    by_cases hlt : j < n
    · have hjl : j < l.length := by rw [hn.out]; exact hlt
      have hu := HU.out j hjl
      have HLc := Lib.hid (fun w' hk => HCL.out w' hk j l[j] (List.getElem?_eq_getElem hjl))
      have HMc := Lib.hid (fun w' hk => HCM.out w' hk _ _ hu)
      clear hu
      generalize l[j] = x at HLc HMc
      obtain ⟨op2, a2, b2⟩ := x
      dsimp only at HLc
      obtain ⟨d0, d1, d2⟩ := HLc.out wr gR
      obtain ⟨to, hto⟩ : ∃ to, goesN op2 a2 b2 = to := ⟨_, rfl⟩
      have hto2 : gN (op2, a2, b2) = to := hto
      have hop := gone_op (k : Int) 1 (op2, a2, b2)
      by_cases hge : k ≤ j
      · have hup : upP k j = (j + 1) := if_pos hge
        rw [hup] at HMc
        have hq2 : decide ((k : Int) ≤ (j : Int)) = true := by rw [decide_eq_true_iff]; omega
        have hja : (j + 1) < n1 := by omega
        have hMc2 : Hid (∀ w', Keep NoB w2 w' → w'.cell? ⟨gm, offm + (j + 1) * 3, none⟩ = some (.int .i64 op2) ∧ w'.cell? ⟨gm, offm + (j + 1) * 3 + 1, none⟩ = some (.int .i64 (gone k 1 (op2, a2, b2)).2.1) ∧ w'.cell? ⟨gm, offm + (j + 1) * 3 + 2, none⟩ = some (.int .i64 b2)) := fun w' hk => by
          have := HMc.out w' hk
          rw [hop.1, hop.2] at this
          exact this
        have HM := hMc2
        clear hMc2 HMc hup hop
        go_wp2_with fail
        refine wp_region_sh ((0, false) :: (1, false) :: (2, false) :: (3, false) :: (4, false) :: (5, false) :: (6, false) :: (7, false) :: (8, false) :: (9, false) :: (10, false) :: (11, false) :: (12, false) :: (13, false) :: (14, false) :: (15, false) :: (16, false) :: (17, false) :: (18, false) :: (19, false) :: (20, false) :: (21, false) :: (22, false) :: (23, false) :: []) (fun w' => Keep NoB wr w') (by kernel_rfl) (by kernel_rfl) (by rfl) (by kernel_rfl) (stable_keep wr) (Keep.refl NoB wr).drew ?_
        refine shM_step rfl rfl rfl (by rfl) (by rfl) ?_
        apply Exists.intro
        refine ⟨fun n K hK => ?_, ?_, ?_⟩
        · go_big_quiet_op
          exact hK _ rfl
        · kernel_rfl
        refine shM_step rfl rfl rfl (by rfl) (by rfl) ?_
        apply Exists.intro
        refine ⟨fun n K hK => ?_, ?_, ?_⟩
        · go_big_quiet_op
          exact hK _ rfl
        · kernel_rfl
        refine shM_step rfl rfl rfl (by rfl) (by rfl) ?_
        apply Exists.intro
        refine ⟨fun n K hK => ?_, ?_, ?_⟩
        · go_big_quiet_op
          exact hK _ rfl
        · kernel_rfl
        refine shM_step rfl rfl rfl (by rfl) (by rfl) ?_
        apply Exists.intro
        refine ⟨fun n K hK => ?_, ?_, ?_⟩
        · go_big_quiet_op
          exact hK _ rfl
        · kernel_rfl
        refine shM_step rfl rfl rfl (by rfl) (by rfl) ?_
        apply Exists.intro
        refine ⟨fun n K hK => ?_, ?_, ?_⟩
        · have cm0 : ∀ m : KW n.w, m.w.cell? ⟨gm, offm + (j + 1) * 3, none⟩ = some (.int .i64 op2) := fun m => (HM.out _ (keepN gR (keepN n.has m.keep))).1
          go_big_quiet_op
          exact hK _ rfl
        · kernel_rfl
        refine shM_step rfl rfl rfl (by rfl) (by rfl) ?_
        apply Exists.intro
        refine ⟨fun n K hK => ?_, ?_, ?_⟩
        · go_big_quiet_op
          exact hK _ rfl
        · kernel_rfl
        refine shM_step rfl rfl rfl (by rfl) (by rfl) ?_
        apply Exists.intro
        refine ⟨fun n K hK => ?_, ?_, ?_⟩
        · go_big_quiet_op
          exact hK _ rfl
        · kernel_rfl
        refine shM_step rfl rfl rfl (by rfl) (by rfl) ?_
        apply Exists.intro
        refine ⟨fun n K hK => ?_, ?_, ?_⟩
        · go_big_quiet_op
          exact hK _ rfl
        · kernel_rfl
        refine shM_step rfl rfl rfl (by rfl) (by rfl) ?_
        apply Exists.intro
        refine ⟨fun n K hK => ?_, ?_, ?_⟩
        · go_big_quiet_op
          exact hK _ rfl
        · kernel_rfl
        refine shM_step rfl rfl rfl (by rfl) (by rfl) ?_
        apply Exists.intro
        refine ⟨fun n K hK => ?_, ?_, ?_⟩
        · have cl0 : ∀ m : KW n.w, m.w.cell? ⟨gl, offl + j * 3, none⟩ = some (.int .i64 op2) := fun m => (HLc.out _ (keepN gR (keepN n.has m.keep))).1
          go_big_quiet_op
          exact hK _ rfl
        · kernel_rfl
        refine shM_step rfl rfl rfl (by rfl) (by rfl) ?_
        apply Exists.intro
        refine ⟨fun n K hK => ?_, ?_, ?_⟩
        · go_big_quiet_op
          exact hK _ rfl
        · kernel_rfl
        refine shM_step rfl rfl rfl (by rfl) (by rfl) ?_
        apply Exists.intro
        refine ⟨fun n K hK => ?_, ?_, ?_⟩
        · go_big_quiet_op
          exact hK _ rfl
        · kernel_rfl
        refine shM_step rfl rfl rfl (by rfl) (by rfl) ?_
        apply Exists.intro
        refine ⟨fun n K hK => ?_, ?_, ?_⟩
        · go_big_quiet_op
          exact hK _ rfl
        · kernel_rfl
        refine shM_step rfl rfl rfl (by rfl) (by rfl) ?_
        apply Exists.intro
        refine ⟨fun n K hK => ?_, ?_, ?_⟩
        · go_big_quiet_op
          exact hK _ rfl
        · kernel_rfl
        refine shM_step rfl rfl rfl (by rfl) (by rfl) ?_
        apply Exists.intro
        refine ⟨fun n K hK => ?_, ?_, ?_⟩
        · go_big_quiet_op
          exact hK _ rfl
        · kernel_rfl
        refine shM_step rfl rfl rfl (by rfl) (by rfl) ?_
        apply Exists.intro
        refine ⟨fun n K hK => ?_, ?_, ?_⟩
        · go_big_quiet_op
          exact hK _ rfl
        · kernel_rfl
        refine shM_step rfl rfl rfl (by rfl) (by rfl) ?_
        apply Exists.intro
        refine ⟨fun n K hK => ?_, ?_, ?_⟩
        · have cm2 : ∀ m : KW n.w, m.w.cell? ⟨gm, offm + (j + 1) * 3 + 2, none⟩ = some (.int .i64 b2) := fun m => (HM.out _ (keepN gR (keepN n.has m.keep))).2.2
          go_big_quiet_op
          exact hK _ rfl
        · kernel_rfl
        refine shM_step rfl rfl rfl (by rfl) (by rfl) ?_
        apply Exists.intro
        refine ⟨fun n K hK => ?_, ?_, ?_⟩
        · go_big_quiet_op
          exact hK _ rfl
        · kernel_rfl
        refine shM_step rfl rfl rfl (by rfl) (by rfl) ?_
        apply Exists.intro
        refine ⟨fun n K hK => ?_, ?_, ?_⟩
        · go_big_quiet_op
          exact hK _ rfl
        · kernel_rfl
        refine shM_step rfl rfl rfl (by rfl) (by rfl) ?_
        apply Exists.intro
        refine ⟨fun n K hK => ?_, ?_, ?_⟩
        · go_big_quiet_op
          exact hK _ rfl
        · kernel_rfl
        refine shM_step rfl rfl rfl (by rfl) (by rfl) ?_
        apply Exists.intro
        refine ⟨fun n K hK => ?_, ?_, ?_⟩
        · go_big_quiet_op
          exact hK _ rfl
        · kernel_rfl
        refine shM_step rfl rfl rfl (by rfl) (by rfl) ?_
        apply Exists.intro
        refine ⟨fun n K hK => ?_, ?_, ?_⟩
        · have cl2 : ∀ m : KW n.w, m.w.cell? ⟨gl, offl + j * 3 + 2, none⟩ = some (.int .i64 b2) := fun m => (HLc.out _ (keepN gR (keepN n.has m.keep))).2.2
          go_big_quiet_op
          exact hK _ rfl
        · kernel_rfl
        refine shM_step rfl rfl rfl (by rfl) (by rfl) ?_
        apply Exists.intro
        refine ⟨fun n K hK => ?_, ?_, ?_⟩
        · go_big_quiet_op
          exact hK _ rfl
        · kernel_rfl
        refine shM_step rfl rfl rfl (by rfl) (by rfl) ?_
        apply Exists.intro
        refine ⟨fun n K hK => ?_, ?_, ?_⟩
        · go_big_quiet_op
          exact hK _ rfl
        · kernel_rfl
        refine shM_nil (fun z => ?_)
        have k5 := z.has
        generalize z.w = w3 at k5 ⊢
        replace d0 := k5.cell d0 id
        replace d1 := k5.cell d1 id
        replace d2 := k5.cell d2 id
        replace gR := keepN gR k5
        clear k5
        cases hg : goesI op2 a2 b2
        · have HGo := Lib.hid (fun w => goes_gen op2 a2 b2 to false w hto hg)
          have hgo : (gone (k : Int) 1 (op2, a2, b2)).2.1 = a2 := by rw [gone_no (by rintro ⟨h, _⟩; exact absurd (show goesI op2 a2 b2 = true from h) (by rw [hg]; decide))]
          rw [hgo] at HM
          clear hto hto2 hg
          go_wp2_with fail
          refine (HGo.out _).mono ?_
          rintro e w4 ⟨rfl, k5⟩
          replace gR := keepN gR k5
          clear k5 d0 d1 d2
          go_wp2_with fail
          refine wp_region_sh ((0, false) :: (1, false) :: (2, false) :: (3, false) :: (4, false) :: (5, false) :: (6, false) :: (7, false) :: (8, false) :: (9, false) :: (10, false) :: (11, false) :: (12, false) :: (13, false) :: (14, false) :: (15, false) :: (16, false) :: (17, false) :: (18, false) :: (19, false) :: (20, false) :: (21, false) :: (22, false) :: (23, false) :: (24, false) :: (25, false) :: (26, false) :: (27, false) :: (28, false) :: (29, false) :: (30, false) :: (31, false) :: (32, false) :: (33, false) :: (34, false) :: (35, false) :: (36, false) :: (37, false) :: (38, false) :: (39, false) :: (40, false) :: (41, false) :: (42, false) :: (43, false) :: (44, false) :: (45, false) :: (46, false) :: (47, false) :: (48, false) :: (49, false) :: (50, false) :: (51, false) :: (52, false) :: (53, false) :: (54, false) :: (55, false) :: []) (fun w' => Keep NoB w4 w') (by kernel_rfl) (by kernel_rfl) (by rfl) (by kernel_rfl) (stable_keep w4) (Keep.refl NoB w4).drew ?_
          refine shM_step rfl rfl rfl (by rfl) (by rfl) ?_
          apply Exists.intro
          refine ⟨fun n K hK => ?_, ?_, ?_⟩
          · go_big_quiet_op
            exact hK _ rfl
          · kernel_rfl
          refine shM_step rfl rfl rfl (by rfl) (by rfl) ?_
          apply Exists.intro
          refine ⟨fun n K hK => ?_, ?_, ?_⟩
          · go_big_quiet_op
            exact hK _ rfl
          · kernel_rfl
          refine shM_step rfl rfl rfl (by rfl) (by rfl) ?_
          apply Exists.intro
          refine ⟨fun n K hK => ?_, ?_, ?_⟩
          · go_big_quiet_op
            exact hK _ rfl
          · kernel_rfl
          refine shM_step rfl rfl rfl (by rfl) (by rfl) ?_
          apply Exists.intro
          refine ⟨fun n K hK => ?_, ?_, ?_⟩
          · go_big_quiet_op
            exact hK _ rfl
          · kernel_rfl
          refine shM_step rfl rfl rfl (by rfl) (by rfl) ?_
          apply Exists.intro
          refine ⟨fun n K hK => ?_, ?_, ?_⟩
          · go_big_quiet_op
            exact hK _ rfl
          · kernel_rfl
          refine shM_step rfl rfl rfl (by rfl) (by rfl) ?_
          apply Exists.intro
          refine ⟨fun n K hK => ?_, ?_, ?_⟩
          · go_big_quiet_op
            exact hK _ rfl
          · kernel_rfl
          refine shM_step rfl rfl rfl (by rfl) (by rfl) ?_
          apply Exists.intro
          refine ⟨fun n K hK => ?_, ?_, ?_⟩
          · have cm0 : ∀ m : KW n.w, m.w.cell? ⟨gm, offm + (j + 1) * 3, none⟩ = some (.int .i64 op2) := fun m => (HM.out _ (keepN gR (keepN n.has m.keep))).1
            have cm1 : ∀ m : KW n.w, m.w.cell? ⟨gm, offm + (j + 1) * 3 + 1, none⟩ = some (.int .i64 a2) := fun m => (HM.out _ (keepN gR (keepN n.has m.keep))).2.1
            have cm2 : ∀ m : KW n.w, m.w.cell? ⟨gm, offm + (j + 1) * 3 + 2, none⟩ = some (.int .i64 b2) := fun m => (HM.out _ (keepN gR (keepN n.has m.keep))).2.2
            go_big_quiet_op
            exact hK _ rfl
          · kernel_rfl
          refine shM_step rfl rfl rfl (by rfl) (by rfl) ?_
          apply Exists.intro
          refine ⟨fun n K hK => ?_, ?_, ?_⟩
          · go_big_quiet_op
            exact hK _ rfl
          · kernel_rfl
          refine shM_step rfl rfl rfl (by rfl) (by rfl) ?_
          apply Exists.intro
          refine ⟨fun n K hK => ?_, ?_, ?_⟩
          · go_big_quiet_op
            exact hK _ rfl
          · kernel_rfl
          refine shM_step rfl rfl rfl (by rfl) (by rfl) ?_
          apply Exists.intro
          refine ⟨fun n K hK => ?_, ?_, ?_⟩
          · go_big_quiet_op
            exact hK _ rfl
          · kernel_rfl
          refine shM_step rfl rfl rfl (by rfl) (by rfl) ?_
          apply Exists.intro
          refine ⟨fun n K hK => ?_, ?_, ?_⟩
          · have cl0 : ∀ m : KW n.w, m.w.cell? ⟨gl, offl + j * 3, none⟩ = some (.int .i64 op2) := fun m => (HLc.out _ (keepN gR (keepN n.has m.keep))).1
            have cl1 : ∀ m : KW n.w, m.w.cell? ⟨gl, offl + j * 3 + 1, none⟩ = some (.int .i64 a2) := fun m => (HLc.out _ (keepN gR (keepN n.has m.keep))).2.1
            have cl2 : ∀ m : KW n.w, m.w.cell? ⟨gl, offl + j * 3 + 2, none⟩ = some (.int .i64 b2) := fun m => (HLc.out _ (keepN gR (keepN n.has m.keep))).2.2
            go_big_quiet_op
            exact hK _ rfl
          · kernel_rfl
          refine shM_step rfl rfl rfl (by rfl) (by rfl) ?_
          apply Exists.intro
          refine ⟨fun n K hK => ?_, ?_, ?_⟩
          · go_big_quiet_op
            exact hK _ rfl
          · kernel_rfl
          refine shM_step rfl rfl rfl (by rfl) (by rfl) ?_
          apply Exists.intro
          refine ⟨fun n K hK => ?_, ?_, ?_⟩
          · go_big_quiet_op
            exact hK _ rfl
          · kernel_rfl
          refine shM_step rfl rfl rfl (by rfl) (by rfl) ?_
          apply Exists.intro
          refine ⟨fun n K hK => ?_, ?_, ?_⟩
          · go_big_quiet_op
            exact hK _ rfl
          · kernel_rfl
          refine shM_step rfl rfl rfl (by rfl) (by rfl) ?_
          apply Exists.intro
          refine ⟨fun n K hK => ?_, ?_, ?_⟩
          · go_big_quiet_op
            exact hK _ rfl
          · kernel_rfl
          refine shM_step rfl rfl rfl (by rfl) (by rfl) ?_
          apply Exists.intro
          refine ⟨fun n K hK => ?_, ?_, ?_⟩
          · go_big_quiet_op
            exact hK _ rfl
          · kernel_rfl
          refine shM_skipU rfl (by kernel_rfl) ?_
          simp only [Act.put, List.setIfInBounds_toArray, List.set_cons_zero, List.set_cons_succ]
          refine shM_skipU rfl (by kernel_rfl) ?_
          simp only [Act.put, List.setIfInBounds_toArray, List.set_cons_zero, List.set_cons_succ]
          refine shM_skipU rfl (by kernel_rfl) ?_
          simp only [Act.put, List.setIfInBounds_toArray, List.set_cons_zero, List.set_cons_succ]
          refine shM_step rfl rfl rfl (by rfl) (by rfl) ?_
          apply Exists.intro
          refine ⟨fun n K hK => ?_, ?_, ?_⟩
          · go_big_quiet_op
            exact hK _ rfl
          · kernel_rfl
          refine shM_step rfl rfl rfl (by rfl) (by rfl) ?_
          apply Exists.intro
          refine ⟨fun n K hK => ?_, ?_, ?_⟩
          · go_big_quiet_op
            exact hK _ rfl
          · kernel_rfl
          refine shM_skipU rfl (by kernel_rfl) ?_
          simp only [Act.put, List.setIfInBounds_toArray, List.set_cons_zero, List.set_cons_succ]
          refine shM_skipU rfl (by kernel_rfl) ?_
          simp only [Act.put, List.setIfInBounds_toArray, List.set_cons_zero, List.set_cons_succ]
          refine shM_skipU rfl (by kernel_rfl) ?_
          simp only [Act.put, List.setIfInBounds_toArray, List.set_cons_zero, List.set_cons_succ]
          refine shM_skipU rfl (by kernel_rfl) ?_
          simp only [Act.put, List.setIfInBounds_toArray, List.set_cons_zero, List.set_cons_succ]
          refine shM_skipU rfl (by kernel_rfl) ?_
          simp only [Act.put, List.setIfInBounds_toArray, List.set_cons_zero, List.set_cons_succ]
          refine shM_skipU rfl (by kernel_rfl) ?_
          simp only [Act.put, List.setIfInBounds_toArray, List.set_cons_zero, List.set_cons_succ]
          refine shM_skipU rfl (by kernel_rfl) ?_
          simp only [Act.put, List.setIfInBounds_toArray, List.set_cons_zero, List.set_cons_succ]
          refine shM_skipU rfl (by kernel_rfl) ?_
          simp only [Act.put, List.setIfInBounds_toArray, List.set_cons_zero, List.set_cons_succ]
          refine shM_skipU rfl (by kernel_rfl) ?_
          simp only [Act.put, List.setIfInBounds_toArray, List.set_cons_zero, List.set_cons_succ]
          refine shM_skipU rfl (by kernel_rfl) ?_
          simp only [Act.put, List.setIfInBounds_toArray, List.set_cons_zero, List.set_cons_succ]
          refine shM_skipU rfl (by kernel_rfl) ?_
          simp only [Act.put, List.setIfInBounds_toArray, List.set_cons_zero, List.set_cons_succ]
          refine shM_step rfl rfl rfl (by rfl) (by rfl) ?_
          apply Exists.intro
          refine ⟨fun n K hK => ?_, ?_, ?_⟩
          · go_big_quiet_op
            exact hK _ rfl
          · kernel_rfl
          refine shM_step rfl rfl rfl (by rfl) (by rfl) ?_
          apply Exists.intro
          refine ⟨fun n K hK => ?_, ?_, ?_⟩
          · go_big_quiet_op
            exact hK _ rfl
          · kernel_rfl
          refine shM_step rfl rfl rfl (by rfl) (by rfl) ?_
          apply Exists.intro
          refine ⟨fun n K hK => ?_, ?_, ?_⟩
          · go_big_quiet_op
            exact hK _ rfl
          · kernel_rfl
          refine shM_step rfl rfl rfl (by rfl) (by rfl) ?_
          apply Exists.intro
          refine ⟨fun n K hK => ?_, ?_, ?_⟩
          · go_big_quiet_op
            exact hK _ rfl
          · kernel_rfl
          refine shM_step rfl rfl rfl (by rfl) (by rfl) ?_
          apply Exists.intro
          refine ⟨fun n K hK => ?_, ?_, ?_⟩
          · go_big_quiet_op
            exact hK _ rfl
          · kernel_rfl
          refine shM_skipU rfl (by kernel_rfl) ?_
          simp only [Act.put, List.setIfInBounds_toArray, List.set_cons_zero, List.set_cons_succ]
          refine shM_skipU rfl (by kernel_rfl) ?_
          simp only [Act.put, List.setIfInBounds_toArray, List.set_cons_zero, List.set_cons_succ]
          refine shM_skipU rfl (by kernel_rfl) ?_
          simp only [Act.put, List.setIfInBounds_toArray, List.set_cons_zero, List.set_cons_succ]
          refine shM_step rfl rfl rfl (by rfl) (by rfl) ?_
          apply Exists.intro
          refine ⟨fun n K hK => ?_, ?_, ?_⟩
          · go_big_quiet_op
            exact hK _ rfl
          · kernel_rfl
          refine shM_step rfl rfl rfl (by rfl) (by rfl) ?_
          apply Exists.intro
          refine ⟨fun n K hK => ?_, ?_, ?_⟩
          · go_big_quiet_op
            exact hK _ rfl
          · kernel_rfl
          refine shM_skipU rfl (by kernel_rfl) ?_
          simp only [Act.put, List.setIfInBounds_toArray, List.set_cons_zero, List.set_cons_succ]
          refine shM_skipU rfl (by kernel_rfl) ?_
          simp only [Act.put, List.setIfInBounds_toArray, List.set_cons_zero, List.set_cons_succ]
          refine shM_skipU rfl (by kernel_rfl) ?_
          simp only [Act.put, List.setIfInBounds_toArray, List.set_cons_zero, List.set_cons_succ]
          refine shM_skipU rfl (by kernel_rfl) ?_
          simp only [Act.put, List.setIfInBounds_toArray, List.set_cons_zero, List.set_cons_succ]
          refine shM_skipU rfl (by kernel_rfl) ?_
          simp only [Act.put, List.setIfInBounds_toArray, List.set_cons_zero, List.set_cons_succ]
          refine shM_skipU rfl (by kernel_rfl) ?_
          simp only [Act.put, List.setIfInBounds_toArray, List.set_cons_zero, List.set_cons_succ]
          refine shM_skipU rfl (by kernel_rfl) ?_
          simp only [Act.put, List.setIfInBounds_toArray, List.set_cons_zero, List.set_cons_succ]
          refine shM_skipU rfl (by kernel_rfl) ?_
          simp only [Act.put, List.setIfInBounds_toArray, List.set_cons_zero, List.set_cons_succ]
          refine shM_skipU rfl (by kernel_rfl) ?_
          simp only [Act.put, List.setIfInBounds_toArray, List.set_cons_zero, List.set_cons_succ]
          refine shM_skipU rfl (by kernel_rfl) ?_
          simp only [Act.put, List.setIfInBounds_toArray, List.set_cons_zero, List.set_cons_succ]
          refine shM_skipU rfl (by kernel_rfl) ?_
          simp only [Act.put, List.setIfInBounds_toArray, List.set_cons_zero, List.set_cons_succ]
          refine shM_skipU rfl (by kernel_rfl) ?_
          simp only [Act.put, List.setIfInBounds_toArray, List.set_cons_zero, List.set_cons_succ]
          refine shM_step rfl rfl rfl (by rfl) (by rfl) ?_
          apply Exists.intro
          refine ⟨fun n K hK => ?_, ?_, ?_⟩
          · go_big_quiet_op
            exact hK _ rfl
          · kernel_rfl
          refine shM_step rfl rfl rfl (by rfl) (by rfl) ?_
          apply Exists.intro
          refine ⟨fun n K hK => ?_, ?_, ?_⟩
          · go_big_quiet_op
            exact hK _ rfl
          · kernel_rfl
          refine shM_nil (fun z => ?_)
          have k5 := z.has
          generalize z.w = w6 at k5 ⊢
          go_wp2
          go_roundw
          case rel => exact ⟨j + 1, by omega, by go_num, keepN gR k5⟩
          case measure => simp [intOf]; omega
        · by_cases htk : (k : Int) < to
          · have HGo := Lib.hid (fun w => goes_gen op2 a2 b2 to true w hto hg)
            have hgo : (gone (k : Int) 1 (op2, a2, b2)).2.1 = a2 + 1 := by rw [gone_yes (x := (op2, a2, b2)) hg (by rw [hto2]; exact htk)]
            rw [hgo] at HM
            have ql : decide (to ≤ (k : Int)) = false := by rw [decide_eq_false_iff_not]; omega
            have qg : decide ((k : Int) < to) = true := by rw [decide_eq_true_iff]; omega
            have hain := gB_in (x := (op2, a2, b2)) hg
            dsimp only at hain
            clear hto hto2 hg
            go_wp2_with fail
            refine (HGo.out _).mono ?_
            rintro e w4 ⟨rfl, k5⟩
            replace gR := keepN gR k5
            clear k5 d0 d1 d2
            go_wp2_with fail
            refine wp_region_sh ((0, false) :: (1, false) :: (2, false) :: (3, false) :: (4, false) :: (5, false) :: (6, false) :: (7, false) :: (8, false) :: (9, false) :: (10, false) :: (11, false) :: (12, false) :: (13, false) :: (14, false) :: (15, false) :: (16, false) :: (17, false) :: (18, false) :: (19, false) :: (20, false) :: (21, false) :: (22, false) :: (23, false) :: (24, false) :: (25, false) :: (26, false) :: (27, false) :: (28, false) :: (29, false) :: (30, false) :: (31, false) :: (32, false) :: (33, false) :: (34, false) :: (35, false) :: (36, false) :: (37, false) :: (38, false) :: (39, false) :: (40, false) :: (41, false) :: (42, false) :: (43, false) :: (44, false) :: (45, false) :: (46, false) :: (47, false) :: (48, false) :: (49, false) :: (50, false) :: (51, false) :: (52, false) :: (53, false) :: (54, false) :: (55, false) :: []) (fun w' => Keep NoB w4 w') (by kernel_rfl) (by kernel_rfl) (by rfl) (by kernel_rfl) (stable_keep w4) (Keep.refl NoB w4).drew ?_
            refine shM_step rfl rfl rfl (by rfl) (by rfl) ?_
            apply Exists.intro
            refine ⟨fun n K hK => ?_, ?_, ?_⟩
            · go_big_quiet_op
              exact hK _ rfl
            · kernel_rfl
            refine shM_step rfl rfl rfl (by rfl) (by rfl) ?_
            apply Exists.intro
            refine ⟨fun n K hK => ?_, ?_, ?_⟩
            · go_big_quiet_op
              exact hK _ rfl
            · kernel_rfl
            refine shM_step rfl rfl rfl (by rfl) (by rfl) ?_
            apply Exists.intro
            refine ⟨fun n K hK => ?_, ?_, ?_⟩
            · go_big_quiet_op
              exact hK _ rfl
            · kernel_rfl
            refine shM_skipU rfl (by kernel_rfl) ?_
            simp only [Act.put, List.setIfInBounds_toArray, List.set_cons_zero, List.set_cons_succ]
            refine shM_skipU rfl (by kernel_rfl) ?_
            simp only [Act.put, List.setIfInBounds_toArray, List.set_cons_zero, List.set_cons_succ]
            refine shM_skipU rfl (by kernel_rfl) ?_
            simp only [Act.put, List.setIfInBounds_toArray, List.set_cons_zero, List.set_cons_succ]
            refine shM_skipU rfl (by kernel_rfl) ?_
            simp only [Act.put, List.setIfInBounds_toArray, List.set_cons_zero, List.set_cons_succ]
            refine shM_skipU rfl (by kernel_rfl) ?_
            simp only [Act.put, List.setIfInBounds_toArray, List.set_cons_zero, List.set_cons_succ]
            refine shM_skipU rfl (by kernel_rfl) ?_
            simp only [Act.put, List.setIfInBounds_toArray, List.set_cons_zero, List.set_cons_succ]
            refine shM_skipU rfl (by kernel_rfl) ?_
            simp only [Act.put, List.setIfInBounds_toArray, List.set_cons_zero, List.set_cons_succ]
            refine shM_skipU rfl (by kernel_rfl) ?_
            simp only [Act.put, List.setIfInBounds_toArray, List.set_cons_zero, List.set_cons_succ]
            refine shM_skipU rfl (by kernel_rfl) ?_
            simp only [Act.put, List.setIfInBounds_toArray, List.set_cons_zero, List.set_cons_succ]
            refine shM_step rfl rfl rfl (by rfl) (by rfl) ?_
            apply Exists.intro
            refine ⟨fun n K hK => ?_, ?_, ?_⟩
            · go_big_quiet_op
              exact hK _ rfl
            · kernel_rfl
            refine shM_step rfl rfl rfl (by rfl) (by rfl) ?_
            apply Exists.intro
            refine ⟨fun n K hK => ?_, ?_, ?_⟩
            · go_big_quiet_op
              exact hK _ rfl
            · kernel_rfl
            refine shM_step rfl rfl rfl (by rfl) (by rfl) ?_
            apply Exists.intro
            refine ⟨fun n K hK => ?_, ?_, ?_⟩
            · go_big_quiet_op
              exact hK _ rfl
            · kernel_rfl
            refine shM_step rfl rfl rfl (by rfl) (by rfl) ?_
            apply Exists.intro
            refine ⟨fun n K hK => ?_, ?_, ?_⟩
            · go_big_quiet_op
              exact hK _ rfl
            · kernel_rfl
            refine shM_step rfl rfl rfl (by rfl) (by rfl) ?_
            apply Exists.intro
            refine ⟨fun n K hK => ?_, ?_, ?_⟩
            · go_big_quiet_op
              exact hK _ rfl
            · kernel_rfl
            refine shM_step rfl rfl rfl (by rfl) (by rfl) ?_
            apply Exists.intro
            refine ⟨fun n K hK => ?_, ?_, ?_⟩
            · go_big_quiet_op
              exact hK _ rfl
            · kernel_rfl
            refine shM_step rfl rfl rfl (by rfl) (by rfl) ?_
            apply Exists.intro
            refine ⟨fun n K hK => ?_, ?_, ?_⟩
            · go_big_quiet_op
              exact hK _ rfl
            · kernel_rfl
            refine shM_step rfl rfl rfl (by rfl) (by rfl) ?_
            apply Exists.intro
            refine ⟨fun n K hK => ?_, ?_, ?_⟩
            · go_big_quiet_op
              exact hK _ rfl
            · kernel_rfl
            refine shM_step rfl rfl rfl (by rfl) (by rfl) ?_
            apply Exists.intro
            refine ⟨fun n K hK => ?_, ?_, ?_⟩
            · go_big_quiet_op
              exact hK _ rfl
            · kernel_rfl
            refine shM_skipU rfl (by kernel_rfl) ?_
            simp only [Act.put, List.setIfInBounds_toArray, List.set_cons_zero, List.set_cons_succ]
            refine shM_skipU rfl (by kernel_rfl) ?_
            simp only [Act.put, List.setIfInBounds_toArray, List.set_cons_zero, List.set_cons_succ]
            refine shM_skipU rfl (by kernel_rfl) ?_
            simp only [Act.put, List.setIfInBounds_toArray, List.set_cons_zero, List.set_cons_succ]
            refine shM_skipU rfl (by kernel_rfl) ?_
            simp only [Act.put, List.setIfInBounds_toArray, List.set_cons_zero, List.set_cons_succ]
            refine shM_skipU rfl (by kernel_rfl) ?_
            simp only [Act.put, List.setIfInBounds_toArray, List.set_cons_zero, List.set_cons_succ]
            refine shM_skipU rfl (by kernel_rfl) ?_
            simp only [Act.put, List.setIfInBounds_toArray, List.set_cons_zero, List.set_cons_succ]
            refine shM_skipU rfl (by kernel_rfl) ?_
            simp only [Act.put, List.setIfInBounds_toArray, List.set_cons_zero, List.set_cons_succ]
            refine shM_skipU rfl (by kernel_rfl) ?_
            simp only [Act.put, List.setIfInBounds_toArray, List.set_cons_zero, List.set_cons_succ]
            refine shM_skipU rfl (by kernel_rfl) ?_
            simp only [Act.put, List.setIfInBounds_toArray, List.set_cons_zero, List.set_cons_succ]
            refine shM_skipU rfl (by kernel_rfl) ?_
            simp only [Act.put, List.setIfInBounds_toArray, List.set_cons_zero, List.set_cons_succ]
            refine shM_skipU rfl (by kernel_rfl) ?_
            simp only [Act.put, List.setIfInBounds_toArray, List.set_cons_zero, List.set_cons_succ]
            refine shM_step rfl rfl rfl (by rfl) (by rfl) ?_
            apply Exists.intro
            refine ⟨fun n K hK => ?_, ?_, ?_⟩
            · go_big_quiet_op
              exact hK _ rfl
            · kernel_rfl
            refine shM_step rfl rfl rfl (by rfl) (by rfl) ?_
            apply Exists.intro
            refine ⟨fun n K hK => ?_, ?_, ?_⟩
            · go_big_quiet_op
              exact hK _ rfl
            · kernel_rfl
            refine shM_step rfl rfl rfl (by rfl) (by rfl) ?_
            apply Exists.intro
            refine ⟨fun n K hK => ?_, ?_, ?_⟩
            · go_big_quiet_op
              exact hK _ rfl
            · kernel_rfl
            refine shM_step rfl rfl rfl (by rfl) (by rfl) ?_
            apply Exists.intro
            refine ⟨fun n K hK => ?_, ?_, ?_⟩
            · go_big_quiet_op
              exact hK _ rfl
            · kernel_rfl
            refine shM_step rfl rfl rfl (by rfl) (by rfl) ?_
            apply Exists.intro
            refine ⟨fun n K hK => ?_, ?_, ?_⟩
            · go_big_quiet_op
              exact hK _ rfl
            · kernel_rfl
            refine shM_step rfl rfl rfl (by rfl) (by rfl) ?_
            apply Exists.intro
            refine ⟨fun n K hK => ?_, ?_, ?_⟩
            · go_big_quiet_op
              exact hK _ rfl
            · kernel_rfl
            refine shM_step rfl rfl rfl (by rfl) (by rfl) ?_
            apply Exists.intro
            refine ⟨fun n K hK => ?_, ?_, ?_⟩
            · go_big_quiet_op
              exact hK _ rfl
            · kernel_rfl
            refine shM_step rfl rfl rfl (by rfl) (by rfl) ?_
            apply Exists.intro
            refine ⟨fun n K hK => ?_, ?_, ?_⟩
            · go_big_quiet_op
              exact hK _ rfl
            · kernel_rfl
            refine shM_step rfl rfl rfl (by rfl) (by rfl) ?_
            apply Exists.intro
            refine ⟨fun n K hK => ?_, ?_, ?_⟩
            · go_big_quiet_op
              exact hK _ rfl
            · kernel_rfl
            refine shM_step rfl rfl rfl (by rfl) (by rfl) ?_
            apply Exists.intro
            refine ⟨fun n K hK => ?_, ?_, ?_⟩
            · go_big_quiet_op
              exact hK _ rfl
            · kernel_rfl
            refine shM_step rfl rfl rfl (by rfl) (by rfl) ?_
            apply Exists.intro
            refine ⟨fun n K hK => ?_, ?_, ?_⟩
            · go_big_quiet_op
              exact hK _ rfl
            · kernel_rfl
            refine shM_step rfl rfl rfl (by rfl) (by rfl) ?_
            apply Exists.intro
            refine ⟨fun n K hK => ?_, ?_, ?_⟩
            · go_big_quiet_op
              exact hK _ rfl
            · kernel_rfl
            refine shM_step rfl rfl rfl (by rfl) (by rfl) ?_
            apply Exists.intro
            refine ⟨fun n K hK => ?_, ?_, ?_⟩
            · go_big_quiet_op
              exact hK _ rfl
            · kernel_rfl
            refine shM_step rfl rfl rfl (by rfl) (by rfl) ?_
            apply Exists.intro
            refine ⟨fun n K hK => ?_, ?_, ?_⟩
            · go_big_quiet_op
              exact hK _ rfl
            · kernel_rfl
            refine shM_step rfl rfl rfl (by rfl) (by rfl) ?_
            apply Exists.intro
            refine ⟨fun n K hK => ?_, ?_, ?_⟩
            · have cm1 : ∀ m : KW n.w, m.w.cell? ⟨gm, offm + (j + 1) * 3 + 1, none⟩ = some (.int .i64 (a2 + 1)) := fun m => (HM.out _ (keepN gR (keepN n.has m.keep))).2.1
              go_big_quiet_op
              exact hK _ rfl
            · kernel_rfl
            refine shM_step rfl rfl rfl (by rfl) (by rfl) ?_
            apply Exists.intro
            refine ⟨fun n K hK => ?_, ?_, ?_⟩
            · go_big_quiet_op
              exact hK _ rfl
            · kernel_rfl
            refine shM_step rfl rfl rfl (by rfl) (by rfl) ?_
            apply Exists.intro
            refine ⟨fun n K hK => ?_, ?_, ?_⟩
            · go_big_quiet_op
              exact hK _ rfl
            · kernel_rfl
            refine shM_step rfl rfl rfl (by rfl) (by rfl) ?_
            apply Exists.intro
            refine ⟨fun n K hK => ?_, ?_, ?_⟩
            · go_big_quiet_op
              exact hK _ rfl
            · kernel_rfl
            refine shM_step rfl rfl rfl (by rfl) (by rfl) ?_
            apply Exists.intro
            refine ⟨fun n K hK => ?_, ?_, ?_⟩
            · go_big_quiet_op
              exact hK _ rfl
            · kernel_rfl
            refine shM_step rfl rfl rfl (by rfl) (by rfl) ?_
            apply Exists.intro
            refine ⟨fun n K hK => ?_, ?_, ?_⟩
            · have cl1 : ∀ m : KW n.w, m.w.cell? ⟨gl, offl + j * 3 + 1, none⟩ = some (.int .i64 a2) := fun m => (HLc.out _ (keepN gR (keepN n.has m.keep))).2.1
              go_big_quiet_op
              exact hK _ rfl
            · kernel_rfl
            refine shM_step rfl rfl rfl (by rfl) (by rfl) ?_
            apply Exists.intro
            refine ⟨fun n K hK => ?_, ?_, ?_⟩
            · go_big_quiet_op
              exact hK _ rfl
            · kernel_rfl
            refine shM_step rfl rfl rfl (by rfl) (by rfl) ?_
            apply Exists.intro
            refine ⟨fun n K hK => ?_, ?_, ?_⟩
            · go_big_quiet_op
              exact hK _ rfl
            · kernel_rfl
            refine shM_step rfl rfl rfl (by rfl) (by rfl) ?_
            apply Exists.intro
            refine ⟨fun n K hK => ?_, ?_, ?_⟩
            · go_big_quiet_op
              exact hK _ rfl
            · kernel_rfl
            refine shM_step rfl rfl rfl (by rfl) (by rfl) ?_
            apply Exists.intro
            refine ⟨fun n K hK => ?_, ?_, ?_⟩
            · go_big_quiet_op
              exact hK _ rfl
            · kernel_rfl
            refine shM_nil (fun z => ?_)
            have k5 := z.has
            generalize z.w = w6 at k5 ⊢
            go_wp2
            go_roundw
            case rel => exact ⟨j + 1, by omega, by go_num, keepN gR k5⟩
            case measure => simp [intOf]; omega
          · have HGo := Lib.hid (fun w => goes_gen op2 a2 b2 to true w hto hg)
            have hgo : (gone (k : Int) 1 (op2, a2, b2)).2.1 = a2 := by rw [gone_no (by rintro ⟨_, h⟩; rw [hto2] at h; omega)]
            rw [hgo] at HM
            have ql : decide (to ≤ (k : Int)) = true := by rw [decide_eq_true_iff]; omega
            have qg : decide ((k : Int) < to) = false := by rw [decide_eq_false_iff_not]; omega
            clear hto hto2 hg
            go_wp2_with fail
            refine (HGo.out _).mono ?_
            rintro e w4 ⟨rfl, k5⟩
            replace gR := keepN gR k5
            clear k5 d0 d1 d2
            go_wp2_with fail
            refine wp_region_sh ((0, false) :: (1, false) :: (2, false) :: (3, false) :: (4, false) :: (5, false) :: (6, false) :: (7, false) :: (8, false) :: (9, false) :: (10, false) :: (11, false) :: (12, false) :: (13, false) :: (14, false) :: (15, false) :: (16, false) :: (17, false) :: (18, false) :: (19, false) :: (20, false) :: (21, false) :: (22, false) :: (23, false) :: (24, false) :: (25, false) :: (26, false) :: (27, false) :: (28, false) :: (29, false) :: (30, false) :: (31, false) :: (32, false) :: (33, false) :: (34, false) :: (35, false) :: (36, false) :: (37, false) :: (38, false) :: (39, false) :: (40, false) :: (41, false) :: (42, false) :: (43, false) :: (44, false) :: (45, false) :: (46, false) :: (47, false) :: (48, false) :: (49, false) :: (50, false) :: (51, false) :: (52, false) :: (53, false) :: (54, false) :: (55, false) :: []) (fun w' => Keep NoB w4 w') (by kernel_rfl) (by kernel_rfl) (by rfl) (by kernel_rfl) (stable_keep w4) (Keep.refl NoB w4).drew ?_
            refine shM_step rfl rfl rfl (by rfl) (by rfl) ?_
            apply Exists.intro
            refine ⟨fun n K hK => ?_, ?_, ?_⟩
            · go_big_quiet_op
              exact hK _ rfl
            · kernel_rfl
            refine shM_step rfl rfl rfl (by rfl) (by rfl) ?_
            apply Exists.intro
            refine ⟨fun n K hK => ?_, ?_, ?_⟩
            · go_big_quiet_op
              exact hK _ rfl
            · kernel_rfl
            refine shM_step rfl rfl rfl (by rfl) (by rfl) ?_
            apply Exists.intro
            refine ⟨fun n K hK => ?_, ?_, ?_⟩
            · go_big_quiet_op
              exact hK _ rfl
            · kernel_rfl
            refine shM_skipU rfl (by kernel_rfl) ?_
            simp only [Act.put, List.setIfInBounds_toArray, List.set_cons_zero, List.set_cons_succ]
            refine shM_skipU rfl (by kernel_rfl) ?_
            simp only [Act.put, List.setIfInBounds_toArray, List.set_cons_zero, List.set_cons_succ]
            refine shM_skipU rfl (by kernel_rfl) ?_
            simp only [Act.put, List.setIfInBounds_toArray, List.set_cons_zero, List.set_cons_succ]
            refine shM_skipU rfl (by kernel_rfl) ?_
            simp only [Act.put, List.setIfInBounds_toArray, List.set_cons_zero, List.set_cons_succ]
            refine shM_skipU rfl (by kernel_rfl) ?_
            simp only [Act.put, List.setIfInBounds_toArray, List.set_cons_zero, List.set_cons_succ]
            refine shM_skipU rfl (by kernel_rfl) ?_
            simp only [Act.put, List.setIfInBounds_toArray, List.set_cons_zero, List.set_cons_succ]
            refine shM_skipU rfl (by kernel_rfl) ?_
            simp only [Act.put, List.setIfInBounds_toArray, List.set_cons_zero, List.set_cons_succ]
            refine shM_skipU rfl (by kernel_rfl) ?_
            simp only [Act.put, List.setIfInBounds_toArray, List.set_cons_zero, List.set_cons_succ]
            refine shM_skipU rfl (by kernel_rfl) ?_
            simp only [Act.put, List.setIfInBounds_toArray, List.set_cons_zero, List.set_cons_succ]
            refine shM_step rfl rfl rfl (by rfl) (by rfl) ?_
            apply Exists.intro
            refine ⟨fun n K hK => ?_, ?_, ?_⟩
            · go_big_quiet_op
              exact hK _ rfl
            · kernel_rfl
            refine shM_step rfl rfl rfl (by rfl) (by rfl) ?_
            apply Exists.intro
            refine ⟨fun n K hK => ?_, ?_, ?_⟩
            · go_big_quiet_op
              exact hK _ rfl
            · kernel_rfl
            refine shM_step rfl rfl rfl (by rfl) (by rfl) ?_
            apply Exists.intro
            refine ⟨fun n K hK => ?_, ?_, ?_⟩
            · go_big_quiet_op
              exact hK _ rfl
            · kernel_rfl
            refine shM_step rfl rfl rfl (by rfl) (by rfl) ?_
            apply Exists.intro
            refine ⟨fun n K hK => ?_, ?_, ?_⟩
            · go_big_quiet_op
              exact hK _ rfl
            · kernel_rfl
            refine shM_step rfl rfl rfl (by rfl) (by rfl) ?_
            apply Exists.intro
            refine ⟨fun n K hK => ?_, ?_, ?_⟩
            · go_big_quiet_op
              exact hK _ rfl
            · kernel_rfl
            refine shM_step rfl rfl rfl (by rfl) (by rfl) ?_
            apply Exists.intro
            refine ⟨fun n K hK => ?_, ?_, ?_⟩
            · go_big_quiet_op
              exact hK _ rfl
            · kernel_rfl
            refine shM_step rfl rfl rfl (by rfl) (by rfl) ?_
            apply Exists.intro
            refine ⟨fun n K hK => ?_, ?_, ?_⟩
            · go_big_quiet_op
              exact hK _ rfl
            · kernel_rfl
            refine shM_step rfl rfl rfl (by rfl) (by rfl) ?_
            apply Exists.intro
            refine ⟨fun n K hK => ?_, ?_, ?_⟩
            · go_big_quiet_op
              exact hK _ rfl
            · kernel_rfl
            refine shM_step rfl rfl rfl (by rfl) (by rfl) ?_
            apply Exists.intro
            refine ⟨fun n K hK => ?_, ?_, ?_⟩
            · go_big_quiet_op
              exact hK _ rfl
            · kernel_rfl
            refine shM_step rfl rfl rfl (by rfl) (by rfl) ?_
            apply Exists.intro
            refine ⟨fun n K hK => ?_, ?_, ?_⟩
            · go_big_quiet_op
              exact hK _ rfl
            · kernel_rfl
            refine shM_step rfl rfl rfl (by rfl) (by rfl) ?_
            apply Exists.intro
            refine ⟨fun n K hK => ?_, ?_, ?_⟩
            · go_big_quiet_op
              exact hK _ rfl
            · kernel_rfl
            refine shM_step rfl rfl rfl (by rfl) (by rfl) ?_
            apply Exists.intro
            refine ⟨fun n K hK => ?_, ?_, ?_⟩
            · go_big_quiet_op
              exact hK _ rfl
            · kernel_rfl
            refine shM_step rfl rfl rfl (by rfl) (by rfl) ?_
            apply Exists.intro
            refine ⟨fun n K hK => ?_, ?_, ?_⟩
            · go_big_quiet_op
              exact hK _ rfl
            · kernel_rfl
            refine shM_step rfl rfl rfl (by rfl) (by rfl) ?_
            apply Exists.intro
            refine ⟨fun n K hK => ?_, ?_, ?_⟩
            · have cm1 : ∀ m : KW n.w, m.w.cell? ⟨gm, offm + (j + 1) * 3 + 1, none⟩ = some (.int .i64 a2) := fun m => (HM.out _ (keepN gR (keepN n.has m.keep))).2.1
              go_big_quiet_op
              exact hK _ rfl
            · kernel_rfl
            refine shM_step rfl rfl rfl (by rfl) (by rfl) ?_
            apply Exists.intro
            refine ⟨fun n K hK => ?_, ?_, ?_⟩
            · go_big_quiet_op
              exact hK _ rfl
            · kernel_rfl
            refine shM_step rfl rfl rfl (by rfl) (by rfl) ?_
            apply Exists.intro
            refine ⟨fun n K hK => ?_, ?_, ?_⟩
            · go_big_quiet_op
              exact hK _ rfl
            · kernel_rfl
            refine shM_step rfl rfl rfl (by rfl) (by rfl) ?_
            apply Exists.intro
            refine ⟨fun n K hK => ?_, ?_, ?_⟩
            · go_big_quiet_op
              exact hK _ rfl
            · kernel_rfl
            refine shM_step rfl rfl rfl (by rfl) (by rfl) ?_
            apply Exists.intro
            refine ⟨fun n K hK => ?_, ?_, ?_⟩
            · go_big_quiet_op
              exact hK _ rfl
            · kernel_rfl
            refine shM_step rfl rfl rfl (by rfl) (by rfl) ?_
            apply Exists.intro
            refine ⟨fun n K hK => ?_, ?_, ?_⟩
            · have cl1 : ∀ m : KW n.w, m.w.cell? ⟨gl, offl + j * 3 + 1, none⟩ = some (.int .i64 a2) := fun m => (HLc.out _ (keepN gR (keepN n.has m.keep))).2.1
              go_big_quiet_op
              exact hK _ rfl
            · kernel_rfl
            refine shM_step rfl rfl rfl (by rfl) (by rfl) ?_
            apply Exists.intro
            refine ⟨fun n K hK => ?_, ?_, ?_⟩
            · go_big_quiet_op
              exact hK _ rfl
            · kernel_rfl
            refine shM_step rfl rfl rfl (by rfl) (by rfl) ?_
            apply Exists.intro
            refine ⟨fun n K hK => ?_, ?_, ?_⟩
            · go_big_quiet_op
              exact hK _ rfl
            · kernel_rfl
            refine shM_step rfl rfl rfl (by rfl) (by rfl) ?_
            apply Exists.intro
            refine ⟨fun n K hK => ?_, ?_, ?_⟩
            · go_big_quiet_op
              exact hK _ rfl
            · kernel_rfl
            refine shM_step rfl rfl rfl (by rfl) (by rfl) ?_
            apply Exists.intro
            refine ⟨fun n K hK => ?_, ?_, ?_⟩
            · go_big_quiet_op
              exact hK _ rfl
            · kernel_rfl
            refine shM_step rfl rfl rfl (by rfl) (by rfl) ?_
            apply Exists.intro
            refine ⟨fun n K hK => ?_, ?_, ?_⟩
            · go_big_quiet_op
              exact hK _ rfl
            · kernel_rfl
            refine shM_step rfl rfl rfl (by rfl) (by rfl) ?_
            apply Exists.intro
            refine ⟨fun n K hK => ?_, ?_, ?_⟩
            · go_big_quiet_op
              exact hK _ rfl
            · kernel_rfl
            refine shM_step rfl rfl rfl (by rfl) (by rfl) ?_
            apply Exists.intro
            refine ⟨fun n K hK => ?_, ?_, ?_⟩
            · go_big_quiet_op
              exact hK _ rfl
            · kernel_rfl
            refine shM_step rfl rfl rfl (by rfl) (by rfl) ?_
            apply Exists.intro
            refine ⟨fun n K hK => ?_, ?_, ?_⟩
            · go_big_quiet_op
              exact hK _ rfl
            · kernel_rfl
            refine shM_step rfl rfl rfl (by rfl) (by rfl) ?_
            apply Exists.intro
            refine ⟨fun n K hK => ?_, ?_, ?_⟩
            · go_big_quiet_op
              exact hK _ rfl
            · kernel_rfl
            refine shM_step rfl rfl rfl (by rfl) (by rfl) ?_
            apply Exists.intro
            refine ⟨fun n K hK => ?_, ?_, ?_⟩
            · go_big_quiet_op
              exact hK _ rfl
            · kernel_rfl
            refine shM_step rfl rfl rfl (by rfl) (by rfl) ?_
            apply Exists.intro
            refine ⟨fun n K hK => ?_, ?_, ?_⟩
            · go_big_quiet_op
              exact hK _ rfl
            · kernel_rfl
            refine shM_skipU rfl (by kernel_rfl) ?_
            simp only [Act.put, List.setIfInBounds_toArray, List.set_cons_zero, List.set_cons_succ]
            refine shM_skipU rfl (by kernel_rfl) ?_
            simp only [Act.put, List.setIfInBounds_toArray, List.set_cons_zero, List.set_cons_succ]
            refine shM_skipU rfl (by kernel_rfl) ?_
            simp only [Act.put, List.setIfInBounds_toArray, List.set_cons_zero, List.set_cons_succ]
            refine shM_skipU rfl (by kernel_rfl) ?_
            simp only [Act.put, List.setIfInBounds_toArray, List.set_cons_zero, List.set_cons_succ]
            refine shM_skipU rfl (by kernel_rfl) ?_
            simp only [Act.put, List.setIfInBounds_toArray, List.set_cons_zero, List.set_cons_succ]
            refine shM_skipU rfl (by kernel_rfl) ?_
            simp only [Act.put, List.setIfInBounds_toArray, List.set_cons_zero, List.set_cons_succ]
            refine shM_skipU rfl (by kernel_rfl) ?_
            simp only [Act.put, List.setIfInBounds_toArray, List.set_cons_zero, List.set_cons_succ]
            refine shM_skipU rfl (by kernel_rfl) ?_
            simp only [Act.put, List.setIfInBounds_toArray, List.set_cons_zero, List.set_cons_succ]
            refine shM_skipU rfl (by kernel_rfl) ?_
            simp only [Act.put, List.setIfInBounds_toArray, List.set_cons_zero, List.set_cons_succ]
            refine shM_skipU rfl (by kernel_rfl) ?_
            simp only [Act.put, List.setIfInBounds_toArray, List.set_cons_zero, List.set_cons_succ]
            refine shM_skipU rfl (by kernel_rfl) ?_
            simp only [Act.put, List.setIfInBounds_toArray, List.set_cons_zero, List.set_cons_succ]
            refine shM_skipU rfl (by kernel_rfl) ?_
            simp only [Act.put, List.setIfInBounds_toArray, List.set_cons_zero, List.set_cons_succ]
            refine shM_step rfl rfl rfl (by rfl) (by rfl) ?_
            apply Exists.intro
            refine ⟨fun n K hK => ?_, ?_, ?_⟩
            · go_big_quiet_op
              exact hK _ rfl
            · kernel_rfl
            refine shM_step rfl rfl rfl (by rfl) (by rfl) ?_
            apply Exists.intro
            refine ⟨fun n K hK => ?_, ?_, ?_⟩
            · go_big_quiet_op
              exact hK _ rfl
            · kernel_rfl
            refine shM_nil (fun z => ?_)
            have k5 := z.has
            generalize z.w = w6 at k5 ⊢
            go_wp2
            go_roundw
            case rel => exact ⟨j + 1, by omega, by go_num, keepN gR k5⟩
            case measure => simp [intOf]; omega
      · have hup : upP k j = j := if_neg hge
        rw [hup] at HMc
        have hq2 : decide ((k : Int) ≤ (j : Int)) = false := by rw [decide_eq_false_iff_not]; omega
        have hja : j < n1 := by omega
        have hMc2 : Hid (∀ w', Keep NoB w2 w' → w'.cell? ⟨gm, offm + j * 3, none⟩ = some (.int .i64 op2) ∧ w'.cell? ⟨gm, offm + j * 3 + 1, none⟩ = some (.int .i64 (gone k 1 (op2, a2, b2)).2.1) ∧ w'.cell? ⟨gm, offm + j * 3 + 2, none⟩ = some (.int .i64 b2)) := fun w' hk => by
          have := HMc.out w' hk
          rw [hop.1, hop.2] at this
          exact this
        have HM := hMc2
        clear hMc2 HMc hup hop
        go_wp2_with fail
        refine wp_region_sh ((0, false) :: (1, false) :: (2, false) :: (3, false) :: (4, false) :: (5, false) :: (6, false) :: (7, false) :: (8, false) :: (9, false) :: (10, false) :: (11, false) :: (12, false) :: (13, false) :: (14, false) :: (15, false) :: (16, false) :: (17, false) :: (18, false) :: (19, false) :: (20, false) :: (21, false) :: (22, false) :: (23, false) :: []) (fun w' => Keep NoB wr w') (by kernel_rfl) (by kernel_rfl) (by rfl) (by kernel_rfl) (stable_keep wr) (Keep.refl NoB wr).drew ?_
        refine shM_step rfl rfl rfl (by rfl) (by rfl) ?_
        apply Exists.intro
        refine ⟨fun n K hK => ?_, ?_, ?_⟩
        · go_big_quiet_op
          exact hK _ rfl
        · kernel_rfl
        refine shM_step rfl rfl rfl (by rfl) (by rfl) ?_
        apply Exists.intro
        refine ⟨fun n K hK => ?_, ?_, ?_⟩
        · go_big_quiet_op
          exact hK _ rfl
        · kernel_rfl
        refine shM_step rfl rfl rfl (by rfl) (by rfl) ?_
        apply Exists.intro
        refine ⟨fun n K hK => ?_, ?_, ?_⟩
        · go_big_quiet_op
          exact hK _ rfl
        · kernel_rfl
        refine shM_step rfl rfl rfl (by rfl) (by rfl) ?_
        apply Exists.intro
        refine ⟨fun n K hK => ?_, ?_, ?_⟩
        · go_big_quiet_op
          exact hK _ rfl
        · kernel_rfl
        refine shM_step rfl rfl rfl (by rfl) (by rfl) ?_
        apply Exists.intro
        refine ⟨fun n K hK => ?_, ?_, ?_⟩
        · have cm0 : ∀ m : KW n.w, m.w.cell? ⟨gm, offm + j * 3, none⟩ = some (.int .i64 op2) := fun m => (HM.out _ (keepN gR (keepN n.has m.keep))).1
          go_big_quiet_op
          exact hK _ rfl
        · kernel_rfl
        refine shM_step rfl rfl rfl (by rfl) (by rfl) ?_
        apply Exists.intro
        refine ⟨fun n K hK => ?_, ?_, ?_⟩
        · go_big_quiet_op
          exact hK _ rfl
        · kernel_rfl
        refine shM_step rfl rfl rfl (by rfl) (by rfl) ?_
        apply Exists.intro
        refine ⟨fun n K hK => ?_, ?_, ?_⟩
        · go_big_quiet_op
          exact hK _ rfl
        · kernel_rfl
        refine shM_step rfl rfl rfl (by rfl) (by rfl) ?_
        apply Exists.intro
        refine ⟨fun n K hK => ?_, ?_, ?_⟩
        · go_big_quiet_op
          exact hK _ rfl
        · kernel_rfl
        refine shM_step rfl rfl rfl (by rfl) (by rfl) ?_
        apply Exists.intro
        refine ⟨fun n K hK => ?_, ?_, ?_⟩
        · go_big_quiet_op
          exact hK _ rfl
        · kernel_rfl
        refine shM_step rfl rfl rfl (by rfl) (by rfl) ?_
        apply Exists.intro
        refine ⟨fun n K hK => ?_, ?_, ?_⟩
        · have cl0 : ∀ m : KW n.w, m.w.cell? ⟨gl, offl + j * 3, none⟩ = some (.int .i64 op2) := fun m => (HLc.out _ (keepN gR (keepN n.has m.keep))).1
          go_big_quiet_op
          exact hK _ rfl
        · kernel_rfl
        refine shM_step rfl rfl rfl (by rfl) (by rfl) ?_
        apply Exists.intro
        refine ⟨fun n K hK => ?_, ?_, ?_⟩
        · go_big_quiet_op
          exact hK _ rfl
        · kernel_rfl
        refine shM_step rfl rfl rfl (by rfl) (by rfl) ?_
        apply Exists.intro
        refine ⟨fun n K hK => ?_, ?_, ?_⟩
        · go_big_quiet_op
          exact hK _ rfl
        · kernel_rfl
        refine shM_step rfl rfl rfl (by rfl) (by rfl) ?_
        apply Exists.intro
        refine ⟨fun n K hK => ?_, ?_, ?_⟩
        · go_big_quiet_op
          exact hK _ rfl
        · kernel_rfl
        refine shM_step rfl rfl rfl (by rfl) (by rfl) ?_
        apply Exists.intro
        refine ⟨fun n K hK => ?_, ?_, ?_⟩
        · go_big_quiet_op
          exact hK _ rfl
        · kernel_rfl
        refine shM_step rfl rfl rfl (by rfl) (by rfl) ?_
        apply Exists.intro
        refine ⟨fun n K hK => ?_, ?_, ?_⟩
        · go_big_quiet_op
          exact hK _ rfl
        · kernel_rfl
        refine shM_step rfl rfl rfl (by rfl) (by rfl) ?_
        apply Exists.intro
        refine ⟨fun n K hK => ?_, ?_, ?_⟩
        · go_big_quiet_op
          exact hK _ rfl
        · kernel_rfl
        refine shM_step rfl rfl rfl (by rfl) (by rfl) ?_
        apply Exists.intro
        refine ⟨fun n K hK => ?_, ?_, ?_⟩
        · have cm2 : ∀ m : KW n.w, m.w.cell? ⟨gm, offm + j * 3 + 2, none⟩ = some (.int .i64 b2) := fun m => (HM.out _ (keepN gR (keepN n.has m.keep))).2.2
          go_big_quiet_op
          exact hK _ rfl
        · kernel_rfl
        refine shM_step rfl rfl rfl (by rfl) (by rfl) ?_
        apply Exists.intro
        refine ⟨fun n K hK => ?_, ?_, ?_⟩
        · go_big_quiet_op
          exact hK _ rfl
        · kernel_rfl
        refine shM_step rfl rfl rfl (by rfl) (by rfl) ?_
        apply Exists.intro
        refine ⟨fun n K hK => ?_, ?_, ?_⟩
        · go_big_quiet_op
          exact hK _ rfl
        · kernel_rfl
        refine shM_step rfl rfl rfl (by rfl) (by rfl) ?_
        apply Exists.intro
        refine ⟨fun n K hK => ?_, ?_, ?_⟩
        · go_big_quiet_op
          exact hK _ rfl
        · kernel_rfl
        refine shM_step rfl rfl rfl (by rfl) (by rfl) ?_
        apply Exists.intro
        refine ⟨fun n K hK => ?_, ?_, ?_⟩
        · go_big_quiet_op
          exact hK _ rfl
        · kernel_rfl
        refine shM_step rfl rfl rfl (by rfl) (by rfl) ?_
        apply Exists.intro
        refine ⟨fun n K hK => ?_, ?_, ?_⟩
        · have cl2 : ∀ m : KW n.w, m.w.cell? ⟨gl, offl + j * 3 + 2, none⟩ = some (.int .i64 b2) := fun m => (HLc.out _ (keepN gR (keepN n.has m.keep))).2.2
          go_big_quiet_op
          exact hK _ rfl
        · kernel_rfl
        refine shM_step rfl rfl rfl (by rfl) (by rfl) ?_
        apply Exists.intro
        refine ⟨fun n K hK => ?_, ?_, ?_⟩
        · go_big_quiet_op
          exact hK _ rfl
        · kernel_rfl
        refine shM_step rfl rfl rfl (by rfl) (by rfl) ?_
        apply Exists.intro
        refine ⟨fun n K hK => ?_, ?_, ?_⟩
        · go_big_quiet_op
          exact hK _ rfl
        · kernel_rfl
        refine shM_nil (fun z => ?_)
        have k5 := z.has
        generalize z.w = w3 at k5 ⊢
        replace d0 := k5.cell d0 id
        replace d1 := k5.cell d1 id
        replace d2 := k5.cell d2 id
        replace gR := keepN gR k5
        clear k5
        cases hg : goesI op2 a2 b2
        · have HGo := Lib.hid (fun w => goes_gen op2 a2 b2 to false w hto hg)
          have hgo : (gone (k : Int) 1 (op2, a2, b2)).2.1 = a2 := by rw [gone_no (by rintro ⟨h, _⟩; exact absurd (show goesI op2 a2 b2 = true from h) (by rw [hg]; decide))]
          rw [hgo] at HM
          clear hto hto2 hg
          go_wp2_with fail
          refine (HGo.out _).mono ?_
          rintro e w4 ⟨rfl, k5⟩
          replace gR := keepN gR k5
          clear k5 d0 d1 d2
          go_wp2_with fail
          refine wp_region_sh ((0, false) :: (1, false) :: (2, false) :: (3, false) :: (4, false) :: (5, false) :: (6, false) :: (7, false) :: (8, false) :: (9, false) :: (10, false) :: (11, false) :: (12, false) :: (13, false) :: (14, false) :: (15, false) :: (16, false) :: (17, false) :: (18, false) :: (19, false) :: (20, false) :: (21, false) :: (22, false) :: (23, false) :: (24, false) :: (25, false) :: (26, false) :: (27, false) :: (28, false) :: (29, false) :: (30, false) :: (31, false) :: (32, false) :: (33, false) :: (34, false) :: (35, false) :: (36, false) :: (37, false) :: (38, false) :: (39, false) :: (40, false) :: (41, false) :: (42, false) :: (43, false) :: (44, false) :: (45, false) :: (46, false) :: (47, false) :: (48, false) :: (49, false) :: (50, false) :: (51, false) :: (52, false) :: (53, false) :: (54, false) :: (55, false) :: []) (fun w' => Keep NoB w4 w') (by kernel_rfl) (by kernel_rfl) (by rfl) (by kernel_rfl) (stable_keep w4) (Keep.refl NoB w4).drew ?_
          refine shM_step rfl rfl rfl (by rfl) (by rfl) ?_
          apply Exists.intro
          refine ⟨fun n K hK => ?_, ?_, ?_⟩
          · go_big_quiet_op
            exact hK _ rfl
          · kernel_rfl
          refine shM_step rfl rfl rfl (by rfl) (by rfl) ?_
          apply Exists.intro
          refine ⟨fun n K hK => ?_, ?_, ?_⟩
          · go_big_quiet_op
            exact hK _ rfl
          · kernel_rfl
          refine shM_step rfl rfl rfl (by rfl) (by rfl) ?_
          apply Exists.intro
          refine ⟨fun n K hK => ?_, ?_, ?_⟩
          · go_big_quiet_op
            exact hK _ rfl
          · kernel_rfl
          refine shM_step rfl rfl rfl (by rfl) (by rfl) ?_
          apply Exists.intro
          refine ⟨fun n K hK => ?_, ?_, ?_⟩
          · go_big_quiet_op
            exact hK _ rfl
          · kernel_rfl
          refine shM_step rfl rfl rfl (by rfl) (by rfl) ?_
          apply Exists.intro
          refine ⟨fun n K hK => ?_, ?_, ?_⟩
          · go_big_quiet_op
            exact hK _ rfl
          · kernel_rfl
          refine shM_step rfl rfl rfl (by rfl) (by rfl) ?_
          apply Exists.intro
          refine ⟨fun n K hK => ?_, ?_, ?_⟩
          · go_big_quiet_op
            exact hK _ rfl
          · kernel_rfl
          refine shM_step rfl rfl rfl (by rfl) (by rfl) ?_
          apply Exists.intro
          refine ⟨fun n K hK => ?_, ?_, ?_⟩
          · have cm0 : ∀ m : KW n.w, m.w.cell? ⟨gm, offm + j * 3, none⟩ = some (.int .i64 op2) := fun m => (HM.out _ (keepN gR (keepN n.has m.keep))).1
            have cm1 : ∀ m : KW n.w, m.w.cell? ⟨gm, offm + j * 3 + 1, none⟩ = some (.int .i64 a2) := fun m => (HM.out _ (keepN gR (keepN n.has m.keep))).2.1
            have cm2 : ∀ m : KW n.w, m.w.cell? ⟨gm, offm + j * 3 + 2, none⟩ = some (.int .i64 b2) := fun m => (HM.out _ (keepN gR (keepN n.has m.keep))).2.2
            go_big_quiet_op
            exact hK _ rfl
          · kernel_rfl
          refine shM_step rfl rfl rfl (by rfl) (by rfl) ?_
          apply Exists.intro
          refine ⟨fun n K hK => ?_, ?_, ?_⟩
          · go_big_quiet_op
            exact hK _ rfl
          · kernel_rfl
          refine shM_step rfl rfl rfl (by rfl) (by rfl) ?_
          apply Exists.intro
          refine ⟨fun n K hK => ?_, ?_, ?_⟩
          · go_big_quiet_op
            exact hK _ rfl
          · kernel_rfl
          refine shM_step rfl rfl rfl (by rfl) (by rfl) ?_
          apply Exists.intro
          refine ⟨fun n K hK => ?_, ?_, ?_⟩
          · go_big_quiet_op
            exact hK _ rfl
          · kernel_rfl
          refine shM_step rfl rfl rfl (by rfl) (by rfl) ?_
          apply Exists.intro
          refine ⟨fun n K hK => ?_, ?_, ?_⟩
          · have cl0 : ∀ m : KW n.w, m.w.cell? ⟨gl, offl + j * 3, none⟩ = some (.int .i64 op2) := fun m => (HLc.out _ (keepN gR (keepN n.has m.keep))).1
            have cl1 : ∀ m : KW n.w, m.w.cell? ⟨gl, offl + j * 3 + 1, none⟩ = some (.int .i64 a2) := fun m => (HLc.out _ (keepN gR (keepN n.has m.keep))).2.1
            have cl2 : ∀ m : KW n.w, m.w.cell? ⟨gl, offl + j * 3 + 2, none⟩ = some (.int .i64 b2) := fun m => (HLc.out _ (keepN gR (keepN n.has m.keep))).2.2
            go_big_quiet_op
            exact hK _ rfl
          · kernel_rfl
          refine shM_step rfl rfl rfl (by rfl) (by rfl) ?_
          apply Exists.intro
          refine ⟨fun n K hK => ?_, ?_, ?_⟩
          · go_big_quiet_op
            exact hK _ rfl
          · kernel_rfl
          refine shM_step rfl rfl rfl (by rfl) (by rfl) ?_
          apply Exists.intro
          refine ⟨fun n K hK => ?_, ?_, ?_⟩
          · go_big_quiet_op
            exact hK _ rfl
          · kernel_rfl
          refine shM_step rfl rfl rfl (by rfl) (by rfl) ?_
          apply Exists.intro
          refine ⟨fun n K hK => ?_, ?_, ?_⟩
          · go_big_quiet_op
            exact hK _ rfl
          · kernel_rfl
          refine shM_step rfl rfl rfl (by rfl) (by rfl) ?_
          apply Exists.intro
          refine ⟨fun n K hK => ?_, ?_, ?_⟩
          · go_big_quiet_op
            exact hK _ rfl
          · kernel_rfl
          refine shM_step rfl rfl rfl (by rfl) (by rfl) ?_
          apply Exists.intro
          refine ⟨fun n K hK => ?_, ?_, ?_⟩
          · go_big_quiet_op
            exact hK _ rfl
          · kernel_rfl
          refine shM_skipU rfl (by kernel_rfl) ?_
          simp only [Act.put, List.setIfInBounds_toArray, List.set_cons_zero, List.set_cons_succ]
          refine shM_skipU rfl (by kernel_rfl) ?_
          simp only [Act.put, List.setIfInBounds_toArray, List.set_cons_zero, List.set_cons_succ]
          refine shM_skipU rfl (by kernel_rfl) ?_
          simp only [Act.put, List.setIfInBounds_toArray, List.set_cons_zero, List.set_cons_succ]
          refine shM_step rfl rfl rfl (by rfl) (by rfl) ?_
          apply Exists.intro
          refine ⟨fun n K hK => ?_, ?_, ?_⟩
          · go_big_quiet_op
            exact hK _ rfl
          · kernel_rfl
          refine shM_step rfl rfl rfl (by rfl) (by rfl) ?_
          apply Exists.intro
          refine ⟨fun n K hK => ?_, ?_, ?_⟩
          · go_big_quiet_op
            exact hK _ rfl
          · kernel_rfl
          refine shM_skipU rfl (by kernel_rfl) ?_
          simp only [Act.put, List.setIfInBounds_toArray, List.set_cons_zero, List.set_cons_succ]
          refine shM_skipU rfl (by kernel_rfl) ?_
          simp only [Act.put, List.setIfInBounds_toArray, List.set_cons_zero, List.set_cons_succ]
          refine shM_skipU rfl (by kernel_rfl) ?_
          simp only [Act.put, List.setIfInBounds_toArray, List.set_cons_zero, List.set_cons_succ]
          refine shM_skipU rfl (by kernel_rfl) ?_
          simp only [Act.put, List.setIfInBounds_toArray, List.set_cons_zero, List.set_cons_succ]
          refine shM_skipU rfl (by kernel_rfl) ?_
          simp only [Act.put, List.setIfInBounds_toArray, List.set_cons_zero, List.set_cons_succ]
          refine shM_skipU rfl (by kernel_rfl) ?_
          simp only [Act.put, List.setIfInBounds_toArray, List.set_cons_zero, List.set_cons_succ]
          refine shM_skipU rfl (by kernel_rfl) ?_
          simp only [Act.put, List.setIfInBounds_toArray, List.set_cons_zero, List.set_cons_succ]
          refine shM_skipU rfl (by kernel_rfl) ?_
          simp only [Act.put, List.setIfInBounds_toArray, List.set_cons_zero, List.set_cons_succ]
          refine shM_skipU rfl (by kernel_rfl) ?_
          simp only [Act.put, List.setIfInBounds_toArray, List.set_cons_zero, List.set_cons_succ]
          refine shM_skipU rfl (by kernel_rfl) ?_
          simp only [Act.put, List.setIfInBounds_toArray, List.set_cons_zero, List.set_cons_succ]
          refine shM_skipU rfl (by kernel_rfl) ?_
          simp only [Act.put, List.setIfInBounds_toArray, List.set_cons_zero, List.set_cons_succ]
          refine shM_step rfl rfl rfl (by rfl) (by rfl) ?_
          apply Exists.intro
          refine ⟨fun n K hK => ?_, ?_, ?_⟩
          · go_big_quiet_op
            exact hK _ rfl
          · kernel_rfl
          refine shM_step rfl rfl rfl (by rfl) (by rfl) ?_
          apply Exists.intro
          refine ⟨fun n K hK => ?_, ?_, ?_⟩
          · go_big_quiet_op
            exact hK _ rfl
          · kernel_rfl
          refine shM_step rfl rfl rfl (by rfl) (by rfl) ?_
          apply Exists.intro
          refine ⟨fun n K hK => ?_, ?_, ?_⟩
          · go_big_quiet_op
            exact hK _ rfl
          · kernel_rfl
          refine shM_step rfl rfl rfl (by rfl) (by rfl) ?_
          apply Exists.intro
          refine ⟨fun n K hK => ?_, ?_, ?_⟩
          · go_big_quiet_op
            exact hK _ rfl
          · kernel_rfl
          refine shM_step rfl rfl rfl (by rfl) (by rfl) ?_
          apply Exists.intro
          refine ⟨fun n K hK => ?_, ?_, ?_⟩
          · go_big_quiet_op
            exact hK _ rfl
          · kernel_rfl
          refine shM_skipU rfl (by kernel_rfl) ?_
          simp only [Act.put, List.setIfInBounds_toArray, List.set_cons_zero, List.set_cons_succ]
          refine shM_skipU rfl (by kernel_rfl) ?_
          simp only [Act.put, List.setIfInBounds_toArray, List.set_cons_zero, List.set_cons_succ]
          refine shM_skipU rfl (by kernel_rfl) ?_
          simp only [Act.put, List.setIfInBounds_toArray, List.set_cons_zero, List.set_cons_succ]
          refine shM_step rfl rfl rfl (by rfl) (by rfl) ?_
          apply Exists.intro
          refine ⟨fun n K hK => ?_, ?_, ?_⟩
          · go_big_quiet_op
            exact hK _ rfl
          · kernel_rfl
          refine shM_step rfl rfl rfl (by rfl) (by rfl) ?_
          apply Exists.intro
          refine ⟨fun n K hK => ?_, ?_, ?_⟩
          · go_big_quiet_op
            exact hK _ rfl
          · kernel_rfl
          refine shM_skipU rfl (by kernel_rfl) ?_
          simp only [Act.put, List.setIfInBounds_toArray, List.set_cons_zero, List.set_cons_succ]
          refine shM_skipU rfl (by kernel_rfl) ?_
          simp only [Act.put, List.setIfInBounds_toArray, List.set_cons_zero, List.set_cons_succ]
          refine shM_skipU rfl (by kernel_rfl) ?_
          simp only [Act.put, List.setIfInBounds_toArray, List.set_cons_zero, List.set_cons_succ]
          refine shM_skipU rfl (by kernel_rfl) ?_
          simp only [Act.put, List.setIfInBounds_toArray, List.set_cons_zero, List.set_cons_succ]
          refine shM_skipU rfl (by kernel_rfl) ?_
          simp only [Act.put, List.setIfInBounds_toArray, List.set_cons_zero, List.set_cons_succ]
          refine shM_skipU rfl (by kernel_rfl) ?_
          simp only [Act.put, List.setIfInBounds_toArray, List.set_cons_zero, List.set_cons_succ]
          refine shM_skipU rfl (by kernel_rfl) ?_
          simp only [Act.put, List.setIfInBounds_toArray, List.set_cons_zero, List.set_cons_succ]
          refine shM_skipU rfl (by kernel_rfl) ?_
          simp only [Act.put, List.setIfInBounds_toArray, List.set_cons_zero, List.set_cons_succ]
          refine shM_skipU rfl (by kernel_rfl) ?_
          simp only [Act.put, List.setIfInBounds_toArray, List.set_cons_zero, List.set_cons_succ]
          refine shM_skipU rfl (by kernel_rfl) ?_
          simp only [Act.put, List.setIfInBounds_toArray, List.set_cons_zero, List.set_cons_succ]
          refine shM_skipU rfl (by kernel_rfl) ?_
          simp only [Act.put, List.setIfInBounds_toArray, List.set_cons_zero, List.set_cons_succ]
          refine shM_skipU rfl (by kernel_rfl) ?_
          simp only [Act.put, List.setIfInBounds_toArray, List.set_cons_zero, List.set_cons_succ]
          refine shM_step rfl rfl rfl (by rfl) (by rfl) ?_
          apply Exists.intro
          refine ⟨fun n K hK => ?_, ?_, ?_⟩
          · go_big_quiet_op
            exact hK _ rfl
          · kernel_rfl
          refine shM_step rfl rfl rfl (by rfl) (by rfl) ?_
          apply Exists.intro
          refine ⟨fun n K hK => ?_, ?_, ?_⟩
          · go_big_quiet_op
            exact hK _ rfl
          · kernel_rfl
          refine shM_nil (fun z => ?_)
          have k5 := z.has
          generalize z.w = w6 at k5 ⊢
          go_wp2
          go_roundw
          case rel => exact ⟨j + 1, by omega, by go_num, keepN gR k5⟩
          case measure => simp [intOf]; omega
        · by_cases htk : (k : Int) < to
          · have HGo := Lib.hid (fun w => goes_gen op2 a2 b2 to true w hto hg)
            have hgo : (gone (k : Int) 1 (op2, a2, b2)).2.1 = a2 + 1 := by rw [gone_yes (x := (op2, a2, b2)) hg (by rw [hto2]; exact htk)]
            rw [hgo] at HM
            have ql : decide (to ≤ (k : Int)) = false := by rw [decide_eq_false_iff_not]; omega
            have qg : decide ((k : Int) < to) = true := by rw [decide_eq_true_iff]; omega
            have hain := gB_in (x := (op2, a2, b2)) hg
            dsimp only at hain
            clear hto hto2 hg
            go_wp2_with fail
            refine (HGo.out _).mono ?_
            rintro e w4 ⟨rfl, k5⟩
            replace gR := keepN gR k5
            clear k5 d0 d1 d2
            go_wp2_with fail
            refine wp_region_sh ((0, false) :: (1, false) :: (2, false) :: (3, false) :: (4, false) :: (5, false) :: (6, false) :: (7, false) :: (8, false) :: (9, false) :: (10, false) :: (11, false) :: (12, false) :: (13, false) :: (14, false) :: (15, false) :: (16, false) :: (17, false) :: (18, false) :: (19, false) :: (20, false) :: (21, false) :: (22, false) :: (23, false) :: (24, false) :: (25, false) :: (26, false) :: (27, false) :: (28, false) :: (29, false) :: (30, false) :: (31, false) :: (32, false) :: (33, false) :: (34, false) :: (35, false) :: (36, false) :: (37, false) :: (38, false) :: (39, false) :: (40, false) :: (41, false) :: (42, false) :: (43, false) :: (44, false) :: (45, false) :: (46, false) :: (47, false) :: (48, false) :: (49, false) :: (50, false) :: (51, false) :: (52, false) :: (53, false) :: (54, false) :: (55, false) :: []) (fun w' => Keep NoB w4 w') (by kernel_rfl) (by kernel_rfl) (by rfl) (by kernel_rfl) (stable_keep w4) (Keep.refl NoB w4).drew ?_
            refine shM_step rfl rfl rfl (by rfl) (by rfl) ?_
            apply Exists.intro
            refine ⟨fun n K hK => ?_, ?_, ?_⟩
            · go_big_quiet_op
              exact hK _ rfl
            · kernel_rfl
            refine shM_step rfl rfl rfl (by rfl) (by rfl) ?_
            apply Exists.intro
            refine ⟨fun n K hK => ?_, ?_, ?_⟩
            · go_big_quiet_op
              exact hK _ rfl
            · kernel_rfl
            refine shM_step rfl rfl rfl (by rfl) (by rfl) ?_
            apply Exists.intro
            refine ⟨fun n K hK => ?_, ?_, ?_⟩
            · go_big_quiet_op
              exact hK _ rfl
            · kernel_rfl
            refine shM_skipU rfl (by kernel_rfl) ?_
            simp only [Act.put, List.setIfInBounds_toArray, List.set_cons_zero, List.set_cons_succ]
            refine shM_skipU rfl (by kernel_rfl) ?_
            simp only [Act.put, List.setIfInBounds_toArray, List.set_cons_zero, List.set_cons_succ]
            refine shM_skipU rfl (by kernel_rfl) ?_
            simp only [Act.put, List.setIfInBounds_toArray, List.set_cons_zero, List.set_cons_succ]
            refine shM_skipU rfl (by kernel_rfl) ?_
            simp only [Act.put, List.setIfInBounds_toArray, List.set_cons_zero, List.set_cons_succ]
            refine shM_skipU rfl (by kernel_rfl) ?_
            simp only [Act.put, List.setIfInBounds_toArray, List.set_cons_zero, List.set_cons_succ]
            refine shM_skipU rfl (by kernel_rfl) ?_
            simp only [Act.put, List.setIfInBounds_toArray, List.set_cons_zero, List.set_cons_succ]
            refine shM_skipU rfl (by kernel_rfl) ?_
            simp only [Act.put, List.setIfInBounds_toArray, List.set_cons_zero, List.set_cons_succ]
            refine shM_skipU rfl (by kernel_rfl) ?_
            simp only [Act.put, List.setIfInBounds_toArray, List.set_cons_zero, List.set_cons_succ]
            refine shM_skipU rfl (by kernel_rfl) ?_
            simp only [Act.put, List.setIfInBounds_toArray, List.set_cons_zero, List.set_cons_succ]
            refine shM_step rfl rfl rfl (by rfl) (by rfl) ?_
            apply Exists.intro
            refine ⟨fun n K hK => ?_, ?_, ?_⟩
            · go_big_quiet_op
              exact hK _ rfl
            · kernel_rfl
            refine shM_step rfl rfl rfl (by rfl) (by rfl) ?_
            apply Exists.intro
            refine ⟨fun n K hK => ?_, ?_, ?_⟩
            · go_big_quiet_op
              exact hK _ rfl
            · kernel_rfl
            refine shM_step rfl rfl rfl (by rfl) (by rfl) ?_
            apply Exists.intro
            refine ⟨fun n K hK => ?_, ?_, ?_⟩
            · go_big_quiet_op
              exact hK _ rfl
            · kernel_rfl
            refine shM_step rfl rfl rfl (by rfl) (by rfl) ?_
            apply Exists.intro
            refine ⟨fun n K hK => ?_, ?_, ?_⟩
            · go_big_quiet_op
              exact hK _ rfl
            · kernel_rfl
            refine shM_step rfl rfl rfl (by rfl) (by rfl) ?_
            apply Exists.intro
            refine ⟨fun n K hK => ?_, ?_, ?_⟩
            · go_big_quiet_op
              exact hK _ rfl
            · kernel_rfl
            refine shM_step rfl rfl rfl (by rfl) (by rfl) ?_
            apply Exists.intro
            refine ⟨fun n K hK => ?_, ?_, ?_⟩
            · go_big_quiet_op
              exact hK _ rfl
            · kernel_rfl
            refine shM_step rfl rfl rfl (by rfl) (by rfl) ?_
            apply Exists.intro
            refine ⟨fun n K hK => ?_, ?_, ?_⟩
            · go_big_quiet_op
              exact hK _ rfl
            · kernel_rfl
            refine shM_step rfl rfl rfl (by rfl) (by rfl) ?_
            apply Exists.intro
            refine ⟨fun n K hK => ?_, ?_, ?_⟩
            · go_big_quiet_op
              exact hK _ rfl
            · kernel_rfl
            refine shM_step rfl rfl rfl (by rfl) (by rfl) ?_
            apply Exists.intro
            refine ⟨fun n K hK => ?_, ?_, ?_⟩
            · go_big_quiet_op
              exact hK _ rfl
            · kernel_rfl
            refine shM_skipU rfl (by kernel_rfl) ?_
            simp only [Act.put, List.setIfInBounds_toArray, List.set_cons_zero, List.set_cons_succ]
            refine shM_skipU rfl (by kernel_rfl) ?_
            simp only [Act.put, List.setIfInBounds_toArray, List.set_cons_zero, List.set_cons_succ]
            refine shM_skipU rfl (by kernel_rfl) ?_
            simp only [Act.put, List.setIfInBounds_toArray, List.set_cons_zero, List.set_cons_succ]
            refine shM_skipU rfl (by kernel_rfl) ?_
            simp only [Act.put, List.setIfInBounds_toArray, List.set_cons_zero, List.set_cons_succ]
            refine shM_skipU rfl (by kernel_rfl) ?_
            simp only [Act.put, List.setIfInBounds_toArray, List.set_cons_zero, List.set_cons_succ]
            refine shM_skipU rfl (by kernel_rfl) ?_
            simp only [Act.put, List.setIfInBounds_toArray, List.set_cons_zero, List.set_cons_succ]
            refine shM_skipU rfl (by kernel_rfl) ?_
            simp only [Act.put, List.setIfInBounds_toArray, List.set_cons_zero, List.set_cons_succ]
            refine shM_skipU rfl (by kernel_rfl) ?_
            simp only [Act.put, List.setIfInBounds_toArray, List.set_cons_zero, List.set_cons_succ]
            refine shM_skipU rfl (by kernel_rfl) ?_
            simp only [Act.put, List.setIfInBounds_toArray, List.set_cons_zero, List.set_cons_succ]
            refine shM_skipU rfl (by kernel_rfl) ?_
            simp only [Act.put, List.setIfInBounds_toArray, List.set_cons_zero, List.set_cons_succ]
            refine shM_skipU rfl (by kernel_rfl) ?_
            simp only [Act.put, List.setIfInBounds_toArray, List.set_cons_zero, List.set_cons_succ]
            refine shM_step rfl rfl rfl (by rfl) (by rfl) ?_
            apply Exists.intro
            refine ⟨fun n K hK => ?_, ?_, ?_⟩
            · go_big_quiet_op
              exact hK _ rfl
            · kernel_rfl
            refine shM_step rfl rfl rfl (by rfl) (by rfl) ?_
            apply Exists.intro
            refine ⟨fun n K hK => ?_, ?_, ?_⟩
            · go_big_quiet_op
              exact hK _ rfl
            · kernel_rfl
            refine shM_step rfl rfl rfl (by rfl) (by rfl) ?_
            apply Exists.intro
            refine ⟨fun n K hK => ?_, ?_, ?_⟩
            · go_big_quiet_op
              exact hK _ rfl
            · kernel_rfl
            refine shM_step rfl rfl rfl (by rfl) (by rfl) ?_
            apply Exists.intro
            refine ⟨fun n K hK => ?_, ?_, ?_⟩
            · go_big_quiet_op
              exact hK _ rfl
            · kernel_rfl
            refine shM_step rfl rfl rfl (by rfl) (by rfl) ?_
            apply Exists.intro
            refine ⟨fun n K hK => ?_, ?_, ?_⟩
            · go_big_quiet_op
              exact hK _ rfl
            · kernel_rfl
            refine shM_step rfl rfl rfl (by rfl) (by rfl) ?_
            apply Exists.intro
            refine ⟨fun n K hK => ?_, ?_, ?_⟩
            · go_big_quiet_op
              exact hK _ rfl
            · kernel_rfl
            refine shM_step rfl rfl rfl (by rfl) (by rfl) ?_
            apply Exists.intro
            refine ⟨fun n K hK => ?_, ?_, ?_⟩
            · go_big_quiet_op
              exact hK _ rfl
            · kernel_rfl
            refine shM_step rfl rfl rfl (by rfl) (by rfl) ?_
            apply Exists.intro
            refine ⟨fun n K hK => ?_, ?_, ?_⟩
            · go_big_quiet_op
              exact hK _ rfl
            · kernel_rfl
            refine shM_step rfl rfl rfl (by rfl) (by rfl) ?_
            apply Exists.intro
            refine ⟨fun n K hK => ?_, ?_, ?_⟩
            · go_big_quiet_op
              exact hK _ rfl
            · kernel_rfl
            refine shM_step rfl rfl rfl (by rfl) (by rfl) ?_
            apply Exists.intro
            refine ⟨fun n K hK => ?_, ?_, ?_⟩
            · go_big_quiet_op
              exact hK _ rfl
            · kernel_rfl
            refine shM_step rfl rfl rfl (by rfl) (by rfl) ?_
            apply Exists.intro
            refine ⟨fun n K hK => ?_, ?_, ?_⟩
            · go_big_quiet_op
              exact hK _ rfl
            · kernel_rfl
            refine shM_step rfl rfl rfl (by rfl) (by rfl) ?_
            apply Exists.intro
            refine ⟨fun n K hK => ?_, ?_, ?_⟩
            · go_big_quiet_op
              exact hK _ rfl
            · kernel_rfl
            refine shM_step rfl rfl rfl (by rfl) (by rfl) ?_
            apply Exists.intro
            refine ⟨fun n K hK => ?_, ?_, ?_⟩
            · go_big_quiet_op
              exact hK _ rfl
            · kernel_rfl
            refine shM_step rfl rfl rfl (by rfl) (by rfl) ?_
            apply Exists.intro
            refine ⟨fun n K hK => ?_, ?_, ?_⟩
            · go_big_quiet_op
              exact hK _ rfl
            · kernel_rfl
            refine shM_step rfl rfl rfl (by rfl) (by rfl) ?_
            apply Exists.intro
            refine ⟨fun n K hK => ?_, ?_, ?_⟩
            · have cm1 : ∀ m : KW n.w, m.w.cell? ⟨gm, offm + j * 3 + 1, none⟩ = some (.int .i64 (a2 + 1)) := fun m => (HM.out _ (keepN gR (keepN n.has m.keep))).2.1
              go_big_quiet_op
              exact hK _ rfl
            · kernel_rfl
            refine shM_step rfl rfl rfl (by rfl) (by rfl) ?_
            apply Exists.intro
            refine ⟨fun n K hK => ?_, ?_, ?_⟩
            · go_big_quiet_op
              exact hK _ rfl
            · kernel_rfl
            refine shM_step rfl rfl rfl (by rfl) (by rfl) ?_
            apply Exists.intro
            refine ⟨fun n K hK => ?_, ?_, ?_⟩
            · go_big_quiet_op
              exact hK _ rfl
            · kernel_rfl
            refine shM_step rfl rfl rfl (by rfl) (by rfl) ?_
            apply Exists.intro
            refine ⟨fun n K hK => ?_, ?_, ?_⟩
            · go_big_quiet_op
              exact hK _ rfl
            · kernel_rfl
            refine shM_step rfl rfl rfl (by rfl) (by rfl) ?_
            apply Exists.intro
            refine ⟨fun n K hK => ?_, ?_, ?_⟩
            · go_big_quiet_op
              exact hK _ rfl
            · kernel_rfl
            refine shM_step rfl rfl rfl (by rfl) (by rfl) ?_
            apply Exists.intro
            refine ⟨fun n K hK => ?_, ?_, ?_⟩
            · have cl1 : ∀ m : KW n.w, m.w.cell? ⟨gl, offl + j * 3 + 1, none⟩ = some (.int .i64 a2) := fun m => (HLc.out _ (keepN gR (keepN n.has m.keep))).2.1
              go_big_quiet_op
              exact hK _ rfl
            · kernel_rfl
            refine shM_step rfl rfl rfl (by rfl) (by rfl) ?_
            apply Exists.intro
            refine ⟨fun n K hK => ?_, ?_, ?_⟩
            · go_big_quiet_op
              exact hK _ rfl
            · kernel_rfl
            refine shM_step rfl rfl rfl (by rfl) (by rfl) ?_
            apply Exists.intro
            refine ⟨fun n K hK => ?_, ?_, ?_⟩
            · go_big_quiet_op
              exact hK _ rfl
            · kernel_rfl
            refine shM_step rfl rfl rfl (by rfl) (by rfl) ?_
            apply Exists.intro
            refine ⟨fun n K hK => ?_, ?_, ?_⟩
            · go_big_quiet_op
              exact hK _ rfl
            · kernel_rfl
            refine shM_step rfl rfl rfl (by rfl) (by rfl) ?_
            apply Exists.intro
            refine ⟨fun n K hK => ?_, ?_, ?_⟩
            · go_big_quiet_op
              exact hK _ rfl
            · kernel_rfl
            refine shM_nil (fun z => ?_)
            have k5 := z.has
            generalize z.w = w6 at k5 ⊢
            go_wp2
            go_roundw
            case rel => exact ⟨j + 1, by omega, by go_num, keepN gR k5⟩
            case measure => simp [intOf]; omega
          · have HGo := Lib.hid (fun w => goes_gen op2 a2 b2 to true w hto hg)
            have hgo : (gone (k : Int) 1 (op2, a2, b2)).2.1 = a2 := by rw [gone_no (by rintro ⟨_, h⟩; rw [hto2] at h; omega)]
            rw [hgo] at HM
            have ql : decide (to ≤ (k : Int)) = true := by rw [decide_eq_true_iff]; omega
            have qg : decide ((k : Int) < to) = false := by rw [decide_eq_false_iff_not]; omega
            clear hto hto2 hg
            go_wp2_with fail
            refine (HGo.out _).mono ?_
            rintro e w4 ⟨rfl, k5⟩
            replace gR := keepN gR k5
            clear k5 d0 d1 d2
            go_wp2_with fail
            refine wp_region_sh ((0, false) :: (1, false) :: (2, false) :: (3, false) :: (4, false) :: (5, false) :: (6, false) :: (7, false) :: (8, false) :: (9, false) :: (10, false) :: (11, false) :: (12, false) :: (13, false) :: (14, false) :: (15, false) :: (16, false) :: (17, false) :: (18, false) :: (19, false) :: (20, false) :: (21, false) :: (22, false) :: (23, false) :: (24, false) :: (25, false) :: (26, false) :: (27, false) :: (28, false) :: (29, false) :: (30, false) :: (31, false) :: (32, false) :: (33, false) :: (34, false) :: (35, false) :: (36, false) :: (37, false) :: (38, false) :: (39, false) :: (40, false) :: (41, false) :: (42, false) :: (43, false) :: (44, false) :: (45, false) :: (46, false) :: (47, false) :: (48, false) :: (49, false) :: (50, false) :: (51, false) :: (52, false) :: (53, false) :: (54, false) :: (55, false) :: []) (fun w' => Keep NoB w4 w') (by kernel_rfl) (by kernel_rfl) (by rfl) (by kernel_rfl) (stable_keep w4) (Keep.refl NoB w4).drew ?_
            refine shM_step rfl rfl rfl (by rfl) (by rfl) ?_
            apply Exists.intro
            refine ⟨fun n K hK => ?_, ?_, ?_⟩
            · go_big_quiet_op
              exact hK _ rfl
            · kernel_rfl
            refine shM_step rfl rfl rfl (by rfl) (by rfl) ?_
            apply Exists.intro
            refine ⟨fun n K hK => ?_, ?_, ?_⟩
            · go_big_quiet_op
              exact hK _ rfl
            · kernel_rfl
            refine shM_step rfl rfl rfl (by rfl) (by rfl) ?_
            apply Exists.intro
            refine ⟨fun n K hK => ?_, ?_, ?_⟩
            · go_big_quiet_op
              exact hK _ rfl
            · kernel_rfl
            refine shM_skipU rfl (by kernel_rfl) ?_
            simp only [Act.put, List.setIfInBounds_toArray, List.set_cons_zero, List.set_cons_succ]
            refine shM_skipU rfl (by kernel_rfl) ?_
            simp only [Act.put, List.setIfInBounds_toArray, List.set_cons_zero, List.set_cons_succ]
            refine shM_skipU rfl (by kernel_rfl) ?_
            simp only [Act.put, List.setIfInBounds_toArray, List.set_cons_zero, List.set_cons_succ]
            refine shM_skipU rfl (by kernel_rfl) ?_
            simp only [Act.put, List.setIfInBounds_toArray, List.set_cons_zero, List.set_cons_succ]
            refine shM_skipU rfl (by kernel_rfl) ?_
            simp only [Act.put, List.setIfInBounds_toArray, List.set_cons_zero, List.set_cons_succ]
            refine shM_skipU rfl (by kernel_rfl) ?_
            simp only [Act.put, List.setIfInBounds_toArray, List.set_cons_zero, List.set_cons_succ]
            refine shM_skipU rfl (by kernel_rfl) ?_
            simp only [Act.put, List.setIfInBounds_toArray, List.set_cons_zero, List.set_cons_succ]
            refine shM_skipU rfl (by kernel_rfl) ?_
            simp only [Act.put, List.setIfInBounds_toArray, List.set_cons_zero, List.set_cons_succ]
            refine shM_skipU rfl (by kernel_rfl) ?_
            simp only [Act.put, List.setIfInBounds_toArray, List.set_cons_zero, List.set_cons_succ]
            refine shM_step rfl rfl rfl (by rfl) (by rfl) ?_
            apply Exists.intro
            refine ⟨fun n K hK => ?_, ?_, ?_⟩
            · go_big_quiet_op
              exact hK _ rfl
            · kernel_rfl
            refine shM_step rfl rfl rfl (by rfl) (by rfl) ?_
            apply Exists.intro
            refine ⟨fun n K hK => ?_, ?_, ?_⟩
            · go_big_quiet_op
              exact hK _ rfl
            · kernel_rfl
            refine shM_step rfl rfl rfl (by rfl) (by rfl) ?_
            apply Exists.intro
            refine ⟨fun n K hK => ?_, ?_, ?_⟩
            · go_big_quiet_op
              exact hK _ rfl
            · kernel_rfl
            refine shM_step rfl rfl rfl (by rfl) (by rfl) ?_
            apply Exists.intro
            refine ⟨fun n K hK => ?_, ?_, ?_⟩
            · go_big_quiet_op
              exact hK _ rfl
            · kernel_rfl
            refine shM_step rfl rfl rfl (by rfl) (by rfl) ?_
            apply Exists.intro
            refine ⟨fun n K hK => ?_, ?_, ?_⟩
            · go_big_quiet_op
              exact hK _ rfl
            · kernel_rfl
            refine shM_step rfl rfl rfl (by rfl) (by rfl) ?_
            apply Exists.intro
            refine ⟨fun n K hK => ?_, ?_, ?_⟩
            · go_big_quiet_op
              exact hK _ rfl
            · kernel_rfl
            refine shM_step rfl rfl rfl (by rfl) (by rfl) ?_
            apply Exists.intro
            refine ⟨fun n K hK => ?_, ?_, ?_⟩
            · go_big_quiet_op
              exact hK _ rfl
            · kernel_rfl
            refine shM_step rfl rfl rfl (by rfl) (by rfl) ?_
            apply Exists.intro
            refine ⟨fun n K hK => ?_, ?_, ?_⟩
            · go_big_quiet_op
              exact hK _ rfl
            · kernel_rfl
            refine shM_step rfl rfl rfl (by rfl) (by rfl) ?_
            apply Exists.intro
            refine ⟨fun n K hK => ?_, ?_, ?_⟩
            · go_big_quiet_op
              exact hK _ rfl
            · kernel_rfl
            refine shM_step rfl rfl rfl (by rfl) (by rfl) ?_
            apply Exists.intro
            refine ⟨fun n K hK => ?_, ?_, ?_⟩
            · go_big_quiet_op
              exact hK _ rfl
            · kernel_rfl
            refine shM_step rfl rfl rfl (by rfl) (by rfl) ?_
            apply Exists.intro
            refine ⟨fun n K hK => ?_, ?_, ?_⟩
            · go_big_quiet_op
              exact hK _ rfl
            · kernel_rfl
            refine shM_step rfl rfl rfl (by rfl) (by rfl) ?_
            apply Exists.intro
            refine ⟨fun n K hK => ?_, ?_, ?_⟩
            · go_big_quiet_op
              exact hK _ rfl
            · kernel_rfl
            refine shM_step rfl rfl rfl (by rfl) (by rfl) ?_
            apply Exists.intro
            refine ⟨fun n K hK => ?_, ?_, ?_⟩
            · go_big_quiet_op
              exact hK _ rfl
            · kernel_rfl
            refine shM_step rfl rfl rfl (by rfl) (by rfl) ?_
            apply Exists.intro
            refine ⟨fun n K hK => ?_, ?_, ?_⟩
            · have cm1 : ∀ m : KW n.w, m.w.cell? ⟨gm, offm + j * 3 + 1, none⟩ = some (.int .i64 a2) := fun m => (HM.out _ (keepN gR (keepN n.has m.keep))).2.1
              go_big_quiet_op
              exact hK _ rfl
            · kernel_rfl
            refine shM_step rfl rfl rfl (by rfl) (by rfl) ?_
            apply Exists.intro
            refine ⟨fun n K hK => ?_, ?_, ?_⟩
            · go_big_quiet_op
              exact hK _ rfl
            · kernel_rfl
            refine shM_step rfl rfl rfl (by rfl) (by rfl) ?_
            apply Exists.intro
            refine ⟨fun n K hK => ?_, ?_, ?_⟩
            · go_big_quiet_op
              exact hK _ rfl
            · kernel_rfl
            refine shM_step rfl rfl rfl (by rfl) (by rfl) ?_
            apply Exists.intro
            refine ⟨fun n K hK => ?_, ?_, ?_⟩
            · go_big_quiet_op
              exact hK _ rfl
            · kernel_rfl
            refine shM_step rfl rfl rfl (by rfl) (by rfl) ?_
            apply Exists.intro
            refine ⟨fun n K hK => ?_, ?_, ?_⟩
            · go_big_quiet_op
              exact hK _ rfl
            · kernel_rfl
            refine shM_step rfl rfl rfl (by rfl) (by rfl) ?_
            apply Exists.intro
            refine ⟨fun n K hK => ?_, ?_, ?_⟩
            · have cl1 : ∀ m : KW n.w, m.w.cell? ⟨gl, offl + j * 3 + 1, none⟩ = some (.int .i64 a2) := fun m => (HLc.out _ (keepN gR (keepN n.has m.keep))).2.1
              go_big_quiet_op
              exact hK _ rfl
            · kernel_rfl
            refine shM_step rfl rfl rfl (by rfl) (by rfl) ?_
            apply Exists.intro
            refine ⟨fun n K hK => ?_, ?_, ?_⟩
            · go_big_quiet_op
              exact hK _ rfl
            · kernel_rfl
            refine shM_step rfl rfl rfl (by rfl) (by rfl) ?_
            apply Exists.intro
            refine ⟨fun n K hK => ?_, ?_, ?_⟩
            · go_big_quiet_op
              exact hK _ rfl
            · kernel_rfl
            refine shM_step rfl rfl rfl (by rfl) (by rfl) ?_
            apply Exists.intro
            refine ⟨fun n K hK => ?_, ?_, ?_⟩
            · go_big_quiet_op
              exact hK _ rfl
            · kernel_rfl
            refine shM_step rfl rfl rfl (by rfl) (by rfl) ?_
            apply Exists.intro
            refine ⟨fun n K hK => ?_, ?_, ?_⟩
            · go_big_quiet_op
              exact hK _ rfl
            · kernel_rfl
            refine shM_step rfl rfl rfl (by rfl) (by rfl) ?_
            apply Exists.intro
            refine ⟨fun n K hK => ?_, ?_, ?_⟩
            · go_big_quiet_op
              exact hK _ rfl
            · kernel_rfl
            refine shM_step rfl rfl rfl (by rfl) (by rfl) ?_
            apply Exists.intro
            refine ⟨fun n K hK => ?_, ?_, ?_⟩
            · go_big_quiet_op
              exact hK _ rfl
            · kernel_rfl
            refine shM_step rfl rfl rfl (by rfl) (by rfl) ?_
            apply Exists.intro
            refine ⟨fun n K hK => ?_, ?_, ?_⟩
            · go_big_quiet_op
              exact hK _ rfl
            · kernel_rfl
            refine shM_step rfl rfl rfl (by rfl) (by rfl) ?_
            apply Exists.intro
            refine ⟨fun n K hK => ?_, ?_, ?_⟩
            · go_big_quiet_op
              exact hK _ rfl
            · kernel_rfl
            refine shM_step rfl rfl rfl (by rfl) (by rfl) ?_
            apply Exists.intro
            refine ⟨fun n K hK => ?_, ?_, ?_⟩
            · go_big_quiet_op
              exact hK _ rfl
            · kernel_rfl
            refine shM_step rfl rfl rfl (by rfl) (by rfl) ?_
            apply Exists.intro
            refine ⟨fun n K hK => ?_, ?_, ?_⟩
            · go_big_quiet_op
              exact hK _ rfl
            · kernel_rfl
            refine shM_step rfl rfl rfl (by rfl) (by rfl) ?_
            apply Exists.intro
            refine ⟨fun n K hK => ?_, ?_, ?_⟩
            · go_big_quiet_op
              exact hK _ rfl
            · kernel_rfl
            refine shM_skipU rfl (by kernel_rfl) ?_
            simp only [Act.put, List.setIfInBounds_toArray, List.set_cons_zero, List.set_cons_succ]
            refine shM_skipU rfl (by kernel_rfl) ?_
            simp only [Act.put, List.setIfInBounds_toArray, List.set_cons_zero, List.set_cons_succ]
            refine shM_skipU rfl (by kernel_rfl) ?_
            simp only [Act.put, List.setIfInBounds_toArray, List.set_cons_zero, List.set_cons_succ]
            refine shM_skipU rfl (by kernel_rfl) ?_
            simp only [Act.put, List.setIfInBounds_toArray, List.set_cons_zero, List.set_cons_succ]
            refine shM_skipU rfl (by kernel_rfl) ?_
            simp only [Act.put, List.setIfInBounds_toArray, List.set_cons_zero, List.set_cons_succ]
            refine shM_skipU rfl (by kernel_rfl) ?_
            simp only [Act.put, List.setIfInBounds_toArray, List.set_cons_zero, List.set_cons_succ]
            refine shM_skipU rfl (by kernel_rfl) ?_
            simp only [Act.put, List.setIfInBounds_toArray, List.set_cons_zero, List.set_cons_succ]
            refine shM_skipU rfl (by kernel_rfl) ?_
            simp only [Act.put, List.setIfInBounds_toArray, List.set_cons_zero, List.set_cons_succ]
            refine shM_skipU rfl (by kernel_rfl) ?_
            simp only [Act.put, List.setIfInBounds_toArray, List.set_cons_zero, List.set_cons_succ]
            refine shM_skipU rfl (by kernel_rfl) ?_
            simp only [Act.put, List.setIfInBounds_toArray, List.set_cons_zero, List.set_cons_succ]
            refine shM_skipU rfl (by kernel_rfl) ?_
            simp only [Act.put, List.setIfInBounds_toArray, List.set_cons_zero, List.set_cons_succ]
            refine shM_skipU rfl (by kernel_rfl) ?_
            simp only [Act.put, List.setIfInBounds_toArray, List.set_cons_zero, List.set_cons_succ]
            refine shM_step rfl rfl rfl (by rfl) (by rfl) ?_
            apply Exists.intro
            refine ⟨fun n K hK => ?_, ?_, ?_⟩
            · go_big_quiet_op
              exact hK _ rfl
            · kernel_rfl
            refine shM_step rfl rfl rfl (by rfl) (by rfl) ?_
            apply Exists.intro
            refine ⟨fun n K hK => ?_, ?_, ?_⟩
            · go_big_quiet_op
              exact hK _ rfl
            · kernel_rfl
            refine shM_nil (fun z => ?_)
            have k5 := z.has
            generalize z.w = w6 at k5 ⊢
            go_wp2
            go_roundw
            case rel => exact ⟨j + 1, by omega, by go_num, keepN gR k5⟩
            case measure => simp [intOf]; omega
    · obtain rfl : j = n := by omega
      have rl3 := rl.keepN gR
      have rm3 := rm.keepN gR
      have bx3 := bx.keep gR id
      have gK3 := keepN gK gR
      clear gR rl rm bx gK
      go_wp2_with fail
      refine (HD.out _ _ _ rm3).mono ?_
      rintro e w5 ⟨vb, rfl, hOb, k1⟩
      rw [hn.out] at hOb
      obtain ⟨Ab, cb, rfl, rb⟩ := own_rdI hOb
      replace rl3 := rl3.keepN k1
      replace bx3 := bx3.keep k1 id
      replace gK3 := keepN gK3 k1
      obtain ⟨x0, x1, x2⟩ := blk3 bx3
      clear k1 hOb rm3
      cases hgx : goesI op a b
      · rw [hgx] at HGx
        go_wp2_with fail
        refine (HGx.out _).mono ?_
        rintro e w6 ⟨rfl, k1⟩
        go_wp2_with fail
        refine (HLL.out _ _ _ (rb.keepN k1) (rl3.keepN k1)).mono ?_
        rintro e w7 ⟨rfl, k2⟩
        go_wp2
        go_ret
        exact ⟨rfl, keepN (keepN gK3 k1) k2⟩
      · rw [hgx] at HGx
        go_wp2_with fail
        refine (HGx.out _).mono ?_
        rintro e w6 ⟨rfl, k1⟩
        go_wp2
        go_ret
        exact ⟨rfl, keepN gK3 k1⟩

theorem cinserts_all (A : Option Addr) (l : List I3) (c : Nat) (p op a b : Int) (w : World) (hL : LaidO w) (hC : CutAt w) (hr : Rd w A (iis l)) (hm : l.length ≤ 9223372036854775807) :
    Calls Tryz.prog 7 #[.slice A l.length c, .int .i64 p, instV op a b] w fun e w' => e = .returned (.bool true) ∧ Keep NoB w w' := by
  by_cases h : 100 < l.length
  · exact cinserts_early A l l.length c p op a b w hL hC hr rfl hm (.inl h)
  · rcases insE_cases l p (op, a, b) with ⟨e1, e2, e3, e4⟩ | e
    · obtain ⟨⟨h0, h1⟩, ho⟩ := hasB_yes e2
      obtain ⟨k, rfl⟩ : ∃ k : Nat, p = (k : Int) := ⟨p.toNat, by omega⟩
      rw [Int.toNat_natCast] at e3 e4
      exact cinserts_yes A l l.length c k op a b w hL hC hr rfl (by omega) (by omega) ho _ rfl e3 e1 e4
    · exact cinserts_early A l l.length c p op a b w hL hC hr rfl hm (.inr e)

end Go.Proofs.YtonpplpfipfnfaaGreatDoor.C
