/-
  ValueBack's walk where the first value may be. Conditions: the listed variables hold what their initialisers lay.
-/
import Derived.Test.YtkhbmbkjaeaamaaDoorWBackA
import Derived.Deep.RegionWith
import Derived.Deep.DeepCutAuto
namespace Go.Proofs.YtkhbmbkjaeaamaaDoor
open Go.RowKit

theorem keep_two {w w' : World} {B : Nat} (h : Keep NoB w w') (hB : w.heap.size ≤ B) (u v : Value) : Keep NoB w ((w'.setCell ⟨B, 0, none⟩ u).setCell ⟨B, 1, none⟩ v) :=
  (h.setCell (fun h => by have : B < w.heap.size := h; omega) _).setCell (fun h => by have : B < w.heap.size := h; omega) _

theorem two_new (w : World) (x y : Value) (T : TypeId) : (w.alloc (.cells #[x, y] T)).cell? ⟨w.heap.size, 0, none⟩ = some x ∧ (w.alloc (.cells #[x, y] T)).cell? ⟨w.heap.size, 1, none⟩ = some y :=
  ⟨(Blk.new w T #[x, y]).cell 0, (Blk.new w T #[x, y]).cell 1⟩
theorem two_set {w : World} {B : Nat} {T : TypeId} {x y : Value} (h : Blk w B T #[x, y]) (u v : Value) :
    ((w.setCell ⟨B, 0, none⟩ u).setCell ⟨B, 1, none⟩ v).cell? ⟨B, 0, none⟩ = some u ∧ ((w.setCell ⟨B, 0, none⟩ u).setCell ⟨B, 1, none⟩ v).cell? ⟨B, 1, none⟩ = some v := by
  have h0 : w.cell? ⟨B, 0, none⟩ = some x := h.cell 0
  have h1 : w.cell? ⟨B, 1, none⟩ = some y := h.cell 1
  refine ⟨?_, ?_⟩
  · rw [World.cell?_setCell_other _ _ _ _ (by simp), World.cell?_setCell_same _ _ _ h0]
  · exact World.cell?_setCell_same _ _ _ ((World.cell?_setCell_other _ ⟨B, 0, none⟩ _ _ (by simp)).trans h1)
/-- What the first half's test sees of what was read: three cases. -/
theorem back_cases {t n : Int} (hn : I64 n) (ho : okB t n = true) : (t = 4 ∧ 0 < n ∧ rT t (showL t n) = 0 ∧ rN t (showL t n) = 0 ∧ rE t (showL t n) = 21) ∨ (t = 4 ∧ n = 0 ∧ rT t (showL t n) = 4 ∧ rN t (showL t n) = 0 ∧ rE t (showL t n) = 0) ∨
    (t ≠ 4 ∧ rT t (showL t n) = t ∧ rN t (showL t n) = n ∧ rE t (showL t n) = 0) := by
  by_cases h4 : t = 4
  · subst h4
    have h0 : 0 ≤ n := by have := (ok_iff 4 n).1 ho; omega
    rcases Int.lt_or_eq_of_le h0 with hp | rfl
    · rw [show_ptr hp]; exact .inl ⟨rfl, hp, r_amp⟩
    · exact .inr (.inl ⟨rfl, rfl, r_show hn ho (fun _ => rfl)⟩)
  · exact .inr (.inr ⟨h4, r_show hn ho (fun e => absurd e h4)⟩)

set_option maxRecDepth 100000 in
set_option maxHeartbeats 40000000 in
theorem back_ok (w : World) (ta na tb nb t : Int) (S : ByteArray) (s : List UInt8) (Al : Hid AliveC) (hg : S.size ≤ 2000) (hL : LetAt w) (h : Laid w) (hs : Hid (S.data.toList = s)) (hna : I64 na) (hnb : I64 nb) (hok : okB ta na = true) :
    Calls Tryd.prog 6 #[.agg #[.int .i64 ta, .int .i64 na], .agg #[.int .i64 tb, .int .i64 nb], .int .i64 t, .string S] w fun e w' => e = .returned (.bool true) ∧ Keep NoB w w' := by
  have hk0 := ((Keep.refl NoB w).alloc (.cells #[.int .i64 ta, .int .i64 na] 35)).alloc (.cells #[.int .i64 tb, .int .i64 nb] 35)
  have hA := (Blk.new w 35 #[.int .i64 ta, .int .i64 na]).alloc (.cells #[.int .i64 tb, .int .i64 nb] 35)
  have hB := Blk.new (w.alloc (.cells #[.int .i64 ta, .int .i64 na] 35)) 35 #[.int .i64 tb, .int .i64 nb]
  rw [show (w.alloc (.cells #[.int .i64 ta, .int .i64 na] 35)).heap.size = w.heap.size + 1 by simp] at hB
  have HC := Lib.hid (fun W => check_ok ta na W hok)
  have HR := Lib.hid (fun W (hW : Laid W) => read_any t S s W hs (by omega) hW)
  have HS := Lib.hid (fun W (hW : Laid W) => show_any ta na W hna hW)
  have HSb := Lib.hid (fun W (hW : Laid W) => show_any tb nb W hnb hW)
  have hshl := show_short (t := ta) hna
  go_enter Tryd.func6, Tryd.ntmps6
  go_wp2_with fail
  generalize (w.alloc (.cells #[.int .i64 ta, .int .i64 na] 35)).alloc (.cells #[.int .i64 tb, .int .i64 nb] 35) = w0 at hk0 hA hB ⊢
  refine (Al.out _ (hL.keep hk0) (h.keep hk0)).mono ?_
  rintro e w1 ⟨rfl, hk1⟩
  have hA1 := hA.keep hk1 id
  have hB1 := hB.keep hk1 id
  have a0 : w1.cell? ⟨w.heap.size, 0, none⟩ = some (.int .i64 ta) := hA1.cell 0
  have a1 : w1.cell? ⟨w.heap.size, 1, none⟩ = some (.int .i64 na) := hA1.cell 1
  have hK1 := keepN hk0 hk1
  go_upto_if 25 with (first | (go_at_call 9; refine (great_no S none none 0 0 0 0 _ hg (by decide) (by decide)).mono ?_; rintro e w' ⟨rfl, rfl⟩) | (go_at_call 30; refine (HC.out _).mono ?_; rintro e w2 ⟨rfl, hk2⟩) | fail)
  have hK2 := keepN hK1 hk2
  have hA2 := hA1.keep hk2 id
  have hB2 := hB1.keep hk2 id
  clear a0 a1 hA hA1 hB hB1 HC Al hk0 hk1 hk2
  go_cut [] from 26 (fun wx => Keep NoB w wx)
  case first =>
    go_upto_region 5 with fail
    have HQ : Hid (∀ w', Keep NoB w2 w' → w'.cell? ⟨w.heap.size, 0, none⟩ = some (.int .i64 ta) ∧ w'.cell? ⟨w.heap.size, 1, none⟩ = some (.int .i64 na)) := fun w' hk' => ⟨(hA2.keep hk' id).cell 0, (hA2.keep hk' id).cell 1⟩
    have h2 := h.keep hK2
    go_cut [10, 11] from 26 to 34 (fun s10 s11 wx => ∃ b, s10 = .pointer (some ⟨b, 0, none⟩) ∧ s11 = .int .i64 (rE ta (showL ta na)) ∧ Keep NoB w2 wx ∧ wx.cell? ⟨b, 0, none⟩ = some (.int .i64 (rT ta (showL ta na))) ∧ wx.cell? ⟨b, 1, none⟩ = some (.int .i64 (rN ta (showL ta na))) ∧ w2.heap.size ≤ b)
    case first =>
      have hd0 := (Keep.refl NoB w2).drew
      have HT := Lib.hid (fun W (hW : Laid W) => read_any ta (str (showL ta na)) (showL ta na) W rfl hshl hW)
      generalize rT ta (showL ta na) = T at *
      generalize rN ta (showL ta na) = N at *
      generalize rE ta (showL ta na) = E at *
      generalize str (showL ta na) = X at *
      go_region_held (fun w' => w'.cell? ⟨w.heap.size, 0, none⟩ = some (.int .i64 ta) ∧ w'.cell? ⟨w.heap.size, 1, none⟩ = some (.int .i64 na))
        (first | exact HQ.out _ g | exact HQ.out _ (g.alloc _) | exact HQ.out _ (hd0.alloc _) | exact HQ.out _ hd0 | exact HQ.out _ (keep_two g (by first | exact Nat.le_refl _ | exact gs | (have := gs; omega)) _ _))
        (first
          | (go_at_call 21; refine (HS.out _ (h2.keep g)).mono ?_; rintro e v1 ⟨rfl, g'⟩; have g := keepN g g'; clear g')
          | (go_at_call 21; refine (HS.out _ (h2.keep hd0)).mono ?_; rintro e v1 ⟨rfl, g'⟩; have g := keepN hd0 g'; clear g')
          | (go_at_call 21; refine (HS.out _ (h2.keep (hd0.alloc _))).mono ?_; rintro e v1 ⟨rfl, g'⟩; have g := keepN (hd0.alloc _) g'; have bb : Blk v1 w2.heap.size 35 #[.int .i64 0, .int .i64 0] := (Blk.new w2.drew 35 #[.int .i64 0, .int .i64 0]).keep g' id; clear g')
          | (go_at_call 19; refine (HT.out _ (h2.keep g)).mono ?_; rintro e v2 ⟨rfl, g'⟩; have g := keepN g g'; (first | (have bb := bb.keep g' id; have q0 : v2.cell? ⟨w2.heap.size, 0, none⟩ = some (.int .i64 0) := bb.cell 0; have q1 : v2.cell? ⟨w2.heap.size, 1, none⟩ = some (.int .i64 0) := bb.cell 1; have q2 := bb.frozen 0; have q3 := bb.frozen 1; have q4 := bb.lt) | skip); clear g')
          | (go_at_call 19; refine (HT.out _ (h2.keep (g.alloc _))).mono ?_; rintro e v2 ⟨rfl, g'⟩; have gs := g.size; have g := keepN (g.alloc _) g'; have bb := (Blk.new v1 35 #[.int .i64 0, .int .i64 0]).keep g' id; have q0 : v2.cell? ⟨v1.heap.size, 0, none⟩ = some (.int .i64 0) := bb.cell 0; have q1 : v2.cell? ⟨v1.heap.size, 1, none⟩ = some (.int .i64 0) := bb.cell 1; have q2 := bb.frozen 0; have q3 := bb.frozen 1; have q4 := bb.lt; clear g'))
      all_goals go_wp2_with fail
      all_goals clear HQ HS HT HSb HR
      · go_meet
        exact ⟨_, rfl, rfl, g.alloc _, (two_new _ _ _ _).1, (two_new _ _ _ _).2, g.size⟩
      · go_meet
        exact ⟨_, rfl, rfl, keep_two g gs _ _, (two_set bb _ _).1, (two_set bb _ _).2, gs⟩
      · go_meet
        exact ⟨_, rfl, rfl, keep_two g (Nat.le_refl _) _ _, (two_set bb _ _).1, (two_set bb _ _).2, Nat.le_refl _⟩
    case rest =>
      obtain ⟨b, rfl, rfl, hK3, e0, e1, -⟩ := hcut
      obtain ⟨f0, f1⟩ := HQ.out _ hK3
      have hKw := keepN hK2 hK3
      have h3 := h.keep hKw
      rcases back_cases hna hok with ⟨rfl, hp, c0, c1, c2⟩ | ⟨rfl, rfl, c0, c1, c2⟩ | ⟨h4, c0, c1, c2⟩
      · rw [c0] at e0
        rw [c1] at e1
        rw [c2]
        clear c0 c1 c2
        go_upto_region 9 with fail
        have qa0 : ∀ n : KW wc, n.w.cell? ⟨w.heap.size, 0, none⟩ = some (.int .i64 4) := fun n => (HQ.out _ (keepN hK3 n.keep)).1
        have qa1 : ∀ n : KW wc, n.w.cell? ⟨w.heap.size, 1, none⟩ = some (.int .i64 na) := fun n => (HQ.out _ (keepN hK3 n.keep)).2
        have qb0 : ∀ n : KW wc, n.w.cell? ⟨w.heap.size + 1, 0, none⟩ = some (.int .i64 tb) := fun n => (hB2.keep (keepN hK3 n.keep) id).cell 0
        have qb1 : ∀ n : KW wc, n.w.cell? ⟨w.heap.size + 1, 1, none⟩ = some (.int .i64 nb) := fun n => (hB2.keep (keepN hK3 n.keep) id).cell 1
        by_cases hb4 : tb = 4
        · subst hb4
          refine wp_region_kept wc (by kernel_rfl) (by kernel_rfl) (Keep.refl NoB wc) ?_
          repeat (go_big_quiet_step (fail))
          refine wpQuiet_nil ?_
          rintro _ ⟨n9, rfl⟩
          have hk9 := n9.keep
          generalize n9.w = w9 at hk9 ⊢
          go_wp2_with fail
          go_meet
          exact keepN hKw hk9
        · have hb4 : (tb == 4) = false := by simpa using hb4
          refine wp_region_kept wc (by kernel_rfl) (by kernel_rfl) (Keep.refl NoB wc) ?_
          repeat (go_big_quiet_step (fail))
          refine wpQuiet_nil ?_
          rintro _ ⟨n9, rfl⟩
          have hk9 := n9.keep
          generalize n9.w = w9 at hk9 ⊢
          go_wp2_with fail
          go_meet
          exact keepN hKw hk9
      · rw [c0] at e0
        rw [c1] at e1
        rw [c2]
        clear c0 c1 c2
        go_upto_region 9 with fail
        have qa0 : ∀ n : KW wc, n.w.cell? ⟨w.heap.size, 0, none⟩ = some (.int .i64 4) := fun n => (HQ.out _ (keepN hK3 n.keep)).1
        have qa1 : ∀ n : KW wc, n.w.cell? ⟨w.heap.size, 1, none⟩ = some (.int .i64 0) := fun n => (HQ.out _ (keepN hK3 n.keep)).2
        have qb0 : ∀ n : KW wc, n.w.cell? ⟨w.heap.size + 1, 0, none⟩ = some (.int .i64 tb) := fun n => (hB2.keep (keepN hK3 n.keep) id).cell 0
        have qb1 : ∀ n : KW wc, n.w.cell? ⟨w.heap.size + 1, 1, none⟩ = some (.int .i64 nb) := fun n => (hB2.keep (keepN hK3 n.keep) id).cell 1
        by_cases hb4 : tb = 4
        · subst hb4
          refine wp_region_kept wc (by kernel_rfl) (by kernel_rfl) (Keep.refl NoB wc) ?_
          repeat (go_big_quiet_step (fail))
          refine wpQuiet_nil ?_
          rintro _ ⟨n9, rfl⟩
          have hk9 := n9.keep
          generalize n9.w = w9 at hk9 ⊢
          go_wp2_with fail
          go_meet
          exact keepN hKw hk9
        · have hb4 : (tb == 4) = false := by simpa using hb4
          refine wp_region_kept wc (by kernel_rfl) (by kernel_rfl) (Keep.refl NoB wc) ?_
          repeat (go_big_quiet_step (fail))
          refine wpQuiet_nil ?_
          rintro _ ⟨n9, rfl⟩
          have hk9 := n9.keep
          generalize n9.w = w9 at hk9 ⊢
          go_wp2_with fail
          go_meet
          exact keepN hKw hk9
      · rw [c0] at e0
        rw [c1] at e1
        rw [c2]
        clear c0 c1 c2
        have h4' : (ta == 4) = false := by simpa using h4
        have h4n : (ta != 4) = true := by simpa using h4
        go_upto_region 9 with fail
        have qa0 : ∀ n : KW wc, n.w.cell? ⟨w.heap.size, 0, none⟩ = some (.int .i64 ta) := fun n => (HQ.out _ (keepN hK3 n.keep)).1
        have qa1 : ∀ n : KW wc, n.w.cell? ⟨w.heap.size, 1, none⟩ = some (.int .i64 na) := fun n => (HQ.out _ (keepN hK3 n.keep)).2
        have qb0 : ∀ n : KW wc, n.w.cell? ⟨w.heap.size + 1, 0, none⟩ = some (.int .i64 tb) := fun n => (hB2.keep (keepN hK3 n.keep) id).cell 0
        have qb1 : ∀ n : KW wc, n.w.cell? ⟨w.heap.size + 1, 1, none⟩ = some (.int .i64 nb) := fun n => (hB2.keep (keepN hK3 n.keep) id).cell 1
        by_cases hbt : tb = ta
        · subst hbt
          cases hob : okB tb nb
          · have HCb := Lib.hid (fun W => check_bad tb nb W hob)
            clear hob
            refine wp_region_kept wc (by kernel_rfl) (by kernel_rfl) (Keep.refl NoB wc) ?_
            repeat (go_big_quiet_step ((go_at_call 30; exact kept_of (HCb.out _))))
            refine wpQuiet_nil ?_
            rintro _ ⟨n9, rfl⟩
            have hk9 := n9.keep
            generalize n9.w = w9 at hk9 ⊢
            go_wp2_with fail
            go_meet
            exact keepN hKw hk9
          · have HCb := Lib.hid (fun W => check_ok tb nb W hob)
            by_cases hnn : nb = na
            · subst hnn
              refine wp_region_kept wc (by kernel_rfl) (by kernel_rfl) (Keep.refl NoB wc) ?_
              repeat (go_big_quiet_step (first | (go_at_call 30; exact kept_of (HCb.out _)) | (go_at_call 21; exact kept_of (HS.out _ (h3.keep (KW.keep _))))))
              refine wpQuiet_nil ?_
              rintro _ ⟨n9, rfl⟩
              have hk9 := n9.keep
              generalize n9.w = w9 at hk9 ⊢
              go_wp2_with fail
              go_meet
              exact keepN hKw hk9
            · have hne : showL tb na ≠ showL tb nb := fun e => hnn (show_inj hna hnb hok hob h4 e).symm
              have hnn : (na == nb) = false := by simpa using fun e => hnn e.symm
              have HS' := Lib.hid (fun W (hW : Laid W) => show_any tb na W hna hW)
              have HSb' := Lib.hid (fun W (hW : Laid W) => show_any tb nb W hnb hW)
              generalize showL tb na = X at HS' hne
              generalize showL tb nb = Y at HSb' hne
              have hx1 : (X == Y) = false := by simpa using hne
              refine wp_region_kept wc (by kernel_rfl) (by kernel_rfl) (Keep.refl NoB wc) ?_
              repeat (go_big_quiet_step (first | (go_at_call 30; exact kept_of (HCb.out _)) | (go_at_call_of 21 na; exact kept_of (HS'.out _ (h3.keep (KW.keep _)))) | (go_at_call 21; exact kept_of (HSb'.out _ (h3.keep (KW.keep _))))))
              refine wpQuiet_nil ?_
              rintro _ ⟨n9, rfl⟩
              have hk9 := n9.keep
              generalize n9.w = w9 at hk9 ⊢
              go_wp2_with fail
              go_ways
              go_meet
              exact keepN hKw hk9
        · have hbt : (tb == ta) = false := by simpa using hbt
          refine wp_region_kept wc (by kernel_rfl) (by kernel_rfl) (Keep.refl NoB wc) ?_
          repeat (go_big_quiet_step (fail))
          refine wpQuiet_nil ?_
          rintro _ ⟨n9, rfl⟩
          have hk9 := n9.keep
          generalize n9.w = w9 at hk9 ⊢
          go_wp2_with fail
          go_meet
          exact keepN hKw hk9
  case rest =>
    have hK2 := hcut
    go_wp2_with fail
    refine (HR.out _ (h.keep hK2)).mono ?_
    rintro e w3 ⟨rfl, hk3⟩
    have hK3 := keepN hK2 hk3
    have hK4 := hK3.alloc (.cells #[.int .i64 (rT t s), .int .i64 (rN t s)] 35)
    have hB := Blk.new w3 35 #[.int .i64 (rT t s), .int .i64 (rN t s)]
    have hL4 := hL.keep hK4
    have h4 := h.keep hK4
    clear hA2 hB2 HS HSb
    rcases r_cases t s with ⟨e1, e2, e3⟩ | ⟨n, e1, e2, e3, e4, e5, e6⟩
    · rw [e1, e2] at hB hK4 ⊢
      rcases e3 with e3 | e3
      all_goals
        rw [e3]
        go_wp2
        go_ret
        exact ⟨rfl, hK4⟩
    · rw [e1, e2] at hB hK4 h4 ⊢
      rw [e3]
      have hq : (s == S.toList) = true := by rw [ByteArray.toList_eq, hs.out, beq_self_eq_true]
      have HS := Lib.hid (fun W (hW : Laid W) => show_any t n W e6 hW)
      rw [e4] at HS
      have HC2 := Lib.hid (fun W => check_ok t n W e5)
      clear e1 e2 e3 e4 e5 HR
      go_wp2_with fail
      generalize w3.alloc (.cells #[.int .i64 t, .int .i64 n] 35) = w4 at hB hK4 h4 ⊢
      refine (HS.out _ h4).mono ?_
      rintro e w5 ⟨rfl, hk5⟩
      have hB5 := hB.keep hk5 id
      have c0 : w5.cell? ⟨w3.heap.size, 0, none⟩ = some (.int .i64 t) := hB5.cell 0
      have c1 : w5.cell? ⟨w3.heap.size, 1, none⟩ = some (.int .i64 n) := hB5.cell 1
      go_wp2_with (first | (go_at_call 30; refine (HC2.out _).mono ?_; rintro e w6 ⟨rfl, hk6⟩) | fail)
      go_ret
      exact ⟨rfl, keepN (keepN hK4 hk5) hk6⟩

end Go.Proofs.YtkhbmbkjaeaamaaDoor
