/-
  ValueFits' walk: whatever values, place and type, the law returns true. Conditions: the values lie in memory; the listed variables hold what their initialisers lay.
-/
import Derived.Test.YtkhbmbkjaeaamaaDoorWLists
namespace Go.Proofs.YtkhbmbkjaeaamaaDoor
open Go.RowKit

theorem allOk_take (x : List (Int × Int)) (k : Nat) (h : k < x.length) : allOk (x.take (k + 1)) = (allOk (x.take k) && okB x[k].1 x[k].2) := by
  unfold allOk
  rw [List.take_succ_eq_append_getElem h, List.all_append]
  simp
theorem ts_length (x : List (Int × Int)) : (ts x).length = x.length := by unfold ts; rw [List.length_map]
theorem fits_longer (x : List (Int × Int)) : fitsB (1 :: ts x) x = false := by
  apply fits_false
  rintro ⟨h, _⟩
  have := congrArg List.length h
  rw [List.length_cons, ts_length] at this
  omega
theorem fits_ts (x : List (Int × Int)) : fitsB (ts x) x = allOk x := by unfold fitsB; simp
theorem fits_set (x : List (Int × Int)) (k : Nat) (t : Int) (h : k < x.length) : fitsB ((ts x).set k t) x = (allOk x && decide (t = x[k].1)) := by
  unfold fitsB
  rw [Bool.and_comm]
  congr 1
  rw [decide_eq_decide]
  have hk : k < (ts x).length := by rw [ts_length]; exact h
  have hx : (ts x)[k] = x[k].1 := by simp [ts]
  constructor
  · intro e
    have e2 : ((ts x).set k t)[k]? = (ts x)[k]? := by rw [e]
    rw [List.getElem?_set_self hk, List.getElem?_eq_getElem hk, hx] at e2
    injection e2
  · rintro e
    rw [e, ← hx]
    exact List.set_getElem_self hk

theorem own_one (w : World) (v : Value) (T : TypeId) : (w.alloc (.cells #[v] T)).ownsRow 0 T 1 (.slice (some ⟨w.heap.size, 0, none⟩) 1 1) 1 [v] :=
  ⟨by simp, .inr ⟨w.heap.size, 1, #[v], rfl, Nat.zero_le _, heap_alloc_new w _, Nat.le_refl _, by unfold maxLen; omega, rfl, by simp⟩⟩
theorem wpList_append_rd_g {ops : Array Oper} {rest : List Oper} {o : Oper} {a : Act} {Q : Exit → Act → World → Prop} (w : World) (hgd : Region.wanted o (yielded ops a.tmps) = true) (s x : Operand) (S : TypeId)
    (ho : o.op = .call { callee := .builtin .append, args := #[s, x], argTypes := #[S, S] })
    (E size bytes : Nat) (i0 : TypeInfo) (z : Value) (hS : Tryd.prog.underlying S = some (.slice E)) (hi : Tryd.prog.info? E = some i0) (hz0 : i0.zero = some z) (hz1 : i0.size = size) (hz2 : i0.bytes = bytes) (hzs : z.cells.size = size) (hsz : 0 < size)
    (v : Value) (n : Nat) (xs : List Value) (A : Option Addr) (m c : Nat) (ys : List Value) (hs : a.eval s = v) (hown : w.ownsRow 0 E size v n xs) (hx : a.eval x = .slice A m c) (hr : Rd w A ys)
    (hl : ys.length = m * size) (h1 : ∀ u ∈ ys, u.oneCell' = true) (h63 : n + m ≤ maxLen) (hb : (n + m) * bytes ≤ 140737488355328)
    (h : ∀ A' c' w', w'.ownsRow 0 E size (.slice A' (n + m) c') (n + m) (xs ++ ys) → w.grownBy w' v.ownBlock → ((Value.slice A' (n + m) c').ownBlock = v.ownBlock ∨ (Value.slice A' (n + m) c').ownBlock = some w.heap.size) → wpList Tryd.prog ops Q rest (a.put o.dst (.slice A' (n + m) c')) w') :
    wpList Tryd.prog ops Q (o :: rest) a w :=
  wpList_step fun _ hK => by
    rw [if_pos hgd]
    exact wp_append_rd w s x S ho E size bytes i0 z hS hi hz0 hz1 hz2 hzs hsz v n xs A m c ys hs hown hx hr hl h1 h63 hb fun A' c' w' h2 h3 h4 => hK _ _ (h A' c' w' h2 h3 h4)

theorem own_at {w : World} {E n c : Nat} {O : Nat → Prop} {A : Option Addr} {xs : List Value} (h : Own w E 1 O (.slice A n c) n xs) (h0 : 0 < n) :
    ∃ g, A = some ⟨g, 0, none⟩ ∧ O g ∧ (∀ j u, xs[j]? = some u → w.cell? ⟨g, j, none⟩ = some u) ∧ ∀ j, w.frozen? ⟨g, j, none⟩ = false := by
  rcases h.1.2 with ⟨_, hn⟩ | ⟨g, cap, cur, e, _, hh, _⟩
  · omega
  · cases e
    refine ⟨g, rfl, h.2 g rfl, fun j u hu => ?_, fun j => by simp [World.frozen?, hh]⟩
    have := h.1.cells (g := g) rfl j u hu
    have ea : (⟨g, 0, none⟩ : Addr).add j = ⟨g, j, none⟩ := by unfold Addr.add; by_cases hj : j = 0 <;> simp [hj]
    rwa [ea] at this
theorem rd_set {w : World} {g q : Nat} {t : Int} {l : List Int} (hc : ∀ j u, (ivs l)[j]? = some u → w.cell? ⟨g, j, none⟩ = some u) (hq : q < l.length) : Rd (w.setCell ⟨g, q, none⟩ (.int .i64 t)) (some ⟨g, 0, none⟩) (ivs (l.set q t)) := fun _ => by
  refine ⟨g, 0, rfl, fun j u hu => ?_⟩
  rw [Nat.zero_add]
  have hm : ivs (l.set q t) = (ivs l).set q (.int .i64 t) := by simp [List.map_set]
  rw [hm, List.getElem?_set] at hu
  by_cases hj : q = j
  · subst hj
    rw [if_pos rfl] at hu
    rw [if_pos (by rw [List.length_map]; exact hq)] at hu
    injection hu with hu
    subst hu
    exact World.cell?_setCell_same w _ _ (hc q _ (List.getElem?_eq_getElem (by rw [List.length_map]; exact hq)))
  · rw [if_neg hj] at hu
    rw [World.cell?_setCell_other w _ _ _ (by intro e; injection e with _ e _; exact hj e)]
    exact hc j u hu

set_option maxRecDepth 100000 in
set_option maxHeartbeats 40000000 in
theorem fits_main (w : World) (A : Option Addr) (x : List (Int × Int)) (nx c m : Nat) (t : Int) (b : Bool) (Al : Hid AliveC) (ha : Rd w A (vvs x)) (hx : Hid (x.length = nx)) (hg : nx ≤ 2000) (hm : m < 65536) (hL : LetAt w) (h : Laid w) (hb : Hid (allOk x = b)) :
    Calls Tryd.prog 8 #[.slice A nx c, .int .u16 m, .int .i64 t] w fun e w' => e = .returned (.bool true) ∧ Keep NoB w w' := by
  have hnx : nx ≤ 9223372036854775807 := by omega
  obtain ⟨i0, hi, hz0, hz1, hz2⟩ := info_parts int_info
  go_enter Tryd.func8, Tryd.ntmps8
  go_wp2_with fail
  refine (Al.out _ hL h).mono ?_
  rintro e w1 ⟨rfl, hk1⟩
  go_wp2_with fail
  refine (great_no ⟨#[]⟩ none A 0 nx 0 c _ (by decide) (by decide) hg).mono ?_
  rintro e w' ⟨rfl, rfl⟩
  go_wp2_with fail
  refine (of_any A x nx c _ (ha.keepN hk1) hx (by omega)).mono ?_
  rintro e w2 ⟨hK2, O, o, rfl, hO2⟩
  obtain ⟨_, _, eO, -, -, hR2, -⟩ := hO2.form
  cases eO
  have hk2 := keepN hk1 hK2
  have ha2 := ha.keepN hk2
  go_wp2_with fail
  go_loopw [9, 25] (fun av i wr => ∃ k : Nat, k ≤ nx ∧ i = .int .i64 k ∧ av = .bool (allOk (x.take k)) ∧ Keep NoB w2 wr) (fun _ i _ => nx - (intOf i).toNat)
  case atStart => exact ⟨0, Nat.zero_le _, rfl, rfl, Keep.refl _ _⟩
  case round =>
    obtain ⟨k, hk, rfl, rfl, hK3⟩ := hrel
    by_cases hlt : k < nx
    · have hkx : k < x.length := by rw [hx.out]; exact hlt
      obtain ⟨gA, oA, rfl, qA⟩ := rdV_at ha2 (by omega)
      have e0 := hK3.cell (qA k hkx).1 id
      have e1 := hK3.cell (qA k hkx).2 id
      have hT := Lib.hid (allOk_take x k hkx)
      generalize x[k] = y at e0 e1 hT
      obtain ⟨y0, y1⟩ := y
      dsimp only at e0 e1 hT
      have HC := Lib.hid (fun W h => check_ok y0 y1 W h)
      have HD := Lib.hid (fun W h => check_bad y0 y1 W h)
      clear qA ha2 ha
      cases hp : allOk (x.take k)
      · rw [hp, Bool.false_and] at hT
        go_wp2
        go_roundw
        case rel => exact ⟨k + 1, by omega, by go_num, by rw [hT.out], hK3.alloc _⟩
        case measure => simp [intOf]; omega
      · rw [hp, Bool.true_and] at hT
        cases hy : okB y0 y1
        · rw [hy] at hT
          go_wp2_with (go_at_call 30; refine (HD.out _ hy).mono ?_; rintro e v1 ⟨rfl, g1⟩)
          go_roundw
          case rel => exact ⟨k + 1, by omega, by go_num, by rw [hT.out], keepN (hK3.alloc _) g1⟩
          case measure => simp [intOf]; omega
        · rw [hy] at hT
          go_wp2_with (go_at_call 30; refine (HC.out _ hy).mono ?_; rintro e v1 ⟨rfl, g1⟩)
          go_roundw
          case rel => exact ⟨k + 1, by omega, by go_num, by rw [hT.out], keepN (hK3.alloc _) g1⟩
          case measure => simp [intOf]; omega
    · have hkn : k = nx := by omega
      subst hkn
      have hall : allOk (x.take k) = b := by rw [← hb.out, ← hx.out, List.take_length]
      rw [hall]
      clear hall hlt
      have hk3 := keepN hk2 hK3
      have ha3 := ha.keepN hk3
      have hR3 := hR2.keepN hK3
      have hO3 := hO2.keepN hK3
      have htl : Hid ((ts x).length = k) := by show _ = _; rw [ts_length, hx.out]
      cases b
      · go_wp2_with (first
          | (go_at_call_of 28 (Value.slice O k o); refine (fits_any O A (ts x) x k k o c _ hR3 ha3 htl hx hnx hnx false (by show _ = _; rw [fits_ts, hb.out])).mono ?_; rintro e w4 ⟨rfl, hK4⟩; have ha4 := ha3.keepN hK4; have hR4 := hR3.keepN hK4)
          | (at_builtin; refine wpList_append_rd_g _ (by rfl) (.tmp 42) (.tmp 43) _ rfl 3 1 8 i0 _ Tryd.underlying22 hi hz0 hz1 hz2 rfl (by decide) _ 1 _ O k o (ivs (ts x)) rfl (own_one w4 _ _) rfl (hR4.keepN ((Keep.refl NoB w4).alloc _)) (by rw [List.length_map, htl.out]; omega) (ivs_one _) (by unfold maxLen; omega) (by omega) ?_; intro A2 c2 w5 hrow5 hg5 hv5; obtain ⟨hO5, hK5⟩ := own_after (w := w4) (fun g e => by cases e; exact Nat.le_refl _) ((Keep.refl NoB w4).alloc _) hg5 hv5 hrow5; clear hrow5 hg5 hv5)
          | fail)
        obtain ⟨_, _, eA2, -, -, hR5, -⟩ := hO5.form
        cases eA2
        refine (fits_any A2 A (1 :: ts x) x (1 + k) k c2 c _ hR5 (ha4.keepN hK5) (by show _ = _; rw [List.length_cons, htl.out]; omega) hx (by omega) hnx false (by show _ = _; rw [fits_longer])).mono ?_
        rintro e w6 ⟨rfl, hK6⟩
        have hk6 := keepN (keepN (keepN hk3 hK4) hK5) hK6
        have h36 := keepN (keepN hK4 hK5) hK6
        clear hO5 hR5
        by_cases hk0 : k = 0
        · go_wp2
          go_ret
          exact ⟨rfl, hk6⟩
        · have hkp : 0 < k := by omega
          obtain ⟨q, hqe⟩ : ∃ q : Nat, ((m : Int) % (k : Int)) = (q : Int) := ⟨m % k, (Int.natCast_emod m k).symm⟩
          have hqk : q < k := by have := Int.emod_lt_of_pos (m : Int) (show (0 : Int) < k by omega); omega
          obtain ⟨g, rfl, hOg, hcO, hfO⟩ := own_at (hO3.keepN h36) hkp
          have hgw : w1.heap.size ≤ g := hOg
          have hgw0 := hk1.size
          have hql : q < (ts x).length := by rw [htl.out]; exact hqk
          have hqx : q < x.length := by rw [hx.out]; exact hqk
          have hc6 : w6.cell? ⟨g, q, none⟩ = some (.int .i64 (ts x)[q]) := hcO q _ (by simp [hql])
          have hf6 := hfO q
          have hRs := rd_set (t := t) hcO hql
          obtain ⟨gA, oA, rfl, qA⟩ := rdV_at ha (by omega)
          have hgA : gA < w.heap.size := World.block_lt_of_cell? w _ (qA q hqx).1
          have hK7 : Keep (fun b => b = g) w6 (w6.setCell ⟨g, q, none⟩ (.int .i64 t)) := (Keep.refl (fun b => b = g) w6).setCell (p := ⟨g, q, none⟩) (fun _ => rfl) _
          have ha7 := (ha.keepN hk6).keep hK7 (fun ad e => by injection e with e; rw [← e]; show ¬ gA = g; omega)
          have hk7 : Keep NoB w (w6.setCell ⟨g, q, none⟩ (.int .i64 t)) := hk6.setCell (fun hlt => by have : g < w.heap.size := hlt; omega) _
          have hsl : Hid (((ts x).set q t).length = k) := by show _ = _; rw [List.length_set, htl.out]
          have HF := Lib.hid (fits_set x q t hqx)
          have c0 : ∀ w8, Keep NoB (w6.setCell ⟨g, q, none⟩ (.int .i64 t)) w8 → w8.cell? ⟨gA, oA + q * 2, none⟩ = some (.int .i64 x[q].1) := fun w8 h8 => (keepN hk7 h8).cell (qA q hqx).1 id
          have HC0 := Lib.hid c0
          rw [hb.out] at HF
          generalize x[q].1 = y at HC0 HF
          clear c0 hcO hfO ha ha2 ha3 ha4 hR2 hR3 hR4 hO2 hO3 h36 qA
          rw [Bool.false_and] at HF
          go_wp2_with (first | (go_at_call 28; refine (fits_any _ _ ((ts x).set q t) x k k o c _ hRs ha7 hsl hx hnx hnx false (by show _ = _; rw [HF.out])).mono ?_; rintro e w8 ⟨rfl, hK8⟩) | fail)
          go_ret
          exact ⟨rfl, keepN hk7 hK8⟩
      · go_wp2_with (first
          | (go_at_call_of 28 (Value.slice O k o); refine (fits_any O A (ts x) x k k o c _ hR3 ha3 htl hx hnx hnx true (by show _ = _; rw [fits_ts, hb.out])).mono ?_; rintro e w4 ⟨rfl, hK4⟩; have ha4 := ha3.keepN hK4; have hR4 := hR3.keepN hK4)
          | (at_builtin; refine wpList_append_rd_g _ (by rfl) (.tmp 42) (.tmp 43) _ rfl 3 1 8 i0 _ Tryd.underlying22 hi hz0 hz1 hz2 rfl (by decide) _ 1 _ O k o (ivs (ts x)) rfl (own_one w4 _ _) rfl (hR4.keepN ((Keep.refl NoB w4).alloc _)) (by rw [List.length_map, htl.out]; omega) (ivs_one _) (by unfold maxLen; omega) (by omega) ?_; intro A2 c2 w5 hrow5 hg5 hv5; obtain ⟨hO5, hK5⟩ := own_after (w := w4) (fun g e => by cases e; exact Nat.le_refl _) ((Keep.refl NoB w4).alloc _) hg5 hv5 hrow5; clear hrow5 hg5 hv5)
          | fail)
        obtain ⟨_, _, eA2, -, -, hR5, -⟩ := hO5.form
        cases eA2
        refine (fits_any A2 A (1 :: ts x) x (1 + k) k c2 c _ hR5 (ha4.keepN hK5) (by show _ = _; rw [List.length_cons, htl.out]; omega) hx (by omega) hnx false (by show _ = _; rw [fits_longer])).mono ?_
        rintro e w6 ⟨rfl, hK6⟩
        have hk6 := keepN (keepN (keepN hk3 hK4) hK5) hK6
        have h36 := keepN (keepN hK4 hK5) hK6
        clear hO5 hR5
        by_cases hk0 : k = 0
        · go_wp2
          go_ret
          exact ⟨rfl, hk6⟩
        · have hkp : 0 < k := by omega
          obtain ⟨q, hqe⟩ : ∃ q : Nat, ((m : Int) % (k : Int)) = (q : Int) := ⟨m % k, (Int.natCast_emod m k).symm⟩
          have hqk : q < k := by have := Int.emod_lt_of_pos (m : Int) (show (0 : Int) < k by omega); omega
          obtain ⟨g, rfl, hOg, hcO, hfO⟩ := own_at (hO3.keepN h36) hkp
          have hgw : w1.heap.size ≤ g := hOg
          have hgw0 := hk1.size
          have hql : q < (ts x).length := by rw [htl.out]; exact hqk
          have hqx : q < x.length := by rw [hx.out]; exact hqk
          have hc6 : w6.cell? ⟨g, q, none⟩ = some (.int .i64 (ts x)[q]) := hcO q _ (by simp [hql])
          have hf6 := hfO q
          have hRs := rd_set (t := t) hcO hql
          obtain ⟨gA, oA, rfl, qA⟩ := rdV_at ha (by omega)
          have hgA : gA < w.heap.size := World.block_lt_of_cell? w _ (qA q hqx).1
          have hK7 : Keep (fun b => b = g) w6 (w6.setCell ⟨g, q, none⟩ (.int .i64 t)) := (Keep.refl (fun b => b = g) w6).setCell (p := ⟨g, q, none⟩) (fun _ => rfl) _
          have ha7 := (ha.keepN hk6).keep hK7 (fun ad e => by injection e with e; rw [← e]; show ¬ gA = g; omega)
          have hk7 : Keep NoB w (w6.setCell ⟨g, q, none⟩ (.int .i64 t)) := hk6.setCell (fun hlt => by have : g < w.heap.size := hlt; omega) _
          have hsl : Hid (((ts x).set q t).length = k) := by show _ = _; rw [List.length_set, htl.out]
          have HF := Lib.hid (fits_set x q t hqx)
          have c0 : ∀ w8, Keep NoB (w6.setCell ⟨g, q, none⟩ (.int .i64 t)) w8 → w8.cell? ⟨gA, oA + q * 2, none⟩ = some (.int .i64 x[q].1) := fun w8 h8 => (keepN hk7 h8).cell (qA q hqx).1 id
          have HC0 := Lib.hid c0
          rw [hb.out] at HF
          generalize x[q].1 = y at HC0 HF
          clear c0 hcO hfO ha ha2 ha3 ha4 hR2 hR3 hR4 hO2 hO3 h36 qA
          rw [Bool.true_and] at HF
          by_cases hty : t = y
          · have hq1 : (t == y) = true := by rw [beq_iff_eq]; exact hty
            have HV : Hid (true = fitsB ((ts x).set q t) x) := by show _ = _; rw [HF.out, eq_comm]; simpa using hty
            clear hty
            go_wp2_with (first | (go_at_call 28; refine (fits_any _ _ ((ts x).set q t) x k k o c _ hRs ha7 hsl hx hnx hnx true HV).mono ?_; rintro e w8 ⟨rfl, hK8⟩; have e8 := HC0.out _ hK8) | fail)
            go_ret
            exact ⟨rfl, keepN hk7 hK8⟩
          · have hq1 : (t == y) = false := by rw [beq_eq_false_iff_ne]; exact hty
            have HV : Hid (false = fitsB ((ts x).set q t) x) := by show _ = _; rw [HF.out, eq_comm]; simpa using hty
            clear hty
            go_wp2_with (first | (go_at_call 28; refine (fits_any _ _ ((ts x).set q t) x k k o c _ hRs ha7 hsl hx hnx hnx false HV).mono ?_; rintro e w8 ⟨rfl, hK8⟩; have e8 := HC0.out _ hK8) | fail)
            go_ret
            exact ⟨rfl, keepN hk7 hK8⟩

theorem fits_walk (w : World) (A : Option Addr) (x : List (Int × Int)) (nx c m : Nat) (t : Int) (Al : Hid AliveC) (ha : Rd w A (vvs x)) (hx : Hid (x.length = nx)) (hnx : nx ≤ 9223372036854775807) (hm : m < 65536) (hL : LetAt w) (h : Laid w) :
    Calls Tryd.prog 8 #[.slice A nx c, .int .u16 m, .int .i64 t] w fun e w' => e = .returned (.bool true) ∧ Keep NoB w w' := by
  by_cases hg : nx ≤ 2000
  · exact fits_main w A x nx c m t _ Al ha hx hg hm hL h rfl
  · go_enter Tryd.func8, Tryd.ntmps8
    go_wp2_with fail
    refine (Al.out _ hL h).mono ?_
    rintro e w1 ⟨rfl, hk1⟩
    go_wp2_with fail
    refine (great_yes ⟨#[]⟩ none A 0 nx 0 c _ (fun h => hg h.2.2) (by decide) hnx (by decide)).mono ?_
    rintro e w' ⟨rfl, rfl⟩
    go_wp2
    go_ret
    exact ⟨rfl, hk1⟩

end Go.Proofs.YtkhbmbkjaeaamaaDoor
