/-
  What Stretch of layer code answers: where a stretch begins, and the place behind its last one. Conditions: the list lies in memory.
  CodeStretches' walk: a body's stretches are all its places, each once; within one, nothing but its last place goes, or ends; nothing goes to a place within. Conditions: the listed package-level variables hold what their initialisers lay; the list lies in memory; its numbers fit an int64.
-/
import Derived.IntWalk
import Derived.Test.YtonpplpfipfnfaaGreatDoorQ10
import Derived.Test.YtonpplpfipfnfaaGreatDoorShelf
import Derived.Test.YtonpplpfipfnfaaGreatDoorQ6
namespace Go.Proofs.YtonpplpfipfnfaaGreatDoor.C
open Go.RowKit O

theorem search_any (A : Option Addr) (zs : List Int) (n : Nat) (x : Int) (w : World) (hr : Rd w A (ivs zs)) (hn : Hid (zs.length = n)) (hs : zs.Pairwise (· ≤ ·)) (hm : n ≤ 1000000) (i : Nat) (hi : zs.countP (fun y => decide (y < x)) = i) (t : Bool) (ht : zs.contains x = t) :
    Calls Tryz.prog 46 #[.slice A n n, .int .i64 x] w fun e w' => e = .returned (.tuple #[.int .i64 (i : Nat), .bool t]) ∧ Keep NoB w w' := by
  have hn := hn.out
  subst hn hi ht
  rcases zs with _ | ⟨z, zs⟩
  · exact (Tryz.slices_BinarySearch_int_empty A 0 x w).mono fun e w' ⟨he, hw⟩ => ⟨he, by rw [hw]; exact Keep.refl _ _⟩
  · obtain ⟨g, off, rfl, hc⟩ := rdI_at hr (by simp)
    have h := Tryz.slices_BinarySearch_int g off (z :: zs).length (z :: zs).length (z :: zs) x w (Nat.le_refl _) (by omega) (fun j hj => by rw [hc j hj, List.getD_eq_getElem?_getD, List.getElem?_eq_getElem hj]; rfl) (by rw [List.take_length]; exact hs)
    rw [List.take_length] at h
    exact h.mono fun e w' ⟨he, q, hw⟩ => ⟨he, by rw [hw]; exact (Keep.refl NoB w).drewN q⟩

/-- Is it a head of a body? -/
def isH (l : List I3) (x : Int) : Bool := okB l && (decide (0 ≤ x ∧ x < (l.length : Int)) && headB l x.toNat)
def strA (l : List I3) (x : Int) : Int := if isH l x = true then x else 0
def strB (l : List I3) (x : Int) : Int := if isH l x = true then (nextH l x.toNat : Int) else 0
def strE (l : List I3) (x : Int) : Int := if isH l x = true then 0 else 50
theorem str_no {l : List I3} {x : Int} (h : isH l x = false) : strA l x = 0 ∧ strB l x = 0 ∧ strE l x = 50 := by
  unfold strA strB strE; rw [h]; simp
theorem str_yes {l : List I3} {x : Int} (h : isH l x = true) : strA l x = x ∧ strB l x = (nextH l x.toNat : Int) ∧ strE l x = 0 := by
  unfold strA strB strE; rw [h]; simp
theorem isH_parts {l : List I3} {x : Int} (h : isH l x = true) : okB l = true ∧ ∃ k : Nat, x = (k : Int) ∧ k < l.length ∧ headB l k = true := by
  unfold isH at h
  simp only [Bool.and_eq_true, decide_eq_true_eq] at h
  exact ⟨h.1, x.toNat, by omega, by omega, h.2.2⟩
theorem hzG_contains (l : List I3) (x : Int) : (hzG l).contains x = isH l x := by
  cases ho : okB l
  · rw [hzG_no ho]; unfold isH; rw [ho]; rfl
  · rw [hzG_ok ho]
    cases hh : isH l x
    · rw [Bool.eq_false_iff]
      intro hc
      obtain ⟨h, rfl, h1, h2⟩ := (hzs_contains x).1 hc
      unfold isH at hh
      rw [ho, Int.toNat_natCast, h2, decide_eq_true (by omega)] at hh
      cases hh
    · obtain ⟨_, k, rfl, h1, h2⟩ := isH_parts hh
      exact (hzs_contains _).2 ⟨k, rfl, h1, h2⟩
theorem hzG_len (l : List I3) : (hzG l).length ≤ 512 := by
  cases ho : okB l
  · rw [hzG_no ho]; simp
  · rw [hzG_ok ho]
    exact Nat.le_trans (hzs_length_le l) (okB_parts ho).2.1
theorem hzG_sorted (l : List I3) : (hzG l).Pairwise (· ≤ ·) := by
  cases ho : okB l
  · rw [hzG_no ho]; exact List.Pairwise.nil
  · rw [hzG_ok ho]; exact hzs_sorted l

theorem ret_3 {a b c a' b' c' : Int} (h1 : a = a') (h2 : b = b') (h3 : c = c') : Ending.returned (.tuple #[.int .i64 a, .int .i64 b, .int .i64 c]) = .returned (.tuple #[.int .i64 a', .int .i64 b', .int .i64 c']) := by rw [h1, h2, h3]

set_option maxRecDepth 100000 in
set_option maxHeartbeats 4000000 in
theorem stretch_any (A : Option Addr) (l : List I3) (n c : Nat) (x : Int) (w : World) (hr : Rd w A (iis l)) (hn : Hid (l.length = n)) (hm : n ≤ 9223372036854775807) :
    Calls Tryz.prog 21 #[.slice A n c, .int .i64 x] w fun e w' => e = .returned (.tuple #[.int .i64 (strA l x), .int .i64 (strB l x), .int .i64 (strE l x)]) ∧ Keep NoB w w' := by
  have HH := Lib.hid (fun w hr => heads_any A l n c w hr hn hm)
  have hr0 := Lib.hid hr
  have hlen := hzG_len l
  have hs := Lib.hid (hzG_sorted l)
  have hct := hzG_contains l x
  obtain ⟨i, hi⟩ : ∃ i, (hzG l).countP (fun y => decide (y < x)) = i := ⟨_, rfl⟩
  obtain ⟨m, hzm⟩ : ∃ m, (hzG l).length = m := ⟨_, rfl⟩
  rw [hzm] at hlen
  have hmm := Lib.hid hzm
  cases hh : isH l x
  · obtain ⟨e1, e2, e3⟩ := str_no hh
    rw [e1, e2, e3]
    rw [hh] at hct
    have HS := Lib.hid (fun A w hr => search_any A (hzG l) m x w hr hmm hs.out (by omega) i hi false hct)
    clear hct hi hh e1 e2 e3 hr hzm
    go_enter Tryz.func21, Tryz.ntmps21
    go_wp2_with fail
    refine (HH.out _ hr0.out).mono ?_
    rintro e w1 ⟨A1, rfl, hrd, k1⟩
    rw [hmm.out]
    go_wp2_with fail
    refine (HS.out _ _ hrd).mono ?_
    rintro e w2 ⟨rfl, k2⟩
    go_wp2
    refine bodyPost_ret (results_tmp3 rfl _ _ _) rfl ?_
    exact ⟨rfl, keepN k1 k2⟩
  · obtain ⟨ho, k, rfl, hkn, hhd⟩ := isH_parts hh
    obtain ⟨e1, e2, e3⟩ := str_yes hh
    rw [e1, e2, e3, Int.toNat_natCast]
    rw [hh] at hct
    have HS := Lib.hid (fun A w hr => search_any A (hzG l) m k w hr hmm hs.out (by omega) i hi true hct)
    rw [hzG_ok ho] at hi hzm
    obtain ⟨s1, s2, s3⟩ := stretch_at hkn hhd i hi
    rw [hzm] at s1 s2
    have hz : hzG l = hzs l := hzG_ok ho
    rw [hz] at HH HS hmm
    by_cases hlast : m = i + 1
    · have hN := Lib.hid (s2 hlast)
      rw [hn.out] at hN
      have hq : ((i : Int) == (m : Int) - 1) = true := by rw [beq_iff_eq]; omega
      clear hct hi hh e1 e2 e3 hr hzm s1 s2 s3 hlast ho hkn hhd hz hs
      go_enter Tryz.func21, Tryz.ntmps21
      go_wp2_with fail
      refine (HH.out _ hr0.out).mono ?_
      rintro e w1 ⟨A1, rfl, hrd, k1⟩
      rw [hmm.out]
      go_wp2_with fail
      refine (HS.out _ _ hrd).mono ?_
      rintro e w2 ⟨rfl, k2⟩
      go_wp2
      refine bodyPost_ret (results_tmp3 rfl _ _ _) rfl ?_
      exact ⟨ret_3 rfl (by rw [hN.out]) rfl, keepN k1 k2⟩
    · have hlt : i + 1 < m := by omega
      have h3 := Lib.hid s3
      have hq : ((i : Int) == (m : Int) - 1) = false := by rw [beq_eq_false_iff_ne]; omega
      have hlen2 : 0 < (hzs l).length := by omega
      have hlt2 : i + 1 < (hzs l).length := by omega
      clear hct hi hh e1 e2 e3 hr s1 s2 s3 hlast ho hkn hhd hz hs hzm
      go_enter Tryz.func21, Tryz.ntmps21
      go_wp2_with fail
      refine (HH.out _ hr0.out).mono ?_
      rintro e w1 ⟨A1, rfl, hrd, k1⟩
      rw [hmm.out]
      go_wp2_with fail
      refine (HS.out _ _ hrd).mono ?_
      rintro e w2 ⟨rfl, k2⟩
      obtain ⟨g, off, rfl, hc⟩ := rdI_at (hrd.keepN k2) hlen2
      have cc := hc (i + 1) hlt2
      rw [h3.out hlt2] at cc
      have hsum : IntKind.i64.wrap ((i : Int) + 1) = (i : Int) + 1 := IntWalk.i64_in _ (by omega)
      have hs0 : (0 : Int) ≤ (i : Int) + 1 := by omega
      have hst : ((i : Int) + 1).toNat = i + 1 := by omega
      have hsl : (i : Int) + 1 < (m : Int) := by omega
      have gK := keepN k1 k2
      clear hc hlen2 hlt2 hrd HS HH hr0 k1 k2
      go_wp2
      go_quiet (fail)
      go_wp2
      refine bodyPost_ret (results_tmp3 rfl _ _ _) rfl ?_
      exact ⟨rfl, gK.drewN _⟩

end Go.Proofs.YtonpplpfipfnfaaGreatDoor.C

namespace Go.Proofs.YtonpplpfipfnfaaGreatDoor.C
open Go.RowKit O

/-- Where the k-th stretch begins. -/
def posH (l : List I3) (k : Nat) : Nat := (headsL l)[k]?.getD l.length
theorem posH_at {l : List I3} {k : Nat} (h : k < (headsL l).length) : posH l k = (headsL l)[k] := by unfold posH; rw [List.getElem?_eq_getElem h]; rfl
theorem posH_end (l : List I3) : posH l (headsL l).length = l.length := by unfold posH; rw [List.getElem?_eq_none (Nat.le_refl _)]; rfl
theorem posH_zero {l : List I3} (h : 0 < l.length) : posH l 0 = 0 := by
  obtain ⟨hp, e⟩ := heads_zero h
  rw [posH_at hp, e]
theorem posH_next {l : List I3} {k : Nat} (h : k < (headsL l).length) : posH l k < l.length ∧ headB l (posH l k) = true ∧ nextH l (posH l k) = posH l (k + 1) := by
  obtain ⟨h1, h2, h3, h4⟩ := heads_next h
  rw [posH_at h]
  refine ⟨h1, h2, ?_⟩
  by_cases e : k + 1 < (headsL l).length
  · rw [posH_at e]; exact (h4 e).symm
  · have e2 : k + 1 = (headsL l).length := by omega
    rw [h3 e2, e2, posH_end]
/-- How often each is among the first so many. -/
def fH (l : List I3) (k : Nat) (x : Int) : Nat := ((hzs l).take k).count x
theorem hzs_get {l : List I3} {k : Nat} (h : k < (headsL l).length) : (hzs l)[k]? = some ((posH l k : Nat) : Int) := by unfold hzs; rw [List.getElem?_map, List.getElem?_eq_getElem h, posH_at h]; rfl
theorem hzs_len (l : List I3) : (hzs l).length = (headsL l).length := by unfold hzs; rw [List.length_map]
theorem fH_next {l : List I3} {k : Nat} (h : k < (headsL l).length) (x : Int) : fH l (k + 1) x = setF (fH l k) ((posH l k : Nat) : Int) (fH l k ((posH l k : Nat) : Int) + 1) x := by
  have hz := hzs_get h
  obtain ⟨hl, e⟩ := List.getElem?_eq_some_iff.1 hz
  unfold fH setF
  rw [List.take_succ_eq_append_getElem hl, List.count_append, List.count_singleton, e]
  by_cases hx : x = ((posH l k : Nat) : Int)
  · subst hx; simp
  · have : ((((posH l k : Nat) : Int)) == x) = false := by rw [beq_eq_false_iff_ne]; exact fun e => hx e.symm
    rw [if_neg hx, this]; simp
theorem fH_le (l : List I3) (k : Nat) (x : Int) : fH l k x ≤ k := by
  unfold fH
  have := List.count_le_length (a := x) (l := (hzs l).take k)
  rw [List.length_take] at this; omega
theorem count_one {z : List Nat} {t : Nat} (hd : z.Nodup) (ht : t ∈ z) : z.count t = 1 := by
  induction z with
  | nil => cases ht
  | cons y z ih =>
    obtain ⟨h1, h2⟩ := List.nodup_cons.1 hd
    by_cases e : t = y
    · subst e; rw [List.count_cons_self, List.count_eq_zero.2 h1]
    · rw [List.count_cons_of_ne (fun h => e h.symm)]
      rcases List.mem_cons.1 ht with h | h
      · exact absurd h e
      · exact ih h2 h
theorem isH_pos {l : List I3} (ho : okB l = true) {k : Nat} (h : k < (headsL l).length) : isH l ((posH l k : Nat) : Int) = true := by
  obtain ⟨h1, h2, _⟩ := posH_next h
  unfold isH
  rw [ho, decide_eq_true (by omega), Int.toNat_natCast, h2]; rfl
theorem str_pos {l : List I3} (ho : okB l = true) {k : Nat} (h : k < (headsL l).length) : strA l ((posH l k : Nat) : Int) = ((posH l k : Nat) : Int) ∧ strB l ((posH l k : Nat) : Int) = ((posH l (k + 1) : Nat) : Int) ∧ strE l ((posH l k : Nat) : Int) = 0 := by
  obtain ⟨e1, e2, e3⟩ := str_yes (isH_pos ho h)
  rw [Int.toNat_natCast, (posH_next h).2.2] at e2
  exact ⟨e1, e2, e3⟩
theorem posH_lt {l : List I3} {k : Nat} (h : k < (headsL l).length) : posH l k < posH l (k + 1) ∧ posH l (k + 1) ≤ l.length := by
  obtain ⟨h1, _, h3⟩ := posH_next h
  have := nextH_spec h1
  rw [h3] at this
  exact ⟨this.1, this.2.1⟩
theorem fH_end {l : List I3} (ho : okB l = true) {x : I3} (hx : x ∈ l) (hg : gB x = true) : fH l (headsL l).length (gN x) = 1 := by
  obtain ⟨t, e, ht⟩ := goes_head ho hx hg
  unfold fH
  rw [List.take_of_length_le (by rw [hzs_len]; exact Nat.le_refl _), e]
  unfold hzs
  have h1 : ∀ (z : List Nat) (t : Nat), (z.map (fun i : Nat => (i : Int))).count (t : Int) = z.count t := by
    intro z t
    induction z with
    | nil => rfl
    | cons y z ih =>
      rw [List.map_cons, List.count_cons, List.count_cons, ih]
      congr 1
      have : (((y : Int)) == (t : Int)) = (y == t) := by
        by_cases e : y = t
        · subst e; simp
        · rw [beq_eq_false_iff_ne.2 e, beq_eq_false_iff_ne.2 (by omega)]
      rw [this]
  rw [h1]
  exact count_one (heads_nodup l) ht

theorem rd_map {W W' : World} {A : Option Addr} {xs : List Value} {b : Nat} (h : Rd W A xs) (hg : W.grownBy W' (some b)) (hb : ∃ es c, W.heap[b]? = some (.map es c)) : Rd W' A xs := fun h0 => by
  obtain ⟨g, off, e, hc⟩ := h h0
  refine ⟨g, off, e, fun j u hu => ?_⟩
  have h1 := hc j u hu
  have hlt : g < W.heap.size := World.block_lt_of_cell? W _ h1
  have hne : some g ≠ some b := by
    intro e; cases e; obtain ⟨es, cc, hb⟩ := hb; simp [World.cell?, hb] at h1
  exact (World.cell?_of_block (hg.block g hlt hne)).trans h1

set_option maxRecDepth 100000 in
set_option maxHeartbeats 1000000 in
theorem cstretches_big (A : Option Addr) (n c : Nat) (w : World) (hL : Hid (LaidO w)) (hC : Hid (CutAt w)) (h : 100 < n) :
    Calls Tryz.prog 6 #[.slice A n c] w fun e w' => e = .returned (.bool true) ∧ Keep NoB w w' := by
  have hq : decide ((100 : Int) < (n : Int)) = true := by rw [decide_eq_true_iff]; omega
  clear h
  go_enter Tryz.func6, Tryz.ntmps6
  go_wp2_with fail
  refine (alive_any _ hL.out hC.out).mono ?_
  rintro e w1 ⟨rfl, k1⟩
  go_wp2
  go_ret
  exact ⟨rfl, k1⟩
set_option maxRecDepth 100000 in
set_option maxHeartbeats 1000000 in
theorem cstretches_no (A : Option Addr) (l : List I3) (n c : Nat) (w : World) (hL : Hid (LaidO w)) (hC : Hid (CutAt w)) (hr : Hid (Rd w A (iis l))) (hn : Hid (l.length = n)) (h : n ≤ 100) (ho : okB l = false) :
    Calls Tryz.prog 6 #[.slice A n c] w fun e w' => e = .returned (.bool true) ∧ Keep NoB w w' := by
  have hq : decide ((100 : Int) < (n : Int)) = false := by rw [decide_eq_false_iff_not]; omega
  have HC := Lib.hid (fun w hr => cchk_any A l n c w hr hn (by omega) 50 (chkB_no ho))
  clear h ho
  go_enter Tryz.func6, Tryz.ntmps6
  go_wp2_with fail
  refine (alive_any _ hL.out hC.out).mono ?_
  rintro e w1 ⟨rfl, k1⟩
  go_wp2_with fail
  refine (HC.out _ (hr.out.keepN k1)).mono ?_
  rintro e w2 ⟨rfl, k2⟩
  go_wp2
  go_ret
  exact ⟨rfl, keepN k1 k2⟩

set_option maxRecDepth 100000 in
set_option maxHeartbeats 8000000 in
theorem cstretches_yes (A : Option Addr) (l : List I3) (n c : Nat) (w : World) (hL : Hid (LaidO w)) (hC : Hid (CutAt w)) (hr : Hid (Rd w A (iis l))) (hn : Hid (l.length = n)) (h : n ≤ 100) (ho : okB l = true) :
    Calls Tryz.prog 6 #[.slice A n c] w fun e w' => e = .returned (.bool true) ∧ Keep NoB w w' := by
  have hq : decide ((100 : Int) < (n : Int)) = false := by rw [decide_eq_false_iff_not]; omega
  have HC := Lib.hid (fun w hr => cchk_any A l n c w hr hn (by omega) 0 (chkB_ok ho))
  have HH := Lib.hid (fun w hr => heads_any A l n c w hr hn (by omega))
  rw [hzG_ok ho] at HH
  have HS := Lib.hid (fun x w hr => stretch_any A l n c x w hr hn (by omega))
  have hok := Lib.hid ho
  obtain ⟨h1, _⟩ := okB_parts ho
  rw [hn.out] at h1
  have hp0 := posH_zero (l := l) (by rw [hn.out]; exact h1)
  obtain ⟨N, hN⟩ : ∃ N, (headsL l).length = N := ⟨_, rfl⟩
  have HN := Lib.hid hN
  have hNl : N ≤ n := by
    have := hzs_length_le l
    rw [hzs_len, hN, hn.out] at this; exact this
  have hzl : (hzs l).length = N := by rw [hzs_len, hN]
  have HZ := Lib.hid hzl
  clear ho hN hzl
  have hmm := @run_makeMap Tryz.prog
  go_enter Tryz.func6, Tryz.ntmps6
  go_wp2_with fail
  refine (alive_any _ hL.out hC.out).mono ?_
  rintro e w1 ⟨rfl, gK⟩
  go_wp2_with fail
  refine (HC.out _ (hr.out.keepN gK)).mono ?_
  rintro e w2 ⟨rfl, k1⟩
  replace gK := keepN gK k1
  clear k1
  have hI := IMap.new Tryz.prog 3 3 w2
  have hgb := gK.size
  replace gK := gK.alloc (.map #[] 0)
  go_wp2_with fail
  refine (HH.out _ (hr.out.keepN gK)).mono ?_
  rintro e w3 ⟨A3, rfl, r3, k1⟩
  rw [HZ.out]
  replace gK := keepN gK k1
  replace hI := hI.keep k1 id
  obtain ⟨b, hb⟩ : ∃ b, w2.heap.size = b := ⟨_, rfl⟩
  rw [hb] at hI hgb ⊢
  clear hb k1 hmm HH HC
  go_wp2
  go_loopw [4, 36] (fun a i wr => ∃ k : Nat, k ≤ N ∧ i = .int .i64 (k : Int) ∧ a = .int .i64 ((posH l k : Nat) : Int) ∧ IMap Tryz.prog 3 3 b k (fH l k) wr ∧ Keep NoB w wr ∧ Rd wr A3 (ivs (hzs l))) (fun _ i _ => N - (intOf i).toNat)
  case atStart => exact ⟨0, Nat.zero_le _, rfl, by rw [hp0]; rfl, hI.congr (fun x => by unfold fH; simp), gK, r3⟩
  case round =>
    clear hI gK r3
    obtain ⟨k, hk, rfl, rfl, hI, hK, r3⟩ := hrel
    by_cases hlt : k < N
    · have hkN : k < (headsL l).length := by rw [HN.out]; exact hlt
      obtain ⟨g, off, rfl, hc⟩ := rdI_at r3 (by rw [HZ.out]; omega)
      obtain ⟨hkz, ez⟩ := List.getElem?_eq_some_iff.1 (hzs_get hkN)
      have c0 := hc k hkz
      rw [ez] at c0
      obtain ⟨hpl, hpq⟩ : posH l k < n ∧ posH l k < posH l (k + 1) := ⟨by rw [← hn.out]; exact (posH_next hkN).1, (posH_lt hkN).1⟩
      have hqn := (posH_lt hkN).2
      rw [hn.out] at hqn
      have HSk := Lib.hid (HS.out ((posH l k : Nat) : Int))
      obtain ⟨e1, e2, e3⟩ := str_pos hok.out hkN
      rw [e1, e2, e3] at HSk
      have HI := Lib.hid (fun i (h1 : posH l k ≤ i) (h2 : i + 1 < posH l (k + 1)) => inner_no (l := l) (h := posH l k) (i := i) (posH_next hkN).1 h1 (by rw [(posH_next hkN).2.2]; exact h2))
      have HF := Lib.hid (fun x => fH_next hkN x)
      have hfl := fH_le l k ((posH l k : Nat) : Int)
      clear hc ez hkz e1 e2 e3
      obtain ⟨p, hp⟩ : ∃ p, posH l k = p := ⟨_, rfl⟩
      obtain ⟨q, hqe⟩ : ∃ q, posH l (k + 1) = q := ⟨_, rfl⟩
      have HQ := Lib.hid hqe
      rw [hp] at c0 hpl hpq HSk hfl HF ⊢
      rw [hqe] at hpq hqn HSk
      have dq1 : decide (q ≤ p) = false := by rw [decide_eq_false_iff_not]; omega
      have dq2 : decide (n < q) = false := by rw [decide_eq_false_iff_not]; omega
      have dq3 : decide ((q : Int) ≤ (p : Int)) = false := by rw [decide_eq_false_iff_not]; omega
      have dq4 : decide ((n : Int) < (q : Int)) = false := by rw [decide_eq_false_iff_not]; omega
      go_wp2_with fail
      refine (HSk.out _ (hr.out.keepN hK)).mono ?_
      rintro e w4 ⟨rfl, k4⟩
      have hI4 := hI.keep k4 id
      have hK4 := keepN hK k4
      have r4 := r3.keepN k4
      obtain ⟨v, hv⟩ : ∃ v, fH l k (p : Int) = v := ⟨_, rfl⟩
      rw [hv] at hfl
      have hlk := hI4.look (t := 58) Tryz.underlying58 Tryz.underlying3 Tryz.underlying3 (met_zero _) (p : Int) (wf_in (by omega) (by omega))
      obtain ⟨w5, hup, hI5, hg5⟩ := hI4.update (t := 58) Tryz.underlying58 Tryz.underlying3 Tryz.underlying3 (by unfold maxLen; omega) (p : Int) (v + 1) (wf_in (by omega) (by omega)) (wf_in (by omega) (by omega))
      rw [hv] at hlk
      rw [show ((v + 1 : Nat) : Int) = (v : Int) + 1 by omega] at hup
      have hI6 : Hid (IMap Tryz.prog 3 3 b (k + 1) (fH l (k + 1)) w5) := hI5.congr (fun x => by rw [HF.out x, hv])
      have hK5 : Hid (Keep NoB w w5) := hK4.grown hg5 (fun g e h => by cases e; omega)
      have r5 : Hid (Rd w5 (some ⟨g, off, none⟩) (ivs (hzs l))) := rd_map r4 hg5 hI4.obj
      clear hI hK r3 hI4 hI5 HSk hv HF hK4 r4 k4 c0
      go_wp2
      go_loopw [11] (fun i wr => ∃ j : Nat, p ≤ j ∧ j + 1 ≤ q ∧ i = .int .i64 (j : Int) ∧ IMap Tryz.prog 3 3 b (k + 1) (fH l (k + 1)) wr ∧ Keep NoB w wr ∧ Rd wr (some ⟨g, off, none⟩) (ivs (hzs l))) (fun i _ => q - (intOf i).toNat)
      case atStart => exact ⟨p, Nat.le_refl _, by omega, rfl, hI6.out, hK5.out, r5.out⟩
      case round =>
        clear hI6 hK5 r5 hlk hup hg5 dq1 dq2 dq3 dq4
        obtain ⟨j, hpj, hjq, rfl, hI, hK, r3⟩ := hrel
        by_cases hj2 : j + 1 < q
        · have hjl : j < l.length := by rw [hn.out]; omega
          have hdec : decide ((j : Int) < (q : Int) - 1) = true := by rw [decide_eq_true_iff]; omega
          have hrn := hr.out.keepN hK
          obtain ⟨g2, off2, rfl, hc⟩ := rdJ_at hrn (by omega)
          obtain ⟨d0, d1, d2⟩ := hc j hjl
          obtain ⟨n1, n2⟩ := HI.out j (by rw [hp]; exact hpj) (by rw [HQ.out]; exact hj2)
          clear hc hrn
          generalize l[j] = x at d0 d1 d2 n1 n2
          obtain ⟨op, a, b1⟩ := x
          dsimp only at d0 d1 d2
          have HGo := Lib.hid (fun w => goes_gen op a b1 _ false w rfl n1)
          have HEn := Lib.hid (fun w => ends_gen op a b1 false w n2)
          generalize goesN op a b1 = to at HGo
          clear n1 n2
          go_wp2_with fail
          refine (HGo.out _).mono ?_
          rintro e w6 ⟨rfl, k6⟩
          replace d0 := k6.cell d0 id
          replace d1 := k6.cell d1 id
          replace d2 := k6.cell d2 id
          go_wp2_with fail
          refine (HEn.out _).mono ?_
          rintro e w7 ⟨rfl, k7⟩
          have k67 := keepN k6 k7
          clear d0 d1 d2 k6 k7
          go_wp2
          go_roundw
          case rel => exact ⟨j + 1, by omega, by omega, by go_num, hI.keep k67 id, keepN hK k67, r3.keepN k67⟩
          case measure => simp [intOf]; omega
        · have hdec : decide ((j : Int) < (q : Int) - 1) = false := by rw [decide_eq_false_iff_not]; omega
          go_wp2
          go_roundw
          case rel => exact ⟨k + 1, by omega, by go_num, by rw [HQ.out], hI, hK, r3⟩
          case measure => simp [intOf]; omega
    · have hkN : k = N := by omega
      have hpn : posH l k = n := by rw [hkN, ← HN.out, posH_end, hn.out]
      have hFN : Hid (∀ x ∈ l, gB x = true → fH l k (gN x) = 1) := fun x hx hg => by rw [hkN, ← HN.out]; exact fH_end hok.out hx hg
      rw [hpn]
      clear hpn hkN r3
      go_wp2
      go_loopw [96] (fun i wr => ∃ j : Nat, j ≤ n ∧ i = .int .i64 (j : Int) ∧ IMap Tryz.prog 3 3 b k (fH l k) wr ∧ Keep NoB w wr) (fun i _ => n - (intOf i).toNat)
      case atStart => exact ⟨0, Nat.zero_le _, rfl, hI, hK⟩
      case round =>
        clear hI hK
        obtain ⟨j, hj, rfl, hI, hK⟩ := hrel
        by_cases hlj : j < n
        · have hjl : j < l.length := by rw [hn.out]; exact hlj
          obtain ⟨g2, off2, rfl, hc⟩ := rdJ_at (hr.out.keepN hK) (by omega)
          obtain ⟨d0, d1, d2⟩ := hc j hjl
          have h1 := hFN.out l[j] (List.getElem_mem hjl)
          have hgn := gN_in l[j]
          clear hc
          generalize l[j] = x at d0 d1 d2 h1 hgn
          obtain ⟨op, a, b1⟩ := x
          dsimp only at d0 d1 d2
          have k5 := hK.alloc (.cells #[.int .i64 op, .int .i64 a, .int .i64 b1] 46)
          have hI5 := hI.keep ((Keep.refl NoB wr).alloc (.cells #[.int .i64 op, .int .i64 a, .int .i64 b1] 46)) id
          obtain ⟨to, hto⟩ : ∃ to, goesN op a b1 = to := ⟨_, rfl⟩
          have hto2 : gN (op, a, b1) = to := hto
          rw [hto2] at h1 hgn
          cases hg : goesI op a b1
          · have HGo := Lib.hid (fun w => goes_gen op a b1 to false w hto hg)
            clear h1 hg hto hto2 hI
            go_wp2_with fail
            refine (HGo.out _).mono ?_
            rintro e w6 ⟨rfl, k6⟩
            go_wp2
            go_roundw
            case rel => exact ⟨j + 1, by omega, by go_num, hI5.keep k6 id, keepN k5 k6⟩
            case measure => simp [intOf]; omega
          · have HGo := Lib.hid (fun w => goes_gen op a b1 to true w hto hg)
            have hv1 := h1 hg
            clear h1 hg hto hto2 hI
            go_wp2_with fail
            refine (HGo.out _).mono ?_
            rintro e w6 ⟨rfl, k6⟩
            have hI6 := hI5.keep k6 id
            have hlk := hI6.look (t := 58) Tryz.underlying58 Tryz.underlying3 Tryz.underlying3 (met_zero _) to (wf_in (by omega) (by omega))
            rw [hv1] at hlk
            go_wp2
            go_roundw
            case rel => exact ⟨j + 1, by omega, by go_num, hI6, keepN k5 k6⟩
            case measure => simp [intOf]; omega
        · obtain rfl : j = n := by omega
          have qn : ((j : Int) == (j : Int)) = true := by simp
          go_wp2
          go_ret
          exact ⟨rfl, hK⟩

theorem cstretches_all (A : Option Addr) (l : List I3) (c : Nat) (w : World) (hL : LaidO w) (hC : CutAt w) (hr : Rd w A (iis l)) :
    Calls Tryz.prog 6 #[.slice A l.length c] w fun e w' => e = .returned (.bool true) ∧ Keep NoB w w' := by
  by_cases h : 100 < l.length
  · exact cstretches_big A l.length c w hL hC h
  · cases ho : okB l
    · exact cstretches_no A l l.length c w hL hC hr rfl (by omega) ho
    · exact cstretches_yes A l l.length c w hL hC hr rfl (by omega) ho

end Go.Proofs.YtonpplpfipfnfaaGreatDoor.C
