/-
  What the document's gone, Insert and Delete of layer code answer. Conditions: the list lies in memory; numbers fit an int64.
  CodePlaces' walk: heads, stretches, what is put in and taken out, and counts are the document's. Conditions: the list lies in memory; numbers fit an int64.
  What the rows of opcode share: the condition on the listed package-level variables, opened; an instruction as an argument. No conditions.
  An argument that is a list of instructions, opened: an address from which its cells stand; its numbers fit. No conditions.
  Words for memory that the walks of vary share: what a step keeps (Keep), a slice of bytes that reads as a list (Rd), one that the call owns (OwnB), and append of the one onto the other. No conditions.
  An argument that is a slice of bytes, opened: an address from which a list of bytes stands. No conditions.
  What the rows of opcode share where strings.Cut is called, or bytes come in: the wrap that keeps the world's shape beside the laid variables. No conditions.
-/
import Derived.BigQuiet
import Derived.ChangeSame
import Derived.Deep.AppendLies
import Derived.Deep.Draws
import Derived.Deep.Fields
import Derived.Deep.QuietTactic
import Derived.Deep.RegionHeld3
import Derived.Deep.RegionLaw
import Derived.Deep.Slices
import Derived.Deep.Strs
import Derived.HandedShaped
import Derived.LaidLaws
import Derived.LaidMore
import Derived.Lib.LaidTab
import Derived.Lib.SmallJoins
import Derived.Maps.AppendAt
import Derived.OpenShut
import Derived.ProofKit
import Derived.Shelf.Vars
import Derived.SizedLaws
import Derived.Stop.LaidErr
import Derived.Test.YtonpplpfipfnfaaDoorQ5
import Derived.Test.YtonpplpfipfnfaaDoorQ7
import Derived.Test.YtonpplpfipfnfaaDoorQ4
import Derived.Test.YtonpplpfipfnfaaDoorQ6
import Derived.Test.YtonpplpfipfnfaaDoorRows
import Derived.Test.YtonpplpfipfnfaaDoorQ1
import Derived.Test.YtonpplpfipfnfaaDoorQ2
namespace Go.Proofs.YtonpplpfipfnfaaDoor.C
open Go.RowKit O

set_option maxRecDepth 100000 in
set_option maxHeartbeats 2000000 in
theorem rgone_any (op a b p b1 : Int) (w : World) (r : I3) (hr : gone p b1 (op, a, b) = r) (ha : O.I64 a) (hb : O.I64 b) (hb1 : -1 ≤ b1) (hb2 : b1 ≤ 1) :
    Calls Tryd.prog 22 #[instV op a b, .int .i64 p, .int .i64 b1] w fun e w' => e = .returned (instV r.1 r.2.1 r.2.2) ∧ Keep NoB w w' := by
  obtain ⟨to, hto⟩ : ∃ to, goesN op a b = to := ⟨_, rfl⟩
  obtain ⟨t, htt⟩ : ∃ t, goesI op a b = t := ⟨_, rfl⟩
  have HG := Lib.hid (fun w => rgoes_gen op a b to t w hto htt ha hb)
  have bx := (Blk.new w 24 #[.int .i64 op, .int .i64 a, .int .i64 b]).alloc (.cells #[.int .i64 0, .int .i64 0, .int .i64 0] 24)
  have bz := Blk.new (w.alloc (.cells #[.int .i64 op, .int .i64 a, .int .i64 b] 24)) 24 #[.int .i64 0, .int .i64 0, .int .i64 0]
  rw [World.size_alloc] at bz
  have gK := ((Keep.refl NoB w).alloc (.cells #[.int .i64 op, .int .i64 a, .int .i64 b] 24)).alloc (.cells #[.int .i64 0, .int .i64 0, .int .i64 0] 24)
  by_cases hg : t = true ∧ p < to
  · obtain ⟨rfl, hp⟩ := hg
    have hta : to = a := by rw [← hto]; exact gN_yes (x := (op, a, b)) htt
    subst hta
    have hin := gB_in (x := (op, to, b)) htt
    dsimp only at hin
    obtain rfl : (op, to + b1, b) = r := by rw [← hr, gone_yes (x := (op, to, b)) htt (by rw [gN_yes (x := (op, to, b)) htt]; exact hp)]
    have hp2 : decide (p < to) = true := by rw [decide_eq_true_iff]; exact hp
    clear hr hto htt ha hb hp
    go_enter Tryd.func22, Tryd.ntmps22
    go_wp2_with fail
    refine (HG.out _).mono ?_
    rintro e w1 ⟨rfl, k1⟩
    replace bx := bx.keep k1 id
    replace bz := bz.keep k1 id
    replace gK := keepN gK k1
    obtain ⟨x0, x1, x2⟩ := blk3 bx
    obtain ⟨z0, z1, z2⟩ := blk3 bz
    have f0 := fun i => bx.frozen i
    have f1 := fun i => bz.frozen i
    go_wp2
    exact bodyPost_ret (v := instV op (to + b1) b) (by simp [results, Tryd.results22, go_sem, z0, z1, z2]) rfl ⟨rfl, (((gK.setCell (fun h => by simp at h) _).setCell (fun h => by simp at h; omega) _).setCell (fun h => by simp at h; omega) _).setCell (fun h => by simp at h; omega) _⟩
  · obtain rfl : (op, a, b) = r := by
      rw [← hr, gone_no]
      rintro ⟨h1, h2⟩
      exact hg ⟨by rw [← htt]; exact h1, by rw [← hto]; exact h2⟩
    cases t
    · clear hr hto htt ha hb hg
      go_enter Tryd.func22, Tryd.ntmps22
      go_wp2_with fail
      refine (HG.out _).mono ?_
      rintro e w1 ⟨rfl, k1⟩
      replace bx := bx.keep k1 id
      replace bz := bz.keep k1 id
      replace gK := keepN gK k1
      obtain ⟨x0, x1, x2⟩ := blk3 bx
      obtain ⟨z0, z1, z2⟩ := blk3 bz
      have f1 := fun i => bz.frozen i
      go_wp2
      exact bodyPost_ret (v := instV op a b) (by simp [results, Tryd.results22, go_sem, z0, z1, z2]) rfl ⟨rfl, ((gK.setCell (fun h => by simp at h; omega) _).setCell (fun h => by simp at h; omega) _).setCell (fun h => by simp at h; omega) _⟩
    · have hp2 : decide (p < to) = false := by rw [decide_eq_false_iff_not]; exact fun h => hg ⟨rfl, h⟩
      clear hr hto htt ha hb hg
      go_enter Tryd.func22, Tryd.ntmps22
      go_wp2_with fail
      refine (HG.out _).mono ?_
      rintro e w1 ⟨rfl, k1⟩
      replace bx := bx.keep k1 id
      replace bz := bz.keep k1 id
      replace gK := keepN gK k1
      obtain ⟨x0, x1, x2⟩ := blk3 bx
      obtain ⟨z0, z1, z2⟩ := blk3 bz
      have f1 := fun i => bz.frozen i
      go_wp2
      exact bodyPost_ret (v := instV op a b) (by simp [results, Tryd.results22, go_sem, z0, z1, z2]) rfl ⟨rfl, ((gK.setCell (fun h => by simp at h; omega) _).setCell (fun h => by simp at h; omega) _).setCell (fun h => by simp at h; omega) _⟩


/-- The lists as they grow, place by place. -/
def insU (l : List I3) (p : Nat) (x : I3) : Nat → List I3
  | 0 => []
  | k + 1 => insU l p x k ++ ((if k = p then [x] else []) ++ [gone p 1 (at0 l k)])
def delU (l : List I3) (p : Nat) : Nat → List I3
  | 0 => []
  | k + 1 => delU l p k ++ if k = p then [] else [gone p (-1) (at0 l k)]
theorem take_map_succ {l : List I3} {k : Nat} (h : k < l.length) (f : I3 → I3) : (l.take (k + 1)).map f = (l.take k).map f ++ [f (at0 l k)] := by
  rw [List.take_succ_eq_append_getElem h, List.map_append, at0_of h]; rfl
theorem take_drop_succ {l : List I3} {k p : Nat} (h : k < l.length) (hp : p ≤ k) (f : I3 → I3) : ((l.take (k + 1)).drop p).map f = ((l.take k).drop p).map f ++ [f (at0 l k)] := by
  rw [List.take_succ_eq_append_getElem h, List.drop_append_of_le_length (by simp; omega), List.map_append, at0_of h]; rfl
theorem insU_low {l : List I3} {p : Nat} {x : I3} : ∀ k, k ≤ p → k ≤ l.length → insU l p x k = (l.take k).map (gone p 1)
  | 0, _, _ => by simp [insU]
  | k + 1, h1, h2 => by rw [insU, insU_low k (by omega) (by omega), if_neg (by omega), take_map_succ (by omega)]; rfl
theorem insU_high {l : List I3} {p : Nat} {x : I3} : ∀ k, p < k → k ≤ l.length → insU l p x k = (l.take p).map (gone p 1) ++ x :: ((l.take k).drop p).map (gone p 1)
  | 0, h1, _ => by omega
  | k + 1, h1, h2 => by
    by_cases e : k = p
    · subst e
      rw [insU, insU_low k (Nat.le_refl _) (by omega), if_pos rfl, take_drop_succ (by omega) (Nat.le_refl _), List.drop_of_length_le (by simp; omega)]; rfl
    · rw [insU, insU_high k (by omega) (by omega), if_neg e, take_drop_succ (by omega) (by omega)]; simp
theorem insU_all {l : List I3} {p : Nat} {x : I3} (h : p < l.length) : insU l p x l.length = insL l p x := by
  rw [insU_high _ h (Nat.le_refl _), List.take_length]; rfl
theorem delU_low {l : List I3} {p : Nat} : ∀ k, k ≤ p → k ≤ l.length → delU l p k = (l.take k).map (gone p (-1))
  | 0, _, _ => by simp [delU]
  | k + 1, h1, h2 => by rw [delU, delU_low k (by omega) (by omega), if_neg (by omega), take_map_succ (by omega)]
theorem delU_high {l : List I3} {p : Nat} : ∀ k, p < k → k ≤ l.length → delU l p k = (l.take p).map (gone p (-1)) ++ ((l.take k).drop (p + 1)).map (gone p (-1))
  | 0, h1, _ => by omega
  | k + 1, h1, h2 => by
    by_cases e : k = p
    · subst e
      rw [delU, delU_low k (Nat.le_refl _) (by omega), if_pos rfl, List.drop_of_length_le (by simp; omega)]; simp
    · rw [delU, delU_high k (by omega) (by omega), if_neg e, take_drop_succ (by omega) (by omega)]; simp
theorem delU_all {l : List I3} {p : Nat} (h : p < l.length) : delU l p l.length = delL l p := by
  rw [delU_high _ h (Nat.le_refl _), List.take_length]; rfl
theorem gone_I {x : I3} {p b1 : Int} (h : O.I64 x.2.1 ∧ O.I64 x.2.2) (hb1 : -1 ≤ b1) (hb2 : b1 ≤ 1) : O.I64 (gone p b1 x).2.1 ∧ O.I64 (gone p b1 x).2.2 := by
  unfold gone
  split
  · next hh =>
    have := gB_in hh.1
    refine ⟨?_, h.2⟩
    show O.I64 (x.2.1 + b1)
    unfold O.I64; omega
  · exact h
theorem insL_I {l : List I3} {k : Nat} {x : I3} (h : AllI l) (hx : O.I64 x.2.1 ∧ O.I64 x.2.2) : AllI (insL l k x) := by
  intro y hy
  unfold insL at hy
  rcases List.mem_append.1 hy with h1 | h1
  · obtain ⟨z, hz, rfl⟩ := List.mem_map.1 h1
    exact gone_I (h z (List.mem_of_mem_take hz)) (by decide) (by decide)
  · rcases List.mem_cons.1 h1 with rfl | h1
    · exact hx
    · obtain ⟨z, hz, rfl⟩ := List.mem_map.1 h1
      exact gone_I (h z (List.mem_of_mem_drop hz)) (by decide) (by decide)
theorem delL_I {l : List I3} {k : Nat} (h : AllI l) : AllI (delL l k) := by
  intro y hy
  unfold delL at hy
  rcases List.mem_append.1 hy with h1 | h1
  · obtain ⟨z, hz, rfl⟩ := List.mem_map.1 h1
    exact gone_I (h z (List.mem_of_mem_take hz)) (by decide) (by decide)
  · obtain ⟨z, hz, rfl⟩ := List.mem_map.1 h1
    exact gone_I (h z (List.mem_of_mem_drop hz)) (by decide) (by decide)
theorem own_read {w : World} {O : Nat → Prop} {A : Option Addr} {n c : Nat} {m : List I3} (h : Own w 24 3 O (.slice A n c) n (iis m)) : Rd w A (iis m) := by
  obtain ⟨A', c', e, _, _, hr, _⟩ := h.form
  cases e; exact hr
theorem own_len {w : World} {O : Nat → Prop} {v : Value} {n : Nat} {m : List I3} (h : Own w 24 3 O v n (iis m)) : m.length = n := by
  have := h.1.1
  rw [iis_length] at this
  omega

theorem insU_le (l : List I3) (p : Nat) (x : I3) : ∀ k, (insU l p x k).length ≤ 2 * k
  | 0 => Nat.le_refl _
  | k + 1 => by
    have := insU_le l p x k
    rw [insU, List.length_append, List.length_append]
    have h1 : (if k = p then [x] else []).length ≤ 1 := by split <;> simp
    simp only [List.length_cons, List.length_nil]
    omega
theorem delU_le (l : List I3) (p : Nat) : ∀ k, (delU l p k).length ≤ k
  | 0 => Nat.le_refl _
  | k + 1 => by
    have := delU_le l p k
    rw [delU, List.length_append]
    have h1 : (if k = p then [] else [gone p (-1) (at0 l k)]).length ≤ 1 := by split <;> simp
    omega

set_option maxRecDepth 100000 in
set_option maxHeartbeats 4000000 in
theorem rinsert_any (A : Option Addr) (l : List I3) (n c : Nat) (p op a b : Int) (w : World) (hr : Rd w A (iis l)) (hn : Hid (l.length = n)) (hI : Hid (AllI l)) (hx : Hid (O.I64 a ∧ O.I64 b)) (hm : n ≤ 9223372036854775807) :
    Calls Tryd.prog 7 #[.slice A n c, .int .i64 p, instV op a b] w (LstR w (insG l p (op, a, b)) (insE l p (op, a, b))) := by
  have no_ : hasB l p = false → insG l p (op, a, b) = [] ∧ insE l p (op, a, b) = 50 := fun h => ⟨by unfold insG; rw [h, if_neg (by simp)], by unfold insE; rw [h, if_neg (by simp)]⟩
  have hR := Lib.hid (hr.keepN ((Keep.refl NoB w).alloc (.cells #[.int .i64 op, .int .i64 a, .int .i64 b] 24)))
  have K0 := (Keep.refl NoB w).alloc (.cells #[.int .i64 op, .int .i64 a, .int .i64 b] 24)
  cases ho : okB l
  · obtain ⟨e1, e2⟩ := no_ (by unfold hasB; rw [ho]; simp)
    rw [e1, e2]
    have HC := Lib.hid (fun w hr => rcchk_any A l n c w hr hn hI hm 50 (chkB_no ho))
    clear ho e1 e2 no_ hr
    go_enter Tryd.func7, Tryd.ntmps7
    go_wp2_with (go_at_call 17; refine (HC.out _ hR.out).mono ?_; rintro e w1 ⟨rfl, k1⟩)
    go_ret2
    exact lstR_none (keepN K0 k1)
  obtain ⟨h1, h5, _, _⟩ := okB_parts ho
  rw [hn.out] at h1 h5
  have HC := Lib.hid (fun w hr => rcchk_any A l n c w hr hn hI hm 0 (chkB_ok ho))
  by_cases hx0 : 0 ≤ p
  · have q0 : decide (p < 0) = false := by rw [decide_eq_false_iff_not]; omega
    by_cases hx1 : p < (n : Int)
    · obtain ⟨k, rfl⟩ : ∃ k : Nat, p = (k : Int) := ⟨p.toNat, by omega⟩
      have hk : k < n := by omega
      have q1 : decide ((n : Int) ≤ (k : Int)) = false := by rw [decide_eq_false_iff_not]; omega
      have q2 : ¬ ((n : Int) ≤ (k : Int)) := by omega
      have q3 : ¬ n ≤ k := by omega
      have hb : hasB l (k : Int) = true := by unfold hasB; rw [ho, decide_eq_true (by rw [hn.out]; omega)]; rfl
      obtain ⟨m, hmm⟩ : ∃ m, insL l k (op, a, b) = m := ⟨_, rfl⟩
      obtain ⟨e1, e2⟩ := insert_pick (l := l) (p := (k : Int)) (x := (op, a, b)) (m := m) hb (by rw [Int.toNat_natCast]; exact hmm)
      rw [e1, e2]
      have hmI : Hid (AllI m) := by rw [← hmm]; exact insL_I hI.out hx.out
      have hmU : Hid (insU l k (op, a, b) n = m) := by show _ = _; rw [← hn.out, ← hmm]; exact insU_all (by rw [hn.out]; exact hk)
      obtain ⟨i0, hi, hz0, hz1, hz2⟩ := info_parts instr_info
      have bx := Blk.new w 24 #[.int .i64 op, .int .i64 a, .int .i64 b]
      clear ho hb hmm e1 e2 no_ hx0 hx1 hr
      go_enter Tryd.func7, Tryd.ntmps7
      go_wp2_with (go_at_call 17; refine (HC.out _ hR.out).mono ?_; rintro e w1 ⟨rfl, k1⟩)
      have hR1 := Lib.hid (hR.out.keepN k1)
      have gK := keepN K0 k1
      have bx1 := bx.keep k1 id
      clear HC hR K0 bx k1
      go_loopw [8, 9] (fun v i wr => ∃ j : Nat, j ≤ n ∧ i = .int .i64 j ∧ (∃ B d, v = .slice B (insU l k (op, a, b) j).length d ∧ Own wr 24 3 (Fresh w1) (.slice B (insU l k (op, a, b) j).length d) (insU l k (op, a, b) j).length (iis (insU l k (op, a, b) j))) ∧ Keep NoB w1 wr) (fun _ i _ => n - (intOf i).toNat)
      case atStart => exact ⟨0, Nat.zero_le _, rfl, ⟨none, 0, rfl, Own.nil _ _ _ _⟩, Keep.refl _ _⟩
      case round =>
        obtain ⟨j, hj, rfl, ⟨B, d, rfl, hO⟩, hK⟩ := hrel
        by_cases hlt : j < n
        · have hjl : j < l.length := by rw [hn.out]; exact hlt
          obtain ⟨g, off, rfl, hc⟩ := rdJ_at hR1.out (by omega)
          obtain ⟨d0, d1, d2⟩ := hc j hjl
          have hab := hI.out l[j] (List.getElem_mem hjl)
          have hx3 : Hid (at0 l j = l[j]) := at0_of hjl
          have hS : Hid (insU l k (op, a, b) (j + 1) = insU l k (op, a, b) j ++ ((if j = k then [(op, a, b)] else []) ++ [gone k 1 (at0 l j)])) := by show _ = _; rw [insU]
          clear hc
          generalize l[j] = x at d0 d1 d2 hab hx3
          obtain ⟨o1, a1, b1⟩ := x
          dsimp only at d0 d1 d2 hab
          rw [hx3.out] at hS
          obtain ⟨r, hr1⟩ : ∃ r, gone (k : Int) 1 (o1, a1, b1) = r := ⟨_, rfl⟩
          have HG := Lib.hid (fun w => rgone_any o1 a1 b1 k 1 w r hr1 hab.1 hab.2 (by decide) (by decide))
          rw [hr1] at hS
          obtain ⟨ro, ra, rb⟩ := r
          dsimp only at HG
          obtain ⟨q, hq⟩ : ∃ q, (insU l k (op, a, b) j).length = q := ⟨_, rfl⟩
          have hle : q ≤ 2 * j := by rw [← hq]; exact insU_le l k (op, a, b) j
          rw [hq] at hO ⊢
          have HL : Hid (∀ z, (insU l k (op, a, b) (j + 1)).length = z → z = q + ((if j = k then 1 else 0) + 1)) := fun z h => by rw [← h, hS.out, List.length_append, hq]; split <;> simp
          clear hr1 hab hq
          have c0 := hK.cell d0 id
          have c1 := hK.cell d1 id
          have c2 := hK.cell d2 id
          by_cases hjk : j = k
          · subst hjk
            have HS : Hid (iis (insU l j (op, a, b) (j + 1)) = (iis (insU l j (op, a, b) j) ++ [.int .i64 op, .int .i64 a, .int .i64 b]) ++ [.int .i64 ro, .int .i64 ra, .int .i64 rb]) := by show _ = _; rw [hS.out, if_pos rfl, iis_append]; simp [iis]
            have HL2 := Lib.hid (HL.out _ rfl)
            rw [if_pos rfl] at HL2
            have hq2 : ((j : Int) == (j : Int)) = true := by simp
            obtain ⟨x0, x1, x2⟩ := blk3 (bx1.keep hK id)
            clear hS HL c0 c1 c2
            go_wp2_with (at_builtin; refine wpList_append_rd _ rfl (.tmp 32) (.tmp 34) _ rfl 24 3 24 i0 _ Tryd.underlying22 hi hz0 hz1 hz2 rfl (by decide) _ q _ _ 1 _ [.int .i64 op, .int .i64 a, .int .i64 b] rfl (hO.1.alloc _) rfl (W.rd_made (by simp) rfl) rfl (by simp [Value.oneCell']) (by unfold maxLen; omega) (by omega) ?_; intro B2 dd2 w3 hrow3 hg3 hv3; obtain ⟨hO3, hK3⟩ := W.own_after hO.2 (hK.alloc _) hg3 hv3 hrow3; clear hrow3 hg3 hv3; have c0 := hK3.cell d0 id; have c1 := hK3.cell d1 id; have c2 := hK3.cell d2 id)
            refine (HG.out _).mono ?_
            rintro e w4 ⟨rfl, k4⟩
            have hO4 := hO3.keepN k4
            have hK4 := keepN hK3 k4
            clear hO hK hO3 hK3 k4 c0 c1 c2 x0 x1 x2
            go_wp2_with (at_builtin; refine wpList_append_rd _ rfl (.tmp 36) (.tmp 43) _ rfl 24 3 24 i0 _ Tryd.underlying22 hi hz0 hz1 hz2 rfl (by decide) _ (q + 1) _ _ 1 _ [.int .i64 ro, .int .i64 ra, .int .i64 rb] rfl (hO4.1.alloc _) rfl (W.rd_made (by simp) rfl) rfl (by simp [Value.oneCell']) (by unfold maxLen; omega) (by omega) ?_; intro B5 d5 w5 hrow5 hg5 hv5; obtain ⟨hO5, hK5⟩ := W.own_after hO4.2 (hK4.alloc _) hg5 hv5 hrow5; clear hrow5 hg5 hv5)
            go_roundw
            case rel => exact ⟨j + 1, by omega, by go_num, ⟨B5, d5, by rw [HL2.out], by rw [HL2.out, HS.out]; exact hO5⟩, hK5⟩
            case measure => simp [intOf]; omega
          · have hq2 : ((j : Int) == (k : Int)) = false := by rw [beq_eq_false_iff_ne]; omega
            have HS : Hid (iis (insU l k (op, a, b) (j + 1)) = iis (insU l k (op, a, b) j) ++ [.int .i64 ro, .int .i64 ra, .int .i64 rb]) := by show _ = _; rw [hS.out, if_neg hjk, iis_append]; rfl
            have HL2 := Lib.hid (HL.out _ rfl)
            rw [if_neg hjk] at HL2
            clear hS HL hjk
            go_wp2_with fail
            refine (HG.out _).mono ?_
            rintro e w4 ⟨rfl, k4⟩
            have hO4 := hO.keepN k4
            have hK4 := keepN hK k4
            clear hO hK k4 c0 c1 c2
            go_wp2_with (at_builtin; refine wpList_append_rd _ rfl (.tmp 36) (.tmp 43) _ rfl 24 3 24 i0 _ Tryd.underlying22 hi hz0 hz1 hz2 rfl (by decide) _ q _ _ 1 _ [.int .i64 ro, .int .i64 ra, .int .i64 rb] rfl (hO4.1.alloc _) rfl (W.rd_made (by simp) rfl) rfl (by simp [Value.oneCell']) (by unfold maxLen; omega) (by omega) ?_; intro B5 d5 w5 hrow5 hg5 hv5; obtain ⟨hO5, hK5⟩ := W.own_after hO4.2 (hK4.alloc _) hg5 hv5 hrow5; clear hrow5 hg5 hv5)
            go_roundw
            case rel => exact ⟨j + 1, by omega, by go_num, ⟨B5, d5, by rw [HL2.out], by rw [HL2.out, HS.out]; exact hO5⟩, hK5⟩
            case measure => simp [intOf]; omega
        · obtain rfl : j = n := by omega
          rw [hmU.out] at hO ⊢
          obtain ⟨q, hq⟩ : ∃ q, m.length = q := ⟨_, rfl⟩
          have hml := Lib.hid hq
          have hqm : q ≤ 9223372036854775807 := by
            have := congrArg List.length hmU.out
            have h2 := insU_le l k (op, a, b) j
            rw [this, hq] at h2; omega
          rw [hq] at hO ⊢
          have hrd := own_read hO
          have hO2 := hO.mono (O' := Fresh w) (fun k h _ => Nat.le_trans gK.size h)
          have gK2 := keepN gK hK
          clear hq
          cases hok : okB m
          · have HC2 := Lib.hid (fun w h => rcchk_any B m q d w h hml hmI hqm 50 (chkB_no hok))
            have e3 : pickL m = [] ∧ chkB m = 50 := ⟨pickL_no hok, chkB_no hok⟩
            have HE := Lib.hid e3
            clear e3 hok
            go_wp2_with (go_at_call 17; refine (HC2.out _ hrd).mono ?_; rintro e w4 ⟨rfl, k4⟩)
            go_ret2
            rw [HE.out.1, HE.out.2]
            exact lstR_none (keepN gK2 k4)
          · have HC2 := Lib.hid (fun w h => rcchk_any B m q d w h hml hmI hqm 0 (chkB_ok hok))
            have e3 : pickL m = m ∧ chkB m = 0 := ⟨pickL_ok hok, chkB_ok hok⟩
            have HE := Lib.hid e3
            clear e3 hok
            go_wp2_with (go_at_call 17; refine (HC2.out _ hrd).mono ?_; rintro e w4 ⟨rfl, k4⟩)
            go_ret2
            rw [HE.out.1, HE.out.2]
            exact ⟨_, rfl, by rw [hml.out]; exact hO2.keepN k4, keepN gK2 k4⟩
    · obtain ⟨e1, e2⟩ := no_ (by unfold hasB; rw [decide_eq_false (by rw [hn.out]; omega)]; rfl)
      rw [e1, e2]
      have q1 : decide ((n : Int) ≤ p) = true := by rw [decide_eq_true_iff]; omega
      clear ho e1 e2 no_ hr hx0 hx1
      go_enter Tryd.func7, Tryd.ntmps7
      go_wp2_with (go_at_call 17; refine (HC.out _ hR.out).mono ?_; rintro e w1 ⟨rfl, k1⟩)
      go_ret2
      exact lstR_none (keepN K0 k1)
  · obtain ⟨e1, e2⟩ := no_ (by unfold hasB; rw [decide_eq_false (by omega)]; rfl)
    rw [e1, e2]
    have q0 : decide (p < 0) = true := by rw [decide_eq_true_iff]; omega
    clear ho e1 e2 no_ hr hx0
    go_enter Tryd.func7, Tryd.ntmps7
    go_wp2_with (go_at_call 17; refine (HC.out _ hR.out).mono ?_; rintro e w1 ⟨rfl, k1⟩)
    go_ret2
    exact lstR_none (keepN K0 k1)

set_option maxRecDepth 100000 in
set_option maxHeartbeats 4000000 in
theorem rdelete_any (A : Option Addr) (l : List I3) (n c : Nat) (p : Int) (w : World) (hr : Rd w A (iis l)) (hn : Hid (l.length = n)) (hI : Hid (AllI l)) (hm : n ≤ 9223372036854775807) :
    Calls Tryd.prog 9 #[.slice A n c, .int .i64 p] w (LstR w (delG l p) (delE l p)) := by
  have no_ : hasB l p = false → delG l p = [] ∧ delE l p = 50 := fun h => ⟨by unfold delG; rw [h, if_neg (by simp)], by unfold delE; rw [h, if_neg (by simp)]⟩
  have hR := Lib.hid hr
  cases ho : okB l
  · obtain ⟨e1, e2⟩ := no_ (by unfold hasB; rw [ho]; simp)
    rw [e1, e2]
    have HC := Lib.hid (fun w hr => rcchk_any A l n c w hr hn hI hm 50 (chkB_no ho))
    clear ho e1 e2 no_ hr
    go_enter Tryd.func9, Tryd.ntmps9
    go_wp2_with (go_at_call 17; refine (HC.out _ hR.out).mono ?_; rintro e w1 ⟨rfl, k1⟩)
    go_ret2
    exact lstR_none k1
  obtain ⟨h1, h5, _, _⟩ := okB_parts ho
  rw [hn.out] at h1 h5
  have HC := Lib.hid (fun w hr => rcchk_any A l n c w hr hn hI hm 0 (chkB_ok ho))
  by_cases hx0 : 0 ≤ p
  · have q0 : decide (p < 0) = false := by rw [decide_eq_false_iff_not]; omega
    by_cases hx1 : p < (n : Int)
    · obtain ⟨k, rfl⟩ : ∃ k : Nat, p = (k : Int) := ⟨p.toNat, by omega⟩
      have hk : k < n := by omega
      have q1 : decide ((n : Int) ≤ (k : Int)) = false := by rw [decide_eq_false_iff_not]; omega
      have q2 : ¬ ((n : Int) ≤ (k : Int)) := by omega
      have q3 : ¬ n ≤ k := by omega
      have hb : hasB l (k : Int) = true := by unfold hasB; rw [ho, decide_eq_true (by rw [hn.out]; omega)]; rfl
      obtain ⟨m, hmm⟩ : ∃ m, delL l k = m := ⟨_, rfl⟩
      obtain ⟨e1, e2⟩ := delete_pick (l := l) (p := (k : Int)) (m := m) hb (by rw [Int.toNat_natCast]; exact hmm)
      rw [e1, e2]
      have hmI : Hid (AllI m) := by rw [← hmm]; exact delL_I hI.out
      have hmU : Hid (delU l k n = m) := by show _ = _; rw [← hn.out, ← hmm]; exact delU_all (by rw [hn.out]; exact hk)
      obtain ⟨i0, hi, hz0, hz1, hz2⟩ := info_parts instr_info
      clear ho hb hmm e1 e2 no_ hx0 hx1 hr
      go_enter Tryd.func9, Tryd.ntmps9
      go_wp2_with (go_at_call 17; refine (HC.out _ hR.out).mono ?_; rintro e w1 ⟨rfl, k1⟩)
      have hR1 := Lib.hid (hR.out.keepN k1)
      have gK := k1
      clear HC hR k1
      go_loopw [6, 7] (fun v i wr => ∃ j : Nat, j ≤ n ∧ i = .int .i64 j ∧ (∃ B d, v = .slice B (delU l k j).length d ∧ Own wr 24 3 (Fresh w1) (.slice B (delU l k j).length d) (delU l k j).length (iis (delU l k j))) ∧ Keep NoB w1 wr) (fun _ i _ => n - (intOf i).toNat)
      case atStart => exact ⟨0, Nat.zero_le _, rfl, ⟨none, 0, rfl, Own.nil _ _ _ _⟩, Keep.refl _ _⟩
      case round =>
        obtain ⟨j, hj, rfl, ⟨B, d, rfl, hO⟩, hK⟩ := hrel
        by_cases hlt : j < n
        · have hjl : j < l.length := by rw [hn.out]; exact hlt
          obtain ⟨g, off, rfl, hc⟩ := rdJ_at hR1.out (by omega)
          obtain ⟨d0, d1, d2⟩ := hc j hjl
          have hab := hI.out l[j] (List.getElem_mem hjl)
          have hx3 : Hid (at0 l j = l[j]) := at0_of hjl
          have hS : Hid (delU l k (j + 1) = delU l k j ++ if j = k then [] else [gone k (-1) (at0 l j)]) := by show _ = _; rw [delU]
          clear hc
          generalize l[j] = x at d0 d1 d2 hab hx3
          obtain ⟨o1, a1, b1⟩ := x
          dsimp only at d0 d1 d2 hab
          rw [hx3.out] at hS
          obtain ⟨r, hr1⟩ : ∃ r, gone (k : Int) (-1) (o1, a1, b1) = r := ⟨_, rfl⟩
          have HG := Lib.hid (fun w => rgone_any o1 a1 b1 k (-1) w r hr1 hab.1 hab.2 (by decide) (by decide))
          rw [hr1] at hS
          obtain ⟨ro, ra, rb⟩ := r
          dsimp only at HG
          obtain ⟨q, hq⟩ : ∃ q, (delU l k j).length = q := ⟨_, rfl⟩
          have hle : q ≤ j := by rw [← hq]; exact delU_le l k j
          rw [hq] at hO ⊢
          have HL : Hid (∀ z, (delU l k (j + 1)).length = z → z = q + (if j = k then 0 else 1)) := fun z h => by rw [← h, hS.out, List.length_append, hq]; split <;> simp
          clear hr1 hab hq
          have c0 := hK.cell d0 id
          have c1 := hK.cell d1 id
          have c2 := hK.cell d2 id
          by_cases hjk : j = k
          · subst hjk
            have HS : Hid (delU l j (j + 1) = delU l j j) := by show _ = _; rw [hS.out, if_pos rfl, List.append_nil]
            have HL2 := Lib.hid (HL.out _ rfl)
            rw [if_pos rfl] at HL2
            have hq2 : ((j : Int) != (j : Int)) = false := by simp
            clear hS HL c0 c1 c2
            go_wp2
            go_roundw
            case rel => exact ⟨j + 1, by omega, by go_num, ⟨B, d, by rw [HL2.out]; rfl, by rw [HL2.out, HS.out]; exact hO⟩, hK⟩
            case measure => simp [intOf]; omega
          · have hq2 : ((j : Int) != (k : Int)) = true := by rw [bne_iff_ne]; omega
            have HS : Hid (iis (delU l k (j + 1)) = iis (delU l k j) ++ [.int .i64 ro, .int .i64 ra, .int .i64 rb]) := by show _ = _; rw [hS.out, if_neg hjk, iis_append]; rfl
            have HL2 := Lib.hid (HL.out _ rfl)
            rw [if_neg hjk] at HL2
            clear hS HL hjk
            go_wp2_with fail
            refine (HG.out _).mono ?_
            rintro e w4 ⟨rfl, k4⟩
            have hO4 := hO.keepN k4
            have hK4 := keepN hK k4
            clear hO hK k4 c0 c1 c2
            go_wp2_with (at_builtin; refine wpList_append_rd _ rfl (.tmp 30) (.tmp 37) _ rfl 24 3 24 i0 _ Tryd.underlying22 hi hz0 hz1 hz2 rfl (by decide) _ q _ _ 1 _ [.int .i64 ro, .int .i64 ra, .int .i64 rb] rfl (hO4.1.alloc _) rfl (W.rd_made (by simp) rfl) rfl (by simp [Value.oneCell']) (by unfold maxLen; omega) (by omega) ?_; intro B5 d5 w5 hrow5 hg5 hv5; obtain ⟨hO5, hK5⟩ := W.own_after hO4.2 (hK4.alloc _) hg5 hv5 hrow5; clear hrow5 hg5 hv5)
            go_roundw
            case rel => exact ⟨j + 1, by omega, by go_num, ⟨B5, d5, by rw [HL2.out], by rw [HL2.out, HS.out]; exact hO5⟩, hK5⟩
            case measure => simp [intOf]; omega
        · obtain rfl : j = n := by omega
          rw [hmU.out] at hO ⊢
          obtain ⟨q, hq⟩ : ∃ q, m.length = q := ⟨_, rfl⟩
          have hml := Lib.hid hq
          have hqm : q ≤ 9223372036854775807 := by
            have := congrArg List.length hmU.out
            have h2 := delU_le l k j
            rw [this, hq] at h2; omega
          rw [hq] at hO ⊢
          have hrd := own_read hO
          have hO2 := hO.mono (O' := Fresh w) (fun k h _ => Nat.le_trans gK.size h)
          have gK2 := keepN gK hK
          clear hq
          cases hok : okB m
          · have HC2 := Lib.hid (fun w h => rcchk_any B m q d w h hml hmI hqm 50 (chkB_no hok))
            have e3 : pickL m = [] ∧ chkB m = 50 := ⟨pickL_no hok, chkB_no hok⟩
            have HE := Lib.hid e3
            clear e3 hok
            go_wp2_with (go_at_call 17; refine (HC2.out _ hrd).mono ?_; rintro e w4 ⟨rfl, k4⟩)
            go_ret2
            rw [HE.out.1, HE.out.2]
            exact lstR_none (keepN gK2 k4)
          · have HC2 := Lib.hid (fun w h => rcchk_any B m q d w h hml hmI hqm 0 (chkB_ok hok))
            have e3 : pickL m = m ∧ chkB m = 0 := ⟨pickL_ok hok, chkB_ok hok⟩
            have HE := Lib.hid e3
            clear e3 hok
            go_wp2_with (go_at_call 17; refine (HC2.out _ hrd).mono ?_; rintro e w4 ⟨rfl, k4⟩)
            go_ret2
            rw [HE.out.1, HE.out.2]
            exact ⟨_, rfl, by rw [hml.out]; exact hO2.keepN k4, keepN gK2 k4⟩
    · obtain ⟨e1, e2⟩ := no_ (by unfold hasB; rw [decide_eq_false (by rw [hn.out]; omega)]; rfl)
      rw [e1, e2]
      have q1 : decide ((n : Int) ≤ p) = true := by rw [decide_eq_true_iff]; omega
      clear ho e1 e2 no_ hr hx0 hx1
      go_enter Tryd.func9, Tryd.ntmps9
      go_wp2_with (go_at_call 17; refine (HC.out _ hR.out).mono ?_; rintro e w1 ⟨rfl, k1⟩)
      go_ret2
      exact lstR_none k1
  · obtain ⟨e1, e2⟩ := no_ (by unfold hasB; rw [decide_eq_false (by omega)]; rfl)
    rw [e1, e2]
    have q0 : decide (p < 0) = true := by rw [decide_eq_true_iff]; omega
    clear ho e1 e2 no_ hr hx0
    go_enter Tryd.func9, Tryd.ntmps9
    go_wp2_with (go_at_call 17; refine (HC.out _ hR.out).mono ?_; rintro e w1 ⟨rfl, k1⟩)
    go_ret2
    exact lstR_none k1

end Go.Proofs.YtonpplpfipfnfaaDoor.C

namespace Go.Proofs.YtonpplpfipfnfaaDoor.C
open Go.RowKit O

theorem rd_far {w w' : World} {O : Nat → Prop} {A : Option Addr} {xs : List Value} (h : Rd w A xs) (hk : Keep O w w') (hO : ∀ k, O k → w.heap.size ≤ k) : Rd w' A xs := fun h0 => by
  obtain ⟨g, off, e, hc⟩ := h h0
  refine ⟨g, off, e, fun j u hu => hk.cell (hc j u hu) (fun ho => ?_)⟩
  have := World.block_lt_of_cell? w _ (hc j u hu)
  have := hO _ ho
  simp at *; omega
theorem own_empty {W : World} {E : TypeId} {size b : Nat} (hb : b = W.heap.size) : (W.alloc (.cells #[] E)).ownsRow 0 E size (.slice (some ⟨b, 0, none⟩) 0 0) 0 [] := by
  subst hb; exact World.ownsRow_made W #[] 0 (Nat.zero_le _) (Nat.zero_le _) (by simp)
/-- A row that may be written: its block, whole. -/
def Wipe (A : Option Addr) (m lo hi : Nat) (w : World) : Prop := 0 < m → ∃ g, A = some ⟨g, 0, none⟩ ∧ lo ≤ g ∧ g < hi ∧ ∃ cur, Blk w g 24 cur ∧ m * 3 ≤ cur.size
theorem wipe_of {w0 w : World} {A : Option Addr} {m c : Nat} {xs : List Value} (h : Own w 24 3 (Fresh w0) (.slice A m c) m xs) : Wipe A m w0.heap.size w.heap.size w := fun hm => by
  rcases h.1.2 with ⟨_, h0⟩ | ⟨g, cap, cur, e, _, hh, hc, _, hs, _⟩
  · omega
  · injection e with e1 _ e2
    refine ⟨g, e1, h.2 g (by rw [e1]; rfl), (Array.getElem?_eq_some_iff.1 hh).1, cur, hh, by rw [hs]; exact Nat.mul_le_mul_right 3 hc⟩
theorem Wipe.keep {A : Option Addr} {m lo hi : Nat} {w w' : World} {O : Nat → Prop} (h : Wipe A m lo hi w) (hk : Keep O w w') (hO : ∀ k, lo ≤ k → k < hi → ¬ O k) : Wipe A m lo hi w' := fun hm => by
  obtain ⟨g, e, h1, h2, cur, hb, hc⟩ := h hm
  exact ⟨g, e, h1, h2, cur, hb.keep hk (hO g h1 h2), hc⟩
/-- One number put into it. -/
theorem Wipe.put {A : Option Addr} {m lo hi g : Nat} {w : World} {cur : Array Value} (e : A = some ⟨g, 0, none⟩) (h1 : lo ≤ g) (h2 : g < hi) (hb : Blk w g 24 cur) (hc : m * 3 ≤ cur.size) (i : Nat) (u : Value) : Wipe A m lo hi (w.setCell ⟨g, i, none⟩ u) := fun _ =>
  ⟨g, e, h1, h2, _, hb.put i u, by simpa using hc⟩

set_option maxRecDepth 100000 in
set_option maxHeartbeats 1000000 in
theorem places_big (A : Option Addr) (n c : Nat) (p op a b o2 : Int) (w : World) (h : 100 < n) :
    Calls Tryd.prog 3 #[.slice A n c, .int .i64 p, instV op a b, .int .i64 o2] w fun e w' => e = .returned (.bool true) ∧ Keep NoB w w' := by
  have hq : decide ((100 : Int) < (n : Int)) = true := by rw [decide_eq_true_iff]; omega
  clear h
  go_enter Tryd.func3, Tryd.ntmps3
  go_wp2
  go_ret
  exact ⟨rfl, (Keep.refl NoB w).alloc _⟩

set_option maxRecDepth 100000 in
set_option maxHeartbeats 8000000 in
theorem places_walk (A : Option Addr) (l : List I3) (n c : Nat) (p op a b o2 : Int) (w : World) (hr : Rd w A (iis l)) (hn : Hid (l.length = n)) (hI : Hid (AllI l)) (hx : Hid (O.I64 a ∧ O.I64 b)) (h : n ≤ 100) :
    Calls Tryd.prog 3 #[.slice A n c, .int .i64 p, instV op a b, .int .i64 o2] w fun e w' => e = .returned (.bool true) ∧ Keep NoB w w' := by
  have hq : decide ((100 : Int) < (n : Int)) = false := by rw [decide_eq_false_iff_not]; omega
  have hm : n ≤ 9223372036854775807 := by omega
  obtain ⟨i0, hi, hz0, hz1, hz2⟩ := info_parts instr_info
  have K0 := (Keep.refl NoB w).alloc (.cells #[.int .i64 op, .int .i64 a, .int .i64 b] 24)
  have bx := Blk.new w 24 #[.int .i64 op, .int .i64 a, .int .i64 b]
  have hR0 := Lib.hid (hr.keepN K0)
  have HS1 := Lib.hid (fun A c w hr => stretch_any A l n c p w hr hn hm)
  have HS2 := Lib.hid (fun w hr => rstretch_any A l n c p w hr hn hI hm)
  have HI1 := Lib.hid (fun A c w hr => insert_any A l n c p op a b w hr hn hm)
  have HI2 := Lib.hid (fun w hr => rinsert_any A l n c p op a b w hr hn hI hx hm)
  have HD1 := Lib.hid (fun A c w hr => delete_any A l n c p w hr hn hm)
  have HD2 := Lib.hid (fun w hr => rdelete_any A l n c p w hr hn hI hm)
  have HH1 := Lib.hid (fun A c w hr => heads_any A l n c w hr hn hm)
  have HH2 := Lib.hid (fun w hr => rheads_any A l n c w hr hn hI hm)
  have HC1 := Lib.hid (fun A c w hr => count_any A l n c o2 w hr hn hm _ rfl)
  have HC2 := Lib.hid (fun w hr => rcount_any A l n c o2 w hr hn hm _ rfl)
  have HL := Lib.hid (fun A1 c1 w h1 h2 => lists_any A1 A l l n n c1 c w h1 h2 hn hn hm hm true (by show _ = _; simp))
  generalize strA l p = s1 at HS1 HS2
  generalize strB l p = s2 at HS1 HS2
  generalize strE l p = s3 at HS1 HS2
  generalize insE l p (op, a, b) = s4 at HI1 HI2
  generalize delE l p = s5 at HD1 HD2
  generalize ((cntB l o2 : Nat) : Int) = s6 at HC1 HC2
  have hli : (insG l p (op, a, b)).length ≤ 512 := by
    unfold insG
    split
    · next hh => exact (okB_parts hh.2).2.1
    · simp
  have hld : (delG l p).length ≤ 512 := by
    unfold delG
    split
    · next hh => exact (okB_parts hh.2).2.1
    · simp
  have hlz := hzG_len l
  generalize insG l p (op, a, b) = G at HI1 HI2 hli
  generalize delG l p = D at HD1 HD2 hld
  generalize hzG l = Z at HH1 HH2 hlz
  obtain ⟨mg, hmg⟩ : ∃ mg, G.length = mg := ⟨_, rfl⟩
  obtain ⟨md, hmd⟩ : ∃ md, D.length = md := ⟨_, rfl⟩
  obtain ⟨mz, hmz⟩ : ∃ mz, Z.length = mz := ⟨_, rfl⟩
  rw [hmg] at hli
  rw [hmd] at hld
  rw [hmz] at hlz
  have HG := Lib.hid hmg
  have HD := Lib.hid hmd
  have HZ := Lib.hid hmz
  have HLG := Lib.hid (fun A1 A2 c1 c2 w h1 h2 => lists_any A1 A2 G G mg mg c1 c2 w h1 h2 hmg hmg (by omega) (by omega) true (by show _ = _; simp))
  have HLD := Lib.hid (fun A1 A2 c1 c2 w h1 h2 => lists_any A1 A2 D D md md c1 c2 w h1 h2 hmd hmd (by omega) (by omega) true (by show _ = _; simp))
  have HLZ := Lib.hid (fun A1 A2 c1 c2 w h1 h2 => W.ints_any A1 A2 Z Z mz mz c1 c2 w h1 h2 hmz hmz (by omega) (by omega) true (by show _ = _; simp))
  clear hmg hmd hmz hr
  go_enter Tryd.func3, Tryd.ntmps3
  go_wp2_with (at_builtin; refine wpList_append_rd _ rfl (.tmp 29) (.tmp 30) _ rfl 24 3 24 i0 _ Tryd.underlying22 hi hz0 hz1 hz2 rfl (by decide) _ 0 [] A n c (iis l) rfl (own_empty (by simp)) rfl (hR0.out.keepN ((Keep.refl NoB _).alloc _)) (by rw [iis_length, hn.out]) (iis_cells l) (by unfold maxLen; omega) (by omega) ?_; intro A1 c1 w1 hrow hg1 hv1; obtain ⟨hO1, hK1⟩ := W.own_after (w := w.alloc (.cells #[.int .i64 op, .int .i64 a, .int .i64 b] 24)) (fun g e => by cases e; unfold Fresh; simp) ((Keep.refl NoB _).alloc _) hg1 hv1 hrow; clear hrow hg1 hv1)
  simp only [Nat.zero_add, List.nil_append] at hO1 ⊢
  have hro := Lib.hid (own_read hO1)
  have hrl := Lib.hid (hR0.out.keepN hK1)
  have bx1 := bx.keep hK1 id
  have hKw := keepN K0 hK1
  clear hO1 hK1 K0 bx hR0
  go_wp2_with fail
  refine (HS1.out _ _ _ hro.out).mono ?_
  rintro e w2 ⟨rfl, k2⟩
  have gK := k2
  go_wp2_with fail
  refine (HS2.out _ (hrl.out.keepN gK)).mono ?_
  rintro e w3 ⟨rfl, k3⟩
  replace gK := keepN gK k3
  obtain ⟨x0, x1, x2⟩ := blk3 (bx1.keep gK id)
  clear k2 k3 HS1 HS2
  go_wp2_with fail
  refine (HI1.out _ _ _ (hro.out.keepN gK)).mono ?_
  rintro e w4 ⟨va, rfl, hOa, k4⟩
  have gsz := gK.size
  replace gK := keepN gK k4
  clear x0 x1 x2
  obtain ⟨x0, x1, x2⟩ := blk3 (bx1.keep gK id)
  rw [HG.out] at hOa
  obtain ⟨Aa, ca, rfl, _, _, hra, _⟩ := hOa.form
  have hWa := wipe_of hOa
  go_wp2_with fail
  refine (HI2.out _ (hrl.out.keepN gK)).mono ?_
  rintro e w5 ⟨vb, rfl, hOb, k5⟩
  replace gK := keepN gK k5
  rw [HG.out] at hOb
  obtain ⟨Ab, cb, rfl, _, _, hrb, _⟩ := hOb.form
  replace hra := hra.keepN k5
  replace hWa := hWa.keep k5 (fun _ _ _ => id)
  clear k4 hOa hOb x0 x1 x2
  have gs4 : w4.heap.size ≤ w5.heap.size := k5.size
  have gs5 : w1.heap.size ≤ w5.heap.size := gK.size
  go_wp2_with fail
  refine (HD1.out _ _ _ (hro.out.keepN gK)).mono ?_
  rintro e w6 ⟨vc, rfl, hOc, k6⟩
  replace gK := keepN gK k6
  rw [HD.out] at hOc
  obtain ⟨Ac, cc, rfl, _, _, hrc, _⟩ := hOc.form
  have hWc := wipe_of hOc
  replace hra := hra.keepN k6
  replace hrb := hrb.keepN k6
  replace hWa := hWa.keep k6 (fun _ _ _ => id)
  clear k5
  go_wp2_with fail
  refine (HD2.out _ (hrl.out.keepN gK)).mono ?_
  rintro e w7 ⟨vd, rfl, hOd, k7⟩
  replace gK := keepN gK k7
  rw [HD.out] at hOd
  obtain ⟨Ad, cd, rfl, _, _, hrd, _⟩ := hOd.form
  replace hra := hra.keepN k7
  replace hrb := hrb.keepN k7
  replace hrc := hrc.keepN k7
  replace hWa := hWa.keep k7 (fun _ _ _ => id)
  replace hWc := hWc.keep k7 (fun _ _ _ => id)
  clear k6 k7 hOc hOd HI1 HI2 HD1 HD2
  have t1 : (s1 != s1) = false := by simp
  have t2 : (s2 != s2) = false := by simp
  have t3 : (s3 != s3) = false := by simp
  have t4 : (s4 != s4) = false := by simp
  have t5 : (s5 != s5) = false := by simp
  go_wp2_with fail
  refine (HLG.out _ _ _ _ _ hra hrb).mono ?_
  rintro e w8 ⟨rfl, k8⟩
  replace gK := keepN gK k8
  replace hWa := hWa.keep k8 (fun _ _ _ => id)
  replace hWc := hWc.keep k8 (fun _ _ _ => id)
  go_wp2_with (go_at_call 10; refine (HLD.out _ _ _ _ _ (hrc.keepN k8) (hrd.keepN k8)).mono ?_; rintro e w9 ⟨rfl, k9⟩)
  replace gK := keepN gK k9
  replace hWa := hWa.keep k9 (fun _ _ _ => id)
  replace hWc := hWc.keep k9 (fun _ _ _ => id)
  clear k8 k9 hra hrb hrc hrd HLG HLD
  have G9 : Keep (Fresh w1) w1 w9 := gK.mono (fun _ hf _ => hf.elim)
  clear gK
  go_loopw [109] (fun i wr => ∃ j : Nat, j ≤ mg ∧ i = .int .i64 j ∧ Wipe Aa mg w3.heap.size w4.heap.size wr ∧ Wipe Ac md w5.heap.size w6.heap.size wr ∧ Keep (Fresh w1) w1 wr) (fun i _ => mg - (intOf i).toNat)
  case atStart => exact ⟨0, Nat.zero_le _, rfl, hWa, hWc, G9⟩
  case round =>
    obtain ⟨j, hj, rfl, hA, hC, hG⟩ := hrel
    clear hWa hWc G9
    by_cases hlt : j < mg
    · obtain ⟨g, rfl, hg1, hg2, cur, hb, hc⟩ := hA (by omega)
      have hc0 : j * 3 < cur.size := by omega
      have cc : wr.cell? ⟨g, j * 3, none⟩ = some cur[j * 3] := by rw [hb.cell]; simp [hc0]
      have hf := fun i => hb.frozen i
      have HA : Hid (Wipe (some ⟨g, 0, none⟩) mg w3.heap.size w4.heap.size (wr.setCell ⟨g, j * 3, none⟩ (.int .i64 99))) := Wipe.put rfl hg1 hg2 hb hc _ _
      have HC : Hid (Wipe Ac md w5.heap.size w6.heap.size (wr.setCell ⟨g, j * 3, none⟩ (.int .i64 99))) := hC.keep ((Keep.refl (fun x => x = g) wr).setCell (fun _ => rfl) _) (fun k h1 _ e => by omega)
      have HK : Hid (Keep (Fresh w1) w1 (wr.setCell ⟨g, j * 3, none⟩ (.int .i64 99))) := hG.setCell (fun h => by simp at h; omega) _
      clear hb hc hA hC hG
      go_wp2
      go_roundw
      case rel => exact ⟨j + 1, by omega, by go_num, HA.out, HC.out, HK.out⟩
      case measure => simp [intOf]; omega
    · clear hA
      go_wp2
      go_loopw [119] (fun i wr => ∃ j : Nat, j ≤ md ∧ i = .int .i64 j ∧ Wipe Ac md w5.heap.size w6.heap.size wr ∧ Keep (Fresh w1) w1 wr) (fun i _ => md - (intOf i).toNat)
      case atStart => exact ⟨0, Nat.zero_le _, rfl, hC, hG⟩
      case round =>
        clear hC hG
        obtain ⟨j2, hj2, rfl, hC, hG⟩ := hrel
        by_cases hlt2 : j2 < md
        · obtain ⟨g, rfl, hg1, hg2, cur, hb, hc⟩ := hC (by omega)
          have hc0 : j2 * 3 < cur.size := by omega
          have cc : wr.cell? ⟨g, j2 * 3, none⟩ = some cur[j2 * 3] := by rw [hb.cell]; simp [hc0]
          have hf := fun i => hb.frozen i
          have HC : Hid (Wipe (some ⟨g, 0, none⟩) md w5.heap.size w6.heap.size (wr.setCell ⟨g, j2 * 3, none⟩ (.int .i64 99))) := Wipe.put rfl hg1 hg2 hb hc _ _
          have HK : Hid (Keep (Fresh w1) w1 (wr.setCell ⟨g, j2 * 3, none⟩ (.int .i64 99))) := hG.setCell (fun h => by simp at h; omega) _
          clear hb hc hC hG
          go_wp2
          go_roundw
          case rel => exact ⟨j2 + 1, by omega, by go_num, HC.out, HK.out⟩
          case measure => simp [intOf]; omega
        · have hro2 := Lib.hid (rd_far hro.out hG (fun _ h => h))
          have hrl2 := Lib.hid (rd_far hrl.out hG (fun _ h => h))
          have hKr : Keep NoB w wr := hKw.trans hG (fun k h hl => by have := hKw.size; unfold Fresh at h; omega)
          clear hC hG hro hrl hKw
          go_wp2_with fail
          refine (HH1.out _ _ _ hro2.out).mono ?_
          rintro e wa ⟨Az, rfl, hz1', ka⟩
          have gK := ka
          rw [HZ.out]
          go_wp2_with fail
          refine (HH2.out _ (hrl2.out.keepN gK)).mono ?_
          rintro e wb ⟨Ay, cy, rfl, hz2', kb⟩
          replace gK := keepN gK kb
          rw [HZ.out]
          go_wp2_with fail
          refine (HLZ.out _ _ _ _ _ (hz1'.keepN kb) hz2').mono ?_
          rintro e wc ⟨rfl, kc⟩
          replace gK := keepN gK kc
          clear ka kb kc hz1' hz2'
          go_wp2_with fail
          refine (HL.out _ _ _ (hro2.out.keepN gK) (hrl2.out.keepN gK)).mono ?_
          rintro e wd ⟨rfl, kd⟩
          replace gK := keepN gK kd
          go_wp2_with fail
          refine (HC1.out _ _ _ (hro2.out.keepN gK)).mono ?_
          rintro e we ⟨rfl, ke⟩
          replace gK := keepN gK ke
          go_wp2_with fail
          refine (HC2.out _ (hrl2.out.keepN gK)).mono ?_
          rintro e wf ⟨rfl, kf⟩
          replace gK := keepN gK kf
          have t6 : (s6 == s6) = true := by simp
          go_wp2
          go_ret
          exact ⟨rfl, keepN hKr gK⟩

theorem places_all (A : Option Addr) (l : List I3) (c : Nat) (p op a b o2 : Int) (w : World) (hr : Rd w A (iis l)) (hI : AllI l) (ha : O.I64 a) (hb : O.I64 b) :
    Calls Tryd.prog 3 #[.slice A l.length c, .int .i64 p, instV op a b, .int .i64 o2] w fun e w' => e = .returned (.bool true) ∧ Keep NoB w w' := by
  by_cases h : 100 < l.length
  · exact places_big A l.length c p op a b o2 w h
  · exact places_walk A l l.length c p op a b o2 w hr rfl hI ⟨ha, hb⟩ (by omega)

end Go.Proofs.YtonpplpfipfnfaaDoor.C

namespace Go.Proofs.YtonpplpfipfnfaaDoor.O
open Go.ChangeShapes Go.WideShapes Go.ChangeAt Go.RowKit

theorem seatOwn : ownKnob Tryd.prog.godebug = none := by kernel_rfl
theorem seatLaidOut : laidOutB Tryd.prog = true := by kernel_rfl
theorem i64_of_wf {n : Int} (h : (Lit.int .i64 n).wf = true) : I64 n := by
  have hmin : IntKind.i64.min = -9223372036854775808 := rfl
  have hmax : IntKind.i64.max = 9223372036854775807 := rfl
  simp only [Lit.wf, Bool.and_eq_true, decide_eq_true_eq] at h
  unfold I64; omega
theorem tLet : (Tryd.prog.globals[0]?).map (·.type) = some 92 := by kernel_rfl
theorem tPow : (Tryd.prog.globals[3]?).map (·.type) = some 115 := by kernel_rfl
theorem tSyn : (Tryd.prog.globals[4]?).map (·.type) = some 88 := by kernel_rfl
theorem tRng : (Tryd.prog.globals[5]?).map (·.type) = some 88 := by kernel_rfl
theorem tBin : (Tryd.prog.globals[1]?).map (·.type) = some 95 := by kernel_rfl
theorem tUn : (Tryd.prog.globals[2]?).map (·.type) = some 97 := by kernel_rfl
theorem errStar : "*" ++ "errors.errorString" = "*errors.errorString" := by decide
theorem errRow (u : TypeId) (h : Tryd.prog.typeName? 3 u = some "*errors.errorString") : u = 127 :=
  typeName_ptr_named (nm := "errors.errorString") (by rw [errStar]; kernel_rfl) (by kernel_rfl) (by decide) u (by rw [errStar]; exact h)

set_option maxRecDepth 100000 in
theorem laidO_of {W0 : World} {x y : String × DataW Unit}
    (h : laidMet Tryd.prog [("backstay/alu.binNames", Rows.laid_backstay_alu_binNames), ("backstay/alu.unNames", Rows.laid_backstay_alu_unNames), x, y, ("internal/strconv.uint64pow10", Rows.laid_internal_strconv_uint64pow10), ("strconv.ErrRange", Rows.laid_strconv_ErrRange), ("strconv.ErrSyntax", Rows.laid_strconv_ErrSyntax), ("backstay/value.letters", Rows.laid_backstay_value_letters)] W0) : LaidO W0 := by
  have h4 := h.tail.tail.tail.tail
  have h5 := h4.tail
  have h6 := h5.tail
  refine ⟨Lib.tabIs_of_head (zs := [0, 73, 82, 70, 80]) (k := .i32) _root_.Go.Proofs.YtonpplpfipfnfaaDoor.W.gLet tLet Tryd.underlying92 Tryd.underlying21 (by kernel_rfl) (by kernel_rfl) h6.tail,
    ⟨A.strs_of_head (l := A.binNs) A.gBin tBin Tryd.underlying95 Tryd.underlying9 (by kernel_rfl) (by kernel_rfl) h,
     A.strs_of_head (l := A.unNs) A.gUn tUn Tryd.underlying97 Tryd.underlying9 (by kernel_rfl) (by kernel_rfl) h.tail⟩,
    Lib.tabIs_of_head (zs := Lib.pow10Tab) (k := .u64) _root_.Go.Proofs.YtonpplpfipfnfaaDoor.W.gPow tPow Tryd.underlying115 Tryd.underlying101 (by kernel_rfl) (by kernel_rfl) h4, ?_, ?_⟩
  · obtain ⟨a, s, hv, _⟩ := laid_sentinel h6 _root_.Go.Proofs.YtonpplpfipfnfaaDoor.W.gSyn tSyn Tryd.underlying88 errRow Tryd.underlying127 Tryd.underlying129 rfl rfl Tryd.underlying9 (by kernel_rfl) (by kernel_rfl)
    exact ⟨_, _, hv⟩
  · obtain ⟨a, s, hv, _⟩ := laid_sentinel h5 _root_.Go.Proofs.YtonpplpfipfnfaaDoor.W.gRng tRng Tryd.underlying88 errRow Tryd.underlying127 Tryd.underlying129 rfl rfl Tryd.underlying9 (by kernel_rfl) (by kernel_rfl)
    exact ⟨_, _, hv⟩

section
variable {H : Type} {enc : TypeId × Value → H} {w : World} {base b0 : Nat} {spare : Nat → Bool} {held : Bool} {r : Reach} {v : Value} {d : DataW H} {p : List MemPlace}
set_option maxRecDepth 100000 in
theorem open_inst (hv : Value.okWide Tryd.prog w r b0 24 v) (h : DataW.Trod enc Tryd.prog w base spare held 24 v d p) :
    ∃ op a b, v = .agg #[.int .i64 op, .int .i64 a, .int .i64 b] ∧ d = .agg [.lit (.int .i64 op), .lit (.int .i64 a), .lit (.int .i64 b)] ∧ p = [] ∧ I64 op ∧ I64 a ∧ I64 b := by
  obtain ⟨v0, v1, v2, y0, y1, y2, n, rfl, rfl, rfl, h0, h1, h2⟩ := Joins.open_agg3 Tryd.underlying24 (by kernel_rfl) (by kernel_rfl) hv h
  obtain ⟨a, e0, rfl, w0⟩ := DataW.trod_int Tryd.underlying3 h0
  obtain ⟨b, e1, rfl, w1⟩ := DataW.trod_int Tryd.underlying2 h1
  obtain ⟨c, e2, rfl, w2⟩ := DataW.trod_int Tryd.underlying2 h2
  injection e0 with e0 _
  injection e1 with e1 _
  injection e2 with e2 _
  subst e0 e1 e2
  exact ⟨a, b, c, rfl, rfl, rfl, i64_of_wf w0, i64_of_wf w1, i64_of_wf w2⟩
end

end Go.Proofs.YtonpplpfipfnfaaDoor.O

namespace Go.Proofs.YtonpplpfipfnfaaDoor.C
open Go.ChangeShapes Go.WideShapes Go.ChangeAt Go.RowKit Go.Deep O

theorem addr_of_cell {w : World} {a : Addr} {v : Value} (h : w.cell? a = some v) : a = ⟨a.block, a.off, none⟩ := by
  obtain ⟨b, o, s⟩ := a
  cases s with
  | none => rfl
  | some s => unfold World.cell? at h; split at h <;> simp at h
theorem add_of (b o k : Nat) : (⟨b, o, none⟩ : Addr).add k = ⟨b, o + k, none⟩ := by unfold Addr.add; by_cases hk : k = 0 <;> simp [hk]

section
variable {H : Type} {enc : TypeId × Value → H} {W : World} {base : Nat} {spare : Nat → Bool} {held : Bool} {fuel : Nat} {cs : List Value} {x : DataW H × List MemPlace}
set_option maxRecDepth 100000 in
theorem read_insts (h : DataW.trod enc Tryd.prog W base spare held fuel 22 cs = some x) : ∃ A l c, cs = [.slice A l.length c] ∧ Rd W A (iis l) ∧ l.length ≤ c ∧ c ≤ maxLen ∧ AllI l := by
  rcases open_slice Tryd.underlying22 h with ⟨hcs, _⟩ | ⟨a, len, cap, m, n, D, Pl, hcs, _, hl, hm, hmm, _, hi⟩
  · exact ⟨none, [], 0, hcs, Rd.none_ _ _, Nat.le_refl _, Nat.zero_le _, fun _ h => by simp at h⟩
  · have hlm : len ≤ m := by rw [hmm]; split <;> omega
    have cI : Tryd.prog.cellsOf 24 = 3 := by kernel_rfl
    have c3 : Tryd.prog.cellsOf 3 = 1 := by kernel_rfl
    have c2 : Tryd.prog.cellsOf 2 = 1 := by kernel_rfl
    have each : ∀ i : Nat, ∃ v : I3, i < len → W.cell? (a.add (i * 3)) = some (.int .i64 v.1) ∧ W.cell? ((a.add (i * 3)).add 1) = some (.int .i64 v.2.1) ∧ W.cell? ((a.add (i * 3)).add 2) = some (.int .i64 v.2.2) ∧ O.I64 v.2.1 ∧ O.I64 v.2.2 := by
      intro i
      by_cases hlt : i < len
      · obtain ⟨cs', hc, ht'⟩ := hi i (by omega)
        rw [cI] at hc
        obtain ⟨y0, y1, y2, k, _, hlen, h0, h1, h2⟩ := trod_struct3 Tryd.underlying24 ht'
        obtain ⟨_, hcl, hat⟩ := World.cells?_some hc
        match cs', hcl with
        | [u0, u1, u2], _ =>
          have g0 := hat 0 (by omega)
          have g1 := hat 1 (by omega)
          have g2 := hat 2 (by omega)
          obtain ⟨z0, e0, _, w0⟩ := DataW.trod_int Tryd.underlying3 h0
          obtain ⟨z1, e1, _, w1⟩ := DataW.trod_int Tryd.underlying2 h1
          obtain ⟨z2, e2, _, w2⟩ := DataW.trod_int Tryd.underlying2 h2
          simp [c3] at e0
          simp [c2] at e1
          simp [c2] at e2
          subst e0 e1 e2
          exact ⟨(z0, z1, z2), fun _ => ⟨by simpa [Addr.add] using g0, by simpa using g1, by simpa using g2, i64_of_wf w1, i64_of_wf w2⟩⟩
      · exact ⟨(0, 0, 0), fun h => absurd h hlt⟩
    obtain ⟨f, hf⟩ := Classical.axiomOfChoice each
    have hlen : ((List.range len).map f).length = len := by simp
    refine ⟨some a, (List.range len).map f, cap, by rw [hlen]; exact hcs, fun h0 => ?_, by rw [hlen]; exact hl, hm, fun v hv => ?_⟩
    · have h0' : 0 < len := by rw [iis_length, hlen] at h0; omega
      have ea := addr_of_cell (hf 0 h0').1
      have ea' : a = ⟨a.block, a.off, none⟩ := by simpa [Addr.add] using ea
      refine ⟨a.block, a.off, by rw [← ea'], fun j u hu => ?_⟩
      have hj : j < len * 3 := by have := (List.getElem?_eq_some_iff.1 hu).1; rw [iis_length, hlen] at this; exact this
      have hd : j / 3 < len := by omega
      obtain ⟨k0, k1, k2, _⟩ := hf (j / 3) hd
      obtain ⟨q0, q1, q2⟩ := iis_at ((List.range len).map f) (j / 3) (by rw [hlen]; exact hd)
      rw [ea', add_of] at k0 k1 k2
      rw [add_of] at k1 k2
      simp only [List.getElem_map, List.getElem_range] at q0 q1 q2
      have hm3 : j % 3 = 0 ∨ j % 3 = 1 ∨ j % 3 = 2 := by omega
      rcases hm3 with hr | hr | hr
      · have ej : j = j / 3 * 3 := by omega
        rw [ej, q0] at hu
        rw [ej, k0]; exact hu
      · have ej : j = j / 3 * 3 + 1 := by omega
        rw [ej, q1] at hu
        rw [ej, ← Nat.add_assoc, k1]; exact hu
      · have ej : j = j / 3 * 3 + 2 := by omega
        rw [ej, q2] at hu
        rw [ej, ← Nat.add_assoc, k2]; exact hu
    · obtain ⟨i, hi', rfl⟩ := List.mem_map.1 hv
      exact ⟨(hf i (List.mem_range.1 hi')).2.2.2.1, (hf i (List.mem_range.1 hi')).2.2.2.2⟩
end
section
variable {H : Type} {enc : TypeId × Value → H} {w : World} {base b0 : Nat} {spare : Nat → Bool} {held : Bool} {r : Reach} {v : Value} {d : DataW H} {p : List MemPlace}
set_option maxRecDepth 100000 in
theorem open_insts (hv : Value.okWide Tryd.prog w r b0 22 v) (h : DataW.Trod enc Tryd.prog w base spare held 22 v d p) : ∃ A l c, v = .slice A l.length c ∧ Rd w A (iis l) ∧ l.length ≤ c ∧ c ≤ maxLen ∧ AllI l := by
  obtain ⟨a0, len, cap, rfl⟩ := okWide_slice Tryd.underlying22 hv
  obtain ⟨fuel, hf⟩ := h
  obtain ⟨A, l, c, hcs, hr, hc, hm, hI⟩ := read_insts hf
  simp only [Value.cells, List.cons.injEq, Value.slice.injEq, and_true] at hcs
  obtain ⟨rfl, rfl, rfl⟩ := hcs
  exact ⟨_, l, _, rfl, hr, hc, hm, hI⟩
end

end Go.Proofs.YtonpplpfipfnfaaDoor.C

namespace Go.Proofs.YtonpplpfipfnfaaDoor.V
open Go.RowKit

/-- A slice's address, from which the bytes l stand. -/
def Rd (w : World) (A : Option Addr) (l : List UInt8) : Prop :=
  0 < l.length → ∃ ad, A = some ad ∧ ∀ j u, (bvs l)[j]? = some u → w.cell? (ad.add j) = some u
theorem block_add (a : Addr) (n : Nat) : (a.add n).block = a.block := by unfold Addr.add; split <;> rfl
theorem add_add (a : Addr) (i j : Nat) : (a.add i).add j = a.add (i + j) := by
  unfold Addr.add
  by_cases hi : i = 0 <;> by_cases hj : j = 0 <;> simp [hi, hj, Nat.add_assoc]
theorem Rd.none_ (w : World) (A : Option Addr) : Rd w A [] := fun h => by simp at h
theorem Rd.keep {O : Nat → Prop} {w w' : World} {A : Option Addr} {l : List UInt8} (h : Rd w A l) (hk : Keep O w w') (hA : ∀ ad, A = some ad → 0 < l.length → ¬ O ad.block) : Rd w' A l := fun h0 => by
  obtain ⟨ad, e, hc⟩ := h h0
  exact ⟨ad, e, fun j u hu => hk.cell (hc j u hu) (by rw [block_add]; exact hA ad e h0)⟩
theorem Rd.lt {w : World} {A : Option Addr} {l : List UInt8} (h : Rd w A l) {ad : Addr} (e : A = some ad) (h0 : 0 < l.length) : ad.block < w.heap.size := by
  obtain ⟨ad', e', hc⟩ := h h0
  rw [e] at e'; cases e'
  have := World.block_lt_of_cell? w _ (hc 0 (bv l[0]) (by simp [h0]))
  rwa [block_add] at this

/-- The slice v of bytes l is the call's own, in a block of O. -/
def OwnB (w : World) (O : Nat → Prop) (v : Value) (l : List UInt8) : Prop :=
  w.ownsRow 0 5 1 v l.length (bvs l) ∧ ∀ g, v.ownBlock = some g → O g
section
variable {w w' : World} {O O' : Nat → Prop} {v : Value} {l : List UInt8}
theorem OwnB.nil (w : World) (O : Nat → Prop) : OwnB w O (.slice none 0 0) [] := ⟨World.ownsRow_nil _ _ _ _, by simp [Value.ownBlock]⟩
theorem OwnB.mono (h : OwnB w O v l) (hO : ∀ k, O k → k < w.heap.size → O' k) : OwnB w O' v l := ⟨h.1, fun g e => hO g (h.2 g e) (h.1.lt g e).2⟩
theorem ownsRow_keep {base n : Nat} {xs : List Value} (h : w.ownsRow base 5 1 v n xs) (hk : Keep O w w') (hn : ∀ g, v.ownBlock = some g → ¬ O g) : w'.ownsRow base 5 1 v n xs := by
  refine ⟨h.1, ?_⟩
  rcases h.2 with h2 | ⟨g, cap, cur, rfl, hb, hh, r⟩
  · exact .inl h2
  · exact .inr ⟨g, cap, cur, rfl, hb, (hk.block g (Array.getElem?_eq_some_iff.1 hh).1 (hn g rfl)).trans hh, r⟩
theorem OwnB.keep (h : OwnB w O v l) (hk : Keep O' w w') (hn : ∀ k, O k → ¬ O' k) : OwnB w' O v l := ⟨ownsRow_keep h.1 hk (fun g e => hn g (h.2 g e)), h.2⟩
theorem OwnB.form (h : OwnB w O v l) : ∃ A c, v = .slice A l.length c ∧ l.length ≤ c ∧ Rd w A l ∧ (∀ ad, A = some ad → O ad.block ∧ ad = ⟨ad.block, 0, none⟩) ∧ c ≤ maxLen := by
  rcases h.1.2 with ⟨rfl, hn⟩ | ⟨g, cap, cur, rfl, _, hh, hc, hm, _⟩
  · have : l = [] := List.length_eq_zero_iff.1 hn
    subst this
    exact ⟨none, 0, rfl, Nat.le_refl _, Rd.none_ _ _, by simp, by simp⟩
  · refine ⟨_, cap, rfl, hc, fun _ => ⟨_, rfl, h.1.cells (g := g) rfl⟩, ?_, hm⟩
    intro ad e
    cases e
    exact ⟨h.2 g rfl, rfl⟩
theorem OwnB.not_blk {g : Nat} {t : TypeId} {cs : Array Value} (h : OwnB w O v l) (hb : Blk w g t cs) (ht : t ≠ 5) : v.ownBlock ≠ some g := by
  rcases h.1.2 with ⟨rfl, _⟩ | ⟨g', cap, cur, rfl, _, hh, _⟩
  · simp [Value.ownBlock]
  · intro e
    obtain rfl : g' = g := by simpa [Value.ownBlock] using e
    exact Blk.ne hb (t' := 5) hh ht rfl
end

theorem bvs_one (l : List UInt8) : ∀ u ∈ bvs l, u.oneCell' = true := by
  intro u hu
  obtain ⟨b, _, rfl⟩ := List.mem_map.1 hu
  rfl

/-- append of bytes that are read onto bytes that are owned. -/
theorem run_append_rd (w : World) (v : Value) (xs l : List UInt8) (A : Option Addr) (c : Nat) (ty : TypeId)
    (hown : w.ownsRow 0 5 1 v xs.length (bvs xs)) (hr : Rd w A l) (hb : xs.length + l.length ≤ 140737488355328) :
    ∃ v' w', (Builtin.append_ #[104, 104] ty #[v, .slice A l.length c]).run Tryd.prog w = .ok v' w' ∧ w'.ownsRow 0 5 1 v' (xs ++ l).length (bvs (xs ++ l)) ∧ w.grownBy w' v.ownBlock ∧
      (v'.ownBlock = v.ownBlock ∨ v'.ownBlock = some w.heap.size) ∧ (v = .slice none 0 0 → 0 < l.length → v'.ownBlock = some w.heap.size) := by
  obtain ⟨i0, hi, hz0, hz1, hz2⟩ := info_parts u8_info
  rcases A with _ | ad
  · have hl : l = [] := by
      rcases Nat.eq_zero_or_pos l.length with h0 | h0
      · exact List.length_eq_zero_iff.1 h0
      · obtain ⟨ad, e, _⟩ := hr h0; cases e
    subst hl
    refine ⟨v, w, ?_, by simpa using hown, World.grownBy.refl w _, .inl rfl, fun _ h => by simp at h⟩
    rcases hown.2 with ⟨rfl, h0⟩ | ⟨g, cap, cur, rfl, _, _, hnc, _⟩
    · simp [Builtin.append_, run_underlying Tryd.underlying104, sizeOf, typeInfo, hi, Builtin.lenOf, Builtin.firstCells]
    · simp [Builtin.append_, run_underlying Tryd.underlying104, sizeOf, typeInfo, hi, Builtin.lenOf, Builtin.firstCells, hnc, storeCells]
  · have hcells : ∀ j u, (bvs l)[j]? = some u → w.cell? (ad.add j) = some u := by
      intro j u hu
      rcases Nat.eq_zero_or_pos l.length with h0 | h0
      · have : l = [] := List.length_eq_zero_iff.1 h0
        subst this; simp at hu
      · obtain ⟨ad', e, hc⟩ := hr h0
        cases e; exact hc j u hu
    obtain ⟨v', w', hrun, h2, h3, h4, h5⟩ := run_append_own_at (P := Tryd.prog) w 0 104 ty 5 i0 (.int .u8 0) 1 1 Tryd.underlying104 hi hz0 hz1 hz2 rfl (by decide) v xs.length (bvs xs) hown ad l.length c (bvs l) (by simp) hcells (bvs_one l) (by unfold maxLen; omega) (by omega) (Nat.zero_le _)
    refine ⟨v', w', hrun, by simpa using h2, h3, h5, fun e h0 => ?_⟩
    subst e
    rcases h5 with h5 | h5
    · exfalso
      have : v' ≠ .slice none 0 0 := fun e => by have := (h4.1 e).2; omega
      rcases h2.2 with ⟨e, _⟩ | ⟨g, cap, cur, e, _⟩
      · exact this e
      · rw [e] at h5; simp [Value.ownBlock] at h5
    · exact h5

theorem wp_append_rd {o : Oper} {a : Act} {K : Act → World → Prop} {Q : Exit → Act → World → Prop} (w : World) (s x : Operand)
    (ho : o.op = .call { callee := .builtin .append, args := #[s, x], argTypes := #[104, 104] })
    (v : Value) (xs l : List UInt8) (A : Option Addr) (c : Nat) (hs : a.eval s = v) (hown : w.ownsRow 0 5 1 v xs.length (bvs xs)) (hx : a.eval x = .slice A l.length c) (hr : Rd w A l)
    (hb : xs.length + l.length ≤ 140737488355328)
    (h : ∀ v' w', w'.ownsRow 0 5 1 v' (xs ++ l).length (bvs (xs ++ l)) → w.grownBy w' v.ownBlock → (v'.ownBlock = v.ownBlock ∨ v'.ownBlock = some w.heap.size) → K (a.put o.dst v') w') : o.wp Tryd.prog a w K Q := by
  obtain ⟨v', w', hrun, h2, h3, h4, _⟩ := run_append_rd w v xs l A c o.type hown hr hb
  unfold Oper.wp execOp
  simp only [ho, resolve, invoke, builtin, Sem.run_bind, Sem.run_pure, Result.andThen_ok, List.map_toArray, List.map_cons, List.map_nil, hs, hx, hrun]
  exact h v' w' h2 h3 h4

theorem wpList_append_rd {ops : Array Oper} {rest : List Oper} {o : Oper} {a : Act} {Q : Exit → Act → World → Prop} (w : World) (hgd : o.guard = none) (s x : Operand)
    (ho : o.op = .call { callee := .builtin .append, args := #[s, x], argTypes := #[104, 104] })
    (v : Value) (xs l : List UInt8) (A : Option Addr) (c : Nat) (hs : a.eval s = v) (hown : w.ownsRow 0 5 1 v xs.length (bvs xs)) (hx : a.eval x = .slice A l.length c) (hr : Rd w A l)
    (hb : xs.length + l.length ≤ 140737488355328)
    (h : ∀ v' w', w'.ownsRow 0 5 1 v' (xs ++ l).length (bvs (xs ++ l)) → w.grownBy w' v.ownBlock → (v'.ownBlock = v.ownBlock ∨ v'.ownBlock = some w.heap.size) → wpList Tryd.prog ops Q rest (a.put o.dst v') w') :
    wpList Tryd.prog ops Q (o :: rest) a w :=
  wpList_plain hgd fun _ hK => wp_append_rd w s x ho v xs l A c hs hown hx hr hb fun v' w' h2 h3 h4 => hK _ _ (h v' w' h2 h3 h4)

theorem own_form {w : World} {base n : Nat} {v : Value} {xs : List Value} (h : w.ownsRow base 5 1 v n xs) : ∃ A c, v = .slice A n c := by
  rcases h.2 with ⟨rfl, rfl⟩ | ⟨g, cap, cur, rfl, _⟩
  · exact ⟨_, _, rfl⟩
  · exact ⟨_, _, rfl⟩

/-- The same as one step of a region that draws its order; the new slice is written out. -/
theorem step_append_rd {ops : Array Oper} {o : Oper} {a : Act} {K : Act → World → Prop} {Q : Exit → Act → World → Prop} {E : Prop} (w : World) (hgd : o.guard = none) (s x : Operand)
    (ho : o.op = .call { callee := .builtin .append, args := #[s, x], argTypes := #[104, 104] })
    (v : Value) (xs l : List UInt8) (A : Option Addr) (c : Nat) (hs : a.eval s = v) (hown : w.ownsRow 0 5 1 v xs.length (bvs xs)) (hx : a.eval x = .slice A l.length c) (hr : Rd w A l)
    (hb : xs.length + l.length ≤ 140737488355328)
    (h : ∀ A' c' w', w'.ownsRow 0 5 1 (.slice A' (xs ++ l).length c') (xs ++ l).length (bvs (xs ++ l)) → w.grownBy w' v.ownBlock → ((Value.slice A' (xs ++ l).length c').ownBlock = v.ownBlock ∨ (Value.slice A' (xs ++ l).length c').ownBlock = some w.heap.size) → K (a.put o.dst (.slice A' (xs ++ l).length c')) w') :
    if Region.wanted o (yielded ops a.tmps) = true then Oper.wp Tryd.prog o a w K Q else E := by
  have hw : Region.wanted o (yielded ops a.tmps) = true := by simp [Region.wanted, hgd]
  rw [if_pos hw]
  refine wp_append_rd w s x ho v xs l A c hs hown hx hr hb fun v' w' h2 h3 h4 => ?_
  obtain ⟨A', c', rfl⟩ := own_form h2
  exact h A' c' w' h2 h3 h4

end Go.Proofs.YtonpplpfipfnfaaDoor.V

namespace Go.Proofs.YtonpplpfipfnfaaDoor.V
open Go.ChangeShapes Go.WideShapes Go.ChangeAt Go.RowKit

theorem cellsU8 : Tryd.prog.cellsOf 5 = 1 := by kernel_rfl

theorem u8_bounds {n : Int} (h : (Lit.int .u8 n).wf = true) : 0 ≤ n ∧ n < 256 := by
  have hmin : IntKind.u8.min = 0 := rfl
  have hmax : IntKind.u8.max = 255 := rfl
  simp only [Lit.wf, Bool.and_eq_true, decide_eq_true_eq] at h
  omega

/-- The bytes of a list of numbers that fit bytes. -/
def toU8 (zs : List Int) : List UInt8 := zs.map fun z => UInt8.ofNat z.toNat
theorem bvs_toU8 (zs : List Int) (h : ∀ n ∈ zs, (Lit.int .u8 n).wf = true) : bvs (toU8 zs) = zs.map (Value.int .u8) := by
  unfold bvs toU8
  rw [List.map_map]
  apply List.map_congr_left
  intro z hz
  obtain ⟨h0, h1⟩ := u8_bounds (h z hz)
  show Value.int .u8 (((UInt8.ofNat z.toNat).toNat : Nat) : Int) = _
  rw [UInt8.toNat_ofNat', Nat.mod_eq_of_lt (show z.toNat < 2 ^ 8 by omega)]
  congr 1
  omega

set_option maxRecDepth 100000 in
theorem read_bytes {H : Type} {enc : TypeId × Value → H} {W : World} {base : Nat} {spare : Nat → Bool} {held : Bool} {fuel : Nat} {cs : List Value} {x : DataW H × List MemPlace}
    (h : DataW.trod enc Tryd.prog W base spare held fuel 104 cs = some x) : ∃ A l c, cs = [.slice A l.length c] ∧ Rd W A l ∧ l.length ≤ c ∧ c ≤ maxLen := by
  rcases open_ints Tryd.underlying104 Tryd.underlying5 cellsU8 h with ⟨hcs, _⟩ | ⟨a, len, cap, zs, hcs, _, hl, hm, hz, _, hcell, hwz⟩
  · exact ⟨none, [], 0, hcs, Rd.none_ _ _, Nat.le_refl _, Nat.zero_le _⟩
  · have hzl : len ≤ zs.length := by rw [hz]; split <;> omega
    have hlen : (toU8 (zs.take len)).length = len := by simp [toU8]; omega
    refine ⟨some a, toU8 (zs.take len), cap, by rw [hlen]; exact hcs, fun _ => ⟨a, rfl, fun j u hu => ?_⟩, by rw [hlen]; exact hl, hm⟩
    rw [bvs_toU8 _ (fun n hn => hwz n (List.mem_of_mem_take hn))] at hu
    obtain ⟨hj, hju⟩ := List.getElem?_eq_some_iff.1 hu
    have hj' : j < len := by simp at hj; omega
    have hc := hcell j (by omega)
    rw [hc]
    simp at hju
    rw [← hju]
    simp [List.getD, List.getElem?_eq_getElem (show j < zs.length by omega)]

section
variable {H : Type} {enc : TypeId × Value → H} {w : World} {base b0 : Nat} {spare : Nat → Bool} {held : Bool} {r : Reach} {v : Value} {d : DataW H} {p : List MemPlace}
set_option maxRecDepth 100000 in
theorem open_bytes (hv : Value.okWide Tryd.prog w r b0 104 v) (h : DataW.Trod enc Tryd.prog w base spare held 104 v d p) : ∃ A l c, v = .slice A l.length c ∧ Rd w A l ∧ l.length ≤ c ∧ c ≤ maxLen := by
  obtain ⟨a0, len, cap, rfl⟩ := okWide_slice Tryd.underlying104 hv
  obtain ⟨fuel, hf⟩ := h
  obtain ⟨A, l, c, hcs, hr, hc, hm⟩ := read_bytes hf
  simp only [Value.cells, List.cons.injEq, Value.slice.injEq, and_true] at hcs
  obtain ⟨rfl, rfl, rfl⟩ := hcs
  exact ⟨_, l, _, rfl, hr, hc, hm⟩
end

end Go.Proofs.YtonpplpfipfnfaaDoor.V

namespace Go.Proofs.YtonpplpfipfnfaaDoor.O
open Go.ChangeShapes Go.WideShapes Go.ChangeAt Go.RowKit

theorem handed_and {H : Type} {enc : TypeId × Value → H} {a : Assume} {C : Checked} {os : Os} {f : FuncId} {fn : Func} {s : ChangeSpec} {conds : List PathCond} {apart fresh handsOn again : Bool} {X : World → Array Value → Prop}
    (hX : ∀ (w w' : World) (args : Array Value), w.heap = w'.heap → X w args → X w' args) (own : ownKnob C.prog.godebug = none) (started : os.Started) (noInit : C.prog.inits.idxOf? f = none) (hfn : C.prog.funcs[f]? = some fn)
    (witness : ∃ (w : World) (tape : Tape) (i : Input), w.os = os ∧ (w.forCall tape i).Shaped C.prog ∧ i.vars = [] ∧ Input.okWide C.prog (w.forCall tape i) .any w.heap.size f i ∧
      ((s.pre enc C.prog fn conds apart (w.forCall tape i).memory i.args ∧ X (w.forCall tape i).memory i.args) ∧ sizedMet enc C.prog fn (OpenSpec.ofChange s) apart (w.forCall tape i).memory i.args) ∧ a.holds C.prog (lone (Frame.enter C.prog f i.args .normal) [] (w.forCall tape i)))
    (contract : ∀ (W : World) (base : Nat) (args : Array Value) (ds gs : List (DataW H)) (before : List MemPlace),
      (∀ (j : Nat) t v, fn.params[j]? = some t → args[j]? = some v → Value.okWide C.prog W .any base t v) → DataW.Whole enc C.prog fn.params.toList s.vars apart W args.toList ds gs before →
      W.ShapedOpen C.prog → X W args → Calls C.prog f args W fun e W' => ∃ v, e = .returned v ∧ s.post enc C.prog fn apart fresh handsOn again W args v W') :
    ReturnsInHanded a C os f .any (fun w args => (s.pre enc C.prog fn conds apart w args ∧ X w args) ∧ sizedMet enc C.prog fn (OpenSpec.ofChange s) apart w args) (s.post enc C.prog fn apart fresh handsOn again) := by
  refine returnsInHanded_of_calls own started noInit witness ?_
  intro w tape i _ hsh _ hok hpre _
  obtain ⟨_, _, _, fn', hfn', _, _, _, _, hval⟩ := hok
  obtain rfl : fn' = fn := Option.some.inj (hfn'.symm.trans hfn)
  obtain ⟨⟨⟨ds, gs, before, hw, _⟩, hx⟩, _⟩ := hpre
  refine (contract (w.forCall tape i) w.heap.size i.args ds gs before hval (DataW.Whole.of_heap (w' := w.forCall tape i) (by rfl) hw) hsh (hX _ _ _ (by rfl) hx)).mono fun e W' ⟨v, he, hp⟩ => ?_
  subst he
  exact ChangeSpec.post_blind hp

end Go.Proofs.YtonpplpfipfnfaaDoor.O
