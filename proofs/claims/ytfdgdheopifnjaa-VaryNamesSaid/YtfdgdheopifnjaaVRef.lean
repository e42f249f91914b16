/-
  The document's own Number and Bytes: a number's bytes by definition, as vary's. Conditions: a uint64; no more than 2^47 bytes.
-/
import Derived.Test.YtfdgdheopifnjaaVDec
import Derived.Test.YtfdgdheopifnjaaVAlive
import Derived.OwnWalk
import Derived.Laws.OwnMore
namespace Go.Proofs.Ytfdgdheopifnjaa
open Go.RowKit

theorem set_be (j r n : Nat) : (List.replicate (j + 1) (0 : UInt8) ++ be r n).set j (UInt8.ofNat (n / 256 ^ r)) = List.replicate j 0 ++ be (r + 1) n := by
  have e : List.replicate (j + 1) (0 : UInt8) ++ be r n = List.replicate j 0 ++ (0 :: be r n) := by
    rw [List.replicate_succ', List.append_assoc]; rfl
  rw [e, List.set_append_right _ _ (by simp)]
  simp [be]

theorem bvs_set (l : List UInt8) (i : Nat) (b : UInt8) : (bvs l).set i (bv b) = bvs (l.set i b) := by
  unfold bvs; rw [List.map_set]

theorem put_be {w w0 : World} {g j W n : Nat} {V : Int} (h : w.ownsRow 0 5 1 (.slice (some ⟨g, 0, none⟩) W W) W (bvs (List.replicate (j + 1) 0 ++ be (W - (j + 1)) n))) (hj : j + 1 ≤ W)
    (hV : V = ((n / 256 ^ (W - (j + 1)) % 256 : Nat) : Int)) (hk : Keep NoB w0 w) (hg : w0.heap.size ≤ g) :
    (w.setCell ⟨g, j, none⟩ (.int .u8 V)).ownsRow 0 5 1 (.slice (some ⟨g, 0, none⟩) W W) W (bvs (List.replicate j 0 ++ be (W - j) n)) ∧ Keep NoB w0 (w.setCell ⟨g, j, none⟩ (.int .u8 V)) := by
  have hb : (Value.int .u8 V) = bv (UInt8.ofNat (n / 256 ^ (W - (j + 1)))) := by
    subst hV; simp [bv, UInt8.toNat_ofNat']
  rw [hb]
  have h1 := (h.stored j (bv (UInt8.ofNat (n / 256 ^ (W - (j + 1)))))).1
  rw [bvs_set, set_be, show W - (j + 1) + 1 = W - j by omega] at h1
  exact ⟨h1, hk.setCell (fun hlt => by simp at hlt; omega) _⟩

theorem head_of {n W : Nat} (hn : n < 18446744073709551616) (hW : wd n = W) : ∃ r, be W n = UInt8.ofNat (n / 256 ^ (W - 1)) :: r ∧ encL n = UInt8.ofNat (mk W + n / 256 ^ (W - 1)) :: r ∧ mk W + n / 256 ^ (W - 1) < 256 := by
  have hp := wd_pos n
  have h2 := (hd_rng n hn).2.1
  subst hW
  obtain ⟨k, hk⟩ : ∃ k, wd n = k + 1 := ⟨wd n - 1, by omega⟩
  refine ⟨be k n, by rw [hk]; rfl, ?_, h2⟩
  rw [encL_cons n hn]
  congr 1
  unfold nb
  rw [hk, Nat.add_sub_cancel, Nat.add_comm, be_add]

theorem mk_step (i : Nat) (h1 : 1 ≤ i) (h9 : i < 9) : mk (i + 1) = mk i + 256 / 2 ^ i ∧ 256 / 2 ^ (i + 1) = 256 / 2 ^ i / 2 ∧ mk i ≤ 256 ∧ 256 / 2 ^ i ≤ 256 := by
  have : ∀ i : Fin 9, 1 ≤ i.1 → mk (i.1 + 1) = mk i.1 + 256 / 2 ^ i.1 ∧ 256 / 2 ^ (i.1 + 1) = 256 / 2 ^ i.1 / 2 ∧ mk i.1 ≤ 256 ∧ 256 / 2 ^ i.1 ≤ 256 := by decide
  exact this ⟨i, h9⟩ h1

set_option maxRecDepth 100000 in
set_option maxHeartbeats 4000000 in
theorem refnum_any (n : Nat) (w : World) (hn : Hid (n < 18446744073709551616)) :
    Calls Try.prog 18 #[.int .u64 n] w fun e w' => ∃ v, e = .returned v ∧ OwnB w' (Fresh w) v (encL n) ∧ Keep NoB w w' := by
  have hw1 := wd_pos n
  have hw9 := wd_le n
  obtain ⟨W, hW⟩ : ∃ W, wd n = W := ⟨_, rfl⟩
  have HH := Lib.hid (head_of hn.out hW)
  have HWW := Lib.hid hW
  rw [hW] at hw1 hw9
  obtain ⟨i0, hi, hz0, hz1, hz2⟩ := info_parts u8_info
  have hwa := Lib.hid (rwidth_any n w)
  rw [hW] at hwa
  clear hW
  go_enter Try.func18, Try.ntmps18
  go_wp2_with fail
  refine hwa.out.mono ?_
  rintro e w1 ⟨rfl, rfl⟩
  go_wp2_with (at_make; refine wpList_make_full _ rfl _ _ 27 rfl 0 5 i0 (.int .u8 0) 1 Try.underlying27 hi hz0 hz1 _ _ _ _ W rfl rfl rfl rfl (by rw [hz2]; omega) (by unfold maxLen; omega) (Nat.zero_le _) ?_; intro w1 hrow1 hg1)
  have hr1 : w1.ownsRow 0 5 1 (.slice (some ⟨w.heap.size, 0, none⟩) W W) W (bvs (List.replicate W 0 ++ be (W - W) n)) := by
    have e : (madeCells (Value.int .u8 0).cells (W * 1)).toList = bvs (List.replicate W 0 ++ be (W - W) n) := by
      rw [Nat.mul_one, Nat.sub_self]
      show (madeCells #[Value.int .u8 0] W).toList = _
      rw [toList_madeCells_one]
      simp [be, bvs, bv]
    rw [← e]; exact hrow1
  have hk1 : Keep NoB w w1 := (Keep.refl NoB w).grown hg1 (fun _ e _ => by cases e)
  clear hrow1 hg1
  obtain ⟨g, hg⟩ : ∃ g, w.heap.size = g := ⟨_, rfl⟩
  have hgl : w.heap.size ≤ g := by omega
  rw [hg] at hr1 ⊢
  clear hg
  go_loopw [0, 5] (fun m i wr => ∃ (k q : Nat), k ≤ W ∧ Hid (q = n / 256 ^ (W - k)) ∧ q < 18446744073709551616 ∧ m = .int .u64 (q : Int) ∧ i = .int .i64 ((k : Int) - 1) ∧ wr.ownsRow 0 5 1 (.slice (some ⟨g, 0, none⟩) W W) W (bvs (List.replicate k 0 ++ be (W - k) n)) ∧ Keep NoB w wr) (fun _ i _ => (intOf i + 1).toNat)
  case atStart => exact ⟨W, n, Nat.le_refl _, by simp [Hid], hn.out, rfl, by go_num, hr1, hk1⟩
  case round =>
    clear hk1 hr1
    obtain ⟨k, q, hk, hq, hq64, rfl, rfl, hrow, hK⟩ := hrel
    by_cases hk0 : k = 0
    · subst hk0
      have hbe : Hid (be W n = List.replicate 0 0 ++ be (W - 0) n) := by simp [Hid]
      rw [← hbe.out] at hrow
      go_wp2
      go_loop [6, 7, 8] (fun f b i => ∃ (j F B : Nat), 1 ≤ j ∧ j ≤ W ∧ Hid (F = mk j ∧ B = 256 / 2 ^ j) ∧ F ≤ 512 ∧ B ≤ 256 ∧ f = .int .i64 (F : Int) ∧ b = .int .i64 (B : Int) ∧ i = .int .i64 (j : Int)) (fun _ _ i => W - (intOf i).toNat)
      case atStart => exact ⟨1, 0, 128, by omega, by omega, by show _ ∧ _; decide, by omega, by omega, rfl, rfl, rfl⟩
      case round =>
        obtain ⟨j, F, B, hj1, hj, hFB, hF, hB, rfl, rfl, rfl⟩ := hrel
        by_cases hjw : j < W
        · have hst := mk_step j hj1 (by omega)
          obtain ⟨e1, e2⟩ := hFB.out
          rw [← e1, ← e2] at hst
          have HS : Hid (F + B = mk (j + 1) ∧ B / 2 = 256 / 2 ^ (j + 1)) := ⟨hst.1.symm, hst.2.1.symm⟩
          have hs3 := hst.2.2.1
          clear hst e1 e2
          go_wp2
          go_round
          case rel => exact ⟨j + 1, F + B, B / 2, by omega, by omega, HS, by omega, by omega, by go_num, by go_num, by go_num⟩
          case measure => simp [intOf]; omega
        · obtain rfl : j = W := by omega
          obtain ⟨r, hr1, hr2, hr3⟩ := HH.out
          rw [hr1] at hrow
          have hFm := hFB.out.1
          rw [← hFm] at hr2 hr3
          have HR2 := Lib.hid hr2
          obtain ⟨x, hx⟩ : ∃ x, n / 256 ^ (j - 1) = x := ⟨_, rfl⟩
          rw [hx] at hr1 HR2 hr3 hrow
          clear hr1 hr2 HH hx hFB hFm hbe
          have c0 := hrow.cellAt 0 (by omega)
          have f0 := hrow.frozenAt 0
          have hxb : (((UInt8.ofNat x).toNat : Nat) : Int) = (x : Int) := by rw [UInt8.toNat_ofNat']; omega
          simp only [bvs, List.map_cons, List.getElem?_cons_zero, bv, hxb] at c0
          go_wp2
          go_ret
          have hst := (hrow.stored 0 (bv (UInt8.ofNat (F + x)))).1
          rw [bvs_set, List.set_cons_zero, ← HR2.out] at hst
          have hval : (Value.int .u8 ((F : Int) + (x : Int))) = bv (UInt8.ofNat (F + x)) := by
            simp only [bv]; rw [UInt8.toNat_ofNat', Nat.mod_eq_of_lt (by omega)]; simp
          rw [← hval] at hst
          have hle : (encL n).length = j := by rw [encL_length n hn.out]; exact HWW.out
          refine ⟨_, rfl, ⟨by rw [hle]; exact hst, fun g' e => ?_⟩, hK.setCell (fun hlt => by simp at hlt; omega) _⟩
          simp [Value.ownBlock] at e
          subst e
          exact hgl
    · obtain ⟨j, rfl⟩ : ∃ j, k = j + 1 := ⟨k - 1, by omega⟩
      have f0 := hrow.frozenAt j
      have cj : wr.cell? ⟨g, j, none⟩ = some (.int .u8 0) := by
        rw [hrow.cellAt j (by omega)]
        simp only [bvs, List.map_append, List.map_replicate]
        rw [List.getElem?_append_left (by simp)]
        simp [bv]
      have hP := Lib.hid (put_be (V := (q : Int) % 256) hrow hk (by rw [← hq.out]; omega) hK hgl)
      have hq' : Hid (q / 256 = n / 256 ^ (W - j)) := by
        show _ = _
        rw [hq.out, Nat.div_div_eq_div_mul, ← Nat.pow_succ, show (W - (j + 1)).succ = W - j by omega]
      clear hq hrow hK
      go_wp2
      go_roundw
      case rel => exact ⟨j, q / 256, by omega, hq', by omega, by go_num, by go_num, hP.out.1, hP.out.2⟩
      case measure => simp [intOf]

/-- The document's bytes with their length. -/
theorem refbytes_any (w : World) (A : Option Addr) (l : List UInt8) (c : Nat) (hr : Rd w A l) (hb : l.length ≤ 140737488355000) :
    Calls Try.prog 21 #[.slice A l.length c] w fun e w' => ∃ v, e = .returned v ∧ OwnB w' (Fresh w) v (encL l.length ++ l) ∧ Keep NoB w w' := by
  have hel := encL_len l.length
  go_enter Try.func21, Try.ntmps21
  go_wp2_with fail
  refine (refnum_any l.length w (by show _ < _; omega)).mono ?_
  rintro e w1 ⟨v, rfl, hv, hk⟩
  have hr1 := hr.keep hk (fun _ _ _ => id)
  go_wp2_with (at_builtin; refine wpList_append_rd _ rfl _ _ rfl v (encL l.length) l A c rfl hv.1 rfl hr1 (by omega) ?_; intro v' w2 hown' hg hat)
  go_ret
  refine ⟨v', rfl, ⟨by simpa using hown', fun g e => ?_⟩, hk.grown hg (fun g e hlt => by have := hv.2 g e; unfold Fresh at this; omega)⟩
  rcases hat with h | h
  · rw [h] at e; exact hv.2 g e
  · rw [h] at e
    injection e with e
    subst e
    exact hk.size

end Go.Proofs.Ytfdgdheopifnjaa
