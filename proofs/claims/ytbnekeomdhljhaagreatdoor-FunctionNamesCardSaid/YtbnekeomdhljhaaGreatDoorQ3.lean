/-
  The law's own alive: the chapter's first examples hold. No conditions.
  The document's own Number and Bytes: a number's bytes by definition, as vary's. Conditions: a uint64; no more than 2^47 bytes.
  A Reel's look with each of its two keepers: too few bytes, or they are handed on. Conditions: no more than 2^47 bytes.
  A Reel's next: what comes next, its width, the error; the place stays. Conditions: no more than 2^47 bytes.
  The Reel: On, bounded, take, Number, Signed, Bytes, Raw, At, End over a Reel in memory. Conditions: no more than 2^47 bytes.
  The Reel's methods: Number, Signed, Bytes, Raw, At, End over a Reel in memory. Conditions: no more than 2^47 bytes.
  The Reel's take, Bytes, Raw over a Reel in memory. Conditions: no more than 2^47 bytes.
  The document's own Reel: look: what comes next, as vary's next tells it. Conditions: no more than 2^47 bytes.
  The document's own Reel: look: what comes next, as vary's next tells it. Conditions: no more than 2^47 bytes.
  The document's own Reel: Number, Signed, Raw, Bytes, End: as vary's. Conditions: no more than 2^47 bytes.
  Reading a number off bytes, and what the walks of shape share. No program, no conditions.
-/
import Derived.Deep.DeepFit
import Derived.Laws.OwnMore
import Derived.OwnWalk
import Derived.Test.YtbnekeomdhljhaaGreatDoorQ2
namespace Go.Proofs.YtbnekeomdhljhaaGreatDoor.V
open Go.RowKit

theorem enc_0 : encL 0 = [0] := by decide +kernel
theorem enc_127 : encL 127 = [127] := by decide +kernel
theorem enc_128 : encL 128 = [128, 128] := by decide +kernel
theorem enc_300 : encL 300 = [129, 44] := by decide +kernel
theorem enc_16384 : encL 16384 = [192, 64, 0] := by decide +kernel

theorem keepN {w w1 w2 : World} (h : Keep NoB w w1) (h' : Keep NoB w1 w2) : Keep NoB w w2 := h.trans h' (fun _ hf _ => hf.elim)

end Go.Proofs.YtbnekeomdhljhaaGreatDoor.V

namespace Go.Proofs.YtbnekeomdhljhaaGreatDoor.V
open Go.RowKit

theorem set_be (j r n : Nat) : (List.replicate (j + 1) (0 : UInt8) ++ be r n).set j (UInt8.ofNat (n / 256 ^ r)) = List.replicate j 0 ++ be (r + 1) n := by
  have e : List.replicate (j + 1) (0 : UInt8) ++ be r n = List.replicate j 0 ++ (0 :: be r n) := by
    rw [List.replicate_succ', List.append_assoc]; rfl
  rw [e, List.set_append_right _ _ (by simp)]
  simp [be]

theorem bvs_set (l : List UInt8) (i : Nat) (b : UInt8) : (bvs l).set i (bv b) = bvs (l.set i b) := by
  unfold bvs; rw [List.map_set]

theorem put_be {w w0 : World} {g j W n : Nat} {V : Int} (h : w.ownsRow 0 5 1 (.slice (some ⟨g, 0, none⟩) W W) W (bvs (List.replicate (j + 1) 0 ++ be (W - (j + 1)) n))) (hj : j + 1 ≤ W)
    (hV : V = ((n / 256 ^ (W - (j + 1)) % 256 : Nat) : Int)) (hk : Keep NoB w0 w) (hg : w0.heap.size ≤ g) :
    (w.setCell ⟨g, j, none⟩ (.int .u8 V)).ownsRow 0 5 1 (.slice (some ⟨g, 0, none⟩) W W) W (bvs (List.replicate j 0 ++ be (W - j) n)) ∧ Keep NoB w0 (w.setCell ⟨g, j, none⟩ (.int .u8 V)) := by
  have hb : (Value.int .u8 V) = bv (UInt8.ofNat (n / 256 ^ (W - (j + 1)))) := by
    subst hV; simp [bv, UInt8.toNat_ofNat']
  rw [hb]
  have h1 := (h.stored j (bv (UInt8.ofNat (n / 256 ^ (W - (j + 1)))))).1
  rw [bvs_set, set_be, show W - (j + 1) + 1 = W - j by omega] at h1
  exact ⟨h1, hk.setCell (fun hlt => by simp at hlt; omega) _⟩

theorem head_of {n W : Nat} (hn : n < 18446744073709551616) (hW : wd n = W) : ∃ r, be W n = UInt8.ofNat (n / 256 ^ (W - 1)) :: r ∧ encL n = UInt8.ofNat (mk W + n / 256 ^ (W - 1)) :: r ∧ mk W + n / 256 ^ (W - 1) < 256 := by
  have hp := wd_pos n
  have h2 := (hd_rng n hn).2.1
  subst hW
  obtain ⟨k, hk⟩ : ∃ k, wd n = k + 1 := ⟨wd n - 1, by omega⟩
  refine ⟨be k n, by rw [hk]; rfl, ?_, h2⟩
  rw [encL_cons n hn]
  congr 1
  unfold nb
  rw [hk, Nat.add_sub_cancel, Nat.add_comm, be_add]

theorem mk_step (i : Nat) (h1 : 1 ≤ i) (h9 : i < 9) : mk (i + 1) = mk i + 256 / 2 ^ i ∧ 256 / 2 ^ (i + 1) = 256 / 2 ^ i / 2 ∧ mk i ≤ 256 ∧ 256 / 2 ^ i ≤ 256 := by
  have : ∀ i : Fin 9, 1 ≤ i.1 → mk (i.1 + 1) = mk i.1 + 256 / 2 ^ i.1 ∧ 256 / 2 ^ (i.1 + 1) = 256 / 2 ^ i.1 / 2 ∧ mk i.1 ≤ 256 ∧ 256 / 2 ^ i.1 ≤ 256 := by decide
  exact this ⟨i, h9⟩ h1

set_option maxRecDepth 100000 in
set_option maxHeartbeats 4000000 in
theorem refnum_any (n : Nat) (w : World) (hn : Hid (n < 18446744073709551616)) :
    Calls Tryz.prog 149 #[.int .u64 n] w fun e w' => ∃ v, e = .returned v ∧ OwnB w' (Fresh w) v (encL n) ∧ Keep NoB w w' := by
  have hw1 := wd_pos n
  have hw9 := wd_le n
  obtain ⟨W, hW⟩ : ∃ W, wd n = W := ⟨_, rfl⟩
  have HH := Lib.hid (head_of hn.out hW)
  have HWW := Lib.hid hW
  rw [hW] at hw1 hw9
  obtain ⟨i0, hi, hz0, hz1, hz2⟩ := info_parts u8_info
  have hwa := Lib.hid (rwidth_any n w)
  rw [hW] at hwa
  clear hW
  go_enter Tryz.func149, Tryz.ntmps149
  go_wp2_with fail
  refine hwa.out.mono ?_
  rintro e w1 ⟨rfl, rfl⟩
  go_wp2_with (at_make; refine wpList_make_full _ rfl _ _ 28 rfl 0 5 i0 (.int .u8 0) 1 Tryz.underlying28 hi hz0 hz1 _ _ _ _ W rfl rfl rfl rfl (by rw [hz2]; omega) (by unfold maxLen; omega) (Nat.zero_le _) ?_; intro w1 hrow1 hg1)
  have hr1 : w1.ownsRow 0 5 1 (.slice (some ⟨w.heap.size, 0, none⟩) W W) W (bvs (List.replicate W 0 ++ be (W - W) n)) := by
    have e : (madeCells (Value.int .u8 0).cells (W * 1)).toList = bvs (List.replicate W 0 ++ be (W - W) n) := by
      rw [Nat.mul_one, Nat.sub_self]
      show (madeCells #[Value.int .u8 0] W).toList = _
      rw [toList_madeCells_one]
      simp [be, bvs, bv]
    rw [← e]; exact hrow1
  have hk1 : Keep NoB w w1 := (Keep.refl NoB w).grown hg1 (fun _ e _ => by cases e)
  clear hrow1 hg1
  obtain ⟨g, hg⟩ : ∃ g, w.heap.size = g := ⟨_, rfl⟩
  have hgl : w.heap.size ≤ g := by omega
  rw [hg] at hr1 ⊢
  clear hg
  go_loopw [0, 5] (fun m i wr => ∃ (k q : Nat), k ≤ W ∧ Hid (q = n / 256 ^ (W - k)) ∧ q < 18446744073709551616 ∧ m = .int .u64 (q : Int) ∧ i = .int .i64 ((k : Int) - 1) ∧ wr.ownsRow 0 5 1 (.slice (some ⟨g, 0, none⟩) W W) W (bvs (List.replicate k 0 ++ be (W - k) n)) ∧ Keep NoB w wr) (fun _ i _ => (intOf i + 1).toNat)
  case atStart => exact ⟨W, n, Nat.le_refl _, by simp [Hid], hn.out, rfl, by go_num, hr1, hk1⟩
  case round =>
    clear hk1 hr1
    obtain ⟨k, q, hk, hq, hq64, rfl, rfl, hrow, hK⟩ := hrel
    by_cases hk0 : k = 0
    · subst hk0
      have hbe : Hid (be W n = List.replicate 0 0 ++ be (W - 0) n) := by simp [Hid]
      rw [← hbe.out] at hrow
      go_wp2
      go_loop [6, 7, 8] (fun f b i => ∃ (j F B : Nat), 1 ≤ j ∧ j ≤ W ∧ Hid (F = mk j ∧ B = 256 / 2 ^ j) ∧ F ≤ 512 ∧ B ≤ 256 ∧ f = .int .i64 (F : Int) ∧ b = .int .i64 (B : Int) ∧ i = .int .i64 (j : Int)) (fun _ _ i => W - (intOf i).toNat)
      case atStart => exact ⟨1, 0, 128, by omega, by omega, by show _ ∧ _; decide, by omega, by omega, rfl, rfl, rfl⟩
      case round =>
        obtain ⟨j, F, B, hj1, hj, hFB, hF, hB, rfl, rfl, rfl⟩ := hrel
        by_cases hjw : j < W
        · have hst := mk_step j hj1 (by omega)
          obtain ⟨e1, e2⟩ := hFB.out
          rw [← e1, ← e2] at hst
          have HS : Hid (F + B = mk (j + 1) ∧ B / 2 = 256 / 2 ^ (j + 1)) := ⟨hst.1.symm, hst.2.1.symm⟩
          have hs3 := hst.2.2.1
          clear hst e1 e2
          go_wp2
          go_round
          case rel => exact ⟨j + 1, F + B, B / 2, by omega, by omega, HS, by omega, by omega, by go_num, by go_num, by go_num⟩
          case measure => simp [intOf]; omega
        · obtain rfl : j = W := by omega
          obtain ⟨r, hr1, hr2, hr3⟩ := HH.out
          rw [hr1] at hrow
          have hFm := hFB.out.1
          rw [← hFm] at hr2 hr3
          have HR2 := Lib.hid hr2
          obtain ⟨x, hx⟩ : ∃ x, n / 256 ^ (j - 1) = x := ⟨_, rfl⟩
          rw [hx] at hr1 HR2 hr3 hrow
          clear hr1 hr2 HH hx hFB hFm hbe
          have c0 := hrow.cellAt 0 (by omega)
          have f0 := hrow.frozenAt 0
          have hxb : (((UInt8.ofNat x).toNat : Nat) : Int) = (x : Int) := by rw [UInt8.toNat_ofNat']; omega
          simp only [bvs, List.map_cons, List.getElem?_cons_zero, bv, hxb] at c0
          go_wp2
          go_ret
          have hst := (hrow.stored 0 (bv (UInt8.ofNat (F + x)))).1
          rw [bvs_set, List.set_cons_zero, ← HR2.out] at hst
          have hval : (Value.int .u8 ((F : Int) + (x : Int))) = bv (UInt8.ofNat (F + x)) := by
            simp only [bv]; rw [UInt8.toNat_ofNat', Nat.mod_eq_of_lt (by omega)]; simp
          rw [← hval] at hst
          have hle : (encL n).length = j := by rw [encL_length n hn.out]; exact HWW.out
          refine ⟨_, rfl, ⟨by rw [hle]; exact hst, fun g' e => ?_⟩, hK.setCell (fun hlt => by simp at hlt; omega) _⟩
          simp [Value.ownBlock] at e
          subst e
          exact hgl
    · obtain ⟨j, rfl⟩ : ∃ j, k = j + 1 := ⟨k - 1, by omega⟩
      have f0 := hrow.frozenAt j
      have cj : wr.cell? ⟨g, j, none⟩ = some (.int .u8 0) := by
        rw [hrow.cellAt j (by omega)]
        simp only [bvs, List.map_append, List.map_replicate]
        rw [List.getElem?_append_left (by simp)]
        simp [bv]
      have hP := Lib.hid (put_be (V := (q : Int) % 256) hrow hk (by rw [← hq.out]; omega) hK hgl)
      have hq' : Hid (q / 256 = n / 256 ^ (W - j)) := by
        show _ = _
        rw [hq.out, Nat.div_div_eq_div_mul, ← Nat.pow_succ, show (W - (j + 1)).succ = W - j by omega]
      clear hq hrow hK
      go_wp2
      go_roundw
      case rel => exact ⟨j, q / 256, by omega, hq', by omega, by go_num, by go_num, hP.out.1, hP.out.2⟩
      case measure => simp [intOf]

/-- The document's bytes with their length. -/
theorem refbytes_any (w : World) (A : Option Addr) (l : List UInt8) (c : Nat) (hr : Rd w A l) (hb : l.length ≤ 140737488355000) :
    Calls Tryz.prog 103 #[.slice A l.length c] w fun e w' => ∃ v, e = .returned v ∧ OwnB w' (Fresh w) v (encL l.length ++ l) ∧ Keep NoB w w' := by
  have hel := encL_len l.length
  go_enter Tryz.func103, Tryz.ntmps103
  go_wp2_with fail
  refine (refnum_any l.length w (by show _ < _; omega)).mono ?_
  rintro e w1 ⟨v, rfl, hv, hk⟩
  have hr1 := hr.keep hk (fun _ _ _ => id)
  go_wp2_with (at_builtin; refine wpList_append_rd _ rfl _ _ rfl v (encL l.length) l A c rfl hv.1 rfl hr1 (by omega) ?_; intro v' w2 hown' hg hat)
  go_ret
  refine ⟨v', rfl, ⟨by simpa using hown', fun g e => ?_⟩, hk.grown hg (fun g e hlt => by have := hv.2 g e; unfold Fresh at this; omega)⟩
  rcases hat with h | h
  · rw [h] at e; exact hv.2 g e
  · rw [h] at e
    injection e with e
    subst e
    exact hk.size

end Go.Proofs.YtbnekeomdhljhaaGreatDoor.V

namespace Go.Proofs.YtbnekeomdhljhaaGreatDoor.V
open Go.RowKit

/-- A part of the bytes that a slice reads as. -/
theorem Rd.part {w : World} {A : Option Addr} {l : List UInt8} {c k m : Nat} (h : Rd w A l) (hc : l.length ≤ c) : Rd w (if c = k then A else A.map (·.add k)) ((l.drop k).take m) := fun h0 => by
  have h0' : k < l.length ∧ 0 < m := by simp at h0; omega
  obtain ⟨ad, rfl, hcell⟩ := h (by omega)
  rw [if_neg (by omega)]
  refine ⟨ad.add k, rfl, fun j u hu => ?_⟩
  rw [add_add]
  have hj : j < ((l.drop k).take m).length := by
    have := List.getElem?_eq_some_iff.1 hu
    obtain ⟨h1, _⟩ := this
    simpa using h1
  have hjl : k + j < l.length := by simp at hj; omega
  apply hcell
  rw [← hu]
  simp at hj
  simp [hj]
  exact ⟨_, List.getElem?_eq_getElem hjl, rfl⟩

/-- The address of a part is in the same block. -/
theorem part_block {A : Option Addr} {c k : Nat} {ad : Addr} (h : (if c = k then A else A.map (·.add k)) = some ad) : ∃ ad', A = some ad' ∧ ad.block = ad'.block := by
  split at h
  · exact ⟨ad, h, rfl⟩
  · cases A with
    | none => simp at h
    | some a => simp at h; exact ⟨a, rfl, by rw [← h, block_add]⟩

theorem add_at (w : World) (sb n0 : Nat) (A : Option Addr) (b : List UInt8) (c n : Nat) (hn : n = b.length) (hs : Blk w sb 261 #[.int .u64 n0]) (hr : Rd w A b) (hA : ∀ ad, A = some ad → ad.block ≠ sb) (hlen : b.length ≤ 140737488355328) :
    Calls Tryz.prog 192 #[.pointer (some ⟨sb, 0, none⟩), .slice A n c] w fun e w' => e = .returned (.tuple #[]) ∧ Blk w' sb 261 #[.int .u64 (acc n0 b)] ∧ Keep (fun k => k = sb) w w' := by
  subst hn; exact add_any w sb n0 A b c hs hr hA hlen
theorem set_at (w : World) (sb : Nat) (v0 : Value) (A : Option Addr) (b : List UInt8) (c n : Nat) (hn : n = b.length) (hs : Blk w sb 242 #[v0]) (hr : Rd w A b) (hlen : b.length ≤ 140737488355328) :
    Calls Tryz.prog 175 #[.pointer (some ⟨sb, 0, none⟩), .slice A n c] w fun e w' => e = .returned (.tuple #[]) ∧ (∃ v, Blk w' sb 242 #[v] ∧ OwnB w' (Fresh w) v b) ∧ Keep (fun k => k = sb) w w' := by
  subst hn; exact set_any w sb v0 A b c hs hr hlen

/-- What look leaves: too few bytes; or they were handed on. -/
def Looked (w : World) (l : List UInt8) (fr : Nat) (S : Int) (Q : List UInt8 → World → Prop) (e : Ending) (w' : World) : Prop :=
  ((l.length : Int) - fr < S ∧ e = .returned (.int .i64 10) ∧ Keep NoB w w') ∨
  (S ≤ (l.length : Int) - fr ∧ e = .returned (.int .i64 0) ∧ Q ((l.drop fr).take S.toNat) w')
/-- The sum holds the bytes; nothing else has turned. -/
def Summed (w : World) (sb n0 : Nat) (b : List UInt8) (w' : World) : Prop := Blk w' sb 261 #[.int .u64 (acc n0 b)] ∧ Keep (fun k => k = sb) w w'
/-- The taken holds a copy of the bytes; nothing else has turned. -/
def Took (w : World) (sb : Nat) (b : List UInt8) (w' : World) : Prop := (∃ v, Blk w' sb 242 #[v] ∧ OwnB w' (Fresh w) v b) ∧ Keep (fun k => k = sb) w w'

set_option maxRecDepth 100000 in
set_option maxHeartbeats 1000000 in
theorem look_add (w : World) (br sb n0 at_ fr : Nat) (S : Int) (A : Option Addr) (l : List UInt8) (c : Nat) (hb : Blk w br 90 #[.slice A l.length c, .int .i64 at_]) (hr : Rd w A l) (hc : l.length ≤ c) (hA : ∀ ad, A = some ad → ad.block ≠ sb)
    (hs : Blk w sb 261 #[.int .u64 n0]) (hlen : l.length ≤ 140737488355328) (hcm : c ≤ 9223372036854775807) (hfr : fr ≤ l.length) (hS0 : 0 ≤ S) (hS1 : S ≤ 9223372036854775807) :
    Calls Tryz.prog 174 #[.pointer (some ⟨br, 0, none⟩), .int .i64 fr, .agg #[.int .i64 S, .func (.func 192) #[.pointer (some ⟨sb, 0, none⟩)] #[]]] w (Looked w l fr S (Summed w sb n0)) := by
  have c0 := hb.cell 0
  have c1 := hb.cell 1
  have hlt := hb.lt
  simp at c0 c1
  by_cases hsh : (l.length : Int) - fr < S
  · go_enter Tryz.func174, Tryz.ntmps174
    go_wp2
    go_quiet (fail)
    go_wp2
    go_ret
    exact .inl ⟨hsh, rfl, ((Keep.refl NoB w).alloc _).drewN _⟩
  · obtain ⟨s, rfl⟩ := Int.eq_ofNat_of_zero_le hS0
    have hle : (s : Int) ≤ (l.length : Int) - fr := by omega
    go_enter Tryz.func174, Tryz.ntmps174
    go_wp2
    go_quiet (fail)
    go_wp2
    obtain ⟨wq, hwq⟩ : ∃ wq, (w.alloc (.cells #[.int .i64 s, .func (.func 192) #[.pointer (some ⟨sb, 0, none⟩)] #[]] 246)).drewN nq = wq := ⟨_, rfl⟩
    rw [hwq]
    have hkq : Keep NoB w wq := hwq ▸ ((Keep.refl NoB w).alloc _).drewN nq
    have hbx : Blk wq w.heap.size 246 #[.int .i64 s, .func (.func 192) #[.pointer (some ⟨sb, 0, none⟩)] #[]] := hwq ▸ Blk.new w _ _
    clear hwq
    have hbq := hb.keep hkq id
    have hsq := hs.keep hkq id
    have hrq := (hr.keep hkq (fun _ _ _ => id)).part (c := c) (k := fr) (m := s) hc
    have q0 := hbq.cell 0
    have q1 := hbx.cell 0
    have q2 := hbx.cell 1
    simp at q0 q1 q2
    have hpl : ((l.drop fr).take s).length = s := by simp; omega
    have hA2 : ∀ ad, (if c = fr then A else A.map (·.add fr)) = some ad → ad.block ≠ sb := fun ad e => by
      obtain ⟨ad', e1, e2⟩ := part_block e
      rw [e2]; exact hA ad' e1
    have hcs : (c : Int) ≤ 9223372036854775807 := by omega
    have hs0 : (0 : Int) ≤ (fr : Int) + s := by omega
    have hs1 : (fr : Int) + s ≤ c := by omega
    have hs2 : ((fr : Int) + s).toNat = fr + s := by omega
    have hs3 : IntKind.i64.wrap ((fr : Int) + s) = (fr : Int) + s := IntWalk.i64_in _ (by omega)
    go_still_tail 12, (by kernel_rfl)
    change wpList _ _ _ _ _ wq.drew
    go_wp2_with (go_at_call 192; refine (add_at wq.drew sb n0 _ ((l.drop fr).take s) _ s hpl.symm hsq hrq hA2 (by omega)).mono ?_; rintro e w2 ⟨rfl, hs2, hk2⟩)
    all_goals go_ret
    all_goals exact .inr ⟨hle, rfl, hs2, ((hkq.mono (fun _ hf _ => hf.elim)).drew).trans hk2 (fun _ h _ => h)⟩

set_option maxRecDepth 100000 in
set_option maxHeartbeats 1000000 in
theorem look_set (w : World) (br sb at_ fr : Nat) (v0 : Value) (S : Int) (A : Option Addr) (l : List UInt8) (c : Nat) (hb : Blk w br 90 #[.slice A l.length c, .int .i64 at_]) (hr : Rd w A l) (hc : l.length ≤ c) 
    (hs : Blk w sb 242 #[v0]) (hlen : l.length ≤ 140737488355328) (hcm : c ≤ 9223372036854775807) (hfr : fr ≤ l.length) (hS0 : 0 ≤ S) (hS1 : S ≤ 9223372036854775807) :
    Calls Tryz.prog 174 #[.pointer (some ⟨br, 0, none⟩), .int .i64 fr, .agg #[.int .i64 S, .func (.func 175) #[.pointer (some ⟨sb, 0, none⟩)] #[]]] w (Looked w l fr S (Took w sb)) := by
  have c0 := hb.cell 0
  have c1 := hb.cell 1
  have hlt := hb.lt
  simp at c0 c1
  by_cases hsh : (l.length : Int) - fr < S
  · go_enter Tryz.func174, Tryz.ntmps174
    go_wp2
    go_quiet (fail)
    go_wp2
    go_ret
    exact .inl ⟨hsh, rfl, ((Keep.refl NoB w).alloc _).drewN _⟩
  · obtain ⟨s, rfl⟩ := Int.eq_ofNat_of_zero_le hS0
    have hle : (s : Int) ≤ (l.length : Int) - fr := by omega
    go_enter Tryz.func174, Tryz.ntmps174
    go_wp2
    go_quiet (fail)
    go_wp2
    obtain ⟨wq, hwq⟩ : ∃ wq, (w.alloc (.cells #[.int .i64 s, .func (.func 175) #[.pointer (some ⟨sb, 0, none⟩)] #[]] 246)).drewN nq = wq := ⟨_, rfl⟩
    rw [hwq]
    have hkq : Keep NoB w wq := hwq ▸ ((Keep.refl NoB w).alloc _).drewN nq
    have hbx : Blk wq w.heap.size 246 #[.int .i64 s, .func (.func 175) #[.pointer (some ⟨sb, 0, none⟩)] #[]] := hwq ▸ Blk.new w _ _
    clear hwq
    have hbq := hb.keep hkq id
    have hsq := hs.keep hkq id
    have hrq := (hr.keep hkq (fun _ _ _ => id)).part (c := c) (k := fr) (m := s) hc
    have q0 := hbq.cell 0
    have q1 := hbx.cell 0
    have q2 := hbx.cell 1
    simp at q0 q1 q2
    have hpl : ((l.drop fr).take s).length = s := by simp; omega
    have hcs : (c : Int) ≤ 9223372036854775807 := by omega
    have hs0 : (0 : Int) ≤ (fr : Int) + s := by omega
    have hs1 : (fr : Int) + s ≤ c := by omega
    have hs2 : ((fr : Int) + s).toNat = fr + s := by omega
    have hs3 : IntKind.i64.wrap ((fr : Int) + s) = (fr : Int) + s := IntWalk.i64_in _ (by omega)
    go_still_tail 12, (by kernel_rfl)
    change wpList _ _ _ _ _ wq.drew
    go_wp2_with (go_at_call 175; refine (set_at wq.drew sb v0 _ ((l.drop fr).take s) _ s hpl.symm hsq hrq (by omega)).mono ?_; rintro e w2 ⟨rfl, ⟨v, hs2, hv2⟩, hk2⟩)
    all_goals go_ret
    all_goals exact .inr ⟨hle, rfl, ⟨v, hs2, hv2.mono (fun k hk _ => Nat.le_trans hkq.size hk)⟩, ((hkq.mono (fun _ hf _ => hf.elim)).drew).trans hk2 (fun _ h _ => h)⟩

end Go.Proofs.YtbnekeomdhljhaaGreatDoor.V

namespace Go.Proofs.YtbnekeomdhljhaaGreatDoor.V
open Go.RowKit

/-- A Reel at block br that has the bytes l and the place p; all its blocks are of O. -/
def ReelAt (w : World) (br : Nat) (O : Nat → Prop) (l : List UInt8) (p : Nat) : Prop :=
  O br ∧ p ≤ l.length ∧ ∃ A c, Blk w br 90 #[.slice A l.length c, .int .i64 p] ∧ Rd w A l ∧ l.length ≤ c ∧ c ≤ maxLen ∧ ∀ ad, A = some ad → O ad.block ∧ ad.block < w.heap.size

theorem ReelAt.keep {w w' : World} {br p : Nat} {O O' : Nat → Prop} {l : List UInt8} (h : ReelAt w br O l p) (hk : Keep O' w w') (hn : ∀ k, O k → ¬ O' k) : ReelAt w' br O l p := by
  obtain ⟨h1, h2, A, c, hb, hr, hc, hm, hA⟩ := h
  exact ⟨h1, h2, A, c, hb.keep hk (hn _ h1), hr.keep hk (fun ad e _ => hn _ (hA ad e).1), hc, hm, fun ad e => ⟨(hA ad e).1, Nat.lt_of_lt_of_le (hA ad e).2 hk.size⟩⟩
theorem ReelAt.mono {w : World} {br p : Nat} {O O' : Nat → Prop} {l : List UInt8} (h : ReelAt w br O l p) (hO : ∀ k, O k → k < w.heap.size → O' k) : ReelAt w br O' l p := by
  obtain ⟨h1, h2, A, c, hb, hr, hc, hm, hA⟩ := h
  exact ⟨hO _ h1 hb.lt, h2, A, c, hb, hr, hc, hm, fun ad e => ⟨hO _ (hA ad e).1 (hA ad e).2, (hA ad e).2⟩⟩

/-- What next hands back. -/
def NxR (r : Nat × Nat × Nat) : Ending := .returned (.tuple #[.int .u64 r.1, .int .i64 r.2.1, .int .i64 r.2.2])

theorem drop_cons {l : List UInt8} {p : Nat} (h : p < l.length) : l.drop p = l[p] :: l.drop (p + 1) := List.drop_eq_getElem_cons h

set_option maxRecDepth 100000 in
set_option maxHeartbeats 1000000 in
theorem next_any (w : World) (br : Nat) (O : Nat → Prop) (l : List UInt8) (p : Nat) (h : ReelAt w br O l p) (hlen : l.length ≤ 140737488355328) :
    Calls Tryz.prog 173 #[.pointer (some ⟨br, 0, none⟩)] w fun e w' => e = NxR (nx (l.drop p)) ∧ Keep NoB w w' := by
  obtain ⟨_, hp, A, c, hb, hr, hc, hm, hA⟩ := h
  unfold maxLen at hm
  have hlt := hb.lt
  have q0 := hb.cell 0
  have q1 := hb.cell 1
  simp at q0 q1
  have hA1 : ∀ ad, A = some ad → ad.block ≠ w.heap.size := fun ad e => by have := (hA ad e).2; omega
  have hA2 : ∀ ad, A = some ad → ad.block ≠ w.heap.size + 1 := fun ad e => by have := (hA ad e).2; omega
  have hk0 : Keep NoB w ((w.alloc (.cells #[.int .u64 0] 261)).alloc (.cells #[.int .u64 0] 261)) := ((Keep.refl NoB w).alloc _).alloc _
  have hb0 := hb.keep hk0 id
  have hr0 := hr.keep hk0 (fun _ _ _ => id)
  have hs0 := (Blk.new w 261 #[.int .u64 0]).alloc (.cells #[.int .u64 0] 261)
  have hs1 := Blk.new (w.alloc (.cells #[.int .u64 0] 261)) 261 #[.int .u64 0]
  rw [World.size_alloc] at hs1
  go_enter Tryz.func173, Tryz.ntmps173
  go_wp2_with fail
  refine (look_add _ br w.heap.size 0 p p 1 A l c hb0 hr0 hc hA1 hs0 hlen hm hp (by omega) (by omega)).mono ?_
  rintro e w1 (⟨hsh, rfl, hk1⟩ | ⟨hle, rfl, hsum1, hk1⟩)
  · have hd : l.drop p = [] := List.drop_eq_nil_of_le (by omega)
    go_wp2
    go_ret3
    exact ⟨by rw [hd]; rfl, hk0.trans hk1 (fun _ hf _ => hf.elim)⟩
  · have hpl : p < l.length := by omega
    obtain ⟨b, hbd⟩ : ∃ b, b = l[p] := ⟨_, rfl⟩
    have hdc := drop_cons hpl
    rw [← hbd] at hdc
    have hb256 := b.toNat_lt
    have hsb : Blk w1 w.heap.size 261 #[.int .u64 (b.toNat : Nat)] := by
      have e : acc 0 (List.take (Int.toNat 1) (l.drop p)) = b.toNat := by rw [hdc]; simp [acc]
      rw [e] at hsum1; exact hsum1
    have hne : ¬ br = w.heap.size := by omega
    have hb1 := hb0.keep hk1 hne
    have hr1 := hr0.keep hk1 (fun ad e _ => hA1 ad e)
    have hs2 := hs1.keep hk1 (by omega)
    have hk01 := hk0.trans hk1 (fun k e hk => by omega)
    obtain ⟨m, hm'⟩ : ∃ m, w.heap.size = m := ⟨_, rfl⟩
    rw [hm'] at hsb hs2 hA2 ⊢
    have hmw : w.heap.size ≤ m := by omega
    clear hsum1 hk1 hb0 hr0 hs0 hs1 hk0 hA1 hb hr hA q0 q1 hbd hm'
    have q0 := hb1.cell 0
    have q1 := hb1.cell 1
    have q2 := hsb.cell 0
    simp at q0 q1 q2
    go_wp2_with fail
    refine (told_any b.toNat _ (by omega)).mono ?_
    rintro e w2 ⟨rfl, rfl⟩
    obtain ⟨t1, t9, _⟩ := td_rng b.toNat (by omega)
    go_wp2_with fail
    refine (look_add _ br (m + 1) 0 p p (td b.toNat) A l c hb1 hr1 hc hA2 hs2 hlen hm hp (by omega) (by omega)).mono ?_
    rintro e w2 (⟨hsh, rfl, hk2⟩ | ⟨hle2, rfl, hsum2, hk2⟩)
    · go_wp2
      go_ret3
      refine ⟨?_, (hk01.trans hk2 (fun _ hf _ => hf.elim))⟩
      have hx : nx (l.drop p) = (0, 0, 10) := by
        rw [hdc, nx_cons, if_pos (by rw [List.length_drop]; omega)]
      rw [hx]; rfl
    · have q3 := hsum2.cell 0
      simp at q3
      have hkk := hk01.trans hk2 (O := NoB) (fun k e hk => by omega)
      go_wp2_with fail
      have hmk := mk_lt (td b.toNat)
      have hq := fun (n : Nat) => Calls.quiet_of_same ((mark_any (td b.toNat) (w2.drewN n) t1 t9).mono fun e w' h => (⟨h.1, h.2.symm⟩ : e = .returned (.int .u8 (mk (td b.toNat))) ∧ w' = w2.drewN n))
      obtain ⟨t, ht⟩ : ∃ t, td b.toNat = t := ⟨_, rfl⟩
      rw [ht] at t1 t9 hmk hq hsum2 q3 hle2 ⊢
      have HT := Lib.hid ht
      clear ht
      have htl : t ≤ (l.drop (p + 1)).length + 1 := by rw [List.length_drop]; omega
      have HF := Lib.hid (nx_form b (l.drop (p + 1)) t HT.out htl)
      have e1 : IntKind.i64.wrap ((t : Int) - 1) = (t : Int) - 1 := IntWalk.i64_in _ (by omega)
      have e2 : IntKind.i64.wrap (8 * ((t : Int) - 1)) = 8 * ((t : Int) - 1) := IntWalk.i64_in _ (by omega)
      have e3 : (0 : Int) ≤ 8 * ((t : Int) - 1) := by omega
      have e4 : (8 * ((t : Int) - 1)).toNat = 8 * (t - 1) := by omega
      have e5 : IntKind.u64.wrap ((mk t : Nat) : Int) = ((mk t : Nat) : Int) := by rw [IntKind.wrap_u64]; omega
      go_quiet ((go_at_call 166; exact hq _))
      clear e1 e2 e3 e4 e5 hq
      rw [HF.out]
      generalize hD : dc t ((b :: l.drop (p + 1)).take t) = D at *
      have HD := Lib.hid hD
      clear hD
      have hnx : Hid (nx (l.drop p) = if wd D < t then (0, 0, 11) else (D, t, 0)) := by
        show nx (l.drop p) = _
        rw [hdc, nx_cons, HT.out, HD.out, if_neg (by omega)]
      go_wp2_with fail
      refine (width_any D _).mono ?_
      rintro e w3 ⟨rfl, rfl⟩
      by_cases hwd : wd D < t
      · go_wp2
        go_ret3
        exact ⟨by rw [hnx.out, if_pos hwd]; rfl, hkk.drewN _⟩
      · go_wp2
        go_ret3
        exact ⟨by rw [hnx.out, if_neg hwd]; rfl, hkk.drewN _⟩

end Go.Proofs.YtbnekeomdhljhaaGreatDoor.V

namespace Go.Proofs.YtbnekeomdhljhaaGreatDoor.V
open Go.RowKit

/-- The number that comes next, if it is at most so great. -/
def bnd (r : Nat × Nat × Nat) (most : Nat) : Nat × Nat × Nat := if r.2.2 ≠ 0 then (0, 0, r.2.2) else if most < r.1 then (0, 0, 12) else r

theorem nx_err (l : List UInt8) : (nx l).2.2 ≠ 0 → (nx l).1 = 0 ∧ (nx l).2.1 = 0 := by
  intro h
  rcases l with _ | ⟨b, r⟩
  · exact ⟨rfl, rfl⟩
  · rw [nx_cons] at h ⊢
    split
    · exact ⟨rfl, rfl⟩
    · split
      · exact ⟨rfl, rfl⟩
      · rw [if_neg ‹_›, if_neg ‹_›] at h; exact absurd rfl h
theorem nx_width (l : List UInt8) : (nx l).2.1 ≤ l.length ∧ (nx l).2.1 ≤ 9 ∧ (nx l).2.2 ≤ 11 ∧ (nx l).1 < 18446744073709551616 := by
  rcases l with _ | ⟨b, r⟩
  · simp [nx]
  · rw [nx_cons]
    have hb := b.toNat_lt
    have h9 := (td_rng b.toNat (by simpa using hb))
    split
    · simp
    · rename_i hl
      split
      · simp
      · obtain ⟨k, hk⟩ : ∃ k, td b.toNat = k + 1 := ⟨td b.toNat - 1, by omega⟩
        have h2 := (vl_split b (r.take k) (td b.toNat) rfl (by simp; omega)).2.1
        rw [hk] at h2 hl h9 ⊢
        rw [List.take_succ_cons]
        simp only [List.length_cons]
        exact ⟨by omega, by omega, by omega, h2⟩
theorem bnd_width (l : List UInt8) (most : Nat) : (bnd (nx l) most).2.1 ≤ l.length ∧ (bnd (nx l) most).2.1 ≤ 9 ∧ (bnd (nx l) most).1 < 18446744073709551616 ∧ (bnd (nx l) most).2.2 ≤ 12 := by
  have h := nx_width l
  unfold bnd
  split
  · simp; omega
  · split
    · simp
    · omega

set_option maxHeartbeats 400000 in
theorem on_any (w : World) (A : Option Addr) (l : List UInt8) (c : Nat) (hr : Rd w A l) (hb : l.length ≤ 140737488355328) :
    Calls Tryz.prog 12 #[.slice A l.length c] w fun e w' => ∃ br, e = .returned (.pointer (some ⟨br, 0, none⟩)) ∧ ReelAt w' br (Fresh w) l 0 ∧ Keep NoB w w' := by
  go_enter Tryz.func12, Tryz.ntmps12
  go_wp2_with (go_at_call 50; refine (clone_any w A l c hr hb).mono ?_; rintro e w1 ⟨v, rfl, hv1, hk1⟩; obtain ⟨A1, c1, rfl, hc1, hr1, hA1, hm1⟩ := hv1.form)
  go_ret
  refine ⟨w1.heap.size, rfl, ⟨hk1.size, Nat.zero_le _, A1, c1, Blk.new _ _ _, ?_, hc1, hm1, fun ad e => ?_⟩, hk1.alloc _⟩
  · exact hr1.keep ((Keep.refl NoB w1).alloc _) (fun _ _ _ => id)
  · refine ⟨(hA1 ad e).1, ?_⟩
    have := (hv1.1.lt ad.block (by rw [e]; rfl)).2
    simp; omega

set_option maxRecDepth 100000 in
set_option maxHeartbeats 1000000 in
theorem bounded_any (w : World) (br : Nat) (O : Nat → Prop) (l : List UInt8) (p most : Nat) (h : ReelAt w br O l p) (hlen : l.length ≤ 140737488355328) :
    Calls Tryz.prog 151 #[.pointer (some ⟨br, 0, none⟩), .int .u64 most] w fun e w' => e = NxR (bnd (nx (l.drop p)) most) ∧ Keep NoB w w' := by
  have hx := nx_width (l.drop p)
  go_enter Tryz.func151, Tryz.ntmps151
  go_wp2_with fail
  refine (next_any w br O l p h hlen).mono ?_
  rintro e w1 ⟨he, hk1⟩
  obtain ⟨⟨n, d, r⟩, hn⟩ : ∃ t, nx (l.drop p) = t := ⟨_, rfl⟩
  rw [hn] at he hx
  have HN := Lib.hid hn
  clear hn
  unfold NxR at he
  subst he
  by_cases hr : r = 0
  · have hr1 : ((r : Int) != 0) = false := by rw [bne_eq_false_iff_eq]; omega
    by_cases hm : most < n
    · go_wp2
      go_ret3
      exact ⟨by rw [HN.out]; unfold bnd NxR; simp [hr, hm], hk1⟩
    · go_wp2
      go_ret3
      exact ⟨by rw [HN.out]; unfold bnd NxR; simp [hr, hm], hk1⟩
  · have hr1 : ((r : Int) != 0) = true := by rw [bne_iff_ne]; omega
    go_wp2
    go_ret3
    exact ⟨by rw [HN.out]; unfold bnd NxR; simp [hr], hk1⟩

end Go.Proofs.YtbnekeomdhljhaaGreatDoor.V

namespace Go.Proofs.YtbnekeomdhljhaaGreatDoor.V
open Go.RowKit

/-- The Reel stands at another place; nothing else has turned. -/
theorem ReelAt.moved {w w1 : World} {br p : Nat} {O : Nat → Prop} {l : List UInt8} {q : Nat} {Q : Int} (h : ReelAt w br O l p) (hk : Keep NoB w w1) (hq : q ≤ l.length) (hQ : Q = q) :
    ReelAt (w1.setCell ⟨br, 1, none⟩ (.int .i64 Q)) br O l q ∧ Keep (fun k => k = br) w (w1.setCell ⟨br, 1, none⟩ (.int .i64 Q)) := by
  subst hQ
  obtain ⟨h1, h2, A, c, hb, hr, hc, hm, hA⟩ := h
  have hb1 := hb.keep hk id
  have hk2 : Keep (fun k => k = br) w (w1.setCell ⟨br, 1, none⟩ (.int .i64 q)) := (hk.mono (O' := fun k => k = br) (fun _ hf _ => hf.elim)).setCell (p := ⟨br, 1, none⟩) (fun _ => rfl) _
  refine ⟨⟨h1, hq, A, c, hb1.put 1 _, ?_, hc, hm, fun ad e => ⟨(hA ad e).1, Nat.lt_of_lt_of_le (hA ad e).2 hk2.size⟩⟩, hk2⟩
  intro h0
  obtain ⟨ad, e, hcell⟩ := hr h0
  refine ⟨ad, e, fun j u hu => ?_⟩
  have hcu := hk.cell (hcell j u hu) id
  have hne : (⟨br, 1, none⟩ : Addr) ≠ ad.add j := by
    intro e'
    rw [← e'] at hcu
    have hb2 := hb1.cell 1
    rw [hb2] at hcu
    simp at hcu
    subst hcu
    have := (List.getElem?_eq_some_iff.1 hu)
    obtain ⟨hj, hju⟩ := this
    simp at hju
  exact (World.cell?_setCell_other _ _ _ _ hne).trans hcu

/-- What Number answers, and the place behind it. -/
def NumR (l : List UInt8) (p most : Nat) : Nat × Nat × Nat := ((bnd (nx (l.drop p)) most).1, (bnd (nx (l.drop p)) most).2.2, p + (bnd (nx (l.drop p)) most).2.1)

/-- A reading method's end. -/
def Reads (w : World) (br : Nat) (O : Nat → Prop) (l : List UInt8) (q : Nat) (v : Value) (er : Nat) (e : Ending) (w' : World) : Prop :=
  e = .returned (.tuple #[v, .int .i64 er]) ∧ ReelAt w' br O l q ∧ Keep (fun k => k = br) w w'

theorem bnd_zero (l : List UInt8) (most : Nat) (h : (bnd (nx l) most).2.2 ≠ 0) : (bnd (nx l) most).1 = 0 ∧ (bnd (nx l) most).2.1 = 0 := by
  unfold bnd at h ⊢
  split
  · exact ⟨rfl, rfl⟩
  · rename_i h1
    split
    · exact ⟨rfl, rfl⟩
    · rename_i h2
      rw [if_neg h1, if_neg h2] at h
      exact absurd h h1

theorem ReelAt.cells {w : World} {br p : Nat} {O : Nat → Prop} {l : List UInt8} (h : ReelAt w br O l p) : ∃ A c, Blk w br 90 #[.slice A l.length c, .int .i64 p] ∧ Rd w A l ∧ l.length ≤ c ∧ c ≤ maxLen ∧ ∀ ad, A = some ad → O ad.block ∧ ad.block < w.heap.size := h.2.2

set_option maxRecDepth 100000 in
set_option maxHeartbeats 1000000 in
theorem rnumber_any (w : World) (br : Nat) (O : Nat → Prop) (l : List UInt8) (p most : Nat) (h : ReelAt w br O l p) (hlen : l.length ≤ 140737488355328) :
    Calls Tryz.prog 113 #[.pointer (some ⟨br, 0, none⟩), .int .u64 most] w (Reads w br O l (NumR l p most).2.2 (.int .u64 (NumR l p most).1) (NumR l p most).2.1) := by
  have hx := bnd_width (l.drop p) most
  have hz := bnd_zero (l.drop p) most
  have hp := h.2.1
  rw [List.length_drop] at hx
  have hbd := bounded_any w br O l p most h hlen
  unfold NumR
  obtain ⟨⟨n, d, r⟩, hn⟩ : ∃ t, bnd (nx (l.drop p)) most = t := ⟨_, rfl⟩
  rw [hn] at hx hz hbd ⊢
  clear hn
  dsimp only at hx hz ⊢
  unfold NxR at hbd
  dsimp only at hbd
  have HB := Lib.hid hbd
  clear hbd
  by_cases hr : r = 0
  · subst hr
    clear hz
    go_enter Tryz.func113, Tryz.ntmps113
    go_wp2_with fail
    refine HB.out.mono ?_
    rintro e w1 ⟨rfl, hk1⟩
    have h1 := h.keep hk1 (fun _ _ => id)
    obtain ⟨A, c, hb1, _⟩ := h1.cells
    have q1 := hb1.cell 1
    have f1 := hb1.frozen 1
    simp at q1
    go_wp2
    go_ret2
    exact ⟨rfl, h.moved hk1 (by omega) (by omega)⟩
  · have hr1 : ((r : Int) != 0) = true := by rw [bne_iff_ne]; omega
    obtain ⟨rfl, rfl⟩ := hz hr
    clear hz
    go_enter Tryz.func113, Tryz.ntmps113
    go_wp2_with fail
    refine HB.out.mono ?_
    rintro e w1 ⟨rfl, hk1⟩
    go_wp2
    go_ret2
    exact ⟨rfl, h.keep hk1 (fun _ _ => id), hk1.mono (fun _ hf _ => hf.elim)⟩

/-- What Signed answers, and the place behind it. -/
def SigR (l : List UInt8) (p : Nat) (lo hi : Int) : Int × Nat × Nat :=
  if (nx (l.drop p)).2.2 ≠ 0 then (0, (nx (l.drop p)).2.2, p) else if zag (nx (l.drop p)).1 < lo ∨ hi < zag (nx (l.drop p)).1 then (0, 12, p) else (zag (nx (l.drop p)).1, 0, p + (nx (l.drop p)).2.1)

set_option maxRecDepth 100000 in
set_option maxHeartbeats 1000000 in
theorem rsigned_any (w : World) (br : Nat) (O : Nat → Prop) (l : List UInt8) (p : Nat) (lo hi : Int) (h : ReelAt w br O l p) (hlen : l.length ≤ 140737488355328) :
    Calls Tryz.prog 185 #[.pointer (some ⟨br, 0, none⟩), .int .i64 lo, .int .i64 hi] w (Reads w br O l (SigR l p lo hi).2.2 (.int .i64 (SigR l p lo hi).1) (SigR l p lo hi).2.1) := by
  have hx := nx_width (l.drop p)
  have hp := h.2.1
  rw [List.length_drop] at hx
  have hnx := next_any w br O l p h hlen
  unfold SigR
  obtain ⟨⟨n, d, r⟩, hn⟩ : ∃ t, nx (l.drop p) = t := ⟨_, rfl⟩
  rw [hn] at hx hnx ⊢
  clear hn
  dsimp only at hx ⊢
  unfold NxR at hnx
  dsimp only at hnx
  have HB := Lib.hid hnx
  clear hnx
  by_cases hr : r = 0
  · subst hr
    obtain ⟨hx1, hx2, _, hn64⟩ := hx
    have hz1 := zag_ge n hn64
    have hz2 := zag_le n hn64
    have HZ := Lib.hid (fun w => zag_any n w hn64)
    clear hn64
    rw [if_neg (by simp)]
    by_cases hlo : zag n < lo
    · rw [if_pos (.inl hlo)]
      go_enter Tryz.func185, Tryz.ntmps185
      go_wp2_with fail
      refine HB.out.mono ?_
      rintro e w1 ⟨rfl, hk1⟩
      go_wp2_with fail
      refine (HZ.out _).mono ?_
      rintro e w2 ⟨rfl, rfl⟩
      go_wp2
      go_ret2
      exact ⟨rfl, h.keep hk1 (fun _ _ => id), hk1.mono (fun _ hf _ => hf.elim)⟩
    · by_cases hhi : hi < zag n
      · rw [if_pos (.inr hhi)]
        go_enter Tryz.func185, Tryz.ntmps185
        go_wp2_with fail
        refine HB.out.mono ?_
        rintro e w1 ⟨rfl, hk1⟩
        go_wp2_with fail
        refine (HZ.out _).mono ?_
        rintro e w2 ⟨rfl, rfl⟩
        go_wp2
        go_ret2
        exact ⟨rfl, h.keep hk1 (fun _ _ => id), hk1.mono (fun _ hf _ => hf.elim)⟩
      · rw [if_neg (by omega)]
        go_enter Tryz.func185, Tryz.ntmps185
        go_wp2_with fail
        refine HB.out.mono ?_
        rintro e w1 ⟨rfl, hk1⟩
        have h1 := h.keep hk1 (fun _ _ => id)
        obtain ⟨A, c, hb1, _⟩ := h1.cells
        have q1 := hb1.cell 1
        have f1 := hb1.frozen 1
        simp at q1
        go_wp2_with fail
        refine (HZ.out _).mono ?_
        rintro e w2 ⟨rfl, rfl⟩
        go_wp2
        go_ret2
        exact ⟨rfl, h.moved hk1 (by omega) (by omega)⟩
  · have hr1 : ((r : Int) != 0) = true := by rw [bne_iff_ne]; omega
    rw [if_pos hr]
    go_enter Tryz.func185, Tryz.ntmps185
    go_wp2_with fail
    refine HB.out.mono ?_
    rintro e w1 ⟨rfl, hk1⟩
    go_wp2
    go_ret2
    exact ⟨rfl, h.keep hk1 (fun _ _ => id), hk1.mono (fun _ hf _ => hf.elim)⟩

set_option maxHeartbeats 400000 in
theorem at_any (w : World) (br : Nat) (O : Nat → Prop) (l : List UInt8) (p : Nat) (h : ReelAt w br O l p) :
    Calls Tryz.prog 21 #[.pointer (some ⟨br, 0, none⟩)] w fun e w' => e = .returned (.int .i64 p) ∧ w = w' := by
  obtain ⟨A, c, hb1, _⟩ := h.cells
  have q1 := hb1.cell 1
  simp at q1
  go_enter Tryz.func21, Tryz.ntmps21
  go_wp2
  go_ret
  exact ⟨rfl, rfl⟩

end Go.Proofs.YtbnekeomdhljhaaGreatDoor.V

namespace Go.Proofs.YtbnekeomdhljhaaGreatDoor.V
open Go.RowKit

/-- Bytes were taken, or there were too few of them. -/
def Taken (w : World) (br : Nat) (O : Nat → Prop) (l : List UInt8) (p fr : Nat) (S : Int) (e : Ending) (w' : World) : Prop :=
  ((l.length : Int) - fr < S ∧ e = .returned (.tuple #[.slice none 0 0, .int .i64 10]) ∧ ReelAt w' br O l p ∧ Keep NoB w w') ∨
  (S ≤ (l.length : Int) - fr ∧ ∃ A c, e = .returned (.tuple #[.slice A S.toNat c, .int .i64 0]) ∧ OwnB w' (Fresh w) (.slice A S.toNat c) ((l.drop fr).take S.toNat) ∧ ReelAt w' br O l (fr + S.toNat) ∧ Keep (fun k => k = br) w w')

set_option maxRecDepth 100000 in
set_option maxHeartbeats 1000000 in
theorem take_any (w : World) (br : Nat) (O : Nat → Prop) (l : List UInt8) (p fr : Nat) (S : Int) (h : ReelAt w br O l p) (hlen : l.length ≤ 140737488355328) (hfr : fr ≤ l.length) (hS0 : 0 ≤ S) (hS1 : S ≤ 9223372036854775807) :
    Calls Tryz.prog 152 #[.pointer (some ⟨br, 0, none⟩), .int .i64 fr, .int .i64 S] w (Taken w br O l p fr S) := by
  obtain ⟨A, c, hb, hr, hc, hm, hA⟩ := h.cells
  unfold maxLen at hm
  have hk0 : Keep NoB w (w.alloc (.cells #[.slice none 0 0] 242)) := (Keep.refl NoB w).alloc _
  have hb0 := hb.keep hk0 id
  have hr0 := hr.keep hk0 (fun _ _ _ => id)
  have hs0 := Blk.new w 242 #[.slice none 0 0]
  have hlt := hb.lt
  go_enter Tryz.func152, Tryz.ntmps152
  go_wp2_with fail
  refine (look_set _ br w.heap.size p fr (.slice none 0 0) S A l c hb0 hr0 hc hs0 hlen hm hfr hS0 hS1).mono ?_
  rintro e w1 (⟨hsh, rfl, hk1⟩ | ⟨hle, rfl, ⟨v, hs1, hv1⟩, hk1⟩)
  · have hk01 := hk0.trans hk1 (fun _ hf _ => hf.elim)
    go_wp2
    go_ret2
    exact .inl ⟨hsh, rfl, h.keep hk01 (fun _ _ => id), hk01⟩
  · obtain ⟨s, rfl⟩ := Int.eq_ofNat_of_zero_le hS0
    have hk01 : Keep NoB w w1 := hk0.trans hk1 (fun k e hk => by omega)
    have hb1 := hb0.keep hk1 (by omega)
    obtain ⟨A1, c1, rfl, _⟩ := hv1.form
    rw [Int.toNat_natCast] at hv1 hs1
    have hpl : ((l.drop fr).take s).length = s := by simp; omega
    rw [hpl] at hs1 hv1
    have q0 := hs1.cell 0
    have q1 := hb1.cell 1
    have f1 := hb1.frozen 1
    have hne : w.heap.size ≠ br := by omega
    have hne2 : ∀ g, (Value.slice A1 s c1).ownBlock = some g → g ≠ br := fun g e => by have := hv1.2 g e; unfold Fresh at this; simp at this; omega
    simp at q0 q1
    go_wp2
    go_ret2
    obtain ⟨m1, m2⟩ := h.moved (q := fr + s) (Q := (fr : Int) + s) hk01 (by omega) (by omega)
    refine .inr ⟨hle, A1, c1, rfl, ?_, m1, m2⟩
    exact (hv1.mono (O' := Fresh w) (fun k hk _ => by unfold Fresh at hk ⊢; simp at hk; omega)).keep (O' := fun k => k = br) ((Keep.refl (fun k => k = br) w1).setCell (p := ⟨br, 1, none⟩) (fun _ => rfl) _) (fun k hk e => by unfold Fresh at hk; omega)

theorem bounded_at (w : World) (br : Nat) (O : Nat → Prop) (l : List UInt8) (p most : Nat) (N : Int) (h : ReelAt w br O l p) (hlen : l.length ≤ 140737488355328) (hN : N = most) :
    Calls Tryz.prog 151 #[.pointer (some ⟨br, 0, none⟩), .int .u64 N] w fun e w' => e = NxR (bnd (nx (l.drop p)) most) ∧ Keep NoB w w' := by
  subst hN; exact bounded_any w br O l p most h hlen

theorem bnd_le (r : Nat × Nat × Nat) (most : Nat) : (bnd r most).1 ≤ most := by
  unfold bnd
  split
  · exact Nat.zero_le _
  · rename_i h1
    split
    · exact Nat.zero_le _
    · omega

/-- What Bytes leaves. -/
def BytesP (w : World) (br : Nat) (O : Nat → Prop) (l : List UInt8) (p : Nat) (b : Nat × Nat × Nat) (e : Ending) (w' : World) : Prop :=
  (b.2.2 ≠ 0 ∧ e = .returned (.tuple #[.slice none 0 0, .int .i64 b.2.2]) ∧ ReelAt w' br O l p ∧ Keep NoB w w') ∨ (b.2.2 = 0 ∧ Taken w br O l p (p + b.2.1) b.1 e w')

theorem Taken.from {w w1 w' : World} {br : Nat} {O : Nat → Prop} {l : List UInt8} {p fr : Nat} {S : Int} {e : Ending} (hk : Keep NoB w w1) (h : Taken w1 br O l p fr S e w') : Taken w br O l p fr S e w' := by
  rcases h with ⟨h1, h2, h3, h4⟩ | ⟨h1, A, c, h2, h3, h4, h5⟩
  · exact .inl ⟨h1, h2, h3, keepN hk h4⟩
  · exact .inr ⟨h1, A, c, h2, h3.mono (fun k hk' _ => Nat.le_trans hk.size hk'), h4, hk.mono (O' := fun k => k = br) (fun _ hf _ => hf.elim) |>.trans h5 (fun k e _ => e)⟩

set_option maxRecDepth 100000 in
set_option maxHeartbeats 1000000 in
theorem rbytes_any (w : World) (br : Nat) (O : Nat → Prop) (l : List UInt8) (p : Nat) (most : Int) (h : ReelAt w br O l p) (hlen : l.length ≤ 140737488355328) (hm1 : -9223372036854775808 ≤ most) (hm2 : most ≤ 9223372036854775807) :
    Calls Tryz.prog 107 #[.pointer (some ⟨br, 0, none⟩), .int .i64 most] w (BytesP w br O l p (bnd (nx (l.drop p)) (max most 0).toNat)) := by
  have hx := bnd_width (l.drop p) (max most 0).toNat
  have hle := bnd_le (nx (l.drop p)) (max most 0).toNat
  have hp := h.2.1
  rw [List.length_drop] at hx
  have HB := Lib.hid (bounded_at w br O l p (max most 0).toNat (max most 0) h hlen (by omega))
  obtain ⟨b, hb⟩ : ∃ b, bnd (nx (l.drop p)) (max most 0).toNat = b := ⟨_, rfl⟩
  rw [hb] at hx hle HB ⊢
  clear hb
  obtain ⟨n, d, r⟩ := b
  dsimp only at hx hle
  by_cases hr : r = 0
  · subst hr
    have hn := hle
    clear hle
    obtain ⟨hx1, hx2, hx3, _⟩ := hx
    go_enter Tryz.func107, Tryz.ntmps107
    go_wp2_with fail
    refine HB.out.mono ?_
    rintro e w1 ⟨he, hk1⟩
    unfold NxR at he
    subst he
    have h1 := h.keep hk1 (fun _ _ => id)
    obtain ⟨A, c, hb1, _⟩ := h1.cells
    have q1 := hb1.cell 1
    simp at q1
    clear hb1
    go_wp2_with fail
    have HT := fun (F S : Int) (hF : F = ((p + d : Nat) : Int)) (hS : S = (n : Int)) => (show Calls Tryz.prog 152 #[.pointer (some ⟨br, 0, none⟩), .int .i64 F, .int .i64 S] w1 (Taken w1 br O l p (p + d) n) by subst hF hS; exact take_any w1 br O l p (p + d) n h1 hlen (by omega) (by omega) (by omega))
    refine (HT _ _ (by omega) (by omega)).mono ?_
    clear HT
    intro e w2 ht
    have ht' := Taken.from hk1 ht
    clear ht
    rcases ht' with ⟨h1', rfl, h3, h4⟩ | ⟨h1', A2, c2, rfl, h3, h4, h5⟩
    · go_wp2
      go_ret2
      exact .inr ⟨rfl, .inl ⟨h1', rfl, h3, h4⟩⟩
    · go_wp2
      go_ret2
      exact .inr ⟨rfl, .inr ⟨h1', A2, c2, rfl, h3, h4, h5⟩⟩
  · have hr1 : ((r : Int) != 0) = true := by rw [bne_iff_ne]; omega
    clear hle hx
    go_enter Tryz.func107, Tryz.ntmps107
    go_wp2_with fail
    refine HB.out.mono ?_
    rintro e w1 ⟨he, hk1⟩
    unfold NxR at he
    subst he
    go_wp2
    go_ret2
    exact .inl ⟨hr, rfl, h.keep hk1 (fun _ _ => id), hk1⟩

set_option maxRecDepth 100000 in
set_option maxHeartbeats 1000000 in
theorem rraw_any (w : World) (br : Nat) (O : Nat → Prop) (l : List UInt8) (p : Nat) (n : Int) (h : ReelAt w br O l p) (hlen : l.length ≤ 140737488355328) (hm2 : n ≤ 9223372036854775807) :
    Calls Tryz.prog 153 #[.pointer (some ⟨br, 0, none⟩), .int .i64 n] w fun e w' =>
      (n < 0 ∧ e = .returned (.tuple #[.slice none 0 0, .int .i64 2]) ∧ ReelAt w' br O l p ∧ Keep NoB w w') ∨ (0 ≤ n ∧ Taken w br O l p p n e w') := by
  by_cases hn : n < 0
  · go_enter Tryz.func153, Tryz.ntmps153
    go_wp2
    go_ret2
    exact .inl ⟨hn, rfl, h, Keep.refl _ _⟩
  · have hp := h.2.1
    obtain ⟨A, c, hb1, _⟩ := h.cells
    have q1 := hb1.cell 1
    simp at q1
    clear hb1
    go_enter Tryz.func153, Tryz.ntmps153
    go_wp2_with fail
    refine (take_any w br O l p p n h hlen hp (by omega) hm2).mono ?_
    rintro e w2 (⟨h1', rfl, h3, h4⟩ | ⟨h1', A2, c2, rfl, h3, h4, h5⟩)
    · go_wp2
      go_ret2
      exact .inr ⟨by omega, .inl ⟨h1', rfl, h3, h4⟩⟩
    · go_wp2
      go_ret2
      exact .inr ⟨by omega, .inr ⟨h1', A2, c2, rfl, h3, h4, h5⟩⟩

end Go.Proofs.YtbnekeomdhljhaaGreatDoor.V

namespace Go.Proofs.YtbnekeomdhljhaaGreatDoor.V
open Go.RowKit

/-- The document's own Reel at block br that has the bytes l and the place p; all its blocks are of O. -/
def RefAt (w : World) (br : Nat) (O : Nat → Prop) (l : List UInt8) (p : Nat) : Prop :=
  O br ∧ p ≤ l.length ∧ ∃ A c, Blk w br 41 #[.slice A l.length c, .int .i64 p] ∧ Rd w A l ∧ l.length ≤ c ∧ c ≤ maxLen ∧ ∀ ad, A = some ad → O ad.block ∧ ad.block < w.heap.size

theorem RefAt.keep {w w' : World} {br p : Nat} {O O' : Nat → Prop} {l : List UInt8} (h : RefAt w br O l p) (hk : Keep O' w w') (hn : ∀ k, O k → ¬ O' k) : RefAt w' br O l p := by
  obtain ⟨h1, h2, A, c, hb, hr, hc, hm, hA⟩ := h
  exact ⟨h1, h2, A, c, hb.keep hk (hn _ h1), hr.keep hk (fun ad e _ => hn _ (hA ad e).1), hc, hm, fun ad e => ⟨(hA ad e).1, Nat.lt_of_lt_of_le (hA ad e).2 hk.size⟩⟩
theorem RefAt.mono {w : World} {br p : Nat} {O O' : Nat → Prop} {l : List UInt8} (h : RefAt w br O l p) (hO : ∀ k, O k → k < w.heap.size → O' k) : RefAt w br O' l p := by
  obtain ⟨h1, h2, A, c, hb, hr, hc, hm, hA⟩ := h
  exact ⟨hO _ h1 hb.lt, h2, A, c, hb, hr, hc, hm, fun ad e => ⟨hO _ (hA ad e).1 (hA ad e).2, (hA ad e).2⟩⟩

/-- The Reel stands at another place; nothing else has turned. -/
theorem RefAt.moved {w w1 : World} {br p : Nat} {O : Nat → Prop} {l : List UInt8} {q : Nat} {Q : Int} (h : RefAt w br O l p) (hk : Keep NoB w w1) (hq : q ≤ l.length) (hQ : Q = q) :
    RefAt (w1.setCell ⟨br, 1, none⟩ (.int .i64 Q)) br O l q ∧ Keep (fun k => k = br) w (w1.setCell ⟨br, 1, none⟩ (.int .i64 Q)) := by
  subst hQ
  obtain ⟨h1, h2, A, c, hb, hr, hc, hm, hA⟩ := h
  have hb1 := hb.keep hk id
  have hk2 : Keep (fun k => k = br) w (w1.setCell ⟨br, 1, none⟩ (.int .i64 q)) := (hk.mono (O' := fun k => k = br) (fun _ hf _ => hf.elim)).setCell (p := ⟨br, 1, none⟩) (fun _ => rfl) _
  refine ⟨⟨h1, hq, A, c, hb1.put 1 _, ?_, hc, hm, fun ad e => ⟨(hA ad e).1, Nat.lt_of_lt_of_le (hA ad e).2 hk2.size⟩⟩, hk2⟩
  intro h0
  obtain ⟨ad, e, hcell⟩ := hr h0
  refine ⟨ad, e, fun j u hu => ?_⟩
  have hcu := hk.cell (hcell j u hu) id
  have hne : (⟨br, 1, none⟩ : Addr) ≠ ad.add j := by
    intro e'
    rw [← e'] at hcu
    have hb2 := hb1.cell 1
    rw [hb2] at hcu
    simp at hcu
    subst hcu
    have := (List.getElem?_eq_some_iff.1 hu)
    obtain ⟨hj, hju⟩ := this
    simp at hju
  exact (World.cell?_setCell_other _ _ _ _ hne).trans hcu

theorem RefAt.cells {w : World} {br p : Nat} {O : Nat → Prop} {l : List UInt8} (h : RefAt w br O l p) : ∃ A c, Blk w br 41 #[.slice A l.length c, .int .i64 p] ∧ Rd w A l ∧ l.length ≤ c ∧ c ≤ maxLen ∧ ∀ ad, A = some ad → O ad.block ∧ ad.block < w.heap.size := h.2.2

/-- The number as it is summed: the first byte without its mark, and the i - 1 bytes behind it. -/
def sm (b : UInt8) (r : List UInt8) (i : Nat) : Nat := (b.toNat - mk (td b.toNat)) * 256 ^ (i - 1) + vl (r.take (i - 1))

theorem sm_one (b : UInt8) (r : List UInt8) : sm b r 1 = b.toNat - mk (td b.toNat) := by simp [sm, vl]
theorem sm_step (b : UInt8) (r : List UInt8) (i : Nat) (h1 : 1 ≤ i) (h : i - 1 < r.length) : sm b r (i + 1) = 256 * sm b r i + r[i - 1].toNat := by
  obtain ⟨k, rfl⟩ : ∃ k, i = k + 1 := ⟨i - 1, by omega⟩
  unfold sm
  simp only [Nat.add_sub_cancel] at h ⊢
  rw [List.take_succ_eq_append_getElem h, vl_snoc, Nat.pow_succ, Nat.mul_add, Nat.mul_comm (vl _) 256, ← Nat.add_assoc]
  congr 2
  ac_rfl
theorem sm_lt (b : UInt8) (r : List UInt8) (i : Nat) (h1 : 1 ≤ i) (h : i ≤ td b.toNat) : sm b r i < 18446744073709551616 := by
  have hb := b.toNat_lt
  obtain ⟨t1, t9, hm, hr, _, _⟩ := td_rng b.toNat (by simpa using hb)
  have hv := vl_lt (r.take (i - 1))
  have hv2 : 256 ^ (r.take (i - 1)).length ≤ 256 ^ (i - 1) := Nat.pow_le_pow_right (by omega) (by rw [List.length_take]; omega)
  have hp : 256 ^ (i - 1) ≤ 256 ^ (td b.toNat - 1) := Nat.pow_le_pow_right (by omega) (by omega)
  have hs : sm b r i < (b.toNat - mk (td b.toNat) + 1) * 256 ^ (i - 1) := by unfold sm; rw [Nat.add_mul]; omega
  have hx : (b.toNat - mk (td b.toNat) + 1) * 256 ^ (i - 1) ≤ 2 ^ (8 - td b.toNat) * 256 ^ (td b.toNat - 1) := Nat.mul_le_mul hr hp
  have hy : ∀ t : Fin 10, 1 ≤ t.1 → 2 ^ (8 - t.1) * 256 ^ (t.1 - 1) ≤ 18446744073709551616 := by decide
  have := hy ⟨td b.toNat, by omega⟩ t1
  dsimp only at this
  omega
theorem sm_dc (b : UInt8) (r : List UInt8) (h : td b.toNat ≤ r.length + 1) : sm b r (td b.toNat) = dc (td b.toNat) ((b :: r).take (td b.toNat)) := by
  have hb := b.toNat_lt
  obtain ⟨t1, t9, hm, hr, _, _⟩ := td_rng b.toNat (by simpa using hb)
  obtain ⟨k, hk⟩ : ∃ k, td b.toNat = k + 1 := ⟨td b.toNat - 1, by omega⟩
  unfold sm dc
  rw [hk] at h hm ⊢
  rw [List.take_succ_cons, vl_cons, Nat.add_sub_cancel, List.length_take, Nat.min_eq_left (by omega), Nat.sub_mul]
  have := Nat.mul_le_mul_right (256 ^ k) hm
  omega

theorem bit_step (b i : Nat) (hb : b < 256) (h1 : 1 ≤ i) (hi : i ≤ td b) :
    (i < td b → 0 < 256 / 2 ^ i ∧ 256 / 2 ^ i ≤ b - mk i ∧ b - mk i - 256 / 2 ^ i = b - mk (i + 1) ∧ 256 / 2 ^ (i + 1) = 256 / 2 ^ i / 2) ∧ (i = td b → 256 / 2 ^ i = 0 ∨ b - mk i < 256 / 2 ^ i) := by
  have : ∀ b : Fin 256, ∀ i : Fin 10, 1 ≤ i.1 → i.1 ≤ td b.1 → (i.1 < td b.1 → 0 < 256 / 2 ^ i.1 ∧ 256 / 2 ^ i.1 ≤ b.1 - mk i.1 ∧ b.1 - mk i.1 - 256 / 2 ^ i.1 = b.1 - mk (i.1 + 1) ∧ 256 / 2 ^ (i.1 + 1) = 256 / 2 ^ i.1 / 2) ∧ (i.1 = td b.1 → 256 / 2 ^ i.1 = 0 ∨ b.1 - mk i.1 < 256 / 2 ^ i.1) := by decide +kernel
  have h9 := (td_rng b hb).2.1
  exact this ⟨b, hb⟩ ⟨i, by omega⟩ h1 hi

end Go.Proofs.YtbnekeomdhljhaaGreatDoor.V

namespace Go.Proofs.YtbnekeomdhljhaaGreatDoor.V
open Go.RowKit

set_option maxRecDepth 100000 in
set_option maxHeartbeats 4000000 in
theorem reflook_any (w : World) (br : Nat) (O : Nat → Prop) (l : List UInt8) (p : Nat) (h : RefAt w br O l p) (hlen : l.length ≤ 140737488355328) (R : Nat × Nat × Nat) (hR : Hid (R = nx (l.drop p))) :
    Calls Tryz.prog 158 #[.pointer (some ⟨br, 0, none⟩)] w fun e w' => e = NxR R ∧ Keep NoB w w' := by
  obtain ⟨_, hp, A, c, hb, hr, hc, hm, hA⟩ := h
  unfold maxLen at hm
  have q0 := hb.cell 0
  have q1 := hb.cell 1
  simp at q0 q1
  by_cases hpl : p < l.length
  · obtain ⟨ad, rfl, hcell⟩ := hr (by omega)
    have hcb := hcell p (bv l[p]) (by simp [hpl])
    rw [drop_cons hpl] at hR
    obtain ⟨b, hbe⟩ : ∃ b, l[p] = b := ⟨_, rfl⟩
    obtain ⟨r, hre⟩ : ∃ r, l.drop (p + 1) = r := ⟨_, rfl⟩
    have hrl : r.length = l.length - (p + 1) := by rw [← hre, List.length_drop]
    have hri : Hid (∀ (i : Nat) (hi : i < r.length), w.cell? (ad.add (p + 1 + i)) = some (bv r[i])) := by
      show ∀ _ _, _
      intro i hi
      have := hcell (p + 1 + i) (bv r[i]) (by
        subst hre
        simp only [bvs, List.getElem?_map, List.getElem_drop]
        rw [List.getElem?_eq_getElem (by omega)]; rfl)
      exact this
    rw [hbe] at hcb hR
    rw [hre] at hR
    have hb8 : b.toNat < 256 := by simpa using b.toNat_lt
    obtain ⟨t1, t9, tm, _⟩ := td_rng b.toNat hb8
    obtain ⟨t, ht⟩ : ∃ t, td b.toNat = t := ⟨_, rfl⟩
    have HB := Lib.hid (fun i => bit_step b.toNat i hb8)
    have HSD := Lib.hid (sm_dc b r)
    have HSL := Lib.hid (sm_lt b r)
    have HSS := Lib.hid (sm_step b r)
    have HS1 := Lib.hid (sm_one b r)
    have HT := Lib.hid ht
    rw [ht] at t1 t9 tm HSD HSL HS1 HB
    have hp0 : (0 : Int) ≤ (p : Int) := by omega
    have hp1 : (p : Int) < (l.length : Int) := by omega
    go_enter Tryz.func158, Tryz.ntmps158
    go_wp2
    go_quiet (fail)
    go_wp2
    go_quiet (fail)
    go_wp2
    go_loop [5, 6, 7] (fun i cc b' => ∃ (j C B : Nat), 1 ≤ j ∧ j ≤ t ∧ Hid (C = b.toNat - mk j ∧ B = 256 / 2 ^ j) ∧ C ≤ 255 ∧ B ≤ 256 ∧ i = .int .i64 (j : Int) ∧ cc = .int .i64 (C : Int) ∧ b' = .int .i64 (B : Int)) (fun i _ _ => t - (intOf i).toNat)
    case atStart => exact ⟨1, b.toNat, 128, by omega, t1, by show _ ∧ _; rw [mk_vals.1]; exact ⟨rfl, rfl⟩, by omega, by omega, rfl, rfl, rfl⟩
    case round =>
      obtain ⟨j, C, B, hj1, hj, hCB, hC, hB, rfl, rfl, rfl⟩ := hrel
      obtain ⟨s1, s2⟩ := HB.out j hj1 hj
      obtain ⟨eC, eB⟩ := hCB.out
      rw [← eC, ← eB] at s1 s2
      by_cases hjt : j < t
      · obtain ⟨s3, s4, s5, s6⟩ := s1 hjt
        have HS : Hid (C - B = b.toNat - mk (j + 1) ∧ B / 2 = 256 / 2 ^ (j + 1)) := ⟨s5, s6.symm⟩
        clear s1 s2 s5 s6 eC eB
        have hgt : (0 : Int) < (B : Int) := by omega
        have hge : (B : Int) ≤ (C : Int) := by omega
        go_wp2
        go_round
        case rel => exact ⟨_, _, _, ⟨j + 1, by omega, by omega, C - B, B / 2, HS, by omega, by omega, rfl, rfl, rfl⟩, by go_num, by go_num, by go_num⟩
        case measure => simp [intOf]; omega
      · obtain rfl : j = t := by omega
        have hex := s2 rfl
        have hS1 : Hid (C = sm b r 1) := by show _ = _; rw [HS1.out]; exact eC
        clear s1 s2 eC eB hCB HS1 HB
        have hw1 : IntKind.i64.wrap ((p : Int) + (j : Int)) = (p : Int) + (j : Int) := IntWalk.i64_in _ (by omega)
        by_cases hsh : r.length + 1 < j
        · have hR' : R = (0, 0, 10) := by
            rw [hR.out, nx_cons, HT.out, if_pos hsh]
          subst hR'
          have hgt : (l.length : Int) < (p : Int) + (j : Int) := by omega
          clear tm
          rcases hex with hex | hex
          · subst hex
            go_wp2
            go_quiet (fail)
            go_wp2
            go_ret3
            exact ⟨rfl, ((Keep.refl _ _).drewN _).drewN _⟩
          · go_wp2
            go_quiet (fail)
            go_wp2
            go_ret3
            exact ⟨rfl, ((Keep.refl _ _).drewN _).drewN _⟩
        · have hng : ¬ (l.length : Int) < (p : Int) + (j : Int) := by omega
          have hcp : ¬ c = p := by omega
          have hD := HSD.out (by omega)
          have HDW := Lib.hid (dc_width b (r.take (j - 1)) j HT.out.symm (by rw [List.length_take]; omega))
          have hRc : Hid (R = if wd (sm b r j) < j then (0, 0, 11) else (sm b r j, j, 0)) := by
            show _ = _
            rw [hR.out, nx_cons, HT.out, if_neg hsh, hD]
          have hbt : (b :: r).take j = b :: r.take (j - 1) := by
            obtain ⟨k, rfl⟩ : ∃ k, j = k + 1 := ⟨j - 1, by omega⟩
            rw [List.take_succ_cons, Nat.add_sub_cancel]
          rw [hbt] at hD
          rw [← hD] at HDW
          have HPT : Hid ((l.drop p).take j = b :: r.take (j - 1)) := by
            show _ = _
            rw [drop_cons hpl, hbe, hre, hbt]
          have hpt2 : ((l.drop p).take j).length = j := by rw [List.length_take, List.length_drop]; omega
          have hparts := Lib.hid (fun (w' : World) (hk : Keep NoB w w') => by
            have hp := (hr.keep hk (fun _ _ _ => id)).part (c := c) (k := p) (m := j) hc
            rw [if_neg hcp] at hp
            have h := conv_rd (c := c - p) hp
            rw [hpt2, HPT.out] at h
            exact h)
          have HQ := Lib.hid (fun (w' : World) (hk : Keep NoB w w') => (⟨hk.cell q0 id, hk.cell q1 id⟩ : w'.cell? ⟨br, 0, none⟩ = some (.slice (some ad) l.length c) ∧ w'.cell? ⟨br, 1, none⟩ = some (.int .i64 (p : Int))))
          have HRI := Lib.hid (fun (w' : World) (hk : Keep NoB w w') (i : Nat) (hi : i < r.length) => hk.cell (hri.out i hi) id)
          clear hbt hD HPT hpt2 hR HSD hcell hr hbe hre hri hcb tm
          rcases hex with hex | hex
          all_goals
            try subst hex
            go_wp2
            go_quiet (fail)
            go_wp2
            go_loopw [8, 9] (fun n i wr => ∃ (k S : Nat), 1 ≤ k ∧ k ≤ j ∧ Hid (S = sm b r k) ∧ S < 18446744073709551616 ∧ n = .int .u64 (S : Int) ∧ i = .int .i64 (k : Int) ∧ Keep NoB w wr) (fun _ i _ => j - (intOf i).toNat)
            case atStart => exact ⟨1, C, Nat.le_refl _, hj1, hS1, by omega, rfl, rfl, (Keep.refl _ _).drewN _⟩
            case round =>
              clear q0 q1
              obtain ⟨k, S, hk1, hkj, hS, hS64, rfl, rfl, hK⟩ := hrel
              by_cases hlt : k < j
              · have hkr : k - 1 < r.length := by omega
                have hnext := HSS.out k hk1 hkr
                have hsm := HSL.out (k + 1) (by omega) (by omega)
                have hcx := HRI.out _ hK (k - 1) hkr
                rw [show p + 1 + (k - 1) = p + k by omega] at hcx
                obtain ⟨d, hd⟩ : ∃ d, r[k - 1] = d := ⟨_, rfl⟩
                rw [hd] at hnext hcx
                rw [hnext, ← hS.out] at hsm
                have hS' : Hid (256 * S + d.toNat = sm b r (k + 1)) := by show _ = _; rw [hnext, hS.out]
                clear hnext hd
                obtain ⟨q0, q1⟩ := HQ.out _ hK
                have hi0 : (0 : Int) ≤ (p : Int) + (k : Int) := by omega
                have hi1 : (p : Int) + (k : Int) < (l.length : Int) := by omega
                have hi2 : ((p : Int) + (k : Int)).toNat = p + k := by omega
                have hwi : IntKind.i64.wrap ((p : Int) + (k : Int)) = (p : Int) + (k : Int) := IntWalk.i64_in _ (by omega)
                have hwm : IntKind.u64.wrap (256 * (S : Int)) = 256 * (S : Int) := by rw [IntKind.wrap_u64]; omega
                have hws : IntKind.u64.wrap (256 * (S : Int) + (d.toNat : Int)) = 256 * (S : Int) + (d.toNat : Int) := by rw [IntKind.wrap_u64]; omega
                go_wp2
                go_quiet (fail)
                go_wp2
                go_roundw
                case rel => exact ⟨k + 1, 256 * S + d.toNat, by omega, by omega, hS', by omega, by go_num, by go_num, hK.drewN _⟩
                case measure => simp [intOf]; omega
              · obtain rfl : k = j := by omega
                obtain ⟨q0, q1⟩ := HQ.out _ hK
                have hRS : Hid (R = if wd S < k then (0, 0, 11) else (S, k, 0)) := by show _ = _; rw [hRc.out, hS.out]
                have HDS := HDW.out
                rw [← hS.out] at HDS
                have hi0 : (0 : Int) ≤ (p : Int) + (k : Int) := by omega
                have hi1 : (p : Int) + (k : Int) ≤ (c : Int) := by omega
                have hi2 : ((p : Int) + (k : Int)).toNat = p + k := by omega
                have hwi : IntKind.i64.wrap ((p : Int) + (k : Int)) = (p : Int) + (k : Int) := IntWalk.i64_in _ (by omega)
                obtain ⟨pt, hpt⟩ : ∃ pt, b :: r.take (k - 1) = pt := ⟨_, rfl⟩
                rw [hpt] at hparts HDS
                clear hpt hRc HDW hS HSS HSL HRI hS1
                have hi3 : (p : Int) ≤ (p : Int) + (k : Int) := by omega
                have hcs : (c : Int) ≤ 9223372036854775807 := by omega
                have hkc : p + k - p = k := by omega
                have HS64 := Lib.hid hS64
                by_cases heq : wd S = k
                · have he : encL S = pt := HDS.2.1 heq
                  have hR' : R = (S, k, 0) := by rw [hRS.out, if_neg (by omega)]
                  subst hR'
                  clear HDS hRS
                  go_wp2
                  go_region_held (fun w' => w'.cell? ⟨br, 0, none⟩ = some (.slice (some ad) l.length c) ∧ w'.cell? ⟨br, 1, none⟩ = some (.int .i64 (p : Int)) ∧ (convert 28 9 (.slice (some (ad.add p)) k (c - p))).run Tryz.prog w' = .ok (.string (str pt)) w')
                    (first | exact ⟨(HQ.out _ hK.drew).1, (HQ.out _ hK.drew).2, hparts.out _ hK.drew⟩ | exact ⟨(HQ.out _ (keepN hK.drew hk2)).1, (HQ.out _ (keepN hK.drew hk2)).2, hparts.out _ (keepN hK.drew hk2)⟩)
                    ((go_at_call 149; refine (refnum_any S _ HS64.out).mono ?_; rintro e w2 ⟨v, rfl, hv2, hk2⟩; obtain ⟨A2, c2, rfl, _, hr2, _⟩ := hv2.form; have hcv2 := conv_rd (c := c2) hr2; rw [he] at hcv2))
                  all_goals go_wp2
                  all_goals go_ret3
                  all_goals exact ⟨rfl, keepN hK.drew hk2⟩
                · have hne : ¬ encL S = pt := fun e => heq (HDS.2.2 e)
                  have hne' : (encL S == pt) = false := by rw [beq_eq_false_iff_ne]; exact hne
                  have hR' : R = (0, 0, 11) := by rw [hRS.out, if_pos (by omega)]
                  subst hR'
                  clear HDS hRS hne
                  go_wp2
                  go_region_held (fun w' => w'.cell? ⟨br, 0, none⟩ = some (.slice (some ad) l.length c) ∧ w'.cell? ⟨br, 1, none⟩ = some (.int .i64 (p : Int)) ∧ (convert 28 9 (.slice (some (ad.add p)) k (c - p))).run Tryz.prog w' = .ok (.string (str pt)) w')
                    (first | exact ⟨(HQ.out _ hK.drew).1, (HQ.out _ hK.drew).2, hparts.out _ hK.drew⟩ | exact ⟨(HQ.out _ (keepN hK.drew hk2)).1, (HQ.out _ (keepN hK.drew hk2)).2, hparts.out _ (keepN hK.drew hk2)⟩)
                    ((go_at_call 149; refine (refnum_any S _ HS64.out).mono ?_; rintro e w2 ⟨v, rfl, hv2, hk2⟩; obtain ⟨A2, c2, rfl, _, hr2, _⟩ := hv2.form; have hcv2 := conv_rd (c := c2) hr2))
                  all_goals go_wp2
                  all_goals go_ret3
                  all_goals exact ⟨rfl, keepN hK.drew hk2⟩
  · have hd : l.drop p = [] := List.drop_eq_nil_of_le (by omega)
    rw [hd] at hR
    have hR' := hR.out
    subst hR'
    go_enter Tryz.func158, Tryz.ntmps158
    go_wp2
    go_quiet (fail)
    go_wp2
    go_ret3
    exact ⟨rfl, (Keep.refl _ _).drewN _⟩

end Go.Proofs.YtbnekeomdhljhaaGreatDoor.V

namespace Go.Proofs.YtbnekeomdhljhaaGreatDoor.V
open Go.RowKit

/-- A reading method's end. -/
def RReads (w : World) (br : Nat) (O : Nat → Prop) (l : List UInt8) (q : Nat) (v : Value) (er : Nat) (e : Ending) (w' : World) : Prop :=
  e = .returned (.tuple #[v, .int .i64 er]) ∧ RefAt w' br O l q ∧ Keep (fun k => k = br) w w'

set_option maxRecDepth 100000 in
set_option maxHeartbeats 2000000 in
theorem refnumber_any (w : World) (br : Nat) (O : Nat → Prop) (l : List UInt8) (p most : Nat) (h : RefAt w br O l p) (hlen : l.length ≤ 140737488355328) :
    Calls Tryz.prog 116 #[.pointer (some ⟨br, 0, none⟩), .int .u64 most] w (RReads w br O l (NumR l p most).2.2 (.int .u64 (NumR l p most).1) (NumR l p most).2.1) := by
  have hx := nx_width (l.drop p)
  have hp := h.2.1
  rw [List.length_drop] at hx
  have HB := Lib.hid (fun R hR => reflook_any w br O l p h hlen R hR)
  unfold NumR bnd
  obtain ⟨⟨n, d, r⟩, hn⟩ : ∃ t, nx (l.drop p) = t := ⟨_, rfl⟩
  rw [hn] at hx ⊢
  have HL := Lib.hid (HB.out (n, d, r) hn.symm)
  clear hn HB
  dsimp only at hx ⊢
  by_cases hr : r = 0
  · subst hr
    rw [if_neg (by simp)]
    by_cases hm : most < n
    · rw [if_pos hm]
      go_enter Tryz.func116, Tryz.ntmps116
      go_wp2_with fail
      refine HL.out.mono ?_
      rintro e w1 ⟨he, hk1⟩
      unfold NxR at he
      subst he
      go_wp2
      go_ret2
      exact ⟨rfl, h.keep hk1 (fun _ _ => id), hk1.mono (fun _ hf _ => hf.elim)⟩
    · rw [if_neg hm]
      go_enter Tryz.func116, Tryz.ntmps116
      go_wp2_with fail
      refine HL.out.mono ?_
      rintro e w1 ⟨he, hk1⟩
      unfold NxR at he
      subst he
      have h1 := h.keep hk1 (fun _ _ => id)
      obtain ⟨A, c, hb1, _⟩ := h1.cells
      have q1 := hb1.cell 1
      have f1 := hb1.frozen 1
      simp at q1
      go_wp2
      go_ret2
      exact ⟨rfl, h.moved hk1 (by omega) (by omega)⟩
  · have hr1 : ((r : Int) != 0) = true := by rw [bne_iff_ne]; omega
    rw [if_pos hr]
    go_enter Tryz.func116, Tryz.ntmps116
    go_wp2_with fail
    refine HL.out.mono ?_
    rintro e w1 ⟨he, hk1⟩
    unfold NxR at he
    subst he
    go_wp2
    go_ret2
    exact ⟨rfl, h.keep hk1 (fun _ _ => id), hk1.mono (fun _ hf _ => hf.elim)⟩

set_option maxRecDepth 100000 in
set_option maxHeartbeats 2000000 in
theorem refsigned_any (w : World) (br : Nat) (O : Nat → Prop) (l : List UInt8) (p : Nat) (lo hi : Int) (h : RefAt w br O l p) (hlen : l.length ≤ 140737488355328) :
    Calls Tryz.prog 186 #[.pointer (some ⟨br, 0, none⟩), .int .i64 lo, .int .i64 hi] w (RReads w br O l (SigR l p lo hi).2.2 (.int .i64 (SigR l p lo hi).1) (SigR l p lo hi).2.1) := by
  have hx := nx_width (l.drop p)
  have hp := h.2.1
  rw [List.length_drop] at hx
  have HB := Lib.hid (fun R hR => reflook_any w br O l p h hlen R hR)
  unfold SigR
  obtain ⟨⟨n, d, r⟩, hn⟩ : ∃ t, nx (l.drop p) = t := ⟨_, rfl⟩
  rw [hn] at hx ⊢
  have HL := Lib.hid (HB.out (n, d, r) hn.symm)
  clear hn HB
  dsimp only at hx ⊢
  by_cases hr : r = 0
  · subst hr
    obtain ⟨hx1, hx2, _, hn64⟩ := hx
    have hz1 := zag_ge n hn64
    have hz2 := zag_le n hn64
    have HZ := Lib.hid (fun w => rzag_any n w hn64)
    clear hn64
    rw [if_neg (by simp)]
    obtain ⟨z, hz⟩ : ∃ z, zag n = z := ⟨_, rfl⟩
    rw [hz] at hz1 hz2 HZ ⊢
    clear hz
    by_cases hlo : z < lo
    · rw [if_pos (.inl hlo)]
      go_enter Tryz.func186, Tryz.ntmps186
      go_wp2_with fail
      refine HL.out.mono ?_
      rintro e w1 ⟨he, hk1⟩
      unfold NxR at he
      subst he
      go_wp2_with fail
      refine (HZ.out _).mono ?_
      rintro e w2 ⟨rfl, rfl⟩
      go_wp2
      go_ret2
      exact ⟨rfl, h.keep hk1 (fun _ _ => id), hk1.mono (fun _ hf _ => hf.elim)⟩
    · by_cases hhi : hi < z
      · rw [if_pos (.inr hhi)]
        go_enter Tryz.func186, Tryz.ntmps186
        go_wp2_with fail
        refine HL.out.mono ?_
        rintro e w1 ⟨he, hk1⟩
        unfold NxR at he
        subst he
        go_wp2_with fail
        refine (HZ.out _).mono ?_
        rintro e w2 ⟨rfl, rfl⟩
        go_wp2
        go_ret2
        exact ⟨rfl, h.keep hk1 (fun _ _ => id), hk1.mono (fun _ hf _ => hf.elim)⟩
      · rw [if_neg (by omega)]
        go_enter Tryz.func186, Tryz.ntmps186
        go_wp2_with fail
        refine HL.out.mono ?_
        rintro e w1 ⟨he, hk1⟩
        unfold NxR at he
        subst he
        have h1 := h.keep hk1 (fun _ _ => id)
        obtain ⟨A, c, hb1, _⟩ := h1.cells
        have q1 := hb1.cell 1
        have f1 := hb1.frozen 1
        simp at q1
        go_wp2_with fail
        refine (HZ.out _).mono ?_
        rintro e w2 ⟨rfl, rfl⟩
        go_wp2
        go_ret2
        exact ⟨rfl, h.moved hk1 (by omega) (by omega)⟩
  · have hr1 : ((r : Int) != 0) = true := by rw [bne_iff_ne]; omega
    rw [if_pos hr]
    go_enter Tryz.func186, Tryz.ntmps186
    go_wp2_with fail
    refine HL.out.mono ?_
    rintro e w1 ⟨he, hk1⟩
    unfold NxR at he
    subst he
    go_wp2
    go_ret2
    exact ⟨rfl, h.keep hk1 (fun _ _ => id), hk1.mono (fun _ hf _ => hf.elim)⟩

/-- Bytes were taken, or there were too few of them. -/
def RTaken (w : World) (br : Nat) (O : Nat → Prop) (l : List UInt8) (p fr : Nat) (S : Int) (e : Ending) (w' : World) : Prop :=
  ((l.length : Int) - fr < S ∧ e = .returned (.tuple #[.slice none 0 0, .int .i64 10]) ∧ RefAt w' br O l p ∧ Keep (fun k => k = br) w w') ∨
  (S ≤ (l.length : Int) - fr ∧ ∃ A c, e = .returned (.tuple #[.slice A S.toNat c, .int .i64 0]) ∧ OwnB w' (Fresh w) (.slice A S.toNat c) ((l.drop fr).take S.toNat) ∧ RefAt w' br O l (fr + S.toNat) ∧ Keep (fun k => k = br) w w')

set_option maxRecDepth 100000 in
set_option maxHeartbeats 2000000 in
theorem refraw_any (w : World) (br : Nat) (O : Nat → Prop) (l : List UInt8) (p : Nat) (n : Int) (hRef : RefAt w br O l p) (hlen : l.length ≤ 140737488355328) (hm2 : n ≤ 9223372036854775807) :
    Calls Tryz.prog 117 #[.pointer (some ⟨br, 0, none⟩), .int .i64 n] w fun e w' =>
      (n < 0 ∧ e = .returned (.tuple #[.slice none 0 0, .int .i64 2]) ∧ RefAt w' br O l p ∧ Keep (fun k => k = br) w w') ∨ (0 ≤ n ∧ RTaken w br O l p p n e w') := by
  by_cases hn : n < 0
  · go_enter Tryz.func117, Tryz.ntmps117
    go_wp2
    go_ret2
    exact .inl ⟨hn, rfl, hRef, Keep.refl _ _⟩
  · obtain ⟨s, rfl⟩ := Int.eq_ofNat_of_zero_le (show 0 ≤ n by omega)
    have hp := hRef.2.1
    obtain ⟨A, c, hb1, hr, hc, hm, hA⟩ := hRef.cells
    have q0 := hb1.cell 0
    have q1 := hb1.cell 1
    simp at q0 q1
    unfold maxLen at hm
    have hws : IntKind.i64.wrap ((l.length : Int) - (p : Int)) = (l.length : Int) - (p : Int) := IntWalk.i64_in _ (by omega)
    by_cases hsh : (l.length : Int) - (p : Int) < (s : Int)
    · go_enter Tryz.func117, Tryz.ntmps117
      go_wp2
      go_quiet (fail)
      go_wp2
      go_ret2
      exact .inr ⟨by omega, .inl ⟨hsh, rfl, hRef.keep ((Keep.refl NoB w).drewN _) (fun _ _ => id), (Keep.refl _ w).drewN _⟩⟩
    · have hsh' : (s : Int) ≤ (l.length : Int) - (p : Int) := by omega
      have hs0 : (0 : Int) ≤ (p : Int) + (s : Int) := by omega
      have hs1 : (p : Int) + (s : Int) ≤ (c : Int) := by omega
      have hs2 : ((p : Int) + (s : Int)).toNat = p + s := by omega
      have hs4 : (p : Int) ≤ (p : Int) + (s : Int) := by omega
      have hcs : (c : Int) ≤ 9223372036854775807 := by omega
      have hwa : IntKind.i64.wrap ((p : Int) + (s : Int)) = (p : Int) + (s : Int) := IntWalk.i64_in _ (by omega)
      have hps : p + s - p = s := by omega
      have hpl : ((l.drop p).take s).length = s := by rw [List.length_take, List.length_drop]; omega
      have hrp := hr.part (c := c) (k := p) (m := s) hc
      have HT0 := Lib.hid (fun (wq : World) (hkq : Keep NoB w wq) (A' : Option Addr) (c' : Nat) (hA' : (if c = p then A else A.map (·.add p)) = A') => by
        have hrq := hrp.keep hkq (fun _ _ _ => id)
        have HT := twin_any wq.drew _ ((l.drop p).take s) c' (hrq.keep ((Keep.refl NoB wq).drew) (fun _ _ _ => id)) (by omega)
        rw [hpl, hA'] at HT
        exact HT)
      clear hrp
      go_enter Tryz.func117, Tryz.ntmps117
      go_wp2
      go_quiet (fail)
      obtain ⟨wq, hwq⟩ : ∃ wq, w.drewN nq = wq := ⟨_, rfl⟩
      rw [hwq]
      have hkq : Keep NoB w wq := hwq ▸ (Keep.refl NoB w).drewN nq
      clear hwq
      have hbq := hb1.keep hkq id
      have q0 := hbq.cell 0
      have q1 := hbq.cell 1
      simp at q0 q1
      go_wp2
      go_still_tail 15, (by kernel_rfl)
      change wpList _ _ _ _ _ wq.drew
      go_wp2_with fail
      all_goals
        first
          | refine (HT0.out wq hkq A 0 (if_pos ‹c = p›)).mono ?_
          | refine (HT0.out wq hkq (A.map (·.add p)) (c - p) (if_neg ‹¬ c = p›)).mono ?_
        rintro e w2 ⟨v, rfl, hv2, hk2⟩
        have hk02 := keepN hkq.drew hk2
        have hb2 := hb1.keep hk02 id
        obtain ⟨A2, c2, rfl, _⟩ := hv2.form
        rw [hpl] at hv2
        have q0 := hb2.cell 0
        have q1 := hb2.cell 1
        have f1 := hb2.frozen 1
        simp at q0 q1
        go_wp2
        go_ret2
        obtain ⟨m1, m2⟩ := hRef.moved (q := p + s) (Q := (p : Int) + s) hk02 (by omega) (by omega)
        have hbl := hb1.lt
        have hsz := hkq.size
        refine .inr ⟨by omega, .inr ⟨hsh', A2, c2, rfl, ?_, m1, m2⟩⟩
        exact (hv2.mono (O' := Fresh w) (fun k hk _ => Nat.le_trans hsz hk)).keep (O' := fun k => k = br) ((Keep.refl (fun k => k = br) w2).setCell (p := ⟨br, 1, none⟩) (fun _ => rfl) _) (fun k hk e => by unfold Fresh at hk; omega)

/-- What Bytes leaves. -/
def RBytesP (w : World) (br : Nat) (O : Nat → Prop) (l : List UInt8) (p : Nat) (b : Nat × Nat × Nat) (e : Ending) (w' : World) : Prop :=
  (b.2.2 ≠ 0 ∧ e = .returned (.tuple #[.slice none 0 0, .int .i64 b.2.2]) ∧ RefAt w' br O l p ∧ Keep (fun k => k = br) w w') ∨ (b.2.2 = 0 ∧ RTaken w br O l p (p + b.2.1) b.1 e w')

theorem refnumber_at (w : World) (br : Nat) (O : Nat → Prop) (l : List UInt8) (p most : Nat) (N : Int) (n r q : Nat) (h : RefAt w br O l p) (hlen : l.length ≤ 140737488355328) (hN : N = most) (hs : NumR l p most = (n, r, q)) :
    Calls Tryz.prog 116 #[.pointer (some ⟨br, 0, none⟩), .int .u64 N] w (RReads w br O l q (.int .u64 (n : Int)) r) := by
  subst hN
  have := refnumber_any w br O l p most h hlen
  rw [hs] at this
  exact this

theorem refraw_at (w : World) (br : Nat) (O : Nat → Prop) (l : List UInt8) (p : Nat) (n : Nat) (N : Int) (h : RefAt w br O l p) (hlen : l.length ≤ 140737488355328) (hN : N = (n : Int)) (hm2 : n ≤ 9223372036854775807) :
    Calls Tryz.prog 117 #[.pointer (some ⟨br, 0, none⟩), .int .i64 N] w (RTaken w br O l p p n) := by
  subst hN
  refine (refraw_any w br O l p n h hlen (by omega)).mono ?_
  rintro e w' (⟨h1, _⟩ | ⟨_, h2⟩)
  · omega
  · exact h2

set_option maxRecDepth 100000 in
set_option maxHeartbeats 2000000 in
theorem refbytesr_any (w : World) (br : Nat) (O : Nat → Prop) (l : List UInt8) (p : Nat) (most : Int) (hRef : RefAt w br O l p) (hlen : l.length ≤ 140737488355328) (hm1 : -9223372036854775808 ≤ most) (hm2 : most ≤ 9223372036854775807) :
    Calls Tryz.prog 59 #[.pointer (some ⟨br, 0, none⟩), .int .i64 most] w (RBytesP w br O l p (bnd (nx (l.drop p)) (max most 0).toNat)) := by
  have hx := bnd_width (l.drop p) (max most 0).toNat
  have hz := bnd_zero (l.drop p) (max most 0).toNat
  have hle := bnd_le (nx (l.drop p)) (max most 0).toNat
  have hp := hRef.2.1
  obtain ⟨A, c, hb0, _⟩ := hRef.cells
  have q0 := hb0.cell 1
  simp at q0
  rw [List.length_drop] at hx
  have HB := Lib.hid (fun N n r q => refnumber_at w br O l p (max most 0).toNat N n r q hRef hlen)
  obtain ⟨b, hb⟩ : ∃ b, bnd (nx (l.drop p)) (max most 0).toNat = b := ⟨_, rfl⟩
  have HN : Hid (NumR l p (max most 0).toNat = (b.1, b.2.2, p + b.2.1)) := by show _ = _; unfold NumR; rw [hb]
  rw [hb] at hx hle hz ⊢
  clear hb hb0
  obtain ⟨n, d, r⟩ := b
  dsimp only at hx hle HN hz
  by_cases hr : r = 0
  · subst hr
    have hn := hle
    clear hle hz
    obtain ⟨hx1, hx2, hx3, _⟩ := hx
    by_cases hneg : most < 0
    all_goals
      go_enter Tryz.func59, Tryz.ntmps59
      go_wp2_with fail
      refine (HB.out _ n 0 (p + d) (by omega) HN.out).mono ?_
      rintro e w1 ⟨rfl, h1, hk1⟩
      go_wp2_with fail
      refine (refraw_at w1 br O l (p + d) n _ h1 hlen (by omega) (by omega)).mono ?_
      rintro e w2 (⟨hs, rfl, h2, hk2⟩ | ⟨hs, A2, c2, rfl, hv2, h2, hk2⟩)
      · first
          | omega
          | (obtain ⟨A', c', hb2, _⟩ := h2.cells
             have q2 := hb2.cell 1
             have f2 := hb2.frozen 1
             have q3 := hb2.cell 0
             simp at q2 q3
             clear hb2 q0
             obtain ⟨m1, m2⟩ := h2.moved (q := p) (Q := (p : Int)) (Keep.refl NoB w2) (by omega) rfl
             go_wp2
             go_ret2
             exact .inr ⟨rfl, .inl ⟨hs, rfl, m1, (hk1.trans hk2 (fun _ h _ => h)).trans m2 (fun _ h _ => h)⟩⟩)
      · go_wp2
        go_ret2
        have hsz := hk1.size
        exact .inr ⟨rfl, .inr ⟨hs, A2, c2, rfl, hv2.mono (fun k hk _ => Nat.le_trans hsz hk), h2, hk1.trans hk2 (fun _ h _ => h)⟩⟩
  · obtain ⟨rfl, rfl⟩ := hz hr
    have hr1 : ((r : Int) != 0) = true := by rw [bne_iff_ne]; omega
    clear hle hx hz
    by_cases hneg : most < 0
    all_goals
      go_enter Tryz.func59, Tryz.ntmps59
      go_wp2_with fail
      refine (HB.out _ 0 r p (by omega) HN.out).mono ?_
      rintro e w1 ⟨rfl, h1, hk1⟩
      go_wp2
      go_ret2
      exact .inl ⟨hr, rfl, h1, hk1⟩

end Go.Proofs.YtbnekeomdhljhaaGreatDoor.V

namespace Go.Proofs.YtbnekeomdhljhaaGreatDoor.S
open Go.RowKit

/-- What comes next, if nothing is wrong with it, is its number's bytes. -/
theorem nx_ok {l : List UInt8} (h : (V.nx l).2.2 = 0) : l = V.encL (V.nx l).1 ++ l.drop (V.nx l).2.1 ∧ (V.encL (V.nx l).1).length = (V.nx l).2.1 := by
  rcases l with _ | ⟨b, r⟩
  · cases h
  · rw [V.nx_cons] at h ⊢
    split at h
    · cases h
    · rename_i h1
      split at h
      · cases h
      · rename_i h2
        rw [if_neg h1, if_neg h2]
        have ht := V.td_rng b.toNat (by simpa using b.toNat_lt)
        obtain ⟨t, hT⟩ : ∃ t, V.td b.toNat = t + 1 := ⟨V.td b.toNat - 1, by omega⟩
        simp only
        have hw := V.dc_width b (r.take t) (V.td b.toNat) rfl (by rw [hT]; simp; omega)
        rw [hT] at h1 h2 hw ⊢
        rw [List.take_succ_cons] at h2 ⊢
        have e := hw.2.1 (by omega)
        rw [e]
        refine ⟨?_, by simp; omega⟩
        rw [List.drop_succ_cons, List.cons_append, List.take_append_drop]

theorem num_ok {l : List UInt8} {p m : Nat} (h : (V.NumR l p m).2.1 = 0) :
    l.drop p = V.encL (V.NumR l p m).1 ++ l.drop (V.NumR l p m).2.2 ∧ (V.NumR l p m).1 ≤ m ∧ (V.NumR l p m).1 < 18446744073709551616 ∧ (V.NumR l p m).2.2 = p + (V.encL (V.NumR l p m).1).length := by
  unfold V.NumR at h ⊢
  unfold V.bnd at h ⊢
  have hw := (V.nx_width (l.drop p)).2.2.2
  simp only at h ⊢
  split at h
  · rename_i h1; exact absurd h h1
  · rename_i h1
    split at h
    · cases h
    · rename_i h2
      rw [if_neg h1, if_neg h2]
      have e := nx_ok (l := l.drop p) h
      rw [List.drop_drop] at e
      exact ⟨e.1, by omega, hw, by rw [e.2]⟩
theorem num_enc {l s : List UInt8} {p m n : Nat} (h : l.drop p = V.encL n ++ s) (h1 : n ≤ m) (h2 : n < 18446744073709551616) : V.NumR l p m = (n, 0, p + (V.encL n).length) := by
  have hb : V.bnd (V.nx (l.drop p)) m = (n, V.wd n, 0) := by
    rw [h, V.nx_enc n h2]
    unfold V.bnd
    rw [if_neg (by simp), if_neg (by simp; omega)]
  unfold V.NumR
  rw [hb, V.encL_length n h2]
theorem num_case (l : List UInt8) (p M : Nat) : ∃ n r q : Nat, V.NumR l p M = (n, r, q) ∧ (r = 0 → n ≤ M ∧ n < 18446744073709551616) ∧ (r ≠ 0 → n = 0) := by
  refine ⟨_, _, _, rfl, fun h => ?_, fun h => ?_⟩
  · have := num_ok (l := l) (p := p) (m := M) h; exact ⟨this.2.1, this.2.2.1⟩
  · exact (V.bnd_zero (l.drop p) M h).1
theorem reel_lt {w : World} {br p : Nat} {O : Nat → Prop} {l : List UInt8} (h : V.ReelAt w br O l p) : br < w.heap.size := by
  obtain ⟨A, c, hb, _⟩ := h.cells
  exact hb.lt
theorem ref_lt {w : World} {br p : Nat} {O : Nat → Prop} {l : List UInt8} (h : V.RefAt w br O l p) : br < w.heap.size := by
  obtain ⟨A, c, hb, _⟩ := h.cells
  exact hb.lt
theorem own_rd {w : World} {O : Nat → Prop} {v : Value} {l : List UInt8} (h : V.OwnB w O v l) : ∃ A c, v = .slice A l.length c ∧ V.Rd w A l ∧ (∀ ad, A = some ad → ad.block < w.heap.size) := by
  obtain ⟨A, c, rfl, _, hr, _, _⟩ := h.form
  exact ⟨A, c, rfl, hr, fun ad e => (h.1.lt ad.block (by rw [e]; rfl)).2⟩
theorem rd_br {w w' : World} {A : Option Addr} {l : List UInt8} {B br : Nat} (h : V.Rd w A l) (hb : ∀ ad, A = some ad → ad.block < B) (hbr : B ≤ br) (hk : Keep (fun k => k = br) w w') : V.Rd w' A l :=
  h.keep hk (fun ad e _ he => by have := hb ad e; omega)
theorem rd_n {w w' : World} {A : Option Addr} {l : List UInt8} (h : V.Rd w A l) (hk : Keep NoB w w') : V.Rd w' A l := h.keep hk (fun _ _ _ => id)
theorem at_gen {w w1 : World} {br p : Nat} {O : Nat → Prop} {l : List UInt8} (h : V.ReelAt w1 br O l p) (hk : Keep NoB w1 w) :
    Calls Tryz.prog 21 #[.pointer (some ⟨br, 0, none⟩)] w fun e w' => e = .returned (.int .i64 p) ∧ Keep NoB w w' :=
  (V.at_any w br O l p (h.keep hk (fun _ _ => id))).mono fun _ _ ⟨he, hw⟩ => ⟨he, by rw [← hw]; exact Keep.refl _ _⟩
theorem keep_br {w w1 w2 : World} {br : Nat} (h : Keep NoB w w1) (h2 : Keep (fun k => k = br) w1 w2) (hbr : w.heap.size ≤ br) : Keep NoB w w2 := h.trans h2 (fun k e hl => by subst e; omega)
theorem list_self (T : ByteArray) : (T.toList == T.toList) = true := by simp
theorem own_rdI {w : World} {O : Nat → Prop} {v : Value} {n : Nat} {xs : List Value} (h : Own w 3 1 O v n xs) : ∃ A c, v = .slice A n c ∧ Rd w A xs := by
  obtain ⟨A, c, e, _, _, hr, _⟩ := h.form
  exact ⟨A, c, e, hr⟩

end Go.Proofs.YtbnekeomdhljhaaGreatDoor.S
