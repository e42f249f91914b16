/-
  What pack answers: types' bytes. Conditions: the list lies in memory, holds types, no more than 64.
  What the document's Types answers: types' bytes. Conditions: the list lies in memory, holds types, no more than 64.
  What Encode and EncodeSignature answer, the program's and the document's: their bytes, if they may be. Conditions: the lists lie in memory.
  A range over a function that is never left ahead of its end, whose iterator brings things of which something is known in the world in which each comes (En). No program, no conditions.
  The iterator of the pieces of bytes, two bits each, from the lowest of each byte on. Conditions: the bytes lie in memory; a round keeps them.
  What types answers: the types that were laid into bytes, if nothing is behind them. Conditions: the bytes lie in memory.
  What unpack and Decode of layer shape answer: the types, and the shape, at a Reel's place. Conditions: the Reel reads bytes in memory, no more than 2^47.
-/
import Derived.LoopIn
import Derived.LoopNIn
import Derived.OwnWalkIn
import Derived.RangeFuncBound
import Derived.RangeFuncCalls
import Derived.RangeFuncLeaves
import Derived.RangeFuncNested
import Derived.Shelf.Abstract
import Derived.Shelf.RegionOpen
import Derived.StillTailTactics
import Derived.TacticsInMore
import Derived.WalkKit
import Derived.Test.YtgifflfjhockaaaGreatDoorQ5
import Derived.Test.YtgifflfjhockaaaGreatDoorQ2
namespace Go.Proofs.YtgifflfjhockaaaGreatDoor.S
open Go.RowKit W

/-- The array that types are laid into. -/
def arrV (l : List Int) : List Value := (List.range 16).map fun j => .int .u8 (packN l j : Nat)
theorem arrV_nil : arrV [] = List.replicate 16 (Value.int .u8 0) := by kernel_rfl
theorem arrV_at (l : List Int) (q : Nat) (h : q < 16) : (arrV l)[q]? = some (.int .u8 (packN l q : Nat)) := by unfold arrV; rw [List.getElem?_map, List.getElem?_range h]; rfl
theorem packN_other {l : List Int} {t : Int} {j : Nat} (h : j ≠ l.length / 4) : packN (l ++ [t]) j = packN l j := by
  unfold packN
  rcases Nat.lt_or_ge j (l.length / 4) with h1 | h1
  · rw [List.drop_append_of_le_length (by omega), List.take_append_of_le_length (by rw [List.length_drop]; omega)]
  · rw [List.drop_of_length_le (by simp; omega), List.drop_of_length_le (by omega)]
theorem packN_here {l : List Int} {t : Int} : packN (l ++ [t]) (l.length / 4) = packN l (l.length / 4) + (t - 1).toNat * 4 ^ (l.length % 4) ∧ packN l (l.length / 4) < 4 ^ (l.length % 4) ∨ ¬ l.all knownB = true := by
  by_cases hk : l.all knownB = true
  · left
    have hd : (l.drop (4 * (l.length / 4))).length = l.length % 4 := by rw [List.length_drop]; omega
    have ht : (l.drop (4 * (l.length / 4))).take 4 = l.drop (4 * (l.length / 4)) := List.take_of_length_le (by omega)
    refine ⟨?_, ?_⟩
    · unfold packN
      rw [List.drop_append_of_le_length (by omega), ht, List.take_of_length_le (by rw [List.length_append, hd]; simp; omega), dig_snoc, hd]
    · unfold packN
      have := dig_lt _ (all_sub hk (4 * (l.length / 4)) 4)
      rw [ht, hd] at this
      rw [ht]; exact this
  · exact .inr hk
theorem arrV_put {l : List Int} {t : Int} {q : Nat} (hq : q = l.length / 4) (h16 : q < 16) {x : Int} (hx : x = (packN (l ++ [t]) q : Nat)) : (arrV l).toArray.setIfInBounds q (.int .u8 x) = (arrV (l ++ [t])).toArray := by
  rw [List.setIfInBounds_toArray]
  congr 1
  apply List.ext_getElem?
  intro j
  rw [List.getElem?_set]
  by_cases e : q = j
  · subst e
    rw [if_pos rfl, if_pos (by unfold arrV; simpa using h16), arrV_at _ _ h16, hx]
  · rw [if_neg e]
    by_cases hj : j < 16
    · rw [arrV_at _ _ hj, arrV_at _ _ hj, packN_other (by omega)]
    · rw [List.getElem?_eq_none (by unfold arrV; simp; omega), List.getElem?_eq_none (by unfold arrV; simp; omega)]
theorem lane {x : Int} {old j : Nat} (h1 : 1 ≤ x) (h4 : x ≤ 4) (hj : j < 4) (ho : old < 4 ^ j) : bits .or .u8 (old : Int) ((x - 1) * 2 ^ (j * 2) % 256) = ((old + (x - 1).toNat * 4 ^ j : Nat) : Int) := by
  obtain ⟨v, rfl⟩ : ∃ v : Nat, x = (v : Int) + 1 := ⟨(x - 1).toNat, by omega⟩
  have hv : v < 4 := by omega
  rw [show ((v : Int) + 1 - 1) = (v : Int) by omega, Int.toNat_natCast]
  have e4 : (4 : Nat) ^ j = 2 ^ (j * 2) := by rw [Nat.mul_comm, Nat.pow_mul]
  have hlt : v * 2 ^ (j * 2) < 256 := by
    obtain rfl | rfl | rfl | rfl : j = 0 ∨ j = 1 ∨ j = 2 ∨ j = 3 := by omega
    all_goals simp; omega
  have hold : old < 256 := by
    have : (4 : Nat) ^ j ≤ 4 ^ 3 := Nat.pow_le_pow_right (by omega) (by omega)
    omega
  have e : ((v : Int) * 2 ^ (j * 2) % 256) = ((v * 2 ^ (j * 2) : Nat) : Int) := by
    rw [show ((v : Int) * 2 ^ (j * 2)) = ((v * 2 ^ (j * 2) : Nat) : Int) by push_cast; rfl]
    omega
  rw [e, u8_or_nat _ _ hold hlt, e4]
  congr 1
  rw [e4] at ho
  have := Nat.shiftLeft_add_eq_or_of_lt ho v
  rw [Nat.shiftLeft_eq] at this
  rw [Nat.or_comm, ← this, Nat.add_comm]
theorem arrV_rd {w : World} {g : Nat} {t : TypeId} {l : List Int} (h : Blk w g t (arrV l).toArray) (hk : l.all knownB = true) (h64 : l.length ≤ 64) : V.Rd w (some ⟨g, 0, none⟩) (packL l) := fun _ => ⟨_, rfl, fun j u hu => by
  rw [List.getElem?_map] at hu
  obtain ⟨hj, _⟩ : ∃ h : j < (packL l).length, True := by
    cases hq : (packL l)[j]? with
    | none => rw [hq] at hu; cases hu
    | some b => exact ⟨(List.getElem?_eq_some_iff.1 hq).1, trivial⟩
  rw [packL_length] at hj
  rw [packL_at _ _ hj] at hu
  have e : (⟨g, 0, none⟩ : Addr).add j = ⟨g, j, none⟩ := by unfold Addr.add; by_cases hj : j = 0 <;> simp [hj]
  rw [e, h.cell]
  have h16 : j < 16 := by unfold sz at hj; omega
  simp only [List.getElem?_toArray]
  rw [arrV_at _ _ h16, ← hu]
  simp only [Option.map_some, V.bv]
  rw [UInt8.toNat_ofNat', Nat.mod_eq_of_lt (packN_lt hk _)]⟩
theorem own_app {w W W' : World} {v v' : Value} {l l' : List UInt8} (hO : V.OwnB W (Fresh w) v l) (hK : Keep NoB w W) (hown : W'.ownsRow 0 5 1 v' l'.length (V.bvs l')) (hg : W.grownBy W' v.ownBlock)
    (hat : v'.ownBlock = v.ownBlock ∨ v'.ownBlock = some W.heap.size) : V.OwnB W' (Fresh w) v' l' ∧ Keep NoB w W' := by
  refine ⟨⟨hown, fun g e => ?_⟩, hK.grown hg (fun g e hl => by have := hO.2 g e; unfold Fresh at this; omega)⟩
  rcases hat with h | h
  · exact hO.2 g (h ▸ e)
  · rw [h] at e; cases e; exact hK.size
theorem slice_arr (w : World) (g z : Nat) (hz : z ≤ 16) : (Instr.sliceAt 227 (.pointer (some ⟨g, 0, none⟩)) none (some (.int .i64 (z : Int))) none).run Tryz.prog w = .ok (.slice (some ⟨g, 0, none⟩) z 16) w := by
  have ha : Tryz.prog.arrayLen 227 = 16 := by kernel_rfl
  have he : Tryz.prog.elem 227 = 5 := by kernel_rfl
  rw [run_sliceAt_array_h w 227 ⟨g, 0, none⟩ (by rw [ha, he]; exact Tryz.underlying227) .i64 (z : Int) (by omega) (by rw [ha]; omega), he]
  have := Tryz.sizeOf5 w
  rw [this, ha]
  simp [slicedAt, Addr.add]
theorem known_val {l : List Int} (h : l.all knownB = true) {k : Nat} (hk : k < l.length) : 1 ≤ l[k] ∧ l[k] ≤ 4 := by
  have := List.all_eq_true.1 h _ (List.getElem_mem hk)
  rwa [known_iff] at this

set_option maxRecDepth 100000 in
set_option maxHeartbeats 4000000 in
theorem packS_any (A : Option Addr) (l : List Int) (n c : Nat) (w : World) (hr : Rd w A (ivs l)) (hn : Hid (l.length = n)) (hk0 : Hid (l.all knownB = true)) (h64 : n ≤ 64) :
    Calls Tryz.prog 113 #[.slice A n c] w fun e w' => ∃ v, e = .returned v ∧ V.OwnB w' (Fresh w) v (bytesT l) ∧ Keep NoB w w' := by
  go_enter Tryz.func113, Tryz.ntmps113
  go_wp2
  have hb0 := Blk.new w 227 (List.replicate 16 (Value.int .u8 0)).toArray
  rw [← arrV_nil] at hb0
  have hK0 := (Keep.refl NoB w).alloc (.cells (List.replicate 16 (Value.int .u8 0)).toArray 227)
  go_loopw [9] (fun i wr => ∃ k : Nat, k ≤ n ∧ i = .int .i64 k ∧ Blk wr w.heap.size 227 (arrV (l.take k)).toArray ∧ Keep NoB w wr) (fun i _ => n - (intOf i).toNat)
  case atStart => exact ⟨0, Nat.zero_le _, rfl, hb0, hK0⟩
  case round =>
    clear hb0 hK0
    obtain ⟨k, hk, rfl, hb, hK⟩ := hrel
    by_cases hlt : k < n
    · have hka : k < l.length := by rw [hn.out]; exact hlt
      obtain ⟨ga, oa, rfl, hca⟩ := rdI_at hr (by omega)
      have ca := hK.cell (hca k hka) id
      obtain ⟨ht1, ht4⟩ := known_val hk0.out hka
      have HT := Lib.hid (show l.take (k + 1) = l.take k ++ [l[k]] from List.take_succ_eq_append_getElem hka)
      have hl : (l.take k).length = k := by rw [List.length_take]; omega
      have hall : (l.take k).all knownB = true := List.all_eq_true.2 fun x hx => List.all_eq_true.1 hk0.out x (List.mem_of_mem_take hx)
      obtain ⟨q, hq⟩ : ∃ q, k / 4 = q := ⟨_, rfl⟩
      have cb : wr.cell? ⟨w.heap.size, q, none⟩ = some (.int .u8 (packN (l.take k) q : Nat)) := by rw [hb.cell]; simpa using arrV_at (l.take k) q (by omega)
      generalize l[k] = x at ca HT ht1 ht4
      have hq1 : ((k : Int).tdiv 4) = ((q : Nat) : Int) := by rw [Int.tdiv_eq_ediv_of_nonneg (by omega)]; omega
      have hr1 : ((k : Int).tmod 4) = ((k % 4 : Nat) : Int) := by rw [Int.tmod_eq_emod_of_nonneg (by omega)]; omega
      have hq16 : (q : Int) < 16 := by omega
      have fb := fun i => hb.frozen i
      obtain ⟨old, hold'⟩ : ∃ old, packN (l.take k) q = old := ⟨_, rfl⟩
      have hold := Lib.hid hold'
      rw [hold'] at cb
      clear hold'
      clear hca hr
      go_wp2
      have HV : Hid (old < 4 ^ (k % 4) → bits .or .u8 (old : Int) ((x - 1) * 2 ^ (k % 4 * 2) % 256) = ((old + (x - 1).toNat * 4 ^ (k % 4) : Nat) : Int)) := fun h => lane ht1 ht4 (by omega) h
      have HP : Hid (∀ {v : Int}, v = ((old + (x - 1).toNat * 4 ^ (k % 4) : Nat) : Int) → (arrV (l.take k)).toArray.setIfInBounds q (.int .u8 v) = (arrV (l.take (k + 1))).toArray) := fun {v} hv => by
        rw [HT.out]
        refine arrV_put (by rw [hl]; exact hq.symm) (by omega) ?_
        rcases packN_here (l := l.take k) (t := x) with h | h
        · rw [hl, hq] at h
          rw [h.1, hv, hold.out]
        · exact absurd hall h
      have HO : Hid (old < 4 ^ (k % 4)) := by
        show _ < _
        rcases packN_here (l := l.take k) (t := x) with h | h
        · rw [hl, hq] at h
          rw [← hold.out]; exact h.2
        · exact absurd hall h
      have HB : Hid (Blk (wr.setCell ⟨w.heap.size, q, none⟩ (.int .u8 (bits .or .u8 (old : Int) ((x - 1) * 2 ^ (k % 4 * 2) % 256)))) w.heap.size 227 (arrV (l.take (k + 1))).toArray) := by
        have := hb.put q (.int .u8 (bits .or .u8 (old : Int) ((x - 1) * 2 ^ (k % 4 * 2) % 256)))
        rw [HP.out (HV.out HO.out)] at this
        exact this
      have HK : Hid (Keep NoB w (wr.setCell ⟨w.heap.size, q, none⟩ (.int .u8 (bits .or .u8 (old : Int) ((x - 1) * 2 ^ (k % 4 * 2) % 256))))) := hK.setCell (fun h => absurd h (by simp)) _
      clear HV HP HO hb hK hall hl HT hold
      go_region
      go_wp2
      go_roundw
      case rel => exact ⟨k + 1, by omega, by go_num, HB.out, HK.out.drew⟩
      case measure => simp [intOf]; omega
    · obtain rfl : k = n := by omega
      have hlk : l.take k = l := List.take_of_length_le (by rw [hn.out]; exact Nat.le_refl _)
      rw [hlk] at hb
      have ht := V.TapeAt.new wr
      have hO0 : ∀ j, j = wr.heap.size → j < (wr.alloc (.cells #[.pointer none, .int .i64 0] 134)).heap.size := fun j e => by subst e; simp
      have hKt := hK.alloc (.cells #[.pointer none, .int .i64 0] 134)
      have hbt := hb.alloc (.cells #[.pointer none, .int .i64 0] 134)
      have hgt : w.heap.size < wr.heap.size := hb.lt
      have HS := Lib.hid (fun w => size_any k (by omega) w)
      have HPL : Hid ((packL l).length = sz k) := by show _ = _; rw [packL_length, hn.out]
      have hz : sz k ≤ 16 := by unfold sz; omega
      have HKN := Lib.hid hk0.out
      have HX : Hid (([] ++ V.encL k) ++ packL l = bytesT l) := by show _ = _; unfold bytesT; rw [hn.out]; rfl
      have HLE := V.encL_len k
      have hwrs : w.heap.size ≤ wr.heap.size := hK.size
      have HLL : Hid (l.length ≤ 64) := by show _ ≤ _; rw [hn.out]; exact h64
      clear hb hK hlk hk0
      go_wp2_with fail
      refine (V.tnumber_any _ wr.heap.size (fun j => j = wr.heap.size) [] k ht hO0 (by decide)).mono ?_
      rintro e w1 ⟨rfl, h1, hk1⟩
      have hb1 := hbt.keep hk1 (fun e => by omega)
      have hK1 : Keep NoB w w1 := hKt.trans hk1 (fun j e hl => by omega)
      have H1 := Lib.hid h1
      clear h1 ht hbt hKt hk1 hO0
      go_wp2_with fail
      refine (V.all_any w1 wr.heap.size _ ([] ++ V.encL k) H1.out (by simp; omega)).mono ?_
      rintro e w2 ⟨v2, rfl, hv2, hk2⟩
      have hb2 := hb1.keep hk2 id
      have hK2 := keepN hK1 hk2
      have hO2 := hv2.mono (O' := Fresh w) (fun j hj _ => by unfold Fresh at hj ⊢; exact Nat.le_trans hK1.size hj)
      obtain ⟨A2, c2, rfl, _⟩ := hO2.form
      clear hv2 hb1 hK1 H1 hk2
      go_wp2_with fail
      refine (HS.out _).mono ?_
      rintro e w3 ⟨rfl, rfl⟩
      have hrd := arrV_rd hb2 HKN.out HLL.out
      have hf2 := fun i => hb2.frozen i
      have hcell : ∀ i, w2.cell? ⟨w.heap.size, i, none⟩ = (arrV l)[i]? := fun i => by rw [hb2.cell]; simp
      have hlen : ([] ++ V.encL k : List UInt8).length = (V.encL k).length := rfl
      obtain ⟨z, hzz⟩ : ∃ z, sz k = z := ⟨_, rfl⟩
      rw [hzz] at HPL hz ⊢
      have hsl := slice_arr w2 w.heap.size z hz
      go_wp2_with (at_builtin; refine V.wpList_append_rd _ rfl _ _ rfl _ ([] ++ V.encL k) (packL l) (some ⟨w.heap.size, 0, none⟩) 16 rfl hO2.1 (by rw [HPL.out]; rfl) hrd (by rw [HPL.out]; simp; omega) ?_; intro v5 w5 hown hg hat; obtain ⟨hO3, hK3⟩ := own_app hO2 hK2 hown hg hat; rw [HX.out] at hO3; clear hown hg hat)
      go_ret
      exact ⟨_, rfl, hO3, hK3⟩

set_option maxRecDepth 100000 in
set_option maxHeartbeats 4000000 in
theorem packI_any (A : Option Addr) (l : List Int) (n c : Nat) (w : World) (hr : Rd w A (ivs l)) (hn : Hid (l.length = n)) (hk0 : Hid (l.all knownB = true)) (h64 : n ≤ 64) :
    Calls Tryz.prog 173 #[.slice A n c] w fun e w' => ∃ v, e = .returned v ∧ V.OwnB w' (Fresh w) v (bytesT l) ∧ Keep NoB w w' := by
  go_enter Tryz.func173, Tryz.ntmps173
  go_wp2
  have hb0 := Blk.new w 227 (List.replicate 16 (Value.int .u8 0)).toArray
  rw [← arrV_nil] at hb0
  have hK0 := (Keep.refl NoB w).alloc (.cells (List.replicate 16 (Value.int .u8 0)).toArray 227)
  go_loopw [9] (fun i wr => ∃ k : Nat, k ≤ n ∧ i = .int .i64 k ∧ Blk wr w.heap.size 227 (arrV (l.take k)).toArray ∧ Keep NoB w wr) (fun i _ => n - (intOf i).toNat)
  case atStart => exact ⟨0, Nat.zero_le _, rfl, hb0, hK0⟩
  case round =>
    clear hb0 hK0
    obtain ⟨k, hk, rfl, hb, hK⟩ := hrel
    by_cases hlt : k < n
    · have hka : k < l.length := by rw [hn.out]; exact hlt
      obtain ⟨ga, oa, rfl, hca⟩ := rdI_at hr (by omega)
      have ca := hK.cell (hca k hka) id
      obtain ⟨ht1, ht4⟩ := known_val hk0.out hka
      have HT := Lib.hid (show l.take (k + 1) = l.take k ++ [l[k]] from List.take_succ_eq_append_getElem hka)
      have hl : (l.take k).length = k := by rw [List.length_take]; omega
      have hall : (l.take k).all knownB = true := List.all_eq_true.2 fun x hx => List.all_eq_true.1 hk0.out x (List.mem_of_mem_take hx)
      obtain ⟨q, hq⟩ : ∃ q, k / 4 = q := ⟨_, rfl⟩
      have cb : wr.cell? ⟨w.heap.size, q, none⟩ = some (.int .u8 (packN (l.take k) q : Nat)) := by rw [hb.cell]; simpa using arrV_at (l.take k) q (by omega)
      generalize l[k] = x at ca HT ht1 ht4
      have hq1 : ((k : Int).tdiv 4) = ((q : Nat) : Int) := by rw [Int.tdiv_eq_ediv_of_nonneg (by omega)]; omega
      have hr1 : ((k : Int).tmod 4) = ((k % 4 : Nat) : Int) := by rw [Int.tmod_eq_emod_of_nonneg (by omega)]; omega
      have hq16 : (q : Int) < 16 := by omega
      have fb := fun i => hb.frozen i
      obtain ⟨old, hold'⟩ : ∃ old, packN (l.take k) q = old := ⟨_, rfl⟩
      have hold := Lib.hid hold'
      rw [hold'] at cb
      clear hold'
      clear hca hr
      go_wp2
      have HV : Hid (old < 4 ^ (k % 4) → bits .or .u8 (old : Int) ((x - 1) * 2 ^ (k % 4 * 2) % 256) = ((old + (x - 1).toNat * 4 ^ (k % 4) : Nat) : Int)) := fun h => lane ht1 ht4 (by omega) h
      have HP : Hid (∀ {v : Int}, v = ((old + (x - 1).toNat * 4 ^ (k % 4) : Nat) : Int) → (arrV (l.take k)).toArray.setIfInBounds q (.int .u8 v) = (arrV (l.take (k + 1))).toArray) := fun {v} hv => by
        rw [HT.out]
        refine arrV_put (by rw [hl]; exact hq.symm) (by omega) ?_
        rcases packN_here (l := l.take k) (t := x) with h | h
        · rw [hl, hq] at h
          rw [h.1, hv, hold.out]
        · exact absurd hall h
      have HO : Hid (old < 4 ^ (k % 4)) := by
        show _ < _
        rcases packN_here (l := l.take k) (t := x) with h | h
        · rw [hl, hq] at h
          rw [← hold.out]; exact h.2
        · exact absurd hall h
      have HB : Hid (Blk (wr.setCell ⟨w.heap.size, q, none⟩ (.int .u8 (bits .or .u8 (old : Int) ((x - 1) * 2 ^ (k % 4 * 2) % 256)))) w.heap.size 227 (arrV (l.take (k + 1))).toArray) := by
        have := hb.put q (.int .u8 (bits .or .u8 (old : Int) ((x - 1) * 2 ^ (k % 4 * 2) % 256)))
        rw [HP.out (HV.out HO.out)] at this
        exact this
      have HK : Hid (Keep NoB w (wr.setCell ⟨w.heap.size, q, none⟩ (.int .u8 (bits .or .u8 (old : Int) ((x - 1) * 2 ^ (k % 4 * 2) % 256))))) := hK.setCell (fun h => absurd h (by simp)) _
      clear HV HP HO hb hK hall hl HT hold
      go_region
      go_wp2
      go_roundw
      case rel => exact ⟨k + 1, by omega, by go_num, HB.out, HK.out.drew⟩
      case measure => simp [intOf]; omega
    · obtain rfl : k = n := by omega
      have hlk : l.take k = l := List.take_of_length_le (by rw [hn.out]; exact Nat.le_refl _)
      rw [hlk] at hb
      have ht := V.TapeAt.new wr
      have hO0 : ∀ j, j = wr.heap.size → j < (wr.alloc (.cells #[.pointer none, .int .i64 0] 134)).heap.size := fun j e => by subst e; simp
      have hKt := hK.alloc (.cells #[.pointer none, .int .i64 0] 134)
      have hbt := hb.alloc (.cells #[.pointer none, .int .i64 0] 134)
      have hgt : w.heap.size < wr.heap.size := hb.lt
      have HS := Lib.hid (fun w => size_any k (by omega) w)
      have HPL : Hid ((packL l).length = sz k) := by show _ = _; rw [packL_length, hn.out]
      have hz : sz k ≤ 16 := by unfold sz; omega
      have HKN := Lib.hid hk0.out
      have HX : Hid (([] ++ V.encL k) ++ packL l = bytesT l) := by show _ = _; unfold bytesT; rw [hn.out]; rfl
      have HLE := V.encL_len k
      have hwrs : w.heap.size ≤ wr.heap.size := hK.size
      have HLL : Hid (l.length ≤ 64) := by show _ ≤ _; rw [hn.out]; exact h64
      clear hb hK hlk hk0
      go_wp2_with fail
      refine (V.tnumber_any _ wr.heap.size (fun j => j = wr.heap.size) [] k ht hO0 (by decide)).mono ?_
      rintro e w1 ⟨rfl, h1, hk1⟩
      have hb1 := hbt.keep hk1 (fun e => by omega)
      have hK1 : Keep NoB w w1 := hKt.trans hk1 (fun j e hl => by omega)
      have H1 := Lib.hid h1
      clear h1 ht hbt hKt hk1 hO0
      go_wp2_with fail
      refine (V.all_any w1 wr.heap.size _ ([] ++ V.encL k) H1.out (by simp; omega)).mono ?_
      rintro e w2 ⟨v2, rfl, hv2, hk2⟩
      have hb2 := hb1.keep hk2 id
      have hK2 := keepN hK1 hk2
      have hO2 := hv2.mono (O' := Fresh w) (fun j hj _ => by unfold Fresh at hj ⊢; exact Nat.le_trans hK1.size hj)
      obtain ⟨A2, c2, rfl, _⟩ := hO2.form
      clear hv2 hb1 hK1 H1 hk2
      go_wp2_with fail
      refine (HS.out _).mono ?_
      rintro e w3 ⟨rfl, rfl⟩
      have hrd := arrV_rd hb2 HKN.out HLL.out
      have hf2 := fun i => hb2.frozen i
      have hcell : ∀ i, w2.cell? ⟨w.heap.size, i, none⟩ = (arrV l)[i]? := fun i => by rw [hb2.cell]; simp
      have hlen : ([] ++ V.encL k : List UInt8).length = (V.encL k).length := rfl
      obtain ⟨z, hzz⟩ : ∃ z, sz k = z := ⟨_, rfl⟩
      rw [hzz] at HPL hz ⊢
      have hsl := slice_arr w2 w.heap.size z hz
      go_wp2_with (at_builtin; refine V.wpList_append_rd _ rfl _ _ rfl _ ([] ++ V.encL k) (packL l) (some ⟨w.heap.size, 0, none⟩) 16 rfl hO2.1 (by rw [HPL.out]; rfl) hrd (by rw [HPL.out]; simp; omega) ?_; intro v5 w5 hown hg hat; obtain ⟨hO3, hK3⟩ := own_app hO2 hK2 hown hg hat; rw [HX.out] at hO3; clear hown hg hat)
      go_ret
      exact ⟨_, rfl, hO3, hK3⟩

end Go.Proofs.YtgifflfjhockaaaGreatDoor.S

namespace Go.Proofs.YtgifflfjhockaaaGreatDoor.S
open Go.RowKit W

end Go.Proofs.YtgifflfjhockaaaGreatDoor.S

namespace Go.Proofs.YtgifflfjhockaaaGreatDoor.S
open Go.RowKit W

/-- What is answered. -/
def encS (l : List Int) : List UInt8 := if okS l = true then bytesT l else []
def encG (a r : List Int) : List UInt8 := if okG a r = true then bytesG a r else []
theorem encS_ok {l : List Int} (h : okS l = true) : encS l = bytesT l := if_pos h
theorem encS_no {l : List Int} (h : okS l = false) : encS l = [] := if_neg (by rw [h]; decide)
theorem encG_ok {a r : List Int} (h : okG a r = true) : encG a r = bytesG a r := if_pos h
theorem encG_no {a r : List Int} (h : okG a r = false) : encG a r = [] := if_neg (by rw [h]; decide)
def EncR (w : World) (xs : List UInt8) (E : Int) (e : Ending) (w' : World) : Prop := ∃ v, e = .returned (.tuple #[v, .int .i64 E]) ∧ V.OwnB w' (Fresh w) v xs ∧ Keep NoB w w'
/-- New bytes. -/
def BtV (w0 : World) (xs : List UInt8) (v : Value) (w : World) : Prop := V.OwnB w (Fresh w0) v xs
theorem BtV.stable (w0 : World) (xs : List UInt8) (v : Value) : StableI (BtV w0 xs v) := fun _ _ h hk => V.OwnB.keep h hk (fun _ _ => id)
theorem bytesT_len (l : List Int) (h : l.length ≤ 64) : (bytesT l).length ≤ 25 := by
  have := V.encL_len l.length
  unfold bytesT
  rw [List.length_append, packL_length]
  unfold sz; omega

set_option maxRecDepth 100000 in
set_option maxHeartbeats 2000000 in
theorem encodeS_any (A : Option Addr) (l : List Int) (na c : Nat) (w : World) (hr : Rd w A (ivs l)) (hn : Hid (l.length = na)) (hm : na ≤ 9223372036854775807) :
    Calls Tryz.prog 73 #[.slice A na c] w (EncR w (encS l) (chkS l)) := by
  cases ho : okS l
  · have HC := Lib.hid (fun w hr => chkS_any A l na c w hr hn hm 60 (chkS_no ho))
    rw [encS_no ho, chkS_no ho]
    clear ho
    go_enter Tryz.func73, Tryz.ntmps73
    go_wp2_with (go_at_call 72; refine (HC.out _ hr).mono ?_; rintro e w1 ⟨rfl, k1⟩)
    go_ret2
    exact ⟨_, rfl, V.OwnB.nil _ _, k1⟩
  · have HC := Lib.hid (fun w hr => chkS_any A l na c w hr hn hm 0 (chkS_ok ho))
    have ho2 := (okS_iff l).1 ho
    have HP := Lib.hid (fun w hr => packS_any A l na c w hr hn (all_known ho2.2) (by rw [← hn.out]; omega))
    rw [encS_ok ho, chkS_ok ho]
    clear ho ho2
    go_enter Tryz.func73, Tryz.ntmps73
    go_wp2_with fail
    refine (HC.out _ hr).mono ?_
    rintro e w1 ⟨rfl, k1⟩
    go_wp2_with fail
    refine (HP.out _ (hr.keepN k1)).mono ?_
    rintro e w2 ⟨v, rfl, hO, k2⟩
    go_wp2
    go_ret2
    exact ⟨_, rfl, hO.mono (fun j hj _ => Nat.le_trans k1.size hj), keepN k1 k2⟩

set_option maxRecDepth 100000 in
set_option maxHeartbeats 4000000 in
theorem encodeG_any (A : Option Addr) (a : List Int) (na ca : Nat) (B : Option Addr) (r : List Int) (nb cb : Nat) (w : World) (ha : Rd w A (ivs a)) (hr : Rd w B (ivs r)) (hna : Hid (a.length = na)) (hnb : Hid (r.length = nb)) (hn6 : na ≤ 4611686018427387903) (hm6 : nb ≤ 4611686018427387903) :
    Calls Tryz.prog 129 #[.agg #[.slice A na ca, .slice B nb cb]] w (EncR w (encG a r) (chkG a r)) := by
  have bx := Blk.new w 57 #[.slice A na ca, .slice B nb cb]
  have k0 := (Keep.refl NoB w).alloc (.cells #[.slice A na ca, .slice B nb cb] 57)
  cases ho : okG a r
  · have HC := Lib.hid (fun w ha hr => chkG_any A a na ca B r nb cb w ha hr hna hnb hn6 hm6 61 (chkG_no ho))
    rw [encG_no ho, chkG_no ho]
    clear ho
    go_enter Tryz.func129, Tryz.ntmps129
    go_wp2_with (go_at_call 122; refine (HC.out _ (ha.keepN k0) (hr.keepN k0)).mono ?_; rintro e w1 ⟨rfl, k1⟩)
    go_ret2
    exact ⟨_, rfl, V.OwnB.nil _ _, keepN k0 k1⟩
  · have HC := Lib.hid (fun w ha hr => chkG_any A a na ca B r nb cb w ha hr hna hnb hn6 hm6 0 (chkG_ok ho))
    obtain ⟨o1, o2, o3⟩ := (okG_iff a r).1 ho
    have HPa := Lib.hid (fun w hr => packI_any A a na ca w hr hna o2 (by rw [← hna.out]; omega))
    have HPb := Lib.hid (fun w hr => packI_any B r nb cb w hr hnb (all_known o3) (by rw [← hnb.out]; omega))
    have HLa := Lib.hid (bytesT_len a (by omega))
    have HLb := Lib.hid (bytesT_len r (by omega))
    rw [encG_ok ho, chkG_ok ho]
    clear ho o1 o2 o3
    go_enter Tryz.func129, Tryz.ntmps129
    go_wp2_with fail
    refine (HC.out _ (ha.keepN k0) (hr.keepN k0)).mono ?_
    rintro e w2 ⟨rfl, k1⟩
    obtain ⟨c0, c1⟩ := blk2 (bx.keep k1 id)
    have gK := keepN k0 k1
    have ha2 := ha.keepN gK
    have hr2 := hr.keepN gK
    clear bx k0 k1 ha hr HC
    go_wp2
    refine wp_region_neck 6 #[true, true, true, true, true, true, false, false, false] ((0, false) :: (1, false) :: (3, false) :: (4, false) :: (2, true) :: (5, true) :: []) (fun w' => Keep NoB w2 w') (by kernel_rfl) (by kernel_rfl) (stable_keep w2) (Keep.refl NoB w2).drew ?_
    refine shM_step rfl rfl rfl (by rfl) (by rfl) ?_
    apply Exists.intro
    refine ⟨fun z K hK => ?_, ?_, ?_⟩
    · go_big_quiet_op
      exact hK _ rfl
    · kernel_rfl
    refine shM_step rfl rfl rfl (by rfl) (by rfl) ?_
    apply Exists.intro
    refine ⟨fun z K hK => ?_, ?_, ?_⟩
    · have d0 : ∀ y : KW z.w, y.w.cell? ⟨w.heap.size, 0, none⟩ = some (.slice A na ca) := fun y => Keep.cell (keepN z.has y.keep) c0 id
      go_big_quiet_op
      exact hK _ rfl
    · kernel_rfl
    refine shM_step rfl rfl rfl (by rfl) (by rfl) ?_
    apply Exists.intro
    refine ⟨fun z K hK => ?_, ?_, ?_⟩
    · go_big_quiet_op
      exact hK _ rfl
    · kernel_rfl
    refine shM_step rfl rfl rfl (by rfl) (by rfl) ?_
    apply Exists.intro
    refine ⟨fun z K hK => ?_, ?_, ?_⟩
    · have d1 : ∀ y : KW z.w, y.w.cell? ⟨w.heap.size, 1, none⟩ = some (.slice B nb cb) := fun y => Keep.cell (keepN z.has y.keep) c1 id
      go_big_quiet_op
      exact hK _ rfl
    · kernel_rfl
    refine shM_gen rfl rfl (by kernel_rfl) (BtV w2 (bytesT a)) (BtV.stable _ _) (fun z => ?_) (fun v1 => ?_)
    · unfold yieldsK
      go_simp
      exact (HPa.out _ (ha2.keepN z.has)).mono fun _ _ ⟨v, he, hO, hk⟩ => ⟨v, he, hO.mono (fun j hj _ => Nat.le_trans (Keep.size z.has) hj), hk⟩
    simp only [Act.put, List.setIfInBounds_toArray, List.set_cons_zero, List.set_cons_succ]
    refine shM_gen rfl rfl (by kernel_rfl) (BtV w2 (bytesT r)) (BtV.stable _ _) (fun z => ?_) (fun v2 => ?_)
    · unfold yieldsK
      go_simp
      exact (HPb.out _ (hr2.keepN z.has.1)).mono fun _ _ ⟨v, he, hO, hk⟩ => ⟨v, he, hO.mono (fun j hj _ => Nat.le_trans (Keep.size z.has.1) hj), hk⟩
    simp only [Act.put, List.setIfInBounds_toArray, List.set_cons_zero, List.set_cons_succ]
    refine shM_nil (fun q => ?_)
    obtain ⟨⟨hq, hO1⟩, hO2⟩ := q.has
    obtain ⟨A2, c2, rfl, hr5, _⟩ := own_rd hO2
    have hKq := keepN gK hq
    have hO1w : V.OwnB q.w (Fresh w) v1 (bytesT a) := V.OwnB.mono hO1 (fun j hj _ => Nat.le_trans gK.size hj)
    refine wpAny_neck (f := 2) (i := 6) (by kernel_rfl) rfl (by kernel_rfl) ?_
    refine V.wp_append_rd q.w (.tmp 12) (.tmp 15) rfl v1 (bytesT a) (bytesT r) A2 c2 (by rfl) hO1w.1 (by rfl) hr5 (by have := HLa.out; have := HLb.out; omega) ?_
    intro v5 w5 hown hg hat
    obtain ⟨hO5, hK5⟩ := own_app hO1w hKq hown hg hat
    simp only [Act.put, List.setIfInBounds_toArray, List.set_cons_zero, List.set_cons_succ]
    refine wpAny_behind ((7, false) :: (8, false) :: []) (fun w' => Keep NoB w5 w') (by kernel_rfl) (by rfl) (by kernel_rfl) (stable_keep w5) (Keep.refl NoB w5) ?_
    refine shM_step rfl rfl rfl (by rfl) (by rfl) ?_
    apply Exists.intro
    refine ⟨fun z K hK => ?_, ?_, ?_⟩
    · go_big_quiet_op
      exact hK _ rfl
    · kernel_rfl
    refine shM_step rfl rfl rfl (by rfl) (by rfl) ?_
    apply Exists.intro
    refine ⟨fun z K hK => ?_, ?_, ?_⟩
    · go_big_quiet_op
      exact hK _ rfl
    · kernel_rfl
    refine shM_nil (fun z => ?_)
    have hz := z.has
    generalize z.w = w6 at hz ⊢
    go_wp2
    go_ret2
    exact ⟨_, rfl, hO5.keep hz (fun _ _ => id), keepN hK5 hz⟩

end Go.Proofs.YtgifflfjhockaaaGreatDoor.S

namespace Go.Proofs.YtgifflfjhockaaaGreatDoor
open Go.RowKit Go.Shelf

section
variable {P : Program} {n : Nat}

theorem Keep.grows {W W' : World} (h : Keep NoB W W') : W.grownBy W' none := ⟨h.os, h.tape, h.output, h.size, fun k hk _ => h.block k hk id⟩
theorem ownFrom_keeps {β : Type} {B : Nat} {I : β → World → Prop} (hI : OwnFrom B I) {s : β} {W W' : World} (h : I s W) (hk : Keep NoB W W') : I s W' := hI s W W' none h hk.grows (fun r e => by cases e)
theorem keepsFrom_keep {B : Nat} {W W' : World} (hk : Keep NoB W W') : KeepsFrom B W W' := ⟨hk.size, fun k _ _ h _ => (hk.block k (Array.getElem?_eq_some_iff.1 h).1 id).trans h⟩

/-- One round, out of the walks of the assignments and of the body, if the body comes to its end. -/
theorem yieldAt_end {L m : Nat} {r : Loop} {args : Array Value} {W : World} {R : World → Prop} (hl : W.heap[L]? = some (.loop r)) (hr : r.state = .ready) (hp : r.pending = none) (hs : args.size = r.params.size)
    (h : r.assign.wpIn (Fence.wide.inRound L) m P (Exit.then (fun a₁ W₁ => W₁.heap[L]? = some (.loop r) ∧
        r.body.wpIn (Fence.wide.inRound L) m P (fun e _ W₃ => e = .normal ∧ W₃.heap[L]? = some (.loop { r with state := .busy }) ∧ R (W₃.putObj L (.loop r))) a₁ (W₁.putObj L (.loop { r with state := .busy })))
        (fun _ _ _ => False)) { tmps := (r.params.zip args).foldl (fun t (p, v) => t.setIfInBounds p v) r.tmps, defers := [] } W) :
    YieldAt Fence.wide m P L args W fun e W' => e = .returned (.bool true) ∧ R W' := by
  refine ⟨r.fn, _, r.assign, r.body, run_yield hl hs, roundIn_of_wpIn trivial (wpIn_mono h ?_)⟩
  intro e a₁ W₁ hq
  cases e with
  | normal =>
    obtain ⟨h1, h2⟩ := hq
    refine ⟨_, run_beginRound h1 hr, wpIn_mono h2 ?_⟩
    rintro e₃ a₃ W₃ ⟨rfl, h3, h4⟩
    refine ⟨_, _, run_endRound none h3, rfl, ?_⟩
    have hb : ({ r with state := .busy } : Loop) = { r with state := .busy } := rfl
    have he : ({ ({ r with state := .busy } : Loop) with state := if (none : Option Code).isNone then LoopState.ready else .done, pending := none } : Loop) = r := by
      cases r; simp_all
    rw [he]; exact h4
  | exit id => exact hq
  | goto t => exact hq
  | ret => exact hq
  | panic c => exact hq
  | outgrown => exact hq

/-- What is asked of the iterator. -/
def Brings {α : Type} (P : Program) (m k : Nat) (gf : Nat) (lb : Array Value) (encs : α → Array Value) (I : List α → World → Prop) (En : List α → α → World → Prop) (S : List α → Prop) : Prop :=
  ∀ (L : Nat) (J : List α → World → Prop), (∀ pre W W', J pre W → Keep NoB W W' → J pre W') → (∀ pre W, J pre W → I pre W) →
    (∀ pre x W, J pre W → En pre x W → YieldAt Fence.wide m P L (encs x) W fun e W' => e = .returned (.bool true) ∧ J (pre ++ [x]) W') →
    ∀ W, J [] W → CallsIn Fence.wide k P gf (#[.func (.yield L) #[] #[]] ++ lb) W fun e W' => (∃ v, e = .returned v) ∧ ∃ xs, S xs ∧ J xs W'

theorem wpIn_rangeFunc_brings {α : Type} {g : Operand} {ps : Array Tmp} {assign body : Code} {Q : Exit → Act → World → Prop} {a : Act} {w : World} {m : Nat}
    {gf : Nat} {lb : Array Value} (hg : a.eval g = .func (.func gf) #[] lb) (eg : ∀ args w, (callFunc gf args).run P w = .ok (.enter gf args) w)
    {encs : α → Array Value} {I : List α → World → Prop} {En : List α → α → World → Prop} {S : List α → Prop} (hit : Brings P m (n - 1) gf lb encs I En S) (hps : ∀ x, (encs x).size = ps.size)
    (hI : OwnFrom w.heap.size I) (h0 : I [] w) (Ax : List α → α → Act → World → Prop) (hAx : ∀ pre x a', OwnFrom w.heap.size (fun (_ : Unit) W => Ax pre x a' W))
    (hassign : ∀ (l : Nat) (pre : List α) (x : α) (W : World), I pre W → En pre x W →
      assign.wpIn (Fence.wide.inRound l) m P (Exit.then (fun a' W' => Ax pre x a' W' ∧ KeepsFrom w.heap.size W W') (fun _ _ _ => False)) { tmps := (ps.zip (encs x)).foldl (fun t (p, v) => t.setIfInBounds p v) a.tmps, defers := [] } W)
    (hbody : ∀ (l : Nat) (pre : List α) (x : α) (a' : Act) (W : World), Ax pre x a' W → body.wpIn (Fence.wide.inRound l) m P (fun e _ W' => e = .normal ∧ I (pre ++ [x]) W' ∧ KeepsFrom w.heap.size W W') a' W)
    (hdone : ∀ (D : Nat) (xs : List α) (W : World), w.heap.size ≤ D → S xs → I xs W → W.heap[D]? = some (.deferred (some [])) → Q .normal { a with defers := { target := .collected D, args := #[] } :: a.defers } W) :
    (Code.rangeFunc g ps assign body).wpIn Fence.wide n P Q a w := by
  refine wpIn_rangeFunc fun fn _ => ?_
  obtain ⟨r, hr⟩ : ∃ r : Loop, r = { state := .ready, pending := none, fn, tmps := a.tmps, params := ps, assign, body, defers := w.heap.size } := ⟨_, rfl⟩
  obtain ⟨W1, hW1⟩ : ∃ W1, (w.alloc (.deferred (some []))).alloc (.loop r) = W1 := ⟨_, rfl⟩
  have hL1 : W1.heap[w.heap.size + 1]? = some (.loop r) := by
    rw [← hW1]; have := World.alloc_heap_new (w.alloc (.deferred (some []))) (.loop r); rwa [World.size_alloc] at this
  have hD1 : W1.heap[w.heap.size]? = some (.deferred (some [])) := by
    rw [← hW1]; exact (Below.heap_alloc _ _ _ (by simp)).trans (World.alloc_heap_new w _)
  refine ⟨w.heap.size + 1, [{ target := .collected w.heap.size, args := #[] }], W1, { target := .fn (.func gf) lb, args := #[.func (.yield (w.heap.size + 1)) #[] #[]] }, W1, gf,
    #[.func (.yield (w.heap.size + 1)) #[] #[]] ++ lb, W1, ?_, ?_, fun _ _ => trivial, ?_, (fun h => by cases h), ?_⟩
  · rw [← hW1, hr]; exact run_enterLoop_outer _ _ _ _ _
  · simp only [resolve, hg]
    simp [go_sem]
  · simp [invoke, go_sem, eg]
  refine (hit (w.heap.size + 1) (fun pre W => I pre W ∧ W.heap[w.heap.size + 1]? = some (.loop r) ∧ W.heap[w.heap.size]? = some (.deferred (some []))) ?_ (fun _ _ h => h.1) ?_ W1 ⟨by rw [← hW1]; exact hI.alloc _ (hI.alloc _ h0), hL1, hD1⟩).mono ?_
  · rintro pre W W' ⟨h1, h2, h3⟩ hk
    exact ⟨ownFrom_keeps hI h1 hk, (hk.block _ (Array.getElem?_eq_some_iff.1 h2).1 id).trans h2, (hk.block _ (Array.getElem?_eq_some_iff.1 h3).1 id).trans h3⟩
  · clear hL1 hW1 hD1
    subst hr
    rintro pre x W ⟨h1, h2, h3⟩ hen
    refine yieldAt_end h2 rfl rfl (hps x) ?_
    have ha := hassign (w.heap.size + 1) pre x W h1 hen
    refine wpIn_mono ha ?_
    intro e a₁ Wa hq
    cases e with
    | normal =>
      obtain ⟨hax, hka⟩ := hq
      have l2 := hka.same _ _ (by omega) h2 rfl
      have d2 := hka.same _ _ (Nat.le_refl _) h3 rfl
      refine ⟨l2, ?_⟩
      have lt2 := (Array.getElem?_eq_some_iff.1 l2).1
      refine wpIn_mono (hbody _ pre x a₁ _ ((hAx pre x a₁).putObj (s := ()) _ hax (by omega) l2 rfl)) ?_
      rintro e₃ a₃ W₃ ⟨rfl, h4, h5⟩
      have l3 := h5.same (w.heap.size + 1) _ (by omega) (World.putObj_heap_same lt2) rfl
      have d3 := h5.same w.heap.size _ (Nat.le_refl _) ((World.putObj_heap_other (by omega)).trans d2) rfl
      refine ⟨rfl, l3, hI.putObj _ h4 (by omega) l3 rfl, World.putObj_heap_same (Array.getElem?_eq_some_iff.1 l3).1, (World.putObj_heap_other (by omega)).trans d3⟩
    | exit id => exact hq
    | goto t => exact hq
    | ret => exact hq
    | panic c => exact hq
    | outgrown => exact hq
  · rintro e W2 ⟨⟨v, rfl⟩, xs, hS, h1, h2, h3⟩
    have hp : r.pending = none := by rw [hr]
    exact ⟨none, _, by have := run_endLoop (P := P) h2 (by rw [hr]; simp); rw [hp] at this; exact this, hdone _ xs _ (Nat.le_refl _) hS (hI.putObj _ h1 (by omega) h2 rfl) ((World.putObj_heap_other (by omega)).trans h3)⟩
end
end Go.Proofs.YtgifflfjhockaaaGreatDoor

namespace Go.Proofs.YtgifflfjhockaaaGreatDoor.S
open Go.RowKit Go.Shelf W
attribute [local go_sem] Oper.semAt_some

abbrev pcE (b : List UInt8) (i : Nat) : Array Value := #[.int .i64 (pc b i : Nat)]
/-- What a round keeps: the bytes. -/
def RdK (A : Option Addr) (b : List UInt8) (W W' : World) : Prop := V.Rd W A b → V.Rd W' A b
theorem RdK.trans {A : Option Addr} {b : List UInt8} {X Y Z : World} (h : RdK A b X Y) (h' : RdK A b Y Z) : RdK A b X Z := fun hr => h' (h hr)
theorem RdK.putObj {A : Option Addr} {b : List UInt8} (W : World) (l : Nat) (o o' : Obj) (hl : W.heap[l]? = some o) (ho : o.isCells = false) : RdK A b W (W.putObj l o') := fun hr h0 => by
  obtain ⟨ad, e, hc⟩ := hr h0
  refine ⟨ad, e, fun j u hu => ?_⟩
  have h1 := hc j u hu
  have hne : (ad.add j).block ≠ l := by
    intro e2
    unfold World.cell? at h1
    rw [e2, hl] at h1
    cases o with
    | cells cs t f => cases ho
    | _ => simp at h1
  exact (World.cell?_of_block (World.putObj_heap_other hne)).trans h1
theorem pc_div (b : List UInt8) (j r : Nat) (hj : j < b.length) (hr : r < 4) : b[j].toNat / 4 ^ r % 4 = pc b (4 * j + r) := (pc_four hj hr).symm
theorem and3 (v : Nat) (h : v < 256) : bits .and .u8 (v : Int) 3 = ((v % 4 : Nat) : Int) := by
  have := u8_and_nat v 3 h (by omega)
  rw [show ((3 : Nat) : Int) = 3 from rfl] at this
  rw [this, show (3 : Nat) = 2 ^ 2 - 1 from rfl, Nat.and_two_pow_sub_one_eq_mod]

set_option maxRecDepth 100000 in
set_option maxHeartbeats 4000000 in
theorem pieces1_in (m l : Nat) (hm : 1 ≤ m) (bb : Nat) (A : Option Addr) (b : List UInt8) (c : Nat) (hlen : b.length ≤ 1000) (J Jx : List Nat → World → Prop)
    (hY : ∀ pre x W, J pre W → pre.length < 4 * b.length → YieldAt Fence.wide (m - 1) Tryz.prog l (pcE b x) W fun e W' =>
      (e = .returned (.bool true) ∧ J (pre ++ [x]) W' ∧ RdK A b W W') ∨ (e = .returned (.bool false) ∧ Jx (pre ++ [x]) W'))
    (W : World) (hx : Blk W bb 26 #[.slice A b.length c]) (hr : V.Rd W A b) (h0 : J [] W) :
    CallsIn Fence.wide m Tryz.prog 207 #[.func (.yield l) #[] #[], .pointer (some ⟨bb, 0, none⟩)] W fun e W' => (∃ v, e = .returned v) ∧
      ((∃ ys : List Nat, ys = List.range (4 * b.length) ∧ J ys W') ∨ (∃ pre : List Nat, (∃ k, k ≤ 4 * b.length ∧ pre = List.range k) ∧ Jx pre W')) := by
  have cb : W.cell? ⟨bb, 0, none⟩ = some (.slice A b.length c) := hx.cell 0
  refine callsIn_of_wp Tryz.func207 rfl trivial ?_ rfl
  simp only [Tryz.ntmps207, List.size_toArray, List.length_cons, List.length_nil, Nat.reduceAdd, Nat.reduceSub, Array.replicate_succ, Array.replicate_zero, List.push_toArray, List.append_toArray, List.nil_append, List.cons_append]
  gi_wp2
  gi_loopw [7] (fun p wr => ∃ j : Nat, j ≤ b.length ∧ p = .int .i64 (j : Int) ∧ J (List.range (4 * j)) wr ∧ V.Rd wr A b) (fun p _ => b.length - (intOf p).toNat)
  case atStart => exact ⟨0, by omega, rfl, h0, hr⟩
  case round =>
    obtain ⟨j, hj, rfl, hJ, hR⟩ := hrel
    by_cases hlt : j < b.length
    · have hA := Lib.hid hR
      obtain ⟨ad, rfl, hc⟩ := hR (by omega)
      have cj := hc j (V.bv b[j]) (by simp [hlt])
      have hv : b[j].toNat < 256 := UInt8.toNat_lt _
      have HP : Hid (∀ r, r < 4 → b[j].toNat / 4 ^ r % 4 = pc b (4 * j + r)) := fun r hr => pc_div b j r hlt hr
      simp only [V.bv] at cj
      obtain ⟨v, hv'⟩ : ∃ v, b[j].toNat = v := ⟨_, rfl⟩
      rw [hv'] at cj hv HP
      clear hc hv' hr
      gi_wp2
      gi_loopw [4, 11] (fun x q wr => ∃ r : Nat, r ≤ 4 ∧ q = .int .i64 (r : Int) ∧ x = .int .u8 ((v / 4 ^ r : Nat) : Int) ∧ J (List.range (4 * j + r)) wr ∧ V.Rd wr (some ad) b) (fun _ q _ => 4 - (intOf q).toNat)
      case atStart => exact ⟨0, by omega, rfl, by simp, hJ, hA.out⟩
      case round =>
        clear hJ cj hA
        obtain ⟨r, hr4, rfl, rfl, hJ, hR⟩ := hrel
        by_cases hrl : r < 4
        · have hq := HP.out r hrl
          have hd : v / 4 ^ r < 256 := Nat.lt_of_le_of_lt (Nat.div_le_self _ _) hv
          have hs : v / 4 ^ r / 4 = v / 4 ^ (r + 1) := by rw [Nat.pow_succ, Nat.div_div_eq_div_mul]
          have HY := Lib.hid (hY (List.range (4 * j + r)) (4 * j + r) _ hJ (by simp; omega))
          dsimp only [pcE] at HY
          rw [← hq] at HY
          have HE : Hid (List.range (4 * j + r) ++ [4 * j + r] = List.range (4 * j + (r + 1))) := by show _ = _; rw [← Nat.add_assoc, List.range_succ]
          generalize v / 4 ^ r = y at HY hd hs
          have hand := and3 y hd
          have HS := Lib.hid hs
          obtain ⟨fn, tmps, assign, body, hy, hRun⟩ := HY.out
          clear HY hq hs hJ
          push_cast at hy
          gi_wp2
          refine hRun.mono ?_
          rintro e W3 (⟨rfl, hJ3, hk3⟩ | ⟨rfl, hJx3⟩)
          · have hR3 := hk3 hR
            rw [HE.out] at hJ3
            gi_wp2
            go_roundw
            case rel => exact ⟨r + 1, by omega, by go_num, by rw [← HS.out]; go_num, hJ3, hR3⟩
            case measure => simp [intOf]; omega
          · rw [HE.out] at hJx3
            gi_wp2
            refine bodyPost_ret (results_none rfl _ _ _) rfl ?_
            exact ⟨⟨_, rfl⟩, .inr ⟨_, ⟨_, by omega, rfl⟩, hJx3⟩⟩
        · obtain rfl : r = 4 := by omega
          gi_wp2
          go_roundw
          case rel => exact ⟨j + 1, by omega, by go_num, by rw [show 4 * (j + 1) = 4 * j + 4 by omega]; exact hJ, hR⟩
          case measure => simp [intOf]; omega
    · obtain rfl : j = b.length := by omega
      gi_wp2
      go_end0
      exact ⟨⟨_, rfl⟩, .inl ⟨_, rfl, hJ⟩⟩

theorem pieces_stops (m : Nat) (hm : 1 ≤ m) (bb : Nat) (A : Option Addr) (b : List UInt8) (c : Nat) (hlen : b.length ≤ 1000) (w : World) (hx : Blk w bb 26 #[.slice A b.length c]) (hr : V.Rd w A b) :
    SeqStopsK Fence.wide m Tryz.prog 207 #[.pointer (some ⟨bb, 0, none⟩)] (pcE b) (RdK A b) (fun ys : List Nat => ys = List.range (4 * b.length)) (fun pre : List Nat => ∃ k, k ≤ 4 * b.length ∧ pre = List.range k) (4 * b.length) w := fun l J Jx W hb _ _ hY h0 =>
  pieces1_in m l hm bb A b c hlen J Jx hY W (Blk.keep hx (Keep.of_below (O := NoB) hb) id) (hr.keep (Keep.of_below (O := NoB) hb) (fun _ _ _ => id)) h0

theorem pieces_any (m : Nat) (A : Option Addr) (n c : Nat) (w : World) :
    CallsIn Fence.wide m Tryz.prog 192 #[.slice A n c] w fun e w' => e = .returned (.func (.func 207) #[] #[.pointer (some ⟨w.heap.size, 0, none⟩)]) ∧ w' = w.alloc (.cells #[.slice A n c] 26) := by
  refine callsIn_of_wp Tryz.func192 rfl trivial ?_ rfl
  simp only [Tryz.ntmps192, List.size_toArray, List.length_cons, List.length_nil, Nat.reduceAdd, Nat.reduceSub, Array.replicate_succ, Array.replicate_zero, List.push_toArray, List.append_toArray, List.nil_append, List.cons_append]
  gi_wp2
  go_ret
  exact ⟨rfl, rfl⟩

end Go.Proofs.YtgifflfjhockaaaGreatDoor.S

namespace Go.Proofs.YtgifflfjhockaaaGreatDoor.S
open Go.RowKit Go.Shelf W
attribute [local go_sem] Oper.semAt_some

/-- The types of the pieces that have come. -/
def tyL (b : List UInt8) (n : Nat) (pre : List Nat) : List Int := (pre.take n).map fun i => (pc b i : Int) + 1
theorem tyL_len (b : List UInt8) (n : Nat) (pre : List Nat) : (tyL b n pre).length = min n pre.length := by simp [tyL]
theorem tyL_more {b : List UInt8} {n : Nat} {pre : List Nat} {x : Nat} (h : pre.length < n) : ivs (tyL b n (pre ++ [x])) = ivs (tyL b n pre) ++ [.int .i64 ((pc b x : Int) + 1)] := by
  unfold tyL
  rw [List.take_of_length_le (by simp; omega), List.take_of_length_le (by omega)]
  simp
theorem tyL_same {b : List UInt8} {n : Nat} {pre : List Nat} {x : Nat} (h : n ≤ pre.length) : tyL b n (pre ++ [x]) = tyL b n pre := by
  unfold tyL
  rw [List.take_append_of_le_length h]
theorem tyL_all {b : List UInt8} {n : Nat} (h : n ≤ 4 * b.length) : tyL b n (List.range (4 * b.length)) = unp b n := by
  unfold tyL unp
  rw [List.take_range, Nat.min_eq_left h]
/-- What types answers. -/
def tyX (b : List UInt8) (n : Nat) : List Int := if clean b n = true then unp b n else []
theorem tyX_ok {b : List UInt8} {n : Nat} (h : clean b n = true) : tyX b n = unp b n := if_pos h
theorem tyX_no {b : List UInt8} {n : Nat} (h : clean b n = false) : tyX b n = [] := if_neg (by rw [h]; decide)
def TyR (w : World) (xs : List Int) (ok : Bool) (e : Ending) (w' : World) : Prop := ∃ v, e = .returned (.tuple #[v, .bool ok]) ∧ Own w' 3 1 (Fresh w) v xs.length (ivs xs) ∧ Keep NoB w w'
theorem clean_of {b : List UInt8} {n : Nat} (h : ∀ i ∈ (List.range (4 * b.length)).drop n, pc b i = 0) : clean b n = true := by
  rw [clean_iff]
  intro i h1 h2
  refine h i (List.mem_iff_getElem?.2 ⟨i - n, ?_⟩)
  rw [List.getElem?_drop, show n + (i - n) = i by omega, List.getElem?_range h2]
theorem clean_not {b : List UInt8} {n k : Nat} {q : List Nat} {x : Nat} (hk : k ≤ 4 * b.length) (h : q ++ [x] = List.range k) (hn : n ≤ q.length) (hx : pc b x ≠ 0) : clean b n = false := by
  cases hc : clean b n
  · rfl
  · exfalso
    have hl := congrArg List.length h
    simp at hl
    have hg : (q ++ [x])[q.length]? = some x := by simp
    rw [h, List.getElem?_range (by omega)] at hg
    injection hg with hg
    exact hx ((clean_iff b n).1 hc x (by omega) (by omega))
theorem keep_put {O : Nat → Prop} {w W : World} {D : Nat} {o : Obj} (h : Keep O w W) (hD : w.heap.size ≤ D) : Keep O w (W.putObj D o) := h.grown (grownBy_putObj' W D o) (fun g e hl => by cases e; omega)
theorem rdK_below {A : Option Addr} {b : List UInt8} {B : Nat} {W W' : World} (hA : ∀ ad, A = some ad → 0 < b.length → ad.block < B) (h : Below B W W') : RdK A b W W' := fun hr h0 => by
  obtain ⟨ad, e, hc⟩ := hr h0
  exact ⟨ad, e, fun j u hu => (World.cell?_of_block (h.block _ (by rw [V.block_add]; exact hA ad e h0))).trans (hc j u hu)⟩

/-- What the walk keeps. -/
def typesSI (w : World) (b : List UInt8) (bl ba n : Nat) (pre : List Nat) (W : World) : Prop :=
  (∃ v, Boxed W bl 58 v ∧ W.ownsRow (w.heap.size + 1) 3 1 v (tyL b n pre).length (ivs (tyL b n pre)) ∧ True) ∧ Boxed W w.heap.size 3 (.int .i64 n) ∧ Boxed W ba 4 (.bool true) ∧ Below w.heap.size w W ∧ ∀ i ∈ pre.drop n, pc b i = 0
def typesSX (w : World) (b : List UInt8) (ba n : Nat) (cd : Code) (pre : List Nat) (W : World) : Prop :=
  cd = .exit 0 ∧ Boxed W ba 4 (.bool false) ∧ Below w.heap.size w W ∧ ∃ q x, pre = q ++ [x] ∧ n ≤ q.length ∧ pc b x ≠ 0
theorem typesSI_own (w : World) (b : List UInt8) (bl ba n B : Nat) (hB : w.heap.size ≤ B) : OwnFrom B (typesSI w b bl ba n) := by
  refine OwnFrom.and (Own.from (holdsRow_own (w.heap.size + 1) bl 58 3 1 (fun pre : List Nat => (tyL b n pre).length) (fun pre : List Nat => ivs (tyL b n pre)) (fun _ _ => True)) _) ?_
  exact OwnFrom.and (Own.from (V.boxed_own' _ _ _) _) (OwnFrom.and (Own.from (V.boxed_own' _ _ _) _) (OwnFrom.and (ownFrom_below (Nat.le_refl _) hB) (fun _ _ _ _ h _ _ => h)))
theorem typesSX_own (w : World) (b : List UInt8) (ba n B : Nat) (cd : Code) (hB : w.heap.size ≤ B) : OwnFrom B (typesSX w b ba n cd) := by
  rintro s X Y row ⟨h0, h1, h2, h3⟩ hg hrow
  exact ⟨h0, V.boxed_own' (β := Unit) _ _ _ () X Y row h1 hg (fun r e => (hrow r e).2), ownFrom_below (β := Unit) (Nat.le_refl _) hB () X Y row h2 hg hrow, h3⟩
theorem typesS_step {w W w1 : World} {b : List UInt8} {bl ba n x : Nat} {pre : List Nat} {v v' : Value} {tmp : Obj} {A : Option Addr} (hA : ∀ ad, A = some ad → 0 < b.length → ad.block < w.heap.size)
    (hv : Boxed W bl 58 v) (hrow : W.ownsRow (w.heap.size + 1) 3 1 v (tyL b n pre).length (ivs (tyL b n pre))) (hbn : Boxed W w.heap.size 3 (.int .i64 n)) (hba : Boxed W ba 4 (.bool true)) (hB : Below w.heap.size w W)
    (hbb : w.heap.size + 1 ≤ bl) (hsz : w.heap.size + 1 ≤ W.heap.size) (hne : ba ≠ bl) (hlt : pre.length < n)
    (hown' : w1.ownsRow (w.heap.size + 1) 3 1 v' ((tyL b n pre).length + 1) (ivs (tyL b n pre) ++ [.int .i64 ((pc b x : Int) + 1)])) (hgrow : (W.alloc tmp).grownBy w1 v.ownBlock) :
    KeepsOthers W (w1.setCell ⟨bl, 0, none⟩ v') ∧ RdK A b W (w1.setCell ⟨bl, 0, none⟩ v') ∧ typesSI w b bl ba n (pre ++ [x]) (w1.setCell ⟨bl, 0, none⟩ v') := by
  obtain ⟨hv1, hv2, hr2, hk2, hb2⟩ := hv.appended (by decide) hrow hsz hbb hown' hgrow
  have hbn2 := V.boxed_far (((hbn.alloc tmp).kept hgrow (fun e => by have := (hrow.lt _ e.symm).1; omega))) (B' := bl) (by omega) v'
  have hba2 := V.boxed_far (((hba.alloc tmp).kept hgrow (hba.not_row (by decide) hrow))) (B' := bl) hne v'
  refine ⟨hk2, rdK_below hA (hb2.mono (Nat.le_succ _)), ⟨v', hv2, ?_, trivial⟩, hbn2, hba2, hB.trans (hb2.mono (Nat.le_succ _)), ?_⟩
  · rw [tyL_more hlt]
    have e : (tyL b n (pre ++ [x])).length = (tyL b n pre).length + 1 := by rw [tyL_len, tyL_len, List.length_append]; simp; omega
    rw [e]; exact hr2
  · rw [List.drop_of_length_le (by simp; omega)]
    intro i h; simp at h

set_option maxRecDepth 100000 in
set_option maxHeartbeats 4000000 in
theorem typesS_any (A : Option Addr) (b : List UInt8) (c : Nat) (n : Nat) (w : World) (hr : V.Rd w A b) (hlen : b.length ≤ 1000) (hn4 : n ≤ 4 * b.length) :
    Calls Tryz.prog 159 #[.slice A b.length c, .int .i64 n] w (TyR w (tyX b n) (clean b n)) := by
  have hA : ∀ ad, A = some ad → 0 < b.length → ad.block < w.heap.size := fun ad e h0 => V.Rd.lt hr e h0
  obtain ⟨i0, hi, hz0, hz1, hz2⟩ := info_parts int_info
  refine (callsIn_wide (n := 4)).1 ?_
  refine callsIn_of_wp_marks Tryz.func159 rfl trivial ?_ rfl
  simp only [Tryz.ntmps159, List.size_toArray, List.length_cons, List.length_nil, Nat.reduceAdd, Nat.reduceSub, Array.replicate_succ, Array.replicate_zero, List.push_toArray, List.append_toArray, List.nil_append, List.cons_append]
  gi_wp2
  refine V.wpIn_scope_wide ?_
  gi_wp2_with (gi_at_make; refine wpListIn_make_own _ rfl _ _ 58 rfl (w.heap.size + 1) 3 i0 (.int .i64 0) 1 Tryz.underlying58 hi hz0 hz1 _ _ _ n rfl rfl rfl (by rw [hz2]; omega) (by unfold maxLen; omega) (by simp) ?_; intro w1 hrow1 hg1)
  refine wpIn_label ?_
  have hs1 : w.heap.size + 2 ≤ w1.heap.size := by have := (hrow1.lt _ rfl).2; simp at this; omega
  have bN : Boxed w1 w.heap.size 3 (.int .i64 n) := (Boxed.new w 3 (.int .i64 n)).kept hg1 (by simp)
  have bL := Boxed.new w1 58 (.slice (some ⟨w.heap.size + 1, 0, none⟩) 0 n)
  have hB1 : Below w.heap.size w w1 := ((Below.refl _ w).alloc (Nat.le_refl _) _).grown hg1 (by simp) (by simp)
  have bA := Boxed.new (w1.alloc (.cells #[.slice (some ⟨w.heap.size + 1, 0, none⟩) 0 n] 58)) 4 (.bool true)
  rw [World.size_alloc] at bA
  gi_wp2_with (refine ⟨trivial, ?_⟩; gi_at_call 192; refine (pieces_any _ A b.length c _).mono ?_; rintro e w' ⟨rfl, rfl⟩)
  have hI0 : typesSI w b w1.heap.size (w1.heap.size + 1) n [] (((w1.alloc (.cells #[.slice (some ⟨w.heap.size + 1, 0, none⟩) 0 n] 58)).alloc (.cells #[.bool true] 4)).alloc (.cells #[.slice A b.length c] 26)) := by
    refine ⟨⟨_, (bL.alloc _).alloc _, ?_, trivial⟩, ((bN.alloc _).alloc _).alloc _, bA.alloc _, ((hB1.alloc (by omega) _).alloc (by simp; omega) _).alloc (by simp; omega) _, fun i h => by simp at h⟩
    have hr := ((hrow1.alloc (.cells #[.slice (some ⟨w.heap.size + 1, 0, none⟩) 0 n] 58)).alloc (.cells #[.bool true] 4)).alloc (.cells #[.slice A b.length c] 26)
    simpa [tyL] using hr
  have bP := Blk.new ((w1.alloc (.cells #[.slice (some ⟨w.heap.size + 1, 0, none⟩) 0 n] 58)).alloc (.cells #[.bool true] 4)) 26 #[.slice A b.length c]
  simp only [World.size_alloc] at bP
  have hr3 : V.Rd (((w1.alloc (.cells #[.slice (some ⟨w.heap.size + 1, 0, none⟩) 0 n] 58)).alloc (.cells #[.bool true] 4)).alloc (.cells #[.slice A b.length c] 26)) A b := hr.keep (Keep.of_below (O := NoB) hI0.2.2.2.1) (fun _ _ _ => id)
  refine wpIn_rangeFunc_ownG rfl (by omega) (gf := 207) (lb := #[.pointer (some ⟨w1.heap.size + 1 + 1, 0, none⟩)]) rfl trivial (enters_of Tryz.func207 (by kernel_rfl) rfl)
    (pieces_stops _ (by omega) (w1.heap.size + 1 + 1) A b c hlen _ bP hr3) (fun h h' => RdK.trans h h') (fun W l o o' _ hl ho _ => RdK.putObj W l o o' hl ho) (Below.refl _ _) (fun _ => rfl)
    (typesSI w b w1.heap.size (w1.heap.size + 1) n) (typesSX w b (w1.heap.size + 1) n) (typesSI_own w b _ _ n _ (by simp; omega)) (fun cd => typesSX_own w b _ n _ cd (by simp; omega)) hI0
    (fun x => { tmps := #[.slice A b.length c, .int .i64 n, undef, .pointer (some ⟨w.heap.size, 0, none⟩), .slice none 0 0, .bool false, .pointer (some ⟨w1.heap.size, 0, none⟩), .pointer (some ⟨w1.heap.size + 1, 0, none⟩), .int .i64 (pc b x : Nat), .int .i64 n, .slice (some ⟨w.heap.size + 1, 0, none⟩) 0 n, .slice A b.length c, .func (.func 207) #[] #[.pointer (some ⟨w1.heap.size + 1 + 1, 0, none⟩)], .int .i64 (pc b x : Nat), undef, undef, undef, undef, undef, undef, undef, undef, undef, undef, undef, undef, undef, undef, undef, undef], defers := [] }) ?assign ?body ?done ?stop
  case assign =>
    intro l x W K hK
    gi_wp2
    exact hK
  case body =>
    rintro l pre x W ⟨⟨v, hv, hrow, _⟩, hbn, hba, hB, hz⟩ hlt
    have hpx := pc_lt b x
    by_cases h1 : pre.length < n
    · have hst := fun v' w1' tmp hown' hgrow => typesS_step (x := x) (v' := v') (w1 := w1') (tmp := tmp) hA hv hrow hbn hba hB (by omega) (by have := hv.lt; omega) (by omega) h1 hown' hgrow
      have HST := Lib.hid hst
      have hk : (tyL b n pre).length = pre.length := by rw [tyL_len]; omega
      have cv := hv.cell
      have cn := hbn.cell
      obtain ⟨A0, c0, rfl⟩ := own_form hrow
      rw [hk] at hrow HST cv
      have hv2 := hv
      rw [hk] at hv2
      clear hst hv hbn hba hz
      have hxs : (ivs (tyL b n pre)).length = pre.length := by simp [hk]
      obtain ⟨xs, hxs'⟩ : ∃ xs, ivs (tyL b n pre) = xs := ⟨_, rfl⟩
      rw [hxs'] at hrow HST hxs
      clear hxs' hk
      generalize pc b x = y at hpx HST
      gi_wp2_with (gi_at_builtin; refine wpListIn_append_own _ rfl _ _ 58 rfl (w.heap.size + 1) 3 i0 (.int .i64 0) 1 8 Tryz.underlying58 hi hz0 hz1 hz2 rfl (by decide) _ _ _ rfl (hrow.alloc _) ⟨W.heap.size, 0, none⟩ 1 1 [.int .i64 ((y : Int) + 1)] rfl rfl (cell_one_new _ _ _) (by simp [Value.oneCell']) (by unfold maxLen; omega) (by omega) (by have := hB.size; have := hv2.lt; simp; omega) ?_; intro v' w2 hown' hgrow _; obtain ⟨g', cap', rfl⟩ := ownsRow_succ hown'; have hst := HST.out _ _ _ hown' hgrow; have hv3 := (hv2.alloc _).kept hgrow (hv2.not_row (by decide) hrow); have hc1 := hv3.cell; have hf1 := hv3.frozen)
      exact ⟨hst.1.from _, hst.2⟩
    · have hk : (tyL b n pre).length = n := by rw [tyL_len]; omega
      have cv := hv.cell
      have cn := hbn.cell
      have ca := hba.cell
      have fa := hba.frozen
      obtain ⟨A0, c0, hv0⟩ := own_form hrow
      by_cases h0 : pc b x = 0
      · have hI : Hid (typesSI w b w1.heap.size (w1.heap.size + 1) n (pre ++ [x]) W) := by
          refine ⟨⟨v, hv, ?_, trivial⟩, hbn, hba, hB, ?_⟩
          · rw [tyL_same (by omega)]; exact hrow
          · intro i hi
            rw [List.drop_append_of_le_length (by omega)] at hi
            rcases List.mem_append.1 hi with h | h
            · exact hz i h
            · rw [List.mem_singleton.1 h]; exact h0
        subst hv0
        rw [hk] at cv
        have hq : ((pc b x : Int) != 0) = false := by rw [bne_eq_false_iff_eq]; omega
        clear hv hrow hz hbn hba hB h0 hk
        generalize pc b x = y at hq
        gi_wp2
        exact ⟨KeepsFrom.refl _ _, id, hI.out⟩
      · have hX : Hid (typesSX w b (w1.heap.size + 1) n (.exit 0) (pre ++ [x]) (W.setCell ⟨w1.heap.size + 1, 0, none⟩ (.bool false))) :=
          ⟨rfl, hba.set _, ((Keep.of_below (O := NoB) hB).setCell (fun h => absurd h (by simp; omega)) _).toBelow, pre, x, rfl, by omega, h0⟩
        have hKo : KeepsOthers W (W.setCell ⟨w1.heap.size + 1, 0, none⟩ (.bool false)) := KeepsOthers.setCell _ _ _
        subst hv0
        rw [hk] at cv
        have hq : ((pc b x : Int) != 0) = true := by rw [bne_iff_ne]; omega
        clear hv hrow hz hbn hba hB h0 hk
        generalize pc b x = y at hq
        gi_wp2
        exact ⟨hKo.from _, hX.out⟩
  case done =>
    rintro D ys W hD rfl ⟨⟨v, hv, hrow, _⟩, hbn, hba, hB, hz⟩ hDf
    have cv := hv.cell
    have ca := hba.cell
    have HC := Lib.hid (clean_of hz)
    have HU := Lib.hid (tyL_all hn4)
    gi_wp2
    refine ⟨by simp, .inl ⟨_, _, rfl, run_takeDeferred hDf, ?_⟩⟩
    refine ⟨_, results_tmp2 rfl _ _ _, ?_⟩
    rw [HU.out] at hrow
    refine ⟨v, ?_, ?_, keep_put (Keep.of_below hB) (by simp at hD; omega)⟩
    · rw [HC.out]; rfl
    · rw [tyX_ok HC.out]
      exact Own.of_row (ownsRow_putObj hrow _ hDf rfl) (fun j hj => by unfold Fresh; omega)
  case stop =>
    rintro D cd pre W hD ⟨k, hk, hpk⟩ ⟨rfl, hba, hB, q, x, rfl, hq, hx⟩ hDf
    have ca := hba.cell
    have HC := Lib.hid (clean_not hk hpk hq hx)
    gi_wp2
    refine ⟨by simp, .inl ⟨_, _, rfl, run_takeDeferred hDf, ?_⟩⟩
    refine ⟨_, results_tmp2 rfl _ _ _, ?_⟩
    refine ⟨.slice none 0 0, ?_, ?_, keep_put (Keep.of_below hB) (by simp at hD; omega)⟩
    · rw [HC.out]; rfl
    · rw [tyX_no HC.out]
      exact Own.nil _ _ _ _

/-- What the walk keeps. -/
def typesII (w : World) (b : List UInt8) (bl ba n : Nat) (pre : List Nat) (W : World) : Prop :=
  (∃ v, Boxed W bl 55 v ∧ W.ownsRow (w.heap.size + 1) 3 1 v (tyL b n pre).length (ivs (tyL b n pre)) ∧ True) ∧ Boxed W w.heap.size 3 (.int .i64 n) ∧ Boxed W ba 4 (.bool true) ∧ Below w.heap.size w W ∧ ∀ i ∈ pre.drop n, pc b i = 0
def typesIX (w : World) (b : List UInt8) (ba n : Nat) (cd : Code) (pre : List Nat) (W : World) : Prop :=
  cd = .exit 0 ∧ Boxed W ba 4 (.bool false) ∧ Below w.heap.size w W ∧ ∃ q x, pre = q ++ [x] ∧ n ≤ q.length ∧ pc b x ≠ 0
theorem typesII_own (w : World) (b : List UInt8) (bl ba n B : Nat) (hB : w.heap.size ≤ B) : OwnFrom B (typesII w b bl ba n) := by
  refine OwnFrom.and (Own.from (holdsRow_own (w.heap.size + 1) bl 55 3 1 (fun pre : List Nat => (tyL b n pre).length) (fun pre : List Nat => ivs (tyL b n pre)) (fun _ _ => True)) _) ?_
  exact OwnFrom.and (Own.from (V.boxed_own' _ _ _) _) (OwnFrom.and (Own.from (V.boxed_own' _ _ _) _) (OwnFrom.and (ownFrom_below (Nat.le_refl _) hB) (fun _ _ _ _ h _ _ => h)))
theorem typesIX_own (w : World) (b : List UInt8) (ba n B : Nat) (cd : Code) (hB : w.heap.size ≤ B) : OwnFrom B (typesIX w b ba n cd) := by
  rintro s X Y row ⟨h0, h1, h2, h3⟩ hg hrow
  exact ⟨h0, V.boxed_own' (β := Unit) _ _ _ () X Y row h1 hg (fun r e => (hrow r e).2), ownFrom_below (β := Unit) (Nat.le_refl _) hB () X Y row h2 hg hrow, h3⟩
theorem typesI_step {w W w1 : World} {b : List UInt8} {bl ba n x : Nat} {pre : List Nat} {v v' : Value} {tmp : Obj} {A : Option Addr} (hA : ∀ ad, A = some ad → 0 < b.length → ad.block < w.heap.size)
    (hv : Boxed W bl 55 v) (hrow : W.ownsRow (w.heap.size + 1) 3 1 v (tyL b n pre).length (ivs (tyL b n pre))) (hbn : Boxed W w.heap.size 3 (.int .i64 n)) (hba : Boxed W ba 4 (.bool true)) (hB : Below w.heap.size w W)
    (hbb : w.heap.size + 1 ≤ bl) (hsz : w.heap.size + 1 ≤ W.heap.size) (hne : ba ≠ bl) (hlt : pre.length < n)
    (hown' : w1.ownsRow (w.heap.size + 1) 3 1 v' ((tyL b n pre).length + 1) (ivs (tyL b n pre) ++ [.int .i64 ((pc b x : Int) + 1)])) (hgrow : (W.alloc tmp).grownBy w1 v.ownBlock) :
    KeepsOthers W (w1.setCell ⟨bl, 0, none⟩ v') ∧ RdK A b W (w1.setCell ⟨bl, 0, none⟩ v') ∧ typesII w b bl ba n (pre ++ [x]) (w1.setCell ⟨bl, 0, none⟩ v') := by
  obtain ⟨hv1, hv2, hr2, hk2, hb2⟩ := hv.appended (by decide) hrow hsz hbb hown' hgrow
  have hbn2 := V.boxed_far (((hbn.alloc tmp).kept hgrow (fun e => by have := (hrow.lt _ e.symm).1; omega))) (B' := bl) (by omega) v'
  have hba2 := V.boxed_far (((hba.alloc tmp).kept hgrow (hba.not_row (by decide) hrow))) (B' := bl) hne v'
  refine ⟨hk2, rdK_below hA (hb2.mono (Nat.le_succ _)), ⟨v', hv2, ?_, trivial⟩, hbn2, hba2, hB.trans (hb2.mono (Nat.le_succ _)), ?_⟩
  · rw [tyL_more hlt]
    have e : (tyL b n (pre ++ [x])).length = (tyL b n pre).length + 1 := by rw [tyL_len, tyL_len, List.length_append]; simp; omega
    rw [e]; exact hr2
  · rw [List.drop_of_length_le (by simp; omega)]
    intro i h; simp at h

set_option maxRecDepth 100000 in
set_option maxHeartbeats 4000000 in
theorem typesI_any (A : Option Addr) (b : List UInt8) (c : Nat) (n : Nat) (w : World) (hr : V.Rd w A b) (hlen : b.length ≤ 1000) (hn4 : n ≤ 4 * b.length) :
    Calls Tryz.prog 196 #[.slice A b.length c, .int .i64 n] w (TyR w (tyX b n) (clean b n)) := by
  have hA : ∀ ad, A = some ad → 0 < b.length → ad.block < w.heap.size := fun ad e h0 => V.Rd.lt hr e h0
  obtain ⟨i0, hi, hz0, hz1, hz2⟩ := info_parts int_info
  refine (callsIn_wide (n := 4)).1 ?_
  refine callsIn_of_wp_marks Tryz.func196 rfl trivial ?_ rfl
  simp only [Tryz.ntmps196, List.size_toArray, List.length_cons, List.length_nil, Nat.reduceAdd, Nat.reduceSub, Array.replicate_succ, Array.replicate_zero, List.push_toArray, List.append_toArray, List.nil_append, List.cons_append]
  gi_wp2
  refine V.wpIn_scope_wide ?_
  gi_wp2_with (gi_at_make; refine wpListIn_make_own _ rfl _ _ 55 rfl (w.heap.size + 1) 3 i0 (.int .i64 0) 1 Tryz.underlying55 hi hz0 hz1 _ _ _ n rfl rfl rfl (by rw [hz2]; omega) (by unfold maxLen; omega) (by simp) ?_; intro w1 hrow1 hg1)
  refine wpIn_label ?_
  have hs1 : w.heap.size + 2 ≤ w1.heap.size := by have := (hrow1.lt _ rfl).2; simp at this; omega
  have bN : Boxed w1 w.heap.size 3 (.int .i64 n) := (Boxed.new w 3 (.int .i64 n)).kept hg1 (by simp)
  have bL := Boxed.new w1 55 (.slice (some ⟨w.heap.size + 1, 0, none⟩) 0 n)
  have hB1 : Below w.heap.size w w1 := ((Below.refl _ w).alloc (Nat.le_refl _) _).grown hg1 (by simp) (by simp)
  have bA := Boxed.new (w1.alloc (.cells #[.slice (some ⟨w.heap.size + 1, 0, none⟩) 0 n] 55)) 4 (.bool true)
  rw [World.size_alloc] at bA
  gi_wp2_with (refine ⟨trivial, ?_⟩; gi_at_call 192; refine (pieces_any _ A b.length c _).mono ?_; rintro e w' ⟨rfl, rfl⟩)
  have hI0 : typesII w b w1.heap.size (w1.heap.size + 1) n [] (((w1.alloc (.cells #[.slice (some ⟨w.heap.size + 1, 0, none⟩) 0 n] 55)).alloc (.cells #[.bool true] 4)).alloc (.cells #[.slice A b.length c] 26)) := by
    refine ⟨⟨_, (bL.alloc _).alloc _, ?_, trivial⟩, ((bN.alloc _).alloc _).alloc _, bA.alloc _, ((hB1.alloc (by omega) _).alloc (by simp; omega) _).alloc (by simp; omega) _, fun i h => by simp at h⟩
    have hr := ((hrow1.alloc (.cells #[.slice (some ⟨w.heap.size + 1, 0, none⟩) 0 n] 55)).alloc (.cells #[.bool true] 4)).alloc (.cells #[.slice A b.length c] 26)
    simpa [tyL] using hr
  have bP := Blk.new ((w1.alloc (.cells #[.slice (some ⟨w.heap.size + 1, 0, none⟩) 0 n] 55)).alloc (.cells #[.bool true] 4)) 26 #[.slice A b.length c]
  simp only [World.size_alloc] at bP
  have hr3 : V.Rd (((w1.alloc (.cells #[.slice (some ⟨w.heap.size + 1, 0, none⟩) 0 n] 55)).alloc (.cells #[.bool true] 4)).alloc (.cells #[.slice A b.length c] 26)) A b := hr.keep (Keep.of_below (O := NoB) hI0.2.2.2.1) (fun _ _ _ => id)
  refine wpIn_rangeFunc_ownG rfl (by omega) (gf := 207) (lb := #[.pointer (some ⟨w1.heap.size + 1 + 1, 0, none⟩)]) rfl trivial (enters_of Tryz.func207 (by kernel_rfl) rfl)
    (pieces_stops _ (by omega) (w1.heap.size + 1 + 1) A b c hlen _ bP hr3) (fun h h' => RdK.trans h h') (fun W l o o' _ hl ho _ => RdK.putObj W l o o' hl ho) (Below.refl _ _) (fun _ => rfl)
    (typesII w b w1.heap.size (w1.heap.size + 1) n) (typesIX w b (w1.heap.size + 1) n) (typesII_own w b _ _ n _ (by simp; omega)) (fun cd => typesIX_own w b _ n _ cd (by simp; omega)) hI0
    (fun x => { tmps := #[.slice A b.length c, .int .i64 n, undef, .pointer (some ⟨w.heap.size, 0, none⟩), .slice none 0 0, .bool false, .pointer (some ⟨w1.heap.size, 0, none⟩), .pointer (some ⟨w1.heap.size + 1, 0, none⟩), .int .i64 (pc b x : Nat), .int .i64 n, .slice (some ⟨w.heap.size + 1, 0, none⟩) 0 n, .slice A b.length c, .func (.func 207) #[] #[.pointer (some ⟨w1.heap.size + 1 + 1, 0, none⟩)], .int .i64 (pc b x : Nat), undef, undef, undef, undef, undef, undef, undef, undef, undef, undef, undef, undef, undef, undef, undef, undef], defers := [] }) ?assign ?body ?done ?stop
  case assign =>
    intro l x W K hK
    gi_wp2
    exact hK
  case body =>
    rintro l pre x W ⟨⟨v, hv, hrow, _⟩, hbn, hba, hB, hz⟩ hlt
    have hpx := pc_lt b x
    by_cases h1 : pre.length < n
    · have hst := fun v' w1' tmp hown' hgrow => typesI_step (x := x) (v' := v') (w1 := w1') (tmp := tmp) hA hv hrow hbn hba hB (by omega) (by have := hv.lt; omega) (by omega) h1 hown' hgrow
      have HST := Lib.hid hst
      have hk : (tyL b n pre).length = pre.length := by rw [tyL_len]; omega
      have cv := hv.cell
      have cn := hbn.cell
      obtain ⟨A0, c0, rfl⟩ := own_form hrow
      rw [hk] at hrow HST cv
      have hv2 := hv
      rw [hk] at hv2
      clear hst hv hbn hba hz
      have hxs : (ivs (tyL b n pre)).length = pre.length := by simp [hk]
      obtain ⟨xs, hxs'⟩ : ∃ xs, ivs (tyL b n pre) = xs := ⟨_, rfl⟩
      rw [hxs'] at hrow HST hxs
      clear hxs' hk
      generalize pc b x = y at hpx HST
      gi_wp2_with (gi_at_builtin; refine wpListIn_append_own _ rfl _ _ 55 rfl (w.heap.size + 1) 3 i0 (.int .i64 0) 1 8 Tryz.underlying55 hi hz0 hz1 hz2 rfl (by decide) _ _ _ rfl (hrow.alloc _) ⟨W.heap.size, 0, none⟩ 1 1 [.int .i64 ((y : Int) + 1)] rfl rfl (cell_one_new _ _ _) (by simp [Value.oneCell']) (by unfold maxLen; omega) (by omega) (by have := hB.size; have := hv2.lt; simp; omega) ?_; intro v' w2 hown' hgrow _; obtain ⟨g', cap', rfl⟩ := ownsRow_succ hown'; have hst := HST.out _ _ _ hown' hgrow; have hv3 := (hv2.alloc _).kept hgrow (hv2.not_row (by decide) hrow); have hc1 := hv3.cell; have hf1 := hv3.frozen)
      exact ⟨hst.1.from _, hst.2⟩
    · have hk : (tyL b n pre).length = n := by rw [tyL_len]; omega
      have cv := hv.cell
      have cn := hbn.cell
      have ca := hba.cell
      have fa := hba.frozen
      obtain ⟨A0, c0, hv0⟩ := own_form hrow
      by_cases h0 : pc b x = 0
      · have hI : Hid (typesII w b w1.heap.size (w1.heap.size + 1) n (pre ++ [x]) W) := by
          refine ⟨⟨v, hv, ?_, trivial⟩, hbn, hba, hB, ?_⟩
          · rw [tyL_same (by omega)]; exact hrow
          · intro i hi
            rw [List.drop_append_of_le_length (by omega)] at hi
            rcases List.mem_append.1 hi with h | h
            · exact hz i h
            · rw [List.mem_singleton.1 h]; exact h0
        subst hv0
        rw [hk] at cv
        have hq : ((pc b x : Int) != 0) = false := by rw [bne_eq_false_iff_eq]; omega
        clear hv hrow hz hbn hba hB h0 hk
        generalize pc b x = y at hq
        gi_wp2
        exact ⟨KeepsFrom.refl _ _, id, hI.out⟩
      · have hX : Hid (typesIX w b (w1.heap.size + 1) n (.exit 0) (pre ++ [x]) (W.setCell ⟨w1.heap.size + 1, 0, none⟩ (.bool false))) :=
          ⟨rfl, hba.set _, ((Keep.of_below (O := NoB) hB).setCell (fun h => absurd h (by simp; omega)) _).toBelow, pre, x, rfl, by omega, h0⟩
        have hKo : KeepsOthers W (W.setCell ⟨w1.heap.size + 1, 0, none⟩ (.bool false)) := KeepsOthers.setCell _ _ _
        subst hv0
        rw [hk] at cv
        have hq : ((pc b x : Int) != 0) = true := by rw [bne_iff_ne]; omega
        clear hv hrow hz hbn hba hB h0 hk
        generalize pc b x = y at hq
        gi_wp2
        exact ⟨hKo.from _, hX.out⟩
  case done =>
    rintro D ys W hD rfl ⟨⟨v, hv, hrow, _⟩, hbn, hba, hB, hz⟩ hDf
    have cv := hv.cell
    have ca := hba.cell
    have HC := Lib.hid (clean_of hz)
    have HU := Lib.hid (tyL_all hn4)
    gi_wp2
    refine ⟨by simp, .inl ⟨_, _, rfl, run_takeDeferred hDf, ?_⟩⟩
    refine ⟨_, results_tmp2 rfl _ _ _, ?_⟩
    rw [HU.out] at hrow
    refine ⟨v, ?_, ?_, keep_put (Keep.of_below hB) (by simp at hD; omega)⟩
    · rw [HC.out]; rfl
    · rw [tyX_ok HC.out]
      exact Own.of_row (ownsRow_putObj hrow _ hDf rfl) (fun j hj => by unfold Fresh; omega)
  case stop =>
    rintro D cd pre W hD ⟨k, hk, hpk⟩ ⟨rfl, hba, hB, q, x, rfl, hq, hx⟩ hDf
    have ca := hba.cell
    have HC := Lib.hid (clean_not hk hpk hq hx)
    gi_wp2
    refine ⟨by simp, .inl ⟨_, _, rfl, run_takeDeferred hDf, ?_⟩⟩
    refine ⟨_, results_tmp2 rfl _ _ _, ?_⟩
    refine ⟨.slice none 0 0, ?_, ?_, keep_put (Keep.of_below hB) (by simp at hD; omega)⟩
    · rw [HC.out]; rfl
    · rw [tyX_no HC.out]
      exact Own.nil _ _ _ _

end Go.Proofs.YtgifflfjhockaaaGreatDoor.S

namespace Go.Proofs.YtgifflfjhockaaaGreatDoor.S
open Go.RowKit W

def optL (R : Option (List Int × Nat)) : List Int := match R with
  | none => []
  | some x => x.1
def optE (R : Option (List Int × Nat)) : Int := match R with
  | none => 60
  | some _ => 0
/-- How unpack ends. -/
def UnpR (w : World) (br : Nat) (At : World → Nat → Prop) (R : Option (List Int × Nat)) (e : Ending) (w' : World) : Prop :=
  ∃ v q, e = .returned (.tuple #[v, .bool R.isSome]) ∧ Own w' 3 1 (Fresh w) v (optL R).length (ivs (optL R)) ∧ At w' q ∧ (∀ y, R = some y → q = y.2) ∧ Keep (fun k => k = br) w w'
/-- How Decode ends. -/
def ShpR (w : World) (br : Nat) (At : World → Nat → Prop) (R : Option (List Int × Nat)) (e : Ending) (w' : World) : Prop :=
  ∃ v q, e = .returned (.tuple #[v, .int .i64 (optE R)]) ∧ Own w' 3 1 (Fresh w) v (optL R).length (ivs (optL R)) ∧ At w' q ∧ (∀ y, R = some y → q = y.2) ∧ Keep (fun k => k = br) w w'
theorem unp_none {w w' : World} {br q : Nat} {At : World → Nat → Prop} {R : Option (List Int × Nat)} (hR : R = none) (h : At w' q) (hk : Keep (fun k => k = br) w w') : UnpR w br At R (.returned (.tuple #[.slice none 0 0, .bool false])) w' := by
  subst hR
  exact ⟨_, q, rfl, Own.nil _ _ _ _, h, fun _ h => (by cases h), hk⟩
theorem shp_none {w w' : World} {br q : Nat} {At : World → Nat → Prop} {R : Option (List Int × Nat)} (hR : R = none) (h : At w' q) (hk : Keep (fun k => k = br) w w') : ShpR w br At R (.returned (.tuple #[.slice none 0 0, .int .i64 60])) w' := by
  subst hR
  exact ⟨_, q, rfl, Own.nil _ _ _ _, h, fun _ h => (by cases h), hk⟩
theorem keep_nb {w w1 w2 : World} {br : Nat} (h : Keep (fun k => k = br) w w1) (h2 : Keep NoB w1 w2) : Keep (fun k => k = br) w w2 := h.trans h2 (fun _ hf _ => hf.elim)
theorem keep_bb {w w1 w2 : World} {br : Nat} (h : Keep (fun k => k = br) w w1) (h2 : Keep (fun k => k = br) w1 w2) : Keep (fun k => k = br) w w2 := h.trans h2 (fun _ h _ => h)
theorem decS_none {l : List UInt8} {p : Nat} (h : rdT l p 16 = none) : decS l p = none := by unfold decS; rw [h]
theorem decS_no {l : List UInt8} {p : Nat} {x : List Int × Nat} (h : rdT l p 16 = some x) (ho : okS x.1 = false) : decS l p = none := by unfold decS; rw [h]; exact if_neg (by rw [ho]; decide)
theorem decS_some {l : List UInt8} {p : Nat} {x : List Int × Nat} (h : rdT l p 16 = some x) (ho : okS x.1 = true) : decS l p = some x := by unfold decS; rw [h]; exact if_pos ho

set_option maxRecDepth 100000 in
set_option maxHeartbeats 1000000 in
theorem ifS_no (A : Option Addr) (l : List Int) (na c : Nat) (w : World) (hr : Rd w A (ivs l)) (hn : Hid (l.length = na)) (hm : na ≤ 9223372036854775807) (ho : okS l = false) :
    Calls Tryz.prog 115 #[.slice A na c] w fun e w' => e = .returned (.tuple #[.slice none 0 0, .int .i64 60]) ∧ Keep NoB w w' := by
  have HC := Lib.hid (fun w hr => chkS_any A l na c w hr hn hm 60 (chkS_no ho))
  go_enter Tryz.func115, Tryz.ntmps115
  go_wp2_with (go_at_call 72; refine (HC.out _ hr).mono ?_; rintro e w1 ⟨rfl, k1⟩)
  go_ret2
  exact ⟨rfl, k1⟩
set_option maxRecDepth 100000 in
set_option maxHeartbeats 1000000 in
theorem ifS_yes (A : Option Addr) (l : List Int) (na c : Nat) (w : World) (hr : Rd w A (ivs l)) (hn : Hid (l.length = na)) (hm : na ≤ 9223372036854775807) (ho : okS l = true) :
    Calls Tryz.prog 115 #[.slice A na c] w fun e w' => e = .returned (.tuple #[.slice A na c, .int .i64 0]) ∧ Keep NoB w w' := by
  have HC := Lib.hid (fun w hr => chkS_any A l na c w hr hn hm 0 (chkS_ok ho))
  go_enter Tryz.func115, Tryz.ntmps115
  go_wp2_with (go_at_call 72; refine (HC.out _ hr).mono ?_; rintro e w1 ⟨rfl, k1⟩)
  go_ret2
  exact ⟨rfl, k1⟩

set_option maxRecDepth 100000 in
set_option maxHeartbeats 4000000 in
theorem unpackS_any (w : World) (br : Nat) (Ob : Nat → Prop) (l : List UInt8) (p most : Nat) (hm : most ≤ 64) (h : V.ReelAt w br Ob l p) (hlen : l.length ≤ 140737488355328) :
    Calls Tryz.prog 114 #[.pointer (some ⟨br, 0, none⟩), .int .i64 most] w (UnpR w br (fun w' q => V.ReelAt w' br Ob l q) (rdT l p most)) := by
  have hbr := reel_lt h
  have HS := Lib.hid (V.rnumber_any w br Ob l p most h hlen)
  obtain ⟨ni, r, q, hN, hN0, hN1⟩ := num_case l p most
  rw [hN] at HS
  clear h
  by_cases hr : r = 0
  · subst hr
    obtain ⟨hn1, hn2⟩ := hN0 rfl
    have HZ := Lib.hid (fun w => size_any ni (by omega) w)
    have hz : sz ni ≤ 16 := by unfold sz; omega
    have hz4 : ni ≤ 4 * sz ni := by unfold sz; omega
    by_cases hl : l.length < q + sz ni
    · have HD := Lib.hid (rdT_2 hN hl)
      obtain ⟨z, hzz⟩ : ∃ z, sz ni = z := ⟨_, rfl⟩
      rw [hzz] at HZ hz hz4 hl
      clear hN hN0 hN1 hzz
      go_enter Tryz.func114, Tryz.ntmps114
      go_wp2_with fail
      refine HS.out.mono ?_
      rintro e w1 ⟨rfl, h1, k1⟩
      have HR := Lib.hid (V.rraw_any w1 br Ob l q (z : Int) h1 hlen (by omega))
      go_wp2_with fail
      refine (HZ.out _).mono ?_
      rintro e w2 ⟨rfl, rfl⟩
      go_wp2_with fail
      refine HR.out.mono ?_
      rintro e w3 (⟨h0, _⟩ | ⟨_, ⟨_, rfl, h3, k3⟩ | ⟨h0, _⟩⟩)
      · omega
      · go_wp2
        go_ret2
        exact unp_none HD.out h3 (keep_nb k1 k3)
      · omega
    · obtain ⟨bs, hbs⟩ : ∃ bs, (l.drop q).take (sz ni) = bs := ⟨_, rfl⟩
      have hbl : bs.length = sz ni := by rw [← hbs]; simp; omega
      have HT := Lib.hid (fun (A : Option Addr) (c : Nat) (w : World) (hr : V.Rd w A bs) => typesS_any A bs c ni w hr (by omega) (by omega))
      have HD : Hid ((clean bs ni = true → rdT l p most = some (unp bs ni, q + sz ni)) ∧ (clean bs ni = false → rdT l p most = none)) := by
        refine ⟨fun hc => ?_, fun hc => ?_⟩
        · rw [rdT_4 hN hl (by rw [hbs]; exact hc), hbs]
        · exact rdT_3 hN (by rw [hbs]; exact hc)
      rw [hbl] at HT
      obtain ⟨z, hzz⟩ : ∃ z, sz ni = z := ⟨_, rfl⟩
      rw [hzz] at HZ hz hz4 hl HT HD hbs
      have HB := Lib.hid hbs
      clear hN hN0 hN1 hzz hbl hbs
      go_enter Tryz.func114, Tryz.ntmps114
      go_wp2_with fail
      refine HS.out.mono ?_
      rintro e w1 ⟨rfl, h1, k1⟩
      have HR := Lib.hid (V.rraw_any w1 br Ob l q (z : Int) h1 hlen (by omega))
      go_wp2_with fail
      refine (HZ.out _).mono ?_
      rintro e w2 ⟨rfl, rfl⟩
      go_wp2_with fail
      refine HR.out.mono ?_
      rintro e w3 (⟨h0, _⟩ | ⟨_, ⟨h0, _⟩ | ⟨_, A2, c2, rfl, hO3, h3, k3⟩⟩)
      · omega
      · omega
      rw [Int.toNat_natCast] at hO3 h3 ⊢
      rw [HB.out] at hO3
      have hrd : V.Rd w3 A2 bs := by
        obtain ⟨A', c', e, _, hr, _⟩ := hO3.form
        cases e; exact hr
      go_wp2_with fail
      refine (HT.out A2 c2 _ hrd).mono ?_
      rintro e w4 ⟨v4, rfl, hO4, k4⟩
      have hsz3 := k3.size
      have hsz1 := k1.size
      cases hc : clean bs ni
      · rw [tyX_no hc] at hO4
        go_wp2
        go_ret2
        have hR := HD.out.2 hc
        refine ⟨v4, _, by rw [hR]; rfl, by rw [hR]; exact hO4.mono (fun j hj _ => by unfold Fresh at hj ⊢; omega), h3.keep k4 (fun _ _ => id), fun y hy => (by rw [hR] at hy; cases hy), keep_nb (keep_bb k1 k3) k4⟩
      · rw [tyX_ok hc] at hO4
        go_wp2
        go_ret2
        have hR := HD.out.1 hc
        refine ⟨v4, _, by rw [hR]; rfl, by rw [hR]; exact hO4.mono (fun j hj _ => by unfold Fresh at hj ⊢; omega), h3.keep k4 (fun _ _ => id), fun y hy => (by rw [hR] at hy; injection hy with hy; rw [← hy]), keep_nb (keep_bb k1 k3) k4⟩
  · have HD := Lib.hid (rdT_1 hN hr)
    have hr3 : ((r : Int) != 0) = true := by rw [bne_iff_ne]; omega
    clear hN0 hN1 hN hr
    go_enter Tryz.func114, Tryz.ntmps114
    go_wp2_with fail
    refine HS.out.mono ?_
    rintro e w1 ⟨rfl, h1, k1⟩
    go_wp2
    go_ret2
    exact unp_none HD.out h1 k1

set_option maxRecDepth 100000 in
set_option maxHeartbeats 4000000 in
theorem unpackI_any (w : World) (br : Nat) (Ob : Nat → Prop) (l : List UInt8) (p most : Nat) (hm : most ≤ 64) (h : V.ReelAt w br Ob l p) (hlen : l.length ≤ 140737488355328) :
    Calls Tryz.prog 179 #[.pointer (some ⟨br, 0, none⟩), .int .i64 most] w (UnpR w br (fun w' q => V.ReelAt w' br Ob l q) (rdT l p most)) := by
  have hbr := reel_lt h
  have HS := Lib.hid (V.rnumber_any w br Ob l p most h hlen)
  obtain ⟨ni, r, q, hN, hN0, hN1⟩ := num_case l p most
  rw [hN] at HS
  clear h
  by_cases hr : r = 0
  · subst hr
    obtain ⟨hn1, hn2⟩ := hN0 rfl
    have HZ := Lib.hid (fun w => size_any ni (by omega) w)
    have hz : sz ni ≤ 16 := by unfold sz; omega
    have hz4 : ni ≤ 4 * sz ni := by unfold sz; omega
    by_cases hl : l.length < q + sz ni
    · have HD := Lib.hid (rdT_2 hN hl)
      obtain ⟨z, hzz⟩ : ∃ z, sz ni = z := ⟨_, rfl⟩
      rw [hzz] at HZ hz hz4 hl
      clear hN hN0 hN1 hzz
      go_enter Tryz.func179, Tryz.ntmps179
      go_wp2_with fail
      refine HS.out.mono ?_
      rintro e w1 ⟨rfl, h1, k1⟩
      have HR := Lib.hid (V.rraw_any w1 br Ob l q (z : Int) h1 hlen (by omega))
      go_wp2_with fail
      refine (HZ.out _).mono ?_
      rintro e w2 ⟨rfl, rfl⟩
      go_wp2_with fail
      refine HR.out.mono ?_
      rintro e w3 (⟨h0, _⟩ | ⟨_, ⟨_, rfl, h3, k3⟩ | ⟨h0, _⟩⟩)
      · omega
      · go_wp2
        go_ret2
        exact unp_none HD.out h3 (keep_nb k1 k3)
      · omega
    · obtain ⟨bs, hbs⟩ : ∃ bs, (l.drop q).take (sz ni) = bs := ⟨_, rfl⟩
      have hbl : bs.length = sz ni := by rw [← hbs]; simp; omega
      have HT := Lib.hid (fun (A : Option Addr) (c : Nat) (w : World) (hr : V.Rd w A bs) => typesI_any A bs c ni w hr (by omega) (by omega))
      have HD : Hid ((clean bs ni = true → rdT l p most = some (unp bs ni, q + sz ni)) ∧ (clean bs ni = false → rdT l p most = none)) := by
        refine ⟨fun hc => ?_, fun hc => ?_⟩
        · rw [rdT_4 hN hl (by rw [hbs]; exact hc), hbs]
        · exact rdT_3 hN (by rw [hbs]; exact hc)
      rw [hbl] at HT
      obtain ⟨z, hzz⟩ : ∃ z, sz ni = z := ⟨_, rfl⟩
      rw [hzz] at HZ hz hz4 hl HT HD hbs
      have HB := Lib.hid hbs
      clear hN hN0 hN1 hzz hbl hbs
      go_enter Tryz.func179, Tryz.ntmps179
      go_wp2_with fail
      refine HS.out.mono ?_
      rintro e w1 ⟨rfl, h1, k1⟩
      have HR := Lib.hid (V.rraw_any w1 br Ob l q (z : Int) h1 hlen (by omega))
      go_wp2_with fail
      refine (HZ.out _).mono ?_
      rintro e w2 ⟨rfl, rfl⟩
      go_wp2_with fail
      refine HR.out.mono ?_
      rintro e w3 (⟨h0, _⟩ | ⟨_, ⟨h0, _⟩ | ⟨_, A2, c2, rfl, hO3, h3, k3⟩⟩)
      · omega
      · omega
      rw [Int.toNat_natCast] at hO3 h3 ⊢
      rw [HB.out] at hO3
      have hrd : V.Rd w3 A2 bs := by
        obtain ⟨A', c', e, _, hr, _⟩ := hO3.form
        cases e; exact hr
      go_wp2_with fail
      refine (HT.out A2 c2 _ hrd).mono ?_
      rintro e w4 ⟨v4, rfl, hO4, k4⟩
      have hsz3 := k3.size
      have hsz1 := k1.size
      cases hc : clean bs ni
      · rw [tyX_no hc] at hO4
        go_wp2
        go_ret2
        have hR := HD.out.2 hc
        refine ⟨v4, _, by rw [hR]; rfl, by rw [hR]; exact hO4.mono (fun j hj _ => by unfold Fresh at hj ⊢; omega), h3.keep k4 (fun _ _ => id), fun y hy => (by rw [hR] at hy; cases hy), keep_nb (keep_bb k1 k3) k4⟩
      · rw [tyX_ok hc] at hO4
        go_wp2
        go_ret2
        have hR := HD.out.1 hc
        refine ⟨v4, _, by rw [hR]; rfl, by rw [hR]; exact hO4.mono (fun j hj _ => by unfold Fresh at hj ⊢; omega), h3.keep k4 (fun _ _ => id), fun y hy => (by rw [hR] at hy; injection hy with hy; rw [← hy]), keep_nb (keep_bb k1 k3) k4⟩
  · have HD := Lib.hid (rdT_1 hN hr)
    have hr3 : ((r : Int) != 0) = true := by rw [bne_iff_ne]; omega
    clear hN0 hN1 hN hr
    go_enter Tryz.func179, Tryz.ntmps179
    go_wp2_with fail
    refine HS.out.mono ?_
    rintro e w1 ⟨rfl, h1, k1⟩
    go_wp2
    go_ret2
    exact unp_none HD.out h1 k1

set_option maxRecDepth 100000 in
set_option maxHeartbeats 4000000 in
theorem decodeS_any (w : World) (br : Nat) (Ob : Nat → Prop) (l : List UInt8) (p : Nat) (h : V.ReelAt w br Ob l p) (hlen : l.length ≤ 140737488355328) :
    Calls Tryz.prog 74 #[.pointer (some ⟨br, 0, none⟩)] w (ShpR w br (fun w' q => V.ReelAt w' br Ob l q) (decS l p)) := by
  have HU := Lib.hid (unpackS_any w br Ob l p 16 (by omega) h hlen)
  cases hR : rdT l p 16 with
  | none =>
    have HD := Lib.hid (decS_none hR)
    rw [hR] at HU
    go_enter Tryz.func74, Tryz.ntmps74
    go_wp2_with fail
    refine HU.out.mono ?_
    rintro e w1 ⟨v, q, rfl, hO1, h1, _, k1⟩
    go_wp2
    go_ret2
    exact shp_none HD.out h1 k1
  | some x =>
    obtain ⟨xs, qx⟩ := x
    obtain ⟨hk, hml, _⟩ := rdT_ok hR
    have HL : Hid (xs.length ≤ 16) := hml
    rw [hR] at HU
    cases ho : okS xs
    · have HD := Lib.hid (decS_no hR ho)
      have HI := Lib.hid (fun (A : Option Addr) (c : Nat) (w : World) hr => ifS_no A xs xs.length c w hr rfl (by have := HL.out; omega) ho)
      clear hR ho hk hml
      go_enter Tryz.func74, Tryz.ntmps74
      go_wp2_with fail
      refine HU.out.mono ?_
      rintro e w1 ⟨v, q, rfl, hO1, h1, _, k1⟩
      obtain ⟨A1, c1, rfl, r1⟩ := own_rdI hO1
      go_wp2_with fail
      refine (HI.out _ _ _ r1).mono ?_
      rintro e w2 ⟨rfl, k2⟩
      go_wp2
      go_ret2
      exact shp_none HD.out (h1.keep k2 (fun _ _ => id)) (keep_nb k1 k2)
    · have HD := Lib.hid (decS_some hR ho)
      have HI := Lib.hid (fun (A : Option Addr) (c : Nat) (w : World) hr => ifS_yes A xs xs.length c w hr rfl (by have := HL.out; omega) ho)
      clear hR ho hk hml
      go_enter Tryz.func74, Tryz.ntmps74
      go_wp2_with fail
      refine HU.out.mono ?_
      rintro e w1 ⟨v, q, rfl, hO1, h1, hq1, k1⟩
      obtain ⟨A1, c1, rfl, r1⟩ := own_rdI hO1
      have HO1 := Lib.hid hO1
      have HQ := Lib.hid (hq1 _ rfl)
      clear hO1 hq1
      go_wp2_with fail
      refine (HI.out _ _ _ r1).mono ?_
      rintro e w2 ⟨rfl, k2⟩
      go_wp2
      go_ret2
      rw [HD.out]
      exact ⟨_, q, rfl, HO1.out.keepN k2, h1.keep k2 (fun _ _ => id), fun y hy => (by injection hy with hy; rw [← hy]; exact HQ.out), keep_nb k1 k2⟩

end Go.Proofs.YtgifflfjhockaaaGreatDoor.S
