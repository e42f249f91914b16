/-
  The iterator of the pieces of bytes, two bits each, from the lowest of each byte on. Conditions: the bytes lie in memory; a round keeps them.
  What types answers: the types that were laid into bytes, if nothing is behind them. Conditions: the bytes lie in memory.
  What unpack and Decode of layer shape answer: the types, and the shape, at a Reel's place. Conditions: the Reel reads bytes in memory, no more than 2^47.
  What DecodeSignature answers: the signature at a Reel's place. Conditions: the Reel reads bytes in memory, no more than 2^47.
  Names and locals at a Reel's place: what decodeName and decodeLocals answer. Conditions: the Reel reads bytes in memory, no more than 2^47.
  Names: what letter, digit and Named answer, and the document's letter and Named. No conditions but that the name's length fits an int64.
  every: questions that lie in memory are asked in turn, up to the first no. Conditions: each question answers by its contract.
-/
import Derived.Laws.BitsAllLaws
import Derived.Laws.ResultCell
import Derived.Laws.Rows
import Derived.Test.YtgifflfjhockaaaGreatDoorQ6
import Derived.Test.YtgifflfjhockaaaGreatDoorQ5
import Derived.Test.YtgifflfjhockaaaGreatDoorQ3
import Derived.Test.YtgifflfjhockaaaGreatDoorQ2
namespace Go.Proofs.YtgifflfjhockaaaGreatDoor.S
open Go.RowKit Go.Shelf W
attribute [local go_sem] Oper.semAt_some

abbrev pcE (b : List UInt8) (i : Nat) : Array Value := #[.int .i64 (pc b i : Nat)]
/-- What a round keeps: the bytes. -/
def RdK (A : Option Addr) (b : List UInt8) (W W' : World) : Prop := V.Rd W A b → V.Rd W' A b
theorem RdK.trans {A : Option Addr} {b : List UInt8} {X Y Z : World} (h : RdK A b X Y) (h' : RdK A b Y Z) : RdK A b X Z := fun hr => h' (h hr)
theorem RdK.putObj {A : Option Addr} {b : List UInt8} (W : World) (l : Nat) (o o' : Obj) (hl : W.heap[l]? = some o) (ho : o.isCells = false) : RdK A b W (W.putObj l o') := fun hr h0 => by
  obtain ⟨ad, e, hc⟩ := hr h0
  refine ⟨ad, e, fun j u hu => ?_⟩
  have h1 := hc j u hu
  have hne : (ad.add j).block ≠ l := by
    intro e2
    unfold World.cell? at h1
    rw [e2, hl] at h1
    cases o with
    | cells cs t f => cases ho
    | _ => simp at h1
  exact (World.cell?_of_block (World.putObj_heap_other hne)).trans h1
theorem pc_div (b : List UInt8) (j r : Nat) (hj : j < b.length) (hr : r < 4) : b[j].toNat / 4 ^ r % 4 = pc b (4 * j + r) := (pc_four hj hr).symm
theorem and3 (v : Nat) (h : v < 256) : bits .and .u8 (v : Int) 3 = ((v % 4 : Nat) : Int) := by
  have := u8_and_nat v 3 h (by omega)
  rw [show ((3 : Nat) : Int) = 3 from rfl] at this
  rw [this, show (3 : Nat) = 2 ^ 2 - 1 from rfl, Nat.and_two_pow_sub_one_eq_mod]

set_option maxRecDepth 100000 in
set_option maxHeartbeats 4000000 in
theorem pieces1_in (m l : Nat) (hm : 1 ≤ m) (bb : Nat) (A : Option Addr) (b : List UInt8) (c : Nat) (hlen : b.length ≤ 1000) (J Jx : List Nat → World → Prop)
    (hY : ∀ pre x W, J pre W → pre.length < 4 * b.length → YieldAt Fence.wide (m - 1) Tryz.prog l (pcE b x) W fun e W' =>
      (e = .returned (.bool true) ∧ J (pre ++ [x]) W' ∧ RdK A b W W') ∨ (e = .returned (.bool false) ∧ Jx (pre ++ [x]) W'))
    (W : World) (hx : Blk W bb 26 #[.slice A b.length c]) (hr : V.Rd W A b) (h0 : J [] W) :
    CallsIn Fence.wide m Tryz.prog 207 #[.func (.yield l) #[] #[], .pointer (some ⟨bb, 0, none⟩)] W fun e W' => (∃ v, e = .returned v) ∧
      ((∃ ys : List Nat, ys = List.range (4 * b.length) ∧ J ys W') ∨ (∃ pre : List Nat, (∃ k, k ≤ 4 * b.length ∧ pre = List.range k) ∧ Jx pre W')) := by
  have cb : W.cell? ⟨bb, 0, none⟩ = some (.slice A b.length c) := hx.cell 0
  refine callsIn_of_wp Tryz.func207 rfl trivial ?_ rfl
  simp only [Tryz.ntmps207, List.size_toArray, List.length_cons, List.length_nil, Nat.reduceAdd, Nat.reduceSub, Array.replicate_succ, Array.replicate_zero, List.push_toArray, List.append_toArray, List.nil_append, List.cons_append]
  gi_wp2
  gi_loopw [7] (fun p wr => ∃ j : Nat, j ≤ b.length ∧ p = .int .i64 (j : Int) ∧ J (List.range (4 * j)) wr ∧ V.Rd wr A b) (fun p _ => b.length - (intOf p).toNat)
  case atStart => exact ⟨0, by omega, rfl, h0, hr⟩
  case round =>
    obtain ⟨j, hj, rfl, hJ, hR⟩ := hrel
    by_cases hlt : j < b.length
    · have hA := Lib.hid hR
      obtain ⟨ad, rfl, hc⟩ := hR (by omega)
      have cj := hc j (V.bv b[j]) (by simp [hlt])
      have hv : b[j].toNat < 256 := UInt8.toNat_lt _
      have HP : Hid (∀ r, r < 4 → b[j].toNat / 4 ^ r % 4 = pc b (4 * j + r)) := fun r hr => pc_div b j r hlt hr
      simp only [V.bv] at cj
      obtain ⟨v, hv'⟩ : ∃ v, b[j].toNat = v := ⟨_, rfl⟩
      rw [hv'] at cj hv HP
      clear hc hv' hr
      gi_wp2
      gi_loopw [4, 11] (fun x q wr => ∃ r : Nat, r ≤ 4 ∧ q = .int .i64 (r : Int) ∧ x = .int .u8 ((v / 4 ^ r : Nat) : Int) ∧ J (List.range (4 * j + r)) wr ∧ V.Rd wr (some ad) b) (fun _ q _ => 4 - (intOf q).toNat)
      case atStart => exact ⟨0, by omega, rfl, by simp, hJ, hA.out⟩
      case round =>
        clear hJ cj hA
        obtain ⟨r, hr4, rfl, rfl, hJ, hR⟩ := hrel
        by_cases hrl : r < 4
        · have hq := HP.out r hrl
          have hd : v / 4 ^ r < 256 := Nat.lt_of_le_of_lt (Nat.div_le_self _ _) hv
          have hs : v / 4 ^ r / 4 = v / 4 ^ (r + 1) := by rw [Nat.pow_succ, Nat.div_div_eq_div_mul]
          have HY := Lib.hid (hY (List.range (4 * j + r)) (4 * j + r) _ hJ (by simp; omega))
          dsimp only [pcE] at HY
          rw [← hq] at HY
          have HE : Hid (List.range (4 * j + r) ++ [4 * j + r] = List.range (4 * j + (r + 1))) := by show _ = _; rw [← Nat.add_assoc, List.range_succ]
          generalize v / 4 ^ r = y at HY hd hs
          have hand := and3 y hd
          have HS := Lib.hid hs
          obtain ⟨fn, tmps, assign, body, hy, hRun⟩ := HY.out
          clear HY hq hs hJ
          push_cast at hy
          gi_wp2
          refine hRun.mono ?_
          rintro e W3 (⟨rfl, hJ3, hk3⟩ | ⟨rfl, hJx3⟩)
          · have hR3 := hk3 hR
            rw [HE.out] at hJ3
            gi_wp2
            go_roundw
            case rel => exact ⟨r + 1, by omega, by go_num, by rw [← HS.out]; go_num, hJ3, hR3⟩
            case measure => simp [intOf]; omega
          · rw [HE.out] at hJx3
            gi_wp2
            refine bodyPost_ret (results_none rfl _ _ _) rfl ?_
            exact ⟨⟨_, rfl⟩, .inr ⟨_, ⟨_, by omega, rfl⟩, hJx3⟩⟩
        · obtain rfl : r = 4 := by omega
          gi_wp2
          go_roundw
          case rel => exact ⟨j + 1, by omega, by go_num, by rw [show 4 * (j + 1) = 4 * j + 4 by omega]; exact hJ, hR⟩
          case measure => simp [intOf]; omega
    · obtain rfl : j = b.length := by omega
      gi_wp2
      go_end0
      exact ⟨⟨_, rfl⟩, .inl ⟨_, rfl, hJ⟩⟩

theorem pieces_stops (m : Nat) (hm : 1 ≤ m) (bb : Nat) (A : Option Addr) (b : List UInt8) (c : Nat) (hlen : b.length ≤ 1000) (w : World) (hx : Blk w bb 26 #[.slice A b.length c]) (hr : V.Rd w A b) :
    SeqStopsK Fence.wide m Tryz.prog 207 #[.pointer (some ⟨bb, 0, none⟩)] (pcE b) (RdK A b) (fun ys : List Nat => ys = List.range (4 * b.length)) (fun pre : List Nat => ∃ k, k ≤ 4 * b.length ∧ pre = List.range k) (4 * b.length) w := fun l J Jx W hb _ _ hY h0 =>
  pieces1_in m l hm bb A b c hlen J Jx hY W (Blk.keep hx (Keep.of_below (O := NoB) hb) id) (hr.keep (Keep.of_below (O := NoB) hb) (fun _ _ _ => id)) h0

theorem pieces_any (m : Nat) (A : Option Addr) (n c : Nat) (w : World) :
    CallsIn Fence.wide m Tryz.prog 192 #[.slice A n c] w fun e w' => e = .returned (.func (.func 207) #[] #[.pointer (some ⟨w.heap.size, 0, none⟩)]) ∧ w' = w.alloc (.cells #[.slice A n c] 26) := by
  refine callsIn_of_wp Tryz.func192 rfl trivial ?_ rfl
  simp only [Tryz.ntmps192, List.size_toArray, List.length_cons, List.length_nil, Nat.reduceAdd, Nat.reduceSub, Array.replicate_succ, Array.replicate_zero, List.push_toArray, List.append_toArray, List.nil_append, List.cons_append]
  gi_wp2
  go_ret
  exact ⟨rfl, rfl⟩

end Go.Proofs.YtgifflfjhockaaaGreatDoor.S

namespace Go.Proofs.YtgifflfjhockaaaGreatDoor.S
open Go.RowKit Go.Shelf W
attribute [local go_sem] Oper.semAt_some

/-- The types of the pieces that have come. -/
def tyL (b : List UInt8) (n : Nat) (pre : List Nat) : List Int := (pre.take n).map fun i => (pc b i : Int) + 1
theorem tyL_len (b : List UInt8) (n : Nat) (pre : List Nat) : (tyL b n pre).length = min n pre.length := by simp [tyL]
theorem tyL_more {b : List UInt8} {n : Nat} {pre : List Nat} {x : Nat} (h : pre.length < n) : ivs (tyL b n (pre ++ [x])) = ivs (tyL b n pre) ++ [.int .i64 ((pc b x : Int) + 1)] := by
  unfold tyL
  rw [List.take_of_length_le (by simp; omega), List.take_of_length_le (by omega)]
  simp
theorem tyL_same {b : List UInt8} {n : Nat} {pre : List Nat} {x : Nat} (h : n ≤ pre.length) : tyL b n (pre ++ [x]) = tyL b n pre := by
  unfold tyL
  rw [List.take_append_of_le_length h]
theorem tyL_all {b : List UInt8} {n : Nat} (h : n ≤ 4 * b.length) : tyL b n (List.range (4 * b.length)) = unp b n := by
  unfold tyL unp
  rw [List.take_range, Nat.min_eq_left h]
/-- What types answers. -/
def tyX (b : List UInt8) (n : Nat) : List Int := if clean b n = true then unp b n else []
theorem tyX_ok {b : List UInt8} {n : Nat} (h : clean b n = true) : tyX b n = unp b n := if_pos h
theorem tyX_no {b : List UInt8} {n : Nat} (h : clean b n = false) : tyX b n = [] := if_neg (by rw [h]; decide)
def TyR (w : World) (xs : List Int) (ok : Bool) (e : Ending) (w' : World) : Prop := ∃ v, e = .returned (.tuple #[v, .bool ok]) ∧ Own w' 3 1 (Fresh w) v xs.length (ivs xs) ∧ Keep NoB w w'
theorem clean_of {b : List UInt8} {n : Nat} (h : ∀ i ∈ (List.range (4 * b.length)).drop n, pc b i = 0) : clean b n = true := by
  rw [clean_iff]
  intro i h1 h2
  refine h i (List.mem_iff_getElem?.2 ⟨i - n, ?_⟩)
  rw [List.getElem?_drop, show n + (i - n) = i by omega, List.getElem?_range h2]
theorem clean_not {b : List UInt8} {n k : Nat} {q : List Nat} {x : Nat} (hk : k ≤ 4 * b.length) (h : q ++ [x] = List.range k) (hn : n ≤ q.length) (hx : pc b x ≠ 0) : clean b n = false := by
  cases hc : clean b n
  · rfl
  · exfalso
    have hl := congrArg List.length h
    simp at hl
    have hg : (q ++ [x])[q.length]? = some x := by simp
    rw [h, List.getElem?_range (by omega)] at hg
    injection hg with hg
    exact hx ((clean_iff b n).1 hc x (by omega) (by omega))
theorem keep_put {O : Nat → Prop} {w W : World} {D : Nat} {o : Obj} (h : Keep O w W) (hD : w.heap.size ≤ D) : Keep O w (W.putObj D o) := h.grown (grownBy_putObj' W D o) (fun g e hl => by cases e; omega)
theorem rdK_below {A : Option Addr} {b : List UInt8} {B : Nat} {W W' : World} (hA : ∀ ad, A = some ad → 0 < b.length → ad.block < B) (h : Below B W W') : RdK A b W W' := fun hr h0 => by
  obtain ⟨ad, e, hc⟩ := hr h0
  exact ⟨ad, e, fun j u hu => (World.cell?_of_block (h.block _ (by rw [V.block_add]; exact hA ad e h0))).trans (hc j u hu)⟩

/-- What the walk keeps. -/
def typesSI (w : World) (b : List UInt8) (bl ba n : Nat) (pre : List Nat) (W : World) : Prop :=
  (∃ v, Boxed W bl 58 v ∧ W.ownsRow (w.heap.size + 1) 3 1 v (tyL b n pre).length (ivs (tyL b n pre)) ∧ True) ∧ Boxed W w.heap.size 3 (.int .i64 n) ∧ Boxed W ba 4 (.bool true) ∧ Below w.heap.size w W ∧ ∀ i ∈ pre.drop n, pc b i = 0
def typesSX (w : World) (b : List UInt8) (ba n : Nat) (cd : Code) (pre : List Nat) (W : World) : Prop :=
  cd = .exit 0 ∧ Boxed W ba 4 (.bool false) ∧ Below w.heap.size w W ∧ ∃ q x, pre = q ++ [x] ∧ n ≤ q.length ∧ pc b x ≠ 0
theorem typesSI_own (w : World) (b : List UInt8) (bl ba n B : Nat) (hB : w.heap.size ≤ B) : OwnFrom B (typesSI w b bl ba n) := by
  refine OwnFrom.and (Own.from (holdsRow_own (w.heap.size + 1) bl 58 3 1 (fun pre : List Nat => (tyL b n pre).length) (fun pre : List Nat => ivs (tyL b n pre)) (fun _ _ => True)) _) ?_
  exact OwnFrom.and (Own.from (V.boxed_own' _ _ _) _) (OwnFrom.and (Own.from (V.boxed_own' _ _ _) _) (OwnFrom.and (ownFrom_below (Nat.le_refl _) hB) (fun _ _ _ _ h _ _ => h)))
theorem typesSX_own (w : World) (b : List UInt8) (ba n B : Nat) (cd : Code) (hB : w.heap.size ≤ B) : OwnFrom B (typesSX w b ba n cd) := by
  rintro s X Y row ⟨h0, h1, h2, h3⟩ hg hrow
  exact ⟨h0, V.boxed_own' (β := Unit) _ _ _ () X Y row h1 hg (fun r e => (hrow r e).2), ownFrom_below (β := Unit) (Nat.le_refl _) hB () X Y row h2 hg hrow, h3⟩
theorem typesS_step {w W w1 : World} {b : List UInt8} {bl ba n x : Nat} {pre : List Nat} {v v' : Value} {tmp : Obj} {A : Option Addr} (hA : ∀ ad, A = some ad → 0 < b.length → ad.block < w.heap.size)
    (hv : Boxed W bl 58 v) (hrow : W.ownsRow (w.heap.size + 1) 3 1 v (tyL b n pre).length (ivs (tyL b n pre))) (hbn : Boxed W w.heap.size 3 (.int .i64 n)) (hba : Boxed W ba 4 (.bool true)) (hB : Below w.heap.size w W)
    (hbb : w.heap.size + 1 ≤ bl) (hsz : w.heap.size + 1 ≤ W.heap.size) (hne : ba ≠ bl) (hlt : pre.length < n)
    (hown' : w1.ownsRow (w.heap.size + 1) 3 1 v' ((tyL b n pre).length + 1) (ivs (tyL b n pre) ++ [.int .i64 ((pc b x : Int) + 1)])) (hgrow : (W.alloc tmp).grownBy w1 v.ownBlock) :
    KeepsOthers W (w1.setCell ⟨bl, 0, none⟩ v') ∧ RdK A b W (w1.setCell ⟨bl, 0, none⟩ v') ∧ typesSI w b bl ba n (pre ++ [x]) (w1.setCell ⟨bl, 0, none⟩ v') := by
  obtain ⟨hv1, hv2, hr2, hk2, hb2⟩ := hv.appended (by decide) hrow hsz hbb hown' hgrow
  have hbn2 := V.boxed_far (((hbn.alloc tmp).kept hgrow (fun e => by have := (hrow.lt _ e.symm).1; omega))) (B' := bl) (by omega) v'
  have hba2 := V.boxed_far (((hba.alloc tmp).kept hgrow (hba.not_row (by decide) hrow))) (B' := bl) hne v'
  refine ⟨hk2, rdK_below hA (hb2.mono (Nat.le_succ _)), ⟨v', hv2, ?_, trivial⟩, hbn2, hba2, hB.trans (hb2.mono (Nat.le_succ _)), ?_⟩
  · rw [tyL_more hlt]
    have e : (tyL b n (pre ++ [x])).length = (tyL b n pre).length + 1 := by rw [tyL_len, tyL_len, List.length_append]; simp; omega
    rw [e]; exact hr2
  · rw [List.drop_of_length_le (by simp; omega)]
    intro i h; simp at h

set_option maxRecDepth 100000 in
set_option maxHeartbeats 4000000 in
theorem typesS_any (A : Option Addr) (b : List UInt8) (c : Nat) (n : Nat) (w : World) (hr : V.Rd w A b) (hlen : b.length ≤ 1000) (hn4 : n ≤ 4 * b.length) :
    Calls Tryz.prog 159 #[.slice A b.length c, .int .i64 n] w (TyR w (tyX b n) (clean b n)) := by
  have hA : ∀ ad, A = some ad → 0 < b.length → ad.block < w.heap.size := fun ad e h0 => V.Rd.lt hr e h0
  obtain ⟨i0, hi, hz0, hz1, hz2⟩ := info_parts int_info
  refine (callsIn_wide (n := 4)).1 ?_
  refine callsIn_of_wp_marks Tryz.func159 rfl trivial ?_ rfl
  simp only [Tryz.ntmps159, List.size_toArray, List.length_cons, List.length_nil, Nat.reduceAdd, Nat.reduceSub, Array.replicate_succ, Array.replicate_zero, List.push_toArray, List.append_toArray, List.nil_append, List.cons_append]
  gi_wp2
  refine V.wpIn_scope_wide ?_
  gi_wp2_with (gi_at_make; refine wpListIn_make_own _ rfl _ _ 58 rfl (w.heap.size + 1) 3 i0 (.int .i64 0) 1 Tryz.underlying58 hi hz0 hz1 _ _ _ n rfl rfl rfl (by rw [hz2]; omega) (by unfold maxLen; omega) (by simp) ?_; intro w1 hrow1 hg1)
  refine wpIn_label ?_
  have hs1 : w.heap.size + 2 ≤ w1.heap.size := by have := (hrow1.lt _ rfl).2; simp at this; omega
  have bN : Boxed w1 w.heap.size 3 (.int .i64 n) := (Boxed.new w 3 (.int .i64 n)).kept hg1 (by simp)
  have bL := Boxed.new w1 58 (.slice (some ⟨w.heap.size + 1, 0, none⟩) 0 n)
  have hB1 : Below w.heap.size w w1 := ((Below.refl _ w).alloc (Nat.le_refl _) _).grown hg1 (by simp) (by simp)
  have bA := Boxed.new (w1.alloc (.cells #[.slice (some ⟨w.heap.size + 1, 0, none⟩) 0 n] 58)) 4 (.bool true)
  rw [World.size_alloc] at bA
  gi_wp2_with (refine ⟨trivial, ?_⟩; gi_at_call 192; refine (pieces_any _ A b.length c _).mono ?_; rintro e w' ⟨rfl, rfl⟩)
  have hI0 : typesSI w b w1.heap.size (w1.heap.size + 1) n [] (((w1.alloc (.cells #[.slice (some ⟨w.heap.size + 1, 0, none⟩) 0 n] 58)).alloc (.cells #[.bool true] 4)).alloc (.cells #[.slice A b.length c] 26)) := by
    refine ⟨⟨_, (bL.alloc _).alloc _, ?_, trivial⟩, ((bN.alloc _).alloc _).alloc _, bA.alloc _, ((hB1.alloc (by omega) _).alloc (by simp; omega) _).alloc (by simp; omega) _, fun i h => by simp at h⟩
    have hr := ((hrow1.alloc (.cells #[.slice (some ⟨w.heap.size + 1, 0, none⟩) 0 n] 58)).alloc (.cells #[.bool true] 4)).alloc (.cells #[.slice A b.length c] 26)
    simpa [tyL] using hr
  have bP := Blk.new ((w1.alloc (.cells #[.slice (some ⟨w.heap.size + 1, 0, none⟩) 0 n] 58)).alloc (.cells #[.bool true] 4)) 26 #[.slice A b.length c]
  simp only [World.size_alloc] at bP
  have hr3 : V.Rd (((w1.alloc (.cells #[.slice (some ⟨w.heap.size + 1, 0, none⟩) 0 n] 58)).alloc (.cells #[.bool true] 4)).alloc (.cells #[.slice A b.length c] 26)) A b := hr.keep (Keep.of_below (O := NoB) hI0.2.2.2.1) (fun _ _ _ => id)
  refine wpIn_rangeFunc_ownG rfl (by omega) (gf := 207) (lb := #[.pointer (some ⟨w1.heap.size + 1 + 1, 0, none⟩)]) rfl trivial (enters_of Tryz.func207 (by kernel_rfl) rfl)
    (pieces_stops _ (by omega) (w1.heap.size + 1 + 1) A b c hlen _ bP hr3) (fun h h' => RdK.trans h h') (fun W l o o' _ hl ho _ => RdK.putObj W l o o' hl ho) (Below.refl _ _) (fun _ => rfl)
    (typesSI w b w1.heap.size (w1.heap.size + 1) n) (typesSX w b (w1.heap.size + 1) n) (typesSI_own w b _ _ n _ (by simp; omega)) (fun cd => typesSX_own w b _ n _ cd (by simp; omega)) hI0
    (fun x => { tmps := #[.slice A b.length c, .int .i64 n, undef, .pointer (some ⟨w.heap.size, 0, none⟩), .slice none 0 0, .bool false, .pointer (some ⟨w1.heap.size, 0, none⟩), .pointer (some ⟨w1.heap.size + 1, 0, none⟩), .int .i64 (pc b x : Nat), .int .i64 n, .slice (some ⟨w.heap.size + 1, 0, none⟩) 0 n, .slice A b.length c, .func (.func 207) #[] #[.pointer (some ⟨w1.heap.size + 1 + 1, 0, none⟩)], .int .i64 (pc b x : Nat), undef, undef, undef, undef, undef, undef, undef, undef, undef, undef, undef, undef, undef, undef, undef, undef], defers := [] }) ?assign ?body ?done ?stop
  case assign =>
    intro l x W K hK
    gi_wp2
    exact hK
  case body =>
    rintro l pre x W ⟨⟨v, hv, hrow, _⟩, hbn, hba, hB, hz⟩ hlt
    have hpx := pc_lt b x
    by_cases h1 : pre.length < n
    · have hst := fun v' w1' tmp hown' hgrow => typesS_step (x := x) (v' := v') (w1 := w1') (tmp := tmp) hA hv hrow hbn hba hB (by omega) (by have := hv.lt; omega) (by omega) h1 hown' hgrow
      have HST := Lib.hid hst
      have hk : (tyL b n pre).length = pre.length := by rw [tyL_len]; omega
      have cv := hv.cell
      have cn := hbn.cell
      obtain ⟨A0, c0, rfl⟩ := own_form hrow
      rw [hk] at hrow HST cv
      have hv2 := hv
      rw [hk] at hv2
      clear hst hv hbn hba hz
      have hxs : (ivs (tyL b n pre)).length = pre.length := by simp [hk]
      obtain ⟨xs, hxs'⟩ : ∃ xs, ivs (tyL b n pre) = xs := ⟨_, rfl⟩
      rw [hxs'] at hrow HST hxs
      clear hxs' hk
      generalize pc b x = y at hpx HST
      gi_wp2_with (gi_at_builtin; refine wpListIn_append_own _ rfl _ _ 58 rfl (w.heap.size + 1) 3 i0 (.int .i64 0) 1 8 Tryz.underlying58 hi hz0 hz1 hz2 rfl (by decide) _ _ _ rfl (hrow.alloc _) ⟨W.heap.size, 0, none⟩ 1 1 [.int .i64 ((y : Int) + 1)] rfl rfl (cell_one_new _ _ _) (by simp [Value.oneCell']) (by unfold maxLen; omega) (by omega) (by have := hB.size; have := hv2.lt; simp; omega) ?_; intro v' w2 hown' hgrow _; obtain ⟨g', cap', rfl⟩ := ownsRow_succ hown'; have hst := HST.out _ _ _ hown' hgrow; have hv3 := (hv2.alloc _).kept hgrow (hv2.not_row (by decide) hrow); have hc1 := hv3.cell; have hf1 := hv3.frozen)
      exact ⟨hst.1.from _, hst.2⟩
    · have hk : (tyL b n pre).length = n := by rw [tyL_len]; omega
      have cv := hv.cell
      have cn := hbn.cell
      have ca := hba.cell
      have fa := hba.frozen
      obtain ⟨A0, c0, hv0⟩ := own_form hrow
      by_cases h0 : pc b x = 0
      · have hI : Hid (typesSI w b w1.heap.size (w1.heap.size + 1) n (pre ++ [x]) W) := by
          refine ⟨⟨v, hv, ?_, trivial⟩, hbn, hba, hB, ?_⟩
          · rw [tyL_same (by omega)]; exact hrow
          · intro i hi
            rw [List.drop_append_of_le_length (by omega)] at hi
            rcases List.mem_append.1 hi with h | h
            · exact hz i h
            · rw [List.mem_singleton.1 h]; exact h0
        subst hv0
        rw [hk] at cv
        have hq : ((pc b x : Int) != 0) = false := by rw [bne_eq_false_iff_eq]; omega
        clear hv hrow hz hbn hba hB h0 hk
        generalize pc b x = y at hq
        gi_wp2
        exact ⟨KeepsFrom.refl _ _, id, hI.out⟩
      · have hX : Hid (typesSX w b (w1.heap.size + 1) n (.exit 0) (pre ++ [x]) (W.setCell ⟨w1.heap.size + 1, 0, none⟩ (.bool false))) :=
          ⟨rfl, hba.set _, ((Keep.of_below (O := NoB) hB).setCell (fun h => absurd h (by simp; omega)) _).toBelow, pre, x, rfl, by omega, h0⟩
        have hKo : KeepsOthers W (W.setCell ⟨w1.heap.size + 1, 0, none⟩ (.bool false)) := KeepsOthers.setCell _ _ _
        subst hv0
        rw [hk] at cv
        have hq : ((pc b x : Int) != 0) = true := by rw [bne_iff_ne]; omega
        clear hv hrow hz hbn hba hB h0 hk
        generalize pc b x = y at hq
        gi_wp2
        exact ⟨hKo.from _, hX.out⟩
  case done =>
    rintro D ys W hD rfl ⟨⟨v, hv, hrow, _⟩, hbn, hba, hB, hz⟩ hDf
    have cv := hv.cell
    have ca := hba.cell
    have HC := Lib.hid (clean_of hz)
    have HU := Lib.hid (tyL_all hn4)
    gi_wp2
    refine ⟨by simp, .inl ⟨_, _, rfl, run_takeDeferred hDf, ?_⟩⟩
    refine ⟨_, results_tmp2 rfl _ _ _, ?_⟩
    rw [HU.out] at hrow
    refine ⟨v, ?_, ?_, keep_put (Keep.of_below hB) (by simp at hD; omega)⟩
    · rw [HC.out]; rfl
    · rw [tyX_ok HC.out]
      exact Own.of_row (ownsRow_putObj hrow _ hDf rfl) (fun j hj => by unfold Fresh; omega)
  case stop =>
    rintro D cd pre W hD ⟨k, hk, hpk⟩ ⟨rfl, hba, hB, q, x, rfl, hq, hx⟩ hDf
    have ca := hba.cell
    have HC := Lib.hid (clean_not hk hpk hq hx)
    gi_wp2
    refine ⟨by simp, .inl ⟨_, _, rfl, run_takeDeferred hDf, ?_⟩⟩
    refine ⟨_, results_tmp2 rfl _ _ _, ?_⟩
    refine ⟨.slice none 0 0, ?_, ?_, keep_put (Keep.of_below hB) (by simp at hD; omega)⟩
    · rw [HC.out]; rfl
    · rw [tyX_no HC.out]
      exact Own.nil _ _ _ _

/-- What the walk keeps. -/
def typesII (w : World) (b : List UInt8) (bl ba n : Nat) (pre : List Nat) (W : World) : Prop :=
  (∃ v, Boxed W bl 55 v ∧ W.ownsRow (w.heap.size + 1) 3 1 v (tyL b n pre).length (ivs (tyL b n pre)) ∧ True) ∧ Boxed W w.heap.size 3 (.int .i64 n) ∧ Boxed W ba 4 (.bool true) ∧ Below w.heap.size w W ∧ ∀ i ∈ pre.drop n, pc b i = 0
def typesIX (w : World) (b : List UInt8) (ba n : Nat) (cd : Code) (pre : List Nat) (W : World) : Prop :=
  cd = .exit 0 ∧ Boxed W ba 4 (.bool false) ∧ Below w.heap.size w W ∧ ∃ q x, pre = q ++ [x] ∧ n ≤ q.length ∧ pc b x ≠ 0
theorem typesII_own (w : World) (b : List UInt8) (bl ba n B : Nat) (hB : w.heap.size ≤ B) : OwnFrom B (typesII w b bl ba n) := by
  refine OwnFrom.and (Own.from (holdsRow_own (w.heap.size + 1) bl 55 3 1 (fun pre : List Nat => (tyL b n pre).length) (fun pre : List Nat => ivs (tyL b n pre)) (fun _ _ => True)) _) ?_
  exact OwnFrom.and (Own.from (V.boxed_own' _ _ _) _) (OwnFrom.and (Own.from (V.boxed_own' _ _ _) _) (OwnFrom.and (ownFrom_below (Nat.le_refl _) hB) (fun _ _ _ _ h _ _ => h)))
theorem typesIX_own (w : World) (b : List UInt8) (ba n B : Nat) (cd : Code) (hB : w.heap.size ≤ B) : OwnFrom B (typesIX w b ba n cd) := by
  rintro s X Y row ⟨h0, h1, h2, h3⟩ hg hrow
  exact ⟨h0, V.boxed_own' (β := Unit) _ _ _ () X Y row h1 hg (fun r e => (hrow r e).2), ownFrom_below (β := Unit) (Nat.le_refl _) hB () X Y row h2 hg hrow, h3⟩
theorem typesI_step {w W w1 : World} {b : List UInt8} {bl ba n x : Nat} {pre : List Nat} {v v' : Value} {tmp : Obj} {A : Option Addr} (hA : ∀ ad, A = some ad → 0 < b.length → ad.block < w.heap.size)
    (hv : Boxed W bl 55 v) (hrow : W.ownsRow (w.heap.size + 1) 3 1 v (tyL b n pre).length (ivs (tyL b n pre))) (hbn : Boxed W w.heap.size 3 (.int .i64 n)) (hba : Boxed W ba 4 (.bool true)) (hB : Below w.heap.size w W)
    (hbb : w.heap.size + 1 ≤ bl) (hsz : w.heap.size + 1 ≤ W.heap.size) (hne : ba ≠ bl) (hlt : pre.length < n)
    (hown' : w1.ownsRow (w.heap.size + 1) 3 1 v' ((tyL b n pre).length + 1) (ivs (tyL b n pre) ++ [.int .i64 ((pc b x : Int) + 1)])) (hgrow : (W.alloc tmp).grownBy w1 v.ownBlock) :
    KeepsOthers W (w1.setCell ⟨bl, 0, none⟩ v') ∧ RdK A b W (w1.setCell ⟨bl, 0, none⟩ v') ∧ typesII w b bl ba n (pre ++ [x]) (w1.setCell ⟨bl, 0, none⟩ v') := by
  obtain ⟨hv1, hv2, hr2, hk2, hb2⟩ := hv.appended (by decide) hrow hsz hbb hown' hgrow
  have hbn2 := V.boxed_far (((hbn.alloc tmp).kept hgrow (fun e => by have := (hrow.lt _ e.symm).1; omega))) (B' := bl) (by omega) v'
  have hba2 := V.boxed_far (((hba.alloc tmp).kept hgrow (hba.not_row (by decide) hrow))) (B' := bl) hne v'
  refine ⟨hk2, rdK_below hA (hb2.mono (Nat.le_succ _)), ⟨v', hv2, ?_, trivial⟩, hbn2, hba2, hB.trans (hb2.mono (Nat.le_succ _)), ?_⟩
  · rw [tyL_more hlt]
    have e : (tyL b n (pre ++ [x])).length = (tyL b n pre).length + 1 := by rw [tyL_len, tyL_len, List.length_append]; simp; omega
    rw [e]; exact hr2
  · rw [List.drop_of_length_le (by simp; omega)]
    intro i h; simp at h

set_option maxRecDepth 100000 in
set_option maxHeartbeats 4000000 in
theorem typesI_any (A : Option Addr) (b : List UInt8) (c : Nat) (n : Nat) (w : World) (hr : V.Rd w A b) (hlen : b.length ≤ 1000) (hn4 : n ≤ 4 * b.length) :
    Calls Tryz.prog 196 #[.slice A b.length c, .int .i64 n] w (TyR w (tyX b n) (clean b n)) := by
  have hA : ∀ ad, A = some ad → 0 < b.length → ad.block < w.heap.size := fun ad e h0 => V.Rd.lt hr e h0
  obtain ⟨i0, hi, hz0, hz1, hz2⟩ := info_parts int_info
  refine (callsIn_wide (n := 4)).1 ?_
  refine callsIn_of_wp_marks Tryz.func196 rfl trivial ?_ rfl
  simp only [Tryz.ntmps196, List.size_toArray, List.length_cons, List.length_nil, Nat.reduceAdd, Nat.reduceSub, Array.replicate_succ, Array.replicate_zero, List.push_toArray, List.append_toArray, List.nil_append, List.cons_append]
  gi_wp2
  refine V.wpIn_scope_wide ?_
  gi_wp2_with (gi_at_make; refine wpListIn_make_own _ rfl _ _ 55 rfl (w.heap.size + 1) 3 i0 (.int .i64 0) 1 Tryz.underlying55 hi hz0 hz1 _ _ _ n rfl rfl rfl (by rw [hz2]; omega) (by unfold maxLen; omega) (by simp) ?_; intro w1 hrow1 hg1)
  refine wpIn_label ?_
  have hs1 : w.heap.size + 2 ≤ w1.heap.size := by have := (hrow1.lt _ rfl).2; simp at this; omega
  have bN : Boxed w1 w.heap.size 3 (.int .i64 n) := (Boxed.new w 3 (.int .i64 n)).kept hg1 (by simp)
  have bL := Boxed.new w1 55 (.slice (some ⟨w.heap.size + 1, 0, none⟩) 0 n)
  have hB1 : Below w.heap.size w w1 := ((Below.refl _ w).alloc (Nat.le_refl _) _).grown hg1 (by simp) (by simp)
  have bA := Boxed.new (w1.alloc (.cells #[.slice (some ⟨w.heap.size + 1, 0, none⟩) 0 n] 55)) 4 (.bool true)
  rw [World.size_alloc] at bA
  gi_wp2_with (refine ⟨trivial, ?_⟩; gi_at_call 192; refine (pieces_any _ A b.length c _).mono ?_; rintro e w' ⟨rfl, rfl⟩)
  have hI0 : typesII w b w1.heap.size (w1.heap.size + 1) n [] (((w1.alloc (.cells #[.slice (some ⟨w.heap.size + 1, 0, none⟩) 0 n] 55)).alloc (.cells #[.bool true] 4)).alloc (.cells #[.slice A b.length c] 26)) := by
    refine ⟨⟨_, (bL.alloc _).alloc _, ?_, trivial⟩, ((bN.alloc _).alloc _).alloc _, bA.alloc _, ((hB1.alloc (by omega) _).alloc (by simp; omega) _).alloc (by simp; omega) _, fun i h => by simp at h⟩
    have hr := ((hrow1.alloc (.cells #[.slice (some ⟨w.heap.size + 1, 0, none⟩) 0 n] 55)).alloc (.cells #[.bool true] 4)).alloc (.cells #[.slice A b.length c] 26)
    simpa [tyL] using hr
  have bP := Blk.new ((w1.alloc (.cells #[.slice (some ⟨w.heap.size + 1, 0, none⟩) 0 n] 55)).alloc (.cells #[.bool true] 4)) 26 #[.slice A b.length c]
  simp only [World.size_alloc] at bP
  have hr3 : V.Rd (((w1.alloc (.cells #[.slice (some ⟨w.heap.size + 1, 0, none⟩) 0 n] 55)).alloc (.cells #[.bool true] 4)).alloc (.cells #[.slice A b.length c] 26)) A b := hr.keep (Keep.of_below (O := NoB) hI0.2.2.2.1) (fun _ _ _ => id)
  refine wpIn_rangeFunc_ownG rfl (by omega) (gf := 207) (lb := #[.pointer (some ⟨w1.heap.size + 1 + 1, 0, none⟩)]) rfl trivial (enters_of Tryz.func207 (by kernel_rfl) rfl)
    (pieces_stops _ (by omega) (w1.heap.size + 1 + 1) A b c hlen _ bP hr3) (fun h h' => RdK.trans h h') (fun W l o o' _ hl ho _ => RdK.putObj W l o o' hl ho) (Below.refl _ _) (fun _ => rfl)
    (typesII w b w1.heap.size (w1.heap.size + 1) n) (typesIX w b (w1.heap.size + 1) n) (typesII_own w b _ _ n _ (by simp; omega)) (fun cd => typesIX_own w b _ n _ cd (by simp; omega)) hI0
    (fun x => { tmps := #[.slice A b.length c, .int .i64 n, undef, .pointer (some ⟨w.heap.size, 0, none⟩), .slice none 0 0, .bool false, .pointer (some ⟨w1.heap.size, 0, none⟩), .pointer (some ⟨w1.heap.size + 1, 0, none⟩), .int .i64 (pc b x : Nat), .int .i64 n, .slice (some ⟨w.heap.size + 1, 0, none⟩) 0 n, .slice A b.length c, .func (.func 207) #[] #[.pointer (some ⟨w1.heap.size + 1 + 1, 0, none⟩)], .int .i64 (pc b x : Nat), undef, undef, undef, undef, undef, undef, undef, undef, undef, undef, undef, undef, undef, undef, undef, undef], defers := [] }) ?assign ?body ?done ?stop
  case assign =>
    intro l x W K hK
    gi_wp2
    exact hK
  case body =>
    rintro l pre x W ⟨⟨v, hv, hrow, _⟩, hbn, hba, hB, hz⟩ hlt
    have hpx := pc_lt b x
    by_cases h1 : pre.length < n
    · have hst := fun v' w1' tmp hown' hgrow => typesI_step (x := x) (v' := v') (w1 := w1') (tmp := tmp) hA hv hrow hbn hba hB (by omega) (by have := hv.lt; omega) (by omega) h1 hown' hgrow
      have HST := Lib.hid hst
      have hk : (tyL b n pre).length = pre.length := by rw [tyL_len]; omega
      have cv := hv.cell
      have cn := hbn.cell
      obtain ⟨A0, c0, rfl⟩ := own_form hrow
      rw [hk] at hrow HST cv
      have hv2 := hv
      rw [hk] at hv2
      clear hst hv hbn hba hz
      have hxs : (ivs (tyL b n pre)).length = pre.length := by simp [hk]
      obtain ⟨xs, hxs'⟩ : ∃ xs, ivs (tyL b n pre) = xs := ⟨_, rfl⟩
      rw [hxs'] at hrow HST hxs
      clear hxs' hk
      generalize pc b x = y at hpx HST
      gi_wp2_with (gi_at_builtin; refine wpListIn_append_own _ rfl _ _ 55 rfl (w.heap.size + 1) 3 i0 (.int .i64 0) 1 8 Tryz.underlying55 hi hz0 hz1 hz2 rfl (by decide) _ _ _ rfl (hrow.alloc _) ⟨W.heap.size, 0, none⟩ 1 1 [.int .i64 ((y : Int) + 1)] rfl rfl (cell_one_new _ _ _) (by simp [Value.oneCell']) (by unfold maxLen; omega) (by omega) (by have := hB.size; have := hv2.lt; simp; omega) ?_; intro v' w2 hown' hgrow _; obtain ⟨g', cap', rfl⟩ := ownsRow_succ hown'; have hst := HST.out _ _ _ hown' hgrow; have hv3 := (hv2.alloc _).kept hgrow (hv2.not_row (by decide) hrow); have hc1 := hv3.cell; have hf1 := hv3.frozen)
      exact ⟨hst.1.from _, hst.2⟩
    · have hk : (tyL b n pre).length = n := by rw [tyL_len]; omega
      have cv := hv.cell
      have cn := hbn.cell
      have ca := hba.cell
      have fa := hba.frozen
      obtain ⟨A0, c0, hv0⟩ := own_form hrow
      by_cases h0 : pc b x = 0
      · have hI : Hid (typesII w b w1.heap.size (w1.heap.size + 1) n (pre ++ [x]) W) := by
          refine ⟨⟨v, hv, ?_, trivial⟩, hbn, hba, hB, ?_⟩
          · rw [tyL_same (by omega)]; exact hrow
          · intro i hi
            rw [List.drop_append_of_le_length (by omega)] at hi
            rcases List.mem_append.1 hi with h | h
            · exact hz i h
            · rw [List.mem_singleton.1 h]; exact h0
        subst hv0
        rw [hk] at cv
        have hq : ((pc b x : Int) != 0) = false := by rw [bne_eq_false_iff_eq]; omega
        clear hv hrow hz hbn hba hB h0 hk
        generalize pc b x = y at hq
        gi_wp2
        exact ⟨KeepsFrom.refl _ _, id, hI.out⟩
      · have hX : Hid (typesIX w b (w1.heap.size + 1) n (.exit 0) (pre ++ [x]) (W.setCell ⟨w1.heap.size + 1, 0, none⟩ (.bool false))) :=
          ⟨rfl, hba.set _, ((Keep.of_below (O := NoB) hB).setCell (fun h => absurd h (by simp; omega)) _).toBelow, pre, x, rfl, by omega, h0⟩
        have hKo : KeepsOthers W (W.setCell ⟨w1.heap.size + 1, 0, none⟩ (.bool false)) := KeepsOthers.setCell _ _ _
        subst hv0
        rw [hk] at cv
        have hq : ((pc b x : Int) != 0) = true := by rw [bne_iff_ne]; omega
        clear hv hrow hz hbn hba hB h0 hk
        generalize pc b x = y at hq
        gi_wp2
        exact ⟨hKo.from _, hX.out⟩
  case done =>
    rintro D ys W hD rfl ⟨⟨v, hv, hrow, _⟩, hbn, hba, hB, hz⟩ hDf
    have cv := hv.cell
    have ca := hba.cell
    have HC := Lib.hid (clean_of hz)
    have HU := Lib.hid (tyL_all hn4)
    gi_wp2
    refine ⟨by simp, .inl ⟨_, _, rfl, run_takeDeferred hDf, ?_⟩⟩
    refine ⟨_, results_tmp2 rfl _ _ _, ?_⟩
    rw [HU.out] at hrow
    refine ⟨v, ?_, ?_, keep_put (Keep.of_below hB) (by simp at hD; omega)⟩
    · rw [HC.out]; rfl
    · rw [tyX_ok HC.out]
      exact Own.of_row (ownsRow_putObj hrow _ hDf rfl) (fun j hj => by unfold Fresh; omega)
  case stop =>
    rintro D cd pre W hD ⟨k, hk, hpk⟩ ⟨rfl, hba, hB, q, x, rfl, hq, hx⟩ hDf
    have ca := hba.cell
    have HC := Lib.hid (clean_not hk hpk hq hx)
    gi_wp2
    refine ⟨by simp, .inl ⟨_, _, rfl, run_takeDeferred hDf, ?_⟩⟩
    refine ⟨_, results_tmp2 rfl _ _ _, ?_⟩
    refine ⟨.slice none 0 0, ?_, ?_, keep_put (Keep.of_below hB) (by simp at hD; omega)⟩
    · rw [HC.out]; rfl
    · rw [tyX_no HC.out]
      exact Own.nil _ _ _ _

end Go.Proofs.YtgifflfjhockaaaGreatDoor.S

namespace Go.Proofs.YtgifflfjhockaaaGreatDoor.S
open Go.RowKit W

def optL (R : Option (List Int × Nat)) : List Int := match R with
  | none => []
  | some x => x.1
def optE (R : Option (List Int × Nat)) : Int := match R with
  | none => 60
  | some _ => 0
/-- How unpack ends. -/
def UnpR (w : World) (br : Nat) (At : World → Nat → Prop) (R : Option (List Int × Nat)) (e : Ending) (w' : World) : Prop :=
  ∃ v q, e = .returned (.tuple #[v, .bool R.isSome]) ∧ Own w' 3 1 (Fresh w) v (optL R).length (ivs (optL R)) ∧ At w' q ∧ (∀ y, R = some y → q = y.2) ∧ Keep (fun k => k = br) w w'
/-- How Decode ends. -/
def ShpR (w : World) (br : Nat) (At : World → Nat → Prop) (R : Option (List Int × Nat)) (e : Ending) (w' : World) : Prop :=
  ∃ v q, e = .returned (.tuple #[v, .int .i64 (optE R)]) ∧ Own w' 3 1 (Fresh w) v (optL R).length (ivs (optL R)) ∧ At w' q ∧ (∀ y, R = some y → q = y.2) ∧ Keep (fun k => k = br) w w'
theorem unp_none {w w' : World} {br q : Nat} {At : World → Nat → Prop} {R : Option (List Int × Nat)} (hR : R = none) (h : At w' q) (hk : Keep (fun k => k = br) w w') : UnpR w br At R (.returned (.tuple #[.slice none 0 0, .bool false])) w' := by
  subst hR
  exact ⟨_, q, rfl, Own.nil _ _ _ _, h, fun _ h => (by cases h), hk⟩
theorem shp_none {w w' : World} {br q : Nat} {At : World → Nat → Prop} {R : Option (List Int × Nat)} (hR : R = none) (h : At w' q) (hk : Keep (fun k => k = br) w w') : ShpR w br At R (.returned (.tuple #[.slice none 0 0, .int .i64 60])) w' := by
  subst hR
  exact ⟨_, q, rfl, Own.nil _ _ _ _, h, fun _ h => (by cases h), hk⟩
theorem keep_nb {w w1 w2 : World} {br : Nat} (h : Keep (fun k => k = br) w w1) (h2 : Keep NoB w1 w2) : Keep (fun k => k = br) w w2 := h.trans h2 (fun _ hf _ => hf.elim)
theorem keep_bb {w w1 w2 : World} {br : Nat} (h : Keep (fun k => k = br) w w1) (h2 : Keep (fun k => k = br) w1 w2) : Keep (fun k => k = br) w w2 := h.trans h2 (fun _ h _ => h)
theorem decS_none {l : List UInt8} {p : Nat} (h : rdT l p 16 = none) : decS l p = none := by unfold decS; rw [h]
theorem decS_no {l : List UInt8} {p : Nat} {x : List Int × Nat} (h : rdT l p 16 = some x) (ho : okS x.1 = false) : decS l p = none := by unfold decS; rw [h]; exact if_neg (by rw [ho]; decide)
theorem decS_some {l : List UInt8} {p : Nat} {x : List Int × Nat} (h : rdT l p 16 = some x) (ho : okS x.1 = true) : decS l p = some x := by unfold decS; rw [h]; exact if_pos ho

set_option maxRecDepth 100000 in
set_option maxHeartbeats 1000000 in
theorem ifS_no (A : Option Addr) (l : List Int) (na c : Nat) (w : World) (hr : Rd w A (ivs l)) (hn : Hid (l.length = na)) (hm : na ≤ 9223372036854775807) (ho : okS l = false) :
    Calls Tryz.prog 115 #[.slice A na c] w fun e w' => e = .returned (.tuple #[.slice none 0 0, .int .i64 60]) ∧ Keep NoB w w' := by
  have HC := Lib.hid (fun w hr => chkS_any A l na c w hr hn hm 60 (chkS_no ho))
  go_enter Tryz.func115, Tryz.ntmps115
  go_wp2_with (go_at_call 72; refine (HC.out _ hr).mono ?_; rintro e w1 ⟨rfl, k1⟩)
  go_ret2
  exact ⟨rfl, k1⟩
set_option maxRecDepth 100000 in
set_option maxHeartbeats 1000000 in
theorem ifS_yes (A : Option Addr) (l : List Int) (na c : Nat) (w : World) (hr : Rd w A (ivs l)) (hn : Hid (l.length = na)) (hm : na ≤ 9223372036854775807) (ho : okS l = true) :
    Calls Tryz.prog 115 #[.slice A na c] w fun e w' => e = .returned (.tuple #[.slice A na c, .int .i64 0]) ∧ Keep NoB w w' := by
  have HC := Lib.hid (fun w hr => chkS_any A l na c w hr hn hm 0 (chkS_ok ho))
  go_enter Tryz.func115, Tryz.ntmps115
  go_wp2_with (go_at_call 72; refine (HC.out _ hr).mono ?_; rintro e w1 ⟨rfl, k1⟩)
  go_ret2
  exact ⟨rfl, k1⟩

set_option maxRecDepth 100000 in
set_option maxHeartbeats 4000000 in
theorem unpackS_any (w : World) (br : Nat) (Ob : Nat → Prop) (l : List UInt8) (p most : Nat) (hm : most ≤ 64) (h : V.ReelAt w br Ob l p) (hlen : l.length ≤ 140737488355328) :
    Calls Tryz.prog 114 #[.pointer (some ⟨br, 0, none⟩), .int .i64 most] w (UnpR w br (fun w' q => V.ReelAt w' br Ob l q) (rdT l p most)) := by
  have hbr := reel_lt h
  have HS := Lib.hid (V.rnumber_any w br Ob l p most h hlen)
  obtain ⟨ni, r, q, hN, hN0, hN1⟩ := num_case l p most
  rw [hN] at HS
  clear h
  by_cases hr : r = 0
  · subst hr
    obtain ⟨hn1, hn2⟩ := hN0 rfl
    have HZ := Lib.hid (fun w => size_any ni (by omega) w)
    have hz : sz ni ≤ 16 := by unfold sz; omega
    have hz4 : ni ≤ 4 * sz ni := by unfold sz; omega
    by_cases hl : l.length < q + sz ni
    · have HD := Lib.hid (rdT_2 hN hl)
      obtain ⟨z, hzz⟩ : ∃ z, sz ni = z := ⟨_, rfl⟩
      rw [hzz] at HZ hz hz4 hl
      clear hN hN0 hN1 hzz
      go_enter Tryz.func114, Tryz.ntmps114
      go_wp2_with fail
      refine HS.out.mono ?_
      rintro e w1 ⟨rfl, h1, k1⟩
      have HR := Lib.hid (V.rraw_any w1 br Ob l q (z : Int) h1 hlen (by omega))
      go_wp2_with fail
      refine (HZ.out _).mono ?_
      rintro e w2 ⟨rfl, rfl⟩
      go_wp2_with fail
      refine HR.out.mono ?_
      rintro e w3 (⟨h0, _⟩ | ⟨_, ⟨_, rfl, h3, k3⟩ | ⟨h0, _⟩⟩)
      · omega
      · go_wp2
        go_ret2
        exact unp_none HD.out h3 (keep_nb k1 k3)
      · omega
    · obtain ⟨bs, hbs⟩ : ∃ bs, (l.drop q).take (sz ni) = bs := ⟨_, rfl⟩
      have hbl : bs.length = sz ni := by rw [← hbs]; simp; omega
      have HT := Lib.hid (fun (A : Option Addr) (c : Nat) (w : World) (hr : V.Rd w A bs) => typesS_any A bs c ni w hr (by omega) (by omega))
      have HD : Hid ((clean bs ni = true → rdT l p most = some (unp bs ni, q + sz ni)) ∧ (clean bs ni = false → rdT l p most = none)) := by
        refine ⟨fun hc => ?_, fun hc => ?_⟩
        · rw [rdT_4 hN hl (by rw [hbs]; exact hc), hbs]
        · exact rdT_3 hN (by rw [hbs]; exact hc)
      rw [hbl] at HT
      obtain ⟨z, hzz⟩ : ∃ z, sz ni = z := ⟨_, rfl⟩
      rw [hzz] at HZ hz hz4 hl HT HD hbs
      have HB := Lib.hid hbs
      clear hN hN0 hN1 hzz hbl hbs
      go_enter Tryz.func114, Tryz.ntmps114
      go_wp2_with fail
      refine HS.out.mono ?_
      rintro e w1 ⟨rfl, h1, k1⟩
      have HR := Lib.hid (V.rraw_any w1 br Ob l q (z : Int) h1 hlen (by omega))
      go_wp2_with fail
      refine (HZ.out _).mono ?_
      rintro e w2 ⟨rfl, rfl⟩
      go_wp2_with fail
      refine HR.out.mono ?_
      rintro e w3 (⟨h0, _⟩ | ⟨_, ⟨h0, _⟩ | ⟨_, A2, c2, rfl, hO3, h3, k3⟩⟩)
      · omega
      · omega
      rw [Int.toNat_natCast] at hO3 h3 ⊢
      rw [HB.out] at hO3
      have hrd : V.Rd w3 A2 bs := by
        obtain ⟨A', c', e, _, hr, _⟩ := hO3.form
        cases e; exact hr
      go_wp2_with fail
      refine (HT.out A2 c2 _ hrd).mono ?_
      rintro e w4 ⟨v4, rfl, hO4, k4⟩
      have hsz3 := k3.size
      have hsz1 := k1.size
      cases hc : clean bs ni
      · rw [tyX_no hc] at hO4
        go_wp2
        go_ret2
        have hR := HD.out.2 hc
        refine ⟨v4, _, by rw [hR]; rfl, by rw [hR]; exact hO4.mono (fun j hj _ => by unfold Fresh at hj ⊢; omega), h3.keep k4 (fun _ _ => id), fun y hy => (by rw [hR] at hy; cases hy), keep_nb (keep_bb k1 k3) k4⟩
      · rw [tyX_ok hc] at hO4
        go_wp2
        go_ret2
        have hR := HD.out.1 hc
        refine ⟨v4, _, by rw [hR]; rfl, by rw [hR]; exact hO4.mono (fun j hj _ => by unfold Fresh at hj ⊢; omega), h3.keep k4 (fun _ _ => id), fun y hy => (by rw [hR] at hy; injection hy with hy; rw [← hy]), keep_nb (keep_bb k1 k3) k4⟩
  · have HD := Lib.hid (rdT_1 hN hr)
    have hr3 : ((r : Int) != 0) = true := by rw [bne_iff_ne]; omega
    clear hN0 hN1 hN hr
    go_enter Tryz.func114, Tryz.ntmps114
    go_wp2_with fail
    refine HS.out.mono ?_
    rintro e w1 ⟨rfl, h1, k1⟩
    go_wp2
    go_ret2
    exact unp_none HD.out h1 k1

set_option maxRecDepth 100000 in
set_option maxHeartbeats 4000000 in
theorem unpackI_any (w : World) (br : Nat) (Ob : Nat → Prop) (l : List UInt8) (p most : Nat) (hm : most ≤ 64) (h : V.ReelAt w br Ob l p) (hlen : l.length ≤ 140737488355328) :
    Calls Tryz.prog 179 #[.pointer (some ⟨br, 0, none⟩), .int .i64 most] w (UnpR w br (fun w' q => V.ReelAt w' br Ob l q) (rdT l p most)) := by
  have hbr := reel_lt h
  have HS := Lib.hid (V.rnumber_any w br Ob l p most h hlen)
  obtain ⟨ni, r, q, hN, hN0, hN1⟩ := num_case l p most
  rw [hN] at HS
  clear h
  by_cases hr : r = 0
  · subst hr
    obtain ⟨hn1, hn2⟩ := hN0 rfl
    have HZ := Lib.hid (fun w => size_any ni (by omega) w)
    have hz : sz ni ≤ 16 := by unfold sz; omega
    have hz4 : ni ≤ 4 * sz ni := by unfold sz; omega
    by_cases hl : l.length < q + sz ni
    · have HD := Lib.hid (rdT_2 hN hl)
      obtain ⟨z, hzz⟩ : ∃ z, sz ni = z := ⟨_, rfl⟩
      rw [hzz] at HZ hz hz4 hl
      clear hN hN0 hN1 hzz
      go_enter Tryz.func179, Tryz.ntmps179
      go_wp2_with fail
      refine HS.out.mono ?_
      rintro e w1 ⟨rfl, h1, k1⟩
      have HR := Lib.hid (V.rraw_any w1 br Ob l q (z : Int) h1 hlen (by omega))
      go_wp2_with fail
      refine (HZ.out _).mono ?_
      rintro e w2 ⟨rfl, rfl⟩
      go_wp2_with fail
      refine HR.out.mono ?_
      rintro e w3 (⟨h0, _⟩ | ⟨_, ⟨_, rfl, h3, k3⟩ | ⟨h0, _⟩⟩)
      · omega
      · go_wp2
        go_ret2
        exact unp_none HD.out h3 (keep_nb k1 k3)
      · omega
    · obtain ⟨bs, hbs⟩ : ∃ bs, (l.drop q).take (sz ni) = bs := ⟨_, rfl⟩
      have hbl : bs.length = sz ni := by rw [← hbs]; simp; omega
      have HT := Lib.hid (fun (A : Option Addr) (c : Nat) (w : World) (hr : V.Rd w A bs) => typesI_any A bs c ni w hr (by omega) (by omega))
      have HD : Hid ((clean bs ni = true → rdT l p most = some (unp bs ni, q + sz ni)) ∧ (clean bs ni = false → rdT l p most = none)) := by
        refine ⟨fun hc => ?_, fun hc => ?_⟩
        · rw [rdT_4 hN hl (by rw [hbs]; exact hc), hbs]
        · exact rdT_3 hN (by rw [hbs]; exact hc)
      rw [hbl] at HT
      obtain ⟨z, hzz⟩ : ∃ z, sz ni = z := ⟨_, rfl⟩
      rw [hzz] at HZ hz hz4 hl HT HD hbs
      have HB := Lib.hid hbs
      clear hN hN0 hN1 hzz hbl hbs
      go_enter Tryz.func179, Tryz.ntmps179
      go_wp2_with fail
      refine HS.out.mono ?_
      rintro e w1 ⟨rfl, h1, k1⟩
      have HR := Lib.hid (V.rraw_any w1 br Ob l q (z : Int) h1 hlen (by omega))
      go_wp2_with fail
      refine (HZ.out _).mono ?_
      rintro e w2 ⟨rfl, rfl⟩
      go_wp2_with fail
      refine HR.out.mono ?_
      rintro e w3 (⟨h0, _⟩ | ⟨_, ⟨h0, _⟩ | ⟨_, A2, c2, rfl, hO3, h3, k3⟩⟩)
      · omega
      · omega
      rw [Int.toNat_natCast] at hO3 h3 ⊢
      rw [HB.out] at hO3
      have hrd : V.Rd w3 A2 bs := by
        obtain ⟨A', c', e, _, hr, _⟩ := hO3.form
        cases e; exact hr
      go_wp2_with fail
      refine (HT.out A2 c2 _ hrd).mono ?_
      rintro e w4 ⟨v4, rfl, hO4, k4⟩
      have hsz3 := k3.size
      have hsz1 := k1.size
      cases hc : clean bs ni
      · rw [tyX_no hc] at hO4
        go_wp2
        go_ret2
        have hR := HD.out.2 hc
        refine ⟨v4, _, by rw [hR]; rfl, by rw [hR]; exact hO4.mono (fun j hj _ => by unfold Fresh at hj ⊢; omega), h3.keep k4 (fun _ _ => id), fun y hy => (by rw [hR] at hy; cases hy), keep_nb (keep_bb k1 k3) k4⟩
      · rw [tyX_ok hc] at hO4
        go_wp2
        go_ret2
        have hR := HD.out.1 hc
        refine ⟨v4, _, by rw [hR]; rfl, by rw [hR]; exact hO4.mono (fun j hj _ => by unfold Fresh at hj ⊢; omega), h3.keep k4 (fun _ _ => id), fun y hy => (by rw [hR] at hy; injection hy with hy; rw [← hy]), keep_nb (keep_bb k1 k3) k4⟩
  · have HD := Lib.hid (rdT_1 hN hr)
    have hr3 : ((r : Int) != 0) = true := by rw [bne_iff_ne]; omega
    clear hN0 hN1 hN hr
    go_enter Tryz.func179, Tryz.ntmps179
    go_wp2_with fail
    refine HS.out.mono ?_
    rintro e w1 ⟨rfl, h1, k1⟩
    go_wp2
    go_ret2
    exact unp_none HD.out h1 k1

set_option maxRecDepth 100000 in
set_option maxHeartbeats 4000000 in
theorem decodeS_any (w : World) (br : Nat) (Ob : Nat → Prop) (l : List UInt8) (p : Nat) (h : V.ReelAt w br Ob l p) (hlen : l.length ≤ 140737488355328) :
    Calls Tryz.prog 74 #[.pointer (some ⟨br, 0, none⟩)] w (ShpR w br (fun w' q => V.ReelAt w' br Ob l q) (decS l p)) := by
  have HU := Lib.hid (unpackS_any w br Ob l p 16 (by omega) h hlen)
  cases hR : rdT l p 16 with
  | none =>
    have HD := Lib.hid (decS_none hR)
    rw [hR] at HU
    go_enter Tryz.func74, Tryz.ntmps74
    go_wp2_with fail
    refine HU.out.mono ?_
    rintro e w1 ⟨v, q, rfl, hO1, h1, _, k1⟩
    go_wp2
    go_ret2
    exact shp_none HD.out h1 k1
  | some x =>
    obtain ⟨xs, qx⟩ := x
    obtain ⟨hk, hml, _⟩ := rdT_ok hR
    have HL : Hid (xs.length ≤ 16) := hml
    rw [hR] at HU
    cases ho : okS xs
    · have HD := Lib.hid (decS_no hR ho)
      have HI := Lib.hid (fun (A : Option Addr) (c : Nat) (w : World) hr => ifS_no A xs xs.length c w hr rfl (by have := HL.out; omega) ho)
      clear hR ho hk hml
      go_enter Tryz.func74, Tryz.ntmps74
      go_wp2_with fail
      refine HU.out.mono ?_
      rintro e w1 ⟨v, q, rfl, hO1, h1, _, k1⟩
      obtain ⟨A1, c1, rfl, r1⟩ := own_rdI hO1
      go_wp2_with fail
      refine (HI.out _ _ _ r1).mono ?_
      rintro e w2 ⟨rfl, k2⟩
      go_wp2
      go_ret2
      exact shp_none HD.out (h1.keep k2 (fun _ _ => id)) (keep_nb k1 k2)
    · have HD := Lib.hid (decS_some hR ho)
      have HI := Lib.hid (fun (A : Option Addr) (c : Nat) (w : World) hr => ifS_yes A xs xs.length c w hr rfl (by have := HL.out; omega) ho)
      clear hR ho hk hml
      go_enter Tryz.func74, Tryz.ntmps74
      go_wp2_with fail
      refine HU.out.mono ?_
      rintro e w1 ⟨v, q, rfl, hO1, h1, hq1, k1⟩
      obtain ⟨A1, c1, rfl, r1⟩ := own_rdI hO1
      have HO1 := Lib.hid hO1
      have HQ := Lib.hid (hq1 _ rfl)
      clear hO1 hq1
      go_wp2_with fail
      refine (HI.out _ _ _ r1).mono ?_
      rintro e w2 ⟨rfl, k2⟩
      go_wp2
      go_ret2
      rw [HD.out]
      exact ⟨_, q, rfl, HO1.out.keepN k2, h1.keep k2 (fun _ _ => id), fun y hy => (by injection hy with hy; rw [← hy]; exact HQ.out), keep_nb k1 k2⟩

end Go.Proofs.YtgifflfjhockaaaGreatDoor.S

namespace Go.Proofs.YtgifflfjhockaaaGreatDoor.S
open Go.RowKit W

abbrev Sg := Option ((List Int × List Int) × Nat)
def optA (R : Sg) : List Int := match R with
  | none => []
  | some x => x.1.1
def optB (R : Sg) : List Int := match R with
  | none => []
  | some x => x.1.2
def optF (R : Sg) : Int := match R with
  | none => 61
  | some _ => 0
/-- How DecodeSignature ends. -/
def SigR (w : World) (br : Nat) (At : World → Nat → Prop) (R : Sg) (e : Ending) (w' : World) : Prop :=
  ∃ v1 v2 q, e = .returned (.tuple #[.agg #[v1, v2], .int .i64 (optF R)]) ∧ Own w' 3 1 (Fresh w) v1 (optA R).length (ivs (optA R)) ∧ Own w' 3 1 (Fresh w) v2 (optB R).length (ivs (optB R)) ∧ At w' q ∧ (∀ y, R = some y → q = y.2) ∧ Keep (fun k => k = br) w w'
theorem sig_none {w w' : World} {br q : Nat} {At : World → Nat → Prop} {R : Sg} (hR : R = none) (h : At w' q) (hk : Keep (fun k => k = br) w w') : SigR w br At R (.returned (.tuple #[.agg #[.slice none 0 0, .slice none 0 0], .int .i64 61])) w' := by
  subst hR
  exact ⟨_, _, q, rfl, Own.nil _ _ _ _, Own.nil _ _ _ _, h, fun _ h => (by cases h), hk⟩
theorem decGm_1 {l : List UInt8} {p : Nat} (h : rdT l p 64 = none) : decG l p = none := by rw [← decGm_eq]; unfold decGm; rw [h]
theorem decGm_2 {l : List UInt8} {p : Nat} {x : List Int × Nat} (h : rdT l p 64 = some x) (h2 : rdT l x.2 (64 - x.1.length) = none) : decG l p = none := by rw [← decGm_eq]; unfold decGm; rw [h]; dsimp only; rw [h2]
theorem decGm_3 {l : List UInt8} {p : Nat} {x y : List Int × Nat} (h : rdT l p 64 = some x) (h2 : rdT l x.2 (64 - x.1.length) = some y) (ho : okG x.1 y.1 = false) : decG l p = none := by
  rw [← decGm_eq]; unfold decGm; rw [h]; dsimp only; rw [h2]; exact if_neg (by rw [ho]; decide)
theorem decGm_4 {l : List UInt8} {p : Nat} {x y : List Int × Nat} (h : rdT l p 64 = some x) (h2 : rdT l x.2 (64 - x.1.length) = some y) (ho : okG x.1 y.1 = true) : decG l p = some ((x.1, y.1), y.2) := by
  rw [← decGm_eq]; unfold decGm; rw [h]; dsimp only; rw [h2]; exact if_pos ho
theorem blk_put2 {W : World} {g : Nat} {x y : Value} (h : Blk W g 57 #[x, y]) (u v : Value) : Blk ((W.setCell ⟨g, 0, none⟩ u).setCell ⟨g, 1, none⟩ v) g 57 #[u, v] := by
  have := (h.put 0 u).put 1 v
  simpa using this
theorem sig_size : (Tryz.prog.info? 57).map (·.size) = some 2 := by kernel_rfl
theorem ret_sig {fn : Func} {tmps : Array Value} {w : World} {g : Nat} {u v e : Value} (h : fn.results = #[.cell 2 57, .tmp 3]) (hp : tmps.getD 2 undef = .pointer (some ⟨g, 0, none⟩)) (hb : Blk w g 57 #[u, v]) (he : tmps.getD 3 undef = e) :
    (results fn tmps).run Tryz.prog w = .ok (.tuple #[.agg #[u, v], e]) w := by
  rw [results_cell_tmp h, hp, he]
  simp only [asAddr, Sem.run_pure, Result.andThen_ok]
  rw [run_loadVar_row w g 57 57 #[u, v] (0, 0) _ hb Tryz.underlying57 rfl sig_size]
  rfl
/-- Two cells of a block of one's own are put. -/
theorem keep_put2 {O : Nat → Prop} {w W : World} {g : Nat} (h : Keep O w W) (hg : w.heap.size ≤ g) (u v : Value) : Keep O w ((W.setCell ⟨g, 0, none⟩ u).setCell ⟨g, 1, none⟩ v) :=
  (h.setCell (fun h => absurd h (by simp; omega)) u).setCell (fun h => absurd h (by simp; omega)) v
theorem keep_at2 (W : World) (g : Nat) (u v : Value) : Keep (fun k => k = g) W ((W.setCell ⟨g, 0, none⟩ u).setCell ⟨g, 1, none⟩ v) :=
  ((Keep.refl (fun k => k = g) W).setCell (fun _ => rfl) u).setCell (fun _ => rfl) v
theorem own_put2 {w W : World} {g n : Nat} {v : Value} {xs : List Value} (h : Own W 3 1 (fun k => g < k) v n xs) (hg : w.heap.size ≤ g) (u u' : Value) : Own ((W.setCell ⟨g, 0, none⟩ u).setCell ⟨g, 1, none⟩ u') 3 1 (Fresh w) v n xs :=
  (h.keep (keep_at2 W g u u') (fun k hk e => by omega)).mono (fun k hk _ => by unfold Fresh; omega)

set_option maxRecDepth 100000 in
set_option maxHeartbeats 2000000 in
theorem ifG_no (A : Option Addr) (a : List Int) (na ca : Nat) (B : Option Addr) (r : List Int) (nb cb : Nat) (w : World) (ha : Rd w A (ivs a)) (hr : Rd w B (ivs r)) (hna : Hid (a.length = na)) (hnb : Hid (r.length = nb)) (hn6 : na ≤ 4611686018427387903) (hm6 : nb ≤ 4611686018427387903) (ho : okG a r = false) :
    Calls Tryz.prog 180 #[.agg #[.slice A na ca, .slice B nb cb]] w fun e w' => e = .returned (.tuple #[.agg #[.slice none 0 0, .slice none 0 0], .int .i64 61]) ∧ Keep NoB w w' := by
  have bx := (Blk.new w 57 #[.slice A na ca, .slice B nb cb]).alloc (.cells #[.slice none 0 0, .slice none 0 0] 57)
  have bz := Blk.new (w.alloc (.cells #[.slice A na ca, .slice B nb cb] 57)) 57 #[.slice none 0 0, .slice none 0 0]
  rw [World.size_alloc] at bz
  have k0 := ((Keep.refl NoB w).alloc (.cells #[.slice A na ca, .slice B nb cb] 57)).alloc (.cells #[.slice none 0 0, .slice none 0 0] 57)
  have HC := Lib.hid (fun w ha hr => chkG_any A a na ca B r nb cb w ha hr hna hnb hn6 hm6 61 (chkG_no ho))
  go_enter Tryz.func180, Tryz.ntmps180
  go_wp2_with fail
  refine (HC.out _ (ha.keepN k0) (hr.keepN k0)).mono ?_
  rintro e w2 ⟨rfl, k1⟩
  have bz2 := bz.keep k1 id
  obtain ⟨z0, z1⟩ := blk2 bz2
  have fz := fun i => bz2.frozen i
  have gK := keepN k0 k1
  have HBZ := Lib.hid (fun u v => blk_put2 bz2 u v)
  clear bx bz k0 k1 ha hr HC bz2
  go_wp2
  refine bodyPost_ret (ret_sig rfl rfl (HBZ.out _ _) rfl) rfl ?_
  exact ⟨rfl, keep_put2 gK (by omega) _ _⟩
set_option maxRecDepth 100000 in
set_option maxHeartbeats 2000000 in
theorem ifG_yes (A : Option Addr) (a : List Int) (na ca : Nat) (B : Option Addr) (r : List Int) (nb cb : Nat) (w : World) (ha : Rd w A (ivs a)) (hr : Rd w B (ivs r)) (hna : Hid (a.length = na)) (hnb : Hid (r.length = nb)) (hn6 : na ≤ 4611686018427387903) (hm6 : nb ≤ 4611686018427387903) (ho : okG a r = true) :
    Calls Tryz.prog 180 #[.agg #[.slice A na ca, .slice B nb cb]] w fun e w' => e = .returned (.tuple #[.agg #[.slice A na ca, .slice B nb cb], .int .i64 0]) ∧ Keep NoB w w' := by
  have bx := (Blk.new w 57 #[.slice A na ca, .slice B nb cb]).alloc (.cells #[.slice none 0 0, .slice none 0 0] 57)
  have bz := Blk.new (w.alloc (.cells #[.slice A na ca, .slice B nb cb] 57)) 57 #[.slice none 0 0, .slice none 0 0]
  rw [World.size_alloc] at bz
  have k0 := ((Keep.refl NoB w).alloc (.cells #[.slice A na ca, .slice B nb cb] 57)).alloc (.cells #[.slice none 0 0, .slice none 0 0] 57)
  have HC := Lib.hid (fun w ha hr => chkG_any A a na ca B r nb cb w ha hr hna hnb hn6 hm6 0 (chkG_ok ho))
  go_enter Tryz.func180, Tryz.ntmps180
  go_wp2_with fail
  refine (HC.out _ (ha.keepN k0) (hr.keepN k0)).mono ?_
  rintro e w2 ⟨rfl, k1⟩
  have bz2 := bz.keep k1 id
  obtain ⟨x0, x1⟩ := blk2 (bx.keep k1 id)
  obtain ⟨z0, z1⟩ := blk2 bz2
  have fz := fun i => bz2.frozen i
  have gK := keepN k0 k1
  have HBZ := Lib.hid (fun u v => blk_put2 bz2 u v)
  clear bx bz k0 k1 ha hr HC bz2
  go_wp2
  refine bodyPost_ret (ret_sig rfl rfl (HBZ.out _ _) rfl) rfl ?_
  exact ⟨rfl, keep_put2 gK (by omega) _ _⟩

theorem unpackI_at (w : World) (br : Nat) (Ob : Nat → Prop) (l : List UInt8) (p most : Nat) (M : Int) (hM : M = (most : Int)) (hm : most ≤ 64) (h : V.ReelAt w br Ob l p) (hlen : l.length ≤ 140737488355328) :
    Calls Tryz.prog 179 #[.pointer (some ⟨br, 0, none⟩), .int .i64 M] w (UnpR w br (fun w' q => V.ReelAt w' br Ob l q) (rdT l p most)) := by
  subst hM; exact unpackI_any w br Ob l p most hm h hlen

set_option maxRecDepth 100000 in
set_option maxHeartbeats 4000000 in
theorem decodeG_any (w : World) (br : Nat) (Ob : Nat → Prop) (l : List UInt8) (p : Nat) (hO : ∀ k, Ob k → k < w.heap.size) (h : V.ReelAt w br Ob l p) (hlen : l.length ≤ 140737488355328) :
    Calls Tryz.prog 135 #[.pointer (some ⟨br, 0, none⟩)] w (SigR w br (fun w' q => V.ReelAt w' br Ob l q) (decG l p)) := by
  have hbr := reel_lt h
  have bz := Blk.new w 57 #[.slice none 0 0, .slice none 0 0]
  have k0 := (Keep.refl NoB w).alloc (.cells #[.slice none 0 0, .slice none 0 0] 57)
  have h0 := h.keep k0 (fun _ _ => id)
  have HU := Lib.hid (unpackI_any _ br Ob l p 64 (by omega) h0 hlen)
  have HOb : Hid (∀ k, Ob k → ¬ (k = w.heap.size)) := fun k hk e => by have := hO k hk; omega
  clear h h0
  cases hR : rdT l p 64 with
  | none =>
    have HD := Lib.hid (decGm_1 hR)
    rw [hR] at HU
    go_enter Tryz.func135, Tryz.ntmps135
    go_wp2_with fail
    refine HU.out.mono ?_
    rintro e w1 ⟨v, q, rfl, hO1, h1, _, k1⟩
    have bz1 := bz.keep k1 (fun e => by omega)
    obtain ⟨z0, z1⟩ := blk2 bz1
    have fz := fun i => bz1.frozen i
    have HBZ := Lib.hid (fun u v => blk_put2 bz1 u v)
    have gK := (k0.mono (O' := fun k => k = br) (fun _ hf _ => hf.elim)).trans k1 (fun _ h _ => h)
    clear bz bz1 k0 k1 hO1
    go_wp2
    refine bodyPost_ret (ret_sig rfl rfl (HBZ.out _ _) rfl) rfl ?_
    exact sig_none HD.out (h1.keep (keep_at2 w1 w.heap.size _ _) HOb.out) (keep_put2 gK (Nat.le_refl _) _ _)
  | some x =>
    obtain ⟨xs, qx⟩ := x
    obtain ⟨hk, hml, _⟩ := rdT_ok hR
    rw [hR] at HU
    cases hR2 : rdT l qx (64 - xs.length) with
    | none =>
      have HD := Lib.hid (decGm_2 hR hR2)
      obtain ⟨na, hna⟩ : ∃ na, xs.length = na := ⟨_, rfl⟩
      have HN := Lib.hid hna
      rw [hna] at hml
      have HU2 := Lib.hid (fun (w : World) (M : Int) (hM : M = ((64 - na : Nat) : Int)) (h : V.ReelAt w br Ob l qx) => (by have := unpackI_at w br Ob l qx (64 - na) M hM (by omega) h hlen; rw [← hna, hR2] at this; exact this : Calls Tryz.prog 179 #[.pointer (some ⟨br, 0, none⟩), .int .i64 M] w (UnpR w br (fun w' q => V.ReelAt w' br Ob l q) none)))
      clear hR hR2 hk hna
      go_enter Tryz.func135, Tryz.ntmps135
      go_wp2_with fail
      refine HU.out.mono ?_
      rintro e w1 ⟨v, q, rfl, hO1, h1, hq1, k1⟩
      obtain rfl : q = qx := hq1 _ rfl
      have bz1 := bz.keep k1 (fun e => by omega)
      dsimp only [optL] at hO1
      rw [HN.out] at hO1
      obtain ⟨A1, c1, rfl, r1⟩ := own_rdI hO1
      have gK := (k0.mono (O' := fun k => k = br) (fun _ hf _ => hf.elim)).trans k1 (fun _ h _ => h)
      clear bz k0 hq1 hO1
      go_wp2_with fail
      refine (HU2.out _ _ (by omega) h1).mono ?_
      rintro e w2 ⟨v2, q2, rfl, hO2, h2, _, k2⟩
      have bz2 := bz1.keep k2 (fun e => by omega)
      obtain ⟨z0, z1⟩ := blk2 bz2
      have fz := fun i => bz2.frozen i
      have HBZ := Lib.hid (fun u v => blk_put2 bz2 u v)
      replace gK := keep_bb gK k2
      clear bz1 bz2 k2 k1 hO2
      go_wp2
      refine bodyPost_ret (ret_sig rfl rfl (HBZ.out _ _) rfl) rfl ?_
      exact sig_none HD.out (h2.keep (keep_at2 w2 w.heap.size _ _) HOb.out) (keep_put2 gK (Nat.le_refl _) _ _)
    | some y =>
      obtain ⟨ys, qy⟩ := y
      obtain ⟨hk2, hml2, _⟩ := rdT_ok hR2
      obtain ⟨na, hna⟩ : ∃ na, xs.length = na := ⟨_, rfl⟩
      obtain ⟨nb, hnb⟩ : ∃ nb, ys.length = nb := ⟨_, rfl⟩
      have HN := Lib.hid hna
      have HM := Lib.hid hnb
      rw [hna] at hml
      rw [hnb, hna] at hml2
      have HU2 := Lib.hid (fun (w : World) (M : Int) (hM : M = ((64 - na : Nat) : Int)) (h : V.ReelAt w br Ob l qx) => (by have := unpackI_at w br Ob l qx (64 - na) M hM (by omega) h hlen; rw [← hna, hR2] at this; exact this : Calls Tryz.prog 179 #[.pointer (some ⟨br, 0, none⟩), .int .i64 M] w (UnpR w br (fun w' q => V.ReelAt w' br Ob l q) (some (ys, qy)))))
      have HI : Hid ((okG xs ys = false → decG l p = none ∧ ∀ (A : Option Addr) (ca : Nat) (B : Option Addr) (cb : Nat) (w : World), Rd w A (ivs xs) → Rd w B (ivs ys) → Calls Tryz.prog 180 #[.agg #[.slice A na ca, .slice B nb cb]] w fun e w' => e = .returned (.tuple #[.agg #[.slice none 0 0, .slice none 0 0], .int .i64 61]) ∧ Keep NoB w w') ∧
        (okG xs ys = true → decG l p = some ((xs, ys), qy) ∧ ∀ (A : Option Addr) (ca : Nat) (B : Option Addr) (cb : Nat) (w : World), Rd w A (ivs xs) → Rd w B (ivs ys) → Calls Tryz.prog 180 #[.agg #[.slice A na ca, .slice B nb cb]] w fun e w' => e = .returned (.tuple #[.agg #[.slice A na ca, .slice B nb cb], .int .i64 0]) ∧ Keep NoB w w')) :=
        ⟨fun ho => ⟨decGm_3 hR hR2 ho, fun A ca B cb w ha hr => ifG_no A xs na ca B ys nb cb w ha hr hna hnb (by omega) (by omega) ho⟩, fun ho => ⟨decGm_4 hR hR2 ho, fun A ca B cb w ha hr => ifG_yes A xs na ca B ys nb cb w ha hr hna hnb (by omega) (by omega) ho⟩⟩
      have HO1 : Hid (w.heap.size < (w.alloc (.cells #[.slice none 0 0, .slice none 0 0] 57)).heap.size) := by show _ < _; simp
      clear hR hR2 hk hk2 hna hnb
      go_enter Tryz.func135, Tryz.ntmps135
      go_wp2_with fail
      refine HU.out.mono ?_
      rintro e w1 ⟨v, q, rfl, hO1, h1, hq1, k1⟩
      obtain rfl : q = qx := hq1 _ rfl
      have bz1 := bz.keep k1 (fun e => by omega)
      dsimp only [optL] at hO1
      rw [HN.out] at hO1
      have gK := (k0.mono (O' := fun k => k = br) (fun _ hf _ => hf.elim)).trans k1 (fun _ h _ => h)
      replace hO1 := hO1.mono (O' := fun k => w.heap.size < k) (fun k hf _ => by have := HO1.out; unfold Fresh at hf; omega)
      obtain ⟨A1, c1, rfl, r1⟩ := own_rdI hO1
      have hs1 : w.heap.size < w1.heap.size := bz1.lt
      clear bz k0 hq1 r1 k1 HO1
      go_wp2_with fail
      refine (HU2.out _ _ (by omega) h1).mono ?_
      rintro e w2 ⟨v2, q2, rfl, hO2, h2, hq2, k2⟩
      obtain rfl : q2 = qy := hq2 _ rfl
      have bz2 := bz1.keep k2 (fun e => by omega)
      dsimp only [optL] at hO2
      rw [HM.out] at hO2
      replace hO2 := hO2.mono (O' := fun k => w.heap.size < k) (fun k hf _ => by unfold Fresh at hf; omega)
      replace hO1 := hO1.keep k2 (fun k hk e => by omega)
      replace gK := keep_bb gK k2
      obtain ⟨A2, c2, rfl, r2⟩ := own_rdI hO2
      have r1 : Rd w2 A1 (ivs xs) := by
        obtain ⟨A', c', e, hr⟩ := own_rdI hO1
        cases e; exact hr
      clear bz1 hq2 k2 h1 HU HU2
      cases ho : okG xs ys
      · obtain ⟨hD, hI⟩ := HI.out.1 ho
        have HD := Lib.hid hD
        have HI2 := Lib.hid hI
        clear hD hI HI ho hO1 hO2
        go_wp2_with fail
        refine (HI2.out _ _ _ _ _ r1 r2).mono ?_
        rintro e w3 ⟨rfl, k3⟩
        have bz3 := bz2.keep k3 id
        obtain ⟨z0, z1⟩ := blk2 bz3
        have fz := fun i => bz3.frozen i
        have HBZ := Lib.hid (fun u v => blk_put2 bz3 u v)
        have h3 := h2.keep k3 (fun _ _ => id)
        replace gK := keep_nb gK k3
        clear bz2 bz3 k3 r1 r2 h2 HI2
        go_wp2
        refine bodyPost_ret (ret_sig rfl rfl (HBZ.out _ _) rfl) rfl ?_
        exact sig_none HD.out (h3.keep (keep_at2 w3 w.heap.size _ _) HOb.out) (keep_put2 gK (Nat.le_refl _) _ _)
      · obtain ⟨hD, hI⟩ := HI.out.2 ho
        have HD := Lib.hid hD
        have HI2 := Lib.hid hI
        clear hD hI HI ho
        go_wp2_with fail
        refine (HI2.out _ _ _ _ _ r1 r2).mono ?_
        rintro e w3 ⟨rfl, k3⟩
        have bz3 := bz2.keep k3 id
        obtain ⟨z0, z1⟩ := blk2 bz3
        have fz := fun i => bz3.frozen i
        have HBZ := Lib.hid (fun u v => blk_put2 bz3 u v)
        have h3 := h2.keep k3 (fun _ _ => id)
        have HP1 := Lib.hid (own_put2 (hO1.keepN k3) (Nat.le_refl _) (.slice A1 na c1) (.slice A2 nb c2))
        have HP2 := Lib.hid (own_put2 (hO2.keepN k3) (Nat.le_refl _) (.slice A1 na c1) (.slice A2 nb c2))
        replace gK := keep_nb gK k3
        clear bz2 bz3 k3 r1 r2 h2 HI2 hO1 hO2
        go_wp2
        refine bodyPost_ret (ret_sig rfl rfl (HBZ.out _ _) rfl) rfl ?_
        rw [HD.out]
        refine ⟨_, _, q2, rfl, ?_, ?_, h3.keep (keep_at2 w3 w.heap.size _ _) HOb.out, fun y hy => (by injection hy with hy; rw [← hy]), keep_put2 gK (Nat.le_refl _) _ _⟩
        · show Own _ _ _ _ _ xs.length (ivs xs)
          rw [HN.out]; exact HP1.out
        · show Own _ _ _ _ _ ys.length (ivs ys)
          rw [HM.out]; exact HP2.out

end Go.Proofs.YtgifflfjhockaaaGreatDoor.S

namespace Go.Proofs.YtgifflfjhockaaaGreatDoor.F
open Go.RowKit W

/-- What decodeName answers; At is where the Reel stands. -/
def NmG (At : World → Nat → Prop) (R : Option (List UInt8 × Nat)) (S : ByteArray) (E : Int) (w' : World) : Prop :=
  (R = none ∧ E ≠ 0 ∧ ∃ q, At w' q) ∨ (∃ s q, R = some (s, q) ∧ E = 0 ∧ S.data.toList = s ∧ At w' q)
theorem nmR_1 {l : List UInt8} {p n d r : Nat} (h : V.bnd (V.nx (l.drop p)) 32 = (n, d, r)) (hr : r ≠ 0) : nmR l p = none := by unfold nmR; rw [h]; exact if_pos hr
theorem nmR_2 {l : List UInt8} {p n d : Nat} (h : V.bnd (V.nx (l.drop p)) 32 = (n, d, 0)) (hs : l.length < p + d + n) : nmR l p = none := by
  unfold nmR; rw [h]; dsimp only; rw [if_neg (by simp), if_pos hs]
theorem nmR_3 {l : List UInt8} {p n d : Nat} (h : V.bnd (V.nx (l.drop p)) 32 = (n, d, 0)) (hs : ¬ l.length < p + d + n) : nmR l p = some ((l.drop (p + d)).take n, p + d + n) := by
  unfold nmR; rw [h]; dsimp only; rw [if_neg (by simp), if_neg hs]

set_option maxRecDepth 100000 in
set_option maxHeartbeats 2000000 in
theorem decName_any (w : World) (br : Nat) (Ob : Nat → Prop) (l : List UInt8) (p : Nat) (h : V.ReelAt w br Ob l p) (hlen : l.length ≤ 140737488355328) :
    Calls Tryz.prog 133 #[.pointer (some ⟨br, 0, none⟩)] w fun e w' => ∃ x E, e = .returned (.tuple #[.string x, .int .i64 E]) ∧ NmG (fun w' q => V.ReelAt w' br Ob l q) (nmR l p) x E w' ∧ Keep (fun k => k = br) w w' := by
  have HB := Lib.hid (V.rbytes_any w br Ob l p 32 h hlen (by omega) (by omega))
  rw [show (max (32 : Int) 0).toNat = 32 from rfl] at HB
  have hx := V.bnd_width (l.drop p) 32
  have hp := h.2.1
  rw [List.length_drop] at hx
  have hb0 : ∃ b, V.bnd (V.nx (l.drop p)) 32 = b := ⟨_, rfl⟩
  obtain ⟨⟨n, d, r⟩, hb⟩ := hb0
  rw [hb] at HB hx
  dsimp only at hx
  have HN := Lib.hid hb
  clear hb
  have c0 : ∀ w, (convert 26 9 (.slice none 0 0)).run Tryz.prog w = .ok (.string (V.str [])) w := fun w => V.conv_rd (l := []) (c := 0) (fun h => absurd h (by simp))
  go_enter Tryz.func133, Tryz.ntmps133
  go_wp2_with fail
  refine HB.out.mono ?_
  rintro e w1 (⟨hr, rfl, h1, k1⟩ | ⟨hr, (⟨hs, rfl, h1, k1⟩ | ⟨hs, A, c, rfl, hO, h1, k1⟩)⟩)
  · have H1 := Lib.hid h1
    have HE := Lib.hid (show ((r : Int)) ≠ 0 by dsimp only at hr; omega)
    have HM := Lib.hid (nmR_1 HN.out hr)
    clear hx hp hr h1
    dsimp only
    go_wp2
    go_ret2
    exact ⟨_, _, rfl, .inl ⟨HM.out, HE.out, p, H1.out⟩, k1.mono (fun _ hf _ => hf.elim)⟩
  · dsimp only at hr hs
    subst hr
    have H1 := Lib.hid h1
    have HM := Lib.hid (nmR_2 HN.out (by omega))
    clear hx hp hs h1
    go_wp2
    go_ret2
    exact ⟨_, _, rfl, .inl ⟨HM.out, by decide, p, H1.out⟩, k1.mono (fun _ hf _ => hf.elim)⟩
  · dsimp only at hr hs hO h1
    subst hr
    rw [Int.toNat_natCast] at hO h1 ⊢
    have hns : ¬ l.length < p + d + n := by omega
    have HM := nmR_3 HN.out hns
    have hxl : ((l.drop (p + d)).take n).length = n := by rw [List.length_take, List.length_drop]; omega
    generalize (l.drop (p + d)).take n = xs at hO HM hxl
    obtain ⟨A', c', e, hr', _⟩ := S.own_rd hO
    injection e with e1 e2 e3
    subst e1 e3
    have cv : (convert 26 9 (.slice A n c)).run Tryz.prog w1 = .ok (.string (V.str xs)) w1 := by rw [← hxl]; exact V.conv_rd hr'
    have H1 := Lib.hid h1
    have HM := Lib.hid HM
    clear hx hp hs h1 hO hr' e2 hxl hns c0
    go_wp2
    go_ret2
    exact ⟨_, _, rfl, .inr ⟨xs, _, HM.out, rfl, rfl, H1.out⟩, k1⟩

/-- What decodeLocals answers. -/
def LcG (w : World) (At : World → Nat → Prop) (R : Option (List Int × Nat)) (A : Option Addr) (n c : Nat) (E : Int) (w' : World) : Prop :=
  (R = none ∧ E ≠ 0 ∧ ∃ q, At w' q) ∨ (∃ a q, R = some (a, q) ∧ E = 0 ∧ Own w' 3 1 (Fresh w) (.slice A n c) n (ivs a) ∧ a.length = n ∧ At w' q)
theorem lcR_1 {l : List UInt8} {p : Nat} (h : S.decG l p = none) : lcR l p = none := by unfold lcR; rw [h]
theorem lcR_2 {l : List UInt8} {p q : Nat} {a r : List Int} (h : S.decG l p = some ((a, r), q)) (hr : r ≠ []) : lcR l p = none := by unfold lcR; rw [h]; exact if_neg hr
theorem lcR_3 {l : List UInt8} {p q : Nat} {a : List Int} (h : S.decG l p = some ((a, []), q)) : lcR l p = some (a, q) := by unfold lcR; rw [h]; exact if_pos rfl
theorem own_len {w : World} {O : Nat → Prop} {v : Value} {l : List Int} {n : Nat} (h : Own w 3 1 O v n (ivs l)) : l.length = n := by have := h.1.1; simpa using this

set_option maxRecDepth 100000 in
set_option maxHeartbeats 2000000 in
theorem decLoc_any (w : World) (br : Nat) (Ob : Nat → Prop) (l : List UInt8) (p : Nat) (hO : ∀ k, Ob k → k < w.heap.size) (h : V.ReelAt w br Ob l p) (hlen : l.length ≤ 140737488355328) :
    Calls Tryz.prog 137 #[.pointer (some ⟨br, 0, none⟩)] w fun e w' => ∃ A n c E, e = .returned (.tuple #[.slice A n c, .int .i64 E]) ∧ LcG w (fun w' q => V.ReelAt w' br Ob l q) (lcR l p) A n c E w' ∧ Keep (fun k => k = br) w w' := by
  have HD := Lib.hid (S.decodeG_any w br Ob l p hO h hlen)
  have HH : Hid (∀ k, Ob k → k < w.heap.size) := hO
  clear h
  cases hg : S.decG l p with
  | none =>
    rw [hg] at HD
    have HM := Lib.hid (lcR_1 hg)
    clear hg hO
    go_enter Tryz.func137, Tryz.ntmps137
    go_wp2_with fail
    refine HD.out.mono ?_
    rintro e w1 ⟨v1, v2, q, rfl, hO1, hO2, h1, _, k1⟩
    obtain ⟨A1, c1, rfl, _⟩ := hO1.form
    obtain ⟨A2, c2, rfl, _⟩ := hO2.form
    dsimp only [S.optA, S.optB, S.optF, List.length_nil]
    have ka := (Keep.refl NoB w1).alloc (.cells #[.slice A1 0 c1, .slice A2 0 c2] 57)
    have H1 := Lib.hid (h1.keep ka (fun _ _ => id))
    have HK := Lib.hid (k1.trans ka (fun _ hf _ => hf.elim))
    clear hO1 hO2 h1 k1 ka
    go_wp2
    go_ret2
    exact ⟨_, _, _, _, rfl, .inl ⟨HM.out, by decide, q, H1.out⟩, HK.out⟩
  | some x =>
    obtain ⟨⟨a, r⟩, qx⟩ := x
    rw [hg] at HD
    by_cases hr : r = []
    · subst hr
      have HM := Lib.hid (lcR_3 hg)
      clear hg hO
      go_enter Tryz.func137, Tryz.ntmps137
      go_wp2_with fail
      refine HD.out.mono ?_
      rintro e w1 ⟨v1, v2, q, rfl, hO1, hO2, h1, hq, k1⟩
      obtain rfl := hq _ rfl
      dsimp only [S.optA, S.optB, S.optF, List.length_nil] at hO1 hO2 ⊢
      obtain ⟨A1, c1, rfl, _⟩ := hO1.form
      obtain ⟨A2, c2, rfl, _⟩ := hO2.form
      have ka := (Keep.refl NoB w1).alloc (.cells #[.slice A1 a.length c1, .slice A2 0 c2] 57)
      have H1 := Lib.hid (h1.keep ka (fun _ _ => id))
      have HK := Lib.hid (k1.trans ka (fun _ hf _ => hf.elim))
      have HO := Lib.hid (hO1.keepN ka)
      clear hO1 hO2 h1 k1 ka
      go_wp2
      go_ret2
      exact ⟨_, _, _, _, rfl, .inr ⟨a, _, HM.out, rfl, HO.out, rfl, H1.out⟩, HK.out⟩
    · have hl : 0 < r.length := List.length_pos_iff.2 hr
      have HM := Lib.hid (lcR_2 hg hr)
      clear hg hO hr
      go_enter Tryz.func137, Tryz.ntmps137
      go_wp2_with fail
      refine HD.out.mono ?_
      rintro e w1 ⟨v1, v2, q, rfl, hO1, hO2, h1, hq, k1⟩
      dsimp only [S.optA, S.optB, S.optF] at hO1 hO2 ⊢
      obtain ⟨A1, c1, rfl, _⟩ := hO1.form
      obtain ⟨A2, c2, rfl, _⟩ := hO2.form
      have ka := (Keep.refl NoB w1).alloc (.cells #[.slice A1 a.length c1, .slice A2 r.length c2] 57)
      have H1 := Lib.hid (h1.keep ka (fun _ _ => id))
      have HK := Lib.hid (k1.trans ka (fun _ hf _ => hf.elim))
      clear hO1 hO2 h1 k1 ka hq
      have hlb : decide ((0 : Int) < (r.length : Int)) = true := by rw [decide_eq_true_iff]; omega
      go_wp2
      go_ret2
      exact ⟨_, _, _, _, rfl, .inl ⟨HM.out, by decide, q, H1.out⟩, HK.out⟩

end Go.Proofs.YtgifflfjhockaaaGreatDoor.F

namespace Go.Proofs.YtgifflfjhockaaaGreatDoor.F
open Go.RowKit W

theorem letB_yes {c : UInt8} (h : (97 ≤ c.toNat ∧ c.toNat ≤ 122) ∨ (65 ≤ c.toNat ∧ c.toNat ≤ 90)) : letB c = true := (letB_iff c).2 h
theorem letB_no {c : UInt8} (h : ¬ ((97 ≤ c.toNat ∧ c.toNat ≤ 122) ∨ (65 ≤ c.toNat ∧ c.toNat ≤ 90))) : letB c = false := by
  cases hb : letB c
  · rfl
  · exact absurd ((letB_iff c).1 hb) h
theorem digB_yes {c : UInt8} (h : 48 ≤ c.toNat ∧ c.toNat ≤ 57) : digB c = true := (digB_iff c).2 h
theorem digB_no {c : UInt8} (h : ¬ (48 ≤ c.toNat ∧ c.toNat ≤ 57)) : digB c = false := by
  cases hb : digB c
  · rfl
  · exact absurd ((digB_iff c).1 hb) h

set_option maxRecDepth 100000 in
set_option maxHeartbeats 2000000 in
theorem letter_any (c : UInt8) (w : World) : Calls Tryz.prog 162 #[.int .u8 (c.toNat : Int)] w fun e w' => e = .returned (.bool (letB c)) ∧ w = w' := by
  have hc : c.toNat < 256 := UInt8.toNat_lt _
  have HY : Hid ((97 ≤ c.toNat ∧ c.toNat ≤ 122) ∨ (65 ≤ c.toNat ∧ c.toNat ≤ 90) → letB c = true) := letB_yes
  have HN : Hid (¬ ((97 ≤ c.toNat ∧ c.toNat ≤ 122) ∨ (65 ≤ c.toNat ∧ c.toNat ≤ 90)) → letB c = false) := letB_no
  generalize letB c = R at HY HN
  generalize c.toNat = n at hc HY HN
  by_cases h0 : n < 65
  · skip
    obtain rfl : false = R := (HN.out (by omega)).symm
    clear HY HN
    go_enter Tryz.func162, Tryz.ntmps162
    go_wp2
    go_ret
    exact ⟨ret_bool (by first | rfl | (simp; done) | (simp; omega)), rfl⟩
  by_cases h1 : n ≤ 90
  · skip
    obtain rfl : true = R := (HY.out (by omega)).symm
    clear HY HN
    go_enter Tryz.func162, Tryz.ntmps162
    go_wp2
    go_ret
    exact ⟨ret_bool (by first | rfl | (simp; done) | (simp; omega)), rfl⟩
  by_cases h2 : n < 97
  · skip
    obtain rfl : false = R := (HN.out (by omega)).symm
    clear HY HN
    go_enter Tryz.func162, Tryz.ntmps162
    go_wp2
    go_ret
    exact ⟨ret_bool (by first | rfl | (simp; done) | (simp; omega)), rfl⟩
  by_cases h3 : n ≤ 122
  · skip
    obtain rfl : true = R := (HY.out (by omega)).symm
    clear HY HN
    go_enter Tryz.func162, Tryz.ntmps162
    go_wp2
    go_ret
    exact ⟨ret_bool (by first | rfl | (simp; done) | (simp; omega)), rfl⟩
  obtain rfl : false = R := (HN.out (by omega)).symm
  clear HY HN
  go_enter Tryz.func162, Tryz.ntmps162
  go_wp2
  go_ret
  exact ⟨ret_bool (by first | rfl | (simp; done) | (simp; omega)), rfl⟩

set_option maxRecDepth 100000 in
set_option maxHeartbeats 2000000 in
theorem digit_any (c : UInt8) (w : World) : Calls Tryz.prog 163 #[.int .u8 (c.toNat : Int)] w fun e w' => e = .returned (.bool (digB c)) ∧ w = w' := by
  have hc : c.toNat < 256 := UInt8.toNat_lt _
  have HY : Hid (48 ≤ c.toNat ∧ c.toNat ≤ 57 → digB c = true) := digB_yes
  have HN : Hid (¬ (48 ≤ c.toNat ∧ c.toNat ≤ 57) → digB c = false) := digB_no
  generalize digB c = R at HY HN
  generalize c.toNat = n at hc HY HN
  by_cases h0 : n < 48
  · skip
    obtain rfl : false = R := (HN.out (by omega)).symm
    clear HY HN
    go_enter Tryz.func163, Tryz.ntmps163
    go_wp2
    go_ret
    exact ⟨ret_bool (by first | rfl | (simp; done) | (simp; omega)), rfl⟩
  by_cases h1 : n ≤ 57
  · skip
    obtain rfl : true = R := (HY.out (by omega)).symm
    clear HY HN
    go_enter Tryz.func163, Tryz.ntmps163
    go_wp2
    go_ret
    exact ⟨ret_bool (by first | rfl | (simp; done) | (simp; omega)), rfl⟩
  obtain rfl : false = R := (HN.out (by omega)).symm
  clear HY HN
  go_enter Tryz.func163, Tryz.ntmps163
  go_wp2
  go_ret
  exact ⟨ret_bool (by first | rfl | (simp; done) | (simp; omega)), rfl⟩

theorem low_tab : ∀ n : Fin 256, (n.val ≤ 64 → ¬ ((97 ≤ n.val ∧ n.val ≤ 122) ∨ (65 ≤ n.val ∧ n.val ≤ 90))) ∧ (64 < n.val → ((97 ≤ n.val ∧ n.val ≤ 122) ∨ (65 ≤ n.val ∧ n.val ≤ 90) ↔ 97 ≤ (n.val ||| 32) ∧ (n.val ||| 32) ≤ 122)) := by decide +kernel

set_option maxRecDepth 100000 in
set_option maxHeartbeats 2000000 in
theorem rletter_any (c : UInt8) (w : World) : Calls Tryz.prog 149 #[.int .u8 (c.toNat : Int)] w fun e w' => e = .returned (.bool (letB c)) ∧ w = w' := by
  have hc : c.toNat < 256 := UInt8.toNat_lt _
  have HY : Hid ((97 ≤ c.toNat ∧ c.toNat ≤ 122) ∨ (65 ≤ c.toNat ∧ c.toNat ≤ 90) → letB c = true) := letB_yes
  have HN : Hid (¬ ((97 ≤ c.toNat ∧ c.toNat ≤ 122) ∨ (65 ≤ c.toNat ∧ c.toNat ≤ 90)) → letB c = false) := letB_no
  have HT : Hid ((c.toNat ≤ 64 → ¬ ((97 ≤ c.toNat ∧ c.toNat ≤ 122) ∨ (65 ≤ c.toNat ∧ c.toNat ≤ 90))) ∧ (64 < c.toNat → ((97 ≤ c.toNat ∧ c.toNat ≤ 122) ∨ (65 ≤ c.toNat ∧ c.toNat ≤ 90) ↔ 97 ≤ (c.toNat ||| 32) ∧ (c.toNat ||| 32) ≤ 122))) := low_tab ⟨c.toNat, hc⟩
  have hor := u8_or_nat c.toNat 32 hc (by omega)
  generalize letB c = R at HY HN
  generalize c.toNat = n at hc HY HN HT hor
  simp only [show ((32 : Nat) : Int) = 32 from rfl] at hor
  by_cases h0 : n ≤ 64
  · skip
    obtain rfl : false = R := (HN.out (HT.out.1 h0)).symm
    clear HY HN HT hor
    obtain ⟨m, hm⟩ : ∃ m : Int, bits .or .u8 (n : Int) 32 = m := ⟨_, rfl⟩
    go_enter Tryz.func149, Tryz.ntmps149
    go_wp2
    go_ret
    exact ⟨ret_bool (by first | rfl | (simp; done) | (simp; omega)), rfl⟩
  have hiff := HT.out.2 (by omega)
  clear HT
  obtain ⟨m, hm⟩ : ∃ m, n ||| 32 = m := ⟨_, rfl⟩
  rw [hm] at hor hiff
  clear hm
  by_cases k0 : m < 97
  · skip
    obtain rfl : false = R := (HN.out (fun h => by have := hiff.1 h; omega)).symm
    clear HY HN hiff
    go_enter Tryz.func149, Tryz.ntmps149
    go_wp2
    go_ret
    exact ⟨ret_bool (by first | rfl | (simp; done) | (simp; omega)), rfl⟩
  by_cases k1 : m ≤ 122
  · skip
    obtain rfl : true = R := (HY.out (hiff.2 (by omega))).symm
    clear HY HN hiff
    go_enter Tryz.func149, Tryz.ntmps149
    go_wp2
    go_ret
    exact ⟨ret_bool (by first | rfl | (simp; done) | (simp; omega)), rfl⟩
  obtain rfl : false = R := (HN.out (fun h => by have := hiff.1 h; omega)).symm
  clear HY HN hiff
  go_enter Tryz.func149, Tryz.ntmps149
  go_wp2
  go_ret
  exact ⟨ret_bool (by first | rfl | (simp; done) | (simp; omega)), rfl⟩

theorem in_step {l : List UInt8} {k : Nat} (hk : k < l.length) (h : (l.take k).all inB = true) (h2 : inB l[k] = true) : (l.take (k + 1)).all inB = true := by
  rw [List.take_succ_eq_append_getElem hk, List.all_append, h]; simp [h2]
theorem in_no {l : List UInt8} {k : Nat} (hk : k < l.length) (h2 : inB l[k] = false) : l.all inB = false := by
  cases h : l.all inB
  · rfl
  · rw [List.all_eq_true.1 h _ (List.getElem_mem hk)] at h2; cases h2
theorem str_at {S : ByteArray} {s : List UInt8} (hs : S.data.toList = s) {k : Nat} (hk : k < S.size) (hk2 : k < s.length) : S[k] = s[k] := by subst hs; rfl

set_option maxRecDepth 100000 in
set_option maxHeartbeats 4000000 in
theorem named_any (S : ByteArray) (s : List UInt8) (w : World) (hs : Hid (S.data.toList = s)) (hm : S.size ≤ 9223372036854775807) (R : Int) (hR : Hid (chkN s = R)) :
    Calls Tryz.prog 120 #[.string S] w fun e w' => e = .returned (.int .i64 R) ∧ w = w' := by
  have HZ : Hid (S.size = s.length) := sz_len hs.out
  have HL := Lib.hid (fun (c : UInt8) (w : World) => letter_any c w)
  have HD := Lib.hid (fun (c : UInt8) (w : World) => digit_any c w)
  by_cases h0 : S.size = 0
  · obtain rfl : 71 = R := by rw [← hR.out]; exact (chkN_no (by rw [List.length_eq_zero_iff.1 (HZ.out.symm.trans h0)]; rfl)).symm
    clear hR
    go_enter Tryz.func120, Tryz.ntmps120
    go_wp2
    go_ret
    exact ⟨rfl, rfl⟩
  have hq0 : ((S.size : Int) == 0) = false := by rw [beq_eq_false_iff_ne]; omega
  by_cases h1 : 32 < S.size
  · obtain rfl : 71 = R := by rw [← hR.out]; exact (chkN_no (okN_long (by rw [← HZ.out]; omega))).symm
    clear hR
    go_enter Tryz.func120, Tryz.ntmps120
    go_wp2
    go_ret
    exact ⟨rfl, rfl⟩
  have hp : 0 < S.size := by omega
  have HH : Hid (headB s = letB (S[0]'hp)) := by show _ = _; rw [str_at hs.out hp (by rw [← HZ.out]; omega)]; exact headB_at _
  cases hh : letB (S[0]'hp)
  · obtain rfl : 71 = R := by rw [← hR.out]; exact (chkN_no (okN_head (HH.out.trans hh))).symm
    have HC := Lib.hid (fun w => HL.out (S[0]'hp) w)
    rw [hh] at HC
    clear hR HH hh
    go_enter Tryz.func120, Tryz.ntmps120
    go_wp2_with (go_at_call 162; refine (HC.out _).mono ?_; rintro e w1 ⟨rfl, rfl⟩)
    go_ret
    exact ⟨rfl, rfl⟩
  have HHT := Lib.hid (HH.out.trans hh)
  have HC := Lib.hid (fun w => HL.out (S[0]'hp) w)
  rw [hh] at HC
  clear HH hh
  go_enter Tryz.func120, Tryz.ntmps120
  go_wp2_with (go_at_call 162; refine (HC.out _).mono ?_; rintro e w1 ⟨rfl, rfl⟩)
  clear HC
  go_loop [20] (fun i => ∃ k : Nat, k ≤ S.size ∧ i = .int .i64 k ∧ Hid ((s.take k).all inB = true)) (fun i => S.size - (intOf i).toNat)
  case atStart => exact ⟨0, Nat.zero_le _, rfl, rfl⟩
  case round =>
    obtain ⟨k, hk, rfl, ht⟩ := hrel
    by_cases hlt : k < S.size
    · have hks : k < s.length := by rw [← HZ.out]; exact hlt
      have HE := Lib.hid (str_at hs.out hlt hks)
      have HA := Lib.hid (fun w => HL.out (S[k]'hlt) w)
      have HB := Lib.hid (fun w => HD.out (S[k]'hlt) w)
      have HI : Hid (inB s[k] = (letB (S[k]'hlt) || digB (S[k]'hlt))) := by show _ = _; rw [HE.out]; rfl
      have HT := Lib.hid (fun h => in_step hks ht.out h)
      have HN := Lib.hid (fun h => in_no hks h)
      cases hl : letB (S[k]'hlt)
      · rw [hl] at HA HI
        cases hd : digB (S[k]'hlt)
        · rw [hd] at HB HI
          obtain rfl : 71 = R := by rw [← hR.out]; exact (chkN_no (okN_in (HN.out HI.out))).symm
          clear hR HT HN HI HE hl hd HHT ht
          go_wp2_with (first | (go_at_call 162; refine (HA.out _).mono ?_; rintro e w2 ⟨rfl, rfl⟩) | (go_at_call 163; refine (HB.out _).mono ?_; rintro e w2 ⟨rfl, rfl⟩))
          go_ret
          exact ⟨rfl, rfl⟩
        · rw [hd] at HB HI
          have HV := Lib.hid (HT.out HI.out)
          clear HT HN HI HE hl hd
          go_wp2_with (first | (go_at_call 162; refine (HA.out _).mono ?_; rintro e w2 ⟨rfl, rfl⟩) | (go_at_call 163; refine (HB.out _).mono ?_; rintro e w2 ⟨rfl, rfl⟩))
          go_round
          case rel => exact ⟨k + 1, by omega, by go_num, HV⟩
          case measure => simp [intOf]; omega
      · rw [hl] at HA HI
        have HV := Lib.hid (HT.out (by rw [HI.out]; rfl))
        clear HT HN HI HE hl HB
        go_wp2_with (go_at_call 162; refine (HA.out _).mono ?_; rintro e w2 ⟨rfl, rfl⟩)
        go_round
        case rel => exact ⟨k + 1, by omega, by go_num, HV⟩
        case measure => simp [intOf]; omega
    · obtain rfl : 0 = R := by
        rw [← hR.out]
        have e1 := ht.out
        rw [List.take_of_length_le (by rw [← HZ.out]; omega)] at e1
        exact (chkN_ok ((okN_iff s).2 ⟨by rw [← HZ.out]; omega, HHT.out, e1⟩)).symm
      clear hR HHT
      go_wp2
      go_ret
      exact ⟨rfl, rfl⟩

end Go.Proofs.YtgifflfjhockaaaGreatDoor.F

namespace Go.Proofs.YtgifflfjhockaaaGreatDoor.F
open Go.RowKit

/-- A function value, with what it has captured. -/
def askV (g : Nat) (caps : Array Value) : Value := .func (.func g) #[] caps

set_option maxRecDepth 100000 in
set_option maxHeartbeats 2000000 in
theorem every_any (A : Option Addr) (qs : List (Nat × Array Value)) (n c : Nat) (w : World) (hn : Hid (qs.length = n)) (hm : n ≤ 1000) (bs : Nat → Bool) (I : Nat → World → Prop) (J : World → Prop)
    (hcf : Hid (∀ q ∈ qs, ∀ args w, (callFunc q.1 args).run Tryz.prog w = .ok (.enter q.1 args) w))
    (hr : Hid (∀ i W, I i W → Rd W A (qs.map fun q => askV q.1 q.2)))
    (hq : Hid (∀ i (h : i < qs.length) W, I i W → Calls Tryz.prog qs[i].1 qs[i].2 W fun e W' => e = .returned (.bool (bs i)) ∧ (bs i = true → I (i + 1) W') ∧ (bs i = false → J W')))
    (h0 : I 0 w) :
    Calls Tryz.prog 116 #[.slice A n c] w fun e w' => (e = .returned (.bool true) ∧ (∀ i, i < n → bs i = true) ∧ I n w') ∨ (e = .returned (.bool false) ∧ (∃ i, i < n ∧ bs i = false) ∧ J w') := by
  go_enter Tryz.func116, Tryz.ntmps116
  go_wp2
  go_loopw [7] (fun i wr => ∃ k : Nat, k ≤ n ∧ i = .int .i64 k ∧ Hid (∀ j, j < k → bs j = true) ∧ Hid (I k wr)) (fun i _ => n - (intOf i).toNat)
  case atStart => exact ⟨0, Nat.zero_le _, rfl, fun j h => absurd h (by omega), h0⟩
  case round =>
    obtain ⟨k, hk, rfl, ht, hI⟩ := hrel
    clear h0
    by_cases hlt : k < n
    · have hkq : k < qs.length := by rw [hn.out]; exact hlt
      obtain ⟨g0, off, rfl, hc⟩ := hr.out k _ hI.out (by simp; omega)
      have ck := hc k (askV qs[k].1 qs[k].2) (by simp [hkq])
      have hg := hcf.out qs[k] (List.getElem_mem hkq)
      have HQ := Lib.hid (hq.out k hkq _ hI.out)
      clear hc
      generalize qs[k] = q at ck hg HQ
      obtain ⟨g, caps⟩ := q
      dsimp only [askV] at ck hg HQ
      obtain ⟨b, hb⟩ : ∃ b, bs k = b := ⟨_, rfl⟩
      have HB := Lib.hid hb
      rw [hb] at HQ
      clear hb hI
      go_wp2_with fail
      refine HQ.out.mono ?_
      rintro e w1 ⟨rfl, hy, hno⟩
      have HY := Lib.hid hy
      have HNO := Lib.hid hno
      clear hy hno
      cases b
      · go_wp2
        go_ret
        exact .inr ⟨rfl, ⟨k, hlt, HB.out⟩, HNO.out trivial⟩
      · go_wp2
        go_roundw
        case rel => exact ⟨k + 1, by omega, by go_num, fun j hj => (by
          rcases Nat.lt_succ_iff_lt_or_eq.1 hj with h | rfl
          · exact ht.out j h
          · exact HB.out), HY.out trivial⟩
        case measure => simp [intOf]; omega
    · obtain rfl : k = n := by omega
      go_wp2
      go_ret
      exact .inl ⟨rfl, ht.out, hI.out⟩

end Go.Proofs.YtgifflfjhockaaaGreatDoor.F
