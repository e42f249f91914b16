/-
  Part 7 of the proofs of GAsksRow: what is laid, and what the functions that the law runs answer. Conditions: each theorem names its own.
-/
import Derived.IntWalk
import Derived.LaidLaws
import Derived.LaidMore
import Derived.Lib.AppendIntMem
import Derived.Lib.SmallJoins
import Derived.OpenShut
import Derived.Test.YtghdibbooegocaaGreatDoorQB6
namespace Go.Proofs.YtghdibbooegocaaGreatDoor.C
open Go.RowKit O

theorem goes_gen (op a b tgt : Int) (t : Bool) (w : World) (h1 : goesN op a b = tgt) (h2 : goesI op a b = t) :
  Calls Tryz.prog 45 #[instV op a b] w fun e w' => e = .returned (.tuple #[.int .i64 tgt, .bool t]) ∧ Keep NoB w w' := by subst h1 h2; exact goes_any op a b w
theorem ends_gen (op a b : Int) (t : Bool) (w : World) (h : endsI op a b = t) :
  Calls Tryz.prog 44 #[instV op a b] w fun e w' => e = .returned (.bool t) ∧ Keep NoB w w' := by subst h; exact ends_any op a b w
theorem chk_gen (op a b c : Int) (w : World) (h : chk op a b = c) :
  Calls Tryz.prog 46 #[instV op a b] w fun e w' => e = .returned (.int .i64 c) ∧ Keep NoB w w' := by subst h; exact check_any op a b w
theorem blk3 {w : World} {g : Nat} {t : TypeId} {a0 a1 a2 : Value} (h : Blk w g t #[a0, a1, a2]) : w.cell? ⟨g, 0, none⟩ = some a0 ∧ w.cell? ⟨g, 1, none⟩ = some a1 ∧ w.cell? ⟨g, 2, none⟩ = some a2 := ⟨h.cell 0, h.cell 1, h.cell 2⟩

set_option maxRecDepth 100000 in
set_option maxHeartbeats 4000000 in
theorem cchk_any (A : Option Addr) (l : List I3) (n c : Nat) (w : World) (hr : Rd w A (iis l)) (hn : Hid (l.length = n)) (hm : n ≤ 9223372036854775807) (R : Int) (hR : Hid (chkB l = R)) :
  Calls Tryz.prog 27 #[.slice A n c] w fun e w' => e = .returned (.int .i64 R) ∧ Keep NoB w w' := by
 by_cases h0 : n = 0
 ·subst h0
  obtain rfl : 50 = R := by rw [← hR.out, List.length_eq_zero_iff.1 hn.out]; rfl
  go_enter Tryz.func27, Tryz.ntmps27
  go_wp2
  go_ret
  exact ⟨rfl, Keep.refl _ _⟩
 have hz : ((n : Int) == 0) = false := by rw [beq_eq_false_iff_ne]; omega
 by_cases h5 : 512 < n
 ·obtain rfl : 50 = R := by rw [← hR.out, chkB_no (okB_long (by rw [hn.out]; omega))]
  have hq : decide ((512 : Int) < (n : Int)) = true := by rw [decide_eq_true_iff]; omega
  clear h5 h0
  go_enter Tryz.func27, Tryz.ntmps27
  go_wp2
  go_ret
  exact ⟨rfl, Keep.refl _ _⟩
 have hq : decide ((512 : Int) < (n : Int)) = false := by rw [decide_eq_false_iff_not]; omega
 obtain ⟨m, rfl⟩ : ∃ m, n = m + 1 := ⟨n - 1, by omega⟩
 have hz2 : ((m : Int) + 1 == 0) = false := by rw [beq_eq_false_iff_ne]; omega
 have hq2 : decide ((512 : Int) < (m : Int) + 1) = false := by rw [decide_eq_false_iff_not]; omega
 have hl0 : 0 < l.length := by rw [hn.out]; omega
 obtain ⟨g, off, rfl, hc⟩ := rdJ_at hr hl0
 have hml : m < l.length := by rw [hn.out]; omega
 obtain ⟨c0, c1, c2⟩ := hc m hml
 have HC := Lib.hid hc
 have hlast : Hid (lastB l = eB l[m]) := by
  show _ = _
  rw [lastB_at hl0]
  congr 2
  rw [hn.out]; omega
 clear hc hr h0 h5 hl0
 generalize l[m] = x at c0 c1 c2 hlast
 obtain ⟨op, a, b⟩ := x
 dsimp only at c0 c1 c2
 cases he : endsI op a b
 ·obtain rfl : 50 = R := by rw [← hR.out, chkB_no (okB_last (by rw [hlast.out]; exact he))]
  have HE := Lib.hid (fun w => ends_gen op a b _ w he)
  clear he hlast HC hR
  go_enter Tryz.func27, Tryz.ntmps27
  go_wp2_with (go_at_call 44; refine (HE.out _).mono ?_; rintro e w1 ⟨rfl, k1⟩)
  go_ret
  exact ⟨rfl, k1⟩
 have HL : Hid (lastB l = true) := by show _ = _; rw [hlast.out]; exact he
 have HE := Lib.hid (fun w => ends_gen op a b _ w he)
 clear he hlast
 go_enter Tryz.func27, Tryz.ntmps27
 go_wp2_with (go_at_call 44; refine (HE.out _).mono ?_; rintro e w1 ⟨rfl, k1⟩)
 clear c0 c1 c2 HE hml
 go_loopw [27] (fun i wr => ∃ k : Nat, k ≤ m + 1 ∧ i = .int .i64 k ∧ Hid ((l.take k).all (itemB (m + 1)) = true) ∧ Keep NoB w wr) (fun i _ => m + 1 - (intOf i).toNat)
 case atStart => exact ⟨0, Nat.zero_le _, rfl, rfl, k1⟩
 case round =>
  obtain ⟨k, hk, rfl, hall, hK⟩ := hrel
  by_cases hlt : k < m + 1
  ·have hkl : k < l.length := by rw [hn.out]; exact hlt
   obtain ⟨d0, d1, d2⟩ := HC.out k hkl
   have c0 := hK.cell d0 id
   have c1 := hK.cell d1 id
   have c2 := hK.cell d2 id
   have HT := Lib.hid (show l.take (k + 1) = l.take k ++ [l[k]] from List.take_succ_eq_append_getElem hkl)
   have HN : Hid (itemB l.length l[k] = false → 50 = R) := fun h => by rw [← hR.out, chkB_no (okB_item (all_no hkl h))]
   rw [hn.out] at HN
   clear d0 d1 d2
   generalize l[k] = x at c0 c1 c2 HT HN
   obtain ⟨op, a, b⟩ := x
   dsimp only at c0 c1 c2
   obtain ⟨tgt, hto⟩ : ∃ tgt, goesN op a b = tgt := ⟨_, rfl⟩
   have hb : 0 ≤ tgt ∧ tgt ≤ 511 := by rw [← hto]; exact gN_in (op, a, b)
   have HG := Lib.hid (fun w => goes_gen op a b tgt _ w hto rfl)
   have bx := Blk.new wr 45 #[.int .i64 op, .int .i64 a, .int .i64 b]
   have gK := hK.alloc (.cells #[.int .i64 op, .int .i64 a, .int .i64 b] 45)
   cases ho : okI op a b
   ·obtain rfl := HN.out (item_no1 ho)
    have HO := Lib.hid (fun w => chk_gen op a b 40 w (by unfold chk; rw [ho]; rfl))
    clear ho hto HN HT HL hall hK hR
    go_wp2_with fail
    refine (HG.out _).mono ?_
    rintro e w2 ⟨rfl, k2⟩
    replace bx := bx.keep k2 id
    replace gK := keepN gK k2
    obtain ⟨x0, x1, x2⟩ := blk3 bx
    go_wp2_with (go_at_call 46; refine (HO.out _).mono ?_; rintro e w3 ⟨rfl, k3⟩)
    go_ret
    exact ⟨rfl, keepN gK k3⟩
   have HO := Lib.hid (fun w => chk_gen op a b 0 w (by unfold chk; rw [ho]; rfl))
   by_cases ht : tgt < ((m + 1 : Nat) : Int)
   ·have ht2 : ¬ ((m : Int) + 1 ≤ tgt) := by omega
    have ha2 : Hid ((l.take (k + 1)).all (itemB (m + 1)) = true) := by
     show _ = _
     rw [HT.out, List.all_append, hall.out]
     simp only [List.all_cons, List.all_nil, Bool.and_true, Bool.true_and]
     exact item_yes ho (by show goesN op a b < _; rw [hto]; exact ht)
    clear ho hto HN HT HL hall hK hR ht
    go_wp2_with fail
    refine (HG.out _).mono ?_
    rintro e w2 ⟨rfl, k2⟩
    replace bx := bx.keep k2 id
    replace gK := keepN gK k2
    obtain ⟨x0, x1, x2⟩ := blk3 bx
    go_wp2_with (go_at_call 46; refine (HO.out _).mono ?_; rintro e w3 ⟨rfl, k3⟩)
    go_roundw
    case rel => exact ⟨k + 1, by omega, by go_num, ha2, keepN gK k3⟩
    case measure => simp [intOf]; omega
   ·obtain rfl := HN.out (item_no2 (by show ¬ goesN op a b < _; rw [hto]; exact ht))
    have ht2 : ((m : Int) + 1 ≤ tgt) := by omega
    clear ho hto HN HT HL hall hK hR ht
    go_wp2_with fail
    refine (HG.out _).mono ?_
    rintro e w2 ⟨rfl, k2⟩
    replace bx := bx.keep k2 id
    replace gK := keepN gK k2
    obtain ⟨x0, x1, x2⟩ := blk3 bx
    go_wp2_with (go_at_call 46; refine (HO.out _).mono ?_; rintro e w3 ⟨rfl, k3⟩)
    go_ret
    exact ⟨rfl, keepN gK k3⟩
  ·obtain rfl : 0 = R := by
    rw [← hR.out, chkB_ok (okB_mk (by rw [hn.out]; have := decide_eq_false_iff_not.1 hq; omega) HL.out ?_)]
    have := hall.out
    rw [List.take_of_length_le (by rw [hn.out]; omega)] at this
    rw [hn.out]; exact this
   clear HC hR
   go_wp2
   go_ret
   exact ⟨rfl, hK⟩

end Go.Proofs.YtghdibbooegocaaGreatDoor.C

namespace Go.Proofs.YtghdibbooegocaaGreatDoor.C
open Go.RowKit O

end Go.Proofs.YtghdibbooegocaaGreatDoor.C

namespace Go.Proofs.YtghdibbooegocaaGreatDoor.O
open Go.RowKit

theorem pr_ii {a b a' b' : Int} (h1 : a = a') (h2 : b = b') : Ending.returned (.tuple #[.int .i64 a, .int .i64 b]) = .returned (.tuple #[.int .i64 a', .int .i64 b']) := by rw [h1, h2]

set_option maxRecDepth 100000 in
set_option maxHeartbeats 4000000 in
theorem rkinds_any (op : Int) (w : World) :
  Calls Tryz.prog 62 #[.int .i64 op] w fun e w' => e = .returned (.tuple #[.int .i64 (rowAt op).ka, .int .i64 (rowAt op).kb]) ∧ w = w' := by
 cases ho : isOp op
 ·have hn := isOp_no ho
  rw [rowAt_no ho]
  have h : ∀ k : Int, 0 ≤ k → k < 30 → (op == k) = false := fun k h0 h1 => by rw [beq_eq_false_iff_ne]; intro e; exact hn ⟨by omega, by omega⟩
  have a1 := h 1 (by decide) (by decide); have a2 := h 2 (by decide) (by decide); have a3 := h 3 (by decide) (by decide); have a4 := h 4 (by decide) (by decide)
  have a5 := h 5 (by decide) (by decide); have a8 := h 8 (by decide) (by decide); have a9 := h 9 (by decide) (by decide); have a10 := h 10 (by decide) (by decide)
  have a11 := h 11 (by decide) (by decide); have a15 := h 15 (by decide) (by decide); have a16 := h 16 (by decide) (by decide); have a17 := h 17 (by decide) (by decide)
  have a18 := h 18 (by decide) (by decide); have a19 := h 19 (by decide) (by decide); have a20 := h 20 (by decide) (by decide); have a21 := h 21 (by decide) (by decide)
  have a22 := h 22 (by decide) (by decide); have a23 := h 23 (by decide) (by decide)
  clear h hn ho
  go_enter Tryz.func62, Tryz.ntmps62
  go_wp2
  go_ret2
  exact ⟨pr_ii rfl rfl, rfl⟩
 ·have hb := isOp_yes ho
  clear ho
  have hc : op = 0 ∨ op = 1 ∨ op = 2 ∨ op = 3 ∨ op = 4 ∨ op = 5 ∨ op = 6 ∨ op = 7 ∨ op = 8 ∨ op = 9 ∨ op = 10 ∨ op = 11 ∨ op = 12 ∨ op = 13 ∨ op = 14 ∨ op = 15 ∨ op = 16 ∨ op = 17 ∨ op = 18 ∨ op = 19 ∨ op = 20 ∨ op = 21 ∨ op = 22 ∨ op = 23 ∨ op = 24 ∨ op = 25 ∨ op = 26 ∨ op = 27 ∨ op = 28 ∨ op = 29 := by omega
  clear hb
  rcases hc with rfl | rfl | rfl | rfl | rfl | rfl | rfl | rfl | rfl | rfl | rfl | rfl | rfl | rfl | rfl | rfl | rfl | rfl | rfl | rfl | rfl | rfl | rfl | rfl | rfl | rfl | rfl | rfl | rfl | rfl
  all_goals
   go_enter Tryz.func62, Tryz.ntmps62
   go_wp2
   go_ret2
   exact ⟨pr_ii rfl rfl, rfl⟩

set_option maxHeartbeats 1000000 in
theorem rleast_any (k : Int) (w : World) (h0 : 0 ≤ k) (h1 : k ≤ 10) (h2 : k ≠ 1) :
  Calls Tryz.prog 83 #[.int .i64 k] w fun e w' => e = .returned (.int .i64 (lo k)) ∧ w = w' := by
 have hc : k = 0 ∨ k = 2 ∨ k = 3 ∨ k = 4 ∨ k = 5 ∨ k = 6 ∨ k = 7 ∨ k = 8 ∨ k = 9 ∨ k = 10 := by omega
 clear h0 h1 h2
 rcases hc with rfl | rfl | rfl | rfl | rfl | rfl | rfl | rfl | rfl | rfl
 all_goals
  go_enter Tryz.func83, Tryz.ntmps83
  go_wp2
  go_ret
  exact ⟨rfl, rfl⟩

set_option maxHeartbeats 1000000 in
theorem rmost_any (k : Int) (w : World) (h0 : 0 ≤ k) (h1 : k ≤ 10) (h2 : k ≠ 1) :
  Calls Tryz.prog 84 #[.int .i64 k] w fun e w' => e = .returned (.int .i64 (hi k)) ∧ Keep NoB w w' := by
 have hc : k = 0 ∨ k = 2 ∨ k = 3 ∨ k = 4 ∨ k = 5 ∨ k = 6 ∨ k = 7 ∨ k = 8 ∨ k = 9 ∨ k = 10 := by omega
 clear h0 h1 h2
 rcases hc with rfl | rfl | rfl | rfl | rfl | rfl | rfl | rfl | rfl | rfl
 all_goals
  go_enter Tryz.func84, Tryz.ntmps84
  go_wp2
  go_ret
  exact ⟨rfl, (Keep.refl NoB w).alloc _⟩

end Go.Proofs.YtghdibbooegocaaGreatDoor.O

namespace Go.Proofs.YtghdibbooegocaaGreatDoor.W
open Go.RowKit

def chk (t n : Int) : Int := if okB t n = true then 0 else 21
/-! ### Zero, Nil -/

end Go.Proofs.YtghdibbooegocaaGreatDoor.W

namespace Go.Proofs.YtghdibbooegocaaGreatDoor.W
open Go.RowKit

/-! ### great -/

end Go.Proofs.YtghdibbooegocaaGreatDoor.W

namespace Go.Proofs.YtghdibbooegocaaGreatDoor.W
open Go.RowKit

set_option maxRecDepth 100000 in
set_option maxHeartbeats 2000000 in
theorem ints_any (A B : Option Addr) (la lb : List Int) (n m c d : Nat) (w : World) (ha : Rd w A (ivs la)) (hb : Rd w B (ivs lb)) (hn : Hid (la.length = n)) (hm : Hid (lb.length = m))
  (h1 : n ≤ 9223372036854775807) (h2 : m ≤ 9223372036854775807) (R : Bool) (hR : Hid (R = decide (la = lb))) :
  Calls Tryz.prog 16 #[.slice A n c, .slice B m d] w fun e w' => e = .returned (.bool R) ∧ Keep NoB w w' := by
 by_cases hnm : n = m
 ·subst hnm
  go_enter Tryz.func16, Tryz.ntmps16
  go_wp2
  go_loopw [5] (fun i wr => ∃ k : Nat, k ≤ n ∧ i = .int .i64 k ∧ Hid (la.take k = lb.take k) ∧ Keep NoB w wr) (fun i _ => n - (intOf i).toNat)
  case atStart => exact ⟨0, Nat.zero_le _, rfl, rfl, Keep.refl _ _⟩
  case round =>
   obtain ⟨k, hk, rfl, ht, hK⟩ := hrel
   by_cases hlt : k < n
   ·have hka : k < la.length := by rw [hn.out]; exact hlt
    have hkb : k < lb.length := by rw [hm.out]; exact hlt
    obtain ⟨ga, oa, rfl, hca⟩ := rdI_at ha (by omega)
    obtain ⟨gb, ob, rfl, hcb⟩ := rdI_at hb (by omega)
    have ca := hK.cell (hca k hka) id
    have cb := hK.cell (hcb k hkb) id
    have HT := Lib.hid (show la.take (k + 1) = la.take k ++ [la[k]] from List.take_succ_eq_append_getElem hka)
    have HU := Lib.hid (show lb.take (k + 1) = lb.take k ++ [lb[k]] from List.take_succ_eq_append_getElem hkb)
    clear hca hcb
    by_cases he : la[k] = lb[k]
    ·have HV : Hid (la.take (k + 1) = lb.take (k + 1)) := by show _ = _; rw [HT.out, HU.out, ht.out, he]
     rw [he] at ca
     clear he HT HU ha hb
     generalize lb[k] = y at ca cb
     go_wp2
     go_quiet (fail)
     go_wp2
     go_roundw
     case rel => exact ⟨k + 1, by omega, by go_num, HV, hK.drewN _⟩
     case measure => simp [intOf]; omega
    ·have hf : R = false := by
      rw [hR.out, decide_eq_false_iff_not]
      intro e
      exact he (by simp [e])
     subst hf
     clear HT HU ha hb
     generalize la[k] = x at ca he
     generalize lb[k] = y at cb he
     have hne : (x != y) = true := by rw [bne_iff_ne]; exact he
     clear he
     go_wp2
     go_quiet (fail)
     go_wp2
     go_ret
     exact ⟨rfl, hK.drewN _⟩
   ·have hf : R = true := by
     rw [hR.out, decide_eq_true_iff]
     have e1 := ht.out
     rwa [List.take_of_length_le (by rw [hn.out]; omega), List.take_of_length_le (by rw [hm.out]; omega)] at e1
    subst hf
    go_wp2
    go_ret
    exact ⟨rfl, hK⟩
 ·have hf : R = false := by
   rw [hR.out, decide_eq_false_iff_not]
   intro e
   exact hnm (by rw [← hn.out, ← hm.out, e])
  subst hf
  have hne : ((n : Int) != (m : Int)) = true := by rw [bne_iff_ne]; omega
  clear hnm
  go_enter Tryz.func16, Tryz.ntmps16
  go_wp2
  go_ret
  exact ⟨rfl, Keep.refl _ _⟩

end Go.Proofs.YtghdibbooegocaaGreatDoor.W

namespace Go.Proofs.YtghdibbooegocaaGreatDoor.W
open Go.RowKit

theorem rd_new (w : World) (E : TypeId) (cs : Array Value) : Rd (w.alloc (.cells cs E)) (some ⟨w.heap.size, 0, none⟩) cs.toList := fun _ =>
 ⟨_, _, rfl, fun j u hu => by rw [Nat.zero_add, (Blk.new w E cs).cell j]; simpa using hu⟩

theorem own_after {w W W' : World} {E size n : Nat} {v v' : Value} {xs : List Value} (ho : ∀ g, v.ownBlock = some g → Fresh w g) (hK : Keep NoB w W) (hg : W.grownBy W' v.ownBlock)
  (hv : v'.ownBlock = v.ownBlock ∨ v'.ownBlock = some W.heap.size) (hrow : W'.ownsRow 0 E size v' n xs) : Own W' E size (Fresh w) v' n xs ∧ Keep NoB w W' := by
 refine ⟨⟨hrow, fun g e => ?_⟩, hK.grown hg (fun g e h => by have := ho g e; unfold Fresh at this; omega)⟩
 rcases hv with h | h
 ·exact ho g (h ▸ e)
 ·rw [h] at e; cases e; exact hK.size

theorem rd_made {w : World} {E : TypeId} {cs : Array Value} {b : Nat} {xs : List Value} (hb : b = w.heap.size) (hx : xs = cs.toList) : Rd (w.alloc (.cells cs E)) (some ⟨b, 0, none⟩) xs := by
 subst hb hx; exact rd_new w E cs

def zs (l : List Int) : List (Int × Int) := l.map fun t => (t, 0)

def ts (x : List (Int × Int)) : List Int := x.map (·.1)

end Go.Proofs.YtghdibbooegocaaGreatDoor.W

namespace Go.Proofs.YtghdibbooegocaaGreatDoor.W
open Go.RowKit

end Go.Proofs.YtghdibbooegocaaGreatDoor.W

namespace Go.Proofs.YtghdibbooegocaaGreatDoor.W
open Go.RowKit

end Go.Proofs.YtghdibbooegocaaGreatDoor.W

namespace Go.Proofs.YtghdibbooegocaaGreatDoor.W
open Go.RowKit

end Go.Proofs.YtghdibbooegocaaGreatDoor.W

namespace Go.Proofs.YtghdibbooegocaaGreatDoor.A
open Go.ChangeShapes Go.WideShapes Go.ChangeAt Go.RowKit

end Go.Proofs.YtghdibbooegocaaGreatDoor.A

namespace Go.Proofs.YtghdibbooegocaaGreatDoor.A
open Go.RowKit

end Go.Proofs.YtghdibbooegocaaGreatDoor.A

namespace Go.Proofs.YtghdibbooegocaaGreatDoor.O
open Go.RowKit

def I64 (n : Int) : Prop := -9223372036854775808 ≤ n ∧ n ≤ 9223372036854775807

end Go.Proofs.YtghdibbooegocaaGreatDoor.O

namespace Go.Proofs.YtghdibbooegocaaGreatDoor.O
open Go.RowKit

set_option maxHeartbeats 1000000 in
theorem rin_any (k n : Int) (p : Bool) (w : World) (hp : Hid (inK k n = p)) (h0 : 0 ≤ k) (h1 : k ≤ 10) (hI : I64 n) :
  Calls Tryz.prog 63 #[.int .i64 k, .int .i64 n] w fun e w' => e = .returned (.bool p) ∧ Keep NoB w w' := by
 by_cases hk : k = 1
 ·subst hk
  have : p = true := by
   rw [← hp.out]
   exact decide_eq_true hI
  subst this
  clear hp h0 h1 hI
  go_enter Tryz.func63, Tryz.ntmps63
  go_wp2
  go_ret
  exact ⟨rfl, Keep.refl _ _⟩
 ·have hq : (k == 1) = false := by rw [beq_eq_false_iff_ne]; exact hk
  have HL := Lib.hid (fun w => rleast_any k w h0 h1 hk)
  have HM := Lib.hid (fun w => rmost_any k w h0 h1 hk)
  have hd : Hid (decide (lo k ≤ n ∧ n ≤ hi k) = p) := hp
  clear hp h0 h1 hk hI
  generalize lo k = L at HL hd
  generalize hi k = M at HM hd
  cases d1 : decide (L ≤ n)
  ·have : p = false := by rw [← hd.out]; exact decide_eq_false fun h => of_decide_eq_false d1 h.1
   subst this
   clear hd
   go_enter Tryz.func63, Tryz.ntmps63
   go_wp2_with fail
   refine (HL.out _).mono ?_
   rintro e w1 ⟨rfl, rfl⟩
   go_wp2
   go_ret
   exact ⟨rfl, Keep.refl _ _⟩
  ·cases d2 : decide (n ≤ M)
   ·have : p = false := by rw [← hd.out]; exact decide_eq_false fun h => of_decide_eq_false d2 h.2
    subst this
    clear hd
    go_enter Tryz.func63, Tryz.ntmps63
    go_wp2_with fail
    refine (HL.out _).mono ?_
    rintro e w1 ⟨rfl, rfl⟩
    go_wp2_with fail
    refine (HM.out _).mono ?_
    rintro e w1 ⟨rfl, k1⟩
    go_wp2
    go_ret
    exact ⟨rfl, k1⟩
   ·have : p = true := by rw [← hd.out]; exact decide_eq_true ⟨of_decide_eq_true d1, of_decide_eq_true d2⟩
    subst this
    clear hd
    go_enter Tryz.func63, Tryz.ntmps63
    go_wp2_with fail
    refine (HL.out _).mono ?_
    rintro e w1 ⟨rfl, rfl⟩
    go_wp2_with fail
    refine (HM.out _).mono ?_
    rintro e w1 ⟨rfl, k1⟩
    go_wp2
    go_ret
    exact ⟨rfl, k1⟩

theorem blk_inst {w : World} {g : Nat} {t : TypeId} {a0 a1 a2 : Value} (h : Blk w g t #[a0, a1, a2]) : w.cell? ⟨g, 0, none⟩ = some a0 ∧ w.cell? ⟨g, 1, none⟩ = some a1 ∧ w.cell? ⟨g, 2, none⟩ = some a2 := ⟨h.cell 0, h.cell 1, h.cell 2⟩

set_option maxHeartbeats 2000000 in
theorem rcheck_any (op a b : Int) (w : World) (ha : I64 a) (hb : I64 b) :
  Calls Tryz.prog 48 #[instV op a b] w fun e w' => e = .returned (.int .i64 (chk op a b)) ∧ Keep NoB w w' := by
 obtain ⟨j0, j1, l0, l1⟩ := kinds_ok op
 obtain ⟨p, hp⟩ : ∃ p, Hid (inK (rowAt op).ka a = p) := ⟨_, rfl⟩
 obtain ⟨q, hq⟩ : ∃ q, Hid (inK (rowAt op).kb b = q) := ⟨_, rfl⟩
 have HA := Lib.hid (fun w => rin_any (rowAt op).ka a p w hp j0 j1 ha)
 have HB := Lib.hid (fun w => rin_any (rowAt op).kb b q w hq l0 l1 hb)
 have HK := Lib.hid (fun w => rkinds_any op w)
 have HX : Hid (chk op a b = if (isOp op && p && q) = true then 0 else 40) := by show _ = _; unfold chk okI; rw [hp.out, hq.out]
 clear j0 j1 l0 l1 hp hq ha hb
 generalize (rowAt op).ka = j at HA HK
 generalize (rowAt op).kb = l at HB HK
 generalize chk op a b = c at HX ⊢
 have bx0 := Blk.new w 45 #[.int .i64 op, .int .i64 a, .int .i64 b]
 have gK := (Keep.refl NoB w).alloc (.cells #[.int .i64 op, .int .i64 a, .int .i64 b] 45)
 go_enter Tryz.func48, Tryz.ntmps48
 go_wp2_with fail
 refine (HK.out _).mono ?_
 rintro e w1 ⟨rfl, rfl⟩
 go_wp2_with fail
 refine (HA.out _).mono ?_
 rintro e w2 ⟨rfl, k2⟩
 have bx := bx0.keep k2 id
 replace gK := keepN gK k2
 clear k2 bx0
 obtain ⟨x0, x1, x2⟩ := blk_inst bx
 go_wp2_with fail
 refine (HB.out _).mono ?_
 rintro e w3 ⟨rfl, k3⟩
 have bx3 := bx.keep k3 id
 replace gK := keepN gK k3
 clear k3 bx x0 x1 x2 HA HB HK
 obtain ⟨x0, x1, x2⟩ := blk_inst bx3
 cases ho : isOp op
 ·have hn := isOp_no ho
  have hc : c = 40 := by rw [HX.out, ho]; rfl
  subst hc
  by_cases h0 : op < 0
  ·have d0 : decide (op < 0) = true := by simpa using h0
   clear hn HX ho h0
   go_wp2
   go_ret
   exact ⟨rfl, gK⟩
  ·have d0 : decide (op < 0) = false := by simpa using h0
   have d1 : decide (30 ≤ op) = true := by rw [decide_eq_true_iff]; omega
   clear hn HX ho h0
   go_wp2
   go_ret
   exact ⟨rfl, gK⟩
 ·have hn := isOp_yes ho
  have d0 : decide (op < 0) = false := by rw [decide_eq_false_iff_not]; omega
  have d1 : decide (30 ≤ op) = false := by rw [decide_eq_false_iff_not]; omega
  cases p
  ·have hc : c = 40 := by rw [HX.out, ho]; rfl
   subst hc
   clear hn HX ho
   go_wp2
   go_ret
   exact ⟨rfl, gK⟩
  ·cases q
   ·have hc : c = 40 := by rw [HX.out, ho]; rfl
    subst hc
    clear hn HX ho
    go_wp2
    go_ret
    exact ⟨rfl, gK⟩
   ·have hc : c = 0 := by rw [HX.out, ho]; rfl
    subst hc
    clear hn HX ho
    go_wp2
    go_ret
    exact ⟨rfl, gK⟩

end Go.Proofs.YtghdibbooegocaaGreatDoor.O

namespace Go.Proofs.YtghdibbooegocaaGreatDoor.O
open Go.RowKit

theorem op_cases {op : Int} (h : isOp op = true) : op = 0 ∨ op = 1 ∨ op = 2 ∨ op = 3 ∨ op = 4 ∨ op = 5 ∨ op = 6 ∨ op = 7 ∨ op = 8 ∨ op = 9 ∨ op = 10 ∨ op = 11 ∨ op = 12 ∨ op = 13 ∨ op = 14 ∨ op = 15 ∨ op = 16 ∨ op = 17 ∨ op = 18 ∨ op = 19 ∨ op = 20 ∨ op = 21 ∨ op = 22 ∨ op = 23 ∨ op = 24 ∨ op = 25 ∨ op = 26 ∨ op = 27 ∨ op = 28 ∨ op = 29 := by
 have := isOp_yes h
 omega
theorem fin_at {op : Int} (h : isOp op = true) : (rowAt op).fin = ((op == 18) || ((op == 24) || ((op == 25) || (op == 27)))) := by
 rcases op_cases h with rfl | rfl | rfl | rfl | rfl | rfl | rfl | rfl | rfl | rfl | rfl | rfl | rfl | rfl | rfl | rfl | rfl | rfl | rfl | rfl | rfl | rfl | rfl | rfl | rfl | rfl | rfl | rfl | rfl | rfl <;> rfl
theorem ten_at {op : Int} (h : isOp op = true) : decide ((rowAt op).ka = 10) = ((op == 18) || (op == 19)) := by
 rcases op_cases h with rfl | rfl | rfl | rfl | rfl | rfl | rfl | rfl | rfl | rfl | rfl | rfl | rfl | rfl | rfl | rfl | rfl | rfl | rfl | rfl | rfl | rfl | rfl | rfl | rfl | rfl | rfl | rfl | rfl | rfl <;> rfl
theorem rcheck_gen (op a b c : Int) (w : World) (h : chk op a b = c) (ha : I64 a) (hb : I64 b) :
  Calls Tryz.prog 48 #[instV op a b] w fun e w' => e = .returned (.int .i64 c) ∧ Keep NoB w w' := by subst h; exact rcheck_any op a b w ha hb

set_option maxHeartbeats 2000000 in
theorem rends_any (op a b : Int) (w : World) (ha : I64 a) (hb : I64 b) :
  Calls Tryz.prog 49 #[instV op a b] w fun e w' => e = .returned (.bool (endsI op a b)) ∧ Keep NoB w w' := by
 have bx0 := Blk.new w 45 #[.int .i64 op, .int .i64 a, .int .i64 b]
 have gK := (Keep.refl NoB w).alloc (.cells #[.int .i64 op, .int .i64 a, .int .i64 b] 45)
 cases hok : okI op a b
 ·have HC := Lib.hid (fun w => rcheck_gen op a b 40 w (by unfold chk; rw [hok]; rfl) ha hb)
  have HX : Hid (endsI op a b = false) := by show _ = _; unfold endsI; rw [rowR_no hok]; rfl
  clear hok ha hb
  go_enter Tryz.func49, Tryz.ntmps49
  go_wp2_with fail
  refine (HC.out _).mono ?_
  rintro e w1 ⟨rfl, k1⟩
  go_wp2
  go_ret
  exact ⟨by rw [HX.out]; rfl, keepN gK k1⟩
 ·have HC := Lib.hid (fun w => rcheck_gen op a b 0 w (by unfold chk; rw [hok]; rfl) ha hb)
  have HX : Hid (endsI op a b = ((op == 18) || ((op == 24) || ((op == 25) || (op == 27))))) := by show _ = _; unfold endsI; rw [rowR_ok hok, fin_at (ok_op hok).1]
  clear hok ha hb
  cases e1 : op == 18
  ·cases e2 : op == 24
   ·cases e3 : op == 25
    ·cases e4 : op == 27
     ·rw [e1, e2, e3, e4] at HX
      go_enter Tryz.func49, Tryz.ntmps49
      go_wp2_with fail
      refine (HC.out _).mono ?_
      rintro e w1 ⟨rfl, k1⟩
      have bx := bx0.keep k1 id
      obtain ⟨x0, x1, x2⟩ := blk_inst bx
      go_wp2
      go_ret
      exact ⟨by rw [HX.out]; rfl, keepN gK k1⟩
     ·rw [e1, e2, e3, e4] at HX
      go_enter Tryz.func49, Tryz.ntmps49
      go_wp2_with fail
      refine (HC.out _).mono ?_
      rintro e w1 ⟨rfl, k1⟩
      have bx := bx0.keep k1 id
      obtain ⟨x0, x1, x2⟩ := blk_inst bx
      go_wp2
      go_ret
      exact ⟨by rw [HX.out]; rfl, keepN gK k1⟩
    ·rw [e1, e2, e3] at HX
     go_enter Tryz.func49, Tryz.ntmps49
     go_wp2_with fail
     refine (HC.out _).mono ?_
     rintro e w1 ⟨rfl, k1⟩
     have bx := bx0.keep k1 id
     obtain ⟨x0, x1, x2⟩ := blk_inst bx
     go_wp2
     go_ret
     exact ⟨by rw [HX.out]; rfl, keepN gK k1⟩
   ·rw [e1, e2] at HX
    go_enter Tryz.func49, Tryz.ntmps49
    go_wp2_with fail
    refine (HC.out _).mono ?_
    rintro e w1 ⟨rfl, k1⟩
    have bx := bx0.keep k1 id
    obtain ⟨x0, x1, x2⟩ := blk_inst bx
    go_wp2
    go_ret
    exact ⟨by rw [HX.out]; rfl, keepN gK k1⟩
  ·rw [e1] at HX
   go_enter Tryz.func49, Tryz.ntmps49
   go_wp2_with fail
   refine (HC.out _).mono ?_
   rintro e w1 ⟨rfl, k1⟩
   have bx := bx0.keep k1 id
   obtain ⟨x0, x1, x2⟩ := blk_inst bx
   go_wp2
   go_ret
   exact ⟨by rw [HX.out]; rfl, keepN gK k1⟩

set_option maxHeartbeats 2000000 in
theorem rgoes_any (op a b : Int) (w : World) (ha : I64 a) (hb : I64 b) :
  Calls Tryz.prog 47 #[instV op a b] w fun e w' => e = .returned (.tuple #[.int .i64 (goesN op a b), .bool (goesI op a b)]) ∧ Keep NoB w w' := by
 have bx0 := Blk.new w 45 #[.int .i64 op, .int .i64 a, .int .i64 b]
 have gK := (Keep.refl NoB w).alloc (.cells #[.int .i64 op, .int .i64 a, .int .i64 b] 45)
 cases hok : okI op a b
 ·have HC := Lib.hid (fun w => rcheck_gen op a b 40 w (by unfold chk; rw [hok]; rfl) ha hb)
  have h1 : goesI op a b = false := by unfold goesI; rw [rowR_no hok]; rfl
  have HX : Hid (goesN op a b = 0 ∧ goesI op a b = false) := ⟨by unfold goesN; rw [if_neg (by rw [h1]; decide)], h1⟩
  clear hok ha hb h1
  go_enter Tryz.func47, Tryz.ntmps47
  go_wp2_with fail
  refine (HC.out _).mono ?_
  rintro e w1 ⟨rfl, k1⟩
  go_wp2
  go_ret2
  exact ⟨pr2 HX.out.1.symm HX.out.2.symm, keepN gK k1⟩
 ·have HC := Lib.hid (fun w => rcheck_gen op a b 0 w (by unfold chk; rw [hok]; rfl) ha hb)
  have h0 : goesI op a b = ((op == 18) || (op == 19)) := by unfold goesI; rw [rowR_ok hok, ten_at (ok_op hok).1]
  clear hok ha hb
  by_cases u1 : op = 18
  ·have e1 : (op != 18) = false := by simp [u1]
   have h1 : goesI op a b = true := by rw [h0, u1]; rfl
   have HX : Hid (goesN op a b = a ∧ goesI op a b = true) := ⟨by unfold goesN; rw [if_pos h1], h1⟩
   clear h0 h1 u1
   go_enter Tryz.func47, Tryz.ntmps47
   go_wp2_with fail
   refine (HC.out _).mono ?_
   rintro e w1 ⟨rfl, k1⟩
   have bx := bx0.keep k1 id
   obtain ⟨x0, x1, x2⟩ := blk_inst bx
   go_wp2
   go_ret2
   exact ⟨pr2 HX.out.1.symm HX.out.2.symm, keepN gK k1⟩
  ·have e1 : (op != 18) = true := by simp [u1]
   by_cases u2 : op = 19
   ·have e2 : (op != 19) = false := by simp [u2]
    have h1 : goesI op a b = true := by rw [h0, u2]; rfl
    have HX : Hid (goesN op a b = a ∧ goesI op a b = true) := ⟨by unfold goesN; rw [if_pos h1], h1⟩
    clear h0 h1 u1 u2
    go_enter Tryz.func47, Tryz.ntmps47
    go_wp2_with fail
    refine (HC.out _).mono ?_
    rintro e w1 ⟨rfl, k1⟩
    have bx := bx0.keep k1 id
    obtain ⟨x0, x1, x2⟩ := blk_inst bx
    go_wp2
    go_ret2
    exact ⟨pr2 HX.out.1.symm HX.out.2.symm, keepN gK k1⟩
   ·have e2 : (op != 19) = true := by simp [u2]
    have h1 : goesI op a b = false := by rw [h0]; simp [u1, u2]
    have HX : Hid (goesN op a b = 0 ∧ goesI op a b = false) := ⟨by unfold goesN; rw [if_neg (by rw [h1]; decide)], h1⟩
    clear h0 h1 u1 u2
    go_enter Tryz.func47, Tryz.ntmps47
    go_wp2_with fail
    refine (HC.out _).mono ?_
    rintro e w1 ⟨rfl, k1⟩
    have bx := bx0.keep k1 id
    obtain ⟨x0, x1, x2⟩ := blk_inst bx
    go_wp2
    go_ret2
    exact ⟨pr2 HX.out.1.symm HX.out.2.symm, keepN gK k1⟩

end Go.Proofs.YtghdibbooegocaaGreatDoor.O

namespace Go.Proofs.YtghdibbooegocaaGreatDoor.C
open Go.RowKit O

theorem rgoes_gen (op a b tgt : Int) (t : Bool) (w : World) (h1 : goesN op a b = tgt) (h2 : goesI op a b = t) (ha : O.I64 a) (hb : O.I64 b) :
  Calls Tryz.prog 47 #[instV op a b] w fun e w' => e = .returned (.tuple #[.int .i64 tgt, .bool t]) ∧ Keep NoB w w' := by subst h1 h2; exact rgoes_any op a b w ha hb
theorem rends_gen (op a b : Int) (t : Bool) (w : World) (h : endsI op a b = t) (ha : O.I64 a) (hb : O.I64 b) :
  Calls Tryz.prog 49 #[instV op a b] w fun e w' => e = .returned (.bool t) ∧ Keep NoB w w' := by subst h; exact rends_any op a b w ha hb
def AllI (l : List I3) : Prop := ∀ x ∈ l, O.I64 x.2.1 ∧ O.I64 x.2.2

set_option maxRecDepth 100000 in
set_option maxHeartbeats 4000000 in
theorem rcchk_any (A : Option Addr) (l : List I3) (n c : Nat) (w : World) (hr : Rd w A (iis l)) (hn : Hid (l.length = n)) (hI : Hid (AllI l)) (hm : n ≤ 9223372036854775807) (R : Int) (hR : Hid (chkB l = R)) :
  Calls Tryz.prog 31 #[.slice A n c] w fun e w' => e = .returned (.int .i64 R) ∧ Keep NoB w w' := by
 by_cases h0 : n = 0
 ·subst h0
  obtain rfl : 50 = R := by rw [← hR.out, List.length_eq_zero_iff.1 hn.out]; rfl
  go_enter Tryz.func31, Tryz.ntmps31
  go_wp2
  go_ret
  exact ⟨rfl, Keep.refl _ _⟩
 by_cases h5 : 512 < n
 ·obtain rfl : 50 = R := by rw [← hR.out, chkB_no (okB_long (by rw [hn.out]; omega))]
  have hq : decide ((512 : Int) < (n : Int)) = true := by rw [decide_eq_true_iff]; omega
  have hz : decide ((n : Int) < 1) = false := by rw [decide_eq_false_iff_not]; omega
  clear h5 h0
  go_enter Tryz.func31, Tryz.ntmps31
  go_wp2
  go_ret
  exact ⟨rfl, Keep.refl _ _⟩
 obtain ⟨m, rfl⟩ : ∃ m, n = m + 1 := ⟨n - 1, by omega⟩
 have hz2 : decide ((m : Int) + 1 < 1) = false := by rw [decide_eq_false_iff_not]; omega
 have hq2 : decide ((512 : Int) < (m : Int) + 1) = false := by rw [decide_eq_false_iff_not]; omega
 have hm5 : m + 1 ≤ 512 := by omega
 have hl0 : 0 < l.length := by rw [hn.out]; omega
 obtain ⟨g, off, rfl, hc⟩ := rdJ_at hr hl0
 have HC := Lib.hid hc
 clear hc hr h0 h5
 go_enter Tryz.func31, Tryz.ntmps31
 go_wp2
 go_loopw [4] (fun i wr => ∃ k : Nat, k ≤ m + 1 ∧ i = .int .i64 k ∧ Hid ((l.take k).all (itemB (m + 1)) = true) ∧ Keep NoB w wr) (fun i _ => m + 1 - (intOf i).toNat)
 case atStart => exact ⟨0, Nat.zero_le _, rfl, rfl, Keep.refl _ _⟩
 case round =>
  obtain ⟨k, hk, rfl, hall, hK⟩ := hrel
  by_cases hlt : k < m + 1
  ·have hkl : k < l.length := by rw [hn.out]; exact hlt
   obtain ⟨d0, d1, d2⟩ := HC.out k hkl
   have c0 := hK.cell d0 id
   have c1 := hK.cell d1 id
   have c2 := hK.cell d2 id
   have HT := Lib.hid (show l.take (k + 1) = l.take k ++ [l[k]] from List.take_succ_eq_append_getElem hkl)
   have HN : Hid (itemB l.length l[k] = false → 50 = R) := fun h => by rw [← hR.out, chkB_no (okB_item (all_no hkl h))]
   have hab := hI.out l[k] (List.getElem_mem hkl)
   rw [hn.out] at HN
   generalize l[k] = x at d0 d1 d2 c0 c1 c2 HT HN hab
   obtain ⟨op, a, b⟩ := x
   dsimp only at d0 d1 d2 c0 c1 c2 hab
   have ha := Lib.hid hab.1
   have hb' := Lib.hid hab.2
   have HD : Hid (∀ w', Keep NoB w w' → w'.cell? ⟨g, off + k * 3, none⟩ = some (.int .i64 op) ∧ w'.cell? ⟨g, off + k * 3 + 1, none⟩ = some (.int .i64 a) ∧ w'.cell? ⟨g, off + k * 3 + 2, none⟩ = some (.int .i64 b)) := fun w' h => ⟨h.cell d0 id, h.cell d1 id, h.cell d2 id⟩
   obtain ⟨tgt, hto⟩ : ∃ tgt, goesN op a b = tgt := ⟨_, rfl⟩
   have hb : 0 ≤ tgt ∧ tgt ≤ 511 := by rw [← hto]; exact gN_in (op, a, b)
   obtain ⟨t, htt⟩ : ∃ t, goesI op a b = t := ⟨_, rfl⟩
   have HG := Lib.hid (fun w => rgoes_gen op a b tgt t w hto htt ha.out hb'.out)
   clear d0 d1 d2 hab
   cases ho : okI op a b
   ·obtain rfl := HN.out (item_no1 ho)
    have HO := Lib.hid (fun w => rcheck_gen op a b 40 w (by unfold chk; rw [ho]; rfl) ha.out hb'.out)
    clear ho hto HN HT hall hR htt
    go_wp2_with fail
    refine (HG.out _).mono ?_
    rintro e w2 ⟨rfl, k2⟩
    have gK := keepN hK k2
    obtain ⟨x0, x1, x2⟩ := HD.out _ gK
    clear c0 c1 c2
    go_wp2_with (go_at_call 48; refine (HO.out _).mono ?_; rintro e w3 ⟨rfl, k3⟩)
    go_ret
    exact ⟨rfl, keepN gK k3⟩
   have HO := Lib.hid (fun w => rcheck_gen op a b 0 w (by unfold chk; rw [ho]; rfl) ha.out hb'.out)
   by_cases ht : tgt < ((m + 1 : Nat) : Int)
   ·have ht2 : ¬ ((m : Int) + 1 ≤ tgt) := by omega
    have ht3 : decide ((m : Int) + 1 ≤ tgt) = false := by rw [decide_eq_false_iff_not]; omega
    have ha2 : Hid ((l.take (k + 1)).all (itemB (m + 1)) = true) := by
     show _ = _
     rw [HT.out, List.all_append, hall.out]
     simp only [List.all_cons, List.all_nil, Bool.and_true, Bool.true_and]
     exact item_yes ho (by show goesN op a b < _; rw [hto]; exact ht)
    clear ho hto HN HT hall hR ht htt
    cases t
    all_goals
     go_wp2_with fail
     refine (HG.out _).mono ?_
     rintro e w2 ⟨rfl, k2⟩
     have gK := keepN hK k2
     obtain ⟨x0, x1, x2⟩ := HD.out _ gK
     clear c0 c1 c2
     go_wp2_with (go_at_call 48; refine (HO.out _).mono ?_; rintro e w3 ⟨rfl, k3⟩)
     go_roundw
     case rel => exact ⟨k + 1, by omega, by go_num, ha2, keepN gK k3⟩
     case measure => simp [intOf]; omega
   ·obtain rfl := HN.out (item_no2 (by show ¬ goesN op a b < _; rw [hto]; exact ht))
    have ht2 : ((m : Int) + 1 ≤ tgt) := by omega
    obtain rfl : t = true := by
     cases t
     ·have := gN_no (x := (op, a, b)) htt
      rw [show gN (op, a, b) = tgt from hto] at this
      omega
     ·rfl
    clear ho hto HN HT hall hR ht htt
    go_wp2_with fail
    refine (HG.out _).mono ?_
    rintro e w2 ⟨rfl, k2⟩
    have gK := keepN hK k2
    obtain ⟨x0, x1, x2⟩ := HD.out _ gK
    clear c0 c1 c2
    go_wp2_with (go_at_call 48; refine (HO.out _).mono ?_; rintro e w3 ⟨rfl, k3⟩)
    go_ret
    exact ⟨rfl, keepN gK k3⟩
  ·obtain rfl : k = m + 1 := by omega
   rw [List.take_of_length_le (by rw [hn.out]; omega)] at hall
   have hml : m < l.length := by rw [hn.out]; omega
   obtain ⟨d0, d1, d2⟩ := HC.out m hml
   have c0 := hK.cell d0 id
   have c1 := hK.cell d1 id
   have c2 := hK.cell d2 id
   have hlast : Hid (lastB l = eB l[m]) := by
    show _ = _
    rw [lastB_at hl0]
    congr 2
    rw [hn.out]; omega
   have hab := hI.out l[m] (List.getElem_mem hml)
   clear d0 d1 d2 HC
   generalize l[m] = x at c0 c1 c2 hlast hab
   obtain ⟨op, a, b⟩ := x
   dsimp only at c0 c1 c2 hab
   cases he : endsI op a b
   ·obtain rfl : 50 = R := by rw [← hR.out, chkB_no (okB_last (by rw [hlast.out]; exact he))]
    have HE := Lib.hid (fun w => rends_gen op a b _ w he hab.1 hab.2)
    clear he hlast hR hab hall
    go_wp2_with (go_at_call 49; refine (HE.out _).mono ?_; rintro e w1 ⟨rfl, k1⟩)
    go_ret
    exact ⟨rfl, keepN hK k1⟩
   ·obtain rfl : 0 = R := by
     rw [← hR.out, chkB_ok (okB_mk (by rw [hn.out]; exact hm5) (by rw [hlast.out]; exact he) (by rw [hn.out]; exact hall.out))]
    have HE := Lib.hid (fun w => rends_gen op a b _ w he hab.1 hab.2)
    clear he hlast hR hab hall
    go_wp2_with (go_at_call 49; refine (HE.out _).mono ?_; rintro e w1 ⟨rfl, k1⟩)
    go_ret
    exact ⟨rfl, keepN hK k1⟩

set_option maxRecDepth 100000 in
set_option maxHeartbeats 4000000 in
theorem lists_any (A B : Option Addr) (la lb : List I3) (n m c d : Nat) (w : World) (ha : Rd w A (iis la)) (hb : Rd w B (iis lb)) (hn : Hid (la.length = n)) (hm : Hid (lb.length = m))
  (h1 : n ≤ 9223372036854775807) (h2 : m ≤ 9223372036854775807) (R : Bool) (hR : Hid (R = decide (la = lb))) :
  Calls Tryz.prog 23 #[.slice A n c, .slice B m d] w fun e w' => e = .returned (.bool R) ∧ Keep NoB w w' := by
 by_cases hnm : n = m
 ·subst hnm
  go_enter Tryz.func23, Tryz.ntmps23
  go_wp2
  go_loopw [5] (fun i wr => ∃ k : Nat, k ≤ n ∧ i = .int .i64 k ∧ Hid (la.take k = lb.take k) ∧ Keep NoB w wr) (fun i _ => n - (intOf i).toNat)
  case atStart => exact ⟨0, Nat.zero_le _, rfl, rfl, Keep.refl _ _⟩
  case round =>
   obtain ⟨k, hk, rfl, ht, hK⟩ := hrel
   by_cases hlt : k < n
   ·have hka : k < la.length := by rw [hn.out]; exact hlt
    have hkb : k < lb.length := by rw [hm.out]; exact hlt
    obtain ⟨ga, oa, rfl, hca⟩ := rdJ_at ha (by omega)
    obtain ⟨gb, ob, rfl, hcb⟩ := rdJ_at hb (by omega)
    have ca0 := hK.cell (hca k hka).1 id
    have ca1 := hK.cell (hca k hka).2.1 id
    have ca2 := hK.cell (hca k hka).2.2 id
    have cb0 := hK.cell (hcb k hkb).1 id
    have cb1 := hK.cell (hcb k hkb).2.1 id
    have cb2 := hK.cell (hcb k hkb).2.2 id
    have HT := Lib.hid (show la.take (k + 1) = la.take k ++ [la[k]] from List.take_succ_eq_append_getElem hka)
    have HU := Lib.hid (show lb.take (k + 1) = lb.take k ++ [lb[k]] from List.take_succ_eq_append_getElem hkb)
    clear hca hcb
    by_cases he : la[k] = lb[k]
    ·have HV : Hid (la.take (k + 1) = lb.take (k + 1)) := by show _ = _; rw [HT.out, HU.out, ht.out, he]
     rw [he] at ca0 ca1 ca2
     clear he HT HU ha hb
     generalize lb[k] = y at ca0 ca1 ca2 cb0 cb1 cb2
     obtain ⟨y0, y1, y2⟩ := y
     dsimp only at ca0 ca1 ca2 cb0 cb1 cb2
     go_wp2
     go_quiet (fail)
     go_wp2
     go_roundw
     case rel => exact ⟨k + 1, by omega, by go_num, HV, hK.drewN _⟩
     case measure => simp [intOf]; omega
    ·have hf : R = false := by
      rw [hR.out, decide_eq_false_iff_not]
      intro e
      exact he (by simp [e])
     subst hf
     clear HT HU ha hb
     generalize la[k] = x at ca0 ca1 ca2 he
     generalize lb[k] = y at cb0 cb1 cb2 he
     obtain ⟨x0, x1, x2⟩ := x
     obtain ⟨y0, y1, y2⟩ := y
     dsimp only at ca0 ca1 ca2 cb0 cb1 cb2
     by_cases h0 : x0 = y0
     ·subst h0
      by_cases h3 : x1 = y1
      ·subst h3
       have hne : (x2 == y2) = false := by rw [beq_eq_false_iff_ne]; rintro rfl; exact he rfl
       clear he
       go_wp2
       go_quiet (fail)
       go_wp2
       go_ret
       exact ⟨rfl, hK.drewN _⟩
      ·have hne : (x1 == y1) = false := by rw [beq_eq_false_iff_ne]; exact h3
       clear he h3
       go_wp2
       go_quiet (fail)
       go_wp2
       go_ret
       exact ⟨rfl, hK.drewN _⟩
     ·have hne : (x0 == y0) = false := by rw [beq_eq_false_iff_ne]; exact h0
      clear he h0
      go_wp2
      go_quiet (fail)
      go_wp2
      go_ret
      exact ⟨rfl, hK.drewN _⟩
   ·have hf : R = true := by
     rw [hR.out, decide_eq_true_iff]
     have e1 := ht.out
     rwa [List.take_of_length_le (by rw [hn.out]; omega), List.take_of_length_le (by rw [hm.out]; omega)] at e1
    subst hf
    go_wp2
    go_ret
    exact ⟨rfl, hK⟩
 ·have hf : R = false := by
   rw [hR.out, decide_eq_false_iff_not]
   intro e
   exact hnm (by rw [← hn.out, ← hm.out, e])
  subst hf
  have hne : ((n : Int) != (m : Int)) = true := by rw [bne_iff_ne]; omega
  clear hnm
  go_enter Tryz.func23, Tryz.ntmps23
  go_wp2
  go_ret
  exact ⟨rfl, Keep.refl _ _⟩

end Go.Proofs.YtghdibbooegocaaGreatDoor.C

namespace Go.Proofs.YtghdibbooegocaaGreatDoor.G
open Go.RowKit W

def IntR (w : World) (l : List Nat) (e : Ending) (w' : World) : Prop := ∃ B c, e = .returned (.slice B l.length c) ∧ Rd w' B (ivs (nz l)) ∧ (∀ ad, B = some ad → w.heap.size ≤ ad.block) ∧ Keep NoB w w'
theorem rd_blk {w : World} {g : Nat} {T : TypeId} {l : List Nat} (h : Blk w g T (ivs (nz l)).toArray) : Rd w (some ⟨g, 0, none⟩) (ivs (nz l)) := fun _ => ⟨g, 0, rfl, fun j u hu => by rw [Nat.zero_add, h.cell, List.getElem?_toArray]; exact hu⟩
theorem intR_new {w w2 : World} {l : List Nat} (hk : Keep NoB w w2) : IntR w l (.returned (.slice (some ⟨w2.heap.size, 0, none⟩) l.length l.length)) (w2.alloc (.cells (ivs (nz l)).toArray 3)) :=
 ⟨_, _, rfl, rd_blk (Blk.new w2 _ _), fun ad e => by cases e; exact hk.size, hk.alloc _⟩
theorem intR_nil {w w2 : World} (hk : Keep NoB w w2) : IntR w [] (.returned (.slice none 0 0)) w2 := ⟨none, 0, rfl, Rd.none_ _ _, (fun ad e => by cases e), hk⟩
set_option maxRecDepth 100000 in
set_option maxHeartbeats 400000 in
theorem behind_tt (op a b : Int) (i : Nat) (w : World) (hi : i ≤ 1000) (hg : C.gB (op, a, b) = true) (he : C.eB (op, a, b) = true) (t : Nat) (ha : a = (t : Int)) (_ht : t ≤ 511) :
  Calls Tryz.prog 30 #[.agg #[.int .i64 op, .int .i64 a, .int .i64 b], .int .i64 (i : Int)] w (IntR w (stepsX (op, a, b) i)) := by
 subst ha
 have HS := Lib.hid (show stepsX (op, (t : Int), b) i = [t] from by unfold stepsX; rw [if_pos ⟨hg, he⟩]; simp)
 have HG := Lib.hid (fun w => O.goes_any op (t : Int) b w)
 have HE := Lib.hid (fun w => O.ends_any op (t : Int) b w)
 have hgn : O.goesN op (t : Int) b = (t : Int) := by have := C.gN_yes hg; exact this
 have hgi : O.goesI op (t : Int) b = true := hg
 have hei : O.endsI op (t : Int) b = true := he
 simp only [hgn, hgi] at HG
 simp only [hei] at HE
 have b0 := Blk.new w 45 #[.int .i64 op, .int .i64 (t : Int), .int .i64 b]
 have k0 := (Keep.refl NoB w).alloc (.cells #[.int .i64 op, .int .i64 (t : Int), .int .i64 b] 45)
 clear hg he hgn hgi hei
 go_enter Tryz.func30, Tryz.ntmps30
 go_wp2_with fail
 refine (HG.out _).mono ?_
 rintro e1 w2 ⟨rfl, k2⟩
 have b2 : Blk w2 w.heap.size 45 #[.int .i64 op, .int .i64 (t : Int), .int .i64 b] := b0.keep k2 id
 have c0 := b2.cell 0
 have c1 := b2.cell 1
 have c2 := b2.cell 2
 simp only [List.getElem?_toArray, List.getElem?_cons_zero, List.getElem?_cons_succ] at c0 c1 c2
 have k3 := keepN k0 k2
 clear b0 b2 k0 k2
 go_wp2_with fail
 refine (HE.out _).mono ?_
 rintro e1 w3 ⟨rfl, k4⟩
 have k5 := keepN k3 k4
 clear k3 k4 c0 c1 c2 HG HE
 go_wp2
 go_ret
 rw [HS.out]
 have := intR_new (l := [t]) k5
 simpa [nz] using this

set_option maxRecDepth 100000 in
set_option maxHeartbeats 400000 in
theorem behind_ft (op a b : Int) (i : Nat) (w : World) (hi : i ≤ 1000) (hg : C.gB (op, a, b) = false) (he : C.eB (op, a, b) = true) :
  Calls Tryz.prog 30 #[.agg #[.int .i64 op, .int .i64 a, .int .i64 b], .int .i64 (i : Int)] w (IntR w (stepsX (op, a, b) i)) := by
 have HS := Lib.hid (show stepsX (op, a, b) i = [] from by unfold stepsX; rw [if_neg (by rw [hg]; simp), if_pos he])
 have HG := Lib.hid (fun w => O.goes_any op a b w)
 have HE := Lib.hid (fun w => O.ends_any op a b w)
 have hgn : O.goesN op a b = 0 := by have := C.gN_no hg; exact this
 have hgi : O.goesI op a b = false := hg
 have hei : O.endsI op a b = true := he
 simp only [hgn, hgi] at HG
 simp only [hei] at HE
 have b0 := Blk.new w 45 #[.int .i64 op, .int .i64 a, .int .i64 b]
 have k0 := (Keep.refl NoB w).alloc (.cells #[.int .i64 op, .int .i64 a, .int .i64 b] 45)
 clear hg he hgn hgi hei
 go_enter Tryz.func30, Tryz.ntmps30
 go_wp2_with fail
 refine (HG.out _).mono ?_
 rintro e1 w2 ⟨rfl, k2⟩
 have b2 : Blk w2 w.heap.size 45 #[.int .i64 op, .int .i64 a, .int .i64 b] := b0.keep k2 id
 have c0 := b2.cell 0
 have c1 := b2.cell 1
 have c2 := b2.cell 2
 simp only [List.getElem?_toArray, List.getElem?_cons_zero, List.getElem?_cons_succ] at c0 c1 c2
 have k3 := keepN k0 k2
 clear b0 b2 k0 k2
 go_wp2_with fail
 refine (HE.out _).mono ?_
 rintro e1 w3 ⟨rfl, k4⟩
 have k5 := keepN k3 k4
 clear k3 k4 c0 c1 c2 HG HE
 go_wp2
 go_ret
 rw [HS.out]
 exact intR_nil k5

set_option maxRecDepth 100000 in
set_option maxHeartbeats 400000 in
theorem behind_ff (op a b : Int) (i : Nat) (w : World) (hi : i ≤ 1000) (hg : C.gB (op, a, b) = false) (he : C.eB (op, a, b) = false) :
  Calls Tryz.prog 30 #[.agg #[.int .i64 op, .int .i64 a, .int .i64 b], .int .i64 (i : Int)] w (IntR w (stepsX (op, a, b) i)) := by
 have HS := Lib.hid (show stepsX (op, a, b) i = [i + 1] from by unfold stepsX; rw [if_neg (by rw [hg]; simp), if_neg (by rw [he]; decide), if_pos (.inl hg)])
 have HG := Lib.hid (fun w => O.goes_any op a b w)
 have HE := Lib.hid (fun w => O.ends_any op a b w)
 have hgn : O.goesN op a b = 0 := by have := C.gN_no hg; exact this
 have hgi : O.goesI op a b = false := hg
 have hei : O.endsI op a b = false := he
 simp only [hgn, hgi] at HG
 simp only [hei] at HE
 have b0 := Blk.new w 45 #[.int .i64 op, .int .i64 a, .int .i64 b]
 have k0 := (Keep.refl NoB w).alloc (.cells #[.int .i64 op, .int .i64 a, .int .i64 b] 45)
 clear hg he hgn hgi hei
 go_enter Tryz.func30, Tryz.ntmps30
 go_wp2_with fail
 refine (HG.out _).mono ?_
 rintro e1 w2 ⟨rfl, k2⟩
 have b2 : Blk w2 w.heap.size 45 #[.int .i64 op, .int .i64 a, .int .i64 b] := b0.keep k2 id
 have c0 := b2.cell 0
 have c1 := b2.cell 1
 have c2 := b2.cell 2
 simp only [List.getElem?_toArray, List.getElem?_cons_zero, List.getElem?_cons_succ] at c0 c1 c2
 have k3 := keepN k0 k2
 clear b0 b2 k0 k2
 go_wp2_with fail
 refine (HE.out _).mono ?_
 rintro e1 w3 ⟨rfl, k4⟩
 have k5 := keepN k3 k4
 clear k3 k4 c0 c1 c2 HG HE
 go_wp2
 go_ret
 rw [HS.out]
 have := intR_new (l := [i + 1]) k5
 simpa [nz] using this

set_option maxRecDepth 100000 in
set_option maxHeartbeats 400000 in
theorem behind_tf_eq (op a b : Int) (i : Nat) (w : World) (hi : i ≤ 1000) (hg : C.gB (op, a, b) = true) (he : C.eB (op, a, b) = false) (t : Nat) (ha : a = (t : Int)) (_ht : t ≤ 511) (hc : t = i + 1) :
  Calls Tryz.prog 30 #[.agg #[.int .i64 op, .int .i64 a, .int .i64 b], .int .i64 (i : Int)] w (IntR w (stepsX (op, a, b) i)) := by
 subst ha
 have HS := Lib.hid (show stepsX (op, (t : Int), b) i = [i + 1] from by unfold stepsX; rw [if_neg (by rw [he]; simp), if_neg (by rw [he]; decide), if_pos (.inr (by show (t : Int).toNat = _; omega))])
 have HG := Lib.hid (fun w => O.goes_any op (t : Int) b w)
 have HE := Lib.hid (fun w => O.ends_any op (t : Int) b w)
 have hgn : O.goesN op (t : Int) b = (t : Int) := by have := C.gN_yes hg; exact this
 have hgi : O.goesI op (t : Int) b = true := hg
 have hei : O.endsI op (t : Int) b = false := he
 simp only [hgn, hgi] at HG
 simp only [hei] at HE
 have b0 := Blk.new w 45 #[.int .i64 op, .int .i64 (t : Int), .int .i64 b]
 have k0 := (Keep.refl NoB w).alloc (.cells #[.int .i64 op, .int .i64 (t : Int), .int .i64 b] 45)
 clear hg he hgn hgi hei
 have q1 : ((t : Int) == (i : Int) + 1) = true := by rw [beq_iff_eq]; omega
 clear hc
 go_enter Tryz.func30, Tryz.ntmps30
 go_wp2_with fail
 refine (HG.out _).mono ?_
 rintro e1 w2 ⟨rfl, k2⟩
 have b2 : Blk w2 w.heap.size 45 #[.int .i64 op, .int .i64 (t : Int), .int .i64 b] := b0.keep k2 id
 have c0 := b2.cell 0
 have c1 := b2.cell 1
 have c2 := b2.cell 2
 simp only [List.getElem?_toArray, List.getElem?_cons_zero, List.getElem?_cons_succ] at c0 c1 c2
 have k3 := keepN k0 k2
 clear b0 b2 k0 k2
 go_wp2_with fail
 refine (HE.out _).mono ?_
 rintro e1 w3 ⟨rfl, k4⟩
 have k5 := keepN k3 k4
 clear k3 k4 c0 c1 c2 HG HE
 go_wp2
 go_ret
 rw [HS.out]
 have := intR_new (l := [i + 1]) k5
 simpa [nz] using this

set_option maxRecDepth 100000 in
set_option maxHeartbeats 400000 in
theorem behind_tf_lt (op a b : Int) (i : Nat) (w : World) (hi : i ≤ 1000) (hg : C.gB (op, a, b) = true) (he : C.eB (op, a, b) = false) (t : Nat) (ha : a = (t : Int)) (_ht : t ≤ 511) (hc : t < i + 1) :
  Calls Tryz.prog 30 #[.agg #[.int .i64 op, .int .i64 a, .int .i64 b], .int .i64 (i : Int)] w (IntR w (stepsX (op, a, b) i)) := by
 subst ha
 have HS := Lib.hid (show stepsX (op, (t : Int), b) i = [t, i + 1] from by unfold stepsX; rw [if_neg (by rw [he]; simp), if_neg (by rw [he]; decide), if_neg (by rw [hg]; simp; omega), if_pos (by show (t : Int).toNat < _; omega), show (op, (t : Int), b).2.1.toNat = t by show (t : Int).toNat = t; omega])
 have HG := Lib.hid (fun w => O.goes_any op (t : Int) b w)
 have HE := Lib.hid (fun w => O.ends_any op (t : Int) b w)
 have hgn : O.goesN op (t : Int) b = (t : Int) := by have := C.gN_yes hg; exact this
 have hgi : O.goesI op (t : Int) b = true := hg
 have hei : O.endsI op (t : Int) b = false := he
 simp only [hgn, hgi] at HG
 simp only [hei] at HE
 have b0 := Blk.new w 45 #[.int .i64 op, .int .i64 (t : Int), .int .i64 b]
 have k0 := (Keep.refl NoB w).alloc (.cells #[.int .i64 op, .int .i64 (t : Int), .int .i64 b] 45)
 clear hg he hgn hgi hei
 have q1 : ((t : Int) == (i : Int) + 1) = false := by rw [beq_eq_false_iff_ne]; omega
 have q2 : min (t : Int) ((i : Int) + 1) = t := by omega
 have q3 : max (t : Int) ((i : Int) + 1) = (i : Int) + 1 := by omega
 go_enter Tryz.func30, Tryz.ntmps30
 go_wp2_with fail
 refine (HG.out _).mono ?_
 rintro e1 w2 ⟨rfl, k2⟩
 have b2 : Blk w2 w.heap.size 45 #[.int .i64 op, .int .i64 (t : Int), .int .i64 b] := b0.keep k2 id
 have c0 := b2.cell 0
 have c1 := b2.cell 1
 have c2 := b2.cell 2
 simp only [List.getElem?_toArray, List.getElem?_cons_zero, List.getElem?_cons_succ] at c0 c1 c2
 have k3 := keepN k0 k2
 clear b0 b2 k0 k2
 go_wp2_with fail
 refine (HE.out _).mono ?_
 rintro e1 w3 ⟨rfl, k4⟩
 have k5 := keepN k3 k4
 clear k3 k4 c0 c1 c2 HG HE
 go_wp2
 go_ret
 rw [HS.out]
 have := intR_new (l := [t, i + 1]) k5
 simpa [nz] using this

set_option maxRecDepth 100000 in
set_option maxHeartbeats 400000 in
theorem behind_tf_gt (op a b : Int) (i : Nat) (w : World) (hi : i ≤ 1000) (hg : C.gB (op, a, b) = true) (he : C.eB (op, a, b) = false) (t : Nat) (ha : a = (t : Int)) (_ht : t ≤ 511) (hc : i + 1 < t) :
  Calls Tryz.prog 30 #[.agg #[.int .i64 op, .int .i64 a, .int .i64 b], .int .i64 (i : Int)] w (IntR w (stepsX (op, a, b) i)) := by
 subst ha
 have HS := Lib.hid (show stepsX (op, (t : Int), b) i = [i + 1, t] from by unfold stepsX; rw [if_neg (by rw [he]; simp), if_neg (by rw [he]; decide), if_neg (by rw [hg]; simp; omega), if_neg (by show ¬ (t : Int).toNat < _; omega), show (op, (t : Int), b).2.1.toNat = t by show (t : Int).toNat = t; omega])
 have HG := Lib.hid (fun w => O.goes_any op (t : Int) b w)
 have HE := Lib.hid (fun w => O.ends_any op (t : Int) b w)
 have hgn : O.goesN op (t : Int) b = (t : Int) := by have := C.gN_yes hg; exact this
 have hgi : O.goesI op (t : Int) b = true := hg
 have hei : O.endsI op (t : Int) b = false := he
 simp only [hgn, hgi] at HG
 simp only [hei] at HE
 have b0 := Blk.new w 45 #[.int .i64 op, .int .i64 (t : Int), .int .i64 b]
 have k0 := (Keep.refl NoB w).alloc (.cells #[.int .i64 op, .int .i64 (t : Int), .int .i64 b] 45)
 clear hg he hgn hgi hei
 have q1 : ((t : Int) == (i : Int) + 1) = false := by rw [beq_eq_false_iff_ne]; omega
 have q2 : min (t : Int) ((i : Int) + 1) = (i : Int) + 1 := by omega
 have q3 : max (t : Int) ((i : Int) + 1) = t := by omega
 go_enter Tryz.func30, Tryz.ntmps30
 go_wp2_with fail
 refine (HG.out _).mono ?_
 rintro e1 w2 ⟨rfl, k2⟩
 have b2 : Blk w2 w.heap.size 45 #[.int .i64 op, .int .i64 (t : Int), .int .i64 b] := b0.keep k2 id
 have c0 := b2.cell 0
 have c1 := b2.cell 1
 have c2 := b2.cell 2
 simp only [List.getElem?_toArray, List.getElem?_cons_zero, List.getElem?_cons_succ] at c0 c1 c2
 have k3 := keepN k0 k2
 clear b0 b2 k0 k2
 go_wp2_with fail
 refine (HE.out _).mono ?_
 rintro e1 w3 ⟨rfl, k4⟩
 have k5 := keepN k3 k4
 clear k3 k4 c0 c1 c2 HG HE
 go_wp2
 go_ret
 rw [HS.out]
 have := intR_new (l := [i + 1, t]) k5
 simpa [nz] using this

theorem behind_any (x : C.I3) (i : Nat) (w : World) (hi : i ≤ 1000) : Calls Tryz.prog 30 #[.agg #[.int .i64 x.1, .int .i64 x.2.1, .int .i64 x.2.2], .int .i64 (i : Int)] w (IntR w (stepsX x i)) := by
 obtain ⟨op, a, b⟩ := x
 cases hg : C.gB (op, a, b) with
 | false =>
  cases he : C.eB (op, a, b) with
  | true => exact behind_ft op a b i w hi hg he
  | false => exact behind_ff op a b i w hi hg he
 | true =>
  have hin := C.gB_in hg
  have ha : a = (a.toNat : Int) := by have h := hin.1; show a = _; dsimp only at h; omega
  have ht : a.toNat ≤ 511 := by have h := hin.2; dsimp only at h; omega
  cases he : C.eB (op, a, b) with
  | true => exact behind_tt op a b i w hi hg he _ ha ht
  | false =>
   rcases Nat.lt_trichotomy a.toNat (i + 1) with h | h | h
   ·exact behind_tf_lt op a b i w hi hg he _ ha ht h
   ·exact behind_tf_eq op a b i w hi hg he _ ha ht h
   ·exact behind_tf_gt op a b i w hi hg he _ ha ht h
end Go.Proofs.YtghdibbooegocaaGreatDoor.G

namespace Go.Proofs.YtghdibbooegocaaGreatDoor.G
open Go.RowKit W

theorem blk_of_row {w1 : World} {E : TypeId} {sz g n : Nat} {zs : List Value} (hrow : w1.ownsRow 0 E sz (.slice (some ⟨g, 0, none⟩) n n) n zs) : ∃ cur, Blk w1 g E cur ∧ cur.size = n * sz := by
 obtain ⟨h3, h4⟩ := hrow
 rcases h4 with ⟨h4, _⟩ | ⟨g', cap, cur, h4, _, h6, _, _, h7, _⟩
 ·cases h4
 ·injection h4 with h4 _ h8
  injection h4 with h4
  injection h4 with h4 _ _
  subst h4 h8
  exact ⟨cur, h6, h7⟩
theorem keep_set (w : World) (g k : Nat) (v : Value) : Keep (fun x => x = g) w (w.setCell ⟨g, k, none⟩ v) := (Keep.refl (fun x => x = g) w).setCell (p := ⟨g, k, none⟩) (fun _ => rfl) v
theorem sl_info : (Tryz.prog.info? 23).map (fun i => (i.zero, i.size, i.bytes)) = some (some (.slice none 0 0), 1, 24) := by kernel_rfl
def StepsR (l : List C.I3) (w : World) (e : Ending) (w' : World) : Prop :=
 Keep NoB w w' ∧ ((C.okB l = false ∧ e = .returned (.slice none 0 0)) ∨
  (C.okB l = true ∧ ∃ g Bf cf, e = .returned (.slice (some ⟨g, 0, none⟩) l.length l.length) ∧ StAt (Fresh w) (some ⟨g, 0, none⟩) Bf cf l.length (stepsG l) w'))
def updF {β : Type} (f : Nat → β) (k : Nat) (v : β) : Nat → β := fun i => if i = k then v else f i

set_option maxRecDepth 100000 in
set_option maxHeartbeats 4000000 in
theorem stepsOf_any (A : Option Addr) (l : List C.I3) (n c : Nat) (w : World) (hr : Rd w A (C.iis l)) (hn : Hid (l.length = n)) (hm : n ≤ 9223372036854775807) :
  Calls Tryz.prog 33 #[.slice A n c] w (StepsR l w) := by
 cases ho : C.okB l
 ·have HC := Lib.hid (fun w hr => C.cchk_any A l n c w hr hn hm 50 (C.chkB_no ho))
  have HO := Lib.hid ho
  clear ho
  go_enter Tryz.func33, Tryz.ntmps33
  go_wp2_with (go_at_call 27; refine (HC.out _ hr).mono ?_; rintro e w1 ⟨rfl, k1⟩)
  go_ret
  exact ⟨k1, .inl ⟨HO.out, rfl⟩⟩
 ·obtain ⟨h1, h5, _, _⟩ := C.okB_parts ho
  rw [hn.out] at h1 h5
  have HC := Lib.hid (fun w hr => C.cchk_any A l n c w hr hn hm 0 (C.chkB_ok ho))
  have HO := Lib.hid ho
  have hr0 := Lib.hid hr
  obtain ⟨i0, hi, hz0, hz1, hz2⟩ := info_parts sl_info
  clear hr ho
  go_enter Tryz.func33, Tryz.ntmps33
  go_wp2_with fail
  refine (HC.out _ hr0.out).mono ?_
  rintro e w1 ⟨rfl, k1⟩
  clear HC
  go_wp2_with (at_make; refine wpList_make_full _ rfl _ _ 49 rfl 0 23 i0 _ 1 Tryz.underlying49 hi hz0 hz1 _ _ _ _ n rfl rfl rfl rfl (by rw [hz2]; omega) (by unfold maxLen; omega) (Nat.zero_le _) ?_; intro w3 hrow hg3)
  obtain ⟨cur, hB, hcs⟩ := blk_of_row hrow
  have hK3 : Keep NoB w w3 := k1.grown hg3 (fun g e _ => by cases e)
  have hw3 : w.heap.size ≤ w1.heap.size := k1.size
  obtain ⟨g, hg⟩ : ∃ g, w1.heap.size = g := ⟨_, rfl⟩
  rw [hg] at hB hw3 ⊢
  clear hrow hg3 k1 hg
  go_loopw [14] (fun i wr => ∃ (k : Nat) (cur : Array Value) (Bf : Nat → Option Addr) (cf : Nat → Nat), k ≤ n ∧ i = .int .i64 k ∧ Blk wr g 23 cur ∧ cur.size = n * 1 ∧ StAt (Fresh w) (some ⟨g, 0, none⟩) Bf cf k (stepsG l) wr ∧ Keep NoB w wr ∧ Hid (∀ j, j < k → ∀ ad, Bf j = some ad → g < ad.block)) (fun i _ => n - (intOf i).toNat)
  case atStart => exact ⟨0, cur, fun _ => none, fun _ => 0, Nat.zero_le _, rfl, hB, hcs, fun i hi => absurd hi (Nat.not_lt_zero _), hK3, fun j hj => absurd hj (Nat.not_lt_zero _)⟩
  case round =>
   obtain ⟨k, cur, Bf, cf, hk, rfl, hBr, hcs, hS, hK, hbn⟩ := hrel
   clear hB hK3
   by_cases hlt : k < n
   ·have hkl : k < l.length := by rw [hn.out]; exact hlt
    obtain ⟨g0, off, rfl, hc⟩ := C.rdJ_at hr0.out (by omega)
    obtain ⟨d0, d1, d2⟩ := hc k hkl
    have c0 := hK.cell d0 id
    have c1 := hK.cell d1 id
    have c2 := hK.cell d2 id
    have HX := Lib.hid (steps_at (List.getElem?_eq_getElem hkl))
    clear hc d0 d1 d2
    generalize l[k] = x at c0 c1 c2 HX
    obtain ⟨op, a, b⟩ := x
    dsimp only at c0 c1 c2
    have HBe := Lib.hid (fun w => behind_any (op, a, b) k w (by omega))
    dsimp only at HBe
    go_wp2_with fail
    refine (HBe.out _).mono ?_
    rintro e w4 ⟨B, cB, rfl, hrB, hfr, k4⟩
    have k5 : Keep NoB wr w4 := keepN ((Keep.refl NoB wr).alloc _) k4
    have hB4 : Blk w4 g 23 cur := hBr.keep k5 id
    have cc : w4.cell? ⟨g, k, none⟩ = some (cur[k]'(by omega)) := by rw [hB4.cell]; exact Array.getElem?_eq_getElem _
    have hf := hB4.frozen k
    have hgl := hBr.lt
    have hne : ∀ ad, B = some ad → g < ad.block := fun ad e => by have := hfr ad e; rw [World.size_alloc] at this; omega
    have hput := hB4.put k (.slice B (stepsX (op, a, b) k).length cB)
    have hrB2 : Rd (w4.setCell ⟨g, k, none⟩ (.slice B (stepsX (op, a, b) k).length cB)) B (ivs (nz (stepsX (op, a, b) k))) :=
     hrB.keep (keep_set w4 g k _) (fun ad e h => by have := hne ad e; omega)
    have hS2 : Hid (StAt (Fresh w) (some ⟨g, 0, none⟩) (updF Bf k B) (updF cf k cB) (k + 1) (stepsG l) (w4.setCell ⟨g, k, none⟩ (.slice B (stepsX (op, a, b) k).length cB))) := fun i hi => by
     by_cases he : i = k
     ·subst he
      refine ⟨g, rfl, by show w.heap.size ≤ g; omega, ?_, ?_, ?_⟩
      ·rw [HX.out, hput.cell, Array.getElem?_setIfInBounds_self, if_pos (by omega)]; simp [updF]
      ·rw [HX.out]; simpa [updF] using hrB2
      ·intro _ ad e
       have e : B = some ad := by simpa [updF] using e
       have := hne ad e
       show w.heap.size ≤ ad.block
       omega
     ·obtain ⟨g', e1, e2, e3, e4, e5⟩ := hS i (by omega)
      cases e1
      refine ⟨g, rfl, e2, ?_, ?_, ?_⟩
      ·have h0 := k5.cell e3 id
       rw [hput.cell, Array.getElem?_setIfInBounds_ne (fun h => he h.symm), ← hB4.cell, h0]
       simp [updF, he]
      ·have := (e4.keepN k5).keep (keep_set w4 g k (.slice B (stepsX (op, a, b) k).length cB)) (fun ad e h => by have := hbn.out i (by omega) ad e; omega)
       simpa [updF, he] using this
      ·intro hl ad e
       exact e5 hl ad (by simpa [updF, he] using e)
    have hK5 : Hid (Keep NoB w (w4.setCell ⟨g, k, none⟩ (.slice B (stepsX (op, a, b) k).length cB))) := (keepN hK k5).setCell (fun h => absurd h (by simp; omega)) _
    have hbn2 : Hid (∀ j, j < k + 1 → ∀ ad, updF Bf k B j = some ad → g < ad.block) := fun j hj ad e => by
     unfold updF at e
     split at e
     ·exact hne ad e
     ·exact hbn.out j (by omega) ad e
    have hcs2 : Hid ((cur.setIfInBounds k (.slice B (stepsX (op, a, b) k).length cB)).size = n * 1) := by show _ = _; rw [Array.size_setIfInBounds]; exact hcs
    have HPT := Lib.hid hput
    have hkc : k < cur.size := by omega
    generalize stepsX (op, a, b) k = sx at *
    generalize cur[k]'hkc = old at cc
    clear hput hrB hrB2 hfr hS hK k4 k5 hB4 hBr hne hcs hgl hbn HX HBe c0 c1 c2
    go_wp2
    go_roundw
    case rel => exact ⟨k + 1, _, _, _, by omega, by go_num, HPT.out, hcs2.out, hS2.out, hK5.out, hbn2⟩
    case measure => simp [intOf]; omega
   ·obtain rfl : k = n := by omega
    have hfin : Hid (StAt (Fresh w) (some ⟨g, 0, none⟩) Bf cf k (stepsG l) wr ∧ Keep NoB w wr) := ⟨hS, hK⟩
    clear hS hK hbn hBr
    go_wp2
    go_ret
    refine ⟨hfin.out.2, .inr ⟨HO.out, g, Bf, cf, ?_, by rw [hn.out]; exact hfin.out.1⟩⟩
    rw [hn.out]
    rfl
end Go.Proofs.YtghdibbooegocaaGreatDoor.G

namespace Go.Proofs.YtghdibbooegocaaGreatDoor.G
open Go.RowKit Go.Shelf W

theorem anywhere_any (q : Int) (w : World) : Calls Tryz.prog 51 #[.int .i64 q] w fun e w' => e = .returned (.bool true) ∧ w' = w := by
 go_enter Tryz.func51, Tryz.ntmps51
 go_wp2
 go_ret
 exact ⟨rfl, rfl⟩
def NearR (A : Option Addr) (n c fr fo : Nat) (lo : Array Value) (w : World) (e : Ending) (w' : World) : Prop :=
 e = .returned (.func (.func 64) #[] #[.pointer (some ⟨w.heap.size + 1, 0, none⟩), .pointer (some ⟨w.heap.size, 0, none⟩), .pointer (some ⟨w.heap.size + 1 + 1, 0, none⟩)]) ∧
 w'.heap.size = w.heap.size + 1 + 1 + 1 ∧ Keep NoB w w' ∧ Blk w' (w.heap.size + 1) 3 #[.int .i64 (fr : Int)] ∧ Blk w' w.heap.size 49 #[.slice A n c] ∧ Blk w' (w.heap.size + 1 + 1) 59 #[.func (.func fo) #[] lo]
theorem nearest_any (A : Option Addr) (n c fr fo : Nat) (lo : Array Value) (w : World) :
  Calls Tryz.prog 50 #[.slice A n c, .int .i64 (fr : Int), .func (.func fo) #[] lo] w (NearR A n c fr fo lo w) := by
 have b0 := ((Blk.new w 49 #[.slice A n c]).alloc (.cells #[.int .i64 (fr : Int)] 3)).alloc (.cells #[.func (.func fo) #[] lo] 59)
 have b1 := (Blk.new (w.alloc (.cells #[.slice A n c] 49)) 3 #[.int .i64 (fr : Int)]).alloc (.cells #[.func (.func fo) #[] lo] 59)
 have b2 := Blk.new ((w.alloc (.cells #[.slice A n c] 49)).alloc (.cells #[.int .i64 (fr : Int)] 3)) 59 #[.func (.func fo) #[] lo]
 simp only [World.size_alloc] at b1 b2
 have hk : Keep NoB w (((w.alloc (.cells #[.slice A n c] 49)).alloc (.cells #[.int .i64 (fr : Int)] 3)).alloc (.cells #[.func (.func fo) #[] lo] 59)) := (((Keep.refl NoB w).alloc _).alloc _).alloc _
 have HB := Lib.hid (And.intro hk (And.intro b1 (And.intro b0 b2)))
 clear b0 b1 b2 hk
 go_enter Tryz.func50, Tryz.ntmps50
 go_wp2
 go_ret
 exact ⟨rfl, by simp [World.size_alloc], HB.out⟩
end Go.Proofs.YtghdibbooegocaaGreatDoor.G

namespace Go.Proofs.YtghdibbooegocaaGreatDoor.G
open Go.RowKit Go.Shelf W
attribute [local go_sem] Oper.semAt_some

theorem keep_putD (W : World) (D : Nat) (o : Obj) : Keep (fun k => k = D) W (W.putObj D o) := (Keep.refl _ W).grown (grownBy_putObj' W D o) (fun g e _ => by cases e; rfl)
def ReachedR (n : Nat) (s : Nat → List Nat) (w : World) (e : Ending) (w' : World) : Prop :=
 ∃ met b, e = .returned (.map (some b)) ∧ OMapS Tryz.prog 3 3 b met.length (lookN met) w' ∧ w.heap.size ≤ b ∧ Keep NoB w w' ∧ ((n = 0 ∧ met = []) ∨ (n ≠ 0 ∧ AllN s (fun _ => true) 0 met))
structure RchI (w : World) (m bx : Nat) (pre : List (Nat × Nat)) (p : BSet) (W : World) : Prop where
 p : p = fun k => k = m
 kp : Keep NoB w W
 map : OMapS Tryz.prog 3 3 m pre.length (lookN pre) W
 bx : Blk W bx 51 #[.map (some m)]
theorem rch_out (w : World) (m bx B : Nat) (hm : m < B) (hb : bx < B) (hw : w.heap.size ≤ B) : KeepsOutF B (RchI w m bx) := by
 rintro pre p W W' h hs
 exact ⟨h.p, h.kp.trans hs.keep (fun k hk hl => by omega), h.map.keep hs.keep (fun hk => by omega), h.bx.keep hs.keep (fun hk => by omega)⟩

set_option maxRecDepth 100000 in
set_option maxHeartbeats 8000000 in
theorem reached_any (A : Option Addr) (T : BSet) (Bf : Nat → Option Addr) (cf : Nat → Nat) (n c : Nat) (s : Nat → List Nat) (w : World) (hst : StAt T A Bf cf n s w) (hn : n ≤ 1000) (hs : Hid (∀ i a, i < n → a ∈ s i → a < n)) (hsl : Hid (∀ i, i < n → (s i).length ≤ 2)) :
  Calls Tryz.prog 34 #[.slice A n c] w (ReachedR n s w) := by
 have hmm := @run_makeMap Tryz.prog
 have HS := Lib.hid hst.here
 clear hst
 refine (callsIn_wide (n := 4)).1 ?_
 refine callsIn_of_wp_marks Tryz.func34 rfl trivial ?_ rfl
 simp only [Tryz.ntmps34, List.size_toArray, List.length_cons, List.length_nil, Nat.reduceAdd, Nat.reduceSub, Array.replicate_succ, Array.replicate_zero, List.push_toArray, List.append_toArray, List.nil_append, List.cons_append]
 have hM0 : OMapS Tryz.prog 3 3 w.heap.size 0 (lookN []) ((w.alloc (.map #[] 0)).alloc (.cells #[.map (some w.heap.size)] 51)) := ((OMapS.new Tryz.prog 3 3 w).keep ((Keep.refl NoB _).alloc _) id).congr fun _ => rfl
 have hB0 : Blk ((w.alloc (.map #[] 0)).alloc (.cells #[.map (some w.heap.size)] 51)) (w.heap.size + 1) 51 #[.map (some w.heap.size)] := by have := Blk.new (w.alloc (.map #[] 0)) 51 #[.map (some w.heap.size)]; simpa [World.size_alloc] using this
 have hk0 : Keep NoB w ((w.alloc (.map #[] 0)).alloc (.cells #[.map (some w.heap.size)] 51)) := ((Keep.refl NoB w).alloc _).alloc _
 have hz0 : ((w.alloc (.map #[] 0)).alloc (.cells #[.map (some w.heap.size)] 51)).heap.size = w.heap.size + 1 + 1 := by simp [World.size_alloc]
 gi_wp2
 generalize (w.alloc (.map #[] 0)).alloc (.cells #[.map (some w.heap.size)] 51) = W0 at *
 refine ⟨trivial, (callsIn_wide.2 (nearest_any A n c 0 51 #[] W0)).mono ?_⟩
 rintro e W1 ⟨rfl, hz1, k1, bf, bs, bo⟩
 have hH0 : NrH w.heap.size 0 A Bf cf n c s 51 #[] (W0.heap.size + 1) W0.heap.size (W0.heap.size + 1 + 1) W1 := ⟨bf, bs, bo, HS.out.keepN (keepN hk0 k1)⟩
 have hstp := Lib.hid (near_stops 2 3 0 n c 51 (W0.heap.size + 1) W0.heap.size (W0.heap.size + 1 + 1) A Bf cf s (fun _ => true) #[] hn (fun h => by omega) (by omega) hs hsl
  (NrH w.heap.size 0 A Bf cf n c s 51 #[] (W0.heap.size + 1) W0.heap.size (W0.heap.size + 1 + 1)) (fun _ _ => True) (fun W h => h.nr) (enters_of Tryz.func51 rfl rfl) (fun _ W q _ _ _ => anywhere_any q W))
 have hi0 : RchI w w.heap.size (w.heap.size + 1) [] (fun k => k = w.heap.size) W1 := ⟨rfl, keepN hk0 k1, hM0.keep k1 id, hB0.keep k1 id⟩
 have hHs : ∀ (O : Nat → Prop) (W2 W3 : World), (∀ k, O k → (k = w.heap.size) ∨ W1.heap.size ≤ k) → NrH w.heap.size 0 A Bf cf n c s 51 #[] (W0.heap.size + 1) W0.heap.size (W0.heap.size + 1 + 1) W2 → Keep O W2 W3 → NrH w.heap.size 0 A Bf cf n c s 51 #[] (W0.heap.size + 1) W0.heap.size (W0.heap.size + 1 + 1) W3 :=
  fun O W2 W3 hO h hk => h.keep hk (fun k hk h => by have := hO k h; omega) (fun h => by have := hO _ h; omega) (fun h => by have := hO _ h; omega) (fun h => by have := hO _ h; omega)
 have hp0 : ∀ k, (k = w.heap.size) → k < W1.heap.size := fun k hk => by omega
 have HZ := Lib.hid (And.intro hz0 hz1)
 clear bf bs bo k1 hk0 hM0 hB0 HS hmm hz0 hz1
 gi_wp2_with fail
 obtain ⟨hz0, hz1⟩ := HZ.out
 refine wpIn_rangeFunc_F (m := 2) (gf := 64) (lb := #[.pointer (some ⟨W0.heap.size + 1, 0, none⟩), .pointer (some ⟨W0.heap.size, 0, none⟩), .pointer (some ⟨W0.heap.size + 1 + 1, 0, none⟩)]) rfl (enters_of Tryz.func64 rfl rfl)
  hstp.out (fun _ => rfl) (RchI w w.heap.size (w.heap.size + 1)) (fun _ _ _ _ => False) (rch_out w _ _ _ (by omega) (by omega) (by omega)) (fun pre q W h k hk => by rw [h.p] at hk; subst hk; exact h.map.omap.lt) (fun _ _ _ _ => trivial) (fun _ _ _ _ _ h _ => h) hi0 hp0 hH0 hHs
  (fun pre x q a' W => RchI w w.heap.size (w.heap.size + 1) pre q W ∧ a' = { tmps := #[.slice A n c, undef, .map none, .pointer (some ⟨w.heap.size + 1, 0, none⟩), .int .i64 (x.1 : Int), .int .i64 (x.2 : Int), .map (some w.heap.size), .slice A n c, .func (.func 64) #[] #[.pointer (some ⟨W0.heap.size + 1, 0, none⟩), .pointer (some ⟨W0.heap.size, 0, none⟩), .pointer (some ⟨W0.heap.size + 1 + 1, 0, none⟩)], .int .i64 (x.1 : Int), .int .i64 (x.2 : Int), undef, undef, undef, undef], defers := [] }) ?hax ?assign ?body ?done ?stop
 case hax =>
  rintro pre x a' u q W W' ⟨g1, g4⟩ hs
  exact ⟨rch_out w _ _ _ (by omega) (by omega) (by omega) _ _ _ _ g1 hs, g4⟩
 case assign =>
  rintro l pre x q W hI hen
  have HI := Lib.hid hI
  clear hI hi0 hp0 hH0 hHs hstp hz0 hz1
  gi_wp2
  exact ⟨q, Rnd.refl _ _, HI.out, trivial⟩
 case body =>
  rintro l pre x q a' W hen ⟨g1, rfl⟩
  obtain ⟨hxm, hx1, hx2, hpl⟩ := hen.new hs.out
  obtain ⟨W4, hup, hM4, hg4⟩ := g1.map.update (t := 51) Tryz.underlying51 Tryz.underlying3 Tryz.underlying3 (by unfold maxLen; omega) (x.1 : Int) x.2 (look_nat.2 hxm) (wfN (by omega)) (wfN (by omega))
  have c0 := g1.bx.cell 0
  simp only [List.getElem?_toArray, List.getElem?_cons_zero] at c0
  have hq := g1.p
  have hfin : Hid (∃ p', Rnd q p' W W4 ∧ RchI w w.heap.size (w.heap.size + 1) (pre ++ [x]) p' W4) := by
   subst hq
   have hkm : Keep (fun k => k = w.heap.size) W W4 := (Keep.refl _ W).grown hg4 (fun g e _ => by cases e; rfl)
   refine ⟨_, Rnd.of_keep hkm, rfl, g1.kp.trans hkm (fun k hk hl => by omega), ?_, g1.bx.keep hkm (by omega)⟩
   rw [List.length_append, List.length_singleton]
   exact hM4.congr fun y => by have := putO_look (p := x.2) hxm y; exact this
  clear g1 hM4 hg4 hi0 hp0 hH0 hHs hstp hq hz0 hz1
  gi_wp2
  exact hfin.out
 case done =>
  rintro D xs q W hD hpD hS g1 hK
  have c0 := g1.bx.cell 0
  simp only [List.getElem?_toArray, List.getElem?_cons_zero] at c0
  have HF := Lib.hid (And.intro g1.map (And.intro g1.kp hS))
  rename_i K2 aK
  refine aK _ _ ?_
  clear g1 hi0 hp0 hH0 hHs hstp hS
  gi_wp2
  refine ⟨by simp, .inl ⟨_, _, rfl, run_takeDeferred hK, ?_⟩⟩
  refine ⟨.map (some w.heap.size), by simp [results, Tryz.results34, go_sem], ?_⟩
  have hkD : Keep (fun k => k = D) W (W.putObj D (.deferred none)) := keep_putD W D _
  exact ⟨xs, w.heap.size, rfl, HF.out.1.keep hkD (fun h => by omega), Nat.le_refl _, HF.out.2.1.trans hkD (fun k hk hl => by omega), HF.out.2.2⟩
 case stop =>
  rintro D c pre q W hD hpD _ h
  exact h.elim
end Go.Proofs.YtghdibbooegocaaGreatDoor.G

namespace Go.Proofs.YtghdibbooegocaaGreatDoor
open Go.RowKit Go.Shelf

def markOf (D : Nat) : Deferred := { target := .collected D, args := #[] }
def Marks (w : World) (W : World) (Ds : List Nat) : Prop := Ds.Nodup ∧ ∀ D ∈ Ds, w.heap.size ≤ D ∧ W.heap[D]? = some (.deferred (some []))
theorem Marks.nil (w W : World) : Marks w W [] := ⟨List.nodup_nil, fun _ h => by simp at h⟩
theorem Marks.keep {O : Nat → Prop} {w W W' : World} {Ds : List Nat} (h : Marks w W Ds) (hk : Keep O W W') (hO : ∀ D ∈ Ds, ¬ O D) : Marks w W' Ds := ⟨h.1, fun D hD => ⟨(h.2 D hD).1, (hk.block D (Array.getElem?_eq_some_iff.1 (h.2 D hD).2).1 (hO D hD)).trans (h.2 D hD).2⟩⟩
theorem Marks.lt {w W : World} {Ds : List Nat} (h : Marks w W Ds) {D : Nat} (hD : D ∈ Ds) : D < W.heap.size := (Array.getElem?_eq_some_iff.1 (h.2 D hD).2).1
theorem Marks.cons {w W : World} {Ds : List Nat} {D : Nat} (h : Marks w W Ds) (hn : D ∉ Ds) (hw : w.heap.size ≤ D) (hD : W.heap[D]? = some (.deferred (some []))) : Marks w W (D :: Ds) :=
 ⟨List.nodup_cons.2 ⟨hn, h.1⟩, fun E hE => by
  rcases List.mem_cons.1 hE with rfl | hE
  ·exact ⟨hw, hD⟩
  ·exact h.2 E hE⟩
theorem leaves_marks {F : Fence} {n : Nat} {P : Program} {fn : Func} {tmps : Array Value} {R : Ending → World → Prop} {w : World} (T : World → Prop) (hT : ∀ (D : Nat) W, w.heap.size ≤ D → W.heap[D]? = some (.deferred (some [])) → T W → T (W.putObj D (.deferred none)))
  (hR : ∀ W, T W → LeavesIn F n P fn tmps R [] .returning W) : ∀ (Ds : List Nat) (W : World), Marks w W Ds → T W → LeavesInM F n P fn tmps R (Ds.map markOf) .returning W
 | [], W, _, h => hR W h
 | D :: Ds, W, hm, h => by
  have hD := hm.2 D (by simp)
  have hn := List.nodup_cons.1 hm.1
  refine ⟨by simp, .inl ⟨D, _, rfl, run_takeDeferred hD.2, leaves_marks T hT hR Ds _ ⟨hn.2, fun E hE => ?_⟩ (hT D W hD.1 hD.2 h)⟩⟩
  have hE' := hm.2 E (by simp [hE])
  exact ⟨hE'.1, (World.putObj_heap_other (by rintro rfl; exact hn.1 hE)).trans hE'.2⟩
end Go.Proofs.YtghdibbooegocaaGreatDoor

namespace Go.Proofs.YtghdibbooegocaaGreatDoor.G
open Go.RowKit Go.Shelf W

def wm (wl VL : List Nat) : List (Nat × Nat) := wl.zipIdx ++ VL.map fun y => (y, 0)
section
variable {wl VL : List Nat}
theorem keys_wm : keysN (wm wl VL) = wl ++ VL := by
 unfold wm
 rw [keys_append, zip_keys]
 unfold keysN
 rw [List.map_map, show ((fun x : Nat × Nat => x.1) ∘ fun y => (y, 0)) = id from rfl, List.map_id]
theorem wm_snoc (y : Nat) : wm wl (VL ++ [y]) = wm wl VL ++ [(y, 0)] := by unfold wm; rw [List.map_append, List.append_assoc]; rfl
theorem wm_nil : wm wl [] = wl.zipIdx := by unfold wm; simp
theorem look_wm (y : Nat) : (lookN (wm wl VL) (y : Int)).getD 0 = posL wl y := by
 unfold posL wm lookN
 rw [List.find?_append]
 cases hf : wl.zipIdx.find? fun e => decide ((e.1 : Int) = (y : Int)) with
 | some e => rfl
 | none =>
  show (Option.map _ (List.find? _ (VL.map _))).getD 0 = 0
  cases hg : (VL.map fun y => (y, 0)).find? fun e => decide ((e.1 : Int) = (y : Int)) with
  | none => rfl
  | some e =>
   obtain ⟨z, _, rfl⟩ := List.mem_map.1 (List.mem_of_find?_eq_some hg)
   rfl
theorem some_wm (y : Nat) : (lookN (wm wl VL) (y : Int)).isSome = decide (y ∈ wl ∨ y ∈ VL) := by
 by_cases h : y ∈ wl ∨ y ∈ VL
 ·rw [decide_eq_true h]
  cases hl : lookN (wm wl VL) (y : Int) with
  | some _ => rfl
  | none =>
   have := look_nat.1 hl
   rw [keys_wm, List.mem_append] at this
   exact absurd h this
 ·rw [decide_eq_false h, look_nat.2 (by rw [keys_wm, List.mem_append]; exact h)]
  rfl
def vl (wl VL : List Nat) (pre : List (Nat × Nat)) : List Nat := VL ++ (keysN pre).filter fun y => decide (y ∉ wl)
theorem vl_nil : vl wl VL [] = VL := by unfold vl; simp [keysN]
theorem vl_in {pre : List (Nat × Nat)} {x : Nat × Nat} (h : x.1 ∈ wl) : vl wl VL (pre ++ [x]) = vl wl VL pre := by
 unfold vl
 rw [keys_append, List.filter_append]
 simp [keysN, h]
theorem vl_out {pre : List (Nat × Nat)} {x : Nat × Nat} (h : x.1 ∉ wl) : vl wl VL (pre ++ [x]) = vl wl VL pre ++ [x.1] := by
 unfold vl
 rw [keys_append, List.filter_append, List.append_assoc]
 simp [keysN, h]
theorem vl_mem {pre : List (Nat × Nat)} {y : Nat} : y ∈ vl wl VL pre ↔ y ∈ VL ∨ (y ∈ keysN pre ∧ y ∉ wl) := by
 unfold vl
 rw [List.mem_append, List.mem_filter, decide_eq_true_iff]
end
theorem Near.opens {s : Nat → List Nat} {op : Nat → Bool} {fr k : Nat} {met : List (Nat × Nat)} (h : Near s op fr k met) {y : Nat} (hy : y ∈ keysN met) : y = fr ∨ op y = true := by
 obtain ⟨l, hw, hl⟩ := h.way y hy
 exact hl y hw.mem

structure NwI (w : World) (A : Option Addr) (n c b8 b16 : Nat) (wl VL : List Nat) (far : Nat) (v : Value) (L Ds : List Nat) (W : World) : Prop where
 kp : Keep NoB w W
 k2 : Blk W w.heap.size 49 #[.slice A n c]
 k5 : Blk W (w.heap.size + 1 + 1) 51 #[.map (some b16)]
 k8 : Blk W b8 59 #[.func (.func 56) #[] #[.pointer (some ⟨w.heap.size + 1 + 1, 0, none⟩)]]
 k10 : Blk W (b8 + 1) 3 #[.int .i64 (far : Int)]
 map : OMapS Tryz.prog 3 3 b16 (wm wl VL).length (lookN (wm wl VL)) W
 own : Own W 3 1 (fun k => b8 + 1 < k) v L.length (ivs (nz L))
 marks : Marks w W Ds
 nd : (wl ++ VL).Nodup
 lt : ∀ y ∈ wl ++ VL, y < n
 b : w.heap.size + 1 + 1 < b8
 b6 : w.heap.size ≤ b16
section
variable {w : World} {A : Option Addr} {n c b8 b16 far : Nat} {wl VL : List Nat} {v : Value} {L Ds : List Nat} {W W' : World}
theorem NwI.keep {O : BSet} (h : NwI w A n c b8 b16 wl VL far v L Ds W) (hk : Keep O W W') (h0 : ∀ k, k ≤ b8 + 1 → ¬ O k) (h1 : ¬ O b16) (h2 : ∀ g, v.ownBlock = some g → ¬ O g) (h3 : ∀ D ∈ Ds, ¬ O D) : NwI w A n c b8 b16 wl VL far v L Ds W' :=
 have hb := h.b
 ⟨h.kp.trans hk (fun k hk hl => absurd hk (h0 k (by omega))), h.k2.keep hk (h0 _ (by omega)), h.k5.keep hk (h0 _ (by omega)), h.k8.keep hk (h0 _ (by omega)), h.k10.keep hk (h0 _ (by omega)), h.map.keep hk h1,
  ⟨ownsRow_keep h.own.1 hk h2, h.own.2⟩, h.marks.keep hk h3, h.nd, h.lt, hb, h.b6⟩
theorem NwI.keepN (h : NwI w A n c b8 b16 wl VL far v L Ds W) (hk : Keep NoB W W') : NwI w A n c b8 b16 wl VL far v L Ds W' := h.keep hk (fun _ _ => id) id (fun _ _ => id) (fun _ _ => id)
theorem NwI.len (h : NwI w A n c b8 b16 wl VL far v L Ds W) : (wm wl VL).length ≤ n := by
 have h1 := nodup_len n _ h.nd h.lt
 have : (wm wl VL).length = (keysN (wm wl VL)).length := by unfold keysN; rw [List.length_map]
 rw [this, keys_wm]
 exact h1
structure NwA (w : World) (b8 b16 : Nat) (v : Value) (Ds : List Nat) (W : World) : Prop where
 m0 : b16 ≠ w.heap.size
 m5 : b16 ≠ w.heap.size + 1 + 1
 m8 : b16 ≠ b8
 m10 : b16 ≠ b8 + 1
 mv : ∀ g, v.ownBlock = some g → g ≠ b16 ∧ b8 + 1 < g ∧ g < W.heap.size
 md : b16 ∉ Ds
 dk : ∀ D ∈ Ds, D ≠ b8 + 1 ∧ D < W.heap.size ∧ v.ownBlock ≠ some D
 ml : b16 < W.heap.size
 bl : b8 + 1 < W.heap.size
theorem map_ne {P : Program} {k e : TypeId} {b m g : Nat} {f : Int → Option Nat} {W : World} {t : TypeId} {cs : Array Value} (h : OMapS P k e b m f W) (hg : Blk W g t cs) : b ≠ g := by
 obtain ⟨es, cc, hb⟩ := h.omap.obj
 rintro rfl
 have := (show W.heap[_]? = _ from hg).symm.trans hb
 cases this
theorem NwI.apart (h : NwI w A n c b8 b16 wl VL far v L Ds W) : NwA w b8 b16 v Ds W := by
 obtain ⟨es, cc, hb⟩ := h.map.omap.obj
 have hg : ∀ g, v.ownBlock = some g → ∃ cur, W.heap[g]? = some (.cells cur 3 (0, 0)) := fun g hg => by
  rcases h.own.1.2 with ⟨rfl, _⟩ | ⟨g', cap, cur, rfl, _, hh, _⟩
  ·cases hg
  ·cases hg; exact ⟨cur, hh⟩
 refine ⟨map_ne h.map h.k2, map_ne h.map h.k5, map_ne h.map h.k8, map_ne h.map h.k10, fun g e => ?_, fun hD => ?_, fun D hD => ⟨?_, h.marks.lt hD, fun e => ?_⟩, h.map.omap.lt, h.k10.lt⟩
 ·obtain ⟨cur, hcur⟩ := hg g e
  refine ⟨?_, h.own.2 g e, (Array.getElem?_eq_some_iff.1 hcur).1⟩
  rintro rfl
  rw [hb] at hcur; cases hcur
 ·have := (h.marks.2 b16 hD).2
  rw [hb] at this; cases this
 ·rintro rfl
  have := (h.marks.2 _ hD).2
  have := (show W.heap[_]? = _ from h.k10).symm.trans this
  cases this
 ·obtain ⟨cur, hcur⟩ := hg D e
  have := (h.marks.2 _ hD).2
  rw [hcur] at this; cases this
theorem NwI.setFar (h : NwI w A n c b8 b16 wl VL far v L Ds W) (far' : Nat) : NwI w A n c b8 b16 wl VL far' v L Ds (W.setCell ⟨b8 + 1, 0, none⟩ (.int .i64 (far' : Int))) := by
 have ha := h.apart
 have hb := h.b
 have hk := keep_set W (b8 + 1) 0 (.int .i64 (far' : Int))
 have hp := h.k10.put 0 (.int .i64 (far' : Int))
 simp only [List.setIfInBounds_toArray, List.set_cons_zero] at hp
 exact ⟨h.kp.trans hk (fun k hk hl => by omega), h.k2.keep hk (by omega), h.k5.keep hk (by omega), h.k8.keep hk (by omega), hp, h.map.keep hk ha.m10,
  ⟨ownsRow_keep h.own.1 hk (fun g e => by have := (ha.mv g e).2.1; omega), h.own.2⟩, h.marks.keep hk (fun D hD => (ha.dk D hD).1), h.nd, h.lt, hb, h.b6⟩
theorem NwI.more (h : NwI w A n c b8 b16 wl VL far v L Ds W) {y : Nat} (hy : y ∉ wl ++ VL) (hyn : y < n) {W' : World} (hm : OMapS Tryz.prog 3 3 b16 ((wm wl VL).length + 1) (putO (lookN (wm wl VL)) (y : Int) 0) W') (hg : W.grownBy W' (some b16)) : NwI w A n c b8 b16 wl (VL ++ [y]) far v L Ds W' := by
 have ha := h.apart
 have hb6 := h.b6
 have hk : Keep (fun k => k = b16) W W' := (Keep.refl _ W).grown hg (fun g e _ => by cases e; rfl)
 refine ⟨h.kp.trans hk (fun k hk hl => by omega), h.k2.keep hk (Ne.symm ha.m0), h.k5.keep hk (Ne.symm ha.m5), h.k8.keep hk (Ne.symm ha.m8), h.k10.keep hk (Ne.symm ha.m10), ?_,
  ⟨ownsRow_keep h.own.1 hk (fun g e => (ha.mv g e).1), h.own.2⟩, h.marks.keep hk (fun D hD e => ha.md (e ▸ hD)), ?_, fun z hz => ?_, h.b, hb6⟩
 ·rw [wm_snoc, List.length_append, List.length_singleton]
  exact hm.congr fun z => putO_look (by rw [keys_wm]; exact hy) z
 ·rw [← List.append_assoc]
  exact List.nodup_append.2 ⟨h.nd, by simp, fun a ha b hb => by rw [List.mem_singleton] at hb; subst hb; exact fun e => hy (e ▸ ha)⟩
 ·rw [← List.append_assoc] at hz
  rcases List.mem_append.1 hz with hz | hz
  ·exact h.lt z hz
  ·rw [List.mem_singleton.1 hz]; exact hyn
end

theorem around_any (q N b5 b16 : Nat) (g : Int → Option Nat) (w : World) (hq : q < 1000) (hb : Blk w b5 51 #[.map (some b16)]) (hm : OMap Tryz.prog 3 3 b16 N g w) :
  Calls Tryz.prog 56 #[.int .i64 (q : Int), .pointer (some ⟨b5, 0, none⟩)] w fun e w' => e = .returned (.bool (!(g (q : Int)).isSome)) ∧ w' = w := by
 have hlk := hm.look2 (t := 51) Tryz.underlying51 Tryz.underlying3 Tryz.underlying3 (int_zeroG _) (q : Int) (wfN (by omega))
 have c0 := hb.cell 0
 simp only [List.getElem?_toArray, List.getElem?_cons_zero] at c0
 generalize (g (q : Int)).isSome = r at hlk
 generalize (g (q : Int)).getD 0 = u at hlk
 clear hm hb
 go_enter Tryz.func56, Tryz.ntmps56
 go_wp2
 go_ret
 exact ⟨rfl, rfl⟩
end Go.Proofs.YtghdibbooegocaaGreatDoor.G
