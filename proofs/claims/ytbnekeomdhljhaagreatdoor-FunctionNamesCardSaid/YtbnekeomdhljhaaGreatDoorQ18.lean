/-
  FunctionNames' walk: the chapter's examples; names; what may not be; results; bytes that are none. No conditions.
-/
import Derived.Deep.OwnRows
import Derived.Test.YtbnekeomdhljhaaGreatDoorQ15
import Derived.Test.YtbnekeomdhljhaaGreatDoorQ16
import Derived.Test.YtbnekeomdhljhaaGreatDoorQ5
import Derived.Test.YtbnekeomdhljhaaGreatDoorShelf3
import Derived.Test.YtbnekeomdhljhaaGreatDoorQ17
namespace Go.Proofs.YtbnekeomdhljhaaGreatDoor.F
open Go.RowKit W

theorem repeatF_any (c : UInt8) (n : Nat) (hn : n ≤ 1000) (w : World) :
    Calls Tryz.prog 36 #[.string ⟨#[c]⟩, .int .i64 n] w fun e w' => e = .returned (.string (W.str (List.replicate n c))) ∧ Keep NoB w w' := by
  refine (Tryz.strings_Repeat ⟨#[c]⟩ n w (by omega) (by show 1 * n ≤ _; omega)).mono ?_
  rintro e w' ⟨rfl, hb⟩
  have := Lib.repeatL_replicate c 1 n
  refine ⟨?_, Keep.of_below hb⟩
  rw [show ((⟨#[c]⟩ : ByteArray).data.toList) = List.replicate 1 c from rfl, this, Nat.mul_one]
/-- What a function that may not be is answered. -/
theorem enc_bad (v : FV) (f : Fu) (w : World) (h : FnAt w v f) (hs : SmF v) (hb : okF f = false) : Calls Tryz.prog 10 #[v.val] w fun e w' => ∃ X c, e = .returned (.tuple #[.slice X 0 c, .int .i64 70]) ∧ Keep NoB w w' := by
  refine (encodeF_any v f w h hs).mono ?_
  rw [chkF_no hb, encF_no hb]
  rintro e w' ⟨u, rfl, hu, hk⟩
  obtain ⟨X, c, rfl, _⟩ := own_rdB hu
  exact ⟨X, c, rfl, hk⟩
theorem chk_bad (v : FV) (f : Fu) (w : World) (h : FnAt w v f) (hs : SmF v) (hb : okF f = false) : Calls Tryz.prog 18 #[v.val] w fun e w' => e = .returned (.int .i64 70) ∧ Keep NoB w w' := check_any v f w h hs 70 (chkF_no hb)
theorem slots_bad (v : FV) (f : Fu) (w : World) (h : FnAt w v f) (hs : SmF v) (hb : okF f = false) : Calls Tryz.prog 31 #[v.val] w fun e w' => ∃ A c, e = .returned (.slice A 0 c) ∧ Keep NoB w w' := by
  refine (slots_lit f [] 0 v w ⟨h, hs⟩ (slF_no hb) rfl).mono ?_
  rintro e w' ⟨A, c, rfl, _, hk⟩
  exact ⟨A, c, rfl, hk⟩
theorem begin_bad (v : FV) (f : Fu) (X : Option Addr) (x : List (Int × Int)) (m c : Nat) (w : World) (h : FnAt w v f) (hs : SmF v) (hx : Rd w X (vvs x)) (hm : x.length = m) (hm1 : m ≤ 100) (hb : begL f x = [] ∧ begE f x = 70) :
    Calls Tryz.prog 26 #[v.val, .slice X m c] w fun e w' => ∃ A d, e = .returned (.tuple #[.slice A 0 d, .int .i64 70]) ∧ Keep NoB w w' := by
  refine (begin_lit f x [] 70 0 m c X v w ⟨h, hs⟩ hx hm hm1 hb rfl).mono ?_
  rintro e w' ⟨A, d, rfl, _, _, hk⟩
  exact ⟨A, d, rfl, hk⟩
theorem ivs_snoc (l : List Int) (x : Int) : ivs (l ++ [x]) = ivs l ++ [.int .i64 x] := by simp [ivs]
theorem rep_snoc (k : Nat) : ivs (3 :: List.replicate (k + 1) 4) = ivs (3 :: List.replicate k 4) ++ [.int .i64 4] := by
  rw [List.replicate_succ']; simp [ivs]
theorem results_lit (f : Fu) (x l : List (Int × Int)) (E : Int) (n m c : Nat) (X : Option Addr) (v : FV) (w : World) (h : FnV f v w) (hx : Rd w X (vvs x)) (hm : x.length = m) (hm1 : m ≤ 1000) (hc : m ≤ c) (he : resL f x = l ∧ resE f x = E) (hn : l.length = n) :
    Calls Tryz.prog 28 #[v.val, .slice X m c] w fun e w' => ∃ A d, e = .returned (.tuple #[.slice A n d, .int .i64 E]) ∧ n ≤ d ∧ Rd w' A (vvs l) ∧ Keep NoB w w' := by
  obtain ⟨he, rfl⟩ := he
  refine (results_any v f X x m c w h.1 h.2 hx hm hm1 hc).mono ?_
  rintro e w' ⟨u, rfl, hO, hk⟩
  obtain ⟨A, d, rfl, hc, hr⟩ := own_vvs hO he hn
  exact ⟨A, d, rfl, hc, hr, hk⟩
theorem rd_partN {w : World} {g : Nat} {t : TypeId} {cs : Array Value} {xs : List Value} (h : Blk w g t cs) (off : Nat) (hx : xs = (cs.toList.drop off).take xs.length) : Rd w (some ⟨g, off, none⟩) xs := fun _ =>
  ⟨g, off, rfl, fun j u hu => by
    rw [h.cell (off + j)]
    rw [hx, List.getElem?_take] at hu
    split at hu
    · rw [List.getElem?_drop] at hu; simpa using hu
    · cases hu⟩
/-- What the values are that the region of too few slots yields. -/
def SR (g : Nat) : Nat → Value → World → Prop
  | 0 => fun u w => ∃ v : FV, u = v.val ∧ FnV fSome v w
  | 1 => fun u _ => u = .slice (some ⟨g, 0, none⟩) 4 4
  | 2 => fun u _ => u = .slice (some ⟨g, 0, none⟩) 3 4
  | 3 => fun u _ => ∃ R5 c5, u = .tuple #[.slice R5 0 c5, .int .i64 72]
  | 4 => fun u _ => ∃ R5 c5, u = .tuple #[.slice R5 0 c5, .int .i64 72]
  | 5 => fun u _ => ∃ R5 c5, u = .slice R5 0 c5
  | 6 => fun u _ => u = .int .i64 72
  | 7 => fun u _ => ∃ R5 c5, u = .slice R5 0 c5
  | 8 => fun u _ => u = .int .i64 72
  | _ => fun _ _ => True
theorem SR_stable (g : Nat) : ∀ i u w w', SR g i u w → Keep NoB w w' → SR g i u w'
  | 0, _, _, _, ⟨v, e, h⟩, hk => ⟨v, e, h.keepN hk⟩
  | 1, _, _, _, h, _ => h
  | 2, _, _, _, h, _ => h
  | 3, _, _, _, h, _ => h
  | 4, _, _, _, h, _ => h
  | 5, _, _, _, h, _ => h
  | 6, _, _, _, h, _ => h
  | 7, _, _, _, h, _ => h
  | 8, _, _, _, h, _ => h
  | _ + 9, _, _, _, h, _ => h
/-- What the values are of the region that asks about all that was read: those listed, and number 8 the example function. -/
def SQN (l : List Value) (i : Nat) (u : Value) (w : World) : Prop := if i = 8 then ∃ v : FV, u = v.val ∧ FnV fSome v w else u = l.getD i undef
theorem SQN_stable (l : List Value) (i : Nat) (u : Value) (w w' : World) (h : SQN l i u w) (hk : Keep NoB w w') : SQN l i u w' := by
  unfold SQN at h ⊢
  split at h
  · rw [if_pos (by assumption)]
    obtain ⟨v, e, h⟩ := h
    exact ⟨v, e, h.keepN hk⟩
  · rw [if_neg (by assumption)]
    exact h
theorem s_len : (encF fSome).length = 11 := by kernel_rfl
theorem s_dec : decF (encF fSome ++ [9]) 0 = some (fSome, 11) := by kernel_rfl
theorem s_cut : decF ((encF fSome).take 10) 0 = none := by kernel_rfl
theorem s_nil : decF [] 0 = none := by kernel_rfl
theorem rd_byte9 {w : World} {g : Nat} (hg : g = w.heap.size) : V.Rd (w.alloc (.cells #[.int .u8 9] 5)) (some ⟨g, 0, none⟩) [9] := fun _ =>
  ⟨_, rfl, fun j u hu => by
    subst hg
    obtain ⟨hj, rfl⟩ := List.getElem?_eq_some_iff.1 hu
    have e : j = 0 := by simp at hj; omega
    subst e
    exact (Blk.new w 5 #[.int .u8 9]).cell 0⟩
theorem on_n (A : Option Addr) (l : List UInt8) (n c : Nat) (w : World) (hn : l.length = n) (hl : n ≤ 140737488355328) (hr : V.Rd w A l) :
    Calls Tryz.prog 12 #[.slice A n c] w fun e w' => ∃ br, e = .returned (.pointer (some ⟨br, 0, none⟩)) ∧ V.ReelAt w' br (Fresh w) l 0 ∧ Keep NoB w w' := by
  subst hn; exact V.on_any w A l c hr hl
/-- Rows whose first numbers differ lie in different blocks. -/
theorem own_differ {w : World} {P P' : Nat → Prop} {A B : Option Addr} {n c m d g k : Nat} {x y : Int} {xs ys : List Int} (h1 : Own w 3 1 P (.slice A n c) n (ivs (x :: xs))) (h2 : Own w 3 1 P' (.slice B m d) m (ivs (y :: ys))) (hne : x ≠ y) (e1 : (Value.slice A n c).ownBlock = some g) (e2 : (Value.slice B m d).ownBlock = some k) : g ≠ k := by
  rintro rfl
  have a1 := h1.1.cells e1 0 (.int .i64 x) rfl
  have a2 := h2.1.cells e2 0 (.int .i64 y) rfl
  rw [a1] at a2
  injection a2 with a2
  injection a2 with _ a2
  exact hne a2
theorem own_head {w : World} {E size : Nat} {P : Nat → Prop} {A : Option Addr} {n c : Nat} {xs : List Value} (h : Own w E size P (.slice A n c) n xs) (h0 : 0 < n) : ∃ g, A = some ⟨g, 0, none⟩ ∧ P g ∧ g < w.heap.size := by
  rcases h.1.2 with ⟨e, e'⟩ | ⟨g, cap, cur, e, _, hh, _⟩
  · omega
  · injection e with e _ _
    subst e
    exact ⟨g, rfl, h.2 g rfl, (Array.getElem?_eq_some_iff.1 hh).1⟩

theorem own_cap {w : World} {E size k : Nat} {P : Nat → Prop} {A : Option Addr} {n c : Nat} {xs : List Value} (h : Own w E size P (.slice A n c) n xs) (hn : n = k) : k ≤ c := by
  obtain ⟨_, _, e, hc, _⟩ := h.form
  injection e with _ _ e
  omega
theorem own_blkOf {w : World} {E size : Nat} {P : Nat → Prop} {g n c : Nat} {xs : List Value} (h : Own w E size P (.slice (some ⟨g, 0, none⟩) n c) n xs) : ∃ cur, Blk w g E cur := by
  rcases h.1.2 with ⟨e, _⟩ | ⟨g', cap, cur, e, _, hh, _⟩
  · cases e
  · injection e with e _ _
    injection e with e
    injection e with e _ _
    subst e
    exact ⟨cur, hh⟩
/-- The locals are others; the other lists, whose first numbers differ, stay. -/
theorem swap_own {w wx : World} {P P9 : Nat → Prop} {v : FV} {f : Fu} {gL n' c' : Nat} {x y z : Int} {xs ys zs lc' : List Int} {A' : Option Addr} (h : OwnF w P v f) (hL : v.L = some ⟨gL, 0, none⟩) (hx : f.ar = x :: xs) (hy : f.rs = y :: ys) (hz : f.lc = z :: zs) (h1 : x ≠ z) (h2 : y ≠ z)
    (h9 : Own wx 3 1 P9 (.slice A' n' c') n' (ivs lc')) (hk : Keep (fun k => k = gL ∨ w.heap.size ≤ k) w wx) : OwnF wx (fun _ => True) ⟨v.S, v.A, v.na, v.ca, v.B, v.nb, v.cb, A', n', c', v.D, v.nd, v.cd⟩ ⟨f.nm, f.ar, f.rs, lc', f.bd⟩ := by
  obtain ⟨S, A, na, ca, B, nb, cb, L, nl, cl, D, nd, cd⟩ := v
  dsimp only at hL
  subst hL
  obtain ⟨nm, ar, rs, lc, bd⟩ := f
  dsimp only at hx hy hz
  subst hx hy hz
  obtain ⟨cur, hb⟩ := own_blkOf h.ol
  have a1 : Own w 3 1 (fun k => k < w.heap.size ∧ k ≠ gL) (.slice A na ca) na (ivs (x :: xs)) := ⟨h.oa.1, fun g e => ⟨(h.oa.1.lt g e).2, own_differ h.oa h.ol h1 e rfl⟩⟩
  have a2 : Own w 3 1 (fun k => k < w.heap.size ∧ k ≠ gL) (.slice B nb cb) nb (ivs (y :: ys)) := ⟨h.ob.1, fun g e => ⟨(h.ob.1.lt g e).2, own_differ h.ob h.ol h2 e rfl⟩⟩
  have a3 : Own w 74 3 (fun k => k < w.heap.size ∧ k ≠ gL) (.slice D nd cd) nd (C.iis bd) := ⟨h.od.1, fun g e => ⟨(h.od.1.lt g e).2, ((own_off h.od hb (by decide)).2 g e).2⟩⟩
  exact ⟨h.nm, (a1.keep hk (fun k hk e => by omega)).mono (fun _ _ _ => trivial), (a2.keep hk (fun k hk e => by omega)).mono (fun _ _ _ => trivial), h9.mono (fun _ _ _ => trivial), (a3.keep hk (fun k hk e => by omega)).mono (fun _ _ _ => trivial), h.hI⟩

set_option maxRecDepth 100000 in
set_option maxHeartbeats 32000000 in
theorem names_walk (w : World) : Calls Tryz.prog 5 #[] w fun e w' => e = .returned (.bool true) ∧ Keep NoB w w' := by
  obtain ⟨M32, h32⟩ : ∃ S, W.str (List.replicate 32 109) = S := ⟨_, rfl⟩
  obtain ⟨M33, h33⟩ : ∃ S, W.str (List.replicate 33 109) = S := ⟨_, rfl⟩
  have R32 := Lib.hid (fun w => repeatF_any 109 32 (by decide) w)
  have R33 := Lib.hid (fun w => repeatF_any 109 33 (by decide) w)
  rw [h32] at R32
  rw [h33] at R33
  have H32 : Hid (M32.data.toList = List.replicate 32 109) := by rw [← h32]; rfl
  have H33 : Hid (M33.data.toList = List.replicate 33 109) := by rw [← h33]; rfl
  have z32 : Hid (M32.size = 32) := by rw [← h32]; rfl
  have z33 : Hid (M33.size = 33) := by rw [← h33]; rfl
  have HSO := Lib.hid (fun w => some_own w)
  obtain ⟨i0, hi, hz0, hz1, hz2⟩ := info_parts int_info
  clear h32 h33
  go_enter Tryz.func5, Tryz.ntmps5
  go_wp2_with fail
  refine (R32.out _).mono ?_
  rintro e w1 ⟨rfl, k1⟩
  have gK := k1
  clear k1
  have HB := Lib.hid (And.intro (Blk.new w1 9 #[.string ⟨#[97]⟩, .string ⟨#[90, 57]⟩, .string ⟨#[120, 49, 121, 50]⟩, .string M32]) (keepN gK ((Keep.refl NoB w1).alloc (.cells #[.string ⟨#[97]⟩, .string ⟨#[90, 57]⟩, .string ⟨#[120, 49, 121, 50]⟩, .string M32] 9))))
  clear gK
  go_wp2
  go_loopw [1, 38] (fun nm i wr => ∃ k : Nat, k ≤ 4 ∧ i = .int .i64 (k : Int) ∧ nm = .bool true ∧ Hid (Blk wr w1.heap.size 9 #[.string ⟨#[97]⟩, .string ⟨#[90, 57]⟩, .string ⟨#[120, 49, 121, 50]⟩, .string M32] ∧ Keep NoB w wr)) (fun _ i _ => 4 - (intOf i).toNat)
  case atStart => exact ⟨0, by decide, rfl, rfl, HB⟩
  case round =>
    clear HB
    obtain ⟨k, hk, rfl, rfl, hI⟩ := hrel
    have hk5 : k = 0 ∨ k = 1 ∨ k = 2 ∨ k = 3 ∨ k = 4 := by omega
    rcases hk5 with rfl | rfl | rfl | rfl | rfl
    · have c0 : wr.cell? ⟨w1.heap.size, 0, none⟩ = some (.string ⟨#[97]⟩) := hI.out.1.cell 0
      go_wp2_with fail
      refine (named_any ⟨#[97]⟩ [97] _ rfl (by decide) 0 (by show _ = _; kernel_rfl)).mono ?_
      rintro e w2 ⟨rfl, rfl⟩
      go_wp2
      go_roundw
      case rel => exact ⟨1, by decide, by go_num, rfl, hI⟩
      case measure => simp [intOf]
    · have c0 : wr.cell? ⟨w1.heap.size, 1, none⟩ = some (.string ⟨#[90, 57]⟩) := hI.out.1.cell 1
      go_wp2_with fail
      refine (named_any ⟨#[90, 57]⟩ [90, 57] _ rfl (by decide) 0 (by show _ = _; kernel_rfl)).mono ?_
      rintro e w2 ⟨rfl, rfl⟩
      go_wp2
      go_roundw
      case rel => exact ⟨2, by decide, by go_num, rfl, hI⟩
      case measure => simp [intOf]
    · have c0 : wr.cell? ⟨w1.heap.size, 2, none⟩ = some (.string ⟨#[120, 49, 121, 50]⟩) := hI.out.1.cell 2
      go_wp2_with fail
      refine (named_any ⟨#[120, 49, 121, 50]⟩ [120, 49, 121, 50] _ rfl (by decide) 0 (by show _ = _; kernel_rfl)).mono ?_
      rintro e w2 ⟨rfl, rfl⟩
      go_wp2
      go_roundw
      case rel => exact ⟨3, by decide, by go_num, rfl, hI⟩
      case measure => simp [intOf]
    · have c0 : wr.cell? ⟨w1.heap.size, 3, none⟩ = some (.string M32) := hI.out.1.cell 3
      go_wp2_with fail
      refine (named_any M32 (List.replicate 32 109) _ H32 (by have := z32.out; omega) 0 (by show _ = _; kernel_rfl)).mono ?_
      rintro e w2 ⟨rfl, rfl⟩
      go_wp2
      go_roundw
      case rel => exact ⟨4, by decide, by go_num, rfl, hI⟩
      case measure => simp [intOf]
    · obtain ⟨wx1, rfl⟩ : ∃ wo, wo = wr := ⟨_, rfl⟩
      have gK := hI.out.2
      clear hI hk
      rw [show ((4 : Nat) : Int) = 4 from rfl]
      go_wp2_with fail
      refine (R33.out _).mono ?_
      rintro e w2 ⟨rfl, k1⟩
      replace gK := keepN gK k1
      clear k1
      have HB := Lib.hid (And.intro (Blk.new w2 9 #[.string ⟨#[]⟩, .string ⟨#[57]⟩, .string ⟨#[97, 95, 98]⟩, .string ⟨#[97, 32, 98]⟩, .string ⟨#[195, 169]⟩, .string ⟨#[64]⟩, .string ⟨#[91]⟩, .string ⟨#[96]⟩, .string ⟨#[123]⟩, .string M33]) (keepN gK ((Keep.refl NoB w2).alloc (.cells #[.string ⟨#[]⟩, .string ⟨#[57]⟩, .string ⟨#[97, 95, 98]⟩, .string ⟨#[97, 32, 98]⟩, .string ⟨#[195, 169]⟩, .string ⟨#[64]⟩, .string ⟨#[91]⟩, .string ⟨#[96]⟩, .string ⟨#[123]⟩, .string M33] 9))))
      clear gK
      go_wp2
      go_loopw [1, 52] (fun nm i wr => ∃ k : Nat, k ≤ 10 ∧ i = .int .i64 (k : Int) ∧ nm = .bool true ∧ Hid (Blk wr w2.heap.size 9 #[.string ⟨#[]⟩, .string ⟨#[57]⟩, .string ⟨#[97, 95, 98]⟩, .string ⟨#[97, 32, 98]⟩, .string ⟨#[195, 169]⟩, .string ⟨#[64]⟩, .string ⟨#[91]⟩, .string ⟨#[96]⟩, .string ⟨#[123]⟩, .string M33] ∧ Keep NoB w wr)) (fun _ i _ => 10 - (intOf i).toNat)
      case atStart => exact ⟨0, by decide, rfl, rfl, HB⟩
      case round =>
        clear HB
        obtain ⟨k, hk, rfl, rfl, hI⟩ := hrel
        have hk5 : k = 0 ∨ k = 1 ∨ k = 2 ∨ k = 3 ∨ k = 4 ∨ k = 5 ∨ k = 6 ∨ k = 7 ∨ k = 8 ∨ k = 9 ∨ k = 10 := by omega
        rcases hk5 with rfl | rfl | rfl | rfl | rfl | rfl | rfl | rfl | rfl | rfl | rfl
        · have c0 : wr.cell? ⟨w2.heap.size, 0, none⟩ = some (.string ⟨#[]⟩) := hI.out.1.cell 0
          go_wp2_with fail
          refine (named_any ⟨#[]⟩ [] _ rfl (by decide) 71 (by show _ = _; kernel_rfl)).mono ?_
          rintro e w2 ⟨rfl, rfl⟩
          go_wp2
          go_roundw
          case rel => exact ⟨1, by decide, by go_num, rfl, hI⟩
          case measure => simp [intOf]
        · have c0 : wr.cell? ⟨w2.heap.size, 1, none⟩ = some (.string ⟨#[57]⟩) := hI.out.1.cell 1
          go_wp2_with fail
          refine (named_any ⟨#[57]⟩ [57] _ rfl (by decide) 71 (by show _ = _; kernel_rfl)).mono ?_
          rintro e w2 ⟨rfl, rfl⟩
          go_wp2
          go_roundw
          case rel => exact ⟨2, by decide, by go_num, rfl, hI⟩
          case measure => simp [intOf]
        · have c0 : wr.cell? ⟨w2.heap.size, 2, none⟩ = some (.string ⟨#[97, 95, 98]⟩) := hI.out.1.cell 2
          go_wp2_with fail
          refine (named_any ⟨#[97, 95, 98]⟩ [97, 95, 98] _ rfl (by decide) 71 (by show _ = _; kernel_rfl)).mono ?_
          rintro e w2 ⟨rfl, rfl⟩
          go_wp2
          go_roundw
          case rel => exact ⟨3, by decide, by go_num, rfl, hI⟩
          case measure => simp [intOf]
        · have c0 : wr.cell? ⟨w2.heap.size, 3, none⟩ = some (.string ⟨#[97, 32, 98]⟩) := hI.out.1.cell 3
          go_wp2_with fail
          refine (named_any ⟨#[97, 32, 98]⟩ [97, 32, 98] _ rfl (by decide) 71 (by show _ = _; kernel_rfl)).mono ?_
          rintro e w2 ⟨rfl, rfl⟩
          go_wp2
          go_roundw
          case rel => exact ⟨4, by decide, by go_num, rfl, hI⟩
          case measure => simp [intOf]
        · have c0 : wr.cell? ⟨w2.heap.size, 4, none⟩ = some (.string ⟨#[195, 169]⟩) := hI.out.1.cell 4
          go_wp2_with fail
          refine (named_any ⟨#[195, 169]⟩ [195, 169] _ rfl (by decide) 71 (by show _ = _; kernel_rfl)).mono ?_
          rintro e w2 ⟨rfl, rfl⟩
          go_wp2
          go_roundw
          case rel => exact ⟨5, by decide, by go_num, rfl, hI⟩
          case measure => simp [intOf]
        · have c0 : wr.cell? ⟨w2.heap.size, 5, none⟩ = some (.string ⟨#[64]⟩) := hI.out.1.cell 5
          go_wp2_with fail
          refine (named_any ⟨#[64]⟩ [64] _ rfl (by decide) 71 (by show _ = _; kernel_rfl)).mono ?_
          rintro e w2 ⟨rfl, rfl⟩
          go_wp2
          go_roundw
          case rel => exact ⟨6, by decide, by go_num, rfl, hI⟩
          case measure => simp [intOf]
        · have c0 : wr.cell? ⟨w2.heap.size, 6, none⟩ = some (.string ⟨#[91]⟩) := hI.out.1.cell 6
          go_wp2_with fail
          refine (named_any ⟨#[91]⟩ [91] _ rfl (by decide) 71 (by show _ = _; kernel_rfl)).mono ?_
          rintro e w2 ⟨rfl, rfl⟩
          go_wp2
          go_roundw
          case rel => exact ⟨7, by decide, by go_num, rfl, hI⟩
          case measure => simp [intOf]
        · have c0 : wr.cell? ⟨w2.heap.size, 7, none⟩ = some (.string ⟨#[96]⟩) := hI.out.1.cell 7
          go_wp2_with fail
          refine (named_any ⟨#[96]⟩ [96] _ rfl (by decide) 71 (by show _ = _; kernel_rfl)).mono ?_
          rintro e w2 ⟨rfl, rfl⟩
          go_wp2
          go_roundw
          case rel => exact ⟨8, by decide, by go_num, rfl, hI⟩
          case measure => simp [intOf]
        · have c0 : wr.cell? ⟨w2.heap.size, 8, none⟩ = some (.string ⟨#[123]⟩) := hI.out.1.cell 8
          go_wp2_with fail
          refine (named_any ⟨#[123]⟩ [123] _ rfl (by decide) 71 (by show _ = _; kernel_rfl)).mono ?_
          rintro e w2 ⟨rfl, rfl⟩
          go_wp2
          go_roundw
          case rel => exact ⟨9, by decide, by go_num, rfl, hI⟩
          case measure => simp [intOf]
        · have c0 : wr.cell? ⟨w2.heap.size, 9, none⟩ = some (.string M33) := hI.out.1.cell 9
          go_wp2_with fail
          refine (named_any M33 (List.replicate 33 109) _ H33 (by have := z33.out; omega) 71 (by show _ = _; kernel_rfl)).mono ?_
          rintro e w2 ⟨rfl, rfl⟩
          go_wp2
          go_roundw
          case rel => exact ⟨10, by decide, by go_num, rfl, hI⟩
          case measure => simp [intOf]
        · obtain ⟨wx2, rfl⟩ : ∃ wo, wo = wr := ⟨_, rfl⟩
          have gK := hI.out.2
          clear hI hk
          rw [show ((10 : Nat) : Int) = 10 from rfl]
          go_wp2
          go_loopw [6, 63] (fun b i wr => ∃ k : Nat, k ≤ 8 ∧ i = .int .i64 (k : Int) ∧ b = .int .i64 (k : Int) ∧ Hid (Keep NoB w wr)) (fun _ i _ => 8 - (intOf i).toNat)
          case atStart => exact ⟨0, by decide, rfl, rfl, gK⟩
          case round =>
            clear gK
            obtain ⟨k, hk, rfl, rfl, hK⟩ := hrel
            have hk5 : k = 0 ∨ k = 1 ∨ k = 2 ∨ k = 3 ∨ k = 4 ∨ k = 5 ∨ k = 6 ∨ k = 7 ∨ k = 8 := by omega
            rcases hk5 with rfl | rfl | rfl | rfl | rfl | rfl | rfl | rfl | rfl
            · go_wp2_with fail
              refine (HSO.out _).mono ?_
              rintro e w3 ⟨v, rfl, hO, sv, k1⟩
              obtain ⟨pS, pA, pna, pca, pB, pnb, pcb, pL, pnl, pcl, pD, pnd, pcd⟩ := v
              dsimp only [FV.val, FV.cells]
              have gK := keepN hK.out k1
              have kA := (((Keep.refl NoB w3).alloc (.cells #[.string ⟨#[49]⟩, .slice pA pna pca, .slice pB pnb pcb, .slice pL pnl pcl, .slice pD pnd pcd] 27)))
              have hFa := hO.fn.keepN kA
              have hFn : FnAt (w3.alloc (.cells #[.string ⟨#[49]⟩, .slice pA pna pca, .slice pB pnb pcb, .slice pL pnl pcl, .slice pD pnd pcd] 27)) ⟨⟨#[49]⟩, pA, pna, pca, pB, pnb, pcb, pL, pnl, pcl, pD, pnd, pcd⟩ ⟨[49], [1, 4], [2], [3], [(24, 0, 0)]⟩ := ⟨rfl, hFa.ra, hFa.rb, hFa.rl, hFa.rd, hFa.la, hFa.lb, hFa.ll, hFa.ld, hFa.hI⟩
              have hsm : SmF ⟨⟨#[49]⟩, pA, pna, pca, pB, pnb, pcb, pL, pnl, pcl, pD, pnd, pcd⟩ := ⟨Nat.le_of_ble_eq_true rfl, sv.na, sv.nb, sv.nl, sv.nd⟩
              have bF : Blk (w3.alloc (.cells #[.string ⟨#[49]⟩, .slice pA pna pca, .slice pB pnb pcb, .slice pL pnl pcl, .slice pD pnd pcd] 27)) w3.heap.size 27 (FV.cells ⟨⟨#[49]⟩, pA, pna, pca, pB, pnb, pcb, pL, pnl, pcl, pD, pnd, pcd⟩) := (Blk.new w3 27 #[.string ⟨#[49]⟩, .slice pA pna pca, .slice pB pnb pcb, .slice pL pnl pcl, .slice pD pnd pcd])
              replace gK := keepN gK kA
              obtain ⟨d0, d1, d2, d3, d4⟩ := blk5 (v := ⟨⟨#[49]⟩, pA, pna, pca, pB, pnb, pcb, pL, pnl, pcl, pD, pnd, pcd⟩) bF
              dsimp only at d0 d1 d2 d3 d4
              have HX := Lib.hid (And.intro hFn (And.intro hsm (And.intro bF gK)))
              clear hO sv k1 kA hFa hFn hsm bF gK
              go_wp2_with fail
              refine (enc_bad ⟨⟨#[49]⟩, pA, pna, pca, pB, pnb, pcb, pL, pnl, pcl, pD, pnd, pcd⟩ ⟨[49], [1, 4], [2], [3], [(24, 0, 0)]⟩ _ HX.out.1 HX.out.2.1 (by kernel_rfl)).mono ?_
              rintro e w4 ⟨X4, c4, rfl, k1⟩
              replace HX := Lib.hid (And.intro (HX.out.1.keepN k1) (And.intro HX.out.2.1 (And.intro (HX.out.2.2.1.keep k1 id) (keepN HX.out.2.2.2 k1))))
              clear k1 d0 d1 d2 d3 d4
              obtain ⟨d0, d1, d2, d3, d4⟩ := blk5 (v := ⟨⟨#[49]⟩, pA, pna, pca, pB, pnb, pcb, pL, pnl, pcl, pD, pnd, pcd⟩) HX.out.2.2.1
              dsimp only at d0 d1 d2 d3 d4
              have kA := (Keep.refl NoB w4).alloc (.cells #[.int .i64 1, .int .i64 0, .int .i64 4, .int .i64 0] 68)
              go_wp2_with fail
              refine (begin_bad ⟨⟨#[49]⟩, pA, pna, pca, pB, pnb, pcb, pL, pnl, pcl, pD, pnd, pcd⟩ ⟨[49], [1, 4], [2], [3], [(24, 0, 0)]⟩ _ [(1, 0), (4, 0)] 2 2 _ (HX.out.1.keepN kA) HX.out.2.1 (rd_made rfl rfl) rfl (by decide) ⟨by kernel_rfl, by kernel_rfl⟩).mono ?_
              rintro e w5 ⟨X5, c5, rfl, k1⟩
              replace k1 := keepN kA k1
              replace HX := Lib.hid (And.intro (HX.out.1.keepN k1) (And.intro HX.out.2.1 (And.intro (HX.out.2.2.1.keep k1 id) (keepN HX.out.2.2.2 k1))))
              clear k1 kA d0 d1 d2 d3 d4
              obtain ⟨d0, d1, d2, d3, d4⟩ := blk5 (v := ⟨⟨#[49]⟩, pA, pna, pca, pB, pnb, pcb, pL, pnl, pcl, pD, pnd, pcd⟩) HX.out.2.2.1
              dsimp only at d0 d1 d2 d3 d4
              go_wp2_with fail
              refine (chk_bad ⟨⟨#[49]⟩, pA, pna, pca, pB, pnb, pcb, pL, pnl, pcl, pD, pnd, pcd⟩ ⟨[49], [1, 4], [2], [3], [(24, 0, 0)]⟩ _ HX.out.1 HX.out.2.1 (by kernel_rfl)).mono ?_
              rintro e w6 ⟨rfl, k1⟩
              replace HX := Lib.hid (And.intro (HX.out.1.keepN k1) (And.intro HX.out.2.1 (And.intro (HX.out.2.2.1.keep k1 id) (keepN HX.out.2.2.2 k1))))
              clear k1 d0 d1 d2 d3 d4
              obtain ⟨d0, d1, d2, d3, d4⟩ := blk5 (v := ⟨⟨#[49]⟩, pA, pna, pca, pB, pnb, pcb, pL, pnl, pcl, pD, pnd, pcd⟩) HX.out.2.2.1
              dsimp only at d0 d1 d2 d3 d4
              go_wp2_with fail
              refine (slots_bad ⟨⟨#[49]⟩, pA, pna, pca, pB, pnb, pcb, pL, pnl, pcl, pD, pnd, pcd⟩ ⟨[49], [1, 4], [2], [3], [(24, 0, 0)]⟩ _ HX.out.1 HX.out.2.1 (by kernel_rfl)).mono ?_
              rintro e w7 ⟨X7, c7, rfl, k1⟩
              have HK := Lib.hid (keepN HX.out.2.2.2 k1)
              clear k1 d0 d1 d2 d3 d4 HX hK
              go_wp2
              go_roundw
              case rel => exact ⟨1, by decide, by go_num, by go_num, HK⟩
              case measure => simp [intOf]
            · go_wp2_with fail
              refine (HSO.out _).mono ?_
              rintro e w3 ⟨v, rfl, hO, sv, k1⟩
              obtain ⟨pS, pA, pna, pca, pB, pnb, pcb, pL, pnl, pcl, pD, pnd, pcd⟩ := v
              dsimp only [FV.val, FV.cells]
              have gK := keepN hK.out k1
              have kA := (((Keep.refl NoB w3).alloc (.cells #[.string pS, .slice pA pna pca, .slice (some ⟨w3.heap.size + 1, 0, none⟩) 1 1, .slice pL pnl pcl, .slice pD pnd pcd] 27)).alloc (.cells (#[.int .i64 4]) 3))
              have hFa := hO.fn.keepN kA
              have hNew : Rd ((w3.alloc (.cells #[.string pS, .slice pA pna pca, .slice (some ⟨w3.heap.size + 1, 0, none⟩) 1 1, .slice pL pnl pcl, .slice pD pnd pcd] 27)).alloc (.cells (#[.int .i64 4]) 3)) (some ⟨w3.heap.size + 1, 0, none⟩) (ivs [4]) := rd_made (w := (w3.alloc (.cells #[.string pS, .slice pA pna pca, .slice (some ⟨w3.heap.size + 1, 0, none⟩) 1 1, .slice pL pnl pcl, .slice pD pnd pcd] 27))) (b := w3.heap.size + 1) (by simp) (by rfl)
              have hFn : FnAt ((w3.alloc (.cells #[.string pS, .slice pA pna pca, .slice (some ⟨w3.heap.size + 1, 0, none⟩) 1 1, .slice pL pnl pcl, .slice pD pnd pcd] 27)).alloc (.cells (#[.int .i64 4]) 3)) ⟨pS, pA, pna, pca, some ⟨w3.heap.size + 1, 0, none⟩, 1, 1, pL, pnl, pcl, pD, pnd, pcd⟩ ⟨[102], [1, 4], [4], [3], [(24, 0, 0)]⟩ := ⟨hFa.nm, hFa.ra, hNew, hFa.rl, hFa.rd, hFa.la, rfl, hFa.ll, hFa.ld, hFa.hI⟩
              have hsm : SmF ⟨pS, pA, pna, pca, some ⟨w3.heap.size + 1, 0, none⟩, 1, 1, pL, pnl, pcl, pD, pnd, pcd⟩ := ⟨sv.sz, sv.na, Nat.le_of_ble_eq_true rfl, sv.nl, sv.nd⟩
              have bF : Blk ((w3.alloc (.cells #[.string pS, .slice pA pna pca, .slice (some ⟨w3.heap.size + 1, 0, none⟩) 1 1, .slice pL pnl pcl, .slice pD pnd pcd] 27)).alloc (.cells (#[.int .i64 4]) 3)) w3.heap.size 27 (FV.cells ⟨pS, pA, pna, pca, some ⟨w3.heap.size + 1, 0, none⟩, 1, 1, pL, pnl, pcl, pD, pnd, pcd⟩) := (Blk.new w3 27 #[.string pS, .slice pA pna pca, .slice (some ⟨w3.heap.size + 1, 0, none⟩) 1 1, .slice pL pnl pcl, .slice pD pnd pcd]).alloc (.cells (#[.int .i64 4]) 3)
              replace gK := keepN gK kA
              obtain ⟨d0, d1, d2, d3, d4⟩ := blk5 (v := ⟨pS, pA, pna, pca, some ⟨w3.heap.size + 1, 0, none⟩, 1, 1, pL, pnl, pcl, pD, pnd, pcd⟩) bF
              dsimp only at d0 d1 d2 d3 d4
              have HX := Lib.hid (And.intro hFn (And.intro hsm (And.intro bF gK)))
              clear hO sv k1 kA hFa hNew hFn hsm bF gK
              go_wp2_with fail
              refine (enc_bad ⟨pS, pA, pna, pca, some ⟨w3.heap.size + 1, 0, none⟩, 1, 1, pL, pnl, pcl, pD, pnd, pcd⟩ ⟨[102], [1, 4], [4], [3], [(24, 0, 0)]⟩ _ HX.out.1 HX.out.2.1 (by kernel_rfl)).mono ?_
              rintro e w4 ⟨X4, c4, rfl, k1⟩
              replace HX := Lib.hid (And.intro (HX.out.1.keepN k1) (And.intro HX.out.2.1 (And.intro (HX.out.2.2.1.keep k1 id) (keepN HX.out.2.2.2 k1))))
              clear k1 d0 d1 d2 d3 d4
              obtain ⟨d0, d1, d2, d3, d4⟩ := blk5 (v := ⟨pS, pA, pna, pca, some ⟨w3.heap.size + 1, 0, none⟩, 1, 1, pL, pnl, pcl, pD, pnd, pcd⟩) HX.out.2.2.1
              dsimp only at d0 d1 d2 d3 d4
              have kA := (Keep.refl NoB w4).alloc (.cells #[.int .i64 1, .int .i64 0, .int .i64 4, .int .i64 0] 68)
              go_wp2_with fail
              refine (begin_bad ⟨pS, pA, pna, pca, some ⟨w3.heap.size + 1, 0, none⟩, 1, 1, pL, pnl, pcl, pD, pnd, pcd⟩ ⟨[102], [1, 4], [4], [3], [(24, 0, 0)]⟩ _ [(1, 0), (4, 0)] 2 2 _ (HX.out.1.keepN kA) HX.out.2.1 (rd_made rfl rfl) rfl (by decide) ⟨by kernel_rfl, by kernel_rfl⟩).mono ?_
              rintro e w5 ⟨X5, c5, rfl, k1⟩
              replace k1 := keepN kA k1
              replace HX := Lib.hid (And.intro (HX.out.1.keepN k1) (And.intro HX.out.2.1 (And.intro (HX.out.2.2.1.keep k1 id) (keepN HX.out.2.2.2 k1))))
              clear k1 kA d0 d1 d2 d3 d4
              obtain ⟨d0, d1, d2, d3, d4⟩ := blk5 (v := ⟨pS, pA, pna, pca, some ⟨w3.heap.size + 1, 0, none⟩, 1, 1, pL, pnl, pcl, pD, pnd, pcd⟩) HX.out.2.2.1
              dsimp only at d0 d1 d2 d3 d4
              go_wp2_with fail
              refine (chk_bad ⟨pS, pA, pna, pca, some ⟨w3.heap.size + 1, 0, none⟩, 1, 1, pL, pnl, pcl, pD, pnd, pcd⟩ ⟨[102], [1, 4], [4], [3], [(24, 0, 0)]⟩ _ HX.out.1 HX.out.2.1 (by kernel_rfl)).mono ?_
              rintro e w6 ⟨rfl, k1⟩
              replace HX := Lib.hid (And.intro (HX.out.1.keepN k1) (And.intro HX.out.2.1 (And.intro (HX.out.2.2.1.keep k1 id) (keepN HX.out.2.2.2 k1))))
              clear k1 d0 d1 d2 d3 d4
              obtain ⟨d0, d1, d2, d3, d4⟩ := blk5 (v := ⟨pS, pA, pna, pca, some ⟨w3.heap.size + 1, 0, none⟩, 1, 1, pL, pnl, pcl, pD, pnd, pcd⟩) HX.out.2.2.1
              dsimp only at d0 d1 d2 d3 d4
              go_wp2_with fail
              refine (slots_bad ⟨pS, pA, pna, pca, some ⟨w3.heap.size + 1, 0, none⟩, 1, 1, pL, pnl, pcl, pD, pnd, pcd⟩ ⟨[102], [1, 4], [4], [3], [(24, 0, 0)]⟩ _ HX.out.1 HX.out.2.1 (by kernel_rfl)).mono ?_
              rintro e w7 ⟨X7, c7, rfl, k1⟩
              have HK := Lib.hid (keepN HX.out.2.2.2 k1)
              clear k1 d0 d1 d2 d3 d4 HX hK
              go_wp2
              go_roundw
              case rel => exact ⟨2, by decide, by go_num, by go_num, HK⟩
              case measure => simp [intOf]
            · go_wp2_with fail
              refine (HSO.out _).mono ?_
              rintro e w3 ⟨v, rfl, hO, sv, k1⟩
              obtain ⟨pS, pA, pna, pca, pB, pnb, pcb, pL, pnl, pcl, pD, pnd, pcd⟩ := v
              dsimp only [FV.val, FV.cells]
              have gK := keepN hK.out k1
              have kA := (((Keep.refl NoB w3).alloc (.cells #[.string pS, .slice pA pna pca, .slice pB pnb pcb, .slice (some ⟨w3.heap.size + 1, 0, none⟩) 1 1, .slice pD pnd pcd] 27)).alloc (.cells (#[.int .i64 5]) 3))
              have hFa := hO.fn.keepN kA
              have hNew : Rd ((w3.alloc (.cells #[.string pS, .slice pA pna pca, .slice pB pnb pcb, .slice (some ⟨w3.heap.size + 1, 0, none⟩) 1 1, .slice pD pnd pcd] 27)).alloc (.cells (#[.int .i64 5]) 3)) (some ⟨w3.heap.size + 1, 0, none⟩) (ivs [5]) := rd_made (w := (w3.alloc (.cells #[.string pS, .slice pA pna pca, .slice pB pnb pcb, .slice (some ⟨w3.heap.size + 1, 0, none⟩) 1 1, .slice pD pnd pcd] 27))) (b := w3.heap.size + 1) (by simp) (by rfl)
              have hFn : FnAt ((w3.alloc (.cells #[.string pS, .slice pA pna pca, .slice pB pnb pcb, .slice (some ⟨w3.heap.size + 1, 0, none⟩) 1 1, .slice pD pnd pcd] 27)).alloc (.cells (#[.int .i64 5]) 3)) ⟨pS, pA, pna, pca, pB, pnb, pcb, some ⟨w3.heap.size + 1, 0, none⟩, 1, 1, pD, pnd, pcd⟩ ⟨[102], [1, 4], [2], [5], [(24, 0, 0)]⟩ := ⟨hFa.nm, hFa.ra, hFa.rb, hNew, hFa.rd, hFa.la, hFa.lb, rfl, hFa.ld, hFa.hI⟩
              have hsm : SmF ⟨pS, pA, pna, pca, pB, pnb, pcb, some ⟨w3.heap.size + 1, 0, none⟩, 1, 1, pD, pnd, pcd⟩ := ⟨sv.sz, sv.na, sv.nb, Nat.le_of_ble_eq_true rfl, sv.nd⟩
              have bF : Blk ((w3.alloc (.cells #[.string pS, .slice pA pna pca, .slice pB pnb pcb, .slice (some ⟨w3.heap.size + 1, 0, none⟩) 1 1, .slice pD pnd pcd] 27)).alloc (.cells (#[.int .i64 5]) 3)) w3.heap.size 27 (FV.cells ⟨pS, pA, pna, pca, pB, pnb, pcb, some ⟨w3.heap.size + 1, 0, none⟩, 1, 1, pD, pnd, pcd⟩) := (Blk.new w3 27 #[.string pS, .slice pA pna pca, .slice pB pnb pcb, .slice (some ⟨w3.heap.size + 1, 0, none⟩) 1 1, .slice pD pnd pcd]).alloc (.cells (#[.int .i64 5]) 3)
              replace gK := keepN gK kA
              obtain ⟨d0, d1, d2, d3, d4⟩ := blk5 (v := ⟨pS, pA, pna, pca, pB, pnb, pcb, some ⟨w3.heap.size + 1, 0, none⟩, 1, 1, pD, pnd, pcd⟩) bF
              dsimp only at d0 d1 d2 d3 d4
              have HX := Lib.hid (And.intro hFn (And.intro hsm (And.intro bF gK)))
              clear hO sv k1 kA hFa hNew hFn hsm bF gK
              go_wp2_with fail
              refine (enc_bad ⟨pS, pA, pna, pca, pB, pnb, pcb, some ⟨w3.heap.size + 1, 0, none⟩, 1, 1, pD, pnd, pcd⟩ ⟨[102], [1, 4], [2], [5], [(24, 0, 0)]⟩ _ HX.out.1 HX.out.2.1 (by kernel_rfl)).mono ?_
              rintro e w4 ⟨X4, c4, rfl, k1⟩
              replace HX := Lib.hid (And.intro (HX.out.1.keepN k1) (And.intro HX.out.2.1 (And.intro (HX.out.2.2.1.keep k1 id) (keepN HX.out.2.2.2 k1))))
              clear k1 d0 d1 d2 d3 d4
              obtain ⟨d0, d1, d2, d3, d4⟩ := blk5 (v := ⟨pS, pA, pna, pca, pB, pnb, pcb, some ⟨w3.heap.size + 1, 0, none⟩, 1, 1, pD, pnd, pcd⟩) HX.out.2.2.1
              dsimp only at d0 d1 d2 d3 d4
              have kA := (Keep.refl NoB w4).alloc (.cells #[.int .i64 1, .int .i64 0, .int .i64 4, .int .i64 0] 68)
              go_wp2_with fail
              refine (begin_bad ⟨pS, pA, pna, pca, pB, pnb, pcb, some ⟨w3.heap.size + 1, 0, none⟩, 1, 1, pD, pnd, pcd⟩ ⟨[102], [1, 4], [2], [5], [(24, 0, 0)]⟩ _ [(1, 0), (4, 0)] 2 2 _ (HX.out.1.keepN kA) HX.out.2.1 (rd_made rfl rfl) rfl (by decide) ⟨by kernel_rfl, by kernel_rfl⟩).mono ?_
              rintro e w5 ⟨X5, c5, rfl, k1⟩
              replace k1 := keepN kA k1
              replace HX := Lib.hid (And.intro (HX.out.1.keepN k1) (And.intro HX.out.2.1 (And.intro (HX.out.2.2.1.keep k1 id) (keepN HX.out.2.2.2 k1))))
              clear k1 kA d0 d1 d2 d3 d4
              obtain ⟨d0, d1, d2, d3, d4⟩ := blk5 (v := ⟨pS, pA, pna, pca, pB, pnb, pcb, some ⟨w3.heap.size + 1, 0, none⟩, 1, 1, pD, pnd, pcd⟩) HX.out.2.2.1
              dsimp only at d0 d1 d2 d3 d4
              go_wp2_with fail
              refine (chk_bad ⟨pS, pA, pna, pca, pB, pnb, pcb, some ⟨w3.heap.size + 1, 0, none⟩, 1, 1, pD, pnd, pcd⟩ ⟨[102], [1, 4], [2], [5], [(24, 0, 0)]⟩ _ HX.out.1 HX.out.2.1 (by kernel_rfl)).mono ?_
              rintro e w6 ⟨rfl, k1⟩
              replace HX := Lib.hid (And.intro (HX.out.1.keepN k1) (And.intro HX.out.2.1 (And.intro (HX.out.2.2.1.keep k1 id) (keepN HX.out.2.2.2 k1))))
              clear k1 d0 d1 d2 d3 d4
              obtain ⟨d0, d1, d2, d3, d4⟩ := blk5 (v := ⟨pS, pA, pna, pca, pB, pnb, pcb, some ⟨w3.heap.size + 1, 0, none⟩, 1, 1, pD, pnd, pcd⟩) HX.out.2.2.1
              dsimp only at d0 d1 d2 d3 d4
              go_wp2_with fail
              refine (slots_bad ⟨pS, pA, pna, pca, pB, pnb, pcb, some ⟨w3.heap.size + 1, 0, none⟩, 1, 1, pD, pnd, pcd⟩ ⟨[102], [1, 4], [2], [5], [(24, 0, 0)]⟩ _ HX.out.1 HX.out.2.1 (by kernel_rfl)).mono ?_
              rintro e w7 ⟨X7, c7, rfl, k1⟩
              have HK := Lib.hid (keepN HX.out.2.2.2 k1)
              clear k1 d0 d1 d2 d3 d4 HX hK
              go_wp2
              go_roundw
              case rel => exact ⟨3, by decide, by go_num, by go_num, HK⟩
              case measure => simp [intOf]
            · go_wp2_with fail
              refine (HSO.out _).mono ?_
              rintro e w3 ⟨v, rfl, hO, sv, k1⟩
              obtain ⟨pS, pA, pna, pca, pB, pnb, pcb, pL, pnl, pcl, pD, pnd, pcd⟩ := v
              dsimp only [FV.val, FV.cells]
              have gK := keepN hK.out k1
              have kA := (((Keep.refl NoB w3).alloc (.cells #[.string pS, .slice pA pna pca, .slice pB pnb pcb, .slice (some ⟨w3.heap.size + 1, 0, none⟩) 62 62, .slice pD pnd pcd] 27)).alloc (.cells (madeCells #[.int .i64 0] 62) 3))
              have hFa := hO.fn.keepN kA
              have hNew : Rd ((w3.alloc (.cells #[.string pS, .slice pA pna pca, .slice pB pnb pcb, .slice (some ⟨w3.heap.size + 1, 0, none⟩) 62 62, .slice pD pnd pcd] 27)).alloc (.cells (madeCells #[.int .i64 0] 62) 3)) (some ⟨w3.heap.size + 1, 0, none⟩) (ivs (List.replicate 62 0)) := rd_made (w := (w3.alloc (.cells #[.string pS, .slice pA pna pca, .slice pB pnb pcb, .slice (some ⟨w3.heap.size + 1, 0, none⟩) 62 62, .slice pD pnd pcd] 27))) (b := w3.heap.size + 1) (by simp) (by kernel_rfl)
              have hFn : FnAt ((w3.alloc (.cells #[.string pS, .slice pA pna pca, .slice pB pnb pcb, .slice (some ⟨w3.heap.size + 1, 0, none⟩) 62 62, .slice pD pnd pcd] 27)).alloc (.cells (madeCells #[.int .i64 0] 62) 3)) ⟨pS, pA, pna, pca, pB, pnb, pcb, some ⟨w3.heap.size + 1, 0, none⟩, 62, 62, pD, pnd, pcd⟩ ⟨[102], [1, 4], [2], List.replicate 62 0, [(24, 0, 0)]⟩ := ⟨hFa.nm, hFa.ra, hFa.rb, hNew, hFa.rd, hFa.la, hFa.lb, rfl, hFa.ld, hFa.hI⟩
              have hsm : SmF ⟨pS, pA, pna, pca, pB, pnb, pcb, some ⟨w3.heap.size + 1, 0, none⟩, 62, 62, pD, pnd, pcd⟩ := ⟨sv.sz, sv.na, sv.nb, Nat.le_of_ble_eq_true rfl, sv.nd⟩
              have bF : Blk ((w3.alloc (.cells #[.string pS, .slice pA pna pca, .slice pB pnb pcb, .slice (some ⟨w3.heap.size + 1, 0, none⟩) 62 62, .slice pD pnd pcd] 27)).alloc (.cells (madeCells #[.int .i64 0] 62) 3)) w3.heap.size 27 (FV.cells ⟨pS, pA, pna, pca, pB, pnb, pcb, some ⟨w3.heap.size + 1, 0, none⟩, 62, 62, pD, pnd, pcd⟩) := (Blk.new w3 27 #[.string pS, .slice pA pna pca, .slice pB pnb pcb, .slice (some ⟨w3.heap.size + 1, 0, none⟩) 62 62, .slice pD pnd pcd]).alloc (.cells (madeCells #[.int .i64 0] 62) 3)
              replace gK := keepN gK kA
              obtain ⟨d0, d1, d2, d3, d4⟩ := blk5 (v := ⟨pS, pA, pna, pca, pB, pnb, pcb, some ⟨w3.heap.size + 1, 0, none⟩, 62, 62, pD, pnd, pcd⟩) bF
              dsimp only at d0 d1 d2 d3 d4
              have HX := Lib.hid (And.intro hFn (And.intro hsm (And.intro bF gK)))
              clear hO sv k1 kA hFa hNew hFn hsm bF gK
              go_wp2_with (at_make; refine wpList_make_row _ rfl _ _ 22 rfl 3 i0 _ Tryz.underlying22 hi hz0 hz1 rfl _ _ 62 rfl rfl (by rw [hz2]; decide) (by decide) ?_)
              refine (enc_bad ⟨pS, pA, pna, pca, pB, pnb, pcb, some ⟨w3.heap.size + 1, 0, none⟩, 62, 62, pD, pnd, pcd⟩ ⟨[102], [1, 4], [2], List.replicate 62 0, [(24, 0, 0)]⟩ _ HX.out.1 HX.out.2.1 (by kernel_rfl)).mono ?_
              rintro e w4 ⟨X4, c4, rfl, k1⟩
              replace HX := Lib.hid (And.intro (HX.out.1.keepN k1) (And.intro HX.out.2.1 (And.intro (HX.out.2.2.1.keep k1 id) (keepN HX.out.2.2.2 k1))))
              clear k1 d0 d1 d2 d3 d4
              obtain ⟨d0, d1, d2, d3, d4⟩ := blk5 (v := ⟨pS, pA, pna, pca, pB, pnb, pcb, some ⟨w3.heap.size + 1, 0, none⟩, 62, 62, pD, pnd, pcd⟩) HX.out.2.2.1
              dsimp only at d0 d1 d2 d3 d4
              have kA := (Keep.refl NoB w4).alloc (.cells #[.int .i64 1, .int .i64 0, .int .i64 4, .int .i64 0] 68)
              go_wp2_with fail
              refine (begin_bad ⟨pS, pA, pna, pca, pB, pnb, pcb, some ⟨w3.heap.size + 1, 0, none⟩, 62, 62, pD, pnd, pcd⟩ ⟨[102], [1, 4], [2], List.replicate 62 0, [(24, 0, 0)]⟩ _ [(1, 0), (4, 0)] 2 2 _ (HX.out.1.keepN kA) HX.out.2.1 (rd_made rfl rfl) rfl (by decide) ⟨by kernel_rfl, by kernel_rfl⟩).mono ?_
              rintro e w5 ⟨X5, c5, rfl, k1⟩
              replace k1 := keepN kA k1
              replace HX := Lib.hid (And.intro (HX.out.1.keepN k1) (And.intro HX.out.2.1 (And.intro (HX.out.2.2.1.keep k1 id) (keepN HX.out.2.2.2 k1))))
              clear k1 kA d0 d1 d2 d3 d4
              obtain ⟨d0, d1, d2, d3, d4⟩ := blk5 (v := ⟨pS, pA, pna, pca, pB, pnb, pcb, some ⟨w3.heap.size + 1, 0, none⟩, 62, 62, pD, pnd, pcd⟩) HX.out.2.2.1
              dsimp only at d0 d1 d2 d3 d4
              go_wp2_with fail
              refine (chk_bad ⟨pS, pA, pna, pca, pB, pnb, pcb, some ⟨w3.heap.size + 1, 0, none⟩, 62, 62, pD, pnd, pcd⟩ ⟨[102], [1, 4], [2], List.replicate 62 0, [(24, 0, 0)]⟩ _ HX.out.1 HX.out.2.1 (by kernel_rfl)).mono ?_
              rintro e w6 ⟨rfl, k1⟩
              replace HX := Lib.hid (And.intro (HX.out.1.keepN k1) (And.intro HX.out.2.1 (And.intro (HX.out.2.2.1.keep k1 id) (keepN HX.out.2.2.2 k1))))
              clear k1 d0 d1 d2 d3 d4
              obtain ⟨d0, d1, d2, d3, d4⟩ := blk5 (v := ⟨pS, pA, pna, pca, pB, pnb, pcb, some ⟨w3.heap.size + 1, 0, none⟩, 62, 62, pD, pnd, pcd⟩) HX.out.2.2.1
              dsimp only at d0 d1 d2 d3 d4
              go_wp2_with fail
              refine (slots_bad ⟨pS, pA, pna, pca, pB, pnb, pcb, some ⟨w3.heap.size + 1, 0, none⟩, 62, 62, pD, pnd, pcd⟩ ⟨[102], [1, 4], [2], List.replicate 62 0, [(24, 0, 0)]⟩ _ HX.out.1 HX.out.2.1 (by kernel_rfl)).mono ?_
              rintro e w7 ⟨X7, c7, rfl, k1⟩
              have HK := Lib.hid (keepN HX.out.2.2.2 k1)
              clear k1 d0 d1 d2 d3 d4 HX hK
              go_wp2
              go_roundw
              case rel => exact ⟨4, by decide, by go_num, by go_num, HK⟩
              case measure => simp [intOf]
            · go_wp2_with fail
              refine (HSO.out _).mono ?_
              rintro e w3 ⟨v, rfl, hO, sv, k1⟩
              obtain ⟨pS, pA, pna, pca, pB, pnb, pcb, pL, pnl, pcl, pD, pnd, pcd⟩ := v
              dsimp only [FV.val, FV.cells]
              have gK := keepN hK.out k1
              have kA := (((Keep.refl NoB w3).alloc (.cells #[.string pS, .slice pA pna pca, .slice pB pnb pcb, .slice pL pnl pcl, .slice none 0 0] 27)))
              have hFa := hO.fn.keepN kA
              have hFn : FnAt (w3.alloc (.cells #[.string pS, .slice pA pna pca, .slice pB pnb pcb, .slice pL pnl pcl, .slice none 0 0] 27)) ⟨pS, pA, pna, pca, pB, pnb, pcb, pL, pnl, pcl, none, 0, 0⟩ ⟨[102], [1, 4], [2], [3], []⟩ := ⟨hFa.nm, hFa.ra, hFa.rb, hFa.rl, Rd.none_ _ _, hFa.la, hFa.lb, hFa.ll, rfl, fun x hx => by cases hx⟩
              have hsm : SmF ⟨pS, pA, pna, pca, pB, pnb, pcb, pL, pnl, pcl, none, 0, 0⟩ := ⟨sv.sz, sv.na, sv.nb, sv.nl, Nat.le_of_ble_eq_true rfl⟩
              have bF : Blk (w3.alloc (.cells #[.string pS, .slice pA pna pca, .slice pB pnb pcb, .slice pL pnl pcl, .slice none 0 0] 27)) w3.heap.size 27 (FV.cells ⟨pS, pA, pna, pca, pB, pnb, pcb, pL, pnl, pcl, none, 0, 0⟩) := (Blk.new w3 27 #[.string pS, .slice pA pna pca, .slice pB pnb pcb, .slice pL pnl pcl, .slice none 0 0])
              replace gK := keepN gK kA
              obtain ⟨d0, d1, d2, d3, d4⟩ := blk5 (v := ⟨pS, pA, pna, pca, pB, pnb, pcb, pL, pnl, pcl, none, 0, 0⟩) bF
              dsimp only at d0 d1 d2 d3 d4
              have HX := Lib.hid (And.intro hFn (And.intro hsm (And.intro bF gK)))
              clear hO sv k1 kA hFa hFn hsm bF gK
              go_wp2_with fail
              refine (enc_bad ⟨pS, pA, pna, pca, pB, pnb, pcb, pL, pnl, pcl, none, 0, 0⟩ ⟨[102], [1, 4], [2], [3], []⟩ _ HX.out.1 HX.out.2.1 (by kernel_rfl)).mono ?_
              rintro e w4 ⟨X4, c4, rfl, k1⟩
              replace HX := Lib.hid (And.intro (HX.out.1.keepN k1) (And.intro HX.out.2.1 (And.intro (HX.out.2.2.1.keep k1 id) (keepN HX.out.2.2.2 k1))))
              clear k1 d0 d1 d2 d3 d4
              obtain ⟨d0, d1, d2, d3, d4⟩ := blk5 (v := ⟨pS, pA, pna, pca, pB, pnb, pcb, pL, pnl, pcl, none, 0, 0⟩) HX.out.2.2.1
              dsimp only at d0 d1 d2 d3 d4
              have kA := (Keep.refl NoB w4).alloc (.cells #[.int .i64 1, .int .i64 0, .int .i64 4, .int .i64 0] 68)
              go_wp2_with fail
              refine (begin_bad ⟨pS, pA, pna, pca, pB, pnb, pcb, pL, pnl, pcl, none, 0, 0⟩ ⟨[102], [1, 4], [2], [3], []⟩ _ [(1, 0), (4, 0)] 2 2 _ (HX.out.1.keepN kA) HX.out.2.1 (rd_made rfl rfl) rfl (by decide) ⟨by kernel_rfl, by kernel_rfl⟩).mono ?_
              rintro e w5 ⟨X5, c5, rfl, k1⟩
              replace k1 := keepN kA k1
              replace HX := Lib.hid (And.intro (HX.out.1.keepN k1) (And.intro HX.out.2.1 (And.intro (HX.out.2.2.1.keep k1 id) (keepN HX.out.2.2.2 k1))))
              clear k1 kA d0 d1 d2 d3 d4
              obtain ⟨d0, d1, d2, d3, d4⟩ := blk5 (v := ⟨pS, pA, pna, pca, pB, pnb, pcb, pL, pnl, pcl, none, 0, 0⟩) HX.out.2.2.1
              dsimp only at d0 d1 d2 d3 d4
              go_wp2_with fail
              refine (chk_bad ⟨pS, pA, pna, pca, pB, pnb, pcb, pL, pnl, pcl, none, 0, 0⟩ ⟨[102], [1, 4], [2], [3], []⟩ _ HX.out.1 HX.out.2.1 (by kernel_rfl)).mono ?_
              rintro e w6 ⟨rfl, k1⟩
              replace HX := Lib.hid (And.intro (HX.out.1.keepN k1) (And.intro HX.out.2.1 (And.intro (HX.out.2.2.1.keep k1 id) (keepN HX.out.2.2.2 k1))))
              clear k1 d0 d1 d2 d3 d4
              obtain ⟨d0, d1, d2, d3, d4⟩ := blk5 (v := ⟨pS, pA, pna, pca, pB, pnb, pcb, pL, pnl, pcl, none, 0, 0⟩) HX.out.2.2.1
              dsimp only at d0 d1 d2 d3 d4
              go_wp2_with fail
              refine (slots_bad ⟨pS, pA, pna, pca, pB, pnb, pcb, pL, pnl, pcl, none, 0, 0⟩ ⟨[102], [1, 4], [2], [3], []⟩ _ HX.out.1 HX.out.2.1 (by kernel_rfl)).mono ?_
              rintro e w7 ⟨X7, c7, rfl, k1⟩
              have HK := Lib.hid (keepN HX.out.2.2.2 k1)
              clear k1 d0 d1 d2 d3 d4 HX hK
              go_wp2
              go_roundw
              case rel => exact ⟨5, by decide, by go_num, by go_num, HK⟩
              case measure => simp [intOf]
            · go_wp2_with fail
              refine (HSO.out _).mono ?_
              rintro e w3 ⟨v, rfl, hO, sv, k1⟩
              obtain ⟨pS, pA, pna, pca, pB, pnb, pcb, pL, pnl, pcl, pD, pnd, pcd⟩ := v
              dsimp only [FV.val, FV.cells]
              have gK := keepN hK.out k1
              have kA := (((Keep.refl NoB w3).alloc (.cells #[.string pS, .slice pA pna pca, .slice pB pnb pcb, .slice pL pnl pcl, .slice (some ⟨w3.heap.size + 1, 0, none⟩) 1 1] 27)).alloc (.cells (#[.int .i64 0, .int .i64 0, .int .i64 0]) 74))
              have hFa := hO.fn.keepN kA
              have hNew : Rd ((w3.alloc (.cells #[.string pS, .slice pA pna pca, .slice pB pnb pcb, .slice pL pnl pcl, .slice (some ⟨w3.heap.size + 1, 0, none⟩) 1 1] 27)).alloc (.cells (#[.int .i64 0, .int .i64 0, .int .i64 0]) 74)) (some ⟨w3.heap.size + 1, 0, none⟩) (C.iis [(0, 0, 0)]) := rd_made (w := (w3.alloc (.cells #[.string pS, .slice pA pna pca, .slice pB pnb pcb, .slice pL pnl pcl, .slice (some ⟨w3.heap.size + 1, 0, none⟩) 1 1] 27))) (b := w3.heap.size + 1) (by simp) (by rfl)
              have hFn : FnAt ((w3.alloc (.cells #[.string pS, .slice pA pna pca, .slice pB pnb pcb, .slice pL pnl pcl, .slice (some ⟨w3.heap.size + 1, 0, none⟩) 1 1] 27)).alloc (.cells (#[.int .i64 0, .int .i64 0, .int .i64 0]) 74)) ⟨pS, pA, pna, pca, pB, pnb, pcb, pL, pnl, pcl, some ⟨w3.heap.size + 1, 0, none⟩, 1, 1⟩ ⟨[102], [1, 4], [2], [3], [(0, 0, 0)]⟩ := ⟨hFa.nm, hFa.ra, hFa.rb, hFa.rl, hNew, hFa.la, hFa.lb, hFa.ll, rfl, fun x hx => by rw [List.mem_singleton.1 hx]; exact ⟨show O.I64 0 by unfold O.I64; omega, show O.I64 0 by unfold O.I64; omega⟩⟩
              have hsm : SmF ⟨pS, pA, pna, pca, pB, pnb, pcb, pL, pnl, pcl, some ⟨w3.heap.size + 1, 0, none⟩, 1, 1⟩ := ⟨sv.sz, sv.na, sv.nb, sv.nl, Nat.le_of_ble_eq_true rfl⟩
              have bF : Blk ((w3.alloc (.cells #[.string pS, .slice pA pna pca, .slice pB pnb pcb, .slice pL pnl pcl, .slice (some ⟨w3.heap.size + 1, 0, none⟩) 1 1] 27)).alloc (.cells (#[.int .i64 0, .int .i64 0, .int .i64 0]) 74)) w3.heap.size 27 (FV.cells ⟨pS, pA, pna, pca, pB, pnb, pcb, pL, pnl, pcl, some ⟨w3.heap.size + 1, 0, none⟩, 1, 1⟩) := (Blk.new w3 27 #[.string pS, .slice pA pna pca, .slice pB pnb pcb, .slice pL pnl pcl, .slice (some ⟨w3.heap.size + 1, 0, none⟩) 1 1]).alloc (.cells (#[.int .i64 0, .int .i64 0, .int .i64 0]) 74)
              replace gK := keepN gK kA
              obtain ⟨d0, d1, d2, d3, d4⟩ := blk5 (v := ⟨pS, pA, pna, pca, pB, pnb, pcb, pL, pnl, pcl, some ⟨w3.heap.size + 1, 0, none⟩, 1, 1⟩) bF
              dsimp only at d0 d1 d2 d3 d4
              have HX := Lib.hid (And.intro hFn (And.intro hsm (And.intro bF gK)))
              clear hO sv k1 kA hFa hNew hFn hsm bF gK
              go_wp2_with fail
              refine (enc_bad ⟨pS, pA, pna, pca, pB, pnb, pcb, pL, pnl, pcl, some ⟨w3.heap.size + 1, 0, none⟩, 1, 1⟩ ⟨[102], [1, 4], [2], [3], [(0, 0, 0)]⟩ _ HX.out.1 HX.out.2.1 (by kernel_rfl)).mono ?_
              rintro e w4 ⟨X4, c4, rfl, k1⟩
              replace HX := Lib.hid (And.intro (HX.out.1.keepN k1) (And.intro HX.out.2.1 (And.intro (HX.out.2.2.1.keep k1 id) (keepN HX.out.2.2.2 k1))))
              clear k1 d0 d1 d2 d3 d4
              obtain ⟨d0, d1, d2, d3, d4⟩ := blk5 (v := ⟨pS, pA, pna, pca, pB, pnb, pcb, pL, pnl, pcl, some ⟨w3.heap.size + 1, 0, none⟩, 1, 1⟩) HX.out.2.2.1
              dsimp only at d0 d1 d2 d3 d4
              have kA := (Keep.refl NoB w4).alloc (.cells #[.int .i64 1, .int .i64 0, .int .i64 4, .int .i64 0] 68)
              go_wp2_with fail
              refine (begin_bad ⟨pS, pA, pna, pca, pB, pnb, pcb, pL, pnl, pcl, some ⟨w3.heap.size + 1, 0, none⟩, 1, 1⟩ ⟨[102], [1, 4], [2], [3], [(0, 0, 0)]⟩ _ [(1, 0), (4, 0)] 2 2 _ (HX.out.1.keepN kA) HX.out.2.1 (rd_made rfl rfl) rfl (by decide) ⟨by kernel_rfl, by kernel_rfl⟩).mono ?_
              rintro e w5 ⟨X5, c5, rfl, k1⟩
              replace k1 := keepN kA k1
              replace HX := Lib.hid (And.intro (HX.out.1.keepN k1) (And.intro HX.out.2.1 (And.intro (HX.out.2.2.1.keep k1 id) (keepN HX.out.2.2.2 k1))))
              clear k1 kA d0 d1 d2 d3 d4
              obtain ⟨d0, d1, d2, d3, d4⟩ := blk5 (v := ⟨pS, pA, pna, pca, pB, pnb, pcb, pL, pnl, pcl, some ⟨w3.heap.size + 1, 0, none⟩, 1, 1⟩) HX.out.2.2.1
              dsimp only at d0 d1 d2 d3 d4
              go_wp2_with fail
              refine (chk_bad ⟨pS, pA, pna, pca, pB, pnb, pcb, pL, pnl, pcl, some ⟨w3.heap.size + 1, 0, none⟩, 1, 1⟩ ⟨[102], [1, 4], [2], [3], [(0, 0, 0)]⟩ _ HX.out.1 HX.out.2.1 (by kernel_rfl)).mono ?_
              rintro e w6 ⟨rfl, k1⟩
              replace HX := Lib.hid (And.intro (HX.out.1.keepN k1) (And.intro HX.out.2.1 (And.intro (HX.out.2.2.1.keep k1 id) (keepN HX.out.2.2.2 k1))))
              clear k1 d0 d1 d2 d3 d4
              obtain ⟨d0, d1, d2, d3, d4⟩ := blk5 (v := ⟨pS, pA, pna, pca, pB, pnb, pcb, pL, pnl, pcl, some ⟨w3.heap.size + 1, 0, none⟩, 1, 1⟩) HX.out.2.2.1
              dsimp only at d0 d1 d2 d3 d4
              go_wp2_with fail
              refine (slots_bad ⟨pS, pA, pna, pca, pB, pnb, pcb, pL, pnl, pcl, some ⟨w3.heap.size + 1, 0, none⟩, 1, 1⟩ ⟨[102], [1, 4], [2], [3], [(0, 0, 0)]⟩ _ HX.out.1 HX.out.2.1 (by kernel_rfl)).mono ?_
              rintro e w7 ⟨X7, c7, rfl, k1⟩
              have HK := Lib.hid (keepN HX.out.2.2.2 k1)
              clear k1 d0 d1 d2 d3 d4 HX hK
              go_wp2
              go_roundw
              case rel => exact ⟨6, by decide, by go_num, by go_num, HK⟩
              case measure => simp [intOf]
            · go_wp2_with fail
              refine (HSO.out _).mono ?_
              rintro e w3 ⟨v, rfl, hO, sv, k1⟩
              obtain ⟨pS, pA, pna, pca, pB, pnb, pcb, pL, pnl, pcl, pD, pnd, pcd⟩ := v
              dsimp only [FV.val, FV.cells]
              have gK := keepN hK.out k1
              have kA := (((Keep.refl NoB w3).alloc (.cells #[.string pS, .slice (some ⟨w3.heap.size + 1, 0, none⟩) 1 1, .slice pB pnb pcb, .slice pL pnl pcl, .slice pD pnd pcd] 27)).alloc (.cells (#[.int .i64 0]) 3))
              have hFa := hO.fn.keepN kA
              have hNew : Rd ((w3.alloc (.cells #[.string pS, .slice (some ⟨w3.heap.size + 1, 0, none⟩) 1 1, .slice pB pnb pcb, .slice pL pnl pcl, .slice pD pnd pcd] 27)).alloc (.cells (#[.int .i64 0]) 3)) (some ⟨w3.heap.size + 1, 0, none⟩) (ivs [0]) := rd_made (w := (w3.alloc (.cells #[.string pS, .slice (some ⟨w3.heap.size + 1, 0, none⟩) 1 1, .slice pB pnb pcb, .slice pL pnl pcl, .slice pD pnd pcd] 27))) (b := w3.heap.size + 1) (by simp) (by rfl)
              have hFn : FnAt ((w3.alloc (.cells #[.string pS, .slice (some ⟨w3.heap.size + 1, 0, none⟩) 1 1, .slice pB pnb pcb, .slice pL pnl pcl, .slice pD pnd pcd] 27)).alloc (.cells (#[.int .i64 0]) 3)) ⟨pS, some ⟨w3.heap.size + 1, 0, none⟩, 1, 1, pB, pnb, pcb, pL, pnl, pcl, pD, pnd, pcd⟩ ⟨[102], [0], [2], [3], [(24, 0, 0)]⟩ := ⟨hFa.nm, hNew, hFa.rb, hFa.rl, hFa.rd, rfl, hFa.lb, hFa.ll, hFa.ld, hFa.hI⟩
              have hsm : SmF ⟨pS, some ⟨w3.heap.size + 1, 0, none⟩, 1, 1, pB, pnb, pcb, pL, pnl, pcl, pD, pnd, pcd⟩ := ⟨sv.sz, Nat.le_of_ble_eq_true rfl, sv.nb, sv.nl, sv.nd⟩
              have bF : Blk ((w3.alloc (.cells #[.string pS, .slice (some ⟨w3.heap.size + 1, 0, none⟩) 1 1, .slice pB pnb pcb, .slice pL pnl pcl, .slice pD pnd pcd] 27)).alloc (.cells (#[.int .i64 0]) 3)) w3.heap.size 27 (FV.cells ⟨pS, some ⟨w3.heap.size + 1, 0, none⟩, 1, 1, pB, pnb, pcb, pL, pnl, pcl, pD, pnd, pcd⟩) := (Blk.new w3 27 #[.string pS, .slice (some ⟨w3.heap.size + 1, 0, none⟩) 1 1, .slice pB pnb pcb, .slice pL pnl pcl, .slice pD pnd pcd]).alloc (.cells (#[.int .i64 0]) 3)
              replace gK := keepN gK kA
              obtain ⟨d0, d1, d2, d3, d4⟩ := blk5 (v := ⟨pS, some ⟨w3.heap.size + 1, 0, none⟩, 1, 1, pB, pnb, pcb, pL, pnl, pcl, pD, pnd, pcd⟩) bF
              dsimp only at d0 d1 d2 d3 d4
              have HX := Lib.hid (And.intro hFn (And.intro hsm (And.intro bF gK)))
              clear hO sv k1 kA hFa hNew hFn hsm bF gK
              go_wp2_with fail
              refine (enc_bad ⟨pS, some ⟨w3.heap.size + 1, 0, none⟩, 1, 1, pB, pnb, pcb, pL, pnl, pcl, pD, pnd, pcd⟩ ⟨[102], [0], [2], [3], [(24, 0, 0)]⟩ _ HX.out.1 HX.out.2.1 (by kernel_rfl)).mono ?_
              rintro e w4 ⟨X4, c4, rfl, k1⟩
              replace HX := Lib.hid (And.intro (HX.out.1.keepN k1) (And.intro HX.out.2.1 (And.intro (HX.out.2.2.1.keep k1 id) (keepN HX.out.2.2.2 k1))))
              clear k1 d0 d1 d2 d3 d4
              obtain ⟨d0, d1, d2, d3, d4⟩ := blk5 (v := ⟨pS, some ⟨w3.heap.size + 1, 0, none⟩, 1, 1, pB, pnb, pcb, pL, pnl, pcl, pD, pnd, pcd⟩) HX.out.2.2.1
              dsimp only at d0 d1 d2 d3 d4
              have kA := (Keep.refl NoB w4).alloc (.cells #[.int .i64 1, .int .i64 0, .int .i64 4, .int .i64 0] 68)
              go_wp2_with fail
              refine (begin_bad ⟨pS, some ⟨w3.heap.size + 1, 0, none⟩, 1, 1, pB, pnb, pcb, pL, pnl, pcl, pD, pnd, pcd⟩ ⟨[102], [0], [2], [3], [(24, 0, 0)]⟩ _ [(1, 0), (4, 0)] 2 2 _ (HX.out.1.keepN kA) HX.out.2.1 (rd_made rfl rfl) rfl (by decide) ⟨by kernel_rfl, by kernel_rfl⟩).mono ?_
              rintro e w5 ⟨X5, c5, rfl, k1⟩
              replace k1 := keepN kA k1
              replace HX := Lib.hid (And.intro (HX.out.1.keepN k1) (And.intro HX.out.2.1 (And.intro (HX.out.2.2.1.keep k1 id) (keepN HX.out.2.2.2 k1))))
              clear k1 kA d0 d1 d2 d3 d4
              obtain ⟨d0, d1, d2, d3, d4⟩ := blk5 (v := ⟨pS, some ⟨w3.heap.size + 1, 0, none⟩, 1, 1, pB, pnb, pcb, pL, pnl, pcl, pD, pnd, pcd⟩) HX.out.2.2.1
              dsimp only at d0 d1 d2 d3 d4
              go_wp2_with fail
              refine (chk_bad ⟨pS, some ⟨w3.heap.size + 1, 0, none⟩, 1, 1, pB, pnb, pcb, pL, pnl, pcl, pD, pnd, pcd⟩ ⟨[102], [0], [2], [3], [(24, 0, 0)]⟩ _ HX.out.1 HX.out.2.1 (by kernel_rfl)).mono ?_
              rintro e w6 ⟨rfl, k1⟩
              replace HX := Lib.hid (And.intro (HX.out.1.keepN k1) (And.intro HX.out.2.1 (And.intro (HX.out.2.2.1.keep k1 id) (keepN HX.out.2.2.2 k1))))
              clear k1 d0 d1 d2 d3 d4
              obtain ⟨d0, d1, d2, d3, d4⟩ := blk5 (v := ⟨pS, some ⟨w3.heap.size + 1, 0, none⟩, 1, 1, pB, pnb, pcb, pL, pnl, pcl, pD, pnd, pcd⟩) HX.out.2.2.1
              dsimp only at d0 d1 d2 d3 d4
              go_wp2_with fail
              refine (slots_bad ⟨pS, some ⟨w3.heap.size + 1, 0, none⟩, 1, 1, pB, pnb, pcb, pL, pnl, pcl, pD, pnd, pcd⟩ ⟨[102], [0], [2], [3], [(24, 0, 0)]⟩ _ HX.out.1 HX.out.2.1 (by kernel_rfl)).mono ?_
              rintro e w7 ⟨X7, c7, rfl, k1⟩
              have HK := Lib.hid (keepN HX.out.2.2.2 k1)
              clear k1 d0 d1 d2 d3 d4 HX hK
              go_wp2
              go_roundw
              case rel => exact ⟨7, by decide, by go_num, by go_num, HK⟩
              case measure => simp [intOf]
            · go_wp2_with fail
              refine (HSO.out _).mono ?_
              rintro e w3 ⟨v, rfl, hO, sv, k1⟩
              obtain ⟨pS, pA, pna, pca, pB, pnb, pcb, pL, pnl, pcl, pD, pnd, pcd⟩ := v
              dsimp only [FV.val, FV.cells]
              have gK := keepN hK.out k1
              have kA := (((Keep.refl NoB w3).alloc (.cells #[.string pS, .slice pA pna pca, .slice pB pnb pcb, .slice (some ⟨w3.heap.size + 1, 0, none⟩) 1 1, .slice pD pnd pcd] 27)).alloc (.cells (#[.int .i64 0]) 3))
              have hFa := hO.fn.keepN kA
              have hNew : Rd ((w3.alloc (.cells #[.string pS, .slice pA pna pca, .slice pB pnb pcb, .slice (some ⟨w3.heap.size + 1, 0, none⟩) 1 1, .slice pD pnd pcd] 27)).alloc (.cells (#[.int .i64 0]) 3)) (some ⟨w3.heap.size + 1, 0, none⟩) (ivs [0]) := rd_made (w := (w3.alloc (.cells #[.string pS, .slice pA pna pca, .slice pB pnb pcb, .slice (some ⟨w3.heap.size + 1, 0, none⟩) 1 1, .slice pD pnd pcd] 27))) (b := w3.heap.size + 1) (by simp) (by rfl)
              have hFn : FnAt ((w3.alloc (.cells #[.string pS, .slice pA pna pca, .slice pB pnb pcb, .slice (some ⟨w3.heap.size + 1, 0, none⟩) 1 1, .slice pD pnd pcd] 27)).alloc (.cells (#[.int .i64 0]) 3)) ⟨pS, pA, pna, pca, pB, pnb, pcb, some ⟨w3.heap.size + 1, 0, none⟩, 1, 1, pD, pnd, pcd⟩ ⟨[102], [1, 4], [2], [0], [(24, 0, 0)]⟩ := ⟨hFa.nm, hFa.ra, hFa.rb, hNew, hFa.rd, hFa.la, hFa.lb, rfl, hFa.ld, hFa.hI⟩
              have hsm : SmF ⟨pS, pA, pna, pca, pB, pnb, pcb, some ⟨w3.heap.size + 1, 0, none⟩, 1, 1, pD, pnd, pcd⟩ := ⟨sv.sz, sv.na, sv.nb, Nat.le_of_ble_eq_true rfl, sv.nd⟩
              have bF : Blk ((w3.alloc (.cells #[.string pS, .slice pA pna pca, .slice pB pnb pcb, .slice (some ⟨w3.heap.size + 1, 0, none⟩) 1 1, .slice pD pnd pcd] 27)).alloc (.cells (#[.int .i64 0]) 3)) w3.heap.size 27 (FV.cells ⟨pS, pA, pna, pca, pB, pnb, pcb, some ⟨w3.heap.size + 1, 0, none⟩, 1, 1, pD, pnd, pcd⟩) := (Blk.new w3 27 #[.string pS, .slice pA pna pca, .slice pB pnb pcb, .slice (some ⟨w3.heap.size + 1, 0, none⟩) 1 1, .slice pD pnd pcd]).alloc (.cells (#[.int .i64 0]) 3)
              replace gK := keepN gK kA
              obtain ⟨d0, d1, d2, d3, d4⟩ := blk5 (v := ⟨pS, pA, pna, pca, pB, pnb, pcb, some ⟨w3.heap.size + 1, 0, none⟩, 1, 1, pD, pnd, pcd⟩) bF
              dsimp only at d0 d1 d2 d3 d4
              have HX := Lib.hid (And.intro hFn (And.intro hsm (And.intro bF gK)))
              clear hO sv k1 kA hFa hNew hFn hsm bF gK
              go_wp2_with fail
              refine (enc_bad ⟨pS, pA, pna, pca, pB, pnb, pcb, some ⟨w3.heap.size + 1, 0, none⟩, 1, 1, pD, pnd, pcd⟩ ⟨[102], [1, 4], [2], [0], [(24, 0, 0)]⟩ _ HX.out.1 HX.out.2.1 (by kernel_rfl)).mono ?_
              rintro e w4 ⟨X4, c4, rfl, k1⟩
              replace HX := Lib.hid (And.intro (HX.out.1.keepN k1) (And.intro HX.out.2.1 (And.intro (HX.out.2.2.1.keep k1 id) (keepN HX.out.2.2.2 k1))))
              clear k1 d0 d1 d2 d3 d4
              obtain ⟨d0, d1, d2, d3, d4⟩ := blk5 (v := ⟨pS, pA, pna, pca, pB, pnb, pcb, some ⟨w3.heap.size + 1, 0, none⟩, 1, 1, pD, pnd, pcd⟩) HX.out.2.2.1
              dsimp only at d0 d1 d2 d3 d4
              have kA := (Keep.refl NoB w4).alloc (.cells #[.int .i64 1, .int .i64 0, .int .i64 4, .int .i64 0] 68)
              go_wp2_with fail
              refine (begin_bad ⟨pS, pA, pna, pca, pB, pnb, pcb, some ⟨w3.heap.size + 1, 0, none⟩, 1, 1, pD, pnd, pcd⟩ ⟨[102], [1, 4], [2], [0], [(24, 0, 0)]⟩ _ [(1, 0), (4, 0)] 2 2 _ (HX.out.1.keepN kA) HX.out.2.1 (rd_made rfl rfl) rfl (by decide) ⟨by kernel_rfl, by kernel_rfl⟩).mono ?_
              rintro e w5 ⟨X5, c5, rfl, k1⟩
              replace k1 := keepN kA k1
              replace HX := Lib.hid (And.intro (HX.out.1.keepN k1) (And.intro HX.out.2.1 (And.intro (HX.out.2.2.1.keep k1 id) (keepN HX.out.2.2.2 k1))))
              clear k1 kA d0 d1 d2 d3 d4
              obtain ⟨d0, d1, d2, d3, d4⟩ := blk5 (v := ⟨pS, pA, pna, pca, pB, pnb, pcb, some ⟨w3.heap.size + 1, 0, none⟩, 1, 1, pD, pnd, pcd⟩) HX.out.2.2.1
              dsimp only at d0 d1 d2 d3 d4
              go_wp2_with fail
              refine (chk_bad ⟨pS, pA, pna, pca, pB, pnb, pcb, some ⟨w3.heap.size + 1, 0, none⟩, 1, 1, pD, pnd, pcd⟩ ⟨[102], [1, 4], [2], [0], [(24, 0, 0)]⟩ _ HX.out.1 HX.out.2.1 (by kernel_rfl)).mono ?_
              rintro e w6 ⟨rfl, k1⟩
              replace HX := Lib.hid (And.intro (HX.out.1.keepN k1) (And.intro HX.out.2.1 (And.intro (HX.out.2.2.1.keep k1 id) (keepN HX.out.2.2.2 k1))))
              clear k1 d0 d1 d2 d3 d4
              obtain ⟨d0, d1, d2, d3, d4⟩ := blk5 (v := ⟨pS, pA, pna, pca, pB, pnb, pcb, some ⟨w3.heap.size + 1, 0, none⟩, 1, 1, pD, pnd, pcd⟩) HX.out.2.2.1
              dsimp only at d0 d1 d2 d3 d4
              go_wp2_with fail
              refine (slots_bad ⟨pS, pA, pna, pca, pB, pnb, pcb, some ⟨w3.heap.size + 1, 0, none⟩, 1, 1, pD, pnd, pcd⟩ ⟨[102], [1, 4], [2], [0], [(24, 0, 0)]⟩ _ HX.out.1 HX.out.2.1 (by kernel_rfl)).mono ?_
              rintro e w7 ⟨X7, c7, rfl, k1⟩
              have HK := Lib.hid (keepN HX.out.2.2.2 k1)
              clear k1 d0 d1 d2 d3 d4 HX hK
              go_wp2
              go_roundw
              case rel => exact ⟨8, by decide, by go_num, by go_num, HK⟩
              case measure => simp [intOf]
            · obtain ⟨wx3, rfl⟩ : ∃ wo, wo = wr := ⟨_, rfl⟩
              have gK := hK.out
              clear hK hk
              rw [show ((8 : Nat) : Int) = 8 from rfl]
              go_wp2_with fail
              refine (HSO.out _).mono ?_
              rintro e w3 ⟨v, rfl, hO, sv, k1⟩
              have gs3 := gK.size
              replace gK := keepN gK k1
              obtain ⟨pS, pA, pna, pca, pB, pnb, pcb, pL, pnl, pcl, pD, pnd, pcd⟩ := v
              dsimp only [FV.val, FV.cells]
              obtain rfl : 1 = pnl := own_len hO.ol
              obtain ⟨gL, rfl, hgf, hgl⟩ := own_head hO.ol Nat.one_pos
              have hbF := Blk.new w3 27 #[.string pS, .slice pA pna pca, .slice pB pnb pcb, .slice (some ⟨gL, 0, none⟩) 1 pcl, .slice pD pnd pcd]
              have kA := (Keep.refl (fun x => x = gL ∨ w3.heap.size ≤ x) w3).alloc (.cells #[.string pS, .slice pA pna pca, .slice pB pnb pcb, .slice (some ⟨gL, 0, none⟩) 1 pcl, .slice pD pnd pcd] 27)
              have hL0 : Own w3 3 1 (fun x => x = gL ∨ w3.heap.size < x) (.slice (some ⟨gL, 0, none⟩) 1 pcl) 1 (ivs [3]) := ⟨hO.ol.1, fun g e => by cases e; exact .inl rfl⟩
              replace hL0 := hL0.keepN ((Keep.refl NoB w3).alloc (.cells #[.string pS, .slice pA pna pca, .slice pB pnb pcb, .slice (some ⟨gL, 0, none⟩) 1 pcl, .slice pD pnd pcd] 27))
              have H0 := Lib.hid (And.intro hbF (And.intro hL0 kA))
              have HO := Lib.hid (And.intro hO (And.intro sv gK))
              clear k1 hO sv gK hbF kA hL0
              go_wp2
              go_loopw [140] (fun i wr => ∃ k : Nat, k ≤ 60 ∧ i = .int .i64 (k : Int) ∧ ∃ A c, Hid (Blk wr w3.heap.size 27 #[.string pS, .slice pA pna pca, .slice pB pnb pcb, .slice A (1 + k) c, .slice pD pnd pcd] ∧ Own wr 3 1 (fun x => x = gL ∨ w3.heap.size < x) (.slice A (1 + k) c) (1 + k) (ivs (3 :: List.replicate k 4)) ∧ Keep (fun x => x = gL ∨ w3.heap.size ≤ x) w3 wr)) (fun i _ => 60 - (intOf i).toNat)
              case atStart => exact ⟨0, by decide, rfl, _, _, H0⟩
              case round =>
                clear H0
                obtain ⟨k, hk, rfl, A9, c9, hI⟩ := hrel
                by_cases hlt : k < 60
                · have d3 : wr.cell? ⟨w3.heap.size, 3, none⟩ = some (.slice A9 (1 + k) c9) := hI.out.1.cell 3
                  have fz := fun i => hI.out.1.frozen i
                  have hwr := hI.out.1.lt
                  go_wp2_with (at_builtin; refine wpList_append_rd _ rfl (.tmp 143) (.tmp 144) _ rfl 3 1 8 i0 _ Tryz.underlying22 hi hz0 hz1 hz2 rfl (by decide) (.slice A9 (1 + k) c9) (1 + k) (ivs (3 :: List.replicate k 4)) (some ⟨wr.heap.size, 0, none⟩) 1 1 [.int .i64 4] rfl (hI.out.2.1.1.alloc _) rfl (rd_made rfl rfl) rfl (by simp [Value.oneCell']) (by unfold maxLen; omega) (by omega) ?_; intro A' c' w' hrow hg hv; have hb2 : Blk w' w3.heap.size 27 #[.string pS, .slice pA pna pca, .slice pB pnb pcb, .slice A9 (1 + k) c9, .slice pD pnd pcd] := (hI.out.1.alloc _).grown hg (fun e => by have := hI.out.2.1.2 _ e.symm; omega); have hk2 := (hI.out.2.2.alloc (.cells #[.int .i64 4] 3)).grown hg (fun g e _ => by rcases hI.out.2.1.2 _ e with h | h; exact .inl h; exact .inr (by omega)); have ho2 : Own w' 3 1 (fun x => x = gL ∨ w3.heap.size < x) (.slice A' (1 + k + 1) c') (1 + k + 1) (ivs (3 :: List.replicate k 4) ++ [.int .i64 4]) := ⟨hrow, fun g e => (by rcases hv with h | h; exact hI.out.2.1.2 _ (h ▸ e); rw [h] at e; injection e with e; exact .inr (by simp at e; omega))⟩; clear d3 fz; have d3 : w'.cell? ⟨w3.heap.size, 3, none⟩ = some (.slice A9 (1 + k) c9) := hb2.cell 3; have fz := fun i => hb2.frozen i; have HN : Hid (Blk (w'.setCell ⟨w3.heap.size, 3, none⟩ (.slice A' (1 + k + 1) c')) w3.heap.size 27 #[.string pS, .slice pA pna pca, .slice pB pnb pcb, .slice A' (1 + (k + 1)) c', .slice pD pnd pcd] ∧ Own (w'.setCell ⟨w3.heap.size, 3, none⟩ (.slice A' (1 + k + 1) c')) 3 1 (fun x => x = gL ∨ w3.heap.size < x) (.slice A' (1 + (k + 1)) c') (1 + (k + 1)) (ivs (3 :: List.replicate (k + 1) 4)) ∧ Keep (fun x => x = gL ∨ w3.heap.size ≤ x) w3 (w'.setCell ⟨w3.heap.size, 3, none⟩ (.slice A' (1 + k + 1) c'))) := ⟨hb2.put 3 _, by rw [rep_snoc]; exact ho2.keep (keep_one w' w3.heap.size 3 _) (fun x hx e => by omega), hk2.trans (keep_one w' w3.heap.size 3 _) (fun x e _ => .inr (by omega))⟩; clear hb2 hk2 ho2 hrow hg hv hI)
                  go_roundw
                  case rel => exact ⟨k + 1, by omega, by go_num, _, _, HN⟩
                  case measure => simp [intOf]; omega
                · obtain rfl : k = 60 := by omega
                  obtain ⟨wx4, rfl⟩ : ∃ wo, wo = wr := ⟨_, rfl⟩
                  clear hk hlt
                  have hK4 := hI.out.2.2
                  have hO9 := hI.out.2.1
                  have hOF := swap_own HO.out.1 rfl rfl rfl rfl (by decide) (by decide) hO9 hK4
                  dsimp only at hOF
                  have smf1 : SmF ⟨pS, pA, pna, pca, pB, pnb, pcb, A9, 61, c9, pD, pnd, pcd⟩ := ⟨HO.out.2.1.sz, HO.out.2.1.na, HO.out.2.1.nb, Nat.le_of_ble_eq_true rfl, HO.out.2.1.nd⟩
                  have b13 := hI.out.1
                  have hx4 := b13.lt
                  have gK : Keep NoB w wx4 := HO.out.2.2.trans hK4 (fun k e hk => by unfold Fresh at hgf; have := HO.out.2.2.size; omega)
                  have gs4 := gK.size
                  obtain ⟨d0, d1, d2, d3, d4⟩ := blk5 (v := ⟨pS, pA, pna, pca, pB, pnb, pcb, A9, 61, c9, pD, pnd, pcd⟩) b13
                  dsimp only at d0 d1 d2 d3 d4
                  clear hI hO9 hK4
                  go_wp2_with fail
                  refine (copyF_any ⟨pS, pA, pna, pca, pB, pnb, pcb, A9, 61, c9, pD, pnd, pcd⟩ ⟨[102], [1, 4], [2], 3 :: List.replicate 60 4, [(24, 0, 0)]⟩ wx4 hOF.fn smf1).mono ?_
                  rintro e w5 ⟨c, rfl, hC, k1⟩
                  replace gK := keepN gK k1
                  replace b13 := b13.keep k1 id
                  have gs5 := k1.size
                  obtain ⟨cS, cA, cna, cca, cB, cnb, ccb, cL, cnl, ccl, cD, cnd, ccd⟩ := c
                  dsimp only [FV.val, FV.cells]
                  have hcl : 61 = cnl := by have := own_len hC.ol; simpa using this
                  subst hcl
                  obtain ⟨gC, rfl, hgc, hgcl⟩ := own_head hC.ol (Nat.succ_pos 60)
                  unfold Fresh at hgc
                  have b14 := Blk.new w5 27 #[.string cS, .slice cA cna cca, .slice cB cnb ccb, .slice (some ⟨gC, 0, none⟩) 61 ccl, .slice cD cnd ccd]
                  have hLc : Own w5 3 1 (fun x => x = gC) (.slice (some ⟨gC, 0, none⟩) 61 ccl) 61 (ivs (3 :: List.replicate 60 4)) := ⟨hC.ol.1, fun g e => by cases e; rfl⟩
                  have hLd := hLc.keepN (((Keep.refl NoB w5).alloc (.cells #[.string cS, .slice cA cna cca, .slice cB cnb ccb, .slice (some ⟨gC, 0, none⟩) 61 ccl, .slice cD cnd ccd] 27)).alloc (.cells #[.int .i64 1] 3))
                  have kAA := ((Keep.refl (fun x => x = gC ∨ w5.heap.size ≤ x) w5).alloc (.cells #[.string cS, .slice cA cna cca, .slice cB cnb ccb, .slice (some ⟨gC, 0, none⟩) 61 ccl, .slice cD cnd ccd] 27)).alloc (.cells #[.int .i64 1] 3)
                  have hbb := b14.alloc (.cells #[.int .i64 1] 3)
                  have HQ := Lib.hid (And.intro hLd (And.intro kAA hbb))
                  clear hLc hLd kAA hbb b14 d0 d1 d2 d3 d4
                  go_wp2_with (at_builtin; refine wpList_append_rd _ rfl (.tmp 151) (.tmp 152) _ rfl 3 1 8 i0 _ Tryz.underlying22 hi hz0 hz1 hz2 rfl (by decide) (.slice (some ⟨gC, 0, none⟩) 61 ccl) 61 (ivs (3 :: List.replicate 60 4)) (some ⟨w5.heap.size + 1, 0, none⟩) 1 1 [.int .i64 1] rfl HQ.out.1.1 rfl (rd_made (by simp) rfl) rfl (by simp [Value.oneCell']) (by unfold maxLen; omega) (by omega) ?_; intro A5 c5 w6 hrow hg hv; have hb2 := HQ.out.2.2.grown hg (fun e => absurd (Option.some.inj (show some w5.heap.size = some gC from e)) (by omega)); have hk2 := HQ.out.2.1.grown hg (fun g e _ => by cases e; exact .inl rfl); have ho2 : Own w6 3 1 (fun x => x = gC ∨ w5.heap.size < x) (.slice A5 62 c5) 62 (ivs (3 :: List.replicate 60 4 ++ [1])) := ⟨by rw [ivs_snoc]; exact hrow, fun g e => (by rcases hv with h | h; (rw [h] at e; cases e; exact .inl rfl); rw [h] at e; injection e with e; exact .inr (by rw [World.size_alloc, World.size_alloc] at e; omega))⟩; have d3 := hb2.cell 3; have fz := fun i => hb2.frozen i; have HN := Lib.hid (And.intro (hb2.put 3 (.slice A5 62 c5)) (And.intro (ho2.keep (keep_one w6 w5.heap.size 3 (.slice A5 62 c5)) (fun x hx e => by omega)) (hk2.trans (keep_one w6 w5.heap.size 3 (.slice A5 62 c5)) (fun x e _ => .inr (by omega))))); have b136 := (b13.keep hk2 (fun e => by omega)).keep (keep_one w6 w5.heap.size 3 (.slice A5 62 c5)) (fun e => by omega); obtain ⟨e0, e1, e2, e3, e4⟩ := blk5 (v := ⟨pS, pA, pna, pca, pB, pnb, pcb, A9, 61, c9, pD, pnd, pcd⟩) b136; simp at d3; dsimp only at e0 e1 e2 e3 e4; clear hb2 hk2 ho2 hrow hg hv HQ)
                  generalize hw7 : w6.setCell ⟨w5.heap.size, 3, none⟩ (.slice A5 62 c5) = w7 at HN b136 e0 e1 e2 e3 e4
                  have hM := swap_own hC rfl rfl rfl rfl (by decide) (by decide) HN.out.2.1 HN.out.2.2
                  dsimp only at hM
                  have smM : SmF ⟨cS, cA, cna, cca, cB, cnb, ccb, A5, 62, c5, cD, cnd, ccd⟩ := ⟨(sm_own hC hOF.fn smf1).sz, (sm_own hC hOF.fn smf1).na, (sm_own hC hOF.fn smf1).nb, Nat.le_of_ble_eq_true rfl, (sm_own hC hOF.fn smf1).nd⟩
                  have kW : Keep (fun x => wx4.heap.size ≤ x) wx4 w7 := (k1.mono (fun _ hf _ => hf.elim)).trans HN.out.2.2 (fun k e _ => by omega)
                  have hFF : FnAt w7 ⟨pS, pA, pna, pca, pB, pnb, pcb, A9, 61, c9, pD, pnd, pcd⟩ ⟨[102], [1, 4], [2], 3 :: List.replicate 60 4, [(24, 0, 0)]⟩ := hOF.fn.keep kW (fun k h1 h2 => by omega)
                  have b147 : Blk w7 w5.heap.size 27 (FV.cells ⟨cS, cA, cna, cca, cB, cnb, ccb, A5, 62, c5, cD, cnd, ccd⟩) := HN.out.1
                  replace gK : Keep NoB w w7 := gK.trans HN.out.2.2 (fun k e hk => by omega)
                  have HB := Lib.hid (And.intro b136 (And.intro hFF (And.intro smf1 (And.intro b147 (And.intro hM.fn smM)))))
                  have K7 := Keep.refl NoB w7
                  clear hw7 HN hM smM kW hFF b147 b136 smf1 hOF b13 hC k1 d3 fz
                  refine (check_any ⟨pS, pA, pna, pca, pB, pnb, pcb, A9, 61, c9, pD, pnd, pcd⟩ ⟨[102], [1, 4], [2], 3 :: List.replicate 60 4, [(24, 0, 0)]⟩ w7 HB.out.2.1 HB.out.2.2.1 0 (by show _ = _; kernel_rfl)).mono ?_
                  rintro e w8 ⟨rfl, k1⟩
                  replace K7 := keepN K7 k1
                  replace gK := keepN gK k1
                  clear k1 e0 e1 e2 e3 e4
                  obtain ⟨e0, e1, e2, e3, e4⟩ := blk5 (v := ⟨pS, pA, pna, pca, pB, pnb, pcb, A9, 61, c9, pD, pnd, pcd⟩) (HB.out.1.keep K7 id)
                  dsimp only at e0 e1 e2 e3 e4
                  go_wp2_with fail
                  refine (pointers_lit ⟨[102], [1, 4], [2], 3 :: List.replicate 60 4, [(24, 0, 0)]⟩ (ptZ ⟨[102], [1, 4], [2], 3 :: List.replicate 60 4, [(24, 0, 0)]⟩) 61 ⟨pS, pA, pna, pca, pB, pnb, pcb, A9, 61, c9, pD, pnd, pcd⟩ w8 ⟨HB.out.2.1.keepN K7, HB.out.2.2.1⟩ rfl (by kernel_rfl)).mono ?_
                  rintro e w9 ⟨XP, cP, rfl, _, k1⟩
                  replace K7 := keepN K7 k1
                  replace gK := keepN gK k1
                  clear k1 e0 e1 e2 e3 e4
                  obtain ⟨e0, e1, e2, e3, e4⟩ := blk5 (v := ⟨cS, cA, cna, cca, cB, cnb, ccb, A5, 62, c5, cD, cnd, ccd⟩) (HB.out.2.2.2.1.keep K7 id)
                  dsimp only at e0 e1 e2 e3 e4
                  go_wp2_with fail
                  refine (chk_bad ⟨cS, cA, cna, cca, cB, cnb, ccb, A5, 62, c5, cD, cnd, ccd⟩ ⟨[102], [1, 4], [2], 3 :: List.replicate 60 4 ++ [1], [(24, 0, 0)]⟩ w9 (HB.out.2.2.2.2.1.keepN K7) HB.out.2.2.2.2.2 (by kernel_rfl)).mono ?_
                  rintro e w10 ⟨rfl, k1⟩
                  replace K7 := keepN K7 k1
                  replace gK := keepN gK k1
                  clear k1 e0 e1 e2 e3 e4
                  go_wp2_with fail
                  refine (HSO.out _).mono ?_
                  rintro e w11 ⟨v3, rfl, hO3, sv3, k1⟩
                  replace K7 := keepN K7 k1
                  replace gK := keepN gK k1
                  have K7a := K7
                  have gKa := gK
                  clear k1
                  go_wp2_with fail
                  refine (encodeF_any v3 fSome w11 hO3.fn sv3).mono ?_
                  rw [show chkF fSome = 0 from by kernel_rfl]
                  rintro e w12 ⟨vx, rfl, hx, kx⟩
                  clear hO3 sv3 K7 gK
                  obtain ⟨X, cx, rfl, hrx, hxl⟩ := own_rdB hx
                  obtain ⟨gX, rfl, _, hgx⟩ := own_head (⟨hx.1, hx.2⟩ : Own w12 5 1 (Fresh w11) (.slice X (encF fSome).length cx) (encF fSome).length (V.bvs (encF fSome))) (by rw [s_len]; decide)
                  have HXO := Lib.hid hx
                  have hcx : 11 ≤ cx := own_cap (⟨hx.1, hx.2⟩ : Own w12 5 1 (Fresh w11) (.slice (some ⟨gX, 0, none⟩) (encF fSome).length cx) (encF fSome).length (V.bvs (encF fSome))) s_len
                  obtain ⟨xs, hxs⟩ : ∃ xs, encF fSome = xs := ⟨_, rfl⟩
                  have h11 : xs.length = 11 := by rw [← hxs]; exact s_len
                  have HD1 : Hid (decF (xs ++ [9]) 0 = some (fSome, 11)) := by show _ = _; rw [← hxs]; exact s_dec
                  have HD2 : Hid (decF (xs.take 10) 0 = none) := by show _ = _; rw [← hxs]; exact s_cut
                  have HSL : (encF fSome).length = 11 := s_len
                  rw [hxs] at HXO
                  clear hx hxl hrx
                  rw [HSL]
                  clear HSL hxs
                  have H11 := Lib.hid h11
                  clear h11
                  have kb := (Keep.refl NoB w12).alloc (.cells #[.int .u8 9] 5)
                  have HKB := Lib.hid (And.intro kb (keepN kx kb))
                  clear kb kx
                  go_wp2_with (at_builtin; refine wpList_append_oldF _ rfl (.tmp 178) (.tmp 179) rfl gX cx xs [9] (some ⟨w12.heap.size, 0, none⟩) 1 (by rw [H11.out]; rfl) (HXO.out.keep HKB.out.1 (fun _ _ => id)).1 rfl (rd_byte9 rfl) (by decide) (by rw [H11.out]; decide) ?_; intro v9 w13 hown hg hat hold; have hap := own_appB (w0 := w11) (HXO.out.keep HKB.out.1 (fun _ _ => id)) HKB.out.2 hown hg hat; have hz13 := hg.size; clear hown hg hat HXO HKB)
                  have K7 := keepN K7a hap.2
                  have gK := keepN gKa hap.2
                  simp only [World.size_alloc] at hz13
                  clear K7a gKa
                  obtain ⟨B9, cb9, rfl, r9, _⟩ := own_rdB hap.1
                  have zK7 := Lib.hid K7.size
                  have zgK := Lib.hid gK.size
                  go_wp2_with fail
                  refine (V.on_any _ B9 (xs ++ [9]) cb9 r9 (by rw [List.length_append, H11.out]; decide)).mono ?_
                  rintro e w14 ⟨br, rfl, hR, k1⟩
                  replace K7 := keepN K7 k1
                  replace gK := keepN gK k1
                  replace hold := S.rd_n hold k1
                  clear k1 r9 hap
                  go_wp2_with fail
                  refine (decode_lit (xs ++ [9]) (some (fSome, 11)) w13 w14 br HD1.out (by rw [List.length_append, H11.out]; decide) hR).mono ?_
                  rintro e w15 ⟨(⟨h, _⟩ | ⟨f4, q4, v4, h, rfl, hO4⟩), k2, hbr⟩
                  · cases h
                  obtain ⟨rfl, rfl⟩ : fSome = f4 ∧ 11 = q4 := by injection h with h; injection h with e1 e2; exact ⟨e1, e2⟩
                  replace K7 := K7.trans k2 (fun k e hl => by subst e; have := zK7.out; omega)
                  replace gK := gK.trans k2 (fun k e hl => by subst e; have := zgK.out; omega)
                  clear zK7 zgK
                  replace hold := hold.keep k2 (fun ad e _ h => by cases e; dsimp only at h; omega)
                  have sv4 := sm_ok hO4 (by kernel_rfl)
                  obtain ⟨uS, uA, una, uca, uB, unb, ucb, uL, unl, ucl, uD, und, ucd⟩ := v4
                  dsimp only [FV.val, FV.cells]
                  have kA := (Keep.refl NoB w15).alloc (.cells #[.string uS, .slice uA una uca, .slice uB unb ucb, .slice uL unl ucl, .slice uD und ucd] 27)
                  have b18 := Blk.new w15 27 #[.string uS, .slice uA una uca, .slice uB unb ucb, .slice uL unl ucl, .slice uD und ucd]
                  replace K7 := keepN K7 kA
                  replace gK := keepN gK kA
                  replace hold := S.rd_n hold kA
                  have HB18 := Lib.hid (And.intro b18 (And.intro (hO4.fn.keepN kA) sv4))
                  have K18 := Keep.refl NoB (w15.alloc (.cells #[.string uS, .slice uA una uca, .slice uB unb ucb, .slice uL unl ucl, .slice uD und ucd] 27))
                  clear kA b18 hO4 sv4 k2 h hR
                  have zK7 := Lib.hid K7.size
                  have zgK := Lib.hid gK.size
                  have zK18 := Lib.hid K18.size
                  go_wp2_with fail
                  refine (on_n (some ⟨gX, 0, none⟩) (xs.take 10) 10 cx _ (by rw [List.length_take, H11.out]; rfl) (by decide) (rd_takeF hold 10)).mono ?_
                  rintro e w16 ⟨br2, rfl, hR, k1⟩
                  replace K7 := keepN K7 k1
                  replace gK := keepN gK k1
                  replace K18 := keepN K18 k1
                  clear k1 hold
                  go_wp2_with fail
                  refine (decode_lit (xs.take 10) none _ w16 br2 HD2.out (by rw [List.length_take, H11.out]; decide) hR).mono ?_
                  rintro e w17 ⟨(⟨_, rfl⟩ | ⟨_, _, _, h, _⟩), k2, hbr2⟩
                  case inr => cases h
                  replace K7 := K7.trans k2 (fun k e hl => by subst e; have := zK7.out; omega)
                  replace gK := gK.trans k2 (fun k e hl => by subst e; have := zgK.out; omega)
                  replace K18 := K18.trans k2 (fun k e hl => by subst e; have := zK18.out; omega)
                  clear zK7 zgK zK18
                  dsimp only [nilV, FV.val, FV.cells]
                  have kA := (Keep.refl NoB w17).alloc (.cells #[.string ⟨#[]⟩, .slice none 0 0, .slice none 0 0, .slice none 0 0, .slice none 0 0] 27)
                  replace K7 := keepN K7 kA
                  replace gK := keepN gK kA
                  replace K18 := keepN K18 kA
                  clear kA
                  clear k2 hR hbr hbr2
                  have zK7 := Lib.hid K7.size
                  have zgK := Lib.hid gK.size
                  have zK18 := Lib.hid K18.size
                  go_wp2_with fail
                  refine (on_n none [] 0 0 _ rfl (by decide) (fun h => absurd h (by simp))).mono ?_
                  rintro e w18 ⟨br3, rfl, hR, k1⟩
                  replace K7 := keepN K7 k1
                  replace gK := keepN gK k1
                  replace K18 := keepN K18 k1
                  clear k1
                  go_wp2_with fail
                  refine (decode_lit [] none _ w18 br3 s_nil (by decide) hR).mono ?_
                  rintro e w19 ⟨(⟨_, rfl⟩ | ⟨_, _, _, h, _⟩), k2, hbr3⟩
                  case inr => cases h
                  replace K7 := K7.trans k2 (fun k e hl => by subst e; have := zK7.out; omega)
                  replace gK := gK.trans k2 (fun k e hl => by subst e; have := zgK.out; omega)
                  replace K18 := K18.trans k2 (fun k e hl => by subst e; have := zK18.out; omega)
                  clear zK7 zgK zK18
                  dsimp only [nilV, FV.val, FV.cells]
                  have kA := (Keep.refl NoB w19).alloc (.cells #[.string ⟨#[]⟩, .slice none 0 0, .slice none 0 0, .slice none 0 0, .slice none 0 0] 27)
                  replace K7 := keepN K7 kA
                  replace gK := keepN gK kA
                  replace K18 := keepN K18 kA
                  clear kA
                  clear k2 hR hbr3
                  go_wp2_with fail
                  refine (decodeF_nil _).mono ?_
                  rintro e w20 ⟨rfl, k1⟩
                  replace K7 := keepN K7 k1
                  replace gK := keepN gK k1
                  replace K18 := keepN K18 k1
                  clear k1
                  dsimp only [nilV, FV.val, FV.cells]
                  have kA := (Keep.refl NoB w20).alloc (.cells #[.string ⟨#[]⟩, .slice none 0 0, .slice none 0 0, .slice none 0 0, .slice none 0 0] 27)
                  replace K7 := keepN K7 kA
                  replace gK := keepN gK kA
                  replace K18 := keepN K18 kA
                  clear kA
                  have kA := (Keep.refl NoB (w20.alloc (.cells #[.string ⟨#[]⟩, .slice none 0 0, .slice none 0 0, .slice none 0 0, .slice none 0 0] 27))).alloc (.cells #[.int .i64 1, .int .i64 0, .int .i64 4, .int .i64 0, .int .i64 2, .int .i64 7, .int .i64 3, .int .i64 0] 68)
                  have bS := Blk.new (w20.alloc (.cells #[.string ⟨#[]⟩, .slice none 0 0, .slice none 0 0, .slice none 0 0, .slice none 0 0] 27)) 68 #[.int .i64 1, .int .i64 0, .int .i64 4, .int .i64 0, .int .i64 2, .int .i64 7, .int .i64 3, .int .i64 0]
                  replace K7 := keepN K7 kA
                  replace gK := keepN gK kA
                  replace K18 := keepN K18 kA
                  have KS := Keep.refl NoB ((w20.alloc (.cells #[.string ⟨#[]⟩, .slice none 0 0, .slice none 0 0, .slice none 0 0, .slice none 0 0] 27)).alloc (.cells #[.int .i64 1, .int .i64 0, .int .i64 4, .int .i64 0, .int .i64 2, .int .i64 7, .int .i64 3, .int .i64 0] 68))
                  have HS := Lib.hid bS
                  have hs20 : (w20.alloc (.cells #[.string ⟨#[]⟩, .slice none 0 0, .slice none 0 0, .slice none 0 0, .slice none 0 0] 27)).heap.size = w20.heap.size + 1 := by simp
                  rw [hs20] at HS
                  clear kA bS hs20
                  go_wp2_with fail
                  refine (HSO.out _).mono ?_
                  rintro e w21 ⟨v5, rfl, hO5, sv5, k1⟩
                  replace K7 := keepN K7 k1
                  replace gK := keepN gK k1
                  replace K18 := keepN K18 k1
                  replace KS := keepN KS k1
                  clear k1
                  go_wp2_with fail
                  refine (results_lit fSome [(1, 0), (4, 0), (2, 7), (3, 0)] [(2, 7)] 0 1 4 4 (some ⟨w20.heap.size + 1, 0, none⟩) v5 w21 ⟨hO5.fn, sv5⟩ (rd_partN (HS.out.keep KS id) 0 rfl) rfl (by decide) (by decide) ⟨by kernel_rfl, by kernel_rfl⟩ rfl).mono ?_
                  rintro e w22 ⟨RA, rc, rfl, hrc, rR, k1⟩
                  replace K7 := keepN K7 k1
                  replace gK := keepN gK k1
                  replace K18 := keepN K18 k1
                  replace KS := keepN KS k1
                  have KR := Keep.refl NoB w22
                  have HRR := Lib.hid rR
                  clear k1 hO5 sv5 rR
                  go_wp2_with fail
                  have gK0 := gK
                  clear gK
                  refine wp_region_props6 (fun i => [216, 217, 218, 219, 215, 220, 221, 29, 30].getD i 0) 9999 (NoB) (fun _ => false) (by kernel_rfl) (by kernel_rfl) (by kernel_rfl) (SR (w20.heap.size + 1)) (fun i u x y _ _ _ h hk => SR_stable _ i u x y h hk) (fun i u x y _ h hk => SR_stable _ i u x y h hk) rfl ?step ?spec ?fin
                  case step =>
                    intro i o a w' hoo hic hF hK hA
                    have hi : i < 9 := by simpa using (Array.getElem?_eq_some_iff.1 hoo).1
                    by_cases h0 : i = 0
                    · subst h0
                      simp only [List.getElem?_toArray, List.getElem?_cons_zero, Option.some.injEq] at hoo
                      subst hoo
                      refine Does.plain rfl ?_
                      unfold yieldsK
                      go_simp
                      refine (HSO.out _).mono ?_
                      rintro e w2 ⟨v, rfl, hO, sv, k1⟩
                      exact ⟨_, rfl, ⟨v, rfl, hO.fn, sv⟩, k1⟩
                    by_cases h1 : i = 1
                    · subst h1
                      simp only [List.getElem?_toArray, List.getElem?_cons_zero, List.getElem?_cons_succ, Option.some.injEq] at hoo
                      subst hoo
                      have e26 : a.tmps.getD 26 undef = .slice (some ⟨w20.heap.size + 1, 0, none⟩) 4 4 := hF.2.2 26 (by decide)
                      refine Does.plain rfl ?_
                      unfold yieldsK
                      go_simp
                      exact ⟨rfl, Keep.refl _ _⟩
                    by_cases h2 : i = 2
                    · subst h2
                      simp only [List.getElem?_toArray, List.getElem?_cons_zero, List.getElem?_cons_succ, Option.some.injEq] at hoo
                      subst hoo
                      have e217 : a.tmps.getD 217 undef = .slice (some ⟨w20.heap.size + 1, 0, none⟩) 4 4 := hA ⟨1, .data⟩ (by simp) rfl
                      refine Does.plain rfl ?_
                      unfold yieldsK
                      go_simp
                      exact ⟨rfl, Keep.refl _ _⟩
                    by_cases h3 : i = 3
                    · subst h3
                      simp only [List.getElem?_toArray, List.getElem?_cons_zero, List.getElem?_cons_succ, Option.some.injEq] at hoo
                      subst hoo
                      obtain ⟨v, e216, hv⟩ := hA ⟨0, .data⟩ (by simp) rfl
                      have e216 : a.tmps.getD 216 undef = v.val := e216
                      have e218 : a.tmps.getD 218 undef = .slice (some ⟨w20.heap.size + 1, 0, none⟩) 3 4 := hA ⟨2, .data⟩ (by simp) rfl
                      refine Does.plain rfl ?_
                      unfold yieldsK
                      go_simp
                      refine (results_lit fSome [(1, 0), (4, 0), (2, 7)] [] 72 0 3 4 (some ⟨w20.heap.size + 1, 0, none⟩) v w' hv (rd_partN (HS.out.keep (keepN KS hK) id) 0 rfl) rfl (by decide) (by decide) ⟨by kernel_rfl, by kernel_rfl⟩ rfl).mono ?_
                      rintro e w2 ⟨RA, rc, rfl, hrc, rR, k1⟩
                      exact ⟨_, rfl, ⟨RA, rc, rfl⟩, k1⟩
                    by_cases h4 : i = 4
                    · subst h4
                      simp only [List.getElem?_toArray, List.getElem?_cons_zero, List.getElem?_cons_succ, Option.some.injEq] at hoo
                      subst hoo
                      obtain ⟨R5, c5, e219⟩ := hA ⟨3, .data⟩ (by simp) rfl
                      have e219 : a.tmps.getD 219 undef = .tuple #[.slice R5 0 c5, .int .i64 72] := e219
                      refine Does.plain rfl ?_
                      unfold yieldsK
                      simp only [Array.getD_eq_getD_getElem?] at e219
                      go_simp
                      exact ⟨⟨R5, c5, rfl⟩, Keep.refl _ _⟩
                    by_cases h5 : i = 5
                    · subst h5
                      simp only [List.getElem?_toArray, List.getElem?_cons_zero, List.getElem?_cons_succ, Option.some.injEq] at hoo
                      subst hoo
                      obtain ⟨R5, c5, e215⟩ := hA ⟨4, .data⟩ (by simp) rfl
                      have e215 : a.tmps.getD 215 undef = .tuple #[.slice R5 0 c5, .int .i64 72] := e215
                      refine Does.plain rfl ?_
                      unfold yieldsK
                      go_simp
                      exact ⟨⟨R5, c5, rfl⟩, Keep.refl _ _⟩
                    by_cases h6 : i = 6
                    · subst h6
                      simp only [List.getElem?_toArray, List.getElem?_cons_zero, List.getElem?_cons_succ, Option.some.injEq] at hoo
                      subst hoo
                      obtain ⟨R5, c5, e215⟩ := hA ⟨4, .data⟩ (by simp) rfl
                      have e215 : a.tmps.getD 215 undef = .tuple #[.slice R5 0 c5, .int .i64 72] := e215
                      refine Does.plain rfl ?_
                      unfold yieldsK
                      go_simp
                      exact ⟨rfl, Keep.refl _ _⟩
                    by_cases h7 : i = 7
                    · subst h7
                      simp only [List.getElem?_toArray, List.getElem?_cons_zero, List.getElem?_cons_succ, Option.some.injEq] at hoo
                      subst hoo
                      obtain ⟨R5, c5, e220⟩ := hA ⟨5, .data⟩ (by simp) rfl
                      have e220 : a.tmps.getD 220 undef = .slice R5 0 c5 := e220
                      refine Does.plain rfl ?_
                      unfold yieldsK
                      go_simp
                      exact ⟨⟨R5, c5, rfl⟩, Keep.refl _ _⟩
                    by_cases h8 : i = 8
                    · subst h8
                      simp only [List.getElem?_toArray, List.getElem?_cons_zero, List.getElem?_cons_succ, Option.some.injEq] at hoo
                      subst hoo
                      have e221 : a.tmps.getD 221 undef = .int .i64 72 := hA ⟨6, .data⟩ (by simp) rfl
                      refine Does.plain rfl ?_
                      unfold yieldsK
                      go_simp
                      exact ⟨rfl, Keep.refl _ _⟩
                    omega
                  case spec =>
                    intro o a w' hoo
                    simp at hoo
                  case fin =>
                    intro a w' hF gK hA
                    have e30 : a.tmps.getD 30 undef = .int .i64 72 := hA 8 (by decide)
                    have ha := frameD_list (l := [216, 217, 218, 219, 215, 220, 221, 29, 30]) rfl hF
                    rw [ha]
                    simp only [List.map_cons, List.map_nil, e30]
                    generalize a.tmps.getD 216 undef = u0
                    generalize a.tmps.getD 217 undef = u1
                    generalize a.tmps.getD 218 undef = u2
                    generalize a.tmps.getD 219 undef = u3
                    generalize a.tmps.getD 215 undef = u4
                    generalize a.tmps.getD 220 undef = u5
                    generalize a.tmps.getD 221 undef = u6
                    generalize a.tmps.getD 29 undef = u7
                    simp only [fillD, List.setIfInBounds_toArray, List.set_cons_zero, List.set_cons_succ]
                    have k1 := gK
                    replace K7 := keepN K7 k1
                    replace K18 := keepN K18 k1
                    replace KS := keepN KS k1
                    replace KR := keepN KR k1
                    replace gK0 := keepN gK0 k1
                    clear hA hF ha e30 k1 gK
                    go_wp2_with fail
                    refine (HSO.out _).mono ?_
                    rintro e w23 ⟨v6, rfl, hO6, sv6, k1⟩
                    replace K7 := keepN K7 k1
                    replace K18 := keepN K18 k1
                    replace KS := keepN KS k1
                    replace KR := keepN KR k1
                    replace gK0 := keepN gK0 k1
                    clear k1
                    go_wp2_with fail
                    refine (slot_any v6 fSome (-1) w23 hO6.fn sv6 0 0 72 (by show _ ∧ _; exact ⟨by kernel_rfl, by kernel_rfl, by kernel_rfl⟩)).mono ?_
                    rintro e w24 ⟨rfl, k1⟩
                    replace K7 := keepN K7 k1
                    replace K18 := keepN K18 k1
                    replace KS := keepN KS k1
                    replace KR := keepN KR k1
                    replace gK0 := keepN gK0 k1
                    clear k1 hO6 sv6
                    obtain ⟨x0, x1, x2, x3, x4⟩ := blk5 (v := ⟨uS, uA, una, uca, uB, unb, ucb, uL, unl, ucl, uD, und, ucd⟩) (HB18.out.1.keep K18 id)
                    dsimp only at x0 x1 x2 x3 x4
                    go_wp2_with fail
                    refine wp_region_props6 (fun i => [228, 229, 230, 231, 232, 233, 234, 235, 236, 237, 238, 239, 240, 241, 242, 243, 244, 245, 246, 247, 248, 249, 250, 251, 252, 253, 254, 255, 256, 257, 258, 259, 260, 261, 262, 263, 264, 265, 266, 267, 268, 34].getD i 0) 9999 (NoB) (fun _ => false) (by kernel_rfl) (by kernel_rfl) (by kernel_rfl) (SQN [.int .i64 0, .bool true, .bool true, .int .i64 0, .bool true, .bool true, .bool true, .agg #[.string uS, .slice uA una uca, .slice uB unb ucb, .slice uL unl ucl, .slice uD und ucd], .int .i64 0, .bool true, .bool true, .bool true, .int .i64 70, .bool true, .bool true, .bool true, .int .i64 70, .bool true, .bool true, .bool true, .int .i64 70, .bool true, .bool true, .bool true, .int .i64 0, .bool true, .bool true, .bool true, .slice RA 1 rc, .slice (some ⟨w20.heap.size + 1, 0, none⟩) 4 4, .slice (some ⟨w20.heap.size + 1, 4, none⟩) 1 2, .bool true, .bool true, .bool true, .int .i64 72, .bool true, .bool true, .bool true, .int .i64 72, .bool true, .bool true, .bool true]) (fun i u x y _ _ _ h hk => SQN_stable _ i u x y h hk) (fun i u x y _ h hk => SQN_stable _ i u x y h hk) rfl ?step ?spec ?fin
                    case step =>
                      intro i o a w' hoo hic hF hK hA
                      have hi : i < 42 := by simpa using (Array.getElem?_eq_some_iff.1 hoo).1
                      by_cases h0 : i = 0
                      · subst h0
                        simp only [List.getElem?_toArray, List.getElem?_cons_zero, Option.some.injEq] at hoo
                        subst hoo
                        have e17 : a.tmps.getD 17 undef = .int .i64 0 := hF.2.2 17 (by decide)
                        refine Does.plain rfl ?_
                        unfold yieldsK
                        go_simp
                        exact ⟨rfl, Keep.refl _ _⟩
                      by_cases h1 : i = 1
                      · subst h1
                        simp only [List.getElem?_toArray, List.getElem?_cons_zero, List.getElem?_cons_succ, Option.some.injEq] at hoo
                        subst hoo
                        have e228 : a.tmps.getD 228 undef = .int .i64 0 := hA ⟨0, .data⟩ (by simp) rfl
                        refine Does.plain rfl ?_
                        unfold yieldsK
                        go_simp
                        exact ⟨rfl, Keep.refl _ _⟩
                      by_cases h2 : i = 2
                      · subst h2
                        simp only [List.getElem?_toArray, List.getElem?_cons_zero, List.getElem?_cons_succ, Option.some.injEq] at hoo
                        subst hoo
                        have e229 : a.tmps.getD 229 undef = .bool true := hA ⟨1, .data⟩ (by simp) rfl
                        refine Does.plain rfl ?_
                        unfold yieldsK
                        go_simp
                        exact ⟨rfl, Keep.refl _ _⟩
                      by_cases h3 : i = 3
                      · subst h3
                        simp only [List.getElem?_toArray, List.getElem?_cons_zero, List.getElem?_cons_succ, Option.some.injEq] at hoo
                        subst hoo
                        have e19 : a.tmps.getD 19 undef = .int .i64 0 := hF.2.2 19 (by decide)
                        refine Does.yes (j := 2) (d := 230) (want := true) rfl rfl (hA ⟨2, .guard⟩ (by simp) rfl) ?_
                        unfold yieldsK
                        go_simp
                        exact ⟨rfl, Keep.refl _ _⟩
                      by_cases h4 : i = 4
                      · subst h4
                        simp only [List.getElem?_toArray, List.getElem?_cons_zero, List.getElem?_cons_succ, Option.some.injEq] at hoo
                        subst hoo
                        have e231 : a.tmps.getD 231 undef = .int .i64 0 := hA ⟨3, .data⟩ (by simp) rfl
                        refine Does.yes (j := 2) (d := 230) (want := true) rfl rfl (hA ⟨2, .guard⟩ (by simp) rfl) ?_
                        unfold yieldsK
                        go_simp
                        exact ⟨rfl, Keep.refl _ _⟩
                      by_cases h5 : i = 5
                      · subst h5
                        simp only [List.getElem?_toArray, List.getElem?_cons_zero, List.getElem?_cons_succ, Option.some.injEq] at hoo
                        subst hoo
                        have e230 : a.tmps.getD 230 undef = .bool true := hA ⟨2, .data⟩ (by simp) rfl
                        have e232 : a.tmps.getD 232 undef = .bool true := hA ⟨4, .data⟩ (by simp) rfl
                        refine Does.plain rfl ?_
                        unfold yieldsK
                        go_simp
                        exact ⟨rfl, Keep.refl _ _⟩
                      by_cases h6 : i = 6
                      · subst h6
                        simp only [List.getElem?_toArray, List.getElem?_cons_zero, List.getElem?_cons_succ, Option.some.injEq] at hoo
                        subst hoo
                        have e233 : a.tmps.getD 233 undef = .bool true := hA ⟨5, .data⟩ (by simp) rfl
                        refine Does.plain rfl ?_
                        unfold yieldsK
                        go_simp
                        exact ⟨rfl, Keep.refl _ _⟩
                      by_cases h7 : i = 7
                      · subst h7
                        simp only [List.getElem?_toArray, List.getElem?_cons_zero, List.getElem?_cons_succ, Option.some.injEq] at hoo
                        subst hoo
                        have e18 : a.tmps.getD 18 undef = .pointer (some ⟨w15.heap.size, 0, none⟩) := hF.2.2 18 (by decide)
                        have c0 := Keep.cell hK x0 id
                        have c1 := Keep.cell hK x1 id
                        have c2 := Keep.cell hK x2 id
                        have c3 := Keep.cell hK x3 id
                        have c4 := Keep.cell hK x4 id
                        refine Does.yes (j := 6) (d := 234) (want := true) rfl rfl (hA ⟨6, .guard⟩ (by simp) rfl) ?_
                        unfold yieldsK
                        go_simp
                        exact ⟨rfl, Keep.refl _ _⟩
                      by_cases h8 : i = 8
                      · subst h8
                        simp only [List.getElem?_toArray, List.getElem?_cons_zero, List.getElem?_cons_succ, Option.some.injEq] at hoo
                        subst hoo
                        refine Does.yes (j := 6) (d := 234) (want := true) rfl rfl (hA ⟨6, .guard⟩ (by simp) rfl) ?_
                        unfold yieldsK
                        go_simp
                        refine (HSO.out _).mono ?_
                        rintro e w2 ⟨v, rfl, hO, sv, k1⟩
                        exact ⟨_, rfl, ⟨v, rfl, hO.fn, sv⟩, k1⟩
                      by_cases h9 : i = 9
                      · subst h9
                        simp only [List.getElem?_toArray, List.getElem?_cons_zero, List.getElem?_cons_succ, Option.some.injEq] at hoo
                        subst hoo
                        have e235 : a.tmps.getD 235 undef = .agg #[.string uS, .slice uA una uca, .slice uB unb ucb, .slice uL unl ucl, .slice uD und ucd] := hA ⟨7, .data⟩ (by simp) rfl
                        obtain ⟨v, e236, hv⟩ := hA ⟨8, .data⟩ (by simp) rfl
                        have e236 : a.tmps.getD 236 undef = v.val := e236
                        refine Does.yes (j := 6) (d := 234) (want := true) rfl rfl (hA ⟨6, .guard⟩ (by simp) rfl) ?_
                        unfold yieldsK
                        go_simp
                        refine (sameF_any ⟨uS, uA, una, uca, uB, unb, ucb, uL, unl, ucl, uD, und, ucd⟩ fSome v fSome w' (HB18.out.2.1.keepN (keepN K18 hK)) hv.1 HB18.out.2.2 hv.2).mono ?_
                        rw [(sameF_iff _ _).2 rfl]
                        rintro e w2 ⟨rfl, h2⟩
                        exact ⟨_, rfl, rfl, h2⟩
                      by_cases h10 : i = 10
                      · subst h10
                        simp only [List.getElem?_toArray, List.getElem?_cons_zero, List.getElem?_cons_succ, Option.some.injEq] at hoo
                        subst hoo
                        have e234 : a.tmps.getD 234 undef = .bool true := hA ⟨6, .data⟩ (by simp) rfl
                        have e237 : a.tmps.getD 237 undef = .bool true := hA ⟨9, .data⟩ (by simp) rfl
                        refine Does.plain rfl ?_
                        unfold yieldsK
                        go_simp
                        exact ⟨rfl, Keep.refl _ _⟩
                      by_cases h11 : i = 11
                      · subst h11
                        simp only [List.getElem?_toArray, List.getElem?_cons_zero, List.getElem?_cons_succ, Option.some.injEq] at hoo
                        subst hoo
                        have e238 : a.tmps.getD 238 undef = .bool true := hA ⟨10, .data⟩ (by simp) rfl
                        refine Does.plain rfl ?_
                        unfold yieldsK
                        go_simp
                        exact ⟨rfl, Keep.refl _ _⟩
                      by_cases h12 : i = 12
                      · subst h12
                        simp only [List.getElem?_toArray, List.getElem?_cons_zero, List.getElem?_cons_succ, Option.some.injEq] at hoo
                        subst hoo
                        have e21 : a.tmps.getD 21 undef = .int .i64 70 := hF.2.2 21 (by decide)
                        refine Does.yes (j := 11) (d := 239) (want := true) rfl rfl (hA ⟨11, .guard⟩ (by simp) rfl) ?_
                        unfold yieldsK
                        go_simp
                        exact ⟨rfl, Keep.refl _ _⟩
                      by_cases h13 : i = 13
                      · subst h13
                        simp only [List.getElem?_toArray, List.getElem?_cons_zero, List.getElem?_cons_succ, Option.some.injEq] at hoo
                        subst hoo
                        have e240 : a.tmps.getD 240 undef = .int .i64 70 := hA ⟨12, .data⟩ (by simp) rfl
                        refine Does.yes (j := 11) (d := 239) (want := true) rfl rfl (hA ⟨11, .guard⟩ (by simp) rfl) ?_
                        unfold yieldsK
                        go_simp
                        exact ⟨rfl, Keep.refl _ _⟩
                      by_cases h14 : i = 14
                      · subst h14
                        simp only [List.getElem?_toArray, List.getElem?_cons_zero, List.getElem?_cons_succ, Option.some.injEq] at hoo
                        subst hoo
                        have e239 : a.tmps.getD 239 undef = .bool true := hA ⟨11, .data⟩ (by simp) rfl
                        have e241 : a.tmps.getD 241 undef = .bool true := hA ⟨13, .data⟩ (by simp) rfl
                        refine Does.plain rfl ?_
                        unfold yieldsK
                        go_simp
                        exact ⟨rfl, Keep.refl _ _⟩
                      by_cases h15 : i = 15
                      · subst h15
                        simp only [List.getElem?_toArray, List.getElem?_cons_zero, List.getElem?_cons_succ, Option.some.injEq] at hoo
                        subst hoo
                        have e242 : a.tmps.getD 242 undef = .bool true := hA ⟨14, .data⟩ (by simp) rfl
                        refine Does.plain rfl ?_
                        unfold yieldsK
                        go_simp
                        exact ⟨rfl, Keep.refl _ _⟩
                      by_cases h16 : i = 16
                      · subst h16
                        simp only [List.getElem?_toArray, List.getElem?_cons_zero, List.getElem?_cons_succ, Option.some.injEq] at hoo
                        subst hoo
                        have e23 : a.tmps.getD 23 undef = .int .i64 70 := hF.2.2 23 (by decide)
                        refine Does.yes (j := 15) (d := 243) (want := true) rfl rfl (hA ⟨15, .guard⟩ (by simp) rfl) ?_
                        unfold yieldsK
                        go_simp
                        exact ⟨rfl, Keep.refl _ _⟩
                      by_cases h17 : i = 17
                      · subst h17
                        simp only [List.getElem?_toArray, List.getElem?_cons_zero, List.getElem?_cons_succ, Option.some.injEq] at hoo
                        subst hoo
                        have e244 : a.tmps.getD 244 undef = .int .i64 70 := hA ⟨16, .data⟩ (by simp) rfl
                        refine Does.yes (j := 15) (d := 243) (want := true) rfl rfl (hA ⟨15, .guard⟩ (by simp) rfl) ?_
                        unfold yieldsK
                        go_simp
                        exact ⟨rfl, Keep.refl _ _⟩
                      by_cases h18 : i = 18
                      · subst h18
                        simp only [List.getElem?_toArray, List.getElem?_cons_zero, List.getElem?_cons_succ, Option.some.injEq] at hoo
                        subst hoo
                        have e243 : a.tmps.getD 243 undef = .bool true := hA ⟨15, .data⟩ (by simp) rfl
                        have e245 : a.tmps.getD 245 undef = .bool true := hA ⟨17, .data⟩ (by simp) rfl
                        refine Does.plain rfl ?_
                        unfold yieldsK
                        go_simp
                        exact ⟨rfl, Keep.refl _ _⟩
                      by_cases h19 : i = 19
                      · subst h19
                        simp only [List.getElem?_toArray, List.getElem?_cons_zero, List.getElem?_cons_succ, Option.some.injEq] at hoo
                        subst hoo
                        have e246 : a.tmps.getD 246 undef = .bool true := hA ⟨18, .data⟩ (by simp) rfl
                        refine Does.plain rfl ?_
                        unfold yieldsK
                        go_simp
                        exact ⟨rfl, Keep.refl _ _⟩
                      by_cases h20 : i = 20
                      · subst h20
                        simp only [List.getElem?_toArray, List.getElem?_cons_zero, List.getElem?_cons_succ, Option.some.injEq] at hoo
                        subst hoo
                        have e25 : a.tmps.getD 25 undef = .int .i64 70 := hF.2.2 25 (by decide)
                        refine Does.yes (j := 19) (d := 247) (want := true) rfl rfl (hA ⟨19, .guard⟩ (by simp) rfl) ?_
                        unfold yieldsK
                        go_simp
                        exact ⟨rfl, Keep.refl _ _⟩
                      by_cases h21 : i = 21
                      · subst h21
                        simp only [List.getElem?_toArray, List.getElem?_cons_zero, List.getElem?_cons_succ, Option.some.injEq] at hoo
                        subst hoo
                        have e248 : a.tmps.getD 248 undef = .int .i64 70 := hA ⟨20, .data⟩ (by simp) rfl
                        refine Does.yes (j := 19) (d := 247) (want := true) rfl rfl (hA ⟨19, .guard⟩ (by simp) rfl) ?_
                        unfold yieldsK
                        go_simp
                        exact ⟨rfl, Keep.refl _ _⟩
                      by_cases h22 : i = 22
                      · subst h22
                        simp only [List.getElem?_toArray, List.getElem?_cons_zero, List.getElem?_cons_succ, Option.some.injEq] at hoo
                        subst hoo
                        have e247 : a.tmps.getD 247 undef = .bool true := hA ⟨19, .data⟩ (by simp) rfl
                        have e249 : a.tmps.getD 249 undef = .bool true := hA ⟨21, .data⟩ (by simp) rfl
                        refine Does.plain rfl ?_
                        unfold yieldsK
                        go_simp
                        exact ⟨rfl, Keep.refl _ _⟩
                      by_cases h23 : i = 23
                      · subst h23
                        simp only [List.getElem?_toArray, List.getElem?_cons_zero, List.getElem?_cons_succ, Option.some.injEq] at hoo
                        subst hoo
                        have e250 : a.tmps.getD 250 undef = .bool true := hA ⟨22, .data⟩ (by simp) rfl
                        refine Does.plain rfl ?_
                        unfold yieldsK
                        go_simp
                        exact ⟨rfl, Keep.refl _ _⟩
                      by_cases h24 : i = 24
                      · subst h24
                        simp only [List.getElem?_toArray, List.getElem?_cons_zero, List.getElem?_cons_succ, Option.some.injEq] at hoo
                        subst hoo
                        have e28 : a.tmps.getD 28 undef = .int .i64 0 := hF.2.2 28 (by decide)
                        refine Does.yes (j := 23) (d := 251) (want := true) rfl rfl (hA ⟨23, .guard⟩ (by simp) rfl) ?_
                        unfold yieldsK
                        go_simp
                        exact ⟨rfl, Keep.refl _ _⟩
                      by_cases h25 : i = 25
                      · subst h25
                        simp only [List.getElem?_toArray, List.getElem?_cons_zero, List.getElem?_cons_succ, Option.some.injEq] at hoo
                        subst hoo
                        have e252 : a.tmps.getD 252 undef = .int .i64 0 := hA ⟨24, .data⟩ (by simp) rfl
                        refine Does.yes (j := 23) (d := 251) (want := true) rfl rfl (hA ⟨23, .guard⟩ (by simp) rfl) ?_
                        unfold yieldsK
                        go_simp
                        exact ⟨rfl, Keep.refl _ _⟩
                      by_cases h26 : i = 26
                      · subst h26
                        simp only [List.getElem?_toArray, List.getElem?_cons_zero, List.getElem?_cons_succ, Option.some.injEq] at hoo
                        subst hoo
                        have e251 : a.tmps.getD 251 undef = .bool true := hA ⟨23, .data⟩ (by simp) rfl
                        have e253 : a.tmps.getD 253 undef = .bool true := hA ⟨25, .data⟩ (by simp) rfl
                        refine Does.plain rfl ?_
                        unfold yieldsK
                        go_simp
                        exact ⟨rfl, Keep.refl _ _⟩
                      by_cases h27 : i = 27
                      · subst h27
                        simp only [List.getElem?_toArray, List.getElem?_cons_zero, List.getElem?_cons_succ, Option.some.injEq] at hoo
                        subst hoo
                        have e254 : a.tmps.getD 254 undef = .bool true := hA ⟨26, .data⟩ (by simp) rfl
                        refine Does.plain rfl ?_
                        unfold yieldsK
                        go_simp
                        exact ⟨rfl, Keep.refl _ _⟩
                      by_cases h28 : i = 28
                      · subst h28
                        simp only [List.getElem?_toArray, List.getElem?_cons_zero, List.getElem?_cons_succ, Option.some.injEq] at hoo
                        subst hoo
                        have e27 : a.tmps.getD 27 undef = .slice RA 1 rc := hF.2.2 27 (by decide)
                        refine Does.yes (j := 27) (d := 255) (want := true) rfl rfl (hA ⟨27, .guard⟩ (by simp) rfl) ?_
                        unfold yieldsK
                        go_simp
                        exact ⟨rfl, Keep.refl _ _⟩
                      by_cases h29 : i = 29
                      · subst h29
                        simp only [List.getElem?_toArray, List.getElem?_cons_zero, List.getElem?_cons_succ, Option.some.injEq] at hoo
                        subst hoo
                        have e26 : a.tmps.getD 26 undef = .slice (some ⟨w20.heap.size + 1, 0, none⟩) 4 4 := hF.2.2 26 (by decide)
                        refine Does.yes (j := 27) (d := 255) (want := true) rfl rfl (hA ⟨27, .guard⟩ (by simp) rfl) ?_
                        unfold yieldsK
                        go_simp
                        exact ⟨rfl, Keep.refl _ _⟩
                      by_cases h30 : i = 30
                      · subst h30
                        simp only [List.getElem?_toArray, List.getElem?_cons_zero, List.getElem?_cons_succ, Option.some.injEq] at hoo
                        subst hoo
                        have e257 : a.tmps.getD 257 undef = .slice (some ⟨w20.heap.size + 1, 0, none⟩) 4 4 := hA ⟨29, .data⟩ (by simp) rfl
                        refine Does.yes (j := 27) (d := 255) (want := true) rfl rfl (hA ⟨27, .guard⟩ (by simp) rfl) ?_
                        unfold yieldsK
                        go_simp
                        exact ⟨rfl, Keep.refl _ _⟩
                      by_cases h31 : i = 31
                      · subst h31
                        simp only [List.getElem?_toArray, List.getElem?_cons_zero, List.getElem?_cons_succ, Option.some.injEq] at hoo
                        subst hoo
                        have e256 : a.tmps.getD 256 undef = .slice RA 1 rc := hA ⟨28, .data⟩ (by simp) rfl
                        have e258 : a.tmps.getD 258 undef = .slice (some ⟨w20.heap.size + 1, 4, none⟩) 1 2 := hA ⟨30, .data⟩ (by simp) rfl
                        refine Does.yes (j := 27) (d := 255) (want := true) rfl rfl (hA ⟨27, .guard⟩ (by simp) rfl) ?_
                        unfold yieldsK
                        go_simp
                        refine (W.same_any RA (some ⟨w20.heap.size + 1, 4, none⟩) [(2, 7)] [(2, 7)] 1 1 rc 2 w' (HRR.out.keepN (keepN KR hK)) (rd_partN (HS.out.keep (keepN KS hK) id) 4 rfl) rfl rfl (by decide) (by decide) true (by show _ = _; simp)).mono ?_
                        rintro e w2 ⟨rfl, h2⟩
                        exact ⟨_, rfl, rfl, h2⟩
                      by_cases h32 : i = 32
                      · subst h32
                        simp only [List.getElem?_toArray, List.getElem?_cons_zero, List.getElem?_cons_succ, Option.some.injEq] at hoo
                        subst hoo
                        have e255 : a.tmps.getD 255 undef = .bool true := hA ⟨27, .data⟩ (by simp) rfl
                        have e259 : a.tmps.getD 259 undef = .bool true := hA ⟨31, .data⟩ (by simp) rfl
                        refine Does.plain rfl ?_
                        unfold yieldsK
                        go_simp
                        exact ⟨rfl, Keep.refl _ _⟩
                      by_cases h33 : i = 33
                      · subst h33
                        simp only [List.getElem?_toArray, List.getElem?_cons_zero, List.getElem?_cons_succ, Option.some.injEq] at hoo
                        subst hoo
                        have e260 : a.tmps.getD 260 undef = .bool true := hA ⟨32, .data⟩ (by simp) rfl
                        refine Does.plain rfl ?_
                        unfold yieldsK
                        go_simp
                        exact ⟨rfl, Keep.refl _ _⟩
                      by_cases h34 : i = 34
                      · subst h34
                        simp only [List.getElem?_toArray, List.getElem?_cons_zero, List.getElem?_cons_succ, Option.some.injEq] at hoo
                        subst hoo
                        have e30 : a.tmps.getD 30 undef = .int .i64 72 := hF.2.2 30 (by decide)
                        refine Does.yes (j := 33) (d := 261) (want := true) rfl rfl (hA ⟨33, .guard⟩ (by simp) rfl) ?_
                        unfold yieldsK
                        go_simp
                        exact ⟨rfl, Keep.refl _ _⟩
                      by_cases h35 : i = 35
                      · subst h35
                        simp only [List.getElem?_toArray, List.getElem?_cons_zero, List.getElem?_cons_succ, Option.some.injEq] at hoo
                        subst hoo
                        have e262 : a.tmps.getD 262 undef = .int .i64 72 := hA ⟨34, .data⟩ (by simp) rfl
                        refine Does.yes (j := 33) (d := 261) (want := true) rfl rfl (hA ⟨33, .guard⟩ (by simp) rfl) ?_
                        unfold yieldsK
                        go_simp
                        exact ⟨rfl, Keep.refl _ _⟩
                      by_cases h36 : i = 36
                      · subst h36
                        simp only [List.getElem?_toArray, List.getElem?_cons_zero, List.getElem?_cons_succ, Option.some.injEq] at hoo
                        subst hoo
                        have e261 : a.tmps.getD 261 undef = .bool true := hA ⟨33, .data⟩ (by simp) rfl
                        have e263 : a.tmps.getD 263 undef = .bool true := hA ⟨35, .data⟩ (by simp) rfl
                        refine Does.plain rfl ?_
                        unfold yieldsK
                        go_simp
                        exact ⟨rfl, Keep.refl _ _⟩
                      by_cases h37 : i = 37
                      · subst h37
                        simp only [List.getElem?_toArray, List.getElem?_cons_zero, List.getElem?_cons_succ, Option.some.injEq] at hoo
                        subst hoo
                        have e264 : a.tmps.getD 264 undef = .bool true := hA ⟨36, .data⟩ (by simp) rfl
                        refine Does.plain rfl ?_
                        unfold yieldsK
                        go_simp
                        exact ⟨rfl, Keep.refl _ _⟩
                      by_cases h38 : i = 38
                      · subst h38
                        simp only [List.getElem?_toArray, List.getElem?_cons_zero, List.getElem?_cons_succ, Option.some.injEq] at hoo
                        subst hoo
                        have e33 : a.tmps.getD 33 undef = .int .i64 72 := hF.2.2 33 (by decide)
                        refine Does.yes (j := 37) (d := 265) (want := true) rfl rfl (hA ⟨37, .guard⟩ (by simp) rfl) ?_
                        unfold yieldsK
                        go_simp
                        exact ⟨rfl, Keep.refl _ _⟩
                      by_cases h39 : i = 39
                      · subst h39
                        simp only [List.getElem?_toArray, List.getElem?_cons_zero, List.getElem?_cons_succ, Option.some.injEq] at hoo
                        subst hoo
                        have e266 : a.tmps.getD 266 undef = .int .i64 72 := hA ⟨38, .data⟩ (by simp) rfl
                        refine Does.yes (j := 37) (d := 265) (want := true) rfl rfl (hA ⟨37, .guard⟩ (by simp) rfl) ?_
                        unfold yieldsK
                        go_simp
                        exact ⟨rfl, Keep.refl _ _⟩
                      by_cases h40 : i = 40
                      · subst h40
                        simp only [List.getElem?_toArray, List.getElem?_cons_zero, List.getElem?_cons_succ, Option.some.injEq] at hoo
                        subst hoo
                        have e265 : a.tmps.getD 265 undef = .bool true := hA ⟨37, .data⟩ (by simp) rfl
                        have e267 : a.tmps.getD 267 undef = .bool true := hA ⟨39, .data⟩ (by simp) rfl
                        refine Does.plain rfl ?_
                        unfold yieldsK
                        go_simp
                        exact ⟨rfl, Keep.refl _ _⟩
                      by_cases h41 : i = 41
                      · subst h41
                        simp only [List.getElem?_toArray, List.getElem?_cons_zero, List.getElem?_cons_succ, Option.some.injEq] at hoo
                        subst hoo
                        have e268 : a.tmps.getD 268 undef = .bool true := hA ⟨40, .data⟩ (by simp) rfl
                        refine Does.plain rfl ?_
                        unfold yieldsK
                        go_simp
                        exact ⟨rfl, Keep.refl _ _⟩
                      omega
                    case spec =>
                      intro o a w' hoo
                      simp at hoo
                    case fin =>
                      intro a w' hF gK hA
                      have e34 : a.tmps.getD 34 undef = .bool true := hA 41 (by decide)
                      clear x0 x1 x2 x3 x4
                      have ha := frameD_list (l := [228, 229, 230, 231, 232, 233, 234, 235, 236, 237, 238, 239, 240, 241, 242, 243, 244, 245, 246, 247, 248, 249, 250, 251, 252, 253, 254, 255, 256, 257, 258, 259, 260, 261, 262, 263, 264, 265, 266, 267, 268, 34]) rfl hF
                      rw [ha]
                      simp only [List.map_cons, List.map_nil, e34]
                      generalize a.tmps.getD 228 undef = u0
                      generalize a.tmps.getD 229 undef = u1
                      generalize a.tmps.getD 230 undef = u2
                      generalize a.tmps.getD 231 undef = u3
                      generalize a.tmps.getD 232 undef = u4
                      generalize a.tmps.getD 233 undef = u5
                      generalize a.tmps.getD 234 undef = u6
                      generalize a.tmps.getD 235 undef = u7
                      generalize a.tmps.getD 236 undef = u8
                      generalize a.tmps.getD 237 undef = u9
                      generalize a.tmps.getD 238 undef = u10
                      generalize a.tmps.getD 239 undef = u11
                      generalize a.tmps.getD 240 undef = u12
                      generalize a.tmps.getD 241 undef = u13
                      generalize a.tmps.getD 242 undef = u14
                      generalize a.tmps.getD 243 undef = u15
                      generalize a.tmps.getD 244 undef = u16
                      generalize a.tmps.getD 245 undef = u17
                      generalize a.tmps.getD 246 undef = u18
                      generalize a.tmps.getD 247 undef = u19
                      generalize a.tmps.getD 248 undef = u20
                      generalize a.tmps.getD 249 undef = u21
                      generalize a.tmps.getD 250 undef = u22
                      generalize a.tmps.getD 251 undef = u23
                      generalize a.tmps.getD 252 undef = u24
                      generalize a.tmps.getD 253 undef = u25
                      generalize a.tmps.getD 254 undef = u26
                      generalize a.tmps.getD 255 undef = u27
                      generalize a.tmps.getD 256 undef = u28
                      generalize a.tmps.getD 257 undef = u29
                      generalize a.tmps.getD 258 undef = u30
                      generalize a.tmps.getD 259 undef = u31
                      generalize a.tmps.getD 260 undef = u32
                      generalize a.tmps.getD 261 undef = u33
                      generalize a.tmps.getD 262 undef = u34
                      generalize a.tmps.getD 263 undef = u35
                      generalize a.tmps.getD 264 undef = u36
                      generalize a.tmps.getD 265 undef = u37
                      generalize a.tmps.getD 266 undef = u38
                      generalize a.tmps.getD 267 undef = u39
                      generalize a.tmps.getD 268 undef = u40
                      simp only [fillD, List.setIfInBounds_toArray, List.set_cons_zero, List.set_cons_succ]
                      replace K7 := keepN K7 gK
                      replace gK0 := keepN gK0 gK
                      clear hA hF ha e34 gK K18 KS KR
                      go_wp2_with fail
                      refine (alive_any _).mono ?_
                      rintro e w25 ⟨rfl, k1⟩
                      replace K7 := keepN K7 k1
                      replace gK0 := keepN gK0 k1
                      clear k1
                      obtain ⟨e0, e1, e2, e3, e4⟩ := blk5 (v := ⟨pS, pA, pna, pca, pB, pnb, pcb, A9, 61, c9, pD, pnd, pcd⟩) (HB.out.1.keep K7 id)
                      dsimp only at e0 e1 e2 e3 e4
                      obtain ⟨d0, d1, d2, d3, d4⟩ := blk5 (v := ⟨cS, cA, cna, cca, cB, cnb, ccb, A5, 62, c5, cD, cnd, ccd⟩) (HB.out.2.2.2.1.keep K7 id)
                      dsimp only at d0 d1 d2 d3 d4
                      go_wp2_with fail
                      refine (sameF_any ⟨pS, pA, pna, pca, pB, pnb, pcb, A9, 61, c9, pD, pnd, pcd⟩ ⟨[102], [1, 4], [2], 3 :: List.replicate 60 4, [(24, 0, 0)]⟩ ⟨cS, cA, cna, cca, cB, cnb, ccb, A5, 62, c5, cD, cnd, ccd⟩ ⟨[102], [1, 4], [2], 3 :: List.replicate 60 4 ++ [1], [(24, 0, 0)]⟩ _ (HB.out.2.1.keepN K7) (HB.out.2.2.2.2.1.keepN K7) HB.out.2.2.1 HB.out.2.2.2.2.2).mono ?_
                      rw [show sameF ⟨[102], [1, 4], [2], 3 :: List.replicate 60 4, [(24, 0, 0)]⟩ ⟨[102], [1, 4], [2], 3 :: List.replicate 60 4 ++ [1], [(24, 0, 0)]⟩ = false from by kernel_rfl]
                      rintro e w26 ⟨rfl, k1⟩
                      go_wp2
                      go_ret
                      exact ⟨rfl, keepN gK0 k1⟩

end Go.Proofs.YtbnekeomdhljhaaGreatDoor.F
