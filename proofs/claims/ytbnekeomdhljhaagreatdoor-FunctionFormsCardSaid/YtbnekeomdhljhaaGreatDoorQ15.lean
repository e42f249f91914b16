/-
  FunctionForms' walk: whether a function may be, its bytes, what is read of bytes, whether two are the same, and a copy, are the document's; what is handed in stays, and what is answered is new memory. Conditions: the functions' lists, and the bytes, lie in memory.
-/
import Derived.Test.YtbnekeomdhljhaaGreatDoorQ11
import Derived.Test.YtbnekeomdhljhaaGreatDoorQ13
import Derived.Test.YtbnekeomdhljhaaGreatDoorQ14
import Derived.Test.YtbnekeomdhljhaaGreatDoorQ12
import Derived.Test.YtbnekeomdhljhaaGreatDoorQ3
namespace Go.Proofs.YtbnekeomdhljhaaGreatDoor.F
open Go.RowKit W

theorem sm_own {W W0 : World} {P : Nat → Prop} {o v : FV} {f : Fu} (ho : OwnF W P o f) (h : FnAt W0 v f) (hs : SmF v) : SmF o := by
  have h1 := ho.fn
  have e0 := sz_len h1.nm
  have e1 := sz_len h.nm
  exact ⟨by have := hs.sz; omega, by have := hs.na; have := h1.la; have := h.la; omega, by have := hs.nb; have := h1.lb; have := h.lb; omega, by have := hs.nl; have := h1.ll; have := h.ll; omega, by have := hs.nd; have := h1.ld; have := h.ld; omega⟩
theorem sm_ok {W : World} {P : Nat → Prop} {v : FV} {f : Fu} (ho : OwnF W P v f) (hf : okF f = true) : SmF v := by
  obtain ⟨h1, h2, _, h4, h5⟩ := (okF_iff f).1 hf
  have h6 := ((okN_iff _).1 h1).1
  have h7 := (C.okB_parts h4).2.1
  have hn := ho.fn
  have e0 := sz_len hn.nm
  have := hn.la
  have := hn.lb
  have := hn.ll
  have := hn.ld
  exact ⟨by omega, by omega, by omega, by omega, by omega⟩
theorem sm_nil : SmF nilV := ⟨Nat.zero_le _, Nat.zero_le _, Nat.zero_le _, Nat.zero_le _, Nat.zero_le _⟩
theorem placeF {w : World} {br p : Nat} {O : Nat → Prop} {l : List UInt8} (h : V.RefAt w br O l p) : w.cell? ⟨br, 1, none⟩ = some (.int .i64 (p : Int)) := by
  obtain ⟨A, c, hb, _⟩ := h.cells
  simpa using hb.cell 1
/-- What lies ahead of the Reels, and stays. -/
structure FB (W : World) (x4 x5 x9 : Nat) (v u o : FV) (f g : Fu) (B RA X Y : Option Addr) (b xs : List UInt8) : Prop where
  b4 : Blk W x4 27 v.cells
  b5 : Blk W x5 27 u.cells
  b9 : Blk W x9 27 o.cells
  fv : FnAt W v f
  fu : FnAt W u g
  fo : FnAt W o f
  rb : V.Rd W B b
  rr : V.Rd W RA b
  rx : V.Rd W X xs
  ry : V.Rd W Y xs
  lt : ∀ ad, (B = some ad ∨ RA = some ad ∨ X = some ad ∨ Y = some ad) → ad.block < W.heap.size
theorem FB.keep {W W' : World} {O : Nat → Prop} {x4 x5 x9 : Nat} {v u o : FV} {f g : Fu} {B RA X Y : Option Addr} {b xs : List UInt8} (h : FB W x4 x5 x9 v u o f g B RA X Y b xs) (hk : Keep O W W') (hO : ∀ k, k < W.heap.size → ¬ O k) : FB W' x4 x5 x9 v u o f g B RA X Y b xs :=
  ⟨h.b4.keep hk (hO _ h.b4.lt), h.b5.keep hk (hO _ h.b5.lt), h.b9.keep hk (hO _ h.b9.lt), h.fv.keep hk hO, h.fu.keep hk hO, h.fo.keep hk hO,
    h.rb.keep hk (fun ad e _ => hO _ (h.lt ad (.inl e))), h.rr.keep hk (fun ad e _ => hO _ (h.lt ad (.inr (.inl e)))), h.rx.keep hk (fun ad e _ => hO _ (h.lt ad (.inr (.inr (.inl e))))), h.ry.keep hk (fun ad e _ => hO _ (h.lt ad (.inr (.inr (.inr e))))),
    fun ad e => Nat.lt_of_lt_of_le (h.lt ad e) hk.size⟩
theorem own_rdB {w : World} {O : Nat → Prop} {v : Value} {l : List UInt8} (h : V.OwnB w O v l) : ∃ A c, v = .slice A l.length c ∧ V.Rd w A l ∧ (∀ ad, A = some ad → ad.block < w.heap.size) := S.own_rd h

set_option maxRecDepth 100000 in
set_option maxHeartbeats 4000000 in
theorem forms_big (v u : FV) (N : ByteArray) (B : Option Addr) (m d : Nat) (w : World) (h : ¬ (SmF v ∧ SmF u ∧ N.size ≤ 100 ∧ m ≤ 8000)) :
    Calls Tryz.prog 3 #[v.val, u.val, .string N, .slice B m d] w fun e w' => e = .returned (.bool true) ∧ Keep NoB w w' := by
  have bx := (Blk.new w 27 v.cells).alloc (.cells u.cells 27)
  have bo := Blk.new (w.alloc (.cells v.cells 27)) 27 u.cells
  rw [World.size_alloc] at bo
  have gK := ((Keep.refl NoB w).alloc (.cells v.cells 27)).alloc (.cells u.cells 27)
  by_cases h1 : SmF v
  · have HG1 := Lib.hid (fun w => great_no v w h1)
    by_cases h2 : SmF u
    · have HG2 := Lib.hid (fun w => great_no u w h2)
      by_cases h3 : N.size ≤ 100
      · have hq3 : decide ((100 : Int) < (N.size : Int)) = false := by rw [decide_eq_false_iff_not]; omega
        have hq4 : decide ((8000 : Int) < (m : Int)) = true := by rw [decide_eq_true_iff]; have := Nat.lt_of_not_le (fun h4 => h ⟨h1, h2, h3, h4⟩); omega
        clear h h1 h2 h3
        obtain ⟨s0, A, na, ca, A2, nb, cb, L, nl, cl, D, nd, cd⟩ := v
        obtain ⟨s1, A3, ne, ce, A4, nf, cf, L2, ng, cg, D2, nh, ch⟩ := u
        dsimp only [FV.val, FV.cells] at *
        go_enter Tryz.func3, Tryz.ntmps3
        obtain ⟨x0, x1, x2, x3, x4⟩ := blk5 (v := ⟨s0, A, na, ca, A2, nb, cb, L, nl, cl, D, nd, cd⟩) bx
        obtain ⟨y0, y1, y2, y3, y4⟩ := blk5 (v := ⟨s1, A3, ne, ce, A4, nf, cf, L2, ng, cg, D2, nh, ch⟩) bo
        dsimp only at x0 x1 x2 x3 x4 y0 y1 y2 y3 y4
        go_wp2_with fail
        refine (HG1.out _).mono ?_
        rintro e wg1 ⟨rfl, k1⟩
        replace bx := bx.keep k1 id
        replace bo := bo.keep k1 id
        replace gK := keepN gK k1
        clear k1
        clear x0 x1 x2 x3 x4 y0 y1 y2 y3 y4
        obtain ⟨x0, x1, x2, x3, x4⟩ := blk5 (v := ⟨s0, A, na, ca, A2, nb, cb, L, nl, cl, D, nd, cd⟩) bx
        obtain ⟨y0, y1, y2, y3, y4⟩ := blk5 (v := ⟨s1, A3, ne, ce, A4, nf, cf, L2, ng, cg, D2, nh, ch⟩) bo
        dsimp only at x0 x1 x2 x3 x4 y0 y1 y2 y3 y4
        go_wp2_with fail
        refine (HG2.out _).mono ?_
        rintro e wg2 ⟨rfl, k1⟩
        replace bx := bx.keep k1 id
        replace bo := bo.keep k1 id
        replace gK := keepN gK k1
        clear k1
        clear x0 x1 x2 x3 x4 y0 y1 y2 y3 y4
        go_wp2
        go_ret
        exact ⟨rfl, gK⟩
      · have hq3 : decide ((100 : Int) < (N.size : Int)) = true := by rw [decide_eq_true_iff]; omega
        clear h h1 h2 h3
        obtain ⟨s0, A, na, ca, A2, nb, cb, L, nl, cl, D, nd, cd⟩ := v
        obtain ⟨s1, A3, ne, ce, A4, nf, cf, L2, ng, cg, D2, nh, ch⟩ := u
        dsimp only [FV.val, FV.cells] at *
        go_enter Tryz.func3, Tryz.ntmps3
        obtain ⟨x0, x1, x2, x3, x4⟩ := blk5 (v := ⟨s0, A, na, ca, A2, nb, cb, L, nl, cl, D, nd, cd⟩) bx
        obtain ⟨y0, y1, y2, y3, y4⟩ := blk5 (v := ⟨s1, A3, ne, ce, A4, nf, cf, L2, ng, cg, D2, nh, ch⟩) bo
        dsimp only at x0 x1 x2 x3 x4 y0 y1 y2 y3 y4
        go_wp2_with fail
        refine (HG1.out _).mono ?_
        rintro e wg1 ⟨rfl, k1⟩
        replace bx := bx.keep k1 id
        replace bo := bo.keep k1 id
        replace gK := keepN gK k1
        clear k1
        clear x0 x1 x2 x3 x4 y0 y1 y2 y3 y4
        obtain ⟨x0, x1, x2, x3, x4⟩ := blk5 (v := ⟨s0, A, na, ca, A2, nb, cb, L, nl, cl, D, nd, cd⟩) bx
        obtain ⟨y0, y1, y2, y3, y4⟩ := blk5 (v := ⟨s1, A3, ne, ce, A4, nf, cf, L2, ng, cg, D2, nh, ch⟩) bo
        dsimp only at x0 x1 x2 x3 x4 y0 y1 y2 y3 y4
        go_wp2_with fail
        refine (HG2.out _).mono ?_
        rintro e wg2 ⟨rfl, k1⟩
        replace bx := bx.keep k1 id
        replace bo := bo.keep k1 id
        replace gK := keepN gK k1
        clear k1
        clear x0 x1 x2 x3 x4 y0 y1 y2 y3 y4
        go_wp2
        go_ret
        exact ⟨rfl, gK⟩
    · have HG2 := Lib.hid (fun w => great_yes u w h2)
      clear h h1 h2
      obtain ⟨s0, A, na, ca, A2, nb, cb, L, nl, cl, D, nd, cd⟩ := v
      obtain ⟨s1, A3, ne, ce, A4, nf, cf, L2, ng, cg, D2, nh, ch⟩ := u
      dsimp only [FV.val, FV.cells] at *
      go_enter Tryz.func3, Tryz.ntmps3
      obtain ⟨x0, x1, x2, x3, x4⟩ := blk5 (v := ⟨s0, A, na, ca, A2, nb, cb, L, nl, cl, D, nd, cd⟩) bx
      obtain ⟨y0, y1, y2, y3, y4⟩ := blk5 (v := ⟨s1, A3, ne, ce, A4, nf, cf, L2, ng, cg, D2, nh, ch⟩) bo
      dsimp only at x0 x1 x2 x3 x4 y0 y1 y2 y3 y4
      go_wp2_with fail
      refine (HG1.out _).mono ?_
      rintro e wg1 ⟨rfl, k1⟩
      replace bx := bx.keep k1 id
      replace bo := bo.keep k1 id
      replace gK := keepN gK k1
      clear k1
      clear x0 x1 x2 x3 x4 y0 y1 y2 y3 y4
      obtain ⟨x0, x1, x2, x3, x4⟩ := blk5 (v := ⟨s0, A, na, ca, A2, nb, cb, L, nl, cl, D, nd, cd⟩) bx
      obtain ⟨y0, y1, y2, y3, y4⟩ := blk5 (v := ⟨s1, A3, ne, ce, A4, nf, cf, L2, ng, cg, D2, nh, ch⟩) bo
      dsimp only at x0 x1 x2 x3 x4 y0 y1 y2 y3 y4
      go_wp2_with fail
      refine (HG2.out _).mono ?_
      rintro e wg2 ⟨rfl, k1⟩
      replace bx := bx.keep k1 id
      replace bo := bo.keep k1 id
      replace gK := keepN gK k1
      clear k1
      clear x0 x1 x2 x3 x4 y0 y1 y2 y3 y4
      go_wp2
      go_ret
      exact ⟨rfl, gK⟩
  · have HG1 := Lib.hid (fun w => great_yes v w h1)
    clear h h1
    obtain ⟨s0, A, na, ca, A2, nb, cb, L, nl, cl, D, nd, cd⟩ := v
    obtain ⟨s1, A3, ne, ce, A4, nf, cf, L2, ng, cg, D2, nh, ch⟩ := u
    dsimp only [FV.val, FV.cells] at *
    go_enter Tryz.func3, Tryz.ntmps3
    obtain ⟨x0, x1, x2, x3, x4⟩ := blk5 (v := ⟨s0, A, na, ca, A2, nb, cb, L, nl, cl, D, nd, cd⟩) bx
    obtain ⟨y0, y1, y2, y3, y4⟩ := blk5 (v := ⟨s1, A3, ne, ce, A4, nf, cf, L2, ng, cg, D2, nh, ch⟩) bo
    dsimp only at x0 x1 x2 x3 x4 y0 y1 y2 y3 y4
    go_wp2_with fail
    refine (HG1.out _).mono ?_
    rintro e wg1 ⟨rfl, k1⟩
    replace bx := bx.keep k1 id
    replace bo := bo.keep k1 id
    replace gK := keepN gK k1
    clear k1
    clear x0 x1 x2 x3 x4 y0 y1 y2 y3 y4
    go_wp2
    go_ret
    exact ⟨rfl, gK⟩

/-- What the values are that the law's region yields. -/
def SH (N E : ByteArray) (s xs : List UInt8) (v u o p q c : FV) (f g : Fu) (X Y : Option Addr) (cx cy : Nat) (rc : Int) (br bs P : Nat) : Nat → Value → World → Prop
  | 0 => fun u0 _ => u0 = .string N
  | 1 => fun u0 _ => u0 = .int .i64 (chkN s)
  | 2 => fun u0 _ => u0 = .string N
  | 3 => fun u0 _ => u0 = .int .i64 (chkN s)
  | 4 => fun u0 _ => u0 = .bool false
  | 5 => fun u0 _ => u0 = .bool false
  | 6 => fun u0 _ => u0 = o.val
  | 7 => fun u0 _ => u0 = .int .i64 (chkF f)
  | 8 => fun u0 _ => u0 = v.val
  | 9 => fun u0 _ => u0 = .int .i64 (chkF f)
  | 10 => fun u0 _ => u0 = .bool false
  | 11 => fun u0 _ => u0 = .bool false
  | 12 => fun u0 _ => u0 = .bool false
  | 13 => fun u0 _ => u0 = .slice X xs.length cx
  | 14 => fun u0 _ => u0 = .string E
  | 15 => fun u0 _ => u0 = .slice Y xs.length cy
  | 16 => fun u0 _ => u0 = .string E
  | 17 => fun u0 _ => u0 = .bool false
  | 18 => fun u0 _ => u0 = .bool false
  | 19 => fun u0 _ => u0 = .bool false
  | 20 => fun u0 _ => u0 = .int .i64 (chkF f)
  | 21 => fun u0 _ => u0 = .int .i64 (chkF f)
  | 22 => fun u0 _ => u0 = .bool false
  | 23 => fun u0 _ => u0 = .bool false
  | 24 => fun u0 _ => u0 = .bool false
  | 25 => fun u0 _ => u0 = p.val
  | 26 => fun u0 _ => u0 = q.val
  | 27 => fun u0 _ => u0 = .bool true
  | 28 => fun u0 _ => u0 = .bool false
  | 29 => fun u0 _ => u0 = .bool false
  | 30 => fun u0 _ => u0 = .bool false
  | 31 => fun u0 _ => u0 = .int .i64 rc
  | 32 => fun u0 _ => u0 = .int .i64 rc
  | 33 => fun u0 _ => u0 = .bool false
  | 34 => fun u0 _ => u0 = .bool false
  | 35 => fun u0 _ => u0 = .bool false
  | 36 => fun u0 _ => u0 = .int .i64 rc
  | 37 => fun u0 _ => u0 = .bool true
  | 38 => fun u0 _ => u0 = .bool true
  | 39 => fun u0 _ => u0 = .pointer (some ⟨br, 0, none⟩)
  | 40 => fun u0 _ => u0 = .int .i64 (P : Int)
  | 41 => fun u0 _ => u0 = .pointer (some ⟨bs, 0, none⟩)
  | 42 => fun u0 _ => u0 = .pointer (some ⟨bs, 0, none⟩)
  | 43 => fun u0 _ => u0 = .pointer (some ⟨bs, 1, none⟩)
  | 44 => fun u0 _ => u0 = .int .i64 (P : Int)
  | 45 => fun u0 _ => u0 = .bool false
  | 46 => fun u0 _ => u0 = .bool false
  | 47 => fun u0 _ => u0 = .bool false
  | 48 => fun u0 _ => u0 = .bool false
  | 49 => fun u0 _ => u0 = o.val
  | 50 => fun u0 _ => u0 = u.val
  | 51 => fun u0 _ => u0 = .bool (sameF f g)
  | 52 => fun u0 _ => u0 = v.val
  | 53 => fun u0 _ => u0 = u.val
  | 54 => fun u0 _ => u0 = .bool (sameF f g)
  | 55 => fun u0 _ => u0 = .bool false
  | 56 => fun u0 _ => u0 = .bool false
  | 57 => fun u0 _ => u0 = .bool false
  | 58 => fun u0 _ => u0 = c.val
  | 59 => fun u0 _ => u0 = v.val
  | 60 => fun u0 _ => u0 = .bool true
  | 61 => fun u0 _ => u0 = .bool false
  | 62 => fun u0 _ => u0 = .bool false
  | _ => fun _ _ => True
theorem SH_stable (N E : ByteArray) (s xs : List UInt8) (v u o p q c : FV) (f g : Fu) (X Y : Option Addr) (cx cy : Nat) (rc : Int) (br bs P : Nat) (i : Nat) (z : Value) (w w' : World) (h : SH N E s xs v u o p q c f g X Y cx cy rc br bs P i z w) : SH N E s xs v u o p q c f g X Y cx cy rc br bs P i z w' := by
  unfold SH at h ⊢
  split at h <;> exact h
/-- What the values are that the law's region yields. -/
def SJ (N E : ByteArray) (s xs : List UInt8) (v u o p q c : FV) (f g : Fu) (X Y : Option Addr) (cx cy : Nat) (rc : Int) : Nat → Value → World → Prop
  | 0 => fun u0 _ => u0 = .string N
  | 1 => fun u0 _ => u0 = .int .i64 (chkN s)
  | 2 => fun u0 _ => u0 = .string N
  | 3 => fun u0 _ => u0 = .int .i64 (chkN s)
  | 4 => fun u0 _ => u0 = .bool false
  | 5 => fun u0 _ => u0 = .bool false
  | 6 => fun u0 _ => u0 = o.val
  | 7 => fun u0 _ => u0 = .int .i64 (chkF f)
  | 8 => fun u0 _ => u0 = v.val
  | 9 => fun u0 _ => u0 = .int .i64 (chkF f)
  | 10 => fun u0 _ => u0 = .bool false
  | 11 => fun u0 _ => u0 = .bool false
  | 12 => fun u0 _ => u0 = .bool false
  | 13 => fun u0 _ => u0 = .slice X xs.length cx
  | 14 => fun u0 _ => u0 = .string E
  | 15 => fun u0 _ => u0 = .slice Y xs.length cy
  | 16 => fun u0 _ => u0 = .string E
  | 17 => fun u0 _ => u0 = .bool false
  | 18 => fun u0 _ => u0 = .bool false
  | 19 => fun u0 _ => u0 = .bool false
  | 20 => fun u0 _ => u0 = .int .i64 (chkF f)
  | 21 => fun u0 _ => u0 = .int .i64 (chkF f)
  | 22 => fun u0 _ => u0 = .bool false
  | 23 => fun u0 _ => u0 = .bool false
  | 24 => fun u0 _ => u0 = .bool false
  | 25 => fun u0 _ => u0 = p.val
  | 26 => fun u0 _ => u0 = q.val
  | 27 => fun u0 _ => u0 = .bool true
  | 28 => fun u0 _ => u0 = .bool false
  | 29 => fun u0 _ => u0 = .bool false
  | 30 => fun u0 _ => u0 = .bool false
  | 31 => fun u0 _ => u0 = .int .i64 rc
  | 32 => fun u0 _ => u0 = .int .i64 rc
  | 33 => fun u0 _ => u0 = .bool false
  | 34 => fun u0 _ => u0 = .bool false
  | 35 => fun u0 _ => u0 = .bool false
  | 36 => fun u0 _ => u0 = .int .i64 rc
  | 37 => fun u0 _ => u0 = .bool false
  | 38 => fun u0 _ => u0 = .bool false
  | 39 => fun _ _ => True
  | 40 => fun _ _ => True
  | 41 => fun _ _ => True
  | 42 => fun _ _ => True
  | 43 => fun _ _ => True
  | 44 => fun _ _ => True
  | 45 => fun _ _ => True
  | 46 => fun u0 _ => u0 = .bool false
  | 47 => fun u0 _ => u0 = .bool false
  | 48 => fun u0 _ => u0 = .bool false
  | 49 => fun u0 _ => u0 = o.val
  | 50 => fun u0 _ => u0 = u.val
  | 51 => fun u0 _ => u0 = .bool (sameF f g)
  | 52 => fun u0 _ => u0 = v.val
  | 53 => fun u0 _ => u0 = u.val
  | 54 => fun u0 _ => u0 = .bool (sameF f g)
  | 55 => fun u0 _ => u0 = .bool false
  | 56 => fun u0 _ => u0 = .bool false
  | 57 => fun u0 _ => u0 = .bool false
  | 58 => fun u0 _ => u0 = c.val
  | 59 => fun u0 _ => u0 = v.val
  | 60 => fun u0 _ => u0 = .bool true
  | 61 => fun u0 _ => u0 = .bool false
  | 62 => fun u0 _ => u0 = .bool false
  | _ => fun _ _ => True
theorem SJ_stable (N E : ByteArray) (s xs : List UInt8) (v u o p q c : FV) (f g : Fu) (X Y : Option Addr) (cx cy : Nat) (rc : Int) (i : Nat) (z : Value) (w w' : World) (h : SJ N E s xs v u o p q c f g X Y cx cy rc i z w) : SJ N E s xs v u o p q c f g X Y cx cy rc i z w' := by
  unfold SJ at h ⊢
  split at h <;> exact h

set_option maxRecDepth 100000 in
set_option maxHeartbeats 16000000 in
theorem forms_y
    (v : FV) (f : Fu) (u : FV) (g : Fu) (N : ByteArray) (s : List UInt8) (B : Option Addr) (b : List UInt8) (d : Nat) (w : World) (h : FnAt w v f) (h2 : FnAt w u g) (hN : N.data.toList = s) (hb : V.Rd w B b) (hc : b.length ≤ d) (hm : d ≤ maxLen) (hB : ∀ ad, B = some ad → ad.block < w.heap.size) (hs : SmF v) (hs2 : SmF u) (h3 : N.size ≤ 100) (h4 : b.length ≤ 8000) (fp : Fu) (Q : Nat) (hd : decF b 0 = some (fp, Q)) :
    Calls Tryz.prog 3 #[v.val, u.val, .string N, .slice B b.length d] w fun e w' => e = .returned (.bool true) ∧ Keep NoB w w' := by
  have bx := (Blk.new w 27 v.cells).alloc (.cells u.cells 27)
  have bo := Blk.new (w.alloc (.cells v.cells 27)) 27 u.cells
  rw [World.size_alloc] at bo
  have gK := ((Keep.refl NoB w).alloc (.cells v.cells 27)).alloc (.cells u.cells 27)
  have HG1 := Lib.hid (fun w => great_no v w hs)
  have HG2 := Lib.hid (fun w => great_no u w hs2)
  have hq3 : decide ((100 : Int) < (N.size : Int)) = false := by rw [decide_eq_false_iff_not]; omega
  have hq4 : decide ((8000 : Int) < (b.length : Int)) = false := by rw [decide_eq_false_iff_not]; omega
  have HL : Hid (b.length ≤ 140737488355328) := by show _ ≤ _; omega
  have HFV := Lib.hid (fun W hk => (h.keepN hk : FnAt W v f))
  have HFU := Lib.hid (fun W hk => (h2.keepN hk : FnAt W u g))
  have HC := Lib.hid (fun W hk => rcopyF_any v f W (h.keepN hk) hs)
  have HRE := Lib.hid (fun W hk => rencF_any v f W (h.keepN hk) hs)
  have HSO := Lib.hid (fun W P o (ho : OwnF W P o f) => sm_own ho h hs)
  have HRB := Lib.hid (fun W hk => S.rd_n (w' := W) hb hk)
  have HDC : Hid (b.length ≤ d ∧ d ≤ maxLen) := ⟨hc, hm⟩
  have HBL := Lib.hid hB
  have HD := Lib.hid hd
  have HS := Lib.hid (And.intro hs hs2)
  have HNM := Lib.hid (fun W => named_any N s W hN (by omega) _ rfl)
  have HNR := Lib.hid (fun W => rnamed_any N s W hN (by omega) _ rfl)
  clear h h2 hs hs2 hb hc hm hB hd h3 hN
  obtain ⟨s0, A, na, ca, A2, nb, cb, L, nl, cl, D, nd, cd⟩ := v
  obtain ⟨s1, A3, ne, ce, A4, nf, cf, L2, ng, cg, D2, nh, ch⟩ := u
  dsimp only [FV.val, FV.cells] at HFV HFU HC HRE HG1 HG2 bx bo gK ⊢
  go_enter Tryz.func3, Tryz.ntmps3
  obtain ⟨x0, x1, x2, x3, x4⟩ := blk5 (v := ⟨s0, A, na, ca, A2, nb, cb, L, nl, cl, D, nd, cd⟩) bx
  obtain ⟨y0, y1, y2, y3, y4⟩ := blk5 (v := ⟨s1, A3, ne, ce, A4, nf, cf, L2, ng, cg, D2, nh, ch⟩) bo
  dsimp only at x0 x1 x2 x3 x4 y0 y1 y2 y3 y4
  go_wp2_with fail
  refine (HG1.out _).mono ?_
  rintro e wg1 ⟨rfl, k1⟩
  replace bx := bx.keep k1 id
  replace bo := bo.keep k1 id
  replace gK := keepN gK k1
  clear k1
  clear x0 x1 x2 x3 x4 y0 y1 y2 y3 y4
  obtain ⟨x0, x1, x2, x3, x4⟩ := blk5 (v := ⟨s0, A, na, ca, A2, nb, cb, L, nl, cl, D, nd, cd⟩) bx
  obtain ⟨y0, y1, y2, y3, y4⟩ := blk5 (v := ⟨s1, A3, ne, ce, A4, nf, cf, L2, ng, cg, D2, nh, ch⟩) bo
  dsimp only at x0 x1 x2 x3 x4 y0 y1 y2 y3 y4
  go_wp2_with fail
  refine (HG2.out _).mono ?_
  rintro e wg2 ⟨rfl, k1⟩
  replace bx := bx.keep k1 id
  replace bo := bo.keep k1 id
  replace gK := keepN gK k1
  clear k1
  clear x0 x1 x2 x3 x4 y0 y1 y2 y3 y4
  obtain ⟨x0, x1, x2, x3, x4⟩ := blk5 (v := ⟨s0, A, na, ca, A2, nb, cb, L, nl, cl, D, nd, cd⟩) bx
  obtain ⟨y0, y1, y2, y3, y4⟩ := blk5 (v := ⟨s1, A3, ne, ce, A4, nf, cf, L2, ng, cg, D2, nh, ch⟩) bo
  dsimp only at x0 x1 x2 x3 x4 y0 y1 y2 y3 y4
  go_wp2_with fail
  refine (HC.out _ gK).mono ?_
  rintro e w1 ⟨o, rfl, hO, k1⟩
  replace bx := bx.keep k1 id
  replace bo := bo.keep k1 id
  replace gK := keepN gK k1
  clear k1
  clear x0 x1 x2 x3 x4 y0 y1 y2 y3 y4
  have so := HSO.out _ _ o hO
  obtain ⟨oS, oA, ona, oca, oB, onb, ocb, oL, onl, ocl, oD, ond, ocd⟩ := o
  dsimp only [FV.val, FV.cells]
  obtain ⟨x0, x1, x2, x3, x4⟩ := blk5 (v := ⟨s0, A, na, ca, A2, nb, cb, L, nl, cl, D, nd, cd⟩) bx
  obtain ⟨y0, y1, y2, y3, y4⟩ := blk5 (v := ⟨s1, A3, ne, ce, A4, nf, cf, L2, ng, cg, D2, nh, ch⟩) bo
  dsimp only at x0 x1 x2 x3 x4 y0 y1 y2 y3 y4
  go_wp2_with fail
  refine (V.twin_any _ B b d (HRB.out _ gK) HL.out).mono ?_
  rintro e w2 ⟨vo, rfl, ho, k1⟩
  obtain ⟨RA, ra, rfl, hra, hrl⟩ := own_rdB ho
  replace bx := bx.keep k1 id
  replace bo := bo.keep k1 id
  replace gK := keepN gK k1
  replace hO := hO.keepN k1
  clear k1 ho
  clear x0 x1 x2 x3 x4 y0 y1 y2 y3 y4
  have b9 := Blk.new w2 27 (FV.cells ⟨oS, oA, ona, oca, oB, onb, ocb, oL, onl, ocl, oD, ond, ocd⟩)
  have kA := (Keep.refl NoB w2).alloc (.cells (FV.cells ⟨oS, oA, ona, oca, oB, onb, ocb, oL, onl, ocl, oD, ond, ocd⟩) 27)
  dsimp only [FV.cells] at b9 kA
  replace bx := bx.keep kA id
  replace bo := bo.keep kA id
  replace gK := keepN gK kA
  replace hO := hO.keepN kA
  replace hra := S.rd_n hra kA
  replace hrl := fun ad e => Nat.lt_of_lt_of_le (hrl ad e) kA.size
  clear kA
  obtain ⟨z0, z1, z2, z3, z4⟩ := blk5 (v := ⟨oS, oA, ona, oca, oB, onb, ocb, oL, onl, ocl, oD, ond, ocd⟩) b9
  dsimp only at z0 z1 z2 z3 z4
  go_wp2_with fail
  refine (encodeF_any ⟨oS, oA, ona, oca, oB, onb, ocb, oL, onl, ocl, oD, ond, ocd⟩ f _ hO.fn so).mono ?_
  rintro e w3 ⟨vx, rfl, hx, k1⟩
  obtain ⟨X, cx, rfl, hrx, hxl⟩ := own_rdB hx
  replace bx := bx.keep k1 id
  replace bo := bo.keep k1 id
  replace b9 := b9.keep k1 id
  replace gK := keepN gK k1
  replace hO := hO.keepN k1
  replace hra := S.rd_n hra k1
  replace hrl := fun ad e => Nat.lt_of_lt_of_le (hrl ad e) k1.size
  clear k1 hx z0 z1 z2 z3 z4
  obtain ⟨x0, x1, x2, x3, x4⟩ := blk5 (v := ⟨s0, A, na, ca, A2, nb, cb, L, nl, cl, D, nd, cd⟩) bx
  obtain ⟨y0, y1, y2, y3, y4⟩ := blk5 (v := ⟨s1, A3, ne, ce, A4, nf, cf, L2, ng, cg, D2, nh, ch⟩) bo
  dsimp only at x0 x1 x2 x3 x4 y0 y1 y2 y3 y4
  go_wp2_with fail
  refine (HRE.out _ gK).mono ?_
  rintro e w4 ⟨vy, rfl, hy, k1⟩
  obtain ⟨Y, cy, rfl, hry, hyl⟩ := own_rdB hy
  have hxs : Hid ((encF f) = (encF f)) := rfl
  generalize encF f = xs at hrx hry hxs ⊢
  replace bx := bx.keep k1 id
  replace bo := bo.keep k1 id
  replace b9 := b9.keep k1 id
  replace gK := keepN gK k1
  replace hO := hO.keepN k1
  replace hra := S.rd_n hra k1
  replace hrx := S.rd_n hrx k1
  replace hrl := fun ad e => Nat.lt_of_lt_of_le (hrl ad e) k1.size
  replace hxl := fun ad e => Nat.lt_of_lt_of_le (hxl ad e) k1.size
  clear k1 hy hxs
  clear x0 x1 x2 x3 x4 y0 y1 y2 y3 y4
  have FB6 : FB w4 w.heap.size (w.heap.size + 1) w2.heap.size ⟨s0, A, na, ca, A2, nb, cb, L, nl, cl, D, nd, cd⟩ ⟨s1, A3, ne, ce, A4, nf, cf, L2, ng, cg, D2, nh, ch⟩ ⟨oS, oA, ona, oca, oB, onb, ocb, oL, onl, ocl, oD, ond, ocd⟩ f g B RA X Y b xs :=
    ⟨bx, bo, b9, HFV.out _ gK, HFU.out _ gK, hO.fn, HRB.out _ gK, hra, hrx, hry, fun ad e => by
      rcases e with e | e | e | e
      · exact Nat.lt_of_lt_of_le (HBL.out ad e) gK.size
      · exact hrl ad e
      · exact hxl ad e
      · exact hyl ad e⟩
  have HFB := Lib.hid FB6
  have K6 := Keep.refl (fun k => w4.heap.size ≤ k) w4
  have gs0 := gK.size
  have HGK := Lib.hid gK
  clear bx bo b9 hO hra hrx hry hrl hxl hyl FB6 gK HC HRE HFV HFU HRB HG1 HG2
  go_wp2_with fail
  refine (V.on_any _ RA b ra HFB.out.rr HL.out).mono ?_
  rintro e w5 ⟨br, rfl, hR, k1⟩
  have hbr : w4.heap.size ≤ br := hR.1
  have hR : V.ReelAt w5 br (fun k => w4.heap.size ≤ k ∧ k < w5.heap.size) b 0 := hR.mono fun _ ho hk => ⟨ho, hk⟩
  have hbr2 : br < w5.heap.size := S.reel_lt hR
  have gs1 := k1.size
  have kA := (Keep.refl NoB w5).alloc (.cells #[.slice B b.length d, .int .i64 0] 41)
  have hS : V.RefAt (w5.alloc (.cells #[.slice B b.length d, .int .i64 0] 41)) w5.heap.size (fun k => k = w5.heap.size ∨ k < w.heap.size) b 0 :=
    ⟨.inl rfl, Nat.zero_le _, B, d, Blk.new _ _ _, S.rd_n (S.rd_n HFB.out.rb k1) kA, HDC.out.1, HDC.out.2, fun ad e => ⟨.inr (HBL.out ad e), by have := HBL.out ad e; simp; omega⟩⟩
  replace K6 := (K6.trans k1 (fun _ h _ => h.elim)).trans kA (fun _ h _ => h.elim)
  replace hR := hR.keep kA (fun _ _ => id)
  have gs2 : (w5.alloc (.cells #[.slice B b.length d, .int .i64 0] 41)).heap.size = w5.heap.size + 1 := by simp
  clear k1 kA
  go_wp2_with fail
  refine (decodeF_any _ br _ b 0 (fun k hk => by omega) hR HL.out).mono ?_
  rintro e w6 (⟨hn, _⟩ | ⟨fp', Q', p, hsm, rfl, hP, hR, k1⟩)
  · have := HD.out; rw [hn] at this; cases this
  obtain ⟨rfl, rfl⟩ : fp' = fp ∧ Q' = Q := by have := HD.out; rw [hsm] at this; injection this with this; injection this with e1 e2; exact ⟨e1, e2⟩
  have sp := sm_ok hP (decF_ok hsm).1
  clear hsm
  obtain ⟨pS, pA, pna, pca, pB, pnb, pcb, pL, pnl, pcl, pD, pnd, pcd⟩ := p
  dsimp only [FV.val, FV.cells]
  have gs3 := k1.size
  replace hS := hS.keep k1 (fun k ho e => by omega)
  replace K6 := K6.trans k1 (fun k e _ => by omega)
  have b17 := Blk.new w6 27 (FV.cells ⟨pS, pA, pna, pca, pB, pnb, pcb, pL, pnl, pcl, pD, pnd, pcd⟩)
  have kA := (Keep.refl NoB w6).alloc (.cells (FV.cells ⟨pS, pA, pna, pca, pB, pnb, pcb, pL, pnl, pcl, pD, pnd, pcd⟩) 27)
  dsimp only [FV.cells] at b17 kA
  replace hS := hS.keep kA (fun _ _ => id)
  replace hR := hR.keep kA (fun _ _ => id)
  have hSP := SpF.of (lo := w5.heap.size + 1) hP (fun k hk => by unfold Fresh at hk; omega)
  have KP := (Keep.refl (fun k => w6.heap.size ≤ k ∨ k = w5.heap.size) w6).trans kA (fun _ h _ => h.elim)
  replace hP := hP.keepN kA
  replace K6 := K6.trans kA (fun _ h _ => h.elim)
  have gs4 := b17.lt
  clear k1 kA
  go_wp2_with fail
  refine (rdecodeF_any _ w5.heap.size _ b 0 (fun k hk => by omega) hS HL.out).mono ?_
  rintro e w7 (⟨hn, _⟩ | ⟨fp2, Q2, q, hsm, rfl, hQ, hS, k1⟩)
  · have := HD.out; rw [hn] at this; cases this
  obtain ⟨rfl, rfl⟩ : fp2 = fp' ∧ Q2 = Q' := by have := HD.out; rw [hsm] at this; injection this with this; injection this with e1 e2; exact ⟨e1, e2⟩
  have sq := sm_ok hQ (decF_ok hsm).1
  clear hsm
  obtain ⟨qS, qA, qna, qca, qB, qnb, qcb, qL, qnl, qcl, qD, qnd, qcd⟩ := q
  dsimp only [FV.val, FV.cells]
  have gs5 := k1.size
  replace hP := hP.keep k1 (fun k ho e => by unfold Fresh at ho; omega)
  replace hR := hR.keep k1 (fun k ho e => by omega)
  replace b17 := b17.keep k1 (fun e => by omega)
  replace K6 := K6.trans k1 (fun k e _ => by omega)
  replace KP := KP.trans k1 (fun k e _ => .inr e)
  have b19 := Blk.new w7 27 (FV.cells ⟨qS, qA, qna, qca, qB, qnb, qcb, qL, qnl, qcl, qD, qnd, qcd⟩)
  have kA := (Keep.refl NoB w7).alloc (.cells (FV.cells ⟨qS, qA, qna, qca, qB, qnb, qcb, qL, qnl, qcl, qD, qnd, qcd⟩) 27)
  dsimp only [FV.cells] at b19 kA
  replace hS := hS.keep kA (fun _ _ => id)
  replace hR := hR.keep kA (fun _ _ => id)
  replace hP := hP.keepN kA
  replace hQ := hQ.keepN kA
  replace b17 := b17.keep kA id
  replace K6 := K6.trans kA (fun _ h _ => h.elim)
  replace KP := KP.trans kA (fun _ h _ => h.elim)
  have gs6 := kA.size
  clear k1 kA
  have F7 := HFB.out.keep K6 (fun k h1 h2 => by omega)
  obtain ⟨z0, z1, z2, z3, z4⟩ := blk5 (v := ⟨oS, oA, ona, oca, oB, onb, ocb, oL, onl, ocl, oD, ond, ocd⟩) F7.b9
  dsimp only at z0 z1 z2 z3 z4
  go_wp2_with fail
  refine (copyF_any ⟨oS, oA, ona, oca, oB, onb, ocb, oL, onl, ocl, oD, ond, ocd⟩ f _ F7.fo so).mono ?_
  rintro e w8 ⟨c, rfl, hC, k1⟩
  have sc := sm_own hC F7.fo so
  obtain ⟨cS, cA, cna, cca, cB, cnb, ccb, cL, cnl, ccl, cD, cnd, ccd⟩ := c
  dsimp only [FV.val, FV.cells]
  have gs7 := k1.size
  have b21 := Blk.new w8 27 (FV.cells ⟨cS, cA, cna, cca, cB, cnb, ccb, cL, cnl, ccl, cD, cnd, ccd⟩)
  have kA := (Keep.refl NoB w8).alloc (.cells (FV.cells ⟨cS, cA, cna, cca, cB, cnb, ccb, cL, cnl, ccl, cD, cnd, ccd⟩) 27)
  dsimp only [FV.cells] at b21 kA
  have kB := keepN k1 kA
  replace hS := hS.keep kB (fun _ _ => id)
  replace hR := hR.keep kB (fun _ _ => id)
  replace hP := hP.keepN kB
  replace hQ := hQ.keepN kB
  replace hC := hC.keepN kA
  replace b17 := b17.keep kB id
  replace b19 := b19.keep kB id
  replace K6 := K6.trans kB (fun _ h _ => h.elim)
  replace KP := KP.trans kB (fun _ h _ => h.elim)
  have gs8 := kA.size
  clear k1 kA kB F7 z0 z1 z2 z3 z4
  have F8 := HFB.out.keep K6 (fun k h1 h2 => by omega)
  obtain ⟨q40, q41, q42, q43, q44⟩ := blk5 (v := ⟨s0, A, na, ca, A2, nb, cb, L, nl, cl, D, nd, cd⟩) F8.b4
  obtain ⟨q50, q51, q52, q53, q54⟩ := blk5 (v := ⟨s1, A3, ne, ce, A4, nf, cf, L2, ng, cg, D2, nh, ch⟩) F8.b5
  obtain ⟨q90, q91, q92, q93, q94⟩ := blk5 (v := ⟨oS, oA, ona, oca, oB, onb, ocb, oL, onl, ocl, oD, ond, ocd⟩) F8.b9
  obtain ⟨qp0, qp1, qp2, qp3, qp4⟩ := blk5 (v := ⟨pS, pA, pna, pca, pB, pnb, pcb, pL, pnl, pcl, pD, pnd, pcd⟩) b17
  obtain ⟨qq0, qq1, qq2, qq3, qq4⟩ := blk5 (v := ⟨qS, qA, qna, qca, qB, qnb, qcb, qL, qnl, qcl, qD, qnd, qcd⟩) b19
  obtain ⟨qc0, qc1, qc2, qc3, qc4⟩ := blk5 (v := ⟨cS, cA, cna, cca, cB, cnb, ccb, cL, cnl, ccl, cD, cnd, ccd⟩) b21
  dsimp only at q40 q41 q42 q43 q44 q50 q51 q52 q53 q54 q90 q91 q92 q93 q94 qp0 qp1 qp2 qp3 qp4 qq0 qq1 qq2 qq3 qq4 qc0 qc1 qc2 qc3 qc4
  have hpl := placeF hS
  have HF8 := Lib.hid F8
  have HB17 := Lib.hid b17
  have HB21 := Lib.hid b21
  have HP := Lib.hid (And.intro hP sp)
  have HQ := Lib.hid (And.intro hQ sq)
  have HCC := Lib.hid (And.intro hC sc)
  have HSO2 := Lib.hid so
  have HRR := Lib.hid hR
  have HK6 := Lib.hid K6
  have HKP := Lib.hid (And.intro KP hSP)
  generalize hw8 : w8.alloc (.cells #[.string cS, .slice cA cna cca, .slice cB cnb ccb, .slice cL cnl ccl, .slice cD cnd ccd] 27) = w9 at HF8 HB17 HB21 HP HQ HCC HRR HK6 HKP hpl gs8 q40 q41 q42 q43 q44 q50 q51 q52 q53 q54 q90 q91 q92 q93 q94 qp0 qp1 qp2 qp3 qp4 qq0 qq1 qq2 qq3 qq4 qc0 qc1 qc2 qc3 qc4
  clear F8 b17 b19 b21 hP hQ hC sp sq sc so hR hS K6 KP hSP
  obtain ⟨E, hE⟩ : ∃ E, V.str xs = E := ⟨_, rfl⟩
  have hcv : ∀ W, Keep NoB w9 W → ∀ c, (convert 28 9 (.slice X xs.length c)).run Tryz.prog W = .ok (.string E) W := fun W hk c => by rw [← hE]; exact V.conv_rd (S.rd_n HF8.out.rx hk)
  have hcw : ∀ W, Keep NoB w9 W → ∀ c, (convert 28 9 (.slice Y xs.length c)).run Tryz.prog W = .ok (.string E) W := fun W hk c => by rw [← hE]; exact V.conv_rd (S.rd_n HF8.out.ry hk)
  have HConva := Lib.hid hcv
  have HConvb := Lib.hid hcw
  clear hcv hcw hE
  go_wp2_with fail
  clear hw8
  refine wp_region_props2 71 99 (NoB) (by kernel_rfl) (by kernel_rfl) (SH N E s xs ⟨s0, A, na, ca, A2, nb, cb, L, nl, cl, D, nd, cd⟩ ⟨s1, A3, ne, ce, A4, nf, cf, L2, ng, cg, D2, nh, ch⟩ ⟨oS, oA, ona, oca, oB, onb, ocb, oL, onl, ocl, oD, ond, ocd⟩ ⟨pS, pA, pna, pca, pB, pnb, pcb, pL, pnl, pcl, pD, pnd, pcd⟩ ⟨qS, qA, qna, qca, qB, qnb, qcb, qL, qnl, qcl, qD, qnd, qcd⟩ ⟨cS, cA, cna, cca, cB, cnb, ccb, cL, cnl, ccl, cD, cnd, ccd⟩ f g X Y cx cy (0) br w5.heap.size Q2) (fun i u x y _ h _ => SH_stable _ _ _ _ _ _ _ _ _ _ _ _ _ _ _ _ _ _ _ _ i u x y h) (of_decide_eq_true rfl) ?step ?spec ?fin
  case step =>
    intro i o a w' ho hic hF hK hA
    have hi : i < 63 := by simpa using (Array.getElem?_eq_some_iff.1 ho).1
    by_cases h0 : i = 0
    · subst h0
      simp only [List.getElem?_toArray, List.getElem?_cons_zero, Option.some.injEq] at ho
      subst ho
      have e2 : a.tmps.getD 2 undef = .string N := hF.2.2 2 (.inl (by decide))
      refine Does.plain rfl ?_
      unfold yieldsK
      go_simp
      exact ⟨rfl, Keep.refl _ _⟩
    by_cases h1 : i = 1
    · subst h1
      simp only [List.getElem?_toArray, List.getElem?_cons_zero, List.getElem?_cons_succ, Option.some.injEq] at ho
      subst ho
      have e71 : a.tmps.getD 71 undef = .string N := hA ⟨0, .data⟩ (by simp) rfl
      refine Does.plain rfl ?_
      unfold yieldsK
      go_simp
      refine (HNM.out w').mono ?_
      rintro e w2 ⟨rfl, rfl⟩
      exact ⟨_, rfl, rfl, Keep.refl _ _⟩
    by_cases h2 : i = 2
    · subst h2
      simp only [List.getElem?_toArray, List.getElem?_cons_zero, List.getElem?_cons_succ, Option.some.injEq] at ho
      subst ho
      have e2 : a.tmps.getD 2 undef = .string N := hF.2.2 2 (.inl (by decide))
      refine Does.plain rfl ?_
      unfold yieldsK
      go_simp
      exact ⟨rfl, Keep.refl _ _⟩
    by_cases h3 : i = 3
    · subst h3
      simp only [List.getElem?_toArray, List.getElem?_cons_zero, List.getElem?_cons_succ, Option.some.injEq] at ho
      subst ho
      have e73 : a.tmps.getD 73 undef = .string N := hA ⟨2, .data⟩ (by simp) rfl
      refine Does.plain rfl ?_
      unfold yieldsK
      go_simp
      refine (HNR.out w').mono ?_
      rintro e w2 ⟨rfl, rfl⟩
      exact ⟨_, rfl, rfl, Keep.refl _ _⟩
    by_cases h4 : i = 4
    · subst h4
      simp only [List.getElem?_toArray, List.getElem?_cons_zero, List.getElem?_cons_succ, Option.some.injEq] at ho
      subst ho
      have e72 : a.tmps.getD 72 undef = .int .i64 (chkN s) := hA ⟨1, .data⟩ (by simp) rfl
      have e74 : a.tmps.getD 74 undef = .int .i64 (chkN s) := hA ⟨3, .data⟩ (by simp) rfl
      refine Does.plain rfl ?_
      unfold yieldsK
      go_simp
      exact ⟨rfl, Keep.refl _ _⟩
    by_cases h5 : i = 5
    · subst h5
      simp only [List.getElem?_toArray, List.getElem?_cons_zero, List.getElem?_cons_succ, Option.some.injEq] at ho
      subst ho
      have e75 : a.tmps.getD 75 undef = .bool false := hA ⟨4, .data⟩ (by simp) rfl
      refine Does.plain rfl ?_
      unfold yieldsK
      go_simp
      exact ⟨rfl, Keep.refl _ _⟩
    by_cases h6 : i = 6
    · subst h6
      simp only [List.getElem?_toArray, List.getElem?_cons_zero, List.getElem?_cons_succ, Option.some.injEq] at ho
      subst ho
      have e9 : a.tmps.getD 9 undef = .pointer (some ⟨w2.heap.size, 0, none⟩) := hF.2.2 9 (.inl (by decide))
      have c0 := Keep.cell hK q90 id
      have c1 := Keep.cell hK q91 id
      have c2 := Keep.cell hK q92 id
      have c3 := Keep.cell hK q93 id
      have c4 := Keep.cell hK q94 id
      refine Does.yes (j := 5) (d := 76) (want := false) rfl rfl (hA ⟨5, .guard⟩ (by simp) rfl) ?_
      unfold yieldsK
      go_simp
      exact ⟨rfl, Keep.refl _ _⟩
    by_cases h7 : i = 7
    · subst h7
      simp only [List.getElem?_toArray, List.getElem?_cons_zero, List.getElem?_cons_succ, Option.some.injEq] at ho
      subst ho
      have e77 : a.tmps.getD 77 undef = .agg #[.string oS, .slice oA ona oca, .slice oB onb ocb, .slice oL onl ocl, .slice oD ond ocd] := hA ⟨6, .data⟩ (by simp) rfl
      refine Does.yes (j := 5) (d := 76) (want := false) rfl rfl (hA ⟨5, .guard⟩ (by simp) rfl) ?_
      unfold yieldsK
      go_simp
      refine (check_any ⟨oS, oA, ona, oca, oB, onb, ocb, oL, onl, ocl, oD, ond, ocd⟩ f w' (HF8.out.fo.keepN hK) HSO2.out _ rfl).mono ?_
      rintro e w2 ⟨rfl, h2⟩
      exact ⟨_, rfl, rfl, h2⟩
    by_cases h8 : i = 8
    · subst h8
      simp only [List.getElem?_toArray, List.getElem?_cons_zero, List.getElem?_cons_succ, Option.some.injEq] at ho
      subst ho
      have e4 : a.tmps.getD 4 undef = .pointer (some ⟨w.heap.size, 0, none⟩) := hF.2.2 4 (.inl (by decide))
      have c0 := Keep.cell hK q40 id
      have c1 := Keep.cell hK q41 id
      have c2 := Keep.cell hK q42 id
      have c3 := Keep.cell hK q43 id
      have c4 := Keep.cell hK q44 id
      refine Does.yes (j := 5) (d := 76) (want := false) rfl rfl (hA ⟨5, .guard⟩ (by simp) rfl) ?_
      unfold yieldsK
      go_simp
      exact ⟨rfl, Keep.refl _ _⟩
    by_cases h9 : i = 9
    · subst h9
      simp only [List.getElem?_toArray, List.getElem?_cons_zero, List.getElem?_cons_succ, Option.some.injEq] at ho
      subst ho
      have e79 : a.tmps.getD 79 undef = .agg #[.string s0, .slice A na ca, .slice A2 nb cb, .slice L nl cl, .slice D nd cd] := hA ⟨8, .data⟩ (by simp) rfl
      refine Does.yes (j := 5) (d := 76) (want := false) rfl rfl (hA ⟨5, .guard⟩ (by simp) rfl) ?_
      unfold yieldsK
      go_simp
      refine (rcheck_any ⟨s0, A, na, ca, A2, nb, cb, L, nl, cl, D, nd, cd⟩ f w' (HF8.out.fv.keepN hK) HS.out.1 _ rfl).mono ?_
      rintro e w2 ⟨rfl, h2⟩
      exact ⟨_, rfl, rfl, h2⟩
    by_cases h10 : i = 10
    · subst h10
      simp only [List.getElem?_toArray, List.getElem?_cons_zero, List.getElem?_cons_succ, Option.some.injEq] at ho
      subst ho
      have e78 : a.tmps.getD 78 undef = .int .i64 (chkF f) := hA ⟨7, .data⟩ (by simp) rfl
      have e80 : a.tmps.getD 80 undef = .int .i64 (chkF f) := hA ⟨9, .data⟩ (by simp) rfl
      refine Does.yes (j := 5) (d := 76) (want := false) rfl rfl (hA ⟨5, .guard⟩ (by simp) rfl) ?_
      unfold yieldsK
      go_simp
      exact ⟨rfl, Keep.refl _ _⟩
    by_cases h11 : i = 11
    · subst h11
      simp only [List.getElem?_toArray, List.getElem?_cons_zero, List.getElem?_cons_succ, Option.some.injEq] at ho
      subst ho
      have e76 : a.tmps.getD 76 undef = .bool false := hA ⟨5, .data⟩ (by simp) rfl
      have e81 : a.tmps.getD 81 undef = .bool false := hA ⟨10, .data⟩ (by simp) rfl
      refine Does.plain rfl ?_
      unfold yieldsK
      go_simp
      exact ⟨rfl, Keep.refl _ _⟩
    by_cases h12 : i = 12
    · subst h12
      simp only [List.getElem?_toArray, List.getElem?_cons_zero, List.getElem?_cons_succ, Option.some.injEq] at ho
      subst ho
      have e82 : a.tmps.getD 82 undef = .bool false := hA ⟨11, .data⟩ (by simp) rfl
      refine Does.plain rfl ?_
      unfold yieldsK
      go_simp
      exact ⟨rfl, Keep.refl _ _⟩
    by_cases h13 : i = 13
    · subst h13
      simp only [List.getElem?_toArray, List.getElem?_cons_zero, List.getElem?_cons_succ, Option.some.injEq] at ho
      subst ho
      have e11 : a.tmps.getD 11 undef = .slice X xs.length cx := hF.2.2 11 (.inl (by decide))
      refine Does.yes (j := 12) (d := 83) (want := false) rfl rfl (hA ⟨12, .guard⟩ (by simp) rfl) ?_
      unfold yieldsK
      go_simp
      exact ⟨rfl, Keep.refl _ _⟩
    by_cases h14 : i = 14
    · subst h14
      simp only [List.getElem?_toArray, List.getElem?_cons_zero, List.getElem?_cons_succ, Option.some.injEq] at ho
      subst ho
      have e84 : a.tmps.getD 84 undef = .slice X xs.length cx := hA ⟨13, .data⟩ (by simp) rfl
      have cv := HConva.out w' hK
      refine Does.yes (j := 12) (d := 83) (want := false) rfl rfl (hA ⟨12, .guard⟩ (by simp) rfl) ?_
      unfold yieldsK
      go_simp
      exact ⟨rfl, Keep.refl _ _⟩
    by_cases h15 : i = 15
    · subst h15
      simp only [List.getElem?_toArray, List.getElem?_cons_zero, List.getElem?_cons_succ, Option.some.injEq] at ho
      subst ho
      have e13 : a.tmps.getD 13 undef = .slice Y xs.length cy := hF.2.2 13 (.inl (by decide))
      refine Does.yes (j := 12) (d := 83) (want := false) rfl rfl (hA ⟨12, .guard⟩ (by simp) rfl) ?_
      unfold yieldsK
      go_simp
      exact ⟨rfl, Keep.refl _ _⟩
    by_cases h16 : i = 16
    · subst h16
      simp only [List.getElem?_toArray, List.getElem?_cons_zero, List.getElem?_cons_succ, Option.some.injEq] at ho
      subst ho
      have e86 : a.tmps.getD 86 undef = .slice Y xs.length cy := hA ⟨15, .data⟩ (by simp) rfl
      have cv := HConvb.out w' hK
      refine Does.yes (j := 12) (d := 83) (want := false) rfl rfl (hA ⟨12, .guard⟩ (by simp) rfl) ?_
      unfold yieldsK
      go_simp
      exact ⟨rfl, Keep.refl _ _⟩
    by_cases h17 : i = 17
    · subst h17
      simp only [List.getElem?_toArray, List.getElem?_cons_zero, List.getElem?_cons_succ, Option.some.injEq] at ho
      subst ho
      have e85 : a.tmps.getD 85 undef = .string E := hA ⟨14, .data⟩ (by simp) rfl
      have e87 : a.tmps.getD 87 undef = .string E := hA ⟨16, .data⟩ (by simp) rfl
      refine Does.yes (j := 12) (d := 83) (want := false) rfl rfl (hA ⟨12, .guard⟩ (by simp) rfl) ?_
      unfold yieldsK
      go_simp
      exact ⟨rfl, Keep.refl _ _⟩
    by_cases h18 : i = 18
    · subst h18
      simp only [List.getElem?_toArray, List.getElem?_cons_zero, List.getElem?_cons_succ, Option.some.injEq] at ho
      subst ho
      have e83 : a.tmps.getD 83 undef = .bool false := hA ⟨12, .data⟩ (by simp) rfl
      have e88 : a.tmps.getD 88 undef = .bool false := hA ⟨17, .data⟩ (by simp) rfl
      refine Does.plain rfl ?_
      unfold yieldsK
      go_simp
      exact ⟨rfl, Keep.refl _ _⟩
    by_cases h19 : i = 19
    · subst h19
      simp only [List.getElem?_toArray, List.getElem?_cons_zero, List.getElem?_cons_succ, Option.some.injEq] at ho
      subst ho
      have e89 : a.tmps.getD 89 undef = .bool false := hA ⟨18, .data⟩ (by simp) rfl
      refine Does.plain rfl ?_
      unfold yieldsK
      go_simp
      exact ⟨rfl, Keep.refl _ _⟩
    by_cases h20 : i = 20
    · subst h20
      simp only [List.getElem?_toArray, List.getElem?_cons_zero, List.getElem?_cons_succ, Option.some.injEq] at ho
      subst ho
      have e12 : a.tmps.getD 12 undef = .int .i64 (chkF f) := hF.2.2 12 (.inl (by decide))
      refine Does.yes (j := 19) (d := 90) (want := false) rfl rfl (hA ⟨19, .guard⟩ (by simp) rfl) ?_
      unfold yieldsK
      go_simp
      exact ⟨rfl, Keep.refl _ _⟩
    by_cases h21 : i = 21
    · subst h21
      simp only [List.getElem?_toArray, List.getElem?_cons_zero, List.getElem?_cons_succ, Option.some.injEq] at ho
      subst ho
      have e14 : a.tmps.getD 14 undef = .int .i64 (chkF f) := hF.2.2 14 (.inl (by decide))
      refine Does.yes (j := 19) (d := 90) (want := false) rfl rfl (hA ⟨19, .guard⟩ (by simp) rfl) ?_
      unfold yieldsK
      go_simp
      exact ⟨rfl, Keep.refl _ _⟩
    by_cases h22 : i = 22
    · subst h22
      simp only [List.getElem?_toArray, List.getElem?_cons_zero, List.getElem?_cons_succ, Option.some.injEq] at ho
      subst ho
      have e91 : a.tmps.getD 91 undef = .int .i64 (chkF f) := hA ⟨20, .data⟩ (by simp) rfl
      have e92 : a.tmps.getD 92 undef = .int .i64 (chkF f) := hA ⟨21, .data⟩ (by simp) rfl
      refine Does.yes (j := 19) (d := 90) (want := false) rfl rfl (hA ⟨19, .guard⟩ (by simp) rfl) ?_
      unfold yieldsK
      go_simp
      exact ⟨rfl, Keep.refl _ _⟩
    by_cases h23 : i = 23
    · subst h23
      simp only [List.getElem?_toArray, List.getElem?_cons_zero, List.getElem?_cons_succ, Option.some.injEq] at ho
      subst ho
      have e90 : a.tmps.getD 90 undef = .bool false := hA ⟨19, .data⟩ (by simp) rfl
      have e93 : a.tmps.getD 93 undef = .bool false := hA ⟨22, .data⟩ (by simp) rfl
      refine Does.plain rfl ?_
      unfold yieldsK
      go_simp
      exact ⟨rfl, Keep.refl _ _⟩
    by_cases h24 : i = 24
    · subst h24
      simp only [List.getElem?_toArray, List.getElem?_cons_zero, List.getElem?_cons_succ, Option.some.injEq] at ho
      subst ho
      have e94 : a.tmps.getD 94 undef = .bool false := hA ⟨23, .data⟩ (by simp) rfl
      refine Does.plain rfl ?_
      unfold yieldsK
      go_simp
      exact ⟨rfl, Keep.refl _ _⟩
    by_cases h25 : i = 25
    · subst h25
      simp only [List.getElem?_toArray, List.getElem?_cons_zero, List.getElem?_cons_succ, Option.some.injEq] at ho
      subst ho
      have e17 : a.tmps.getD 17 undef = .pointer (some ⟨w6.heap.size, 0, none⟩) := hF.2.2 17 (.inl (by decide))
      have c0 := Keep.cell hK qp0 id
      have c1 := Keep.cell hK qp1 id
      have c2 := Keep.cell hK qp2 id
      have c3 := Keep.cell hK qp3 id
      have c4 := Keep.cell hK qp4 id
      refine Does.yes (j := 24) (d := 95) (want := false) rfl rfl (hA ⟨24, .guard⟩ (by simp) rfl) ?_
      unfold yieldsK
      go_simp
      exact ⟨rfl, Keep.refl _ _⟩
    by_cases h26 : i = 26
    · subst h26
      simp only [List.getElem?_toArray, List.getElem?_cons_zero, List.getElem?_cons_succ, Option.some.injEq] at ho
      subst ho
      have e19 : a.tmps.getD 19 undef = .pointer (some ⟨w7.heap.size, 0, none⟩) := hF.2.2 19 (.inl (by decide))
      have c0 := Keep.cell hK qq0 id
      have c1 := Keep.cell hK qq1 id
      have c2 := Keep.cell hK qq2 id
      have c3 := Keep.cell hK qq3 id
      have c4 := Keep.cell hK qq4 id
      refine Does.yes (j := 24) (d := 95) (want := false) rfl rfl (hA ⟨24, .guard⟩ (by simp) rfl) ?_
      unfold yieldsK
      go_simp
      exact ⟨rfl, Keep.refl _ _⟩
    by_cases h27 : i = 27
    · subst h27
      simp only [List.getElem?_toArray, List.getElem?_cons_zero, List.getElem?_cons_succ, Option.some.injEq] at ho
      subst ho
      have e96 : a.tmps.getD 96 undef = .agg #[.string pS, .slice pA pna pca, .slice pB pnb pcb, .slice pL pnl pcl, .slice pD pnd pcd] := hA ⟨25, .data⟩ (by simp) rfl
      have e97 : a.tmps.getD 97 undef = .agg #[.string qS, .slice qA qna qca, .slice qB qnb qcb, .slice qL qnl qcl, .slice qD qnd qcd] := hA ⟨26, .data⟩ (by simp) rfl
      refine Does.yes (j := 24) (d := 95) (want := false) rfl rfl (hA ⟨24, .guard⟩ (by simp) rfl) ?_
      unfold yieldsK
      go_simp
      refine (rsameF_any ⟨pS, pA, pna, pca, pB, pnb, pcb, pL, pnl, pcl, pD, pnd, pcd⟩ fp2 ⟨qS, qA, qna, qca, qB, qnb, qcb, qL, qnl, qcl, qD, qnd, qcd⟩ fp2 w' (HP.out.1.fn.keepN hK) (HQ.out.1.fn.keepN hK) HP.out.2 HQ.out.2).mono ?_
      rintro e w2 ⟨rfl, h2⟩
      exact ⟨_, rfl, by rw [(sameF_iff _ _).2 rfl]; rfl, h2⟩
    by_cases h28 : i = 28
    · subst h28
      simp only [List.getElem?_toArray, List.getElem?_cons_zero, List.getElem?_cons_succ, Option.some.injEq] at ho
      subst ho
      have e98 : a.tmps.getD 98 undef = .bool true := hA ⟨27, .data⟩ (by simp) rfl
      refine Does.yes (j := 24) (d := 95) (want := false) rfl rfl (hA ⟨24, .guard⟩ (by simp) rfl) ?_
      unfold yieldsK
      go_simp
      exact ⟨rfl, Keep.refl _ _⟩
    by_cases h29 : i = 29
    · subst h29
      simp only [List.getElem?_toArray, List.getElem?_cons_zero, List.getElem?_cons_succ, Option.some.injEq] at ho
      subst ho
      have e95 : a.tmps.getD 95 undef = .bool false := hA ⟨24, .data⟩ (by simp) rfl
      have e99 : a.tmps.getD 99 undef = .bool false := hA ⟨28, .data⟩ (by simp) rfl
      refine Does.plain rfl ?_
      unfold yieldsK
      go_simp
      exact ⟨rfl, Keep.refl _ _⟩
    by_cases h30 : i = 30
    · subst h30
      simp only [List.getElem?_toArray, List.getElem?_cons_zero, List.getElem?_cons_succ, Option.some.injEq] at ho
      subst ho
      have e100 : a.tmps.getD 100 undef = .bool false := hA ⟨29, .data⟩ (by simp) rfl
      refine Does.plain rfl ?_
      unfold yieldsK
      go_simp
      exact ⟨rfl, Keep.refl _ _⟩
    by_cases h31 : i = 31
    · subst h31
      simp only [List.getElem?_toArray, List.getElem?_cons_zero, List.getElem?_cons_succ, Option.some.injEq] at ho
      subst ho
      have e18 : a.tmps.getD 18 undef = .int .i64 0 := hF.2.2 18 (.inl (by decide))
      refine Does.yes (j := 30) (d := 101) (want := false) rfl rfl (hA ⟨30, .guard⟩ (by simp) rfl) ?_
      unfold yieldsK
      go_simp
      exact ⟨rfl, Keep.refl _ _⟩
    by_cases h32 : i = 32
    · subst h32
      simp only [List.getElem?_toArray, List.getElem?_cons_zero, List.getElem?_cons_succ, Option.some.injEq] at ho
      subst ho
      have e20 : a.tmps.getD 20 undef = .int .i64 0 := hF.2.2 20 (.inl (by decide))
      refine Does.yes (j := 30) (d := 101) (want := false) rfl rfl (hA ⟨30, .guard⟩ (by simp) rfl) ?_
      unfold yieldsK
      go_simp
      exact ⟨rfl, Keep.refl _ _⟩
    by_cases h33 : i = 33
    · subst h33
      simp only [List.getElem?_toArray, List.getElem?_cons_zero, List.getElem?_cons_succ, Option.some.injEq] at ho
      subst ho
      have e102 : a.tmps.getD 102 undef = .int .i64 0 := hA ⟨31, .data⟩ (by simp) rfl
      have e103 : a.tmps.getD 103 undef = .int .i64 0 := hA ⟨32, .data⟩ (by simp) rfl
      refine Does.yes (j := 30) (d := 101) (want := false) rfl rfl (hA ⟨30, .guard⟩ (by simp) rfl) ?_
      unfold yieldsK
      go_simp
      exact ⟨rfl, Keep.refl _ _⟩
    by_cases h34 : i = 34
    · subst h34
      simp only [List.getElem?_toArray, List.getElem?_cons_zero, List.getElem?_cons_succ, Option.some.injEq] at ho
      subst ho
      have e101 : a.tmps.getD 101 undef = .bool false := hA ⟨30, .data⟩ (by simp) rfl
      have e104 : a.tmps.getD 104 undef = .bool false := hA ⟨33, .data⟩ (by simp) rfl
      refine Does.plain rfl ?_
      unfold yieldsK
      go_simp
      exact ⟨rfl, Keep.refl _ _⟩
    by_cases h35 : i = 35
    · subst h35
      simp only [List.getElem?_toArray, List.getElem?_cons_zero, List.getElem?_cons_succ, Option.some.injEq] at ho
      subst ho
      have e105 : a.tmps.getD 105 undef = .bool false := hA ⟨34, .data⟩ (by simp) rfl
      refine Does.plain rfl ?_
      unfold yieldsK
      go_simp
      exact ⟨rfl, Keep.refl _ _⟩
    by_cases h36 : i = 36
    · subst h36
      simp only [List.getElem?_toArray, List.getElem?_cons_zero, List.getElem?_cons_succ, Option.some.injEq] at ho
      subst ho
      have e20 : a.tmps.getD 20 undef = .int .i64 0 := hF.2.2 20 (.inl (by decide))
      refine Does.yes (j := 35) (d := 106) (want := false) rfl rfl (hA ⟨35, .guard⟩ (by simp) rfl) ?_
      unfold yieldsK
      go_simp
      exact ⟨rfl, Keep.refl _ _⟩
    by_cases h37 : i = 37
    · subst h37
      simp only [List.getElem?_toArray, List.getElem?_cons_zero, List.getElem?_cons_succ, Option.some.injEq] at ho
      subst ho
      have e107 : a.tmps.getD 107 undef = .int .i64 0 := hA ⟨36, .data⟩ (by simp) rfl
      refine Does.yes (j := 35) (d := 106) (want := false) rfl rfl (hA ⟨35, .guard⟩ (by simp) rfl) ?_
      unfold yieldsK
      go_simp
      exact ⟨rfl, Keep.refl _ _⟩
    by_cases h38 : i = 38
    · subst h38
      simp only [List.getElem?_toArray, List.getElem?_cons_zero, List.getElem?_cons_succ, Option.some.injEq] at ho
      subst ho
      have e108 : a.tmps.getD 108 undef = .bool true := hA ⟨37, .data⟩ (by simp) rfl
      refine Does.yes (j := 35) (d := 106) (want := false) rfl rfl (hA ⟨35, .guard⟩ (by simp) rfl) ?_
      unfold yieldsK
      go_simp
      exact ⟨rfl, Keep.refl _ _⟩
    by_cases h39 : i = 39
    · subst h39
      simp only [List.getElem?_toArray, List.getElem?_cons_zero, List.getElem?_cons_succ, Option.some.injEq] at ho
      subst ho
      have e15 : a.tmps.getD 15 undef = .pointer (some ⟨br, 0, none⟩) := hF.2.2 15 (.inl (by decide))
      refine Does.yes (j := 38) (d := 109) (want := true) rfl rfl (hA ⟨38, .guard⟩ (by simp) rfl) ?_
      unfold yieldsK
      go_simp
      exact ⟨rfl, Keep.refl _ _⟩
    by_cases h40 : i = 40
    · subst h40
      simp only [List.getElem?_toArray, List.getElem?_cons_zero, List.getElem?_cons_succ, Option.some.injEq] at ho
      subst ho
      have e110 : a.tmps.getD 110 undef = .pointer (some ⟨br, 0, none⟩) := hA ⟨39, .data⟩ (by simp) rfl
      refine Does.yes (j := 38) (d := 109) (want := true) rfl rfl (hA ⟨38, .guard⟩ (by simp) rfl) ?_
      unfold yieldsK
      go_simp
      refine (S.at_gen HRR.out hK).mono ?_
      rintro e w2 ⟨rfl, h2⟩
      exact ⟨_, rfl, rfl, h2⟩
    by_cases h41 : i = 41
    · subst h41
      simp only [List.getElem?_toArray, List.getElem?_cons_zero, List.getElem?_cons_succ, Option.some.injEq] at ho
      subst ho
      have e16 : a.tmps.getD 16 undef = .pointer (some ⟨w5.heap.size, 0, none⟩) := hF.2.2 16 (.inl (by decide))
      refine Does.yes (j := 38) (d := 109) (want := true) rfl rfl (hA ⟨38, .guard⟩ (by simp) rfl) ?_
      unfold yieldsK
      go_simp
      exact ⟨rfl, Keep.refl _ _⟩
    by_cases h42 : i = 42
    · subst h42
      simp only [List.getElem?_toArray, List.getElem?_cons_zero, List.getElem?_cons_succ, Option.some.injEq] at ho
      subst ho
      have e112 : a.tmps.getD 112 undef = .pointer (some ⟨w5.heap.size, 0, none⟩) := hA ⟨41, .data⟩ (by simp) rfl
      refine Does.yes (j := 38) (d := 109) (want := true) rfl rfl (hA ⟨38, .guard⟩ (by simp) rfl) ?_
      unfold yieldsK
      go_simp
      exact ⟨rfl, Keep.refl _ _⟩
    by_cases h43 : i = 43
    · subst h43
      simp only [List.getElem?_toArray, List.getElem?_cons_zero, List.getElem?_cons_succ, Option.some.injEq] at ho
      subst ho
      have e113 : a.tmps.getD 113 undef = .pointer (some ⟨w5.heap.size, 0, none⟩) := hA ⟨42, .data⟩ (by simp) rfl
      refine Does.yes (j := 38) (d := 109) (want := true) rfl rfl (hA ⟨38, .guard⟩ (by simp) rfl) ?_
      unfold yieldsK
      go_simp
      exact ⟨rfl, Keep.refl _ _⟩
    by_cases h44 : i = 44
    · subst h44
      simp only [List.getElem?_toArray, List.getElem?_cons_zero, List.getElem?_cons_succ, Option.some.injEq] at ho
      subst ho
      have e114 : a.tmps.getD 114 undef = .pointer (some ⟨w5.heap.size, 1, none⟩) := hA ⟨43, .data⟩ (by simp) rfl
      have cp := Keep.cell hK hpl id
      refine Does.yes (j := 38) (d := 109) (want := true) rfl rfl (hA ⟨38, .guard⟩ (by simp) rfl) ?_
      unfold yieldsK
      go_simp
      exact ⟨rfl, Keep.refl _ _⟩
    by_cases h45 : i = 45
    · subst h45
      simp only [List.getElem?_toArray, List.getElem?_cons_zero, List.getElem?_cons_succ, Option.some.injEq] at ho
      subst ho
      have e111 : a.tmps.getD 111 undef = .int .i64 (Q2 : Int) := hA ⟨40, .data⟩ (by simp) rfl
      have e115 : a.tmps.getD 115 undef = .int .i64 (Q2 : Int) := hA ⟨44, .data⟩ (by simp) rfl
      refine Does.yes (j := 38) (d := 109) (want := true) rfl rfl (hA ⟨38, .guard⟩ (by simp) rfl) ?_
      unfold yieldsK
      go_simp
      exact ⟨rfl, Keep.refl _ _⟩
    by_cases h46 : i = 46
    · subst h46
      simp only [List.getElem?_toArray, List.getElem?_cons_zero, List.getElem?_cons_succ, Option.some.injEq] at ho
      subst ho
      have e109 : a.tmps.getD 109 undef = .bool true := hA ⟨38, .data⟩ (by simp) rfl
      have e116 : a.tmps.getD 116 undef = .bool false := hA ⟨45, .data⟩ (by simp) rfl
      refine Does.yes (j := 35) (d := 106) (want := false) rfl rfl (hA ⟨35, .guard⟩ (by simp) rfl) ?_
      unfold yieldsK
      go_simp
      exact ⟨rfl, Keep.refl _ _⟩
    by_cases h47 : i = 47
    · subst h47
      simp only [List.getElem?_toArray, List.getElem?_cons_zero, List.getElem?_cons_succ, Option.some.injEq] at ho
      subst ho
      have e106 : a.tmps.getD 106 undef = .bool false := hA ⟨35, .data⟩ (by simp) rfl
      have e117 : a.tmps.getD 117 undef = .bool false := hA ⟨46, .data⟩ (by simp) rfl
      refine Does.plain rfl ?_
      unfold yieldsK
      go_simp
      exact ⟨rfl, Keep.refl _ _⟩
    by_cases h48 : i = 48
    · subst h48
      simp only [List.getElem?_toArray, List.getElem?_cons_zero, List.getElem?_cons_succ, Option.some.injEq] at ho
      subst ho
      have e118 : a.tmps.getD 118 undef = .bool false := hA ⟨47, .data⟩ (by simp) rfl
      refine Does.plain rfl ?_
      unfold yieldsK
      go_simp
      exact ⟨rfl, Keep.refl _ _⟩
    by_cases h49 : i = 49
    · subst h49
      simp only [List.getElem?_toArray, List.getElem?_cons_zero, List.getElem?_cons_succ, Option.some.injEq] at ho
      subst ho
      have e9 : a.tmps.getD 9 undef = .pointer (some ⟨w2.heap.size, 0, none⟩) := hF.2.2 9 (.inl (by decide))
      have c0 := Keep.cell hK q90 id
      have c1 := Keep.cell hK q91 id
      have c2 := Keep.cell hK q92 id
      have c3 := Keep.cell hK q93 id
      have c4 := Keep.cell hK q94 id
      refine Does.yes (j := 48) (d := 119) (want := false) rfl rfl (hA ⟨48, .guard⟩ (by simp) rfl) ?_
      unfold yieldsK
      go_simp
      exact ⟨rfl, Keep.refl _ _⟩
    by_cases h50 : i = 50
    · subst h50
      simp only [List.getElem?_toArray, List.getElem?_cons_zero, List.getElem?_cons_succ, Option.some.injEq] at ho
      subst ho
      have e5 : a.tmps.getD 5 undef = .pointer (some ⟨w.heap.size + 1, 0, none⟩) := hF.2.2 5 (.inl (by decide))
      have c0 := Keep.cell hK q50 id
      have c1 := Keep.cell hK q51 id
      have c2 := Keep.cell hK q52 id
      have c3 := Keep.cell hK q53 id
      have c4 := Keep.cell hK q54 id
      refine Does.yes (j := 48) (d := 119) (want := false) rfl rfl (hA ⟨48, .guard⟩ (by simp) rfl) ?_
      unfold yieldsK
      go_simp
      exact ⟨rfl, Keep.refl _ _⟩
    by_cases h51 : i = 51
    · subst h51
      simp only [List.getElem?_toArray, List.getElem?_cons_zero, List.getElem?_cons_succ, Option.some.injEq] at ho
      subst ho
      have e120 : a.tmps.getD 120 undef = .agg #[.string oS, .slice oA ona oca, .slice oB onb ocb, .slice oL onl ocl, .slice oD ond ocd] := hA ⟨49, .data⟩ (by simp) rfl
      have e121 : a.tmps.getD 121 undef = .agg #[.string s1, .slice A3 ne ce, .slice A4 nf cf, .slice L2 ng cg, .slice D2 nh ch] := hA ⟨50, .data⟩ (by simp) rfl
      refine Does.yes (j := 48) (d := 119) (want := false) rfl rfl (hA ⟨48, .guard⟩ (by simp) rfl) ?_
      unfold yieldsK
      go_simp
      refine (sameF_any ⟨oS, oA, ona, oca, oB, onb, ocb, oL, onl, ocl, oD, ond, ocd⟩ f ⟨s1, A3, ne, ce, A4, nf, cf, L2, ng, cg, D2, nh, ch⟩ g w' (HF8.out.fo.keepN hK) (HF8.out.fu.keepN hK) HSO2.out HS.out.2).mono ?_
      rintro e w2 ⟨rfl, h2⟩
      exact ⟨_, rfl, rfl, h2⟩
    by_cases h52 : i = 52
    · subst h52
      simp only [List.getElem?_toArray, List.getElem?_cons_zero, List.getElem?_cons_succ, Option.some.injEq] at ho
      subst ho
      have e4 : a.tmps.getD 4 undef = .pointer (some ⟨w.heap.size, 0, none⟩) := hF.2.2 4 (.inl (by decide))
      have c0 := Keep.cell hK q40 id
      have c1 := Keep.cell hK q41 id
      have c2 := Keep.cell hK q42 id
      have c3 := Keep.cell hK q43 id
      have c4 := Keep.cell hK q44 id
      refine Does.yes (j := 48) (d := 119) (want := false) rfl rfl (hA ⟨48, .guard⟩ (by simp) rfl) ?_
      unfold yieldsK
      go_simp
      exact ⟨rfl, Keep.refl _ _⟩
    by_cases h53 : i = 53
    · subst h53
      simp only [List.getElem?_toArray, List.getElem?_cons_zero, List.getElem?_cons_succ, Option.some.injEq] at ho
      subst ho
      have e5 : a.tmps.getD 5 undef = .pointer (some ⟨w.heap.size + 1, 0, none⟩) := hF.2.2 5 (.inl (by decide))
      have c0 := Keep.cell hK q50 id
      have c1 := Keep.cell hK q51 id
      have c2 := Keep.cell hK q52 id
      have c3 := Keep.cell hK q53 id
      have c4 := Keep.cell hK q54 id
      refine Does.yes (j := 48) (d := 119) (want := false) rfl rfl (hA ⟨48, .guard⟩ (by simp) rfl) ?_
      unfold yieldsK
      go_simp
      exact ⟨rfl, Keep.refl _ _⟩
    by_cases h54 : i = 54
    · subst h54
      simp only [List.getElem?_toArray, List.getElem?_cons_zero, List.getElem?_cons_succ, Option.some.injEq] at ho
      subst ho
      have e123 : a.tmps.getD 123 undef = .agg #[.string s0, .slice A na ca, .slice A2 nb cb, .slice L nl cl, .slice D nd cd] := hA ⟨52, .data⟩ (by simp) rfl
      have e124 : a.tmps.getD 124 undef = .agg #[.string s1, .slice A3 ne ce, .slice A4 nf cf, .slice L2 ng cg, .slice D2 nh ch] := hA ⟨53, .data⟩ (by simp) rfl
      refine Does.yes (j := 48) (d := 119) (want := false) rfl rfl (hA ⟨48, .guard⟩ (by simp) rfl) ?_
      unfold yieldsK
      go_simp
      refine (rsameF_any ⟨s0, A, na, ca, A2, nb, cb, L, nl, cl, D, nd, cd⟩ f ⟨s1, A3, ne, ce, A4, nf, cf, L2, ng, cg, D2, nh, ch⟩ g w' (HF8.out.fv.keepN hK) (HF8.out.fu.keepN hK) HS.out.1 HS.out.2).mono ?_
      rintro e w2 ⟨rfl, h2⟩
      exact ⟨_, rfl, rfl, h2⟩
    by_cases h55 : i = 55
    · subst h55
      simp only [List.getElem?_toArray, List.getElem?_cons_zero, List.getElem?_cons_succ, Option.some.injEq] at ho
      subst ho
      have e122 : a.tmps.getD 122 undef = .bool (sameF f g) := hA ⟨51, .data⟩ (by simp) rfl
      have e125 : a.tmps.getD 125 undef = .bool (sameF f g) := hA ⟨54, .data⟩ (by simp) rfl
      refine Does.yes (j := 48) (d := 119) (want := false) rfl rfl (hA ⟨48, .guard⟩ (by simp) rfl) ?_
      unfold yieldsK
      go_simp
      exact ⟨rfl, Keep.refl _ _⟩
    by_cases h56 : i = 56
    · subst h56
      simp only [List.getElem?_toArray, List.getElem?_cons_zero, List.getElem?_cons_succ, Option.some.injEq] at ho
      subst ho
      have e119 : a.tmps.getD 119 undef = .bool false := hA ⟨48, .data⟩ (by simp) rfl
      have e126 : a.tmps.getD 126 undef = .bool false := hA ⟨55, .data⟩ (by simp) rfl
      refine Does.plain rfl ?_
      unfold yieldsK
      go_simp
      exact ⟨rfl, Keep.refl _ _⟩
    by_cases h57 : i = 57
    · subst h57
      simp only [List.getElem?_toArray, List.getElem?_cons_zero, List.getElem?_cons_succ, Option.some.injEq] at ho
      subst ho
      have e127 : a.tmps.getD 127 undef = .bool false := hA ⟨56, .data⟩ (by simp) rfl
      refine Does.plain rfl ?_
      unfold yieldsK
      go_simp
      exact ⟨rfl, Keep.refl _ _⟩
    by_cases h58 : i = 58
    · subst h58
      simp only [List.getElem?_toArray, List.getElem?_cons_zero, List.getElem?_cons_succ, Option.some.injEq] at ho
      subst ho
      have e21 : a.tmps.getD 21 undef = .pointer (some ⟨w8.heap.size, 0, none⟩) := hF.2.2 21 (.inl (by decide))
      have c0 := Keep.cell hK qc0 id
      have c1 := Keep.cell hK qc1 id
      have c2 := Keep.cell hK qc2 id
      have c3 := Keep.cell hK qc3 id
      have c4 := Keep.cell hK qc4 id
      refine Does.yes (j := 57) (d := 128) (want := false) rfl rfl (hA ⟨57, .guard⟩ (by simp) rfl) ?_
      unfold yieldsK
      go_simp
      exact ⟨rfl, Keep.refl _ _⟩
    by_cases h59 : i = 59
    · subst h59
      simp only [List.getElem?_toArray, List.getElem?_cons_zero, List.getElem?_cons_succ, Option.some.injEq] at ho
      subst ho
      have e4 : a.tmps.getD 4 undef = .pointer (some ⟨w.heap.size, 0, none⟩) := hF.2.2 4 (.inl (by decide))
      have c0 := Keep.cell hK q40 id
      have c1 := Keep.cell hK q41 id
      have c2 := Keep.cell hK q42 id
      have c3 := Keep.cell hK q43 id
      have c4 := Keep.cell hK q44 id
      refine Does.yes (j := 57) (d := 128) (want := false) rfl rfl (hA ⟨57, .guard⟩ (by simp) rfl) ?_
      unfold yieldsK
      go_simp
      exact ⟨rfl, Keep.refl _ _⟩
    by_cases h60 : i = 60
    · subst h60
      simp only [List.getElem?_toArray, List.getElem?_cons_zero, List.getElem?_cons_succ, Option.some.injEq] at ho
      subst ho
      have e129 : a.tmps.getD 129 undef = .agg #[.string cS, .slice cA cna cca, .slice cB cnb ccb, .slice cL cnl ccl, .slice cD cnd ccd] := hA ⟨58, .data⟩ (by simp) rfl
      have e130 : a.tmps.getD 130 undef = .agg #[.string s0, .slice A na ca, .slice A2 nb cb, .slice L nl cl, .slice D nd cd] := hA ⟨59, .data⟩ (by simp) rfl
      refine Does.yes (j := 57) (d := 128) (want := false) rfl rfl (hA ⟨57, .guard⟩ (by simp) rfl) ?_
      unfold yieldsK
      go_simp
      refine (rsameF_any ⟨cS, cA, cna, cca, cB, cnb, ccb, cL, cnl, ccl, cD, cnd, ccd⟩ f ⟨s0, A, na, ca, A2, nb, cb, L, nl, cl, D, nd, cd⟩ f w' (HCC.out.1.fn.keepN hK) (HF8.out.fv.keepN hK) HCC.out.2 HS.out.1).mono ?_
      rintro e w2 ⟨rfl, h2⟩
      exact ⟨_, rfl, by rw [(sameF_iff _ _).2 rfl]; rfl, h2⟩
    by_cases h61 : i = 61
    · subst h61
      simp only [List.getElem?_toArray, List.getElem?_cons_zero, List.getElem?_cons_succ, Option.some.injEq] at ho
      subst ho
      have e131 : a.tmps.getD 131 undef = .bool true := hA ⟨60, .data⟩ (by simp) rfl
      refine Does.yes (j := 57) (d := 128) (want := false) rfl rfl (hA ⟨57, .guard⟩ (by simp) rfl) ?_
      unfold yieldsK
      go_simp
      exact ⟨rfl, Keep.refl _ _⟩
    by_cases h62 : i = 62
    · subst h62
      simp only [List.getElem?_toArray, List.getElem?_cons_zero, List.getElem?_cons_succ, Option.some.injEq] at ho
      subst ho
      have e128 : a.tmps.getD 128 undef = .bool false := hA ⟨57, .data⟩ (by simp) rfl
      have e132 : a.tmps.getD 132 undef = .bool false := hA ⟨61, .data⟩ (by simp) rfl
      refine Does.plain rfl ?_
      unfold yieldsK
      go_simp
      exact ⟨rfl, Keep.refl _ _⟩
    omega
  case spec =>
    intro o a w' ho
    simp at ho
  case fin =>
    intro a w' hF gK hA
    have e133 : a.tmps.getD (71 + 62) undef = .bool false := hA 62 (by decide)
    have ha := frame_fill (n := 63) hF (of_decide_eq_true rfl)
    rw [ha]
    rw [show List.range 63 = [0, 1, 2, 3, 4, 5, 6, 7, 8, 9, 10, 11, 12, 13, 14, 15, 16, 17, 18, 19, 20, 21, 22, 23, 24, 25, 26, 27, 28, 29, 30, 31, 32, 33, 34, 35, 36, 37, 38, 39, 40, 41, 42, 43, 44, 45, 46, 47, 48, 49, 50, 51, 52, 53, 54, 55, 56, 57, 58, 59, 60, 61, 62] from rfl]
    simp only [List.map_cons, List.map_nil, e133]
    generalize a.tmps.getD (71 + 0) undef = u0
    generalize a.tmps.getD (71 + 1) undef = u1
    generalize a.tmps.getD (71 + 2) undef = u2
    generalize a.tmps.getD (71 + 3) undef = u3
    generalize a.tmps.getD (71 + 4) undef = u4
    generalize a.tmps.getD (71 + 5) undef = u5
    generalize a.tmps.getD (71 + 6) undef = u6
    generalize a.tmps.getD (71 + 7) undef = u7
    generalize a.tmps.getD (71 + 8) undef = u8
    generalize a.tmps.getD (71 + 9) undef = u9
    generalize a.tmps.getD (71 + 10) undef = u10
    generalize a.tmps.getD (71 + 11) undef = u11
    generalize a.tmps.getD (71 + 12) undef = u12
    generalize a.tmps.getD (71 + 13) undef = u13
    generalize a.tmps.getD (71 + 14) undef = u14
    generalize a.tmps.getD (71 + 15) undef = u15
    generalize a.tmps.getD (71 + 16) undef = u16
    generalize a.tmps.getD (71 + 17) undef = u17
    generalize a.tmps.getD (71 + 18) undef = u18
    generalize a.tmps.getD (71 + 19) undef = u19
    generalize a.tmps.getD (71 + 20) undef = u20
    generalize a.tmps.getD (71 + 21) undef = u21
    generalize a.tmps.getD (71 + 22) undef = u22
    generalize a.tmps.getD (71 + 23) undef = u23
    generalize a.tmps.getD (71 + 24) undef = u24
    generalize a.tmps.getD (71 + 25) undef = u25
    generalize a.tmps.getD (71 + 26) undef = u26
    generalize a.tmps.getD (71 + 27) undef = u27
    generalize a.tmps.getD (71 + 28) undef = u28
    generalize a.tmps.getD (71 + 29) undef = u29
    generalize a.tmps.getD (71 + 30) undef = u30
    generalize a.tmps.getD (71 + 31) undef = u31
    generalize a.tmps.getD (71 + 32) undef = u32
    generalize a.tmps.getD (71 + 33) undef = u33
    generalize a.tmps.getD (71 + 34) undef = u34
    generalize a.tmps.getD (71 + 35) undef = u35
    generalize a.tmps.getD (71 + 36) undef = u36
    generalize a.tmps.getD (71 + 37) undef = u37
    generalize a.tmps.getD (71 + 38) undef = u38
    generalize a.tmps.getD (71 + 39) undef = u39
    generalize a.tmps.getD (71 + 40) undef = u40
    generalize a.tmps.getD (71 + 41) undef = u41
    generalize a.tmps.getD (71 + 42) undef = u42
    generalize a.tmps.getD (71 + 43) undef = u43
    generalize a.tmps.getD (71 + 44) undef = u44
    generalize a.tmps.getD (71 + 45) undef = u45
    generalize a.tmps.getD (71 + 46) undef = u46
    generalize a.tmps.getD (71 + 47) undef = u47
    generalize a.tmps.getD (71 + 48) undef = u48
    generalize a.tmps.getD (71 + 49) undef = u49
    generalize a.tmps.getD (71 + 50) undef = u50
    generalize a.tmps.getD (71 + 51) undef = u51
    generalize a.tmps.getD (71 + 52) undef = u52
    generalize a.tmps.getD (71 + 53) undef = u53
    generalize a.tmps.getD (71 + 54) undef = u54
    generalize a.tmps.getD (71 + 55) undef = u55
    generalize a.tmps.getD (71 + 56) undef = u56
    generalize a.tmps.getD (71 + 57) undef = u57
    generalize a.tmps.getD (71 + 58) undef = u58
    generalize a.tmps.getD (71 + 59) undef = u59
    generalize a.tmps.getD (71 + 60) undef = u60
    generalize a.tmps.getD (71 + 61) undef = u61
    simp only [fillT, List.setIfInBounds_toArray, List.set_cons_zero, List.set_cons_succ]
    have bc := HB21.out.keep gK id
    have bp := HB17.out.keep gK id
    have hc := HCC.out.1.keepN gK
    have K6 := HK6.out.trans gK (fun _ h _ => h.elim)
    have KP := HKP.out.1.trans gK (fun _ h _ => h.elim)
    have sSP := HKP.out.2
    have sc := HCC.out.2
    have sp := HP.out.2
    clear gK hA hF ha e133 HF8 HB17 HB21 HCC HP HQ HRR HK6 HKP HConva HConvb HNM HNR hpl q40 q41 q42 q43 q44 q50 q51 q52 q53 q54 q90 q91 q92 q93 q94 qp0 qp1 qp2 qp3 qp4 qq0 qq1 qq2 qq3 qq4 qc0 qc1 qc2 qc3 qc4
    obtain ⟨c0, c1, c2, c3, c4⟩ := blk5 (v := ⟨cS, cA, cna, cca, cB, cnb, ccb, cL, cnl, ccl, cD, cnd, ccd⟩) bc
    dsimp only at c0 c1 c2 c3 c4
    go_wp2_with fail
    refine (spoil_any ⟨cS, cA, cna, cca, cB, cnb, ccb, cL, cnl, ccl, cD, cnd, ccd⟩ _ w' (SpF.of hc (fun k hk => hk)) ⟨by have := sc.na; dsimp only at this ⊢; omega, by have := sc.nb; dsimp only at this ⊢; omega, by have := sc.nl; dsimp only at this ⊢; omega, by have := sc.nd; dsimp only at this ⊢; omega⟩).mono ?_
    rintro e wa ⟨rfl, ka⟩
    replace bp := bp.keep ka (fun e => by omega)
    replace K6 := K6.trans ka (fun k e _ => by omega)
    replace KP := KP.trans ka (fun k e _ => by omega)
    clear ka hc bc c0 c1 c2 c3 c4
    obtain ⟨c0, c1, c2, c3, c4⟩ := blk5 (v := ⟨pS, pA, pna, pca, pB, pnb, pcb, pL, pnl, pcl, pD, pnd, pcd⟩) bp
    dsimp only at c0 c1 c2 c3 c4
    go_wp2_with fail
    refine (spoil_any ⟨pS, pA, pna, pca, pB, pnb, pcb, pL, pnl, pcl, pD, pnd, pcd⟩ (w5.heap.size + 1) wa (sSP.keep KP (fun k h1 h2 h3 => by omega)) ⟨by have := sp.na; dsimp only at this ⊢; omega, by have := sp.nb; dsimp only at this ⊢; omega, by have := sp.nl; dsimp only at this ⊢; omega, by have := sp.nd; dsimp only at this ⊢; omega⟩).mono ?_
    rintro e wb ⟨rfl, kb⟩
    replace K6 := K6.trans kb (fun k e _ => by omega)
    have FX := HFB.out.keep K6 (fun k h1 h2 => by omega)
    have HKE := Lib.hid (HGK.out.trans K6 (fun k h hl => by omega))
    clear kb bp KP c0 c1 c2 c3 c4 K6
    obtain ⟨c0, c1, c2, c3, c4⟩ := blk5 (v := ⟨oS, oA, ona, oca, oB, onb, ocb, oL, onl, ocl, oD, ond, ocd⟩) FX.b9
    obtain ⟨x0, x1, x2, x3, x4⟩ := blk5 (v := ⟨s0, A, na, ca, A2, nb, cb, L, nl, cl, D, nd, cd⟩) FX.b4
    dsimp only at c0 c1 c2 c3 c4 x0 x1 x2 x3 x4
    go_wp2_with fail
    refine (rsameF_any ⟨oS, oA, ona, oca, oB, onb, ocb, oL, onl, ocl, oD, ond, ocd⟩ f ⟨s0, A, na, ca, A2, nb, cb, L, nl, cl, D, nd, cd⟩ f wb FX.fo FX.fv HSO2.out HS.out.1).mono ?_
    rintro e wc ⟨rfl, kc⟩
    rw [(sameF_iff f f).2 rfl]
    obtain ⟨T, hT⟩ : ∃ T, V.str b = T := ⟨_, rfl⟩
    have hcv : (convert 28 9 (.slice RA b.length ra)).run Tryz.prog wc = .ok (.string T) wc := by rw [← hT]; exact V.conv_rd (S.rd_n FX.rr kc)
    have hcw : (convert 28 9 (.slice B b.length d)).run Tryz.prog wc = .ok (.string T) wc := by rw [← hT]; exact V.conv_rd (S.rd_n FX.rb kc)
    have HKF := Lib.hid (keepN HKE.out kc)
    clear FX kc hT c0 c1 c2 c3 c4 x0 x1 x2 x3 x4 HFB HKE HGK
    go_wp2
    go_ret
    exact ⟨by first | rfl | simp, HKF.out⟩

set_option maxRecDepth 100000 in
set_option maxHeartbeats 16000000 in
theorem forms_n
    (v : FV) (f : Fu) (u : FV) (g : Fu) (N : ByteArray) (s : List UInt8) (B : Option Addr) (b : List UInt8) (d : Nat) (w : World) (h : FnAt w v f) (h2 : FnAt w u g) (hN : N.data.toList = s) (hb : V.Rd w B b) (hc : b.length ≤ d) (hm : d ≤ maxLen) (hB : ∀ ad, B = some ad → ad.block < w.heap.size) (hs : SmF v) (hs2 : SmF u) (h3 : N.size ≤ 100) (h4 : b.length ≤ 8000) (hd : decF b 0 = none) :
    Calls Tryz.prog 3 #[v.val, u.val, .string N, .slice B b.length d] w fun e w' => e = .returned (.bool true) ∧ Keep NoB w w' := by
  have bx := (Blk.new w 27 v.cells).alloc (.cells u.cells 27)
  have bo := Blk.new (w.alloc (.cells v.cells 27)) 27 u.cells
  rw [World.size_alloc] at bo
  have gK := ((Keep.refl NoB w).alloc (.cells v.cells 27)).alloc (.cells u.cells 27)
  have HG1 := Lib.hid (fun w => great_no v w hs)
  have HG2 := Lib.hid (fun w => great_no u w hs2)
  have hq3 : decide ((100 : Int) < (N.size : Int)) = false := by rw [decide_eq_false_iff_not]; omega
  have hq4 : decide ((8000 : Int) < (b.length : Int)) = false := by rw [decide_eq_false_iff_not]; omega
  have HL : Hid (b.length ≤ 140737488355328) := by show _ ≤ _; omega
  have HFV := Lib.hid (fun W hk => (h.keepN hk : FnAt W v f))
  have HFU := Lib.hid (fun W hk => (h2.keepN hk : FnAt W u g))
  have HC := Lib.hid (fun W hk => rcopyF_any v f W (h.keepN hk) hs)
  have HRE := Lib.hid (fun W hk => rencF_any v f W (h.keepN hk) hs)
  have HSO := Lib.hid (fun W P o (ho : OwnF W P o f) => sm_own ho h hs)
  have HRB := Lib.hid (fun W hk => S.rd_n (w' := W) hb hk)
  have HDC : Hid (b.length ≤ d ∧ d ≤ maxLen) := ⟨hc, hm⟩
  have HBL := Lib.hid hB
  have HD := Lib.hid hd
  have HS := Lib.hid (And.intro hs hs2)
  have HNM := Lib.hid (fun W => named_any N s W hN (by omega) _ rfl)
  have HNR := Lib.hid (fun W => rnamed_any N s W hN (by omega) _ rfl)
  clear h h2 hs hs2 hb hc hm hB hd h3 hN
  obtain ⟨s0, A, na, ca, A2, nb, cb, L, nl, cl, D, nd, cd⟩ := v
  obtain ⟨s1, A3, ne, ce, A4, nf, cf, L2, ng, cg, D2, nh, ch⟩ := u
  dsimp only [FV.val, FV.cells] at HFV HFU HC HRE HG1 HG2 bx bo gK ⊢
  go_enter Tryz.func3, Tryz.ntmps3
  obtain ⟨x0, x1, x2, x3, x4⟩ := blk5 (v := ⟨s0, A, na, ca, A2, nb, cb, L, nl, cl, D, nd, cd⟩) bx
  obtain ⟨y0, y1, y2, y3, y4⟩ := blk5 (v := ⟨s1, A3, ne, ce, A4, nf, cf, L2, ng, cg, D2, nh, ch⟩) bo
  dsimp only at x0 x1 x2 x3 x4 y0 y1 y2 y3 y4
  go_wp2_with fail
  refine (HG1.out _).mono ?_
  rintro e wg1 ⟨rfl, k1⟩
  replace bx := bx.keep k1 id
  replace bo := bo.keep k1 id
  replace gK := keepN gK k1
  clear k1
  clear x0 x1 x2 x3 x4 y0 y1 y2 y3 y4
  obtain ⟨x0, x1, x2, x3, x4⟩ := blk5 (v := ⟨s0, A, na, ca, A2, nb, cb, L, nl, cl, D, nd, cd⟩) bx
  obtain ⟨y0, y1, y2, y3, y4⟩ := blk5 (v := ⟨s1, A3, ne, ce, A4, nf, cf, L2, ng, cg, D2, nh, ch⟩) bo
  dsimp only at x0 x1 x2 x3 x4 y0 y1 y2 y3 y4
  go_wp2_with fail
  refine (HG2.out _).mono ?_
  rintro e wg2 ⟨rfl, k1⟩
  replace bx := bx.keep k1 id
  replace bo := bo.keep k1 id
  replace gK := keepN gK k1
  clear k1
  clear x0 x1 x2 x3 x4 y0 y1 y2 y3 y4
  obtain ⟨x0, x1, x2, x3, x4⟩ := blk5 (v := ⟨s0, A, na, ca, A2, nb, cb, L, nl, cl, D, nd, cd⟩) bx
  obtain ⟨y0, y1, y2, y3, y4⟩ := blk5 (v := ⟨s1, A3, ne, ce, A4, nf, cf, L2, ng, cg, D2, nh, ch⟩) bo
  dsimp only at x0 x1 x2 x3 x4 y0 y1 y2 y3 y4
  go_wp2_with fail
  refine (HC.out _ gK).mono ?_
  rintro e w1 ⟨o, rfl, hO, k1⟩
  replace bx := bx.keep k1 id
  replace bo := bo.keep k1 id
  replace gK := keepN gK k1
  clear k1
  clear x0 x1 x2 x3 x4 y0 y1 y2 y3 y4
  have so := HSO.out _ _ o hO
  obtain ⟨oS, oA, ona, oca, oB, onb, ocb, oL, onl, ocl, oD, ond, ocd⟩ := o
  dsimp only [FV.val, FV.cells]
  obtain ⟨x0, x1, x2, x3, x4⟩ := blk5 (v := ⟨s0, A, na, ca, A2, nb, cb, L, nl, cl, D, nd, cd⟩) bx
  obtain ⟨y0, y1, y2, y3, y4⟩ := blk5 (v := ⟨s1, A3, ne, ce, A4, nf, cf, L2, ng, cg, D2, nh, ch⟩) bo
  dsimp only at x0 x1 x2 x3 x4 y0 y1 y2 y3 y4
  go_wp2_with fail
  refine (V.twin_any _ B b d (HRB.out _ gK) HL.out).mono ?_
  rintro e w2 ⟨vo, rfl, ho, k1⟩
  obtain ⟨RA, ra, rfl, hra, hrl⟩ := own_rdB ho
  replace bx := bx.keep k1 id
  replace bo := bo.keep k1 id
  replace gK := keepN gK k1
  replace hO := hO.keepN k1
  clear k1 ho
  clear x0 x1 x2 x3 x4 y0 y1 y2 y3 y4
  have b9 := Blk.new w2 27 (FV.cells ⟨oS, oA, ona, oca, oB, onb, ocb, oL, onl, ocl, oD, ond, ocd⟩)
  have kA := (Keep.refl NoB w2).alloc (.cells (FV.cells ⟨oS, oA, ona, oca, oB, onb, ocb, oL, onl, ocl, oD, ond, ocd⟩) 27)
  dsimp only [FV.cells] at b9 kA
  replace bx := bx.keep kA id
  replace bo := bo.keep kA id
  replace gK := keepN gK kA
  replace hO := hO.keepN kA
  replace hra := S.rd_n hra kA
  replace hrl := fun ad e => Nat.lt_of_lt_of_le (hrl ad e) kA.size
  clear kA
  obtain ⟨z0, z1, z2, z3, z4⟩ := blk5 (v := ⟨oS, oA, ona, oca, oB, onb, ocb, oL, onl, ocl, oD, ond, ocd⟩) b9
  dsimp only at z0 z1 z2 z3 z4
  go_wp2_with fail
  refine (encodeF_any ⟨oS, oA, ona, oca, oB, onb, ocb, oL, onl, ocl, oD, ond, ocd⟩ f _ hO.fn so).mono ?_
  rintro e w3 ⟨vx, rfl, hx, k1⟩
  obtain ⟨X, cx, rfl, hrx, hxl⟩ := own_rdB hx
  replace bx := bx.keep k1 id
  replace bo := bo.keep k1 id
  replace b9 := b9.keep k1 id
  replace gK := keepN gK k1
  replace hO := hO.keepN k1
  replace hra := S.rd_n hra k1
  replace hrl := fun ad e => Nat.lt_of_lt_of_le (hrl ad e) k1.size
  clear k1 hx z0 z1 z2 z3 z4
  obtain ⟨x0, x1, x2, x3, x4⟩ := blk5 (v := ⟨s0, A, na, ca, A2, nb, cb, L, nl, cl, D, nd, cd⟩) bx
  obtain ⟨y0, y1, y2, y3, y4⟩ := blk5 (v := ⟨s1, A3, ne, ce, A4, nf, cf, L2, ng, cg, D2, nh, ch⟩) bo
  dsimp only at x0 x1 x2 x3 x4 y0 y1 y2 y3 y4
  go_wp2_with fail
  refine (HRE.out _ gK).mono ?_
  rintro e w4 ⟨vy, rfl, hy, k1⟩
  obtain ⟨Y, cy, rfl, hry, hyl⟩ := own_rdB hy
  have hxs : Hid ((encF f) = (encF f)) := rfl
  generalize encF f = xs at hrx hry hxs ⊢
  replace bx := bx.keep k1 id
  replace bo := bo.keep k1 id
  replace b9 := b9.keep k1 id
  replace gK := keepN gK k1
  replace hO := hO.keepN k1
  replace hra := S.rd_n hra k1
  replace hrx := S.rd_n hrx k1
  replace hrl := fun ad e => Nat.lt_of_lt_of_le (hrl ad e) k1.size
  replace hxl := fun ad e => Nat.lt_of_lt_of_le (hxl ad e) k1.size
  clear k1 hy hxs
  clear x0 x1 x2 x3 x4 y0 y1 y2 y3 y4
  have FB6 : FB w4 w.heap.size (w.heap.size + 1) w2.heap.size ⟨s0, A, na, ca, A2, nb, cb, L, nl, cl, D, nd, cd⟩ ⟨s1, A3, ne, ce, A4, nf, cf, L2, ng, cg, D2, nh, ch⟩ ⟨oS, oA, ona, oca, oB, onb, ocb, oL, onl, ocl, oD, ond, ocd⟩ f g B RA X Y b xs :=
    ⟨bx, bo, b9, HFV.out _ gK, HFU.out _ gK, hO.fn, HRB.out _ gK, hra, hrx, hry, fun ad e => by
      rcases e with e | e | e | e
      · exact Nat.lt_of_lt_of_le (HBL.out ad e) gK.size
      · exact hrl ad e
      · exact hxl ad e
      · exact hyl ad e⟩
  have HFB := Lib.hid FB6
  have K6 := Keep.refl (fun k => w4.heap.size ≤ k) w4
  have gs0 := gK.size
  have HGK := Lib.hid gK
  clear bx bo b9 hO hra hrx hry hrl hxl hyl FB6 gK HC HRE HFV HFU HRB HG1 HG2
  go_wp2_with fail
  refine (V.on_any _ RA b ra HFB.out.rr HL.out).mono ?_
  rintro e w5 ⟨br, rfl, hR, k1⟩
  have hbr : w4.heap.size ≤ br := hR.1
  have hR : V.ReelAt w5 br (fun k => w4.heap.size ≤ k ∧ k < w5.heap.size) b 0 := hR.mono fun _ ho hk => ⟨ho, hk⟩
  have hbr2 : br < w5.heap.size := S.reel_lt hR
  have gs1 := k1.size
  have kA := (Keep.refl NoB w5).alloc (.cells #[.slice B b.length d, .int .i64 0] 41)
  have hS : V.RefAt (w5.alloc (.cells #[.slice B b.length d, .int .i64 0] 41)) w5.heap.size (fun k => k = w5.heap.size ∨ k < w.heap.size) b 0 :=
    ⟨.inl rfl, Nat.zero_le _, B, d, Blk.new _ _ _, S.rd_n (S.rd_n HFB.out.rb k1) kA, HDC.out.1, HDC.out.2, fun ad e => ⟨.inr (HBL.out ad e), by have := HBL.out ad e; simp; omega⟩⟩
  replace K6 := (K6.trans k1 (fun _ h _ => h.elim)).trans kA (fun _ h _ => h.elim)
  replace hR := hR.keep kA (fun _ _ => id)
  have gs2 : (w5.alloc (.cells #[.slice B b.length d, .int .i64 0] 41)).heap.size = w5.heap.size + 1 := by simp
  clear k1 kA
  go_wp2_with fail
  refine (decodeF_any _ br _ b 0 (fun k hk => by omega) hR HL.out).mono ?_
  rintro e w6 (⟨_, rfl, ⟨q0, hR⟩, k1⟩ | ⟨fp', Q', p, hsm, _⟩)
  case inr => have := HD.out; rw [hsm] at this; cases this
  have hP : OwnF w6 (Fresh (w5.alloc (.cells #[.slice B b.length d, .int .i64 0] 41))) nilV nilF := nilV_own _ _
  have sp := sm_nil
  obtain ⟨p, hpn⟩ : ∃ p, nilV = p := ⟨_, rfl⟩
  rw [hpn] at hP sp ⊢
  clear hpn
  obtain ⟨pS, pA, pna, pca, pB, pnb, pcb, pL, pnl, pcl, pD, pnd, pcd⟩ := p
  dsimp only [FV.val, FV.cells]
  have gs3 := k1.size
  replace hS := hS.keep k1 (fun k ho e => by omega)
  replace K6 := K6.trans k1 (fun k e _ => by omega)
  have b17 := Blk.new w6 27 (FV.cells ⟨pS, pA, pna, pca, pB, pnb, pcb, pL, pnl, pcl, pD, pnd, pcd⟩)
  have kA := (Keep.refl NoB w6).alloc (.cells (FV.cells ⟨pS, pA, pna, pca, pB, pnb, pcb, pL, pnl, pcl, pD, pnd, pcd⟩) 27)
  dsimp only [FV.cells] at b17 kA
  replace hS := hS.keep kA (fun _ _ => id)
  replace hR := hR.keep kA (fun _ _ => id)
  have hSP := SpF.of (lo := w5.heap.size + 1) hP (fun k hk => by unfold Fresh at hk; omega)
  have KP := (Keep.refl (fun k => w6.heap.size ≤ k ∨ k = w5.heap.size) w6).trans kA (fun _ h _ => h.elim)
  replace hP := hP.keepN kA
  replace K6 := K6.trans kA (fun _ h _ => h.elim)
  have gs4 := b17.lt
  clear k1 kA
  go_wp2_with fail
  refine (rdecodeF_any _ w5.heap.size _ b 0 (fun k hk => by omega) hS HL.out).mono ?_
  rintro e w7 (⟨_, rfl, ⟨q1, hS⟩, k1⟩ | ⟨fp', Q', q, hsm, _⟩)
  case inr => have := HD.out; rw [hsm] at this; cases this
  have hQ : OwnF w7 (fun k => w6.heap.size ≤ k) nilV nilF := nilV_own _ _
  have sq := sm_nil
  obtain ⟨q, hqn⟩ : ∃ q, nilV = q := ⟨_, rfl⟩
  rw [hqn] at hQ sq ⊢
  clear hqn
  obtain ⟨qS, qA, qna, qca, qB, qnb, qcb, qL, qnl, qcl, qD, qnd, qcd⟩ := q
  dsimp only [FV.val, FV.cells]
  have gs5 := k1.size
  replace hP := hP.keep k1 (fun k ho e => by unfold Fresh at ho; omega)
  replace hR := hR.keep k1 (fun k ho e => by omega)
  replace b17 := b17.keep k1 (fun e => by omega)
  replace K6 := K6.trans k1 (fun k e _ => by omega)
  replace KP := KP.trans k1 (fun k e _ => .inr e)
  have b19 := Blk.new w7 27 (FV.cells ⟨qS, qA, qna, qca, qB, qnb, qcb, qL, qnl, qcl, qD, qnd, qcd⟩)
  have kA := (Keep.refl NoB w7).alloc (.cells (FV.cells ⟨qS, qA, qna, qca, qB, qnb, qcb, qL, qnl, qcl, qD, qnd, qcd⟩) 27)
  dsimp only [FV.cells] at b19 kA
  replace hS := hS.keep kA (fun _ _ => id)
  replace hR := hR.keep kA (fun _ _ => id)
  replace hP := hP.keepN kA
  replace hQ := hQ.keepN kA
  replace b17 := b17.keep kA id
  replace K6 := K6.trans kA (fun _ h _ => h.elim)
  replace KP := KP.trans kA (fun _ h _ => h.elim)
  have gs6 := kA.size
  clear k1 kA
  have F7 := HFB.out.keep K6 (fun k h1 h2 => by omega)
  obtain ⟨z0, z1, z2, z3, z4⟩ := blk5 (v := ⟨oS, oA, ona, oca, oB, onb, ocb, oL, onl, ocl, oD, ond, ocd⟩) F7.b9
  dsimp only at z0 z1 z2 z3 z4
  go_wp2_with fail
  refine (copyF_any ⟨oS, oA, ona, oca, oB, onb, ocb, oL, onl, ocl, oD, ond, ocd⟩ f _ F7.fo so).mono ?_
  rintro e w8 ⟨c, rfl, hC, k1⟩
  have sc := sm_own hC F7.fo so
  obtain ⟨cS, cA, cna, cca, cB, cnb, ccb, cL, cnl, ccl, cD, cnd, ccd⟩ := c
  dsimp only [FV.val, FV.cells]
  have gs7 := k1.size
  have b21 := Blk.new w8 27 (FV.cells ⟨cS, cA, cna, cca, cB, cnb, ccb, cL, cnl, ccl, cD, cnd, ccd⟩)
  have kA := (Keep.refl NoB w8).alloc (.cells (FV.cells ⟨cS, cA, cna, cca, cB, cnb, ccb, cL, cnl, ccl, cD, cnd, ccd⟩) 27)
  dsimp only [FV.cells] at b21 kA
  have kB := keepN k1 kA
  replace hS := hS.keep kB (fun _ _ => id)
  replace hR := hR.keep kB (fun _ _ => id)
  replace hP := hP.keepN kB
  replace hQ := hQ.keepN kB
  replace hC := hC.keepN kA
  replace b17 := b17.keep kB id
  replace b19 := b19.keep kB id
  replace K6 := K6.trans kB (fun _ h _ => h.elim)
  replace KP := KP.trans kB (fun _ h _ => h.elim)
  have gs8 := kA.size
  clear k1 kA kB F7 z0 z1 z2 z3 z4
  have F8 := HFB.out.keep K6 (fun k h1 h2 => by omega)
  obtain ⟨q40, q41, q42, q43, q44⟩ := blk5 (v := ⟨s0, A, na, ca, A2, nb, cb, L, nl, cl, D, nd, cd⟩) F8.b4
  obtain ⟨q50, q51, q52, q53, q54⟩ := blk5 (v := ⟨s1, A3, ne, ce, A4, nf, cf, L2, ng, cg, D2, nh, ch⟩) F8.b5
  obtain ⟨q90, q91, q92, q93, q94⟩ := blk5 (v := ⟨oS, oA, ona, oca, oB, onb, ocb, oL, onl, ocl, oD, ond, ocd⟩) F8.b9
  obtain ⟨qp0, qp1, qp2, qp3, qp4⟩ := blk5 (v := ⟨pS, pA, pna, pca, pB, pnb, pcb, pL, pnl, pcl, pD, pnd, pcd⟩) b17
  obtain ⟨qq0, qq1, qq2, qq3, qq4⟩ := blk5 (v := ⟨qS, qA, qna, qca, qB, qnb, qcb, qL, qnl, qcl, qD, qnd, qcd⟩) b19
  obtain ⟨qc0, qc1, qc2, qc3, qc4⟩ := blk5 (v := ⟨cS, cA, cna, cca, cB, cnb, ccb, cL, cnl, ccl, cD, cnd, ccd⟩) b21
  dsimp only at q40 q41 q42 q43 q44 q50 q51 q52 q53 q54 q90 q91 q92 q93 q94 qp0 qp1 qp2 qp3 qp4 qq0 qq1 qq2 qq3 qq4 qc0 qc1 qc2 qc3 qc4
  have hpl := placeF hS
  have HF8 := Lib.hid F8
  have HB17 := Lib.hid b17
  have HB21 := Lib.hid b21
  have HP := Lib.hid (And.intro hP sp)
  have HQ := Lib.hid (And.intro hQ sq)
  have HCC := Lib.hid (And.intro hC sc)
  have HSO2 := Lib.hid so
  have HRR := Lib.hid hR
  have HK6 := Lib.hid K6
  have HKP := Lib.hid (And.intro KP hSP)
  generalize hw8 : w8.alloc (.cells #[.string cS, .slice cA cna cca, .slice cB cnb ccb, .slice cL cnl ccl, .slice cD cnd ccd] 27) = w9 at HF8 HB17 HB21 HP HQ HCC HRR HK6 HKP hpl gs8 q40 q41 q42 q43 q44 q50 q51 q52 q53 q54 q90 q91 q92 q93 q94 qp0 qp1 qp2 qp3 qp4 qq0 qq1 qq2 qq3 qq4 qc0 qc1 qc2 qc3 qc4
  clear F8 b17 b19 b21 hP hQ hC sp sq sc so hR hS K6 KP hSP
  obtain ⟨E, hE⟩ : ∃ E, V.str xs = E := ⟨_, rfl⟩
  have hcv : ∀ W, Keep NoB w9 W → ∀ c, (convert 28 9 (.slice X xs.length c)).run Tryz.prog W = .ok (.string E) W := fun W hk c => by rw [← hE]; exact V.conv_rd (S.rd_n HF8.out.rx hk)
  have hcw : ∀ W, Keep NoB w9 W → ∀ c, (convert 28 9 (.slice Y xs.length c)).run Tryz.prog W = .ok (.string E) W := fun W hk c => by rw [← hE]; exact V.conv_rd (S.rd_n HF8.out.ry hk)
  have HConva := Lib.hid hcv
  have HConvb := Lib.hid hcw
  clear hcv hcw hE
  go_wp2_with fail
  clear hw8
  refine wp_region_props2 71 99 (NoB) (by kernel_rfl) (by kernel_rfl) (SJ N E s xs ⟨s0, A, na, ca, A2, nb, cb, L, nl, cl, D, nd, cd⟩ ⟨s1, A3, ne, ce, A4, nf, cf, L2, ng, cg, D2, nh, ch⟩ ⟨oS, oA, ona, oca, oB, onb, ocb, oL, onl, ocl, oD, ond, ocd⟩ ⟨pS, pA, pna, pca, pB, pnb, pcb, pL, pnl, pcl, pD, pnd, pcd⟩ ⟨qS, qA, qna, qca, qB, qnb, qcb, qL, qnl, qcl, qD, qnd, qcd⟩ ⟨cS, cA, cna, cca, cB, cnb, ccb, cL, cnl, ccl, cD, cnd, ccd⟩ f g X Y cx cy (70)) (fun i u x y _ h _ => SJ_stable _ _ _ _ _ _ _ _ _ _ _ _ _ _ _ _ _  i u x y h) (of_decide_eq_true rfl) ?step ?spec ?fin
  case step =>
    intro i o a w' ho hic hF hK hA
    have hi : i < 63 := by simpa using (Array.getElem?_eq_some_iff.1 ho).1
    by_cases h0 : i = 0
    · subst h0
      simp only [List.getElem?_toArray, List.getElem?_cons_zero, Option.some.injEq] at ho
      subst ho
      have e2 : a.tmps.getD 2 undef = .string N := hF.2.2 2 (.inl (by decide))
      refine Does.plain rfl ?_
      unfold yieldsK
      go_simp
      exact ⟨rfl, Keep.refl _ _⟩
    by_cases h1 : i = 1
    · subst h1
      simp only [List.getElem?_toArray, List.getElem?_cons_zero, List.getElem?_cons_succ, Option.some.injEq] at ho
      subst ho
      have e71 : a.tmps.getD 71 undef = .string N := hA ⟨0, .data⟩ (by simp) rfl
      refine Does.plain rfl ?_
      unfold yieldsK
      go_simp
      refine (HNM.out w').mono ?_
      rintro e w2 ⟨rfl, rfl⟩
      exact ⟨_, rfl, rfl, Keep.refl _ _⟩
    by_cases h2 : i = 2
    · subst h2
      simp only [List.getElem?_toArray, List.getElem?_cons_zero, List.getElem?_cons_succ, Option.some.injEq] at ho
      subst ho
      have e2 : a.tmps.getD 2 undef = .string N := hF.2.2 2 (.inl (by decide))
      refine Does.plain rfl ?_
      unfold yieldsK
      go_simp
      exact ⟨rfl, Keep.refl _ _⟩
    by_cases h3 : i = 3
    · subst h3
      simp only [List.getElem?_toArray, List.getElem?_cons_zero, List.getElem?_cons_succ, Option.some.injEq] at ho
      subst ho
      have e73 : a.tmps.getD 73 undef = .string N := hA ⟨2, .data⟩ (by simp) rfl
      refine Does.plain rfl ?_
      unfold yieldsK
      go_simp
      refine (HNR.out w').mono ?_
      rintro e w2 ⟨rfl, rfl⟩
      exact ⟨_, rfl, rfl, Keep.refl _ _⟩
    by_cases h4 : i = 4
    · subst h4
      simp only [List.getElem?_toArray, List.getElem?_cons_zero, List.getElem?_cons_succ, Option.some.injEq] at ho
      subst ho
      have e72 : a.tmps.getD 72 undef = .int .i64 (chkN s) := hA ⟨1, .data⟩ (by simp) rfl
      have e74 : a.tmps.getD 74 undef = .int .i64 (chkN s) := hA ⟨3, .data⟩ (by simp) rfl
      refine Does.plain rfl ?_
      unfold yieldsK
      go_simp
      exact ⟨rfl, Keep.refl _ _⟩
    by_cases h5 : i = 5
    · subst h5
      simp only [List.getElem?_toArray, List.getElem?_cons_zero, List.getElem?_cons_succ, Option.some.injEq] at ho
      subst ho
      have e75 : a.tmps.getD 75 undef = .bool false := hA ⟨4, .data⟩ (by simp) rfl
      refine Does.plain rfl ?_
      unfold yieldsK
      go_simp
      exact ⟨rfl, Keep.refl _ _⟩
    by_cases h6 : i = 6
    · subst h6
      simp only [List.getElem?_toArray, List.getElem?_cons_zero, List.getElem?_cons_succ, Option.some.injEq] at ho
      subst ho
      have e9 : a.tmps.getD 9 undef = .pointer (some ⟨w2.heap.size, 0, none⟩) := hF.2.2 9 (.inl (by decide))
      have c0 := Keep.cell hK q90 id
      have c1 := Keep.cell hK q91 id
      have c2 := Keep.cell hK q92 id
      have c3 := Keep.cell hK q93 id
      have c4 := Keep.cell hK q94 id
      refine Does.yes (j := 5) (d := 76) (want := false) rfl rfl (hA ⟨5, .guard⟩ (by simp) rfl) ?_
      unfold yieldsK
      go_simp
      exact ⟨rfl, Keep.refl _ _⟩
    by_cases h7 : i = 7
    · subst h7
      simp only [List.getElem?_toArray, List.getElem?_cons_zero, List.getElem?_cons_succ, Option.some.injEq] at ho
      subst ho
      have e77 : a.tmps.getD 77 undef = .agg #[.string oS, .slice oA ona oca, .slice oB onb ocb, .slice oL onl ocl, .slice oD ond ocd] := hA ⟨6, .data⟩ (by simp) rfl
      refine Does.yes (j := 5) (d := 76) (want := false) rfl rfl (hA ⟨5, .guard⟩ (by simp) rfl) ?_
      unfold yieldsK
      go_simp
      refine (check_any ⟨oS, oA, ona, oca, oB, onb, ocb, oL, onl, ocl, oD, ond, ocd⟩ f w' (HF8.out.fo.keepN hK) HSO2.out _ rfl).mono ?_
      rintro e w2 ⟨rfl, h2⟩
      exact ⟨_, rfl, rfl, h2⟩
    by_cases h8 : i = 8
    · subst h8
      simp only [List.getElem?_toArray, List.getElem?_cons_zero, List.getElem?_cons_succ, Option.some.injEq] at ho
      subst ho
      have e4 : a.tmps.getD 4 undef = .pointer (some ⟨w.heap.size, 0, none⟩) := hF.2.2 4 (.inl (by decide))
      have c0 := Keep.cell hK q40 id
      have c1 := Keep.cell hK q41 id
      have c2 := Keep.cell hK q42 id
      have c3 := Keep.cell hK q43 id
      have c4 := Keep.cell hK q44 id
      refine Does.yes (j := 5) (d := 76) (want := false) rfl rfl (hA ⟨5, .guard⟩ (by simp) rfl) ?_
      unfold yieldsK
      go_simp
      exact ⟨rfl, Keep.refl _ _⟩
    by_cases h9 : i = 9
    · subst h9
      simp only [List.getElem?_toArray, List.getElem?_cons_zero, List.getElem?_cons_succ, Option.some.injEq] at ho
      subst ho
      have e79 : a.tmps.getD 79 undef = .agg #[.string s0, .slice A na ca, .slice A2 nb cb, .slice L nl cl, .slice D nd cd] := hA ⟨8, .data⟩ (by simp) rfl
      refine Does.yes (j := 5) (d := 76) (want := false) rfl rfl (hA ⟨5, .guard⟩ (by simp) rfl) ?_
      unfold yieldsK
      go_simp
      refine (rcheck_any ⟨s0, A, na, ca, A2, nb, cb, L, nl, cl, D, nd, cd⟩ f w' (HF8.out.fv.keepN hK) HS.out.1 _ rfl).mono ?_
      rintro e w2 ⟨rfl, h2⟩
      exact ⟨_, rfl, rfl, h2⟩
    by_cases h10 : i = 10
    · subst h10
      simp only [List.getElem?_toArray, List.getElem?_cons_zero, List.getElem?_cons_succ, Option.some.injEq] at ho
      subst ho
      have e78 : a.tmps.getD 78 undef = .int .i64 (chkF f) := hA ⟨7, .data⟩ (by simp) rfl
      have e80 : a.tmps.getD 80 undef = .int .i64 (chkF f) := hA ⟨9, .data⟩ (by simp) rfl
      refine Does.yes (j := 5) (d := 76) (want := false) rfl rfl (hA ⟨5, .guard⟩ (by simp) rfl) ?_
      unfold yieldsK
      go_simp
      exact ⟨rfl, Keep.refl _ _⟩
    by_cases h11 : i = 11
    · subst h11
      simp only [List.getElem?_toArray, List.getElem?_cons_zero, List.getElem?_cons_succ, Option.some.injEq] at ho
      subst ho
      have e76 : a.tmps.getD 76 undef = .bool false := hA ⟨5, .data⟩ (by simp) rfl
      have e81 : a.tmps.getD 81 undef = .bool false := hA ⟨10, .data⟩ (by simp) rfl
      refine Does.plain rfl ?_
      unfold yieldsK
      go_simp
      exact ⟨rfl, Keep.refl _ _⟩
    by_cases h12 : i = 12
    · subst h12
      simp only [List.getElem?_toArray, List.getElem?_cons_zero, List.getElem?_cons_succ, Option.some.injEq] at ho
      subst ho
      have e82 : a.tmps.getD 82 undef = .bool false := hA ⟨11, .data⟩ (by simp) rfl
      refine Does.plain rfl ?_
      unfold yieldsK
      go_simp
      exact ⟨rfl, Keep.refl _ _⟩
    by_cases h13 : i = 13
    · subst h13
      simp only [List.getElem?_toArray, List.getElem?_cons_zero, List.getElem?_cons_succ, Option.some.injEq] at ho
      subst ho
      have e11 : a.tmps.getD 11 undef = .slice X xs.length cx := hF.2.2 11 (.inl (by decide))
      refine Does.yes (j := 12) (d := 83) (want := false) rfl rfl (hA ⟨12, .guard⟩ (by simp) rfl) ?_
      unfold yieldsK
      go_simp
      exact ⟨rfl, Keep.refl _ _⟩
    by_cases h14 : i = 14
    · subst h14
      simp only [List.getElem?_toArray, List.getElem?_cons_zero, List.getElem?_cons_succ, Option.some.injEq] at ho
      subst ho
      have e84 : a.tmps.getD 84 undef = .slice X xs.length cx := hA ⟨13, .data⟩ (by simp) rfl
      have cv := HConva.out w' hK
      refine Does.yes (j := 12) (d := 83) (want := false) rfl rfl (hA ⟨12, .guard⟩ (by simp) rfl) ?_
      unfold yieldsK
      go_simp
      exact ⟨rfl, Keep.refl _ _⟩
    by_cases h15 : i = 15
    · subst h15
      simp only [List.getElem?_toArray, List.getElem?_cons_zero, List.getElem?_cons_succ, Option.some.injEq] at ho
      subst ho
      have e13 : a.tmps.getD 13 undef = .slice Y xs.length cy := hF.2.2 13 (.inl (by decide))
      refine Does.yes (j := 12) (d := 83) (want := false) rfl rfl (hA ⟨12, .guard⟩ (by simp) rfl) ?_
      unfold yieldsK
      go_simp
      exact ⟨rfl, Keep.refl _ _⟩
    by_cases h16 : i = 16
    · subst h16
      simp only [List.getElem?_toArray, List.getElem?_cons_zero, List.getElem?_cons_succ, Option.some.injEq] at ho
      subst ho
      have e86 : a.tmps.getD 86 undef = .slice Y xs.length cy := hA ⟨15, .data⟩ (by simp) rfl
      have cv := HConvb.out w' hK
      refine Does.yes (j := 12) (d := 83) (want := false) rfl rfl (hA ⟨12, .guard⟩ (by simp) rfl) ?_
      unfold yieldsK
      go_simp
      exact ⟨rfl, Keep.refl _ _⟩
    by_cases h17 : i = 17
    · subst h17
      simp only [List.getElem?_toArray, List.getElem?_cons_zero, List.getElem?_cons_succ, Option.some.injEq] at ho
      subst ho
      have e85 : a.tmps.getD 85 undef = .string E := hA ⟨14, .data⟩ (by simp) rfl
      have e87 : a.tmps.getD 87 undef = .string E := hA ⟨16, .data⟩ (by simp) rfl
      refine Does.yes (j := 12) (d := 83) (want := false) rfl rfl (hA ⟨12, .guard⟩ (by simp) rfl) ?_
      unfold yieldsK
      go_simp
      exact ⟨rfl, Keep.refl _ _⟩
    by_cases h18 : i = 18
    · subst h18
      simp only [List.getElem?_toArray, List.getElem?_cons_zero, List.getElem?_cons_succ, Option.some.injEq] at ho
      subst ho
      have e83 : a.tmps.getD 83 undef = .bool false := hA ⟨12, .data⟩ (by simp) rfl
      have e88 : a.tmps.getD 88 undef = .bool false := hA ⟨17, .data⟩ (by simp) rfl
      refine Does.plain rfl ?_
      unfold yieldsK
      go_simp
      exact ⟨rfl, Keep.refl _ _⟩
    by_cases h19 : i = 19
    · subst h19
      simp only [List.getElem?_toArray, List.getElem?_cons_zero, List.getElem?_cons_succ, Option.some.injEq] at ho
      subst ho
      have e89 : a.tmps.getD 89 undef = .bool false := hA ⟨18, .data⟩ (by simp) rfl
      refine Does.plain rfl ?_
      unfold yieldsK
      go_simp
      exact ⟨rfl, Keep.refl _ _⟩
    by_cases h20 : i = 20
    · subst h20
      simp only [List.getElem?_toArray, List.getElem?_cons_zero, List.getElem?_cons_succ, Option.some.injEq] at ho
      subst ho
      have e12 : a.tmps.getD 12 undef = .int .i64 (chkF f) := hF.2.2 12 (.inl (by decide))
      refine Does.yes (j := 19) (d := 90) (want := false) rfl rfl (hA ⟨19, .guard⟩ (by simp) rfl) ?_
      unfold yieldsK
      go_simp
      exact ⟨rfl, Keep.refl _ _⟩
    by_cases h21 : i = 21
    · subst h21
      simp only [List.getElem?_toArray, List.getElem?_cons_zero, List.getElem?_cons_succ, Option.some.injEq] at ho
      subst ho
      have e14 : a.tmps.getD 14 undef = .int .i64 (chkF f) := hF.2.2 14 (.inl (by decide))
      refine Does.yes (j := 19) (d := 90) (want := false) rfl rfl (hA ⟨19, .guard⟩ (by simp) rfl) ?_
      unfold yieldsK
      go_simp
      exact ⟨rfl, Keep.refl _ _⟩
    by_cases h22 : i = 22
    · subst h22
      simp only [List.getElem?_toArray, List.getElem?_cons_zero, List.getElem?_cons_succ, Option.some.injEq] at ho
      subst ho
      have e91 : a.tmps.getD 91 undef = .int .i64 (chkF f) := hA ⟨20, .data⟩ (by simp) rfl
      have e92 : a.tmps.getD 92 undef = .int .i64 (chkF f) := hA ⟨21, .data⟩ (by simp) rfl
      refine Does.yes (j := 19) (d := 90) (want := false) rfl rfl (hA ⟨19, .guard⟩ (by simp) rfl) ?_
      unfold yieldsK
      go_simp
      exact ⟨rfl, Keep.refl _ _⟩
    by_cases h23 : i = 23
    · subst h23
      simp only [List.getElem?_toArray, List.getElem?_cons_zero, List.getElem?_cons_succ, Option.some.injEq] at ho
      subst ho
      have e90 : a.tmps.getD 90 undef = .bool false := hA ⟨19, .data⟩ (by simp) rfl
      have e93 : a.tmps.getD 93 undef = .bool false := hA ⟨22, .data⟩ (by simp) rfl
      refine Does.plain rfl ?_
      unfold yieldsK
      go_simp
      exact ⟨rfl, Keep.refl _ _⟩
    by_cases h24 : i = 24
    · subst h24
      simp only [List.getElem?_toArray, List.getElem?_cons_zero, List.getElem?_cons_succ, Option.some.injEq] at ho
      subst ho
      have e94 : a.tmps.getD 94 undef = .bool false := hA ⟨23, .data⟩ (by simp) rfl
      refine Does.plain rfl ?_
      unfold yieldsK
      go_simp
      exact ⟨rfl, Keep.refl _ _⟩
    by_cases h25 : i = 25
    · subst h25
      simp only [List.getElem?_toArray, List.getElem?_cons_zero, List.getElem?_cons_succ, Option.some.injEq] at ho
      subst ho
      have e17 : a.tmps.getD 17 undef = .pointer (some ⟨w6.heap.size, 0, none⟩) := hF.2.2 17 (.inl (by decide))
      have c0 := Keep.cell hK qp0 id
      have c1 := Keep.cell hK qp1 id
      have c2 := Keep.cell hK qp2 id
      have c3 := Keep.cell hK qp3 id
      have c4 := Keep.cell hK qp4 id
      refine Does.yes (j := 24) (d := 95) (want := false) rfl rfl (hA ⟨24, .guard⟩ (by simp) rfl) ?_
      unfold yieldsK
      go_simp
      exact ⟨rfl, Keep.refl _ _⟩
    by_cases h26 : i = 26
    · subst h26
      simp only [List.getElem?_toArray, List.getElem?_cons_zero, List.getElem?_cons_succ, Option.some.injEq] at ho
      subst ho
      have e19 : a.tmps.getD 19 undef = .pointer (some ⟨w7.heap.size, 0, none⟩) := hF.2.2 19 (.inl (by decide))
      have c0 := Keep.cell hK qq0 id
      have c1 := Keep.cell hK qq1 id
      have c2 := Keep.cell hK qq2 id
      have c3 := Keep.cell hK qq3 id
      have c4 := Keep.cell hK qq4 id
      refine Does.yes (j := 24) (d := 95) (want := false) rfl rfl (hA ⟨24, .guard⟩ (by simp) rfl) ?_
      unfold yieldsK
      go_simp
      exact ⟨rfl, Keep.refl _ _⟩
    by_cases h27 : i = 27
    · subst h27
      simp only [List.getElem?_toArray, List.getElem?_cons_zero, List.getElem?_cons_succ, Option.some.injEq] at ho
      subst ho
      have e96 : a.tmps.getD 96 undef = .agg #[.string pS, .slice pA pna pca, .slice pB pnb pcb, .slice pL pnl pcl, .slice pD pnd pcd] := hA ⟨25, .data⟩ (by simp) rfl
      have e97 : a.tmps.getD 97 undef = .agg #[.string qS, .slice qA qna qca, .slice qB qnb qcb, .slice qL qnl qcl, .slice qD qnd qcd] := hA ⟨26, .data⟩ (by simp) rfl
      refine Does.yes (j := 24) (d := 95) (want := false) rfl rfl (hA ⟨24, .guard⟩ (by simp) rfl) ?_
      unfold yieldsK
      go_simp
      refine (rsameF_any ⟨pS, pA, pna, pca, pB, pnb, pcb, pL, pnl, pcl, pD, pnd, pcd⟩ nilF ⟨qS, qA, qna, qca, qB, qnb, qcb, qL, qnl, qcl, qD, qnd, qcd⟩ nilF w' (HP.out.1.fn.keepN hK) (HQ.out.1.fn.keepN hK) HP.out.2 HQ.out.2).mono ?_
      rintro e w2 ⟨rfl, h2⟩
      exact ⟨_, rfl, by rw [(sameF_iff _ _).2 rfl]; rfl, h2⟩
    by_cases h28 : i = 28
    · subst h28
      simp only [List.getElem?_toArray, List.getElem?_cons_zero, List.getElem?_cons_succ, Option.some.injEq] at ho
      subst ho
      have e98 : a.tmps.getD 98 undef = .bool true := hA ⟨27, .data⟩ (by simp) rfl
      refine Does.yes (j := 24) (d := 95) (want := false) rfl rfl (hA ⟨24, .guard⟩ (by simp) rfl) ?_
      unfold yieldsK
      go_simp
      exact ⟨rfl, Keep.refl _ _⟩
    by_cases h29 : i = 29
    · subst h29
      simp only [List.getElem?_toArray, List.getElem?_cons_zero, List.getElem?_cons_succ, Option.some.injEq] at ho
      subst ho
      have e95 : a.tmps.getD 95 undef = .bool false := hA ⟨24, .data⟩ (by simp) rfl
      have e99 : a.tmps.getD 99 undef = .bool false := hA ⟨28, .data⟩ (by simp) rfl
      refine Does.plain rfl ?_
      unfold yieldsK
      go_simp
      exact ⟨rfl, Keep.refl _ _⟩
    by_cases h30 : i = 30
    · subst h30
      simp only [List.getElem?_toArray, List.getElem?_cons_zero, List.getElem?_cons_succ, Option.some.injEq] at ho
      subst ho
      have e100 : a.tmps.getD 100 undef = .bool false := hA ⟨29, .data⟩ (by simp) rfl
      refine Does.plain rfl ?_
      unfold yieldsK
      go_simp
      exact ⟨rfl, Keep.refl _ _⟩
    by_cases h31 : i = 31
    · subst h31
      simp only [List.getElem?_toArray, List.getElem?_cons_zero, List.getElem?_cons_succ, Option.some.injEq] at ho
      subst ho
      have e18 : a.tmps.getD 18 undef = .int .i64 70 := hF.2.2 18 (.inl (by decide))
      refine Does.yes (j := 30) (d := 101) (want := false) rfl rfl (hA ⟨30, .guard⟩ (by simp) rfl) ?_
      unfold yieldsK
      go_simp
      exact ⟨rfl, Keep.refl _ _⟩
    by_cases h32 : i = 32
    · subst h32
      simp only [List.getElem?_toArray, List.getElem?_cons_zero, List.getElem?_cons_succ, Option.some.injEq] at ho
      subst ho
      have e20 : a.tmps.getD 20 undef = .int .i64 70 := hF.2.2 20 (.inl (by decide))
      refine Does.yes (j := 30) (d := 101) (want := false) rfl rfl (hA ⟨30, .guard⟩ (by simp) rfl) ?_
      unfold yieldsK
      go_simp
      exact ⟨rfl, Keep.refl _ _⟩
    by_cases h33 : i = 33
    · subst h33
      simp only [List.getElem?_toArray, List.getElem?_cons_zero, List.getElem?_cons_succ, Option.some.injEq] at ho
      subst ho
      have e102 : a.tmps.getD 102 undef = .int .i64 70 := hA ⟨31, .data⟩ (by simp) rfl
      have e103 : a.tmps.getD 103 undef = .int .i64 70 := hA ⟨32, .data⟩ (by simp) rfl
      refine Does.yes (j := 30) (d := 101) (want := false) rfl rfl (hA ⟨30, .guard⟩ (by simp) rfl) ?_
      unfold yieldsK
      go_simp
      exact ⟨rfl, Keep.refl _ _⟩
    by_cases h34 : i = 34
    · subst h34
      simp only [List.getElem?_toArray, List.getElem?_cons_zero, List.getElem?_cons_succ, Option.some.injEq] at ho
      subst ho
      have e101 : a.tmps.getD 101 undef = .bool false := hA ⟨30, .data⟩ (by simp) rfl
      have e104 : a.tmps.getD 104 undef = .bool false := hA ⟨33, .data⟩ (by simp) rfl
      refine Does.plain rfl ?_
      unfold yieldsK
      go_simp
      exact ⟨rfl, Keep.refl _ _⟩
    by_cases h35 : i = 35
    · subst h35
      simp only [List.getElem?_toArray, List.getElem?_cons_zero, List.getElem?_cons_succ, Option.some.injEq] at ho
      subst ho
      have e105 : a.tmps.getD 105 undef = .bool false := hA ⟨34, .data⟩ (by simp) rfl
      refine Does.plain rfl ?_
      unfold yieldsK
      go_simp
      exact ⟨rfl, Keep.refl _ _⟩
    by_cases h36 : i = 36
    · subst h36
      simp only [List.getElem?_toArray, List.getElem?_cons_zero, List.getElem?_cons_succ, Option.some.injEq] at ho
      subst ho
      have e20 : a.tmps.getD 20 undef = .int .i64 70 := hF.2.2 20 (.inl (by decide))
      refine Does.yes (j := 35) (d := 106) (want := false) rfl rfl (hA ⟨35, .guard⟩ (by simp) rfl) ?_
      unfold yieldsK
      go_simp
      exact ⟨rfl, Keep.refl _ _⟩
    by_cases h37 : i = 37
    · subst h37
      simp only [List.getElem?_toArray, List.getElem?_cons_zero, List.getElem?_cons_succ, Option.some.injEq] at ho
      subst ho
      have e107 : a.tmps.getD 107 undef = .int .i64 70 := hA ⟨36, .data⟩ (by simp) rfl
      refine Does.yes (j := 35) (d := 106) (want := false) rfl rfl (hA ⟨35, .guard⟩ (by simp) rfl) ?_
      unfold yieldsK
      go_simp
      exact ⟨rfl, Keep.refl _ _⟩
    by_cases h38 : i = 38
    · subst h38
      simp only [List.getElem?_toArray, List.getElem?_cons_zero, List.getElem?_cons_succ, Option.some.injEq] at ho
      subst ho
      have e108 : a.tmps.getD 108 undef = .bool false := hA ⟨37, .data⟩ (by simp) rfl
      refine Does.yes (j := 35) (d := 106) (want := false) rfl rfl (hA ⟨35, .guard⟩ (by simp) rfl) ?_
      unfold yieldsK
      go_simp
      exact ⟨rfl, Keep.refl _ _⟩
    by_cases h39 : i = 39
    · subst h39
      simp only [List.getElem?_toArray, List.getElem?_cons_zero, List.getElem?_cons_succ, Option.some.injEq] at ho
      subst ho
      refine Does.no (j := 38) (d := 109) (want := true) rfl rfl (hA ⟨38, .guard⟩ (by simp) rfl) ?_
      exact ⟨trivial, Keep.refl _ _⟩
    by_cases h40 : i = 40
    · subst h40
      simp only [List.getElem?_toArray, List.getElem?_cons_zero, List.getElem?_cons_succ, Option.some.injEq] at ho
      subst ho
      refine Does.no (j := 38) (d := 109) (want := true) rfl rfl (hA ⟨38, .guard⟩ (by simp) rfl) ?_
      exact ⟨trivial, Keep.refl _ _⟩
    by_cases h41 : i = 41
    · subst h41
      simp only [List.getElem?_toArray, List.getElem?_cons_zero, List.getElem?_cons_succ, Option.some.injEq] at ho
      subst ho
      refine Does.no (j := 38) (d := 109) (want := true) rfl rfl (hA ⟨38, .guard⟩ (by simp) rfl) ?_
      exact ⟨trivial, Keep.refl _ _⟩
    by_cases h42 : i = 42
    · subst h42
      simp only [List.getElem?_toArray, List.getElem?_cons_zero, List.getElem?_cons_succ, Option.some.injEq] at ho
      subst ho
      refine Does.no (j := 38) (d := 109) (want := true) rfl rfl (hA ⟨38, .guard⟩ (by simp) rfl) ?_
      exact ⟨trivial, Keep.refl _ _⟩
    by_cases h43 : i = 43
    · subst h43
      simp only [List.getElem?_toArray, List.getElem?_cons_zero, List.getElem?_cons_succ, Option.some.injEq] at ho
      subst ho
      refine Does.no (j := 38) (d := 109) (want := true) rfl rfl (hA ⟨38, .guard⟩ (by simp) rfl) ?_
      exact ⟨trivial, Keep.refl _ _⟩
    by_cases h44 : i = 44
    · subst h44
      simp only [List.getElem?_toArray, List.getElem?_cons_zero, List.getElem?_cons_succ, Option.some.injEq] at ho
      subst ho
      refine Does.no (j := 38) (d := 109) (want := true) rfl rfl (hA ⟨38, .guard⟩ (by simp) rfl) ?_
      exact ⟨trivial, Keep.refl _ _⟩
    by_cases h45 : i = 45
    · subst h45
      simp only [List.getElem?_toArray, List.getElem?_cons_zero, List.getElem?_cons_succ, Option.some.injEq] at ho
      subst ho
      refine Does.no (j := 38) (d := 109) (want := true) rfl rfl (hA ⟨38, .guard⟩ (by simp) rfl) ?_
      exact ⟨trivial, Keep.refl _ _⟩
    by_cases h46 : i = 46
    · subst h46
      simp only [List.getElem?_toArray, List.getElem?_cons_zero, List.getElem?_cons_succ, Option.some.injEq] at ho
      subst ho
      have e109 : a.tmps.getD 109 undef = .bool false := hA ⟨38, .data⟩ (by simp) rfl
      refine Does.yes (j := 35) (d := 106) (want := false) rfl rfl (hA ⟨35, .guard⟩ (by simp) rfl) ?_
      unfold yieldsK
      go_simp
      exact ⟨rfl, Keep.refl _ _⟩
    by_cases h47 : i = 47
    · subst h47
      simp only [List.getElem?_toArray, List.getElem?_cons_zero, List.getElem?_cons_succ, Option.some.injEq] at ho
      subst ho
      have e106 : a.tmps.getD 106 undef = .bool false := hA ⟨35, .data⟩ (by simp) rfl
      have e117 : a.tmps.getD 117 undef = .bool false := hA ⟨46, .data⟩ (by simp) rfl
      refine Does.plain rfl ?_
      unfold yieldsK
      go_simp
      exact ⟨rfl, Keep.refl _ _⟩
    by_cases h48 : i = 48
    · subst h48
      simp only [List.getElem?_toArray, List.getElem?_cons_zero, List.getElem?_cons_succ, Option.some.injEq] at ho
      subst ho
      have e118 : a.tmps.getD 118 undef = .bool false := hA ⟨47, .data⟩ (by simp) rfl
      refine Does.plain rfl ?_
      unfold yieldsK
      go_simp
      exact ⟨rfl, Keep.refl _ _⟩
    by_cases h49 : i = 49
    · subst h49
      simp only [List.getElem?_toArray, List.getElem?_cons_zero, List.getElem?_cons_succ, Option.some.injEq] at ho
      subst ho
      have e9 : a.tmps.getD 9 undef = .pointer (some ⟨w2.heap.size, 0, none⟩) := hF.2.2 9 (.inl (by decide))
      have c0 := Keep.cell hK q90 id
      have c1 := Keep.cell hK q91 id
      have c2 := Keep.cell hK q92 id
      have c3 := Keep.cell hK q93 id
      have c4 := Keep.cell hK q94 id
      refine Does.yes (j := 48) (d := 119) (want := false) rfl rfl (hA ⟨48, .guard⟩ (by simp) rfl) ?_
      unfold yieldsK
      go_simp
      exact ⟨rfl, Keep.refl _ _⟩
    by_cases h50 : i = 50
    · subst h50
      simp only [List.getElem?_toArray, List.getElem?_cons_zero, List.getElem?_cons_succ, Option.some.injEq] at ho
      subst ho
      have e5 : a.tmps.getD 5 undef = .pointer (some ⟨w.heap.size + 1, 0, none⟩) := hF.2.2 5 (.inl (by decide))
      have c0 := Keep.cell hK q50 id
      have c1 := Keep.cell hK q51 id
      have c2 := Keep.cell hK q52 id
      have c3 := Keep.cell hK q53 id
      have c4 := Keep.cell hK q54 id
      refine Does.yes (j := 48) (d := 119) (want := false) rfl rfl (hA ⟨48, .guard⟩ (by simp) rfl) ?_
      unfold yieldsK
      go_simp
      exact ⟨rfl, Keep.refl _ _⟩
    by_cases h51 : i = 51
    · subst h51
      simp only [List.getElem?_toArray, List.getElem?_cons_zero, List.getElem?_cons_succ, Option.some.injEq] at ho
      subst ho
      have e120 : a.tmps.getD 120 undef = .agg #[.string oS, .slice oA ona oca, .slice oB onb ocb, .slice oL onl ocl, .slice oD ond ocd] := hA ⟨49, .data⟩ (by simp) rfl
      have e121 : a.tmps.getD 121 undef = .agg #[.string s1, .slice A3 ne ce, .slice A4 nf cf, .slice L2 ng cg, .slice D2 nh ch] := hA ⟨50, .data⟩ (by simp) rfl
      refine Does.yes (j := 48) (d := 119) (want := false) rfl rfl (hA ⟨48, .guard⟩ (by simp) rfl) ?_
      unfold yieldsK
      go_simp
      refine (sameF_any ⟨oS, oA, ona, oca, oB, onb, ocb, oL, onl, ocl, oD, ond, ocd⟩ f ⟨s1, A3, ne, ce, A4, nf, cf, L2, ng, cg, D2, nh, ch⟩ g w' (HF8.out.fo.keepN hK) (HF8.out.fu.keepN hK) HSO2.out HS.out.2).mono ?_
      rintro e w2 ⟨rfl, h2⟩
      exact ⟨_, rfl, rfl, h2⟩
    by_cases h52 : i = 52
    · subst h52
      simp only [List.getElem?_toArray, List.getElem?_cons_zero, List.getElem?_cons_succ, Option.some.injEq] at ho
      subst ho
      have e4 : a.tmps.getD 4 undef = .pointer (some ⟨w.heap.size, 0, none⟩) := hF.2.2 4 (.inl (by decide))
      have c0 := Keep.cell hK q40 id
      have c1 := Keep.cell hK q41 id
      have c2 := Keep.cell hK q42 id
      have c3 := Keep.cell hK q43 id
      have c4 := Keep.cell hK q44 id
      refine Does.yes (j := 48) (d := 119) (want := false) rfl rfl (hA ⟨48, .guard⟩ (by simp) rfl) ?_
      unfold yieldsK
      go_simp
      exact ⟨rfl, Keep.refl _ _⟩
    by_cases h53 : i = 53
    · subst h53
      simp only [List.getElem?_toArray, List.getElem?_cons_zero, List.getElem?_cons_succ, Option.some.injEq] at ho
      subst ho
      have e5 : a.tmps.getD 5 undef = .pointer (some ⟨w.heap.size + 1, 0, none⟩) := hF.2.2 5 (.inl (by decide))
      have c0 := Keep.cell hK q50 id
      have c1 := Keep.cell hK q51 id
      have c2 := Keep.cell hK q52 id
      have c3 := Keep.cell hK q53 id
      have c4 := Keep.cell hK q54 id
      refine Does.yes (j := 48) (d := 119) (want := false) rfl rfl (hA ⟨48, .guard⟩ (by simp) rfl) ?_
      unfold yieldsK
      go_simp
      exact ⟨rfl, Keep.refl _ _⟩
    by_cases h54 : i = 54
    · subst h54
      simp only [List.getElem?_toArray, List.getElem?_cons_zero, List.getElem?_cons_succ, Option.some.injEq] at ho
      subst ho
      have e123 : a.tmps.getD 123 undef = .agg #[.string s0, .slice A na ca, .slice A2 nb cb, .slice L nl cl, .slice D nd cd] := hA ⟨52, .data⟩ (by simp) rfl
      have e124 : a.tmps.getD 124 undef = .agg #[.string s1, .slice A3 ne ce, .slice A4 nf cf, .slice L2 ng cg, .slice D2 nh ch] := hA ⟨53, .data⟩ (by simp) rfl
      refine Does.yes (j := 48) (d := 119) (want := false) rfl rfl (hA ⟨48, .guard⟩ (by simp) rfl) ?_
      unfold yieldsK
      go_simp
      refine (rsameF_any ⟨s0, A, na, ca, A2, nb, cb, L, nl, cl, D, nd, cd⟩ f ⟨s1, A3, ne, ce, A4, nf, cf, L2, ng, cg, D2, nh, ch⟩ g w' (HF8.out.fv.keepN hK) (HF8.out.fu.keepN hK) HS.out.1 HS.out.2).mono ?_
      rintro e w2 ⟨rfl, h2⟩
      exact ⟨_, rfl, rfl, h2⟩
    by_cases h55 : i = 55
    · subst h55
      simp only [List.getElem?_toArray, List.getElem?_cons_zero, List.getElem?_cons_succ, Option.some.injEq] at ho
      subst ho
      have e122 : a.tmps.getD 122 undef = .bool (sameF f g) := hA ⟨51, .data⟩ (by simp) rfl
      have e125 : a.tmps.getD 125 undef = .bool (sameF f g) := hA ⟨54, .data⟩ (by simp) rfl
      refine Does.yes (j := 48) (d := 119) (want := false) rfl rfl (hA ⟨48, .guard⟩ (by simp) rfl) ?_
      unfold yieldsK
      go_simp
      exact ⟨rfl, Keep.refl _ _⟩
    by_cases h56 : i = 56
    · subst h56
      simp only [List.getElem?_toArray, List.getElem?_cons_zero, List.getElem?_cons_succ, Option.some.injEq] at ho
      subst ho
      have e119 : a.tmps.getD 119 undef = .bool false := hA ⟨48, .data⟩ (by simp) rfl
      have e126 : a.tmps.getD 126 undef = .bool false := hA ⟨55, .data⟩ (by simp) rfl
      refine Does.plain rfl ?_
      unfold yieldsK
      go_simp
      exact ⟨rfl, Keep.refl _ _⟩
    by_cases h57 : i = 57
    · subst h57
      simp only [List.getElem?_toArray, List.getElem?_cons_zero, List.getElem?_cons_succ, Option.some.injEq] at ho
      subst ho
      have e127 : a.tmps.getD 127 undef = .bool false := hA ⟨56, .data⟩ (by simp) rfl
      refine Does.plain rfl ?_
      unfold yieldsK
      go_simp
      exact ⟨rfl, Keep.refl _ _⟩
    by_cases h58 : i = 58
    · subst h58
      simp only [List.getElem?_toArray, List.getElem?_cons_zero, List.getElem?_cons_succ, Option.some.injEq] at ho
      subst ho
      have e21 : a.tmps.getD 21 undef = .pointer (some ⟨w8.heap.size, 0, none⟩) := hF.2.2 21 (.inl (by decide))
      have c0 := Keep.cell hK qc0 id
      have c1 := Keep.cell hK qc1 id
      have c2 := Keep.cell hK qc2 id
      have c3 := Keep.cell hK qc3 id
      have c4 := Keep.cell hK qc4 id
      refine Does.yes (j := 57) (d := 128) (want := false) rfl rfl (hA ⟨57, .guard⟩ (by simp) rfl) ?_
      unfold yieldsK
      go_simp
      exact ⟨rfl, Keep.refl _ _⟩
    by_cases h59 : i = 59
    · subst h59
      simp only [List.getElem?_toArray, List.getElem?_cons_zero, List.getElem?_cons_succ, Option.some.injEq] at ho
      subst ho
      have e4 : a.tmps.getD 4 undef = .pointer (some ⟨w.heap.size, 0, none⟩) := hF.2.2 4 (.inl (by decide))
      have c0 := Keep.cell hK q40 id
      have c1 := Keep.cell hK q41 id
      have c2 := Keep.cell hK q42 id
      have c3 := Keep.cell hK q43 id
      have c4 := Keep.cell hK q44 id
      refine Does.yes (j := 57) (d := 128) (want := false) rfl rfl (hA ⟨57, .guard⟩ (by simp) rfl) ?_
      unfold yieldsK
      go_simp
      exact ⟨rfl, Keep.refl _ _⟩
    by_cases h60 : i = 60
    · subst h60
      simp only [List.getElem?_toArray, List.getElem?_cons_zero, List.getElem?_cons_succ, Option.some.injEq] at ho
      subst ho
      have e129 : a.tmps.getD 129 undef = .agg #[.string cS, .slice cA cna cca, .slice cB cnb ccb, .slice cL cnl ccl, .slice cD cnd ccd] := hA ⟨58, .data⟩ (by simp) rfl
      have e130 : a.tmps.getD 130 undef = .agg #[.string s0, .slice A na ca, .slice A2 nb cb, .slice L nl cl, .slice D nd cd] := hA ⟨59, .data⟩ (by simp) rfl
      refine Does.yes (j := 57) (d := 128) (want := false) rfl rfl (hA ⟨57, .guard⟩ (by simp) rfl) ?_
      unfold yieldsK
      go_simp
      refine (rsameF_any ⟨cS, cA, cna, cca, cB, cnb, ccb, cL, cnl, ccl, cD, cnd, ccd⟩ f ⟨s0, A, na, ca, A2, nb, cb, L, nl, cl, D, nd, cd⟩ f w' (HCC.out.1.fn.keepN hK) (HF8.out.fv.keepN hK) HCC.out.2 HS.out.1).mono ?_
      rintro e w2 ⟨rfl, h2⟩
      exact ⟨_, rfl, by rw [(sameF_iff _ _).2 rfl]; rfl, h2⟩
    by_cases h61 : i = 61
    · subst h61
      simp only [List.getElem?_toArray, List.getElem?_cons_zero, List.getElem?_cons_succ, Option.some.injEq] at ho
      subst ho
      have e131 : a.tmps.getD 131 undef = .bool true := hA ⟨60, .data⟩ (by simp) rfl
      refine Does.yes (j := 57) (d := 128) (want := false) rfl rfl (hA ⟨57, .guard⟩ (by simp) rfl) ?_
      unfold yieldsK
      go_simp
      exact ⟨rfl, Keep.refl _ _⟩
    by_cases h62 : i = 62
    · subst h62
      simp only [List.getElem?_toArray, List.getElem?_cons_zero, List.getElem?_cons_succ, Option.some.injEq] at ho
      subst ho
      have e128 : a.tmps.getD 128 undef = .bool false := hA ⟨57, .data⟩ (by simp) rfl
      have e132 : a.tmps.getD 132 undef = .bool false := hA ⟨61, .data⟩ (by simp) rfl
      refine Does.plain rfl ?_
      unfold yieldsK
      go_simp
      exact ⟨rfl, Keep.refl _ _⟩
    omega
  case spec =>
    intro o a w' ho
    simp at ho
  case fin =>
    intro a w' hF gK hA
    have e133 : a.tmps.getD (71 + 62) undef = .bool false := hA 62 (by decide)
    have ha := frame_fill (n := 63) hF (of_decide_eq_true rfl)
    rw [ha]
    rw [show List.range 63 = [0, 1, 2, 3, 4, 5, 6, 7, 8, 9, 10, 11, 12, 13, 14, 15, 16, 17, 18, 19, 20, 21, 22, 23, 24, 25, 26, 27, 28, 29, 30, 31, 32, 33, 34, 35, 36, 37, 38, 39, 40, 41, 42, 43, 44, 45, 46, 47, 48, 49, 50, 51, 52, 53, 54, 55, 56, 57, 58, 59, 60, 61, 62] from rfl]
    simp only [List.map_cons, List.map_nil, e133]
    generalize a.tmps.getD (71 + 0) undef = u0
    generalize a.tmps.getD (71 + 1) undef = u1
    generalize a.tmps.getD (71 + 2) undef = u2
    generalize a.tmps.getD (71 + 3) undef = u3
    generalize a.tmps.getD (71 + 4) undef = u4
    generalize a.tmps.getD (71 + 5) undef = u5
    generalize a.tmps.getD (71 + 6) undef = u6
    generalize a.tmps.getD (71 + 7) undef = u7
    generalize a.tmps.getD (71 + 8) undef = u8
    generalize a.tmps.getD (71 + 9) undef = u9
    generalize a.tmps.getD (71 + 10) undef = u10
    generalize a.tmps.getD (71 + 11) undef = u11
    generalize a.tmps.getD (71 + 12) undef = u12
    generalize a.tmps.getD (71 + 13) undef = u13
    generalize a.tmps.getD (71 + 14) undef = u14
    generalize a.tmps.getD (71 + 15) undef = u15
    generalize a.tmps.getD (71 + 16) undef = u16
    generalize a.tmps.getD (71 + 17) undef = u17
    generalize a.tmps.getD (71 + 18) undef = u18
    generalize a.tmps.getD (71 + 19) undef = u19
    generalize a.tmps.getD (71 + 20) undef = u20
    generalize a.tmps.getD (71 + 21) undef = u21
    generalize a.tmps.getD (71 + 22) undef = u22
    generalize a.tmps.getD (71 + 23) undef = u23
    generalize a.tmps.getD (71 + 24) undef = u24
    generalize a.tmps.getD (71 + 25) undef = u25
    generalize a.tmps.getD (71 + 26) undef = u26
    generalize a.tmps.getD (71 + 27) undef = u27
    generalize a.tmps.getD (71 + 28) undef = u28
    generalize a.tmps.getD (71 + 29) undef = u29
    generalize a.tmps.getD (71 + 30) undef = u30
    generalize a.tmps.getD (71 + 31) undef = u31
    generalize a.tmps.getD (71 + 32) undef = u32
    generalize a.tmps.getD (71 + 33) undef = u33
    generalize a.tmps.getD (71 + 34) undef = u34
    generalize a.tmps.getD (71 + 35) undef = u35
    generalize a.tmps.getD (71 + 36) undef = u36
    generalize a.tmps.getD (71 + 37) undef = u37
    generalize a.tmps.getD (71 + 38) undef = u38
    generalize a.tmps.getD (71 + 39) undef = u39
    generalize a.tmps.getD (71 + 40) undef = u40
    generalize a.tmps.getD (71 + 41) undef = u41
    generalize a.tmps.getD (71 + 42) undef = u42
    generalize a.tmps.getD (71 + 43) undef = u43
    generalize a.tmps.getD (71 + 44) undef = u44
    generalize a.tmps.getD (71 + 45) undef = u45
    generalize a.tmps.getD (71 + 46) undef = u46
    generalize a.tmps.getD (71 + 47) undef = u47
    generalize a.tmps.getD (71 + 48) undef = u48
    generalize a.tmps.getD (71 + 49) undef = u49
    generalize a.tmps.getD (71 + 50) undef = u50
    generalize a.tmps.getD (71 + 51) undef = u51
    generalize a.tmps.getD (71 + 52) undef = u52
    generalize a.tmps.getD (71 + 53) undef = u53
    generalize a.tmps.getD (71 + 54) undef = u54
    generalize a.tmps.getD (71 + 55) undef = u55
    generalize a.tmps.getD (71 + 56) undef = u56
    generalize a.tmps.getD (71 + 57) undef = u57
    generalize a.tmps.getD (71 + 58) undef = u58
    generalize a.tmps.getD (71 + 59) undef = u59
    generalize a.tmps.getD (71 + 60) undef = u60
    generalize a.tmps.getD (71 + 61) undef = u61
    simp only [fillT, List.setIfInBounds_toArray, List.set_cons_zero, List.set_cons_succ]
    have bc := HB21.out.keep gK id
    have bp := HB17.out.keep gK id
    have hc := HCC.out.1.keepN gK
    have K6 := HK6.out.trans gK (fun _ h _ => h.elim)
    have KP := HKP.out.1.trans gK (fun _ h _ => h.elim)
    have sSP := HKP.out.2
    have sc := HCC.out.2
    have sp := HP.out.2
    clear gK hA hF ha e133 HF8 HB17 HB21 HCC HP HQ HRR HK6 HKP HConva HConvb HNM HNR hpl q40 q41 q42 q43 q44 q50 q51 q52 q53 q54 q90 q91 q92 q93 q94 qp0 qp1 qp2 qp3 qp4 qq0 qq1 qq2 qq3 qq4 qc0 qc1 qc2 qc3 qc4
    obtain ⟨c0, c1, c2, c3, c4⟩ := blk5 (v := ⟨cS, cA, cna, cca, cB, cnb, ccb, cL, cnl, ccl, cD, cnd, ccd⟩) bc
    dsimp only at c0 c1 c2 c3 c4
    go_wp2_with fail
    refine (spoil_any ⟨cS, cA, cna, cca, cB, cnb, ccb, cL, cnl, ccl, cD, cnd, ccd⟩ _ w' (SpF.of hc (fun k hk => hk)) ⟨by have := sc.na; dsimp only at this ⊢; omega, by have := sc.nb; dsimp only at this ⊢; omega, by have := sc.nl; dsimp only at this ⊢; omega, by have := sc.nd; dsimp only at this ⊢; omega⟩).mono ?_
    rintro e wa ⟨rfl, ka⟩
    replace bp := bp.keep ka (fun e => by omega)
    replace K6 := K6.trans ka (fun k e _ => by omega)
    replace KP := KP.trans ka (fun k e _ => by omega)
    clear ka hc bc c0 c1 c2 c3 c4
    obtain ⟨c0, c1, c2, c3, c4⟩ := blk5 (v := ⟨pS, pA, pna, pca, pB, pnb, pcb, pL, pnl, pcl, pD, pnd, pcd⟩) bp
    dsimp only at c0 c1 c2 c3 c4
    go_wp2_with fail
    refine (spoil_any ⟨pS, pA, pna, pca, pB, pnb, pcb, pL, pnl, pcl, pD, pnd, pcd⟩ (w5.heap.size + 1) wa (sSP.keep KP (fun k h1 h2 h3 => by omega)) ⟨by have := sp.na; dsimp only at this ⊢; omega, by have := sp.nb; dsimp only at this ⊢; omega, by have := sp.nl; dsimp only at this ⊢; omega, by have := sp.nd; dsimp only at this ⊢; omega⟩).mono ?_
    rintro e wb ⟨rfl, kb⟩
    replace K6 := K6.trans kb (fun k e _ => by omega)
    have FX := HFB.out.keep K6 (fun k h1 h2 => by omega)
    have HKE := Lib.hid (HGK.out.trans K6 (fun k h hl => by omega))
    clear kb bp KP c0 c1 c2 c3 c4 K6
    obtain ⟨c0, c1, c2, c3, c4⟩ := blk5 (v := ⟨oS, oA, ona, oca, oB, onb, ocb, oL, onl, ocl, oD, ond, ocd⟩) FX.b9
    obtain ⟨x0, x1, x2, x3, x4⟩ := blk5 (v := ⟨s0, A, na, ca, A2, nb, cb, L, nl, cl, D, nd, cd⟩) FX.b4
    dsimp only at c0 c1 c2 c3 c4 x0 x1 x2 x3 x4
    go_wp2_with fail
    refine (rsameF_any ⟨oS, oA, ona, oca, oB, onb, ocb, oL, onl, ocl, oD, ond, ocd⟩ f ⟨s0, A, na, ca, A2, nb, cb, L, nl, cl, D, nd, cd⟩ f wb FX.fo FX.fv HSO2.out HS.out.1).mono ?_
    rintro e wc ⟨rfl, kc⟩
    rw [(sameF_iff f f).2 rfl]
    obtain ⟨T, hT⟩ : ∃ T, V.str b = T := ⟨_, rfl⟩
    have hcv : (convert 28 9 (.slice RA b.length ra)).run Tryz.prog wc = .ok (.string T) wc := by rw [← hT]; exact V.conv_rd (S.rd_n FX.rr kc)
    have hcw : (convert 28 9 (.slice B b.length d)).run Tryz.prog wc = .ok (.string T) wc := by rw [← hT]; exact V.conv_rd (S.rd_n FX.rb kc)
    have HKF := Lib.hid (keepN HKE.out kc)
    clear FX kc hT c0 c1 c2 c3 c4 x0 x1 x2 x3 x4 HFB HKE HGK
    go_wp2
    go_ret
    exact ⟨by first | rfl | simp, HKF.out⟩

set_option maxRecDepth 100000 in
theorem forms_walk
    (v : FV) (f : Fu) (u : FV) (g : Fu) (N : ByteArray) (s : List UInt8) (B : Option Addr) (b : List UInt8) (d : Nat) (w : World) (h : FnAt w v f) (h2 : FnAt w u g) (hN : N.data.toList = s) (hb : V.Rd w B b) (hc : b.length ≤ d) (hm : d ≤ maxLen) (hB : ∀ ad, B = some ad → ad.block < w.heap.size) :
    Calls Tryz.prog 3 #[v.val, u.val, .string N, .slice B b.length d] w fun e w' => e = .returned (.bool true) ∧ Keep NoB w w' := by
  by_cases hq : SmF v ∧ SmF u ∧ N.size ≤ 100 ∧ b.length ≤ 8000
  · obtain ⟨q1, q2, q3, q4⟩ := hq
    cases hd : decF b 0 with
    | none => exact forms_n v f u g N s B b d w h h2 hN hb hc hm hB q1 q2 q3 q4 hd
    | some x => exact forms_y v f u g N s B b d w h h2 hN hb hc hm hB q1 q2 q3 q4 x.1 x.2 hd
  · exact forms_big v u N B b.length d w hq
set_option maxRecDepth 100000 in
/-- An argument's slice lies in a block that there is. -/
theorem slice_block {W : World} {b0 len cap : Nat} {A : Option Addr} (hv : Value.okWide Tryz.prog W .any b0 28 (.slice A len cap)) : ∀ ad, A = some ad → ad.block < W.heap.size := by
  rintro ad rfl
  simp only [Value.okWide, Tryz.underlying28, Cell.okWide, Cell.ok] at hv
  obtain ⟨_, _, _, _, row, cells, hs, _⟩ := hv
  unfold World.shape? at hs
  rcases Nat.lt_or_ge ad.block W.heap.size with h | h
  · exact h
  · rw [Array.getElem?_eq_none h] at hs; cases hs

end Go.Proofs.YtbnekeomdhljhaaGreatDoor.F
