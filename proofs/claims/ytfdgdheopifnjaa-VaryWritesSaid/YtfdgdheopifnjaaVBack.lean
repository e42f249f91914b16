/-
  The law's own back: does a Reel read what was written? By a plain function on lists. Conditions: no more than 2^47 bytes.
-/
import Derived.Test.YtfdgdheopifnjaaVReel3
import Derived.Test.YtfdgdheopifnjaaVReadOps
import Derived.Test.YtfdgdheopifnjaaVForms
namespace Go.Proofs.Ytfdgdheopifnjaa
open Go.RowKit

/-- How many bytes a call's answer takes, where it is as it was written. -/
def rd1 (t : List UInt8) (o : OpV) : Option Nat :=
  if o.kind = 0 then (if (nx t).2.2 = 0 ∧ (nx t).1 = o.n then some (nx t).2.1 else none)
  else if o.kind = 1 then (if (nx t).2.2 = 0 ∧ zag (nx t).1 = o.lo then some (nx t).2.1 else none)
  else if o.kind = 2 then (if (bnd (nx t) o.b.length).2.2 = 0 ∧ (bnd (nx t) o.b.length).2.1 + (bnd (nx t) o.b.length).1 ≤ t.length ∧ (t.drop (bnd (nx t) o.b.length).2.1).take (bnd (nx t) o.b.length).1 = o.b then some ((bnd (nx t) o.b.length).2.1 + (bnd (nx t) o.b.length).1) else none)
  else some 0
/-- The place behind all calls, where all is as it was written. -/
def bkP (s : List UInt8) : Nat → List OpV → Option Nat
  | p, [] => some p
  | p, o :: r => (rd1 (s.drop p) o).bind fun d => bkP s (p + d) r

/-- What back leaves. -/
def BackP (w0 : World) (br : Nat) (s : List UInt8) (r : Option Nat) (e : Ending) (w' : World) : Prop :=
  e = .returned (.bool r.isSome) ∧ (∀ q, r = some q → ReelAt w' br (Fresh w0) s q) ∧ Keep NoB w0 w'

theorem bk_no {s : List UInt8} {p k : Nat} {l : List OpV} {r : Option Nat} (h : r = bkP s p (l.drop k)) (hk : k < l.length) (h1 : rd1 (s.drop p) l[k] = none) : r = none := by
  rw [h, List.drop_eq_getElem_cons hk]; unfold bkP; rw [h1]; rfl
theorem bk_yes {s : List UInt8} {p k d : Nat} {l : List OpV} {r : Option Nat} (h : r = bkP s p (l.drop k)) (hk : k < l.length) (h1 : rd1 (s.drop p) l[k] = some d) : r = bkP s (p + d) (l.drop (k + 1)) := by
  rw [h, List.drop_eq_getElem_cons hk]; conv => lhs; unfold bkP
  rw [h1]; rfl
theorem bk_end {s : List UInt8} {p : Nat} {l : List OpV} {r : Option Nat} (h : r = bkP s p (l.drop l.length)) : r = some p := by
  rw [h, List.drop_length]; rfl

theorem conv_at {w : World} {A : Option Addr} {l : List UInt8} {c n : Nat} (h : Rd w A l) (hn : n = l.length) :
    (convert 27 9 (.slice A n c)).run Try.prog w = .ok (.string (str l)) w := by
  subst hn; exact conv_rd h

theorem rnum2 (w w0 : World) (br : Nat) (l : List UInt8) (p most : Nat) (N M : Int) (v er q : Nat) (h : ReelAt w br (Fresh w0) l p) (hk : Keep NoB w0 w) (hb : l.length ≤ 140737488355328) (hN : N = most) (hM : M = v) (hs : NumR l p most = (v, er, q)) :
    Calls Try.prog 25 #[.pointer (some ⟨br, 0, none⟩), .int .u64 N] w fun e w' => e = .returned (.tuple #[.int .u64 M, .int .i64 er]) ∧ ReelAt w' br (Fresh w0) l q ∧ Keep NoB w0 w' ∧ Keep (fun k => k = br) w w' := by
  subst hN hM
  refine (rnumber_any w br (Fresh w0) l p most h hb).mono ?_
  rintro e w' ⟨he, h1, h2⟩
  rw [hs] at he h1
  exact ⟨he, h1, hk.trans h2 (fun k e hk' => by have := h.1; unfold Fresh at this; omega), h2⟩

theorem rsig2 (w w0 : World) (br : Nat) (l : List UInt8) (p : Nat) (lo hi m : Int) (er q : Nat) (h : ReelAt w br (Fresh w0) l p) (hk : Keep NoB w0 w) (hb : l.length ≤ 140737488355328) (hs : SigR l p lo hi = (m, er, q)) :
    Calls Try.prog 27 #[.pointer (some ⟨br, 0, none⟩), .int .i64 lo, .int .i64 hi] w fun e w' => e = .returned (.tuple #[.int .i64 m, .int .i64 er]) ∧ ReelAt w' br (Fresh w0) l q ∧ Keep NoB w0 w' ∧ Keep (fun k => k = br) w w' := by
  refine (rsigned_any w br (Fresh w0) l p lo hi h hb).mono ?_
  rintro e w' ⟨he, h1, h2⟩
  rw [hs] at he h1
  exact ⟨he, h1, hk.trans h2 (fun k e hk' => by have := h.1; unfold Fresh at this; omega), h2⟩

theorem sigR_all (l : List UInt8) (p n d : Nat) (h : nx (l.drop p) = (n, d, 0)) (hn : n < 18446744073709551616) : SigR l p (-9223372036854775808) 9223372036854775807 = (zag n, 0, p + d) := by
  have h1 := zag_ge n hn
  have h2 := zag_le n hn
  unfold SigR; rw [h]
  simp only [ne_eq, not_true_eq_false, if_false]
  rw [if_neg (by omega)]
theorem sigR_err (l : List UInt8) (p r : Nat) (lo hi : Int) (h : nx (l.drop p) = (0, 0, r)) (hr : r ≠ 0) : SigR l p lo hi = (0, r, p) := by
  unfold SigR; rw [h]; simp [hr]

/-- What Bytes leaves, by the parts of what comes next. -/
def Bytes2 (w w0 : World) (br : Nat) (s : List UInt8) (p : Nat) (b : Nat × Nat × Nat) (e : Ending) (w' : World) : Prop :=
  Keep NoB w0 w' ∧ Keep (fun k => k = br) w w' ∧
      ((b.2.2 ≠ 0 ∧ e = .returned (.tuple #[.slice none 0 0, .int .i64 b.2.2]) ∧ ReelAt w' br (Fresh w0) s p) ∨
       (b.2.2 = 0 ∧ s.length < p + b.2.1 + b.1 ∧ e = .returned (.tuple #[.slice none 0 0, .int .i64 10]) ∧ ReelAt w' br (Fresh w0) s p) ∨
       (b.2.2 = 0 ∧ p + b.2.1 + b.1 ≤ s.length ∧ ∃ A c, e = .returned (.tuple #[.slice A b.1 c, .int .i64 0]) ∧
          OwnB w' (Fresh w) (.slice A b.1 c) ((s.drop (p + b.2.1)).take b.1) ∧ ReelAt w' br (Fresh w0) s (p + b.2.1 + b.1)))

theorem rbytes2 (w w0 : World) (br : Nat) (s : List UInt8) (p most : Nat) (N : Int) (h : ReelAt w br (Fresh w0) s p) (hk : Keep NoB w0 w) (hb : s.length ≤ 140737488355328) (hN : N = most) (h2 : most ≤ 9223372036854775807) :
    Calls Try.prog 29 #[.pointer (some ⟨br, 0, none⟩), .int .i64 N] w (Bytes2 w w0 br s p (bnd (nx (s.drop p)) most)) := by
  subst hN
  have hbr := h.1
  have e1 : (max (most : Int) 0).toNat = most := by omega
  have hx := rbytes_any w br (Fresh w0) s p most h hb (by omega) (by omega)
  rw [e1] at hx
  refine hx.mono ?_
  clear hx
  intro e w' hx
  generalize bnd (nx (s.drop p)) most = b at hx ⊢
  obtain ⟨n, d, r⟩ := b
  rcases hx with ⟨g1, g2, g3, g4⟩ | ⟨g1, g2⟩
  · exact ⟨keepN hk g4, g4.mono (fun _ hf _ => hf.elim), .inl ⟨g1, g2, g3⟩⟩
  · unfold Bytes2
    dsimp only at g1 g2 ⊢
    rcases g2 with ⟨f1, f2, f3, f4⟩ | ⟨f1, A, c, f2, f3, f4, f5⟩
    · exact ⟨keepN hk f4, f4.mono (fun _ hf _ => hf.elim), .inr (.inl ⟨g1, by omega, f2, f3⟩)⟩
    · rw [Int.toNat_natCast] at f2 f3 f4
      exact ⟨hk.trans f5 (fun k e hk' => by unfold Fresh at hbr; omega), f5, .inr (.inr ⟨g1, by omega, A, c, f2, f3, f4⟩)⟩

/-- A copy of a call in memory. -/
abbrev opCs (kind m : Int) (n : Nat) (lo hi : Int) (B : Option Addr) (bl c : Nat) : Array Value := #[.int .i64 kind, .int .i64 m, .int .u64 n, .int .i64 lo, .int .i64 hi, .slice B bl c]

set_option maxRecDepth 100000 in
set_option maxHeartbeats 8000000 in
theorem back_any (w w0 : World) (br : Nat) (s : List UInt8) (p0 : Nat) (A : Option Addr) (l : List OpV) (c : Nat) (h : ReelAt w br (Fresh w0) s p0) (hk : Keep NoB w0 w) (hs : s.length ≤ 140737488355328) (ho : Ops w0 A l) (hl : l.length ≤ 100) (R : Option Nat) (hR : Hid (R = bkP s p0 l)) :
    Calls Try.prog 40 #[.pointer (some ⟨br, 0, none⟩), .slice A l.length c] w (BackP w0 br s R) := by
  go_enter Try.func40, Try.ntmps40
  go_wp2
  go_loopw [15] (fun i wr => ∃ k p : Nat, k ≤ l.length ∧ Hid (R = bkP s p (l.drop k)) ∧ i = .int .i64 k ∧ ReelAt wr br (Fresh w0) s p ∧ Keep NoB w0 wr) (fun i _ => l.length - (intOf i).toNat)
  case atStart => exact ⟨0, p0, Nat.zero_le _, hR, rfl, h, hk⟩
  case round =>
    clear h hk
    obtain ⟨k, p, hkl, hB, rfl, hRe, hK⟩ := hrel
    by_cases hlt : k < l.length
    · obtain ⟨g, off, rfl, hi⟩ := ho.2 (by omega)
      have hok := ho.1 l[k] (List.getElem_mem _)
      obtain ⟨q0, q1, q2, q3, q4, q5, _, qc, qm⟩ := (hi k hlt).keep hK
      obtain ⟨_, _, _, _, _, _, qr, _⟩ := hi k hlt
      have HN := Lib.hid (fun h1 => bk_no hB.out hlt h1)
      have HY := Lib.hid (fun d h1 => bk_yes (d := d) hB.out hlt h1)
      obtain ⟨o, hoe⟩ : ∃ o, l[k] = o := ⟨_, rfl⟩
      rw [hoe] at q0 q1 q2 q3 q4 q5 qr qc qm hok HN HY
      clear hoe
      obtain ⟨kind, m, n, lo, hi', B, b, c'⟩ := o
      obtain ⟨_, _, _, okl, _⟩ := hok
      dsimp only at q0 q1 q2 q3 q4 q5 qr qc qm okl
      have hbrl : br < wr.heap.size := by obtain ⟨_, _, hbk, _⟩ := hRe.cells; exact hbk.lt
      have hRa := hRe.keep ((Keep.refl NoB wr).alloc (.cells (opCs kind m n lo hi' B b.length c') 31)) (fun _ _ => id)
      have hKa := hK.alloc (.cells (opCs kind m n lo hi' B b.length c') 31)
      have hOa := Blk.new wr 31 (opCs kind m n lo hi' B b.length c')
      have hneb : ¬ wr.heap.size = br := by omega
      clear hi hB
      have hx := nx_width (s.drop p)
      have hez := nx_err (s.drop p)
      by_cases hk0 : kind = 0
      · subst hk0
        unfold rd1 at HN HY
        simp only [if_true] at HN HY
        obtain ⟨⟨n', d, r⟩, hnx⟩ : ∃ t, nx (s.drop p) = t := ⟨_, rfl⟩
        rw [hnx] at HN HY hx hez
        have HX := Lib.hid hnx
        clear hnx
        dsimp only at HN HY hx hez
        by_cases hr0 : r = 0
        · subst hr0
          have HNR := Lib.hid (numR_ok s p 18446744073709551615 n' d HX.out (by omega))
          clear hez
          obtain ⟨hx1, _, _, _⟩ := hx
          by_cases hnn : n' = n
          · subst hnn
            have hB' := Lib.hid (HY.out d (by simp))
            clear HN HY
            go_wp2_with fail
            refine (rnum2 _ w0 br s p 18446744073709551615 _ _ n' 0 (p + d) hRa hKa hs rfl rfl HNR.out).mono ?_
            rintro e w3 ⟨rfl, h3, hk3, hk3'⟩
            have hO3 := hOa.keep hk3' hneb
            have z2 := hO3.cell 2
            simp at z2
            go_wp2
            go_roundw
            case rel => exact ⟨k + 1, p + d, by omega, hB'.out, by go_num, h3, hk3⟩
            case measure => simp [intOf]; omega
          · have hRn := Lib.hid (HN.out (by rw [if_neg (fun h => hnn h.2)]))
            have hne : ((n' : Int) != (n : Int)) = true := by rw [bne_iff_ne]; omega
            clear HN HY
            go_wp2_with fail
            refine (rnum2 _ w0 br s p 18446744073709551615 _ _ n' 0 (p + d) hRa hKa hs rfl rfl HNR.out).mono ?_
            rintro e w3 ⟨rfl, h3, hk3, hk3'⟩
            have hO3 := hOa.keep hk3' hneb
            have z2 := hO3.cell 2
            simp at z2
            go_wp2
            go_ret
            exact ⟨by rw [hRn.out]; rfl, (by intro q hq; rw [hRn.out] at hq; cases hq), hk3⟩
        · have hRn := Lib.hid (HN.out (by rw [if_neg (fun h => hr0 h.1)]))
          obtain ⟨e1, e2⟩ := hez hr0
          subst e1 e2
          have HNR := Lib.hid (numR_err s p 18446744073709551615 r HX.out hr0)
          have hr1 : ((r : Int) != 0) = true := by rw [bne_iff_ne]; omega
          clear HN HY hez hx hr0
          go_wp2_with fail
          refine (rnum2 _ w0 br s p 18446744073709551615 _ _ 0 r p hRa hKa hs rfl rfl HNR.out).mono ?_
          rintro e w3 ⟨rfl, h3, hk3, hk3'⟩
          go_wp2
          go_ret
          exact ⟨by rw [hRn.out]; rfl, (by intro q hq; rw [hRn.out] at hq; cases hq), hk3⟩
      · by_cases hk1 : kind = 1
        · subst hk1
          unfold rd1 at HN HY
          simp only [if_true, if_false, hk0] at HN HY
          obtain ⟨⟨n', d, r⟩, hnx⟩ : ∃ t, nx (s.drop p) = t := ⟨_, rfl⟩
          rw [hnx] at HN HY hx hez
          have HX := Lib.hid hnx
          clear hnx hk0
          dsimp only at HN HY hx hez
          by_cases hr0 : r = 0
          · subst hr0
            obtain ⟨hx1, _, _, hn64⟩ := hx
            have HNR := Lib.hid (sigR_all s p n' d HX.out hn64)
            clear hez hn64
            obtain ⟨z, hz⟩ : ∃ z, zag n' = z := ⟨_, rfl⟩
            rw [hz] at HNR HN HY
            clear hz
            by_cases hnn : z = lo
            · subst hnn
              have hB' := Lib.hid (HY.out d (by simp))
              clear HN HY
              go_wp2_with fail
              refine (rsig2 _ w0 br s p (-9223372036854775808) 9223372036854775807 z 0 (p + d) hRa hKa hs HNR.out).mono ?_
              rintro e w3 ⟨rfl, h3, hk3, hk3'⟩
              have hO3 := hOa.keep hk3' hneb
              have z3 := hO3.cell 3
              simp at z3
              go_wp2
              go_roundw
              case rel => exact ⟨k + 1, p + d, by omega, hB'.out, by go_num, h3, hk3⟩
              case measure => simp [intOf]; omega
            · have hRn := Lib.hid (HN.out (by rw [if_neg (fun h => hnn h.2)]))
              have hne : (z != lo) = true := by rw [bne_iff_ne]; omega
              clear HN HY
              go_wp2_with fail
              refine (rsig2 _ w0 br s p (-9223372036854775808) 9223372036854775807 z 0 (p + d) hRa hKa hs HNR.out).mono ?_
              rintro e w3 ⟨rfl, h3, hk3, hk3'⟩
              have hO3 := hOa.keep hk3' hneb
              have z3 := hO3.cell 3
              simp at z3
              go_wp2
              go_ret
              exact ⟨by rw [hRn.out]; rfl, (by intro q hq; rw [hRn.out] at hq; cases hq), hk3⟩
          · have hRn := Lib.hid (HN.out (by rw [if_neg (fun h => hr0 h.1)]))
            obtain ⟨e1, e2⟩ := hez hr0
            subst e1 e2
            have HNR := Lib.hid (sigR_err s p r (-9223372036854775808) 9223372036854775807 HX.out hr0)
            have hr1 : ((r : Int) != 0) = true := by rw [bne_iff_ne]; omega
            clear HN HY hez hx hr0
            go_wp2_with fail
            refine (rsig2 _ w0 br s p (-9223372036854775808) 9223372036854775807 0 r p hRa hKa hs HNR.out).mono ?_
            rintro e w3 ⟨rfl, h3, hk3, hk3'⟩
            go_wp2
            go_ret
            exact ⟨by rw [hRn.out]; rfl, (by intro q hq; rw [hRn.out] at hq; cases hq), hk3⟩
        · by_cases hk2 : kind = 2
          · subst hk2
            unfold rd1 at HN HY
            simp only [if_true, if_false, hk0, hk1] at HN HY
            have hbw := bnd_width (s.drop p) b.length
            have hc'm := qm
            unfold maxLen at hc'm
            have HC := Lib.hid (rbytes2 _ w0 br s p b.length b.length hRa hKa hs rfl (by omega))
            obtain ⟨⟨n', d, r⟩, hnx⟩ : ∃ t, bnd (nx (s.drop p)) b.length = t := ⟨_, rfl⟩
            rw [hnx] at HN HY HC hbw
            have HX := Lib.hid hnx
            clear hnx hk0 hk1 hx hez
            rw [List.drop_drop, List.length_drop] at HN HY
            rw [List.length_drop] at hbw
            dsimp only at HN HY hbw
            have hpl := hRe.2.1
            go_wp2_with fail
            refine HC.out.mono ?_
            clear HC
            rintro e w3 ⟨hk3, hk3', ⟨hr, rfl, h3⟩ | ⟨hr, hsh, rfl, h3⟩ | ⟨hr, hle, A3, c3, rfl, hw3, h3⟩⟩
            · dsimp only at hr h3
              have hRn := Lib.hid (HN.out (by rw [if_neg (fun h => hr h.1)]))
              have hr1 : ((r : Int) != 0) = true := by rw [bne_iff_ne]; omega
              clear HN HY
              go_wp2
              go_ret
              exact ⟨by rw [hRn.out]; rfl, (by intro q hq; rw [hRn.out] at hq; cases hq), hk3⟩
            · dsimp only at hr hsh h3
              have hRn := Lib.hid (HN.out (by rw [if_neg (fun h => by omega)]))
              clear HN HY
              go_wp2
              go_ret
              exact ⟨by rw [hRn.out]; rfl, (by intro q hq; rw [hRn.out] at hq; cases hq), hk3⟩
            · dsimp only at hr hle hw3 h3
              subst hr
              obtain ⟨A4, c4, e4, _, hr4, _⟩ := hw3.form
              have hl4 : ((s.drop (p + d)).take n').length = n' := by simp; omega
              rw [hl4] at e4
              simp only [Value.slice.injEq, true_and] at e4
              obtain ⟨rfl, rfl⟩ := e4
              have qr3 := qr.keep hk3 (fun _ _ _ => id)
              have hO3 := hOa.keep hk3' hneb
              have z5 := hO3.cell 5
              simp at z5
              have v2 := conv_at (c := c') qr3 rfl
              by_cases heq : (s.drop (p + d)).take n' = b
              · have hB' := Lib.hid (HY.out (d + n') (by rw [if_pos ⟨rfl, by omega, heq⟩]))
                have v1 := conv_at (c := c3) (n := n') (A := A3) (l := (s.drop (p + d)).take n') (w := w3) hr4 hl4.symm
                rw [heq] at v1
                clear HN HY
                go_wp2
                go_roundw
                case rel => exact ⟨k + 1, p + d + n', by omega, (by have := hB'.out; rw [← Nat.add_assoc] at this; exact this), by go_num, h3, hk3⟩
                case measure => simp [intOf]; omega
              · have hRn := Lib.hid (HN.out (by rw [if_neg (fun h => heq h.2.2)]))
                obtain ⟨u, hu⟩ : ∃ u, (s.drop (p + d)).take n' = u := ⟨_, rfl⟩
                rw [hu] at hl4 hr4 heq
                have v1 := conv_at (c := c3) (n := n') (A := A3) (l := u) (w := w3) hr4 hl4.symm
                have hne : (u == b) = false := by rw [beq_eq_false_iff_ne]; exact heq
                clear HN HY
                go_wp2
                go_ret
                exact ⟨by rw [hRn.out]; rfl, (by intro q hq; rw [hRn.out] at hq; cases hq), hk3⟩
          · have hB' := Lib.hid (HY.out 0 (by unfold rd1; simp [hk0, hk1, hk2]))
            have t0 : (kind == 0) = false := by rw [beq_eq_false_iff_ne]; exact hk0
            have t1 : (kind == 1) = false := by rw [beq_eq_false_iff_ne]; exact hk1
            have t2 : (kind == 2) = false := by rw [beq_eq_false_iff_ne]; exact hk2
            clear HN HY hx hez hk0 hk1 hk2
            go_wp2
            go_roundw
            case rel => exact ⟨k + 1, p + 0, by omega, hB'.out, by go_num, hRa, hKa⟩
            case measure => simp [intOf]; omega
    · obtain rfl : k = l.length := by omega
      have hRn := Lib.hid (bk_end hB.out)
      go_wp2
      go_ret
      exact ⟨by rw [hRn.out]; rfl, (by intro q hq; rw [hRn.out] at hq; cases hq; exact hRe), hK⟩

end Go.Proofs.Ytfdgdheopifnjaa
