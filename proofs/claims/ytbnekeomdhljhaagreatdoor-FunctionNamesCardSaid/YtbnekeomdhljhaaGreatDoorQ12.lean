/-
  Functions at a Reel's place: what Decode answers. Conditions: the Reel reads bytes in memory, no more than 2^47.
  What Decode of layer function answers: the function at a Reel's place, and the place behind it. Conditions: the Reel reads bytes in memory, no more than 2^47.
  An argument that is a slice of bytes, opened: an address from which a list of bytes stands. No conditions.
  Functions that are no greater than statements go through; small facts that the laws share. No conditions.
  What the document's Named answers. Conditions: the name's length fits an int64.
  The document's Types and Check of layer function. Conditions: the function's lists lie in memory, and are no longer than statements go through.
  The iterator of an instruction's operands: it brings each operand that there is, in order, with its functions as they lie in memory when it comes. Conditions: kinds are from 0 to 10.
  What Show answers. Conditions: the listed package-level variables hold what their initialisers lay; numbers fit an int64.
  What write puts on a Tape: an operand's bytes. Conditions: the number is one of the kind; no more than 2^47 bytes in all.
-/
import Derived.OpenShut
import Derived.ProofKit
import Derived.SizedLaws
import Derived.Test.YtbnekeomdhljhaaGreatDoorQ10
import Derived.Test.YtbnekeomdhljhaaGreatDoorQ11
import Derived.Test.YtbnekeomdhljhaaGreatDoorQ7
import Derived.Test.YtbnekeomdhljhaaGreatDoorQ2
import Derived.Test.YtbnekeomdhljhaaGreatDoorQ6
import Derived.Test.YtbnekeomdhljhaaGreatDoorQ5
import Derived.Test.YtbnekeomdhljhaaGreatDoorQ8
namespace Go.Proofs.YtbnekeomdhljhaaGreatDoor.F
open Go.RowKit W

/-- A function whose lists are owned: each lies in a block of P. -/
structure OwnF (W : World) (P : Nat → Prop) (v : FV) (f : Fu) : Prop where
  nm : v.S.data.toList = f.nm
  oa : Own W 3 1 P (.slice v.A v.na v.ca) v.na (ivs f.ar)
  ob : Own W 3 1 P (.slice v.B v.nb v.cb) v.nb (ivs f.rs)
  ol : Own W 3 1 P (.slice v.L v.nl v.cl) v.nl (ivs f.lc)
  od : Own W 74 3 P (.slice v.D v.nd v.cd) v.nd (C.iis f.bd)
  hI : C.AllI f.bd
theorem OwnF.keep {W W' : World} {P O : Nat → Prop} {v : FV} {f : Fu} (h : OwnF W P v f) (hk : Keep O W W') (hn : ∀ k, P k → ¬ O k) : OwnF W' P v f :=
  ⟨h.nm, h.oa.keep hk hn, h.ob.keep hk hn, h.ol.keep hk hn, h.od.keep hk hn, h.hI⟩
theorem OwnF.keepN {W W' : World} {P : Nat → Prop} {v : FV} {f : Fu} (h : OwnF W P v f) (hk : Keep NoB W W') : OwnF W' P v f := h.keep hk (fun _ _ => id)
theorem OwnF.mono {W : World} {P P' : Nat → Prop} {v : FV} {f : Fu} (h : OwnF W P v f) (hP : ∀ k, P k → k < W.heap.size → P' k) : OwnF W P' v f :=
  ⟨h.nm, h.oa.mono hP, h.ob.mono hP, h.ol.mono hP, h.od.mono hP, h.hI⟩
theorem own_rdS {w : World} {E size n : Nat} {P : Nat → Prop} {A : Option Addr} {c : Nat} {xs : List Value} (h : Own w E size P (.slice A n c) n xs) : Rd w A xs := by
  obtain ⟨A', c', e, _, _, hr, _⟩ := h.form
  injection e with e1 e2 e3
  subst e1; exact hr
theorem own_lenD {w : World} {O : Nat → Prop} {v : Value} {l : List C.I3} {n : Nat} (h : Own w 74 3 O v n (C.iis l)) : l.length = n := by have := h.1.1; rw [C.iis_length] at this; omega
theorem OwnF.fn {W : World} {P : Nat → Prop} {v : FV} {f : Fu} (h : OwnF W P v f) : FnAt W v f :=
  ⟨h.nm, own_rdS h.oa, own_rdS h.ob, own_rdS h.ol, own_rdS h.od, own_len h.oa, own_len h.ob, own_len h.ol, own_lenD h.od, h.hI⟩
/-- What has been read so far. -/
structure Prt (w0 : World) (F : Nat) (O : Nat → Prop) (At : World → Nat → Prop) (f : Fu) (q : Nat) (v : FV) (W : World) : Prop where
  blk : Blk W F 27 v.cells
  own : OwnF W (Fresh w0) v f
  at_ : At W q
  keep : Keep (fun k => k = F ∨ O k) w0 W
theorem Prt.put {w0 W w1 W' : World} {F q q' : Nat} {O : Nat → Prop} {At : World → Nat → Prop} {f f' : Fu} {v v' : FV} (h : Prt w0 F O At f q v W) (hF : F < w0.heap.size)
    (hAt : ∀ w w' q, At w q → Keep (fun k => k = F) w w' → At w' q) (k1 : Keep O W w1) (hv : OwnF w1 (Fresh w0) v' f') (hat : At w1 q') (k2 : Keep (fun k => k = F) w1 W') (hb : Blk W' F 27 v'.cells) : Prt w0 F O At f' q' v' W' :=
  ⟨hb, hv.keep k2 (fun k hk e => by subst e; unfold Fresh at hk; omega), hAt _ _ _ hat k2, (h.keep.trans k1 (fun k ho _ => .inr ho)).trans k2 (fun k e _ => .inl e)⟩

/-- The function so far, part by part. -/
def stN (l : List UInt8) (x : Fu × Nat) : Option (Fu × Nat) := (nmR l x.2).map fun a => ({ x.1 with nm := a.1 }, a.2)
def stG (l : List UInt8) (x : Fu × Nat) : Option (Fu × Nat) := (S.decG l x.2).map fun g => ({ x.1 with ar := g.1.1, rs := g.1.2 }, g.2)
def stL (l : List UInt8) (x : Fu × Nat) : Option (Fu × Nat) := (lcR l x.2).map fun c => ({ x.1 with lc := c.1 }, c.2)
def stB (l : List UInt8) (x : Fu × Nat) : Option (Fu × Nat) := (C.decB l x.2).map fun d => ({ x.1 with bd := d.1 }, d.2)
def st (l : List UInt8) (p : Nat) : Nat → Option (Fu × Nat)
  | 0 => some (nilF, p)
  | 1 => (some (nilF, p)).bind (stN l)
  | 2 => ((some (nilF, p)).bind (stN l)).bind (stG l)
  | 3 => (((some (nilF, p)).bind (stN l)).bind (stG l)).bind (stL l)
  | _ => ((((some (nilF, p)).bind (stN l)).bind (stG l)).bind (stL l)).bind (stB l)
theorem st_none {l : List UInt8} {p i : Nat} (hi : i < 4) (h : st l p (i + 1) = none) : st l p 4 = none := by
  have hi : i = 0 ∨ i = 1 ∨ i = 2 ∨ i = 3 := by omega
  rcases hi with rfl | rfl | rfl | rfl
  · show ((((some (nilF, p)).bind (stN l)).bind (stG l)).bind (stL l)).bind (stB l) = none
    rw [show (some (nilF, p)).bind (stN l) = none from h]; rfl
  · show ((((some (nilF, p)).bind (stN l)).bind (stG l)).bind (stL l)).bind (stB l) = none
    rw [show ((some (nilF, p)).bind (stN l)).bind (stG l) = none from h]; rfl
  · show ((((some (nilF, p)).bind (stN l)).bind (stG l)).bind (stL l)).bind (stB l) = none
    rw [show (((some (nilF, p)).bind (stN l)).bind (stG l)).bind (stL l) = none from h]; rfl
  · exact h
theorem decF_st (l : List UInt8) (p : Nat) : decF l p = (st l p 4).bind fun x => ifF x.1 x.2 := by
  show decF l p = (((((some (nilF, p)).bind (stN l)).bind (stG l)).bind (stL l)).bind (stB l)).bind fun x => ifF x.1 x.2
  simp only [Option.bind_some, stN]
  cases h1 : nmR l p with
  | none => rw [decF_1 h1]; rfl
  | some a =>
    simp only [Option.map_some, Option.bind_some, stG]
    cases h2 : S.decG l a.2 with
    | none => rw [decF_2 h1 h2]; rfl
    | some g =>
      simp only [Option.map_some, Option.bind_some, stL]
      cases h3 : lcR l g.2 with
      | none => rw [decF_3 h1 h2 h3]; rfl
      | some c =>
        simp only [Option.map_some, Option.bind_some, stB]
        cases h4 : C.decB l c.2 with
        | none => rw [decF_4 h1 h2 h3 h4]; rfl
        | some d => rw [decF_5 h1 h2 h3 h4]; rfl
theorem st_small {l : List UInt8} {p q : Nat} {f : Fu} (h : st l p 4 = some (f, q)) : f.nm.length ≤ 32 ∧ f.ar.length ≤ 64 ∧ f.rs.length ≤ 64 ∧ f.lc.length ≤ 64 ∧ f.bd.length ≤ 512 := by
  replace h : ((((some (nilF, p)).bind (stN l)).bind (stG l)).bind (stL l)).bind (stB l) = some (f, q) := h
  simp only [Option.bind_some, stN] at h
  cases h1 : nmR l p with
  | none => rw [h1] at h; cases h
  | some a =>
    rw [h1] at h
    simp only [Option.map_some, Option.bind_some, stG] at h
    cases h2 : S.decG l a.2 with
    | none => rw [h2] at h; cases h
    | some g =>
      rw [h2] at h
      simp only [Option.map_some, Option.bind_some, stL] at h
      cases h3 : lcR l g.2 with
      | none => rw [h3] at h; cases h
      | some c =>
        rw [h3] at h
        simp only [Option.map_some, Option.bind_some, stB] at h
        cases h4 : C.decB l c.2 with
        | none => rw [h4] at h; cases h
        | some d =>
          rw [h4] at h
          simp only [Option.map_some] at h
          injection h with h
          injection h with e1 e2
          subst e1
          obtain ⟨a, qa⟩ := a
          obtain ⟨⟨ga, gr⟩, qg⟩ := g
          obtain ⟨c, qc⟩ := c
          obtain ⟨d, qd⟩ := d
          obtain ⟨_, _, n1, _⟩ := nmR_ok h1
          have g1 := ((S.okG_iff _ _).1 (S.decG_ok h2).1).1
          have c1 := ((S.okG_iff _ _).1 (S.decG_ok (lcR_ok h3)).1).1
          have d1 := (C.okB_parts (C.decB_ok h4).1).2.1
          dsimp only
          rw [List.length_nil] at c1
          exact ⟨n1, by omega, by omega, by omega, d1⟩

/-- What DecodeSignature and code.Decode answer, in the readers' words. -/
def SgG (w : World) (At : World → Nat → Prop) (R : Option ((List Int × List Int) × Nat)) (A : Option Addr) (n c : Nat) (B : Option Addr) (m d : Nat) (E : Int) (w' : World) : Prop :=
  (R = none ∧ E ≠ 0 ∧ ∃ q, At w' q) ∨ (∃ a r q, R = some ((a, r), q) ∧ E = 0 ∧ Own w' 3 1 (Fresh w) (.slice A n c) n (ivs a) ∧ Own w' 3 1 (Fresh w) (.slice B m d) m (ivs r) ∧ At w' q)
theorem sgG_of {w w' : World} {br : Nat} {At : World → Nat → Prop} {R : Option ((List Int × List Int) × Nat)} {e : Ending} (h : S.SigR w br At R e w') :
    ∃ A n c B m d E, e = .returned (.tuple #[.agg #[.slice A n c, .slice B m d], .int .i64 E]) ∧ SgG w At R A n c B m d E w' ∧ Keep (fun k => k = br) w w' := by
  obtain ⟨v1, v2, q, rfl, h1, h2, h3, h4, hk⟩ := h
  obtain ⟨A1, c1, rfl, _⟩ := h1.form
  obtain ⟨A2, c2, rfl, _⟩ := h2.form
  cases R with
  | none => exact ⟨_, _, _, _, _, _, _, rfl, .inl ⟨rfl, (by decide : (61 : Int) ≠ 0), q, h3⟩, hk⟩
  | some x =>
    obtain ⟨⟨a, r⟩, y⟩ := x
    obtain rfl := h4 _ rfl
    exact ⟨_, _, _, _, _, _, _, rfl, .inr ⟨a, r, _, rfl, rfl, h1, h2, h3⟩, hk⟩
def BdG (w : World) (At : World → Nat → Prop) (R : Option (List C.I3 × Nat)) (A : Option Addr) (n c : Nat) (E : Int) (w' : World) : Prop :=
  (R = none ∧ E ≠ 0 ∧ ∃ q, At w' q) ∨ (∃ xs q, R = some (xs, q) ∧ E = 0 ∧ Own w' 74 3 (Fresh w) (.slice A n c) n (C.iis xs) ∧ C.AllI xs ∧ At w' q)
theorem bdG_of {w w' : World} {br : Nat} {At : World → Nat → Prop} {l : List UInt8} {p : Nat} {e : Ending} (h : C.BdyR w br At (C.decL l p) (C.decE l p) (C.decQ l p) e w') :
    ∃ A n c E, e = .returned (.tuple #[.slice A n c, .int .i64 E]) ∧ BdG w At (C.decB l p) A n c E w' ∧ Keep (fun k => k = br) w w' := by
  obtain ⟨v, q, rfl, h1, h3, h4, hk⟩ := h
  obtain ⟨A1, c1, rfl, _⟩ := h1.form
  cases hd : C.decB l p with
  | none => exact ⟨_, _, _, _, rfl, .inl ⟨rfl, by rw [(C.dec_no hd).2]; decide, q, h3⟩, hk⟩
  | some x =>
    obtain ⟨xs, y⟩ := x
    obtain ⟨e1, e2, e3⟩ := C.dec_yes hd
    obtain rfl : q = y := (h4 e2).trans e3
    rw [e1] at h1 ⊢
    exact ⟨_, _, _, _, rfl, .inr ⟨xs, _, rfl, e2, h1, fun y hy => C.ok1_I (List.all_eq_true.1 (C.all_ok1 (C.decB_ok hd).1) y hy), h3⟩, hk⟩

/-- Not all could be read. -/
def Bad (w0 : World) (F : Nat) (O : Nat → Prop) (At : World → Nat → Prop) (W : World) : Prop := (∃ q, At W q) ∧ Keep (fun k => k = F ∨ O k) w0 W
theorem ne0 {E : Int} (h : E ≠ 0) : (E == 0) = false := beq_eq_false_iff_ne.2 h
theorem keep_one (W : World) (F i : Nat) (u : Value) : Keep (fun k => k = F) W (W.setCell ⟨F, i, none⟩ u) := (Keep.refl (fun k => k = F) W).setCell (p := ⟨F, i, none⟩) (fun _ => rfl) u

set_option maxRecDepth 100000 in
set_option maxHeartbeats 4000000 in
theorem reading_any (w : World) (F br : Nat) (Ob : Nat → Prop) (l : List UInt8) (p : Nat) (v0 : FV) (hbr : Blk w F 27 v0.cells) (hv0 : OwnF w (Fresh w) v0 nilF) (hat : V.ReelAt w br Ob l p) (hO : ∀ k, Ob k → k < w.heap.size ∧ k ≠ F) (hlen : l.length ≤ 140737488355328)
    (g : Nat) (u0 u1 u2 u3 : Value) (hb : Blk w g 75 #[u0, u1, u2, u3])
    (a0 : RdV 106 92 93 (fnV 52) (some ⟨br, 0, none⟩) ⟨F, 0, none⟩ u0 w)
    (a1 : RdV 108 95 96 (fnV 54) (some ⟨br, 0, none⟩) ⟨F, 1, none⟩ u1 w)
    (a2 : RdV 111 98 99 (fnV 56) (some ⟨br, 0, none⟩) ⟨F, 3, none⟩ u2 w)
    (a3 : RdV 112 101 102 (fnV 58) (some ⟨br, 0, none⟩) ⟨F, 4, none⟩ u3 w) :
    Calls Tryz.prog 41 #[.slice (some ⟨g, 0, none⟩) 4 4] w fun e w' =>
      (e = .returned (.bool true) ∧ ∃ f q v, st l p 4 = some (f, q) ∧ Prt w F (fun k => k = br) (fun w' q => V.ReelAt w' br Ob l q) f q v w') ∨ (e = .returned (.bool false) ∧ st l p 4 = none ∧ Bad w F (fun k => k = br) (fun w' q => V.ReelAt w' br Ob l q) w') := by
  obtain ⟨c0, r0, q0, rfl, x0, y0, z0⟩ := a0
  obtain ⟨c1, r1, q1, rfl, x1, y1, z1⟩ := a1
  obtain ⟨c2, r2, q2, rfl, x2, y2, z2⟩ := a2
  obtain ⟨c3, r3, q3, rfl, x3, y3, z3⟩ := a3
  have hFl := hbr.lt
  have hOb := (hO br hat.1)
  obtain ⟨A0, C0, hrb, _⟩ := hat.cells
  have hAt : ∀ (w w' : World) (q : Nat), V.ReelAt w br Ob l q → Keep (fun k => k = F) w w' → V.ReelAt w' br Ob l q := fun w w' q h hk => h.keep hk (fun k h2 e => (hO k h2).2 e)
  have xF0 : c0 ≠ F := x0.ne hbr (by decide)
  have xR0 : c0 ≠ br := x0.ne hrb (by decide)
  have yF0 : r0 ≠ F := y0.ne hbr (by decide)
  have yR0 : r0 ≠ br := y0.ne hrb (by decide)
  have zF0 : q0 ≠ F := z0.ne hbr (by decide)
  have zR0 : q0 ≠ br := z0.ne hrb (by decide)
  have xF1 : c1 ≠ F := x1.ne hbr (by decide)
  have xR1 : c1 ≠ br := x1.ne hrb (by decide)
  have yF1 : r1 ≠ F := y1.ne hbr (by decide)
  have yR1 : r1 ≠ br := y1.ne hrb (by decide)
  have zF1 : q1 ≠ F := z1.ne hbr (by decide)
  have zR1 : q1 ≠ br := z1.ne hrb (by decide)
  have xF2 : c2 ≠ F := x2.ne hbr (by decide)
  have xR2 : c2 ≠ br := x2.ne hrb (by decide)
  have yF2 : r2 ≠ F := y2.ne hbr (by decide)
  have yR2 : r2 ≠ br := y2.ne hrb (by decide)
  have zF2 : q2 ≠ F := z2.ne hbr (by decide)
  have zR2 : q2 ≠ br := z2.ne hrb (by decide)
  have xF3 : c3 ≠ F := x3.ne hbr (by decide)
  have xR3 : c3 ≠ br := x3.ne hrb (by decide)
  have yF3 : r3 ≠ F := y3.ne hbr (by decide)
  have yR3 : r3 ≠ br := y3.ne hrb (by decide)
  have zF3 : q3 ≠ F := z3.ne hbr (by decide)
  have zR3 : q3 ≠ br := z3.ne hrb (by decide)
  have gF : g ≠ F := hb.ne hbr (by decide)
  have gR : g ≠ br := hb.ne hrb (by decide)
  have K0 : Prt w F (fun k => k = br) (fun w' q => V.ReelAt w' br Ob l q) nilF p v0 w := ⟨hbr, hv0, hat, Keep.refl _ _⟩
  refine (every_any (some ⟨g, 0, none⟩) [(106, #[.pointer (some ⟨c0, 0, none⟩), .pointer (some ⟨r0, 0, none⟩), .pointer (some ⟨q0, 0, none⟩)]), (108, #[.pointer (some ⟨c1, 0, none⟩), .pointer (some ⟨r1, 0, none⟩), .pointer (some ⟨q1, 0, none⟩)]), (111, #[.pointer (some ⟨c2, 0, none⟩), .pointer (some ⟨r2, 0, none⟩), .pointer (some ⟨q2, 0, none⟩)]), (112, #[.pointer (some ⟨c3, 0, none⟩), .pointer (some ⟨r3, 0, none⟩), .pointer (some ⟨q3, 0, none⟩)])] 4 4 w rfl (by decide) (fun i => (st l p (i + 1)).isSome)
    (fun i W => ∃ f q v, st l p i = some (f, q) ∧ Prt w F (fun k => k = br) (fun w' q => V.ReelAt w' br Ob l q) f q v W) (fun W => Bad w F (fun k => k = br) (fun w' q => V.ReelAt w' br Ob l q) W) ?hcf ?hr ?hq ⟨_, _, _, rfl, K0⟩).mono ?_
  case hcf =>
    intro q hq
    simp only [List.mem_cons, List.not_mem_nil, or_false] at hq
    rcases hq with rfl | rfl | rfl | rfl
    · exact enters_of Tryz.func106 (by kernel_rfl) rfl
    · exact enters_of Tryz.func108 (by kernel_rfl) rfl
    · exact enters_of Tryz.func111 (by kernel_rfl) rfl
    · exact enters_of Tryz.func112 (by kernel_rfl) rfl
  case hr =>
    rintro i W ⟨f, q, v, _, hP⟩ _
    refine ⟨g, 0, rfl, fun j u hu => ?_⟩
    rw [Nat.zero_add, (hb.keep hP.keep (fun e => e.elim gF gR)).cell j]
    simpa using hu
  case hq =>
    rintro i hi W ⟨f, q, v, hst, hP⟩
    have hOW : ∀ k, Ob k → k < W.heap.size := fun k hk => Nat.lt_of_lt_of_le (hO k hk).1 hP.keep.size
    have hfr : ∀ (w1 : World), Keep (fun k => k = br) W w1 → OwnF w1 (Fresh w) v f := fun w1 k1 => hP.own.keep k1 (fun k hk e => by unfold Fresh at hk; have := hOb.1; omega)
    have hfw : ∀ k, Fresh W k → Fresh w k := fun k hk => Nat.le_trans hP.keep.size hk
    have hi : i = 0 ∨ i = 1 ∨ i = 2 ∨ i = 3 := by simp at hi; omega
    rcases hi with rfl | rfl | rfl | rfl
    · have hst1 : st l p 1 = stN l (f, q) := by
        show (st l p 0).bind (stN l) = _
        rw [hst]; rfl
      refine (readStr_any 52 (enters_of Tryz.func52 (by kernel_rfl) rfl) (fun k => k = br) (some ⟨br, 0, none⟩) c0 r0 q0 F v W (x0.keep hP.keep (fun e => e.elim xF0 xR0)) (y0.keep hP.keep (fun e => e.elim yF0 yR0)) (z0.keep hP.keep (fun e => e.elim zF0 zR0)) hP.blk zR0 (fun e => hOb.2 e.symm)
        (NmG (fun w' q => V.ReelAt w' br Ob l q) (nmR l q)) (decName_any W br Ob l q hP.at_ hlen)).mono ?_
      rintro e W' ⟨x, E, w1, rfl, hG, k1, rfl⟩
      have hw1 := hfr w1 k1
      have hbk := hP.blk.keep k1 (fun e => hOb.2 e.symm)
      have k2 := keep_one w1 F 0 (.string x)
      have hb2 := hbk.put 0 (.string x)
      rcases hG with ⟨hn, hE, q1, h1⟩ | ⟨s, q1, hs, rfl, hS, h1⟩
      · have hs1 : st l p 1 = none := by rw [hst1]; unfold stN; dsimp only; rw [hn]; rfl
        refine ⟨by rw [ne0 hE, show (st l p (0 + 1)).isSome = false by rw [show 0 + 1 = 1 from rfl, hs1]; rfl], fun h => ?_, fun _ => ?_⟩
        · rw [show (st l p (0 + 1)).isSome = false by rw [show 0 + 1 = 1 from rfl, hs1]; rfl] at h; cases h
        · exact ⟨⟨q1, hAt _ _ _ h1 k2⟩, (hP.keep.trans k1 (fun k ho _ => .inr ho)).trans k2 (fun k e _ => .inl e)⟩
      · have hs1 : st l p 1 = some ({ f with nm := s }, q1) := by rw [hst1]; unfold stN; dsimp only; rw [hs]; rfl
        refine ⟨by rw [show (st l p (0 + 1)).isSome = true by rw [show 0 + 1 = 1 from rfl, hs1]; rfl]; rfl, fun _ => ?_, fun h => ?_⟩
        · exact ⟨_, _, { v with S := x }, hs1, hP.put hFl hAt k1 (v' := { v with S := x }) (f' := { f with nm := s }) ⟨hS, hw1.oa, hw1.ob, hw1.ol, hw1.od, hw1.hI⟩ h1 k2 (by simpa [FV.cells] using hb2)⟩
        · rw [show (st l p (0 + 1)).isSome = true by rw [show 0 + 1 = 1 from rfl, hs1]; rfl] at h; cases h
    · have hst1 : st l p 2 = stG l (f, q) := by
        show (st l p 1).bind (stG l) = _
        rw [hst]; rfl
      refine (readSig_any 54 (enters_of Tryz.func54 (by kernel_rfl) rfl) (fun k => k = br) (some ⟨br, 0, none⟩) c1 r1 q1 F v W (x1.keep hP.keep (fun e => e.elim xF1 xR1)) (y1.keep hP.keep (fun e => e.elim yF1 yR1)) (z1.keep hP.keep (fun e => e.elim zF1 zR1)) hP.blk zR1 (fun e => hOb.2 e.symm)
        (SgG W (fun w' q => V.ReelAt w' br Ob l q) (S.decG l q)) ((S.decodeG_any W br Ob l q hOW hP.at_ hlen).mono fun e w1 h => sgG_of h)).mono ?_
      rintro e W' ⟨A, n, c, B, m, d, E, w1, rfl, hG, k1, rfl⟩
      have hw1 := hfr w1 k1
      have hbk := hP.blk.keep k1 (fun e => hOb.2 e.symm)
      have ka : Keep NoB w1 (w1.alloc (.cells #[.slice A n c, .slice B m d] 24)) := (Keep.refl NoB w1).alloc _
      have k2 := (keep_one (w1.alloc (.cells #[.slice A n c, .slice B m d] 24)) F 1 (.slice A n c)).trans (keep_one _ F 2 (.slice B m d)) (fun _ h _ => h)
      have hb2 := ((hbk.alloc (.cells #[.slice A n c, .slice B m d] 24)).put 1 (.slice A n c)).put 2 (.slice B m d)
      rcases hG with ⟨hn, hE, q1, h1⟩ | ⟨a, r, q1, hs, rfl, hA, hB, h1⟩
      · have hs1 : st l p 2 = none := by rw [hst1]; unfold stG; dsimp only; rw [hn]; rfl
        refine ⟨by rw [ne0 hE, show (st l p (1 + 1)).isSome = false by rw [show 1 + 1 = 2 from rfl, hs1]; rfl], fun h => ?_, fun _ => ?_⟩
        · rw [show (st l p (1 + 1)).isSome = false by rw [show 1 + 1 = 2 from rfl, hs1]; rfl] at h; cases h
        · exact ⟨⟨q1, hAt _ _ _ (h1.keep ka (fun _ _ => id)) k2⟩, (hP.keep.trans (k1.trans ka (fun _ hf _ => hf.elim)) (fun k ho _ => .inr ho)).trans k2 (fun k e _ => .inl e)⟩
      · have hs1 : st l p 2 = some ({ f with ar := a, rs := r }, q1) := by rw [hst1]; unfold stG; dsimp only; rw [hs]; rfl
        refine ⟨by rw [show (st l p (1 + 1)).isSome = true by rw [show 1 + 1 = 2 from rfl, hs1]; rfl]; rfl, fun _ => ?_, fun h => ?_⟩
        · exact ⟨_, _, { v with A := A, na := n, ca := c, B := B, nb := m, cb := d }, hs1, hP.put hFl hAt (k1.trans ka (fun _ hf _ => hf.elim)) (v' := { v with A := A, na := n, ca := c, B := B, nb := m, cb := d }) (f' := { f with ar := a, rs := r }) (OwnF.keepN (v := { v with A := A, na := n, ca := c, B := B, nb := m, cb := d }) (f := { f with ar := a, rs := r }) ⟨hw1.nm, hA.mono (fun k hk _ => hfw k hk), hB.mono (fun k hk _ => hfw k hk), hw1.ol, hw1.od, hw1.hI⟩ ka) (h1.keep ka (fun _ _ => id)) k2 (by simpa [FV.cells] using hb2)⟩
        · rw [show (st l p (1 + 1)).isSome = true by rw [show 1 + 1 = 2 from rfl, hs1]; rfl] at h; cases h
    · have hst1 : st l p 3 = stL l (f, q) := by
        show (st l p 2).bind (stL l) = _
        rw [hst]; rfl
      refine (readLoc_any 56 (enters_of Tryz.func56 (by kernel_rfl) rfl) (fun k => k = br) (some ⟨br, 0, none⟩) c2 r2 q2 F v W (x2.keep hP.keep (fun e => e.elim xF2 xR2)) (y2.keep hP.keep (fun e => e.elim yF2 yR2)) (z2.keep hP.keep (fun e => e.elim zF2 zR2)) hP.blk zR2 (fun e => hOb.2 e.symm)
        (LcG W (fun w' q => V.ReelAt w' br Ob l q) (lcR l q)) (decLoc_any W br Ob l q hOW hP.at_ hlen)).mono ?_
      rintro e W' ⟨A, n, c, E, w1, rfl, hG, k1, rfl⟩
      have hw1 := hfr w1 k1
      have hbk := hP.blk.keep k1 (fun e => hOb.2 e.symm)
      have k2 := keep_one w1 F 3 (.slice A n c)
      have hb2 := hbk.put 3 (.slice A n c)
      rcases hG with ⟨hn, hE, q1, h1⟩ | ⟨a, q1, hs, rfl, hA, _, h1⟩
      · have hs1 : st l p 3 = none := by rw [hst1]; unfold stL; dsimp only; rw [hn]; rfl
        refine ⟨by rw [ne0 hE, show (st l p (2 + 1)).isSome = false by rw [show 2 + 1 = 3 from rfl, hs1]; rfl], fun h => ?_, fun _ => ?_⟩
        · rw [show (st l p (2 + 1)).isSome = false by rw [show 2 + 1 = 3 from rfl, hs1]; rfl] at h; cases h
        · exact ⟨⟨q1, hAt _ _ _ h1 k2⟩, (hP.keep.trans k1 (fun k ho _ => .inr ho)).trans k2 (fun k e _ => .inl e)⟩
      · have hs1 : st l p 3 = some ({ f with lc := a }, q1) := by rw [hst1]; unfold stL; dsimp only; rw [hs]; rfl
        refine ⟨by rw [show (st l p (2 + 1)).isSome = true by rw [show 2 + 1 = 3 from rfl, hs1]; rfl]; rfl, fun _ => ?_, fun h => ?_⟩
        · exact ⟨_, _, { v with L := A, nl := n, cl := c }, hs1, hP.put hFl hAt k1 (v' := { v with L := A, nl := n, cl := c }) (f' := { f with lc := a }) ⟨hw1.nm, hw1.oa, hw1.ob, hA.mono (fun k hk _ => hfw k hk), hw1.od, hw1.hI⟩ h1 k2 (by simpa [FV.cells] using hb2)⟩
        · rw [show (st l p (2 + 1)).isSome = true by rw [show 2 + 1 = 3 from rfl, hs1]; rfl] at h; cases h
    · have hst1 : st l p 4 = stB l (f, q) := by
        show (st l p 3).bind (stB l) = _
        rw [hst]; rfl
      refine (readBod_any 58 (enters_of Tryz.func58 (by kernel_rfl) rfl) (fun k => k = br) (some ⟨br, 0, none⟩) c3 r3 q3 F v W (x3.keep hP.keep (fun e => e.elim xF3 xR3)) (y3.keep hP.keep (fun e => e.elim yF3 yR3)) (z3.keep hP.keep (fun e => e.elim zF3 zR3)) hP.blk zR3 (fun e => hOb.2 e.symm)
        (BdG W (fun w' q => V.ReelAt w' br Ob l q) (C.decB l q)) ((C.cdecode_any W br Ob l q hOW hP.at_ hlen).mono fun e w1 h => bdG_of h)).mono ?_
      rintro e W' ⟨A, n, c, E, w1, rfl, hG, k1, rfl⟩
      have hw1 := hfr w1 k1
      have hbk := hP.blk.keep k1 (fun e => hOb.2 e.symm)
      have k2 := keep_one w1 F 4 (.slice A n c)
      have hb2 := hbk.put 4 (.slice A n c)
      rcases hG with ⟨hn, hE, q1, h1⟩ | ⟨xs, q1, hs, rfl, hA, hI, h1⟩
      · have hs1 : st l p 4 = none := by rw [hst1]; unfold stB; dsimp only; rw [hn]; rfl
        refine ⟨by rw [ne0 hE, show (st l p (3 + 1)).isSome = false by rw [show 3 + 1 = 4 from rfl, hs1]; rfl], fun h => ?_, fun _ => ?_⟩
        · rw [show (st l p (3 + 1)).isSome = false by rw [show 3 + 1 = 4 from rfl, hs1]; rfl] at h; cases h
        · exact ⟨⟨q1, hAt _ _ _ h1 k2⟩, (hP.keep.trans k1 (fun k ho _ => .inr ho)).trans k2 (fun k e _ => .inl e)⟩
      · have hs1 : st l p 4 = some ({ f with bd := xs }, q1) := by rw [hst1]; unfold stB; dsimp only; rw [hs]; rfl
        refine ⟨by rw [show (st l p (3 + 1)).isSome = true by rw [show 3 + 1 = 4 from rfl, hs1]; rfl]; rfl, fun _ => ?_, fun h => ?_⟩
        · exact ⟨_, _, { v with D := A, nd := n, cd := c }, hs1, hP.put hFl hAt k1 (v' := { v with D := A, nd := n, cd := c }) (f' := { f with bd := xs }) ⟨hw1.nm, hw1.oa, hw1.ob, hw1.ol, hA.mono (fun k hk _ => hfw k hk), hI⟩ h1 k2 (by simpa [FV.cells] using hb2)⟩
        · rw [show (st l p (3 + 1)).isSome = true by rw [show 3 + 1 = 4 from rfl, hs1]; rfl] at h; cases h
  rintro e w' (⟨rfl, hall, f, q, v, hs, hP⟩ | ⟨rfl, ⟨i, hi, hn⟩, hB⟩)
  · exact .inl ⟨rfl, f, q, v, hs, hP⟩
  · refine .inr ⟨rfl, st_none hi ?_, hB⟩
    cases h : st l p (i + 1) with
    | none => rfl
    | some x => rw [h] at hn; cases hn

end Go.Proofs.YtbnekeomdhljhaaGreatDoor.F

namespace Go.Proofs.YtbnekeomdhljhaaGreatDoor.F
open Go.RowKit W

def nilV : FV := ⟨⟨#[]⟩, none, 0, 0, none, 0, 0, none, 0, 0, none, 0, 0⟩
theorem nilV_own (W : World) (P : Nat → Prop) : OwnF W P nilV nilF := ⟨rfl, Own.nil _ _ _ _, Own.nil _ _ _ _, Own.nil _ _ _ _, Own.nil _ _ _ _, fun x hx => by cases hx⟩
/-- How Decode ends. -/
def FunR (w : World) (O : Nat → Prop) (At : World → Nat → Prop) (R : Option (Fu × Nat)) (e : Ending) (w' : World) : Prop :=
  (R = none ∧ e = .returned (.tuple #[nilV.val, .int .i64 70]) ∧ (∃ q, At w' q) ∧ Keep O w w') ∨ (∃ f q v, R = some (f, q) ∧ e = .returned (.tuple #[v.val, .int .i64 0]) ∧ OwnF w' (Fresh w) v f ∧ At w' q ∧ Keep O w w')
def put5 (W : World) (g : Nat) (v : FV) : World :=
  let W1 := W.setCell ⟨g, 0, none⟩ (.string v.S)
  let W2 := W1.setCell ⟨g, 1, none⟩ (.slice v.A v.na v.ca)
  let W3 := W2.setCell ⟨g, 2, none⟩ (.slice v.B v.nb v.cb)
  let W4 := W3.setCell ⟨g, 3, none⟩ (.slice v.L v.nl v.cl)
  W4.setCell ⟨g, 4, none⟩ (.slice v.D v.nd v.cd)
theorem blk_put5 {W : World} {g : Nat} {a b c d e : Value} (h : Blk W g 27 #[a, b, c, d, e]) (v : FV) : Blk (put5 W g v) g 27 v.cells := by
  have h0 := h.put 0 (.string v.S)
  have h1 := h0.put 1 (.slice v.A v.na v.ca)
  have h2 := h1.put 2 (.slice v.B v.nb v.cb)
  have h3 := h2.put 3 (.slice v.L v.nl v.cl)
  have h4 := h3.put 4 (.slice v.D v.nd v.cd)
  clear h h0 h1 h2 h3
  simp only [List.setIfInBounds_toArray, List.set_cons_zero, List.set_cons_succ] at h4
  exact h4
theorem keep_at5 (W : World) (g : Nat) (v : FV) : Keep (fun k => k = g) W (put5 W g v) := by
  have h0 := keep_one W g 0 (.string v.S)
  have h1 := h0.trans (keep_one _ g 1 (.slice v.A v.na v.ca)) (fun _ h _ => h)
  have h2 := h1.trans (keep_one _ g 2 (.slice v.B v.nb v.cb)) (fun _ h _ => h)
  have h3 := h2.trans (keep_one _ g 3 (.slice v.L v.nl v.cl)) (fun _ h _ => h)
  exact h3.trans (keep_one _ g 4 (.slice v.D v.nd v.cd)) (fun _ h _ => h)
theorem ret_funE {fn : Func} {tmps : Array Value} {w : World} {g : Nat} {v : FV} {e : Value} (h : fn.results = #[.cell 2 27, .tmp 3]) (hp : tmps.getD 2 undef = .pointer (some ⟨g, 0, none⟩)) (hb : Blk w g 27 v.cells) (he : tmps.getD 3 undef = e) :
    (results fn tmps).run Tryz.prog w = .ok (.tuple #[v.val, e]) w := by
  rw [results_cell_tmp h, hp, he]
  simp only [asAddr, Sem.run_pure, Result.andThen_ok]
  rw [run_loadVar_row w g 27 27 v.cells (0, 0) _ hb Tryz.underlying27 rfl fun_size]
  rfl
theorem smF_of {l : List UInt8} {p q : Nat} {f : Fu} {v : FV} {W : World} {P : Nat → Prop} (h : st l p 4 = some (f, q)) (ho : OwnF W P v f) : SmF v := by
  obtain ⟨h1, h2, h3, h4, h5⟩ := st_small h
  have hf := ho.fn
  have e0 := sz_len hf.nm
  have e1 := hf.la
  have e2 := hf.lb
  have e3 := hf.ll
  have e4 := hf.ld
  exact ⟨by omega, by omega, by omega, by omega, by omega⟩

set_option maxRecDepth 100000 in
set_option maxHeartbeats 8000000 in
theorem decodeF_any (w : World) (br : Nat) (Ob : Nat → Prop) (l : List UInt8) (p : Nat) (hO : ∀ k, Ob k → k < w.heap.size) (h : V.ReelAt w br Ob l p) (hlen : l.length ≤ 140737488355328) :
    Calls Tryz.prog 13 #[.pointer (some ⟨br, 0, none⟩)] w (FunR w (fun k => k = br) (fun w' q => V.ReelAt w' br Ob l q) (decF l p)) := by
  have hbr := S.reel_lt h
  have hD := decF_st l p
  have bz := (Blk.new w 27 nilV.cells).alloc (.cells nilV.cells 27)
  have bf := Blk.new (w.alloc (.cells nilV.cells 27)) 27 nilV.cells
  have k0 := ((Keep.refl NoB w).alloc (.cells nilV.cells 27)).alloc (.cells nilV.cells 27)
  rw [World.size_alloc] at bf
  unfold nilV FV.cells at bz bf k0
  generalize hw0 : (w.alloc (.cells #[.string ⟨#[]⟩, .slice none 0 0, .slice none 0 0, .slice none 0 0, .slice none 0 0] 27)).alloc (.cells #[.string ⟨#[]⟩, .slice none 0 0, .slice none 0 0, .slice none 0 0, .slice none 0 0] 27) = w0 at bz bf k0
  have hsz : w0.heap.size = w.heap.size + 2 := by rw [← hw0]; simp
  have HZ := Lib.hid bz
  have HF := Lib.hid bf
  have HK := Lib.hid k0
  have HR := Lib.hid (h.keep k0 (fun _ _ => id))
  have HOb := Lib.hid hO
  have HD := Lib.hid hD
  clear bz bf k0 h hO hD
  go_enter Tryz.func13, Tryz.ntmps13
  go_wp2_with fail
  clear hw0
  refine (readsStr_any 52 (w.heap.size + 1) 0 (some ⟨br, 0, none⟩) w0).mono ?_
  rintro e w1 ⟨u0, rfl, ⟨c0, r0, q0, rfl, x0, y0, z0⟩, k1⟩
  have gK := keepN HK.out k1
  have gs := k1.size
  have A0 : Hid (RdV 106 92 93 (fnV 52) (some ⟨br, 0, none⟩) ⟨w.heap.size + 1, 0, none⟩ (askV 106 #[.pointer (some ⟨c0, 0, none⟩), .pointer (some ⟨r0, 0, none⟩), .pointer (some ⟨q0, 0, none⟩)]) w1) := ⟨c0, r0, q0, rfl, x0, y0, z0⟩
  replace HZ := Lib.hid (HZ.out.keep k1 id)
  replace HF := Lib.hid (HF.out.keep k1 id)
  replace HR := Lib.hid (HR.out.keep k1 (fun _ _ => id))
  clear x0 y0 z0 k1 HK
  unfold askV
  go_wp2_with fail
  refine (readsSig_any 54 (w.heap.size + 1) 1 (some ⟨br, 0, none⟩) w1).mono ?_
  rintro e w2 ⟨u1, rfl, ⟨c1, r1, q1, rfl, x1, y1, z1⟩, k1⟩
  replace gK := keepN gK k1
  replace gs := Nat.le_trans gs k1.size
  replace A0 := Lib.hid (RdV.keep A0.out k1)
  have A1 : Hid (RdV 108 95 96 (fnV 54) (some ⟨br, 0, none⟩) ⟨w.heap.size + 1, 1, none⟩ (askV 108 #[.pointer (some ⟨c1, 0, none⟩), .pointer (some ⟨r1, 0, none⟩), .pointer (some ⟨q1, 0, none⟩)]) w2) := ⟨c1, r1, q1, rfl, x1, y1, z1⟩
  replace HZ := Lib.hid (HZ.out.keep k1 id)
  replace HF := Lib.hid (HF.out.keep k1 id)
  replace HR := Lib.hid (HR.out.keep k1 (fun _ _ => id))
  clear x1 y1 z1 k1
  unfold askV
  go_wp2_with fail
  refine (readsLoc_any 56 (w.heap.size + 1) 3 (some ⟨br, 0, none⟩) w2).mono ?_
  rintro e w3 ⟨u2, rfl, ⟨c2, r2, q2, rfl, x2, y2, z2⟩, k1⟩
  replace gK := keepN gK k1
  replace gs := Nat.le_trans gs k1.size
  replace A0 := Lib.hid (RdV.keep A0.out k1)
  replace A1 := Lib.hid (RdV.keep A1.out k1)
  have A2 : Hid (RdV 111 98 99 (fnV 56) (some ⟨br, 0, none⟩) ⟨w.heap.size + 1, 3, none⟩ (askV 111 #[.pointer (some ⟨c2, 0, none⟩), .pointer (some ⟨r2, 0, none⟩), .pointer (some ⟨q2, 0, none⟩)]) w3) := ⟨c2, r2, q2, rfl, x2, y2, z2⟩
  replace HZ := Lib.hid (HZ.out.keep k1 id)
  replace HF := Lib.hid (HF.out.keep k1 id)
  replace HR := Lib.hid (HR.out.keep k1 (fun _ _ => id))
  clear x2 y2 z2 k1
  unfold askV
  go_wp2_with fail
  refine (readsBod_any 58 (w.heap.size + 1) 4 (some ⟨br, 0, none⟩) w3).mono ?_
  rintro e w4 ⟨u3, rfl, ⟨c3, r3, q3, rfl, x3, y3, z3⟩, k1⟩
  replace gK := keepN gK k1
  replace gs := Nat.le_trans gs k1.size
  have kb := (Keep.refl NoB w4).alloc (.cells #[askV 106 #[.pointer (some ⟨c0, 0, none⟩), .pointer (some ⟨r0, 0, none⟩), .pointer (some ⟨q0, 0, none⟩)], askV 108 #[.pointer (some ⟨c1, 0, none⟩), .pointer (some ⟨r1, 0, none⟩), .pointer (some ⟨q1, 0, none⟩)], askV 111 #[.pointer (some ⟨c2, 0, none⟩), .pointer (some ⟨r2, 0, none⟩), .pointer (some ⟨q2, 0, none⟩)], askV 112 #[.pointer (some ⟨c3, 0, none⟩), .pointer (some ⟨r3, 0, none⟩), .pointer (some ⟨q3, 0, none⟩)]] 75)
  have bb := Blk.new w4 75 #[askV 106 #[.pointer (some ⟨c0, 0, none⟩), .pointer (some ⟨r0, 0, none⟩), .pointer (some ⟨q0, 0, none⟩)], askV 108 #[.pointer (some ⟨c1, 0, none⟩), .pointer (some ⟨r1, 0, none⟩), .pointer (some ⟨q1, 0, none⟩)], askV 111 #[.pointer (some ⟨c2, 0, none⟩), .pointer (some ⟨r2, 0, none⟩), .pointer (some ⟨q2, 0, none⟩)], askV 112 #[.pointer (some ⟨c3, 0, none⟩), .pointer (some ⟨r3, 0, none⟩), .pointer (some ⟨q3, 0, none⟩)]]
  have A3 : RdV 112 101 102 (fnV 58) (some ⟨br, 0, none⟩) ⟨w.heap.size + 1, 4, none⟩ (askV 112 #[.pointer (some ⟨c3, 0, none⟩), .pointer (some ⟨r3, 0, none⟩), .pointer (some ⟨q3, 0, none⟩)]) w4 := ⟨c3, r3, q3, rfl, x3, y3, z3⟩
  have kc := k1.trans kb (fun _ h _ => h)
  have HE := Lib.hid (reading_any _ (w.heap.size + 1) br Ob l p nilV (HF.out.keep kc id) (nilV_own _ _) (HR.out.keep kc (fun _ _ => id)) (fun k hk => ⟨by have := HOb.out k hk; have := kb.size; omega, by have := HOb.out k hk; omega⟩) hlen w4.heap.size _ _ _ _ bb (RdV.keep A0.out kc) (RdV.keep A1.out kc) (RdV.keep A2.out kc) (RdV.keep A3 kb))
  replace HZ := Lib.hid (HZ.out.keep kc id)
  replace gK := Lib.hid (keepN gK kb)
  replace gs := Nat.le_trans gs kb.size
  clear x3 y3 z3 k1 kb kc bb A0 A1 A2 A3 HF HR
  unfold askV at *
  go_wp2_with fail
  refine HE.out.mono ?_
  rintro e w5 (⟨rfl, f, q, v, hst, hP⟩ | ⟨rfl, hst, ⟨q, hq⟩, hB⟩)
  · rw [hst] at HD
    have hsm := smF_of hst hP.own
    have HC := Lib.hid (check_any v f w5 hP.own.fn hsm _ rfl)
    have kk := (gK.out.mono (O' := fun k => k = br) (fun _ hf _ => hf.elim)).trans hP.keep (fun k e hk => e.elim (fun e => by omega) id)
    have bz5 := HZ.out.keep hP.keep (fun e => e.elim (fun e => by omega) (fun e => by omega))
    have hO5 := hP.own.mono (P' := fun k => w.heap.size < k) (fun k hk _ => by unfold Fresh at hk; have := gs; omega)
    have hat5 := hP.at_
    have hF5 := hP.blk
    have hpl : ∀ (k : Nat), Ob k → ¬ k = w.heap.size := fun k hk e => by have := HOb.out k hk; omega
    obtain ⟨d0, d1, d2, d3, d4⟩ := blk5 hF5
    have HX := Lib.hid (And.intro kk (And.intro bz5 (And.intro hO5 (And.intro hat5 hF5))))
    have HPL := Lib.hid hpl
    clear HE hst hP hsm kk bz5 hO5 hat5 hF5 gK HZ HOb gs hsz hbr hpl
    obtain ⟨S, A, na, ca, B, nb, cb, L, nl, cl, D, nd, cd⟩ := v
    unfold FV.val FV.cells at *
    dsimp only at *
    cases ho : okF f
    · rw [chkF_no ho] at HC
      have HM : Hid (decF l p = none) := HD.out.trans (ifF_no ho)
      clear HD ho
      go_wp2_with fail
      refine HC.out.mono ?_
      rintro e w6 ⟨rfl, k6⟩
      obtain ⟨kk, bz5, hO5, hat5, hF5⟩ := HX.out
      have bz6 := bz5.keep k6 id
      have kk6 := kk.trans k6 (fun _ h _ => h.elim)
      have hat6 := hat5.keep k6 (fun _ _ => id)
      obtain ⟨z0, z1, z2, z3, z4⟩ := blk5 (v := nilV) bz6
      have fz := fun i => bz6.frozen i
      have HB := Lib.hid (blk_put5 bz6 nilV)
      have HK6 := Lib.hid (kk6.trans (keep_at5 w6 w.heap.size nilV) (fun k e hk => by omega))
      have HA6 := Lib.hid (hat6.keep (keep_at5 w6 w.heap.size nilV) HPL.out)
      unfold nilV at z0 z1 z2 z3 z4
      dsimp only at z0 z1 z2 z3 z4
      clear kk bz5 hO5 hat5 hF5 bz6 kk6 hat6 k6 HX HC d0 d1 d2 d3 d4 HPL
      go_wp2
      refine bodyPost_ret (ret_funE (v := nilV) rfl rfl HB.out rfl) rfl ?_
      exact .inl ⟨HM.out, rfl, ⟨_, HA6.out⟩, HK6.out⟩
    · rw [chkF_ok ho] at HC
      have HM : Hid (decF l p = some (f, q)) := HD.out.trans (ifF_ok ho)
      clear HD ho
      go_wp2_with fail
      refine HC.out.mono ?_
      rintro e w6 ⟨rfl, k6⟩
      obtain ⟨kk, bz5, hO5, hat5, hF5⟩ := HX.out
      have bz6 := bz5.keep k6 id
      have hF6 := hF5.keep k6 id
      have kk6 := kk.trans k6 (fun _ h _ => h.elim)
      have hat6 := hat5.keep k6 (fun _ _ => id)
      have hO6 := hO5.keepN k6
      clear d0 d1 d2 d3 d4
      obtain ⟨z0, z1, z2, z3, z4⟩ := blk5 (v := nilV) bz6
      obtain ⟨d0, d1, d2, d3, d4⟩ := blk5 (v := ⟨S, A, na, ca, B, nb, cb, L, nl, cl, D, nd, cd⟩) hF6
      have fz := fun i => bz6.frozen i
      have HB := Lib.hid (blk_put5 bz6 ⟨S, A, na, ca, B, nb, cb, L, nl, cl, D, nd, cd⟩)
      have HK6 := Lib.hid (kk6.trans (keep_at5 w6 w.heap.size ⟨S, A, na, ca, B, nb, cb, L, nl, cl, D, nd, cd⟩) (fun k e hk => by omega))
      have HA6 := Lib.hid (hat6.keep (keep_at5 w6 w.heap.size ⟨S, A, na, ca, B, nb, cb, L, nl, cl, D, nd, cd⟩) HPL.out)
      have HO6 : Hid (OwnF (put5 w6 w.heap.size ⟨S, A, na, ca, B, nb, cb, L, nl, cl, D, nd, cd⟩) (Fresh w) ⟨S, A, na, ca, B, nb, cb, L, nl, cl, D, nd, cd⟩ f) := (hO6.keep (keep_at5 w6 w.heap.size ⟨S, A, na, ca, B, nb, cb, L, nl, cl, D, nd, cd⟩) (fun k hk e => by omega)).mono (fun k hk _ => by unfold Fresh; omega)
      unfold nilV at z0 z1 z2 z3 z4
      dsimp only at z0 z1 z2 z3 z4 d0 d1 d2 d3 d4
      clear kk bz5 hO5 hat5 hF5 bz6 kk6 hat6 k6 HX HC HPL hO6 hF6
      go_wp2
      refine bodyPost_ret (ret_funE (v := ⟨S, A, na, ca, B, nb, cb, L, nl, cl, D, nd, cd⟩) rfl rfl HB.out rfl) rfl ?_
      exact .inr ⟨f, q, _, HM.out, rfl, HO6.out, HA6.out, HK6.out⟩
  · rw [hst] at HD
    have kk := (gK.out.mono (O' := fun k => k = br) (fun _ hf _ => hf.elim)).trans hB (fun k e hk => e.elim (fun e => by omega) id)
    have bz6 := HZ.out.keep hB (fun e => e.elim (fun e => by omega) (fun e => by omega))
    have HM : Hid (decF l p = none) := HD.out
    obtain ⟨z0, z1, z2, z3, z4⟩ := blk5 (v := nilV) bz6
    have fz := fun i => bz6.frozen i
    have HB := Lib.hid (blk_put5 bz6 nilV)
    have HK6 := Lib.hid (kk.trans (keep_at5 w5 w.heap.size nilV) (fun k e hk => by omega))
    have HA6 := Lib.hid (hq.keep (keep_at5 w5 w.heap.size nilV) (fun k hk e => by have := HOb.out k hk; omega))
    unfold nilV at z0 z1 z2 z3 z4
    dsimp only at z0 z1 z2 z3 z4
    clear kk bz6 HD HE hst hq hB gK HZ HOb gs hsz hbr
    go_wp2
    refine bodyPost_ret (ret_funE (v := nilV) rfl rfl HB.out rfl) rfl ?_
    exact .inl ⟨HM.out, rfl, ⟨_, HA6.out⟩, HK6.out⟩

end Go.Proofs.YtbnekeomdhljhaaGreatDoor.F

namespace Go.Proofs.YtbnekeomdhljhaaGreatDoor.V
open Go.ChangeShapes Go.WideShapes Go.ChangeAt Go.RowKit

theorem cellsU8 : Tryz.prog.cellsOf 5 = 1 := by kernel_rfl

theorem u8_bounds {n : Int} (h : (Lit.int .u8 n).wf = true) : 0 ≤ n ∧ n < 256 := by
  have hmin : IntKind.u8.min = 0 := rfl
  have hmax : IntKind.u8.max = 255 := rfl
  simp only [Lit.wf, Bool.and_eq_true, decide_eq_true_eq] at h
  omega

/-- The bytes of a list of numbers that fit bytes. -/
def toU8 (zs : List Int) : List UInt8 := zs.map fun z => UInt8.ofNat z.toNat
theorem bvs_toU8 (zs : List Int) (h : ∀ n ∈ zs, (Lit.int .u8 n).wf = true) : bvs (toU8 zs) = zs.map (Value.int .u8) := by
  unfold bvs toU8
  rw [List.map_map]
  apply List.map_congr_left
  intro z hz
  obtain ⟨h0, h1⟩ := u8_bounds (h z hz)
  show Value.int .u8 (((UInt8.ofNat z.toNat).toNat : Nat) : Int) = _
  rw [UInt8.toNat_ofNat', Nat.mod_eq_of_lt (show z.toNat < 2 ^ 8 by omega)]
  congr 1
  omega

set_option maxRecDepth 100000 in
theorem read_bytes {H : Type} {enc : TypeId × Value → H} {W : World} {base : Nat} {spare : Nat → Bool} {held : Bool} {fuel : Nat} {cs : List Value} {x : DataW H × List MemPlace}
    (h : DataW.trod enc Tryz.prog W base spare held fuel 28 cs = some x) : ∃ A l c, cs = [.slice A l.length c] ∧ Rd W A l ∧ l.length ≤ c ∧ c ≤ maxLen := by
  rcases open_ints Tryz.underlying28 Tryz.underlying5 cellsU8 h with ⟨hcs, _⟩ | ⟨a, len, cap, zs, hcs, _, hl, hm, hz, _, hcell, hwz⟩
  · exact ⟨none, [], 0, hcs, Rd.none_ _ _, Nat.le_refl _, Nat.zero_le _⟩
  · have hzl : len ≤ zs.length := by rw [hz]; split <;> omega
    have hlen : (toU8 (zs.take len)).length = len := by simp [toU8]; omega
    refine ⟨some a, toU8 (zs.take len), cap, by rw [hlen]; exact hcs, fun _ => ⟨a, rfl, fun j u hu => ?_⟩, by rw [hlen]; exact hl, hm⟩
    rw [bvs_toU8 _ (fun n hn => hwz n (List.mem_of_mem_take hn))] at hu
    obtain ⟨hj, hju⟩ := List.getElem?_eq_some_iff.1 hu
    have hj' : j < len := by simp at hj; omega
    have hc := hcell j (by omega)
    rw [hc]
    simp at hju
    rw [← hju]
    simp [List.getD, List.getElem?_eq_getElem (show j < zs.length by omega)]

section
variable {H : Type} {enc : TypeId × Value → H} {w : World} {base b0 : Nat} {spare : Nat → Bool} {held : Bool} {r : Reach} {v : Value} {d : DataW H} {p : List MemPlace}
set_option maxRecDepth 100000 in
theorem open_bytes (hv : Value.okWide Tryz.prog w r b0 28 v) (h : DataW.Trod enc Tryz.prog w base spare held 28 v d p) : ∃ A l c, v = .slice A l.length c ∧ Rd w A l ∧ l.length ≤ c ∧ c ≤ maxLen := by
  obtain ⟨a0, len, cap, rfl⟩ := okWide_slice Tryz.underlying28 hv
  obtain ⟨fuel, hf⟩ := h
  obtain ⟨A, l, c, hcs, hr, hc, hm⟩ := read_bytes hf
  simp only [Value.cells, List.cons.injEq, Value.slice.injEq, and_true] at hcs
  obtain ⟨rfl, rfl, rfl⟩ := hcs
  exact ⟨_, l, _, rfl, hr, hc, hm⟩
end

end Go.Proofs.YtbnekeomdhljhaaGreatDoor.V

namespace Go.Proofs.YtbnekeomdhljhaaGreatDoor.F
open Go.RowKit Go.ChangeShapes Go.WideShapes W

theorem sm_own {W W0 : World} {P : Nat → Prop} {o v : FV} {f : Fu} (ho : OwnF W P o f) (h : FnAt W0 v f) (hs : SmF v) : SmF o := by
  have h1 := ho.fn
  have e0 := sz_len h1.nm
  have e1 := sz_len h.nm
  exact ⟨by have := hs.sz; omega, by have := hs.na; have := h1.la; have := h.la; omega, by have := hs.nb; have := h1.lb; have := h.lb; omega, by have := hs.nl; have := h1.ll; have := h.ll; omega, by have := hs.nd; have := h1.ld; have := h.ld; omega⟩
theorem sm_ok {W : World} {P : Nat → Prop} {v : FV} {f : Fu} (ho : OwnF W P v f) (hf : okF f = true) : SmF v := by
  obtain ⟨h1, h2, _, h4, h5⟩ := (okF_iff f).1 hf
  have h6 := ((okN_iff _).1 h1).1
  have h7 := (C.okB_parts h4).2.1
  have hn := ho.fn
  have e0 := sz_len hn.nm
  have := hn.la
  have := hn.lb
  have := hn.ll
  have := hn.ld
  exact ⟨by omega, by omega, by omega, by omega, by omega⟩
theorem sm_nil : SmF nilV := ⟨Nat.zero_le _, Nat.zero_le _, Nat.zero_le _, Nat.zero_le _, Nat.zero_le _⟩
theorem own_rdB {w : World} {O : Nat → Prop} {v : Value} {l : List UInt8} (h : V.OwnB w O v l) : ∃ A c, v = .slice A l.length c ∧ V.Rd w A l ∧ (∀ ad, A = some ad → ad.block < w.heap.size) := S.own_rd h

set_option maxRecDepth 100000 in
/-- An argument's slice lies in a block that there is. -/
theorem slice_block {W : World} {b0 len cap : Nat} {A : Option Addr} (hv : Value.okWide Tryz.prog W .any b0 28 (.slice A len cap)) : ∀ ad, A = some ad → ad.block < W.heap.size := by
  rintro ad rfl
  simp only [Value.okWide, Tryz.underlying28, Cell.okWide, Cell.ok] at hv
  obtain ⟨_, _, _, _, row, cells, hs, _⟩ := hv
  unfold World.shape? at hs
  rcases Nat.lt_or_ge ad.block W.heap.size with h | h
  · exact h
  · rw [Array.getElem?_eq_none h] at hs; cases hs

end Go.Proofs.YtbnekeomdhljhaaGreatDoor.F

namespace Go.Proofs.YtbnekeomdhljhaaGreatDoor.F
open Go.RowKit W

set_option maxRecDepth 100000 in
set_option maxHeartbeats 4000000 in
theorem rnamed_any (S : ByteArray) (s : List UInt8) (w : World) (hs : Hid (S.data.toList = s)) (hm : S.size ≤ 9223372036854775807) (R : Int) (hR : Hid (chkN s = R)) :
    Calls Tryz.prog 17 #[.string S] w fun e w' => e = .returned (.int .i64 R) ∧ w = w' := by
  have HZ : Hid (S.size = s.length) := sz_len hs.out
  have HL := Lib.hid (fun (c : UInt8) (w : World) => rletter_any c w)
  by_cases h0 : S.size = 0
  · obtain rfl : 71 = R := by rw [← hR.out]; exact (chkN_no (by rw [List.length_eq_zero_iff.1 (HZ.out.symm.trans h0)]; rfl)).symm
    clear hR
    have hq0 : (S.size : Int) < 1 := by omega
    go_enter Tryz.func17, Tryz.ntmps17
    go_wp2
    go_ret
    exact ⟨rfl, rfl⟩
  have hq0 : ¬ (S.size : Int) < 1 := by omega
  by_cases h1 : 32 < S.size
  · obtain rfl : 71 = R := by rw [← hR.out]; exact (chkN_no (okN_long (by rw [← HZ.out]; omega))).symm
    clear hR
    go_enter Tryz.func17, Tryz.ntmps17
    go_wp2
    go_ret
    exact ⟨rfl, rfl⟩
  have hp : 0 < S.size := by omega
  have HH : Hid (headB s = letB (S[0]'hp)) := by show _ = _; rw [str_at hs.out hp (by rw [← HZ.out]; omega)]; exact headB_at _
  go_enter Tryz.func17, Tryz.ntmps17
  go_wp2
  go_loop [3] (fun i => ∃ k : Nat, k ≤ S.size ∧ i = .int .i64 k ∧ Hid ((s.take k).all inB = true ∧ (0 < k → headB s = true))) (fun i => S.size - (intOf i).toNat)
  case atStart => exact ⟨0, Nat.zero_le _, rfl, rfl, fun h => absurd h (by omega)⟩
  case round =>
    obtain ⟨k, hk, rfl, ht⟩ := hrel
    by_cases hlt : k < S.size
    · have hks : k < s.length := by rw [← HZ.out]; exact hlt
      have HE := Lib.hid (str_at hs.out hlt hks)
      have HA := Lib.hid (fun w => HL.out (S[k]'hlt) w)
      have HI : Hid (inB s[k] = (letB (S[k]'hlt) || digB (S[k]'hlt))) := by show _ = _; rw [HE.out]; rfl
      have HT := Lib.hid (fun h => in_step hks ht.out.1 h)
      have HN := Lib.hid (fun h => in_no hks h)
      have HDG := Lib.hid (digB_iff (S[k]'hlt))
      have HK : Hid (k = 0 → headB s = letB (S[k]'hlt)) := fun e => by subst e; exact HH.out
      have HK2 := Lib.hid ht.out.2
      clear HH ht HE
      cases hl : letB (S[k]'hlt)
      · rw [hl] at HA HI HK
        by_cases hk0 : k = 0
        · obtain rfl : 71 = R := by rw [← hR.out]; exact (chkN_no (okN_head (HK.out hk0))).symm
          have hqk : ((k : Int) == 0) = true := by rw [beq_iff_eq]; omega
          clear hR HT HN HI HK HK2 hl HDG hk0
          by_cases g1 : ((S[k]'hlt).toNat : Int) < 48
          · go_wp2_with (go_at_call 66; refine (HA.out _).mono ?_; rintro e w2 ⟨rfl, rfl⟩)
            go_ret
            exact ⟨rfl, rfl⟩
          · by_cases g2 : ((S[k]'hlt).toNat : Int) ≤ 57
            · have g1 : (48 : Int) ≤ ((S[k]'hlt).toNat : Int) := by omega
              go_wp2_with (go_at_call 66; refine (HA.out _).mono ?_; rintro e w2 ⟨rfl, rfl⟩)
              go_ret
              exact ⟨rfl, rfl⟩
            · have g1 : (48 : Int) ≤ ((S[k]'hlt).toNat : Int) := by omega
              go_wp2_with (go_at_call 66; refine (HA.out _).mono ?_; rintro e w2 ⟨rfl, rfl⟩)
              go_ret
              exact ⟨rfl, rfl⟩
        · have hqk : ((k : Int) == 0) = false := by rw [beq_eq_false_iff_ne]; omega
          cases hd : digB (S[k]'hlt)
          · rw [hd] at HI HDG
            obtain rfl : 71 = R := by rw [← hR.out]; exact (chkN_no (okN_in (HN.out HI.out))).symm
            have hdg : ¬ (48 ≤ (S[k]'hlt).toNat ∧ (S[k]'hlt).toNat ≤ 57) := fun h => by have := HDG.out.2 h; cases this
            clear hR HT HN HI HK HK2 hl hd HDG
            by_cases g1 : ((S[k]'hlt).toNat : Int) < 48
            · clear hdg
              go_wp2_with (go_at_call 66; refine (HA.out _).mono ?_; rintro e w2 ⟨rfl, rfl⟩)
              go_ret
              exact ⟨rfl, rfl⟩
            · have g2 : ¬ ((S[k]'hlt).toNat : Int) ≤ 57 := by omega
              have g3 : (!decide (((S[k]'hlt).toNat : Int) ≤ 57)) = true := by rw [decide_eq_false g2]; rfl
              have g4 : (48 : Int) ≤ ((S[k]'hlt).toNat : Int) := by omega
              clear hdg
              go_wp2_with (go_at_call 66; refine (HA.out _).mono ?_; rintro e w2 ⟨rfl, rfl⟩)
              go_ret
              exact ⟨rfl, rfl⟩
          · rw [hd] at HI HDG
            have HV := Lib.hid (HT.out HI.out)
            obtain ⟨g1', g2'⟩ := HDG.out.1 rfl
            have g1 : ¬ ((S[k]'hlt).toNat : Int) < 48 := by omega
            have g2 : ((S[k]'hlt).toNat : Int) ≤ 57 := by omega
            clear g1' g2'
            have HK3 := Lib.hid (HK2.out (by omega))
            clear HT HN HI HK HK2 hl hd HDG
            go_wp2_with (go_at_call 66; refine (HA.out _).mono ?_; rintro e w2 ⟨rfl, rfl⟩)
            go_round
            case rel => exact ⟨k + 1, by omega, by go_num, HV.out, fun _ => HK3.out⟩
            case measure => simp [intOf]; omega
      · rw [hl] at HA HI HK
        have HV := Lib.hid (HT.out (by rw [HI.out]; rfl))
        have HK3 : Hid (headB s = true) := by
          rcases Nat.eq_zero_or_pos k with h | h
          · exact HK.out h
          · exact HK2.out h
        clear HT HN HI HK HK2 hl HDG
        by_cases g1 : ((S[k]'hlt).toNat : Int) < 48
        · go_wp2_with (go_at_call 66; refine (HA.out _).mono ?_; rintro e w2 ⟨rfl, rfl⟩)
          go_round
          case rel => exact ⟨k + 1, by omega, by go_num, HV.out, fun _ => HK3.out⟩
          case measure => simp [intOf]; omega
        · by_cases g2 : ((S[k]'hlt).toNat : Int) ≤ 57
          · go_wp2_with (go_at_call 66; refine (HA.out _).mono ?_; rintro e w2 ⟨rfl, rfl⟩)
            go_round
            case rel => exact ⟨k + 1, by omega, by go_num, HV.out, fun _ => HK3.out⟩
            case measure => simp [intOf]; omega
          · go_wp2_with (go_at_call 66; refine (HA.out _).mono ?_; rintro e w2 ⟨rfl, rfl⟩)
            go_round
            case rel => exact ⟨k + 1, by omega, by go_num, HV.out, fun _ => HK3.out⟩
            case measure => simp [intOf]; omega
    · obtain rfl : 0 = R := by
        rw [← hR.out]
        have e1 := ht.out.1
        rw [List.take_of_length_le (by rw [← HZ.out]; omega)] at e1
        exact (chkN_ok ((okN_iff s).2 ⟨by rw [← HZ.out]; omega, ht.out.2 (by omega), e1⟩)).symm
      clear hR ht HH
      go_wp2
      go_ret
      exact ⟨rfl, rfl⟩

end Go.Proofs.YtbnekeomdhljhaaGreatDoor.F

namespace Go.Proofs.YtbnekeomdhljhaaGreatDoor.F
open Go.RowKit W

/-- Behind an append: the row, and what stays, above a block. -/
theorem above_after {w W W' : World} {E size n b : Nat} {v v' : Value} {xs : List Value} (ho : ∀ g, v.ownBlock = some g → b < g) (hb : w.heap.size ≤ b) (hK : Keep NoB w W) (hbW : b < W.heap.size) (hg : W.grownBy W' v.ownBlock)
    (hv : v'.ownBlock = v.ownBlock ∨ v'.ownBlock = some W.heap.size) (hrow : W'.ownsRow 0 E size v' n xs) : Own W' E size (fun k => b < k) v' n xs ∧ Keep NoB w W' ∧ Keep (fun k => b < k) W W' := by
  refine ⟨⟨hrow, fun g e => ?_⟩, hK.grown hg (fun g e h => by have := ho g e; omega), (Keep.refl _ W).grown hg (fun g e _ => ho g e)⟩
  rcases hv with h | h
  · exact ho g (h ▸ e)
  · rw [h] at e; cases e; exact hbW

theorem rd_ltN {W : World} {A : Option Addr} {xs : List Value} (h : Rd W A xs) {ad : Addr} (e : A = some ad) (h0 : 0 < xs.length) : ad.block < W.heap.size := by
  obtain ⟨g, off, e2, hc⟩ := h h0
  rw [e] at e2
  injection e2 with e2
  subst e2
  exact World.block_lt_of_cell? W _ (hc 0 _ (List.getElem?_eq_getElem h0))
theorem rd_above {W W' : World} {O : Nat → Prop} {A : Option Addr} {xs : List Value} (h : Rd W A xs) (hA : ∀ ad, A = some ad → 0 < xs.length → ¬ O ad.block) (hk : Keep O W W') : Rd W' A xs := fun h0 => by
  obtain ⟨g, off, e, hc⟩ := h h0
  exact ⟨g, off, e, fun j u hu => hk.cell (hc j u hu) (show ¬ O g from hA _ e h0)⟩

set_option maxRecDepth 100000 in
set_option maxHeartbeats 8000000 in
theorem rtypes_any (v : FV) (f : Fu) (w : World) (h : FnAt w v f) (hs : SmF v) :
    Calls Tryz.prog 76 #[v.val] w fun e w' => ∃ u, e = .returned u ∧ Own w' 3 1 (Fresh w) u (sl f).length (ivs (sl f)) ∧ Keep NoB w w' := by
  obtain ⟨i0, hi, hz0, hz1, hz2⟩ := info_parts int_info
  have bx := Blk.new w 27 v.cells
  have k0 := (Keep.refl NoB w).alloc (.cells v.cells 27)
  have HF := Lib.hid (h.keepN k0)
  have HF0 := Lib.hid h
  have hl : (sl f).length = v.na + v.nb + v.nl := by rw [sl_length, h.la, h.lb, h.ll]
  have hsl : ivs (sl f) = (ivs f.ar ++ ivs f.rs) ++ ivs f.lc := by unfold sl; simp
  rw [hl, hsl]
  have HA1 := Lib.hid (show (ivs f.ar).length = v.na * 1 by simp [h.la])
  have HB1 := Lib.hid (show (ivs f.rs).length = v.nb * 1 by simp [h.lb])
  have HL1 := Lib.hid (show (ivs f.lc).length = v.nl * 1 by simp [h.ll])
  have HA2 := Lib.hid (ivs_one f.ar)
  have HB2 := Lib.hid (ivs_one f.rs)
  have HL2 := Lib.hid (ivs_one f.lc)
  obtain ⟨q1, q2, q3, q4, q5⟩ := hs
  obtain ⟨s0, A, na, ca, B, nb, cb, L, nl, cl, D, nd, cd⟩ := v
  unfold FV.val FV.cells at *
  dsimp only at HA1 HB1 HL1 q1 q2 q3 q4 q5
  clear h hl hsl
  obtain ⟨c0, c1, c2, c3, c4⟩ := blk5 (v := ⟨s0, A, na, ca, B, nb, cb, L, nl, cl, D, nd, cd⟩) bx
  dsimp only at c0 c1 c2 c3 c4
  generalize hxa : ivs f.ar = xa at HA1 HA2
  generalize hxb : ivs f.rs = xb at HB1 HB2
  generalize hxl : ivs f.lc = xl at HL1 HL2
  have HRA : Hid (Rd (w.alloc (.cells #[.string s0, .slice A na ca, .slice B nb cb, .slice L nl cl, .slice D nd cd] 27)) A xa) := hxa ▸ HF.out.ra
  have HRB : Hid (Rd (w.alloc (.cells #[.string s0, .slice A na ca, .slice B nb cb, .slice L nl cl, .slice D nd cd] 27)) B xb) := hxb ▸ HF.out.rb
  have HRL : Hid (Rd (w.alloc (.cells #[.string s0, .slice A na ca, .slice B nb cb, .slice L nl cl, .slice D nd cd] 27)) L xl) := hxl ▸ HF.out.rl
  have hsz : w.heap.size < (w.alloc (.cells #[.string s0, .slice A na ca, .slice B nb cb, .slice L nl cl, .slice D nd cd] 27)).heap.size := by simp
  have hRLb : ∀ ad, L = some ad → 0 < xl.length → ¬ (w.heap.size < ad.block) := fun ad e h0 => by
    have h1 := rd_ltN HF0.out.rl e (by rw [hxl]; exact h0)
    omega
  clear hxa hxb hxl HF HF0
  go_enter Tryz.func76, Tryz.ntmps76
  generalize hw1 : w.alloc (.cells #[.string s0, .slice A na ca, .slice B nb cb, .slice L nl cl, .slice D nd cd] 27) = w1 at bx k0 HRA HRB HRL c0 c1 c2 c3 c4 hsz
  go_wp2_with (first
    | (at_builtin; refine wpList_append_rd _ rfl (.tmp 4) (.tmp 7) _ rfl 3 1 8 i0 _ Tryz.underlying22 hi hz0 hz1 hz2 rfl (by decide) (.slice none 0 0) 0 [] A na ca xa rfl (World.ownsRow_nil _ _ _ _) rfl HRA.out HA1.out HA2.out (by unfold maxLen; omega) (by omega) ?_; intro A5 c5 w5 hrow5 hg5 hv5; rw [Nat.zero_add] at hrow5 hv5 ⊢; rw [List.nil_append] at hrow5; clear hw1; obtain ⟨hO5, hK5, hk5⟩ := above_after (w := w) (b := w.heap.size) (fun g e => by cases e) (Nat.le_refl _) k0 hsz hg5 hv5 hrow5; have bx5 := bx.keep hk5 (Nat.lt_irrefl _); have HRB5 := Lib.hid (HRB.out.keepN ((Keep.refl NoB w1).grown hg5 (fun g e _ => by cases e))); have HRL5 := Lib.hid (HRL.out.keepN ((Keep.refl NoB w1).grown hg5 (fun g e _ => by cases e))); have hz5 := hg5.size; clear hrow5 hg5 hv5 hk5 k0 c0 c1 c2 c3 c4 bx; obtain ⟨c0, c1, c2, c3, c4⟩ := blk5 (v := ⟨s0, A, na, ca, B, nb, cb, L, nl, cl, D, nd, cd⟩) bx5; dsimp only at c0 c1 c2 c3 c4)
    | (at_builtin; refine wpList_append_rd _ rfl (.tmp 9) (.tmp 12) _ rfl 3 1 8 i0 _ Tryz.underlying22 hi hz0 hz1 hz2 rfl (by decide) (.slice A5 na c5) (na) (xa) B nb cb xb rfl hO5.1 rfl HRB5.out HB1.out HB2.out (by unfold maxLen; omega) (by omega) ?_; intro A6 c6 w6 hrow6 hg6 hv6; obtain ⟨hO6, hK6, hk6⟩ := above_after (w := w) (b := w.heap.size) hO5.2 (Nat.le_refl _) hK5 (Nat.lt_of_lt_of_le hsz hz5) hg6 hv6 hrow6; have bx6 := bx5.keep hk6 (Nat.lt_irrefl _); have hz6 := Nat.le_trans hz5 hg6.size; have HRL6 := Lib.hid (rd_above HRL5.out hRLb hk6); clear hrow6 hg6 hv6 c0 c1 c2 c3 c4 bx5; obtain ⟨c0, c1, c2, c3, c4⟩ := blk5 (v := ⟨s0, A, na, ca, B, nb, cb, L, nl, cl, D, nd, cd⟩) bx6; dsimp only at c0 c1 c2 c3 c4)
    | (at_builtin; refine wpList_append_rd _ rfl (.tmp 14) (.tmp 16) _ rfl 3 1 8 i0 _ Tryz.underlying22 hi hz0 hz1 hz2 rfl (by decide) (.slice A6 (na + nb) c6) (na + nb) (xa ++ xb) L nl cl xl rfl hO6.1 rfl HRL6.out HL1.out HL2.out (by unfold maxLen; omega) (by omega) ?_; intro A7 c7 w7 hrow7 hg7 hv7; obtain ⟨hO7, hK7, hk7⟩ := above_after (w := w) (b := w.heap.size) hO6.2 (Nat.le_refl _) hK6 (Nat.lt_of_lt_of_le hsz hz6) hg7 hv7 hrow7; have bx7 := bx6.keep hk7 (Nat.lt_irrefl _); have hz7 := Nat.le_trans hz6 hg7.size; clear hrow7 hg7 hv7 c0 c1 c2 c3 c4 bx6; obtain ⟨c0, c1, c2, c3, c4⟩ := blk5 (v := ⟨s0, A, na, ca, B, nb, cb, L, nl, cl, D, nd, cd⟩) bx7; dsimp only at c0 c1 c2 c3 c4))
  go_ret
  rw [List.append_assoc] at hO7
  exact ⟨_, rfl, hO7.mono (fun k hk _ => Nat.le_of_lt hk), hK7⟩


set_option maxRecDepth 100000 in
set_option maxHeartbeats 8000000 in
theorem rcheck_any (v : FV) (f : Fu) (w : World) (h : FnAt w v f) (hs : SmF v) (R : Int) (hR : Hid (chkF f = R)) :
    Calls Tryz.prog 19 #[v.val] w fun e w' => e = .returned (.int .i64 R) ∧ Keep NoB w w' := by
  have bx := Blk.new w 27 v.cells
  have k0 := (Keep.refl NoB w).alloc (.cells v.cells 27)
  have HF := Lib.hid (h.keepN k0)
  have HX := Lib.hid bx
  have HN := Lib.hid (fun w (R : Int) hR => rnamed_any v.S f.nm w h.nm (by have := hs.sz; omega) R hR)
  have HG := Lib.hid (fun w1 (hk : Keep NoB (w.alloc (.cells v.cells 27)) w1) (R : Int) hR => S.rchkG_any v.A f.ar v.na v.ca v.B f.rs v.nb v.cb w1 (HF.out.keepN hk).ra (HF.out.keepN hk).rb h.la h.lb (by have := hs.na; omega) (by have := hs.nb; omega) R hR)
  have HB := Lib.hid (fun w1 (hk : Keep NoB (w.alloc (.cells v.cells 27)) w1) (R : Int) hR => C.rcchk_any v.D f.bd v.nd v.cd w1 (HF.out.keepN hk).rd h.ld h.hI (by have := hs.nd; omega) R hR)
  have HT := Lib.hid (fun w1 (hk : Keep NoB (w.alloc (.cells v.cells 27)) w1) => rtypes_any v f w1 (HF.out.keepN hk) hs)
  have hlen : (sl f).length = v.na + v.nb + v.nl := by rw [sl_length, h.la, h.lb, h.ll]
  rw [hlen] at HT
  have HLL := Lib.hid h.ll
  have HLN : Hid (f.ar.length + f.rs.length + f.lc.length = v.na + v.nb + v.nl) := by show _ = _; rw [h.la, h.lb, h.ll]
  have HRL := Lib.hid (fun w1 (hk : Keep NoB (w.alloc (.cells v.cells 27)) w1) => (HF.out.keepN hk).rl)
  obtain ⟨q1, q2, q3, q4, q5⟩ := hs
  obtain ⟨s0, A, na, ca, B, nb, cb, L, nl, cl, D, nd, cd⟩ := v
  unfold FV.val FV.cells at *
  dsimp only at HN HG HB HT HLL HLN q2 q3 q4 HRL
  clear bx h HF hlen
  cases h1 : okN f.nm
  · have HN2 := Lib.hid (fun w => HN.out w 71 (chkN_no h1))
    obtain rfl : 70 = R := by rw [← hR.out]; exact (chkF_no (okF_not (by rw [h1]; simp))).symm
    clear HN hR h1
    go_enter Tryz.func19, Tryz.ntmps19
    obtain ⟨c0, c1, c2, c3, c4⟩ := blk5 (v := ⟨s0, A, na, ca, B, nb, cb, L, nl, cl, D, nd, cd⟩) HX.out
    dsimp only at c0 c1 c2 c3 c4
    go_wp2_with fail
    refine (HN2.out _).mono ?_
    rintro e w1 ⟨rfl, rfl⟩
    go_wp2
    go_ret
    exact ⟨rfl, k0⟩
  have HN2 := Lib.hid (fun w => HN.out w 0 (chkN_ok h1))
  cases h2 : S.okG f.ar f.rs
  · have HG2 := Lib.hid (fun w hk => HG.out w hk 61 (S.chkG_no h2))
    obtain rfl : 70 = R := by rw [← hR.out]; exact (chkF_no (okF_not (by rw [h2]; simp))).symm
    clear HN HG hR h1 h2
    go_enter Tryz.func19, Tryz.ntmps19
    obtain ⟨c0, c1, c2, c3, c4⟩ := blk5 (v := ⟨s0, A, na, ca, B, nb, cb, L, nl, cl, D, nd, cd⟩) HX.out
    dsimp only at c0 c1 c2 c3 c4
    go_wp2_with fail
    refine (HN2.out _).mono ?_
    rintro e w1 ⟨rfl, rfl⟩
    clear c0 c1 c2 c3 c4
    obtain ⟨c0, c1, c2, c3, c4⟩ := blk5 (v := ⟨s0, A, na, ca, B, nb, cb, L, nl, cl, D, nd, cd⟩) HX.out
    dsimp only at c0 c1 c2 c3 c4
    go_wp2_with fail
    refine (HG2.out _ (Keep.refl _ _)).mono ?_
    rintro e w2 ⟨rfl, k1⟩
    go_wp2
    go_ret
    exact ⟨rfl, keepN k0 k1⟩
  have HG2 := Lib.hid (fun w hk => HG.out w hk 0 (S.chkG_ok h2))
  cases h4 : C.okB f.bd
  · have HB2 := Lib.hid (fun w hk => HB.out w hk 50 (C.chkB_no h4))
    obtain rfl : 70 = R := by rw [← hR.out]; exact (chkF_no (okF_not (by rw [h4]; simp))).symm
    clear HN HG HB hR h1 h2 h4
    go_enter Tryz.func19, Tryz.ntmps19
    obtain ⟨c0, c1, c2, c3, c4⟩ := blk5 (v := ⟨s0, A, na, ca, B, nb, cb, L, nl, cl, D, nd, cd⟩) HX.out
    dsimp only at c0 c1 c2 c3 c4
    go_wp2_with fail
    refine (HN2.out _).mono ?_
    rintro e w1 ⟨rfl, rfl⟩
    clear c0 c1 c2 c3 c4
    obtain ⟨c0, c1, c2, c3, c4⟩ := blk5 (v := ⟨s0, A, na, ca, B, nb, cb, L, nl, cl, D, nd, cd⟩) HX.out
    dsimp only at c0 c1 c2 c3 c4
    go_wp2_with fail
    refine (HG2.out _ (Keep.refl _ _)).mono ?_
    rintro e w2 ⟨rfl, k1⟩
    clear c0 c1 c2 c3 c4
    obtain ⟨c0, c1, c2, c3, c4⟩ := blk5 (v := ⟨s0, A, na, ca, B, nb, cb, L, nl, cl, D, nd, cd⟩) (HX.out.keep k1 id)
    dsimp only at c0 c1 c2 c3 c4
    go_wp2_with fail
    refine (HB2.out _ k1).mono ?_
    rintro e w3 ⟨rfl, k2⟩
    replace k1 := keepN k1 k2
    clear k2
    go_wp2
    go_ret
    exact ⟨rfl, keepN k0 k1⟩
  have HB2 := Lib.hid (fun w hk => HB.out w hk 0 (C.chkB_ok h4))
  by_cases h5 : 64 < na + nb + nl
  · obtain rfl : 70 = R := by rw [← hR.out]; exact (chkF_no (okF_not (by rw [HLN.out]; omega))).symm
    clear HN HG HB hR h1 h2 h4
    go_enter Tryz.func19, Tryz.ntmps19
    obtain ⟨c0, c1, c2, c3, c4⟩ := blk5 (v := ⟨s0, A, na, ca, B, nb, cb, L, nl, cl, D, nd, cd⟩) HX.out
    dsimp only at c0 c1 c2 c3 c4
    go_wp2_with fail
    refine (HN2.out _).mono ?_
    rintro e w1 ⟨rfl, rfl⟩
    clear c0 c1 c2 c3 c4
    obtain ⟨c0, c1, c2, c3, c4⟩ := blk5 (v := ⟨s0, A, na, ca, B, nb, cb, L, nl, cl, D, nd, cd⟩) HX.out
    dsimp only at c0 c1 c2 c3 c4
    go_wp2_with fail
    refine (HG2.out _ (Keep.refl _ _)).mono ?_
    rintro e w2 ⟨rfl, k1⟩
    clear c0 c1 c2 c3 c4
    obtain ⟨c0, c1, c2, c3, c4⟩ := blk5 (v := ⟨s0, A, na, ca, B, nb, cb, L, nl, cl, D, nd, cd⟩) (HX.out.keep k1 id)
    dsimp only at c0 c1 c2 c3 c4
    go_wp2_with fail
    refine (HB2.out _ k1).mono ?_
    rintro e w3 ⟨rfl, k2⟩
    replace k1 := keepN k1 k2
    clear k2
    clear c0 c1 c2 c3 c4
    obtain ⟨c0, c1, c2, c3, c4⟩ := blk5 (v := ⟨s0, A, na, ca, B, nb, cb, L, nl, cl, D, nd, cd⟩) (HX.out.keep k1 id)
    dsimp only at c0 c1 c2 c3 c4
    go_wp2_with fail
    refine (HT.out _ k1).mono ?_
    rintro e w4 ⟨u, rfl, hO, k2⟩
    obtain ⟨A4, c4', rfl, _, _, _, _⟩ := hO.form
    replace k1 := keepN k1 k2
    clear k2 hO
    go_wp2
    go_ret
    exact ⟨rfl, keepN k0 k1⟩
  have HO : Hid (f.lc.all knownB = true → chkF f = 0) := fun h3 => chkF_ok ((okF_iff f).2 ⟨h1, h2, h3, h4, by rw [HLN.out]; omega⟩)
  have HO2 : Hid (f.lc.all knownB = false → chkF f = 70) := fun h3 => chkF_no (okF_not (by rw [h3]; simp))
  clear HN HG HB h1 h2 h4
  go_enter Tryz.func19, Tryz.ntmps19
  obtain ⟨c0, c1, c2, c3, c4⟩ := blk5 (v := ⟨s0, A, na, ca, B, nb, cb, L, nl, cl, D, nd, cd⟩) HX.out
  dsimp only at c0 c1 c2 c3 c4
  go_wp2_with fail
  refine (HN2.out _).mono ?_
  rintro e w1 ⟨rfl, rfl⟩
  clear c0 c1 c2 c3 c4
  obtain ⟨c0, c1, c2, c3, c4⟩ := blk5 (v := ⟨s0, A, na, ca, B, nb, cb, L, nl, cl, D, nd, cd⟩) HX.out
  dsimp only at c0 c1 c2 c3 c4
  go_wp2_with fail
  refine (HG2.out _ (Keep.refl _ _)).mono ?_
  rintro e w2 ⟨rfl, k1⟩
  clear c0 c1 c2 c3 c4
  obtain ⟨c0, c1, c2, c3, c4⟩ := blk5 (v := ⟨s0, A, na, ca, B, nb, cb, L, nl, cl, D, nd, cd⟩) (HX.out.keep k1 id)
  dsimp only at c0 c1 c2 c3 c4
  go_wp2_with fail
  refine (HB2.out _ k1).mono ?_
  rintro e w3 ⟨rfl, k2⟩
  replace k1 := keepN k1 k2
  clear k2
  clear c0 c1 c2 c3 c4
  obtain ⟨c0, c1, c2, c3, c4⟩ := blk5 (v := ⟨s0, A, na, ca, B, nb, cb, L, nl, cl, D, nd, cd⟩) (HX.out.keep k1 id)
  dsimp only at c0 c1 c2 c3 c4
  go_wp2_with fail
  refine (HT.out _ k1).mono ?_
  rintro e w4 ⟨u, rfl, hO, k2⟩
  obtain ⟨A4, c4', rfl, _, _, _, _⟩ := hO.form
  replace k1 := keepN k1 k2
  clear k2 hO
  clear c0 c1 c2 c3 c4
  have HK1 := Lib.hid k1
  have HK0 := Lib.hid k0
  clear k1 k0 HN2 HG2 HB2 HT
  go_wp2
  go_loopw [3] (fun i wr => ∃ k : Nat, k ≤ nl ∧ i = .int .i64 (k : Int) ∧ Hid ((f.lc.take k).all knownB = true) ∧ Keep NoB (w.alloc (.cells #[.string s0, .slice A na ca, .slice B nb cb, .slice L nl cl, .slice D nd cd] 27)) wr) (fun i _ => nl - (intOf i).toNat)
  case atStart => exact ⟨0, Nat.zero_le _, rfl, rfl, HK1.out⟩
  case round =>
    obtain ⟨k, hk, rfl, ht, hK⟩ := hrel
    obtain ⟨c0, c1, c2, c3, c4⟩ := blk5 (v := ⟨s0, A, na, ca, B, nb, cb, L, nl, cl, D, nd, cd⟩) (HX.out.keep hK id)
    dsimp only at c0 c1 c2 c3 c4
    by_cases hlt : k < nl
    · have hkl : k < f.lc.length := by rw [HLL.out]; exact hlt
      obtain ⟨g, off, rfl, hc⟩ := rdI_at (HRL.out _ hK) (by omega)
      have ck := hc k hkl
      have HY := Lib.hid (fun h => S.all_step (p := knownB) hkl ht.out h)
      have HNO := Lib.hid (fun h => S.all_no (p := knownB) hkl h)
      have HKn := Lib.hid (fun w => rknown_any f.lc[k] w)
      clear hc ht
      generalize f.lc[k] = t at ck HY HNO HKn
      obtain ⟨b, hb⟩ : ∃ b, knownB t = b := ⟨_, rfl⟩
      rw [hb] at HY HNO HKn
      clear hb
      cases b
      · obtain rfl : 70 = R := by rw [← hR.out]; exact (HO2.out (HNO.out rfl)).symm
        clear hR HO HO2 HY HNO
        go_wp2_with (go_at_call 77; refine (HKn.out _).mono ?_; rintro e w9 ⟨rfl, rfl⟩)
        go_ret
        exact ⟨rfl, keepN HK0.out hK⟩
      · have HV := Lib.hid (HY.out rfl)
        clear hR HO HO2 HY HNO
        go_wp2_with (go_at_call 77; refine (HKn.out _).mono ?_; rintro e w9 ⟨rfl, rfl⟩)
        go_roundw
        case rel => exact ⟨k + 1, by omega, by go_num, HV, hK⟩
        case measure => simp [intOf]; omega
    · obtain rfl : 0 = R := by
        rw [← hR.out]
        have e1 := ht.out
        rw [List.take_of_length_le (by rw [HLL.out]; omega)] at e1
        exact (HO.out e1).symm
      clear hR HO HO2
      go_wp2
      go_ret
      exact ⟨rfl, keepN HK0.out hK⟩

end Go.Proofs.YtbnekeomdhljhaaGreatDoor.F

namespace Go.Proofs.YtbnekeomdhljhaaGreatDoor.O
open Go.RowKit Go.Shelf
attribute [local go_sem] Oper.semAt_some

/-- An operand that comes: its kind, its number, its functions. -/
structure Part where
  k : Int
  n : Int
  sh : Value
  gu : Value
def Part.key (x : Part) : Int × Int := (x.k, x.n)
abbrev partE (x : Part) : Array Value := #[opV x.k x.sh x.gu, .int .i64 x.n]
/-- The operands that there are. -/
def partsL (ka kb a b : Int) : List (Int × Int) := if ka = 0 then [] else if kb = 0 then [(ka, a)] else [(ka, a), (kb, b)]
/-- What is known of one that comes: its place, its functions. -/
def PartN (ka kb a b : Int) (pre : List Part) (x : Part) (W : World) : Prop := (∃ post, pre.map Part.key ++ x.key :: post = partsL ka kb a b) ∧ FnAt x.k x.sh x.gu W

theorem parts_0 {ka kb a b : Int} (h : ka = 0) : partsL ka kb a b = [] := by unfold partsL; rw [if_pos h]
theorem parts_1 {ka kb a b : Int} (h : ka ≠ 0) (h' : kb = 0) : partsL ka kb a b = [(ka, a)] := by unfold partsL; rw [if_neg h, if_pos h']
theorem parts_2 {ka kb a b : Int} (h : ka ≠ 0) (h' : kb ≠ 0) : partsL ka kb a b = [(ka, a), (kb, b)] := by unfold partsL; rw [if_neg h, if_neg h']

theorem run_index_nums (a b : Int) (w : World) : (Instr.index 237 (.agg #[.int .i64 a, .int .i64 b]) (.int .i64 0)).run Tryz.prog w = .ok (.int .i64 a) w ∧
    (Instr.index 237 (.agg #[.int .i64 a, .int .i64 b]) (.int .i64 1)).run Tryz.prog w = .ok (.int .i64 b) w := by
  have hs : (sizeOf 2).run Tryz.prog w = .ok 1 w := Tryz.sizeOf2 w
  unfold Instr.index
  constructor
  · simp [run_underlying Tryz.underlying237, asIntOf, hs, part]
  · simp [run_underlying Tryz.underlying237, asIntOf, hs, part]

set_option maxRecDepth 100000 in
set_option maxHeartbeats 4000000 in
theorem parts1_in (m : Nat) (q : Row) (op a b : Int) (Bx Br : Nat) (hka : 0 ≤ q.ka ∧ q.ka ≤ 10) (hkb : 0 ≤ q.kb ∧ q.kb ≤ 10) (I : List Part → World → Prop)
    (hbx : ∀ pre W, I pre W → Blk W Bx 74 #[.int .i64 op, .int .i64 a, .int .i64 b]) (hbr : ∀ pre W, I pre W → Blk W Br 200 (cells9 q)) :
    Brings Tryz.prog m (m + 1) 169 #[.pointer (some ⟨Bx, 0, none⟩), .pointer (some ⟨Br, 0, none⟩)] partE I (PartN q.ka q.kb a b) (fun xs => xs.map Part.key = partsL q.ka q.kb a b) := by
  intro L J hJk hJI hY W h0
  refine callsIn_of_wp Tryz.func169 rfl trivial ?_ rfl
  simp only [Tryz.ntmps169, List.size_toArray, List.length_cons, List.length_nil, Nat.reduceAdd, Nat.reduceSub, Array.replicate_succ, Array.replicate_zero, List.push_toArray, List.append_toArray, List.nil_append, List.cons_append]
  have x0 := hbx _ _ (hJI _ _ h0)
  have c1 : W.cell? ⟨Bx, 1, none⟩ = some (.int .i64 a) := x0.cell 1
  have c2 : W.cell? ⟨Bx, 2, none⟩ = some (.int .i64 b) := x0.cell 2
  clear x0
  gi_wp2
  gi_loopw [11] (fun i wr => ∃ (k : Nat) (pre : List Part), k ≤ 2 ∧ i = .int .i64 (k : Int) ∧ Hid (pre.map Part.key = [(q.ka, a), (q.kb, b)].take k ∧ (1 ≤ k → q.ka ≠ 0) ∧ (2 ≤ k → q.kb ≠ 0)) ∧ J pre wr)
    (fun i _ => 2 - (intOf i).toNat)
  case atStart => exact ⟨0, [], by omega, rfl, ⟨rfl, fun h => by omega, fun h => by omega⟩, h0⟩
  case round =>
    obtain ⟨k, pre, hk, rfl, HP, hJ⟩ := hrel
    have r0 := hbr _ _ (hJI _ _ hJ)
    have d1 : wr.cell? ⟨Br, 1, none⟩ = some (.int .i64 q.ka) := r0.cell 1
    have d2 : wr.cell? ⟨Br, 2, none⟩ = some (.int .i64 q.kb) := r0.cell 2
    clear r0 c1 c2
    have hix := fun w => run_index_nums a b w
    have hi0 := fun w => (hix w).1
    have hi1 := fun w => (hix w).2
    clear hix
    obtain rfl | rfl | rfl : k = 0 ∨ k = 1 ∨ k = 2 := by omega
    · by_cases hz : q.ka = 0
      · have hS : Hid (pre.map Part.key = partsL q.ka q.kb a b) := by show _ = _; rw [HP.out.1, parts_0 hz]; rfl
        have e0 : (q.ka == 0) = true := by rw [beq_iff_eq]; exact hz
        clear HP hz hka hkb
        rw [show ((0 : Nat) : Int) = 0 from rfl]
        gi_wp2
        refine ⟨trivial, ?_⟩
        gi_wp2
        refine ⟨fun _ h => (by cases h), ?_⟩
        gi_wp2
        refine bodyPost_ret (results_none rfl _ _ _) rfl ?_
        exact ⟨⟨_, rfl⟩, pre, hS.out, hJ⟩
      · have e0 : (q.ka == 0) = false := by rw [beq_eq_false_iff_ne]; exact hz
        have HN : Hid (pre.map Part.key ++ (q.ka, a) :: (if q.kb = 0 then [] else [(q.kb, b)]) = partsL q.ka q.kb a b) := by show _ = _; rw [HP.out.1]; unfold partsL; rw [if_neg hz]; split <;> rfl
        have HQ : Hid (∀ x : Part, x.key = (q.ka, a) → (pre ++ [x]).map Part.key = [(q.ka, a), (q.kb, b)].take 1) := by intro x hx; rw [List.map_append, HP.out.1]; simp [hx]
        have hp1 := HP.out.2.1
        have HZ : Hid ((1 ≤ 1 → q.ka ≠ 0) ∧ (2 ≤ 1 → q.kb ≠ 0)) := ⟨fun _ => hz, fun h => by omega⟩
        clear HP hz hp1
        rw [show ((0 : Nat) : Int) = 0 from rfl]
        gi_wp2_with (refine ⟨trivial, ?_⟩; gi_at_call 156; refine (callsIn_wide.2 (operandOf_any q.ka hka _)).mono ?_; rintro e w1 ⟨sh, gu, rfl, hF, k1⟩; have hJ1 := hJk _ _ _ hJ k1; obtain ⟨fn, tmps, assign, body, hy, hR⟩ := hY pre ⟨q.ka, a, sh, gu⟩ w1 hJ1 ⟨⟨_, HN.out⟩, hF⟩; dsimp only [partE] at hy)
        refine hR.mono ?_
        rintro e W3 ⟨rfl, hJ3⟩
        gi_wp2
        go_roundw
        case rel => exact ⟨1, pre ++ [_], by omega, rfl, ⟨HQ.out _ rfl, HZ.out⟩, hJ3⟩
        case measure => simp [intOf]
    · by_cases hz : q.kb = 0
      · have hS : Hid (pre.map Part.key = partsL q.ka q.kb a b) := by show _ = _; rw [HP.out.1, parts_1 (HP.out.2.1 (by omega)) hz]; rfl
        have e0 : (q.kb == 0) = true := by rw [beq_iff_eq]; exact hz
        clear HP hz hka hkb
        rw [show ((1 : Nat) : Int) = 1 from rfl]
        gi_wp2
        refine ⟨trivial, ?_⟩
        gi_wp2
        refine ⟨fun _ h => (by cases h), ?_⟩
        gi_wp2
        refine bodyPost_ret (results_none rfl _ _ _) rfl ?_
        exact ⟨⟨_, rfl⟩, pre, hS.out, hJ⟩
      · have e0 : (q.kb == 0) = false := by rw [beq_eq_false_iff_ne]; exact hz
        have HN : Hid (pre.map Part.key ++ (q.kb, b) :: [] = partsL q.ka q.kb a b) := by show _ = _; rw [HP.out.1, parts_2 (HP.out.2.1 (by omega)) hz]; rfl
        have HQ : Hid (∀ x : Part, x.key = (q.kb, b) → (pre ++ [x]).map Part.key = [(q.ka, a), (q.kb, b)].take 2) := by intro x hx; rw [List.map_append, HP.out.1]; simp [hx]
        have hp1 := HP.out.2.1
        have HZ : Hid ((1 ≤ 2 → q.ka ≠ 0) ∧ (2 ≤ 2 → q.kb ≠ 0)) := ⟨fun _ => hp1 (by omega), fun _ => hz⟩
        clear HP hz hp1
        rw [show ((1 : Nat) : Int) = 1 from rfl]
        gi_wp2_with (refine ⟨trivial, ?_⟩; gi_at_call 156; refine (callsIn_wide.2 (operandOf_any q.kb hkb _)).mono ?_; rintro e w1 ⟨sh, gu, rfl, hF, k1⟩; have hJ1 := hJk _ _ _ hJ k1; obtain ⟨fn, tmps, assign, body, hy, hR⟩ := hY pre ⟨q.kb, b, sh, gu⟩ w1 hJ1 ⟨⟨_, HN.out⟩, hF⟩; dsimp only [partE] at hy)
        refine hR.mono ?_
        rintro e W3 ⟨rfl, hJ3⟩
        gi_wp2
        go_roundw
        case rel => exact ⟨2, pre ++ [_], by omega, rfl, ⟨HQ.out _ rfl, HZ.out⟩, hJ3⟩
        case measure => simp [intOf]
    · have hS : Hid (pre.map Part.key = partsL q.ka q.kb a b) := by show _ = _; rw [HP.out.1, parts_2 (HP.out.2.1 (by omega)) (HP.out.2.2 (by omega))]; rfl
      clear HP hka hkb
      rw [show ((2 : Nat) : Int) = 2 from rfl]
      gi_wp2
      go_end0
      exact ⟨⟨_, rfl⟩, pre, hS.out, hJ⟩

end Go.Proofs.YtbnekeomdhljhaaGreatDoor.O

namespace Go.Proofs.YtbnekeomdhljhaaGreatDoor.O
open Go.RowKit Go.Shelf
attribute [local go_sem] Oper.semAt_some

theorem blk_own {β : Type} (B g : Nat) (t : TypeId) (cs : β → Array Value) : OwnFrom B (fun s W => Blk W g t (cs s)) := by
  intro s X Y row h hg hrow
  refine (hg.block g h.lt (fun e => ?_)).trans h
  obtain ⟨_, o, ho, hc⟩ := hrow g e.symm
  rw [show X.heap[g]? = _ from h] at ho
  cases ho; cases hc
theorem keep_own {β : Type} {B : Nat} {w0 : World} (O : Nat → Prop) (hB : w0.heap.size ≤ B) : OwnFrom B (fun (_ : β) W => Keep O w0 W) := by
  intro s X Y row h hg hrow
  exact h.grown hg (fun g e hl => by have := (hrow g e).1; omega)
theorem fnAt_own {β : Type} (B : Nat) (k : Int) (sh gu : Value) : OwnFrom B (fun (_ : β) W => FnAt k sh gu W) := by
  intro s X Y row h hg hrow
  have hc : ∀ p v, X.cell? p = some v → Y.cell? p = some v := fun p v hp => cell_kept hp hg (fun r e => (hrow r e).2)
  rcases h with h | h | ⟨h, b, c, h1, h2, h3, h4⟩
  · exact .inl h
  · exact .inr (.inl h)
  · exact .inr (.inr ⟨h, b, c, h1, h2, hc _ _ h3, hc _ _ h4⟩)
theorem ownFrom_const {β : Type} (B : Nat) (p : Prop) : OwnFrom B (fun (_ : β) (_ : World) => p) := fun _ _ _ _ h _ _ => h
theorem keepsFrom_one {B g : Nat} {W W' : World} (h : Keep (fun k => k = g) W W') (hg : g < B) : KeepsFrom B W W' :=
  ⟨h.size, fun k _ hk hh _ => (h.block k (Array.getElem?_eq_some_iff.1 hh).1 (fun e => by omega)).trans hh⟩

set_option maxHeartbeats 1000000 in
theorem parts_any (q : Row) (op a b : Int) (w : World) : Calls Tryz.prog 147 #[rowV q, instV op a b] w fun e w' =>
    e = .returned (.func (.func 169) #[] #[.pointer (some ⟨w.heap.size + 1, 0, none⟩), .pointer (some ⟨w.heap.size, 0, none⟩)]) ∧ Blk w' w.heap.size 200 (cells9 q) ∧ Blk w' (w.heap.size + 1) 74 #[.int .i64 op, .int .i64 a, .int .i64 b] ∧ Keep NoB w w' := by
  go_enter Tryz.func147, Tryz.ntmps147
  go_wp2
  go_ret
  have h1 := Blk.new (w.alloc (.cells (cells9 q) 200)) 74 #[.int .i64 op, .int .i64 a, .int .i64 b]
  rw [World.size_alloc] at h1
  exact ⟨rfl, (Blk.new _ _ _).alloc _, h1, ((Keep.refl NoB w).alloc _).alloc _⟩

/-- The text of the operands that have come. -/
def textP (l : List (Int × Int)) : List UInt8 := l.flatMap fun x => 32 :: word x.1 x.2
theorem textP_parts (ka kb a b : Int) (h : ka = 0 → kb = 0) : textP (partsL ka kb a b) = partL ka a ++ partL kb b := by
  unfold partsL partL textP
  split
  · rename_i hz
    rw [if_pos (h hz)]; rfl
  · split
    · simp
    · simp
theorem kinds_none (op : Int) : (rowAt op).ka = 0 → (rowAt op).kb = 0 := by
  have := rowAt_all (p := fun r => decide (r.ka = 0 → r.kb = 0)) (by decide) (by decide) op
  exact of_decide_eq_true this

theorem textP_snoc (l : List (Int × Int)) (x : Int × Int) : textP (l ++ [x]) = textP l ++ 32 :: word x.1 x.2 := by unfold textP; simp
theorem textP_len : ∀ (l : List (Int × Int)), (∀ x ∈ l, I64 x.2) → (textP l).length ≤ 22 * l.length
  | [], _ => Nat.zero_le _
  | x :: l, h => by
    have h1 := word_len x.1 x.2 (h x (by simp))
    have h2 := textP_len l (fun y hy => h y (by simp [hy]))
    have e : textP (x :: l) = (32 :: word x.1 x.2) ++ textP l := by unfold textP; simp
    rw [e]
    simp
    omega
theorem parts_mem {ka kb a b : Int} {x : Int × Int} (h : x ∈ partsL ka kb a b) : x.1 ≠ 0 ∧ (x.2 = a ∨ x.2 = b) := by
  unfold partsL at h
  split at h
  · cases h
  · split at h
    · rename_i h1 h2; simp at h; subst h; exact ⟨h1, .inl rfl⟩
    · rename_i h1 h2
      simp at h
      rcases h with rfl | rfl
      · exact ⟨h1, .inl rfl⟩
      · exact ⟨h2, .inr rfl⟩
theorem parts_len (ka kb a b : Int) : (partsL ka kb a b).length ≤ 2 := by unfold partsL; split <;> (try split) <;> simp
theorem part_facts {ka kb a b : Int} {pre : List Part} {x : Part} {W : World} (h : PartN ka kb a b pre x W) (ha : I64 a) (hb : I64 b) : x.k ≠ 0 ∧ I64 x.n ∧ (textP (pre.map Part.key)).length ≤ 44 := by
  obtain ⟨⟨post, hp⟩, _⟩ := h
  have h64 : ∀ y ∈ partsL ka kb a b, I64 y.2 := fun y hy => by rcases (parts_mem hy).2 with e | e <;> rw [e] <;> assumption
  have hx := parts_mem (x := x.key) (by rw [← hp]; simp)
  have hl := congrArg List.length hp
  have h2 := parts_len ka kb a b
  have hx64 := h64 x.key (by rw [← hp]; simp)
  have ht := textP_len (pre.map Part.key) (fun y hy => h64 y (by rw [← hp]; exact List.mem_append_left _ hy))
  simp at hl ht
  exact ⟨hx.1, hx64, by omega⟩
theorem name_len (op : Int) : (rowAt op).name.length ≤ 7 := by
  have := rowAt_all (p := fun r => decide (r.name.length ≤ 7)) (by decide) (by decide) op
  exact of_decide_eq_true this

theorem Keep_putObj {O : Nat → Prop} {w W : World} {D : Nat} {o : Obj} (h : Keep O w W) (hD : w.heap.size ≤ D) : Keep O w (W.putObj D o) := h.grown (grownBy_putObj' W D o) (fun g e hl => by cases e; omega)
theorem str_sp (s d : List UInt8) : str s ++ ((⟨#[32]⟩ : ByteArray) ++ str d) = str (s ++ 32 :: d) := by
  apply ByteArray.ext
  simp [ByteArray.data_append]

theorem show_end {w2 W w3 : World} {bt : Nat} {cs : Array Value} {t : TypeId} {u : Value} (h : Blk (w3.setCell ⟨bt, 0, none⟩ u) bt t cs) (h2 : Keep (fun k => k = bt) w2 W) (k4 : Keep NoB W w3) (hlt : bt < w2.heap.size) :
    (Exit.normal = Exit.normal) ∧ (Blk (w3.setCell ⟨bt, 0, none⟩ u) bt t cs ∧ Keep (fun k => k = bt) w2 (w3.setCell ⟨bt, 0, none⟩ u)) ∧ KeepsFrom w2.heap.size W (w3.setCell ⟨bt, 0, none⟩ u) :=
  ⟨rfl, ⟨h, (h2.trans k4 (fun _ hf _ => hf.elim)).setCell (fun _ => rfl) _⟩, keepsFrom_one (Keep.setCell (O := fun k => k = bt) (p := ⟨bt, 0, none⟩) (k4.mono (fun _ hf _ => hf.elim)) (fun _ => rfl) u) hlt⟩

/-- The activation at the head of the loop's body. -/
def showAct (op a b : Int) (r : Row) (g h : Nat) (x : Part) (Bo : Nat) : Act :=
  { tmps := #[instV op a b, .pointer (some ⟨g, 0, none⟩), .string ⟨#[]⟩, .pointer (some ⟨h, 0, none⟩), .bool true, .pointer (some ⟨h + 1, 0, none⟩), .pointer (some ⟨Bo, 0, none⟩), .int .i64 x.n, .tuple #[rowV r, .bool true],
      instV op a b, .tuple #[rowV r, .bool true], rowV r, .bool true, .bool true, .bool false, .pointer (some ⟨h, 0, none⟩), .string (str r.name), rowV r, instV op a b,
      .func (.func 169) #[] #[.pointer (some ⟨h + 1 + 1 + 1, 0, none⟩), .pointer (some ⟨h + 1 + 1, 0, none⟩)], .agg #[.int .i64 x.k, .int .i64 (lo x.k), .int .i64 (hi x.k), x.sh, x.gu], .int .i64 x.n,
      undef, undef, undef, undef, undef, undef, undef, undef], defers := [] }

end Go.Proofs.YtbnekeomdhljhaaGreatDoor.O

namespace Go.Proofs.YtbnekeomdhljhaaGreatDoor.O
open Go.RowKit

/-- Block k holds cells. -/
def CellsAt (W : World) (k : Nat) : Prop := ∃ cs t f, W.heap[k]? = some (.cells cs t f)
theorem CellsAt.lt {W : World} {k : Nat} (h : CellsAt W k) : k < W.heap.size := by obtain ⟨_, _, _, h⟩ := h; exact (Array.getElem?_eq_some_iff.1 h).1
theorem Blk.cellsAt {w : World} {g : Nat} {t : TypeId} {cs : Array Value} (h : Blk w g t cs) : CellsAt w g := ⟨cs, t, (0, 0), h⟩
theorem own_cells {w : World} {O : Nat → Prop} {v : Value} {l : List UInt8} (h : V.OwnB w O v l) : ∀ g, v.ownBlock = some g → CellsAt w g := by
  intro g e
  rcases h.1.2 with ⟨rfl, _⟩ | ⟨g', cap, cur, rfl, _, hh, _⟩
  · simp [Value.ownBlock] at e
  · simp [Value.ownBlock] at e
    subst e
    exact ⟨_, _, _, hh⟩
/-- A Tape's blocks are cells. -/
theorem tape_cells {w : World} {bt : Nat} {O : Nat → Prop} {l : List UInt8} (h : V.TapeAt w bt O l) : V.TapeAt w bt (fun k => O k ∧ CellsAt w k) l := by
  rcases h.2 with ⟨hb, hl⟩ | ⟨bs, v, ho, hb, hs, hv⟩
  · exact ⟨⟨h.1, Blk.cellsAt hb⟩, .inl ⟨hb, hl⟩⟩
  · exact ⟨⟨h.1, Blk.cellsAt hb⟩, .inr ⟨bs, v, ⟨ho, Blk.cellsAt hs⟩, hb, hs, hv.1, fun g e => ⟨hv.2 g e, own_cells hv g e⟩⟩⟩
/-- A step that turns none of a Tape's blocks leaves it. -/
theorem tape_grown {w w' : World} {row : Option Nat} {bt : Nat} {O : Nat → Prop} {l : List UInt8} (h : V.TapeAt w bt O l) (hg : w.grownBy w' row) (hr : ∀ r, row = some r → ¬ O r) : V.TapeAt w' bt O l := by
  have hk : Keep (fun k => some k = row) w w' := ⟨hg.os, hg.tape, hg.output, hg.size, fun k hk hn => hg.block k hk hn⟩
  exact h.keep hk (fun k ho e => hr k e.symm ho)

/-- What write leaves. -/
def WroteR (w : World) (bt : Nat) (O : Nat → Prop) (xs : List UInt8) (e : Ending) (w' : World) : Prop := e = .returned (.tuple #[]) ∧ V.TapeAt w' bt (V.More O w w') xs ∧ Keep O w w'

set_option maxHeartbeats 1000000 in
theorem write_any (k n : Int) (sh gu : Value) (bt : Nat) (O : Nat → Prop) (l : List UInt8) (w : World) (hk : k ≠ 0) (hn : inK k n = true) (h64 : -9223372036854775808 ≤ n ∧ n ≤ 9223372036854775807)
    (h : V.TapeAt w bt O l) (hO : ∀ k, O k → k < w.heap.size) (hb : l.length + 9 ≤ 140737488355328) :
    Calls Tryz.prog 148 #[opV k sh gu, .pointer (some ⟨bt, 0, none⟩), .int .i64 n] w (WroteR w bt O (l ++ encP k n)) := by
  have hK := (Keep.refl NoB w).alloc (.cells #[.int .i64 k, .int .i64 (lo k), .int .i64 (hi k), sh, gu] 209)
  have h1 := h.keep hK (fun _ _ => id)
  have hO1 : ∀ j, O j → j < (w.alloc (.cells #[.int .i64 k, .int .i64 (lo k), .int .i64 (hi k), sh, gu] 209)).heap.size := by intro j hj; have := hO j hj; simp; omega
  have hsz : (w.alloc (.cells #[.int .i64 k, .int .i64 (lo k), .int .i64 (hi k), sh, gu] 209)).heap.size = w.heap.size + 1 := by simp
  by_cases h1k : k = 1
  · subst h1k
    have HE : Hid (encP 1 n = V.encL (V.zig n)) := rfl
    have HS := Lib.hid (V.tsigned_any _ bt O l n h64.1 h64.2 h1 hO1 hb)
    clear hk hn hO hb h h1 hO1
    unfold opV
    go_enter Tryz.func148, Tryz.ntmps148
    go_wp2_with fail
    refine HS.out.mono ?_
    rintro e w2 ⟨rfl, h2, k2⟩
    go_wp2
    go_end0
    rw [HE.out]
    refine ⟨rfl, h2.mono ?_, hK.mono (fun _ hf _ => hf.elim) |>.trans k2 (fun _ ho _ => ho)⟩
    rintro j (hj | ⟨hj1, hj2⟩) _
    · exact .inl hj
    · exact .inr ⟨by omega, hj2⟩
  · have hn0 : 0 ≤ n := by
      have := (of_decide_eq_true hn).1
      unfold lo at this
      rw [if_neg h1k] at this
      split at this <;> omega
    obtain ⟨m, rfl⟩ := Int.eq_ofNat_of_zero_le hn0
    have HE : Hid (encP k m = V.encL m) := by show _ = _; unfold encP; rw [if_neg hk, if_neg h1k]; rfl
    have HS := Lib.hid (V.tnumber_any _ bt O l m h1 hO1 hb)
    have q1 : (k == 1) = false := by rw [beq_eq_false_iff_ne]; exact h1k
    have hm : (m : Int) ≤ 9223372036854775807 := h64.2
    have hw : IntKind.u64.wrap (m : Int) = (m : Int) := by simp [IntKind.wrap, IntKind.bits, IntKind.signed]; omega
    clear hk hn hO hb h h1 hO1 h1k h64
    unfold opV
    go_enter Tryz.func148, Tryz.ntmps148
    go_wp2_with fail
    refine HS.out.mono ?_
    rintro e w2 ⟨rfl, h2, k2⟩
    go_wp2
    go_end0
    rw [HE.out]
    refine ⟨rfl, h2.mono ?_, hK.mono (fun _ hf _ => hf.elim) |>.trans k2 (fun _ ho _ => ho)⟩
    rintro j (hj | ⟨hj1, hj2⟩) _
    · exact .inl hj
    · exact .inr ⟨by omega, hj2⟩

end Go.Proofs.YtbnekeomdhljhaaGreatDoor.O
