/-
  What Encode of layer function answers: a function's bytes. Conditions: the function's lists lie in memory, and are no longer than statements go through.
  Parts' bytes: what write answers, of shapes and of functions. Conditions: the parts lie in memory, and may be; no more than 64.
  slices.Concat of parts of bytes, and slices.Grow of the nil slice. Conditions: the parts lie in memory; no more than 2^46 bytes in all.
  A region that draws its order, by what each of its values is, as in KProps6; one operation changes the world by a relation of one's own. No program, no conditions.
  What Encode of layer image answers: an image's bytes. Conditions: the image's lists lie in memory, each below 2^47.
-/
import Derived.Lib.AppendZeros
import Derived.Test.YtgifflfjhockaaaGreatDoorQ12
import Derived.Test.YtgifflfjhockaaaGreatDoorQ8
import Derived.Test.YtgifflfjhockaaaGreatDoorQ9
import Derived.Test.YtgifflfjhockaaaGreatDoorQ6
import Derived.Test.YtgifflfjhockaaaGreatDoorQ11
import Derived.Test.YtgifflfjhockaaaGreatDoorQ10
namespace Go.Proofs.YtgifflfjhockaaaGreatDoor.F
open Go.RowKit W

/-- The bytes, part by part. -/
def prt (f : Fu) : Nat → List UInt8
  | 0 => []
  | 1 => [] ++ (V.encL f.nm.length ++ f.nm)
  | 2 => ([] ++ (V.encL f.nm.length ++ f.nm)) ++ S.bytesG f.ar f.rs
  | 3 => (([] ++ (V.encL f.nm.length ++ f.nm)) ++ S.bytesG f.ar f.rs) ++ S.bytesG f.lc []
  | _ => ((([] ++ (V.encL f.nm.length ++ f.nm)) ++ S.bytesG f.ar f.rs) ++ S.bytesG f.lc []) ++ C.bytesB f.bd
theorem prt_all (f : Fu) : prt f 4 = bytesF f := by
  show ((([] ++ (V.encL f.nm.length ++ f.nm)) ++ S.bytesG f.ar f.rs) ++ S.bytesG f.lc []) ++ C.bytesB f.bd = _
  rw [List.nil_append]; rfl

set_option maxRecDepth 100000 in
set_option maxHeartbeats 4000000 in
theorem writing_any (v : FV) (f : Fu) (w : World) (b m : Nat) (h : ∀ W, Keep (fun k => k = b) w W → FnAt W v f) (hs : SmF v) (ho : okF f = true) (hb0 : Blk w b 26 #[.slice none 0 0]) (g : Nat) (u0 u1 u2 u3 : Value) (hb : Blk w g 69 #[u0, u1, u2, u3])
    (a0 : WrV 170 189 9 (fnV 127) (#[.string v.S]) b m u0 w)
    (a1 : WrV 172 191 57 (fnV 129) (#[.slice v.A v.na v.ca, .slice v.B v.nb v.cb]) b m u1 w)
    (a2 : WrV 172 191 57 (fnV 129) (#[.slice v.L v.nl v.cl, .slice none 0 0]) b m u2 w)
    (a3 : WrV 174 193 59 (fnV 131) (#[.slice v.D v.nd v.cd]) b m u3 w) :
    Calls Tryz.prog 116 #[.slice (some ⟨g, 0, none⟩) 4 4] w fun e w' => e = .returned (.bool true) ∧ Byt w b (bytesF f) w' := by
  obtain ⟨hN, hG, hL, hB, h64⟩ := (okF_iff f).1 ho
  have hw0 := h w (Keep.refl _ _)
  have hlc : S.okG f.lc [] = true := (okG_one _).2 ⟨by omega, hL⟩
  have hg1 := ((S.okG_iff _ _).1 hG).1
  have n1 : (V.encL f.nm.length ++ f.nm).length ≤ 41 := by
    have := V.encL_len f.nm.length
    have := ((okN_iff _).1 hN).1
    rw [List.length_append]; omega
  have n2 : (S.bytesG f.ar f.rs).length ≤ 1000 := by
    unfold S.bytesG
    have := S.bytesT_len f.ar (by omega)
    have := S.bytesT_len f.rs (by omega)
    rw [List.length_append]; omega
  have n3 : (S.bytesG f.lc []).length ≤ 1000 := by
    unfold S.bytesG
    have := S.bytesT_len f.lc (by omega)
    have := S.bytesT_len [] (by simp)
    rw [List.length_append]; omega
  have n4 := bytesB_len hB
  obtain ⟨c0, p0, q0, rfl, _, x0, y0, z0⟩ := a0
  obtain ⟨c1, p1, q1, rfl, _, x1, y1, z1⟩ := a1
  obtain ⟨c2, p2, q2, rfl, _, x2, y2, z2⟩ := a2
  obtain ⟨c3, p3, q3, rfl, _, x3, y3, z3⟩ := a3
  have hFl := hb0.lt
  have xF0 : c0 ≠ b := x0.ne hb0 (by decide)
  have yF0 : p0 ≠ b := y0.ne hb0 (by decide)
  have zF0 : q0 ≠ b := z0.ne hb0 (by decide)
  have xF1 : c1 ≠ b := x1.ne hb0 (by decide)
  have yF1 : p1 ≠ b := y1.ne hb0 (by decide)
  have zF1 : q1 ≠ b := z1.ne hb0 (by decide)
  have xF2 : c2 ≠ b := x2.ne hb0 (by decide)
  have yF2 : p2 ≠ b := y2.ne hb0 (by decide)
  have zF2 : q2 ≠ b := z2.ne hb0 (by decide)
  have xF3 : c3 ≠ b := x3.ne hb0 (by decide)
  have yF3 : p3 ≠ b := y3.ne hb0 (by decide)
  have zF3 : q3 ≠ b := z3.ne hb0 (by decide)
  have gF : g ≠ b := hb.ne hb0 (by decide)
  have hB0 : Byt w b (prt f 0) w := ⟨Keep.refl _ _, _, hb0, V.OwnB.nil _ _⟩
  refine (every_any (some ⟨g, 0, none⟩) [(170, #[.pointer (some ⟨c0, 0, none⟩), .pointer (some ⟨p0, 0, none⟩), .pointer (some ⟨q0, 0, none⟩)]), (172, #[.pointer (some ⟨c1, 0, none⟩), .pointer (some ⟨p1, 0, none⟩), .pointer (some ⟨q1, 0, none⟩)]), (172, #[.pointer (some ⟨c2, 0, none⟩), .pointer (some ⟨p2, 0, none⟩), .pointer (some ⟨q2, 0, none⟩)]), (174, #[.pointer (some ⟨c3, 0, none⟩), .pointer (some ⟨p3, 0, none⟩), .pointer (some ⟨q3, 0, none⟩)])] 4 4 w rfl (by decide) (fun _ => true) (fun i W => Byt w b (prt f i) W) (fun _ => False) ?hcf ?hr ?hq hB0).mono ?_
  case hcf =>
    intro q hq
    simp only [List.mem_cons, List.not_mem_nil, or_false] at hq
    rcases hq with rfl | rfl | rfl | rfl
    · exact enters_of Tryz.func170 (by kernel_rfl) rfl
    · exact enters_of Tryz.func172 (by kernel_rfl) rfl
    · exact enters_of Tryz.func172 (by kernel_rfl) rfl
    · exact enters_of Tryz.func174 (by kernel_rfl) rfl
  case hr =>
    rintro i W hP _
    refine ⟨g, 0, rfl, fun j u hu => ?_⟩
    rw [Nat.zero_add, (hb.keep hP.1 (fun e => gF e)).cell j]
    simpa using hu
  case hq =>
    rintro i hi W hP
    have hW := h W hP.1
    have hi : i = 0 ∨ i = 1 ∨ i = 2 ∨ i = 3 := by simp at hi; omega
    rcases hi with rfl | rfl | rfl | rfl
    · refine (wroteStr_any 127 (enters_of Tryz.func127 (by kernel_rfl) rfl) v.S w c0 p0 q0 b (prt f 0) (V.encL f.nm.length ++ f.nm) W (x0.keep hP.1 xF0) (y0.keep hP.1 yF0) (z0.keep hP.1 zF0) z0.lt hFl hP ?_ 0 true rfl (encName_any v.S f.nm hW.nm (by have := ((okN_iff _).1 hN).1; omega) W)).mono ?_
      · simp only [prt, List.length_append, List.length_nil] at *; omega
      rintro e W' ⟨rfl, hB2⟩
      exact ⟨rfl, fun _ => hB2, fun h => by cases h⟩
    · refine (wroteSig_any 129 (enters_of Tryz.func129 (by kernel_rfl) rfl) (.slice v.A v.na v.ca) (.slice v.B v.nb v.cb) w c1 p1 q1 b (prt f 1) (S.bytesG f.ar f.rs) W (x1.keep hP.1 xF1) (y1.keep hP.1 yF1) (z1.keep hP.1 zF1) z1.lt hFl hP ?_ 0 true rfl (by have := S.encodeG_any v.A f.ar v.na v.ca v.B f.rs v.nb v.cb W hW.ra hW.rb hW.la hW.lb (by have := hs.na; omega) (by have := hs.nb; omega); rw [S.encG_ok hG, S.chkG_ok hG] at this; exact this)).mono ?_
      · simp only [prt, List.nil_append, List.length_append] at *; omega
      rintro e W' ⟨rfl, hB2⟩
      exact ⟨rfl, fun _ => hB2, fun h => by cases h⟩
    · refine (wroteSig_any 129 (enters_of Tryz.func129 (by kernel_rfl) rfl) (.slice v.L v.nl v.cl) (.slice none 0 0) w c2 p2 q2 b (prt f 2) (S.bytesG f.lc []) W (x2.keep hP.1 xF2) (y2.keep hP.1 yF2) (z2.keep hP.1 zF2) z2.lt hFl hP ?_ 0 true rfl (by have := S.encodeG_any v.L f.lc v.nl v.cl none [] 0 0 W hW.rl (Rd.none_ _ _) hW.ll rfl (by have := hs.nl; omega) (by omega); rw [S.encG_ok hlc, S.chkG_ok hlc] at this; exact this)).mono ?_
      · simp only [prt, List.nil_append, List.length_append] at *; omega
      rintro e W' ⟨rfl, hB2⟩
      exact ⟨rfl, fun _ => hB2, fun h => by cases h⟩
    · refine (wroteBod_any 131 (enters_of Tryz.func131 (by kernel_rfl) rfl) v.D v.nd v.cd w c3 p3 q3 b (prt f 3) (C.bytesB f.bd) W (x3.keep hP.1 xF3) (y3.keep hP.1 yF3) (z3.keep hP.1 zF3) z3.lt hFl hP ?_ 0 true rfl (by have := C.cencode_any v.D f.bd v.nd v.cd W hW.rd hW.ld hW.hI (by have := hs.nd; omega); rw [C.encB_ok hB, C.chkB_ok hB] at this; exact this)).mono ?_
      · simp only [prt, List.nil_append, List.length_append] at *; omega
      rintro e W' ⟨rfl, hB2⟩
      exact ⟨rfl, fun _ => hB2, fun h => by cases h⟩
  rintro e w' (⟨rfl, _, hP⟩ | ⟨rfl, _, hF⟩)
  · exact ⟨rfl, by rw [← prt_all]; exact hP⟩
  · exact hF.elim

/-- What the values are that Encode's region yields. -/
def SE (v : FV) (f : Fu) (x b m : Nat) (W1 : World) : Nat → Value → World → Prop
  | 0 => fun u _ => u = v.val
  | 1 => fun u _ => u = .int .i64 0
  | 2 => fun u _ => u = .bool false
  | 3 => fun u _ => u = .bool false
  | 4 => fun u _ => u = .pointer (some ⟨x, 0, none⟩)
  | 5 => fun u _ => u = .string v.S
  | 6 => WrV 170 189 9 (fnV 127) (#[.string v.S]) b m
  | 7 => fun u _ => u = .pointer (some ⟨x, 1, none⟩)
  | 8 => fun u _ => u = .agg #[.slice v.A v.na v.ca, .slice v.B v.nb v.cb]
  | 9 => WrV 172 191 57 (fnV 129) (#[.slice v.A v.na v.ca, .slice v.B v.nb v.cb]) b m
  | 10 => fun u _ => u = .pointer (some ⟨x, 3, none⟩)
  | 11 => fun u _ => u = .slice v.L v.nl v.cl
  | 12 => fun u _ => u = .agg #[.slice v.L v.nl v.cl, .slice none 0 0]
  | 13 => WrV 172 191 57 (fnV 129) (#[.slice v.L v.nl v.cl, .slice none 0 0]) b m
  | 14 => fun u _ => u = .pointer (some ⟨x, 4, none⟩)
  | 15 => fun u _ => u = .slice v.D v.nd v.cd
  | 16 => WrV 174 193 59 (fnV 131) (#[.slice v.D v.nd v.cd]) b m
  | 17 => fun u w => ∃ g u0 u1 u2 u3, u = .slice (some ⟨g, 0, none⟩) 4 4 ∧ m ≤ g ∧ Blk w g 69 #[u0, u1, u2, u3] ∧ WrV 170 189 9 (fnV 127) (#[.string v.S]) b m u0 w ∧ WrV 172 191 57 (fnV 129) (#[.slice v.A v.na v.ca, .slice v.B v.nb v.cb]) b m u1 w ∧ WrV 172 191 57 (fnV 129) (#[.slice v.L v.nl v.cl, .slice none 0 0]) b m u2 w ∧ WrV 174 193 59 (fnV 131) (#[.slice v.D v.nd v.cd]) b m u3 w
  | 18 => fun u w => u = .bool true ∧ ∃ W2, Keep NoB W1 W2 ∧ Byt W2 b (bytesF f) w
  | 19 => fun u _ => u = .bool false
  | 20 => fun u _ => u = .bool false
  | _ => fun _ _ => True
theorem SE_stable1 (v : FV) (f : Fu) (x b m : Nat) (W1 : World) (O : Nat → Prop) : ∀ i u w w', i ≠ 18 → SE v f x b m W1 i u w → Keep O w w' → (∀ k, m ≤ k → ¬ O k) → SE v f x b m W1 i u w'
  | 0, _, _, _, _, h, _, _ => h
  | 1, _, _, _, _, h, _, _ => h
  | 2, _, _, _, _, h, _, _ => h
  | 3, _, _, _, _, h, _, _ => h
  | 4, _, _, _, _, h, _, _ => h
  | 5, _, _, _, _, h, _, _ => h
  | 6, _, _, _, _, h, hk, hO => WrV.keep h hk hO
  | 7, _, _, _, _, h, _, _ => h
  | 8, _, _, _, _, h, _, _ => h
  | 9, _, _, _, _, h, hk, hO => WrV.keep h hk hO
  | 10, _, _, _, _, h, _, _ => h
  | 11, _, _, _, _, h, _, _ => h
  | 12, _, _, _, _, h, _, _ => h
  | 13, _, _, _, _, h, hk, hO => WrV.keep h hk hO
  | 14, _, _, _, _, h, _, _ => h
  | 15, _, _, _, _, h, _, _ => h
  | 16, _, _, _, _, h, hk, hO => WrV.keep h hk hO
  | 17, _, _, _, _, ⟨g, u0, u1, u2, u3, e, hm, hb, a0, a1, a2, a3⟩, hk, hO => ⟨g, u0, u1, u2, u3, e, hm, hb.keep hk (hO _ hm), a0.keep hk hO, a1.keep hk hO, a2.keep hk hO, a3.keep hk hO⟩
  | 18, _, _, _, h, _, _, _ => absurd rfl h
  | 19, _, _, _, _, h, _, _ => h
  | 20, _, _, _, _, h, _, _ => h
  | _ + 21, _, _, _, _, h, _, _ => h
theorem SE_stable2 (v : FV) (f : Fu) (x b m : Nat) (W1 : World) (i : Nat) (u : Value) (w w' : World) (h : SE v f x b m W1 i u w) (hk : Keep NoB w w') : SE v f x b m W1 i u w' := by
  by_cases e : i = 18
  · subst e
    obtain ⟨h1, W2, h2, h3⟩ := h
    exact ⟨h1, W2, h2, h3.keepN hk⟩
  · exact SE_stable1 v f x b m W1 NoB i u w w' e h hk (fun _ _ => id)

/-- The same where the function may not be. -/
def SE0 (v : FV) : Nat → Value → World → Prop
  | 0 => fun u _ => u = v.val
  | 1 => fun u _ => u = .int .i64 70
  | 2 => fun u _ => u = .bool true
  | 3 => fun u _ => u = .bool true
  | 20 => fun u _ => u = .bool true
  | _ => fun _ _ => True
theorem SE0_stable (v : FV) (i : Nat) (u : Value) (w w' : World) (h : SE0 v i u w) (_hk : Keep NoB w w') : SE0 v i u w' := by
  unfold SE0 at h ⊢
  split at h <;> exact h
theorem FnAt.keepA {w w' w0 : World} {O : Nat → Prop} {v : FV} {f : Fu} (h : FnAt w v f) (hk : Keep O w w') (h0 : FnAt w0 v f) (hO : ∀ k, k < w0.heap.size → ¬ O k) : FnAt w' v f := by
  have hr : ∀ {A : Option Addr} {xs : List Value}, Rd w A xs → Rd w0 A xs → Rd w' A xs := fun h1 h2 hx => by
    obtain ⟨g, off, e, hc⟩ := h2 hx
    obtain ⟨g', off', e', hc'⟩ := h1 hx
    rw [e] at e'
    injection e' with e'
    injection e' with e1 e2
    subst e1 e2
    refine ⟨g, off, e, fun j u hu => hk.cell (hc' j u hu) (fun ho => ?_)⟩
    have := World.block_lt_of_cell? w0 _ (hc j u hu)
    exact hO _ this ho
  exact ⟨h.nm, hr h.ra h0.ra, hr h.rb h0.rb, hr h.rl h0.rl, hr h.rd h0.rd, h.la, h.lb, h.ll, h.ld, h.hI⟩

set_option maxRecDepth 100000 in
set_option maxHeartbeats 8000000 in
theorem encodeF_any (v : FV) (f : Fu) (w : World) (h : FnAt w v f) (hs : SmF v) :
    Calls Tryz.prog 77 #[v.val] w (EncA w (encF f) (chkF f)) := by
  have bx := (Blk.new w 61 v.cells).alloc (.cells #[.slice none 0 0] 26)
  have by0 := Blk.new (w.alloc (.cells v.cells 61)) 26 #[.slice none 0 0]
  have k0 := (Keep.refl NoB w).alloc (.cells v.cells 61)
  have k1 := (Keep.refl NoB (w.alloc (.cells v.cells 61))).alloc (.cells #[.slice none 0 0] 26)
  rw [World.size_alloc] at by0
  have HN : Hid (∀ W, Keep (fun k => k = w.heap.size + 1) ((w.alloc (.cells v.cells 61)).alloc (.cells #[.slice none 0 0] 26)) W → FnAt W v f) := fun W hW => (h.keepN (keepN k0 k1)).keepA hW h (fun k hk e => by omega)
  have HF := Lib.hid (h.keepN (keepN k0 k1))
  have gK := keepN k0 k1
  obtain ⟨S, A, na, ca, B, nb, cb, L, nl, cl, D, nd, cd⟩ := v
  obtain ⟨q0, q1, q2, q3, q4⟩ := blk5 bx
  have HC := Lib.hid (fun W hf => check_any ⟨S, A, na, ca, B, nb, cb, L, nl, cl, D, nd, cd⟩ f W hf hs _ rfl)
  have HS := Lib.hid hs
  unfold FV.val FV.cells at *
  dsimp only at q0 q1 q2 q3 q4
  have HX := Lib.hid bx
  have HY := Lib.hid by0
  have hlo : w.heap.size + 2 ≤ ((w.alloc (.cells #[.string S, .slice A na ca, .slice B nb cb, .slice L nl cl, .slice D nd cd] 61)).alloc (.cells #[.slice none 0 0] 26)).heap.size := by simp
  clear h hs bx by0 k0 k1
  generalize hw1 : (w.alloc (.cells #[.string S, .slice A na ca, .slice B nb cb, .slice L nl cl, .slice D nd cd] 61)).alloc (.cells #[.slice none 0 0] 26) = w1 at HN HF gK q0 q1 q2 q3 q4 HX HY hlo
  have gK0 := gK
  clear gK
  cases ho : okF f
  · go_enter Tryz.func77, Tryz.ntmps77
    go_wp2_with fail
    clear hw1
    refine wp_region_props2 5 99 (NoB) (by kernel_rfl) (by kernel_rfl) (SE0 ⟨S, A, na, ca, B, nb, cb, L, nl, cl, D, nd, cd⟩) (fun i u x y _ h hk => SE0_stable _ i u x y h hk) (of_decide_eq_true rfl) ?step ?spec ?fin
    case step =>
      intro i o a w' hoo hic hF hK hA
      have hi : i < 21 := by simpa using (Array.getElem?_eq_some_iff.1 hoo).1
      by_cases h0 : i = 0
      · subst h0
        simp only [List.getElem?_toArray, List.getElem?_cons_zero, Option.some.injEq] at hoo
        subst hoo
        have e1 : a.tmps.getD 1 undef = .pointer (some ⟨w.heap.size, 0, none⟩) := hF.2.2 1 (.inl (by decide))
        have c0 := Keep.cell hK q0 id
        have c1 := Keep.cell hK q1 id
        have c2 := Keep.cell hK q2 id
        have c3 := Keep.cell hK q3 id
        have c4 := Keep.cell hK q4 id
        refine Does.plain rfl ?_
        unfold yieldsK
        go_simp
        exact ⟨rfl, Keep.refl _ _⟩
      by_cases h1 : i = 1
      · subst h1
        simp only [List.getElem?_toArray, List.getElem?_cons_zero, List.getElem?_cons_succ, Option.some.injEq] at hoo
        subst hoo
        have e5 : a.tmps.getD 5 undef = .agg #[.string S, .slice A na ca, .slice B nb cb, .slice L nl cl, .slice D nd cd] := hA ⟨0, .data⟩ (by simp) rfl
        refine Does.plain rfl ?_
        unfold yieldsK
        go_simp
        refine (HC.out w' ?_).mono ?_
        · exact HF.out.keepN hK
        · rintro e w2 ⟨rfl, h2⟩
          exact ⟨_, rfl, by rw [chkF_no ho]; rfl, h2⟩
      by_cases h2 : i = 2
      · subst h2
        simp only [List.getElem?_toArray, List.getElem?_cons_zero, List.getElem?_cons_succ, Option.some.injEq] at hoo
        subst hoo
        have e6 : a.tmps.getD 6 undef = .int .i64 70 := hA ⟨1, .data⟩ (by simp) rfl
        refine Does.plain rfl ?_
        unfold yieldsK
        go_simp
        exact ⟨rfl, Keep.refl _ _⟩
      by_cases h3 : i = 3
      · subst h3
        simp only [List.getElem?_toArray, List.getElem?_cons_zero, List.getElem?_cons_succ, Option.some.injEq] at hoo
        subst hoo
        have e7 : a.tmps.getD 7 undef = .bool true := hA ⟨2, .data⟩ (by simp) rfl
        refine Does.plain rfl ?_
        unfold yieldsK
        go_simp
        exact ⟨rfl, Keep.refl _ _⟩
      by_cases h4 : i = 4
      · subst h4
        simp only [List.getElem?_toArray, List.getElem?_cons_zero, List.getElem?_cons_succ, Option.some.injEq] at hoo
        subst hoo
        refine Does.no (j := 3) (d := 8) (want := false) rfl rfl (hA ⟨3, .guard⟩ (by simp) rfl) ?_
        exact ⟨trivial, Keep.refl _ _⟩
      by_cases h5 : i = 5
      · subst h5
        simp only [List.getElem?_toArray, List.getElem?_cons_zero, List.getElem?_cons_succ, Option.some.injEq] at hoo
        subst hoo
        refine Does.no (j := 3) (d := 8) (want := false) rfl rfl (hA ⟨3, .guard⟩ (by simp) rfl) ?_
        exact ⟨trivial, Keep.refl _ _⟩
      by_cases h6 : i = 6
      · subst h6
        simp only [List.getElem?_toArray, List.getElem?_cons_zero, List.getElem?_cons_succ, Option.some.injEq] at hoo
        subst hoo
        refine Does.no (j := 3) (d := 8) (want := false) rfl rfl (hA ⟨3, .guard⟩ (by simp) rfl) ?_
        exact ⟨trivial, Keep.refl _ _⟩
      by_cases h7 : i = 7
      · subst h7
        simp only [List.getElem?_toArray, List.getElem?_cons_zero, List.getElem?_cons_succ, Option.some.injEq] at hoo
        subst hoo
        refine Does.no (j := 3) (d := 8) (want := false) rfl rfl (hA ⟨3, .guard⟩ (by simp) rfl) ?_
        exact ⟨trivial, Keep.refl _ _⟩
      by_cases h8 : i = 8
      · subst h8
        simp only [List.getElem?_toArray, List.getElem?_cons_zero, List.getElem?_cons_succ, Option.some.injEq] at hoo
        subst hoo
        refine Does.no (j := 3) (d := 8) (want := false) rfl rfl (hA ⟨3, .guard⟩ (by simp) rfl) ?_
        exact ⟨trivial, Keep.refl _ _⟩
      by_cases h9 : i = 9
      · subst h9
        simp only [List.getElem?_toArray, List.getElem?_cons_zero, List.getElem?_cons_succ, Option.some.injEq] at hoo
        subst hoo
        refine Does.no (j := 3) (d := 8) (want := false) rfl rfl (hA ⟨3, .guard⟩ (by simp) rfl) ?_
        exact ⟨trivial, Keep.refl _ _⟩
      by_cases h10 : i = 10
      · subst h10
        simp only [List.getElem?_toArray, List.getElem?_cons_zero, List.getElem?_cons_succ, Option.some.injEq] at hoo
        subst hoo
        refine Does.no (j := 3) (d := 8) (want := false) rfl rfl (hA ⟨3, .guard⟩ (by simp) rfl) ?_
        exact ⟨trivial, Keep.refl _ _⟩
      by_cases h11 : i = 11
      · subst h11
        simp only [List.getElem?_toArray, List.getElem?_cons_zero, List.getElem?_cons_succ, Option.some.injEq] at hoo
        subst hoo
        refine Does.no (j := 3) (d := 8) (want := false) rfl rfl (hA ⟨3, .guard⟩ (by simp) rfl) ?_
        exact ⟨trivial, Keep.refl _ _⟩
      by_cases h12 : i = 12
      · subst h12
        simp only [List.getElem?_toArray, List.getElem?_cons_zero, List.getElem?_cons_succ, Option.some.injEq] at hoo
        subst hoo
        refine Does.no (j := 3) (d := 8) (want := false) rfl rfl (hA ⟨3, .guard⟩ (by simp) rfl) ?_
        exact ⟨trivial, Keep.refl _ _⟩
      by_cases h13 : i = 13
      · subst h13
        simp only [List.getElem?_toArray, List.getElem?_cons_zero, List.getElem?_cons_succ, Option.some.injEq] at hoo
        subst hoo
        refine Does.no (j := 3) (d := 8) (want := false) rfl rfl (hA ⟨3, .guard⟩ (by simp) rfl) ?_
        exact ⟨trivial, Keep.refl _ _⟩
      by_cases h14 : i = 14
      · subst h14
        simp only [List.getElem?_toArray, List.getElem?_cons_zero, List.getElem?_cons_succ, Option.some.injEq] at hoo
        subst hoo
        refine Does.no (j := 3) (d := 8) (want := false) rfl rfl (hA ⟨3, .guard⟩ (by simp) rfl) ?_
        exact ⟨trivial, Keep.refl _ _⟩
      by_cases h15 : i = 15
      · subst h15
        simp only [List.getElem?_toArray, List.getElem?_cons_zero, List.getElem?_cons_succ, Option.some.injEq] at hoo
        subst hoo
        refine Does.no (j := 3) (d := 8) (want := false) rfl rfl (hA ⟨3, .guard⟩ (by simp) rfl) ?_
        exact ⟨trivial, Keep.refl _ _⟩
      by_cases h16 : i = 16
      · subst h16
        simp only [List.getElem?_toArray, List.getElem?_cons_zero, List.getElem?_cons_succ, Option.some.injEq] at hoo
        subst hoo
        refine Does.no (j := 3) (d := 8) (want := false) rfl rfl (hA ⟨3, .guard⟩ (by simp) rfl) ?_
        exact ⟨trivial, Keep.refl _ _⟩
      by_cases h17 : i = 17
      · subst h17
        simp only [List.getElem?_toArray, List.getElem?_cons_zero, List.getElem?_cons_succ, Option.some.injEq] at hoo
        subst hoo
        refine Does.no (j := 3) (d := 8) (want := false) rfl rfl (hA ⟨3, .guard⟩ (by simp) rfl) ?_
        exact ⟨trivial, Keep.refl _ _⟩
      by_cases h18 : i = 18
      · subst h18
        simp only [List.getElem?_toArray, List.getElem?_cons_zero, List.getElem?_cons_succ, Option.some.injEq] at hoo
        subst hoo
        refine Does.no (j := 3) (d := 8) (want := false) rfl rfl (hA ⟨3, .guard⟩ (by simp) rfl) ?_
        exact ⟨trivial, Keep.refl _ _⟩
      by_cases h19 : i = 19
      · subst h19
        simp only [List.getElem?_toArray, List.getElem?_cons_zero, List.getElem?_cons_succ, Option.some.injEq] at hoo
        subst hoo
        refine Does.no (j := 3) (d := 8) (want := false) rfl rfl (hA ⟨3, .guard⟩ (by simp) rfl) ?_
        exact ⟨trivial, Keep.refl _ _⟩
      by_cases h20 : i = 20
      · subst h20
        simp only [List.getElem?_toArray, List.getElem?_cons_zero, List.getElem?_cons_succ, Option.some.injEq] at hoo
        subst hoo
        have e8 : a.tmps.getD 8 undef = .bool true := hA ⟨3, .data⟩ (by simp) rfl
        refine Does.plain rfl ?_
        unfold yieldsK
        go_simp
        exact ⟨rfl, Keep.refl _ _⟩
      omega
    case spec =>
      intro o a w' hoo
      simp at hoo
    case fin =>
      intro a w' hF gK hA
      have e25 : a.tmps.getD (5 + 20) undef = .bool true := hA 20 (by decide)
      have ha := frame_fill (n := 21) hF (of_decide_eq_true rfl)
      rw [ha]
      rw [show List.range 21 = [0, 1, 2, 3, 4, 5, 6, 7, 8, 9, 10, 11, 12, 13, 14, 15, 16, 17, 18, 19, 20] from rfl]
      simp only [List.map_cons, List.map_nil, e25]
      generalize a.tmps.getD (5 + 0) undef = u0
      generalize a.tmps.getD (5 + 1) undef = u1
      generalize a.tmps.getD (5 + 2) undef = u2
      generalize a.tmps.getD (5 + 3) undef = u3
      generalize a.tmps.getD (5 + 4) undef = u4
      generalize a.tmps.getD (5 + 5) undef = u5
      generalize a.tmps.getD (5 + 6) undef = u6
      generalize a.tmps.getD (5 + 7) undef = u7
      generalize a.tmps.getD (5 + 8) undef = u8
      generalize a.tmps.getD (5 + 9) undef = u9
      generalize a.tmps.getD (5 + 10) undef = u10
      generalize a.tmps.getD (5 + 11) undef = u11
      generalize a.tmps.getD (5 + 12) undef = u12
      generalize a.tmps.getD (5 + 13) undef = u13
      generalize a.tmps.getD (5 + 14) undef = u14
      generalize a.tmps.getD (5 + 15) undef = u15
      generalize a.tmps.getD (5 + 16) undef = u16
      generalize a.tmps.getD (5 + 17) undef = u17
      generalize a.tmps.getD (5 + 18) undef = u18
      generalize a.tmps.getD (5 + 19) undef = u19
      simp only [fillT, List.setIfInBounds_toArray, List.set_cons_zero, List.set_cons_succ]
      have HK9 := Lib.hid (keepN gK0 gK)
      clear gK hA hF ha e25 HN HF HC HS HX HY q0 q1 q2 q3 q4 gK0 hlo
      go_wp2
      go_ret2
      exact ⟨_, by rw [chkF_no ho]; rfl, by rw [encF_no ho]; exact V.OwnB.nil _ _, HK9.out⟩
  · go_enter Tryz.func77, Tryz.ntmps77
    go_wp2_with fail
    clear hw1
    refine wp_region_props4 5 18 (fun k => k = w.heap.size + 1) (fun i => decide (18 ≤ i)) (by kernel_rfl) (by kernel_rfl) (by kernel_rfl) (SE ⟨S, A, na, ca, B, nb, cb, L, nl, cl, D, nd, cd⟩ f w.heap.size (w.heap.size + 1) (w.heap.size + 2) w1) (fun i u x y h1 _ _ h hk => SE_stable1 _ _ _ _ _ _ _ i u x y h1 h hk (fun k hk e => by omega)) (fun i u x y _ h hk => SE_stable2 _ _ _ _ _ _ i u x y h hk) (of_decide_eq_true rfl) ?step ?spec ?fin
    case step =>
      intro i o a w' hoo hic hF hK hA
      have hi : i < 21 := by simpa using (Array.getElem?_eq_some_iff.1 hoo).1
      by_cases h0 : i = 0
      · subst h0
        simp only [List.getElem?_toArray, List.getElem?_cons_zero, Option.some.injEq] at hoo
        subst hoo
        have e1 : a.tmps.getD 1 undef = .pointer (some ⟨w.heap.size, 0, none⟩) := hF.2.2 1 (.inl (by decide))
        have c0 := Keep.cell hK q0 (fun e => by simp at e)
        have c1 := Keep.cell hK q1 (fun e => by simp at e)
        have c2 := Keep.cell hK q2 (fun e => by simp at e)
        have c3 := Keep.cell hK q3 (fun e => by simp at e)
        have c4 := Keep.cell hK q4 (fun e => by simp at e)
        refine Does.plain rfl ?_
        unfold yieldsK
        go_simp
        exact ⟨rfl, Keep.refl _ _⟩
      by_cases h1 : i = 1
      · subst h1
        simp only [List.getElem?_toArray, List.getElem?_cons_zero, List.getElem?_cons_succ, Option.some.injEq] at hoo
        subst hoo
        have e5 : a.tmps.getD 5 undef = .agg #[.string S, .slice A na ca, .slice B nb cb, .slice L nl cl, .slice D nd cd] := hA ⟨0, .data⟩ (by simp) rfl
        refine Does.plain rfl ?_
        unfold yieldsK
        go_simp
        refine (HC.out w' ?_).mono ?_
        · exact HN.out w' hK
        · rintro e w2 ⟨rfl, h2⟩
          exact ⟨_, rfl, by rw [chkF_ok ho]; rfl, h2⟩
      by_cases h2 : i = 2
      · subst h2
        simp only [List.getElem?_toArray, List.getElem?_cons_zero, List.getElem?_cons_succ, Option.some.injEq] at hoo
        subst hoo
        have e6 : a.tmps.getD 6 undef = .int .i64 0 := hA ⟨1, .data⟩ (by simp) rfl
        refine Does.plain rfl ?_
        unfold yieldsK
        go_simp
        exact ⟨rfl, Keep.refl _ _⟩
      by_cases h3 : i = 3
      · subst h3
        simp only [List.getElem?_toArray, List.getElem?_cons_zero, List.getElem?_cons_succ, Option.some.injEq] at hoo
        subst hoo
        have e7 : a.tmps.getD 7 undef = .bool false := hA ⟨2, .data⟩ (by simp) rfl
        refine Does.plain rfl ?_
        unfold yieldsK
        go_simp
        exact ⟨rfl, Keep.refl _ _⟩
      by_cases h4 : i = 4
      · subst h4
        simp only [List.getElem?_toArray, List.getElem?_cons_zero, List.getElem?_cons_succ, Option.some.injEq] at hoo
        subst hoo
        have e1 : a.tmps.getD 1 undef = .pointer (some ⟨w.heap.size, 0, none⟩) := hF.2.2 1 (.inl (by decide))
        refine Does.yes (j := 3) (d := 8) (want := false) rfl rfl (hA ⟨3, .guard⟩ (by simp) rfl) ?_
        unfold yieldsK
        go_simp
        exact ⟨rfl, Keep.refl _ _⟩
      by_cases h5 : i = 5
      · subst h5
        simp only [List.getElem?_toArray, List.getElem?_cons_zero, List.getElem?_cons_succ, Option.some.injEq] at hoo
        subst hoo
        have e9 : a.tmps.getD 9 undef = .pointer (some ⟨w.heap.size, 0, none⟩) := hA ⟨4, .data⟩ (by simp) rfl
        have c0 := Keep.cell hK q0 (fun e => by simp at e)
        refine Does.yes (j := 3) (d := 8) (want := false) rfl rfl (hA ⟨3, .guard⟩ (by simp) rfl) ?_
        unfold yieldsK
        go_simp
        exact ⟨rfl, Keep.refl _ _⟩
      by_cases h6 : i = 6
      · subst h6
        simp only [List.getElem?_toArray, List.getElem?_cons_zero, List.getElem?_cons_succ, Option.some.injEq] at hoo
        subst hoo
        have e10 : a.tmps.getD 10 undef = .string S := hA ⟨5, .data⟩ (by simp) rfl
        have e4 : a.tmps.getD 4 undef = .pointer (some ⟨w.heap.size + 1, 0, none⟩) := hF.2.2 4 (.inl (by decide))
        refine Does.yes (j := 3) (d := 8) (want := false) rfl rfl (hA ⟨3, .guard⟩ (by simp) rfl) ?_
        unfold yieldsK
        go_simp
        refine (writesStr_any 127 (w.heap.size + 1) (w.heap.size + 2) S w' (Nat.le_trans hlo hK.size)).mono ?_
        rintro e w2 ⟨u, rfl, h1, h2⟩
        exact ⟨_, rfl, h1, h2⟩
      by_cases h7 : i = 7
      · subst h7
        simp only [List.getElem?_toArray, List.getElem?_cons_zero, List.getElem?_cons_succ, Option.some.injEq] at hoo
        subst hoo
        have e1 : a.tmps.getD 1 undef = .pointer (some ⟨w.heap.size, 0, none⟩) := hF.2.2 1 (.inl (by decide))
        refine Does.yes (j := 3) (d := 8) (want := false) rfl rfl (hA ⟨3, .guard⟩ (by simp) rfl) ?_
        unfold yieldsK
        go_simp
        exact ⟨rfl, Keep.refl _ _⟩
      by_cases h8 : i = 8
      · subst h8
        simp only [List.getElem?_toArray, List.getElem?_cons_zero, List.getElem?_cons_succ, Option.some.injEq] at hoo
        subst hoo
        have e12 : a.tmps.getD 12 undef = .pointer (some ⟨w.heap.size, 1, none⟩) := hA ⟨7, .data⟩ (by simp) rfl
        have c1 := Keep.cell hK q1 (fun e => by simp at e)
        have c2 := Keep.cell hK q2 (fun e => by simp at e)
        refine Does.yes (j := 3) (d := 8) (want := false) rfl rfl (hA ⟨3, .guard⟩ (by simp) rfl) ?_
        unfold yieldsK
        go_simp
        exact ⟨rfl, Keep.refl _ _⟩
      by_cases h9 : i = 9
      · subst h9
        simp only [List.getElem?_toArray, List.getElem?_cons_zero, List.getElem?_cons_succ, Option.some.injEq] at hoo
        subst hoo
        have e13 : a.tmps.getD 13 undef = .agg #[.slice A na ca, .slice B nb cb] := hA ⟨8, .data⟩ (by simp) rfl
        have e4 : a.tmps.getD 4 undef = .pointer (some ⟨w.heap.size + 1, 0, none⟩) := hF.2.2 4 (.inl (by decide))
        refine Does.yes (j := 3) (d := 8) (want := false) rfl rfl (hA ⟨3, .guard⟩ (by simp) rfl) ?_
        unfold yieldsK
        go_simp
        refine (writesSig_any 129 (w.heap.size + 1) (w.heap.size + 2) (.slice A na ca) (.slice B nb cb) w' (Nat.le_trans hlo hK.size)).mono ?_
        rintro e w2 ⟨u, rfl, h1, h2⟩
        exact ⟨_, rfl, h1, h2⟩
      by_cases h10 : i = 10
      · subst h10
        simp only [List.getElem?_toArray, List.getElem?_cons_zero, List.getElem?_cons_succ, Option.some.injEq] at hoo
        subst hoo
        have e1 : a.tmps.getD 1 undef = .pointer (some ⟨w.heap.size, 0, none⟩) := hF.2.2 1 (.inl (by decide))
        refine Does.yes (j := 3) (d := 8) (want := false) rfl rfl (hA ⟨3, .guard⟩ (by simp) rfl) ?_
        unfold yieldsK
        go_simp
        exact ⟨rfl, Keep.refl _ _⟩
      by_cases h11 : i = 11
      · subst h11
        simp only [List.getElem?_toArray, List.getElem?_cons_zero, List.getElem?_cons_succ, Option.some.injEq] at hoo
        subst hoo
        have e15 : a.tmps.getD 15 undef = .pointer (some ⟨w.heap.size, 3, none⟩) := hA ⟨10, .data⟩ (by simp) rfl
        have c3 := Keep.cell hK q3 (fun e => by simp at e)
        refine Does.yes (j := 3) (d := 8) (want := false) rfl rfl (hA ⟨3, .guard⟩ (by simp) rfl) ?_
        unfold yieldsK
        go_simp
        exact ⟨rfl, Keep.refl _ _⟩
      by_cases h12 : i = 12
      · subst h12
        simp only [List.getElem?_toArray, List.getElem?_cons_zero, List.getElem?_cons_succ, Option.some.injEq] at hoo
        subst hoo
        have e16 : a.tmps.getD 16 undef = .slice L nl cl := hA ⟨11, .data⟩ (by simp) rfl
        refine Does.yes (j := 3) (d := 8) (want := false) rfl rfl (hA ⟨3, .guard⟩ (by simp) rfl) ?_
        unfold yieldsK
        go_simp
        refine (taking_any L nl cl w').mono ?_
        rintro e w2 ⟨rfl, h2⟩
        exact ⟨_, rfl, rfl, h2⟩
      by_cases h13 : i = 13
      · subst h13
        simp only [List.getElem?_toArray, List.getElem?_cons_zero, List.getElem?_cons_succ, Option.some.injEq] at hoo
        subst hoo
        have e17 : a.tmps.getD 17 undef = .agg #[.slice L nl cl, .slice none 0 0] := hA ⟨12, .data⟩ (by simp) rfl
        have e4 : a.tmps.getD 4 undef = .pointer (some ⟨w.heap.size + 1, 0, none⟩) := hF.2.2 4 (.inl (by decide))
        refine Does.yes (j := 3) (d := 8) (want := false) rfl rfl (hA ⟨3, .guard⟩ (by simp) rfl) ?_
        unfold yieldsK
        go_simp
        refine (writesSig_any 129 (w.heap.size + 1) (w.heap.size + 2) (.slice L nl cl) (.slice none 0 0) w' (Nat.le_trans hlo hK.size)).mono ?_
        rintro e w2 ⟨u, rfl, h1, h2⟩
        exact ⟨_, rfl, h1, h2⟩
      by_cases h14 : i = 14
      · subst h14
        simp only [List.getElem?_toArray, List.getElem?_cons_zero, List.getElem?_cons_succ, Option.some.injEq] at hoo
        subst hoo
        have e1 : a.tmps.getD 1 undef = .pointer (some ⟨w.heap.size, 0, none⟩) := hF.2.2 1 (.inl (by decide))
        refine Does.yes (j := 3) (d := 8) (want := false) rfl rfl (hA ⟨3, .guard⟩ (by simp) rfl) ?_
        unfold yieldsK
        go_simp
        exact ⟨rfl, Keep.refl _ _⟩
      by_cases h15 : i = 15
      · subst h15
        simp only [List.getElem?_toArray, List.getElem?_cons_zero, List.getElem?_cons_succ, Option.some.injEq] at hoo
        subst hoo
        have e19 : a.tmps.getD 19 undef = .pointer (some ⟨w.heap.size, 4, none⟩) := hA ⟨14, .data⟩ (by simp) rfl
        have c4 := Keep.cell hK q4 (fun e => by simp at e)
        refine Does.yes (j := 3) (d := 8) (want := false) rfl rfl (hA ⟨3, .guard⟩ (by simp) rfl) ?_
        unfold yieldsK
        go_simp
        exact ⟨rfl, Keep.refl _ _⟩
      by_cases h16 : i = 16
      · subst h16
        simp only [List.getElem?_toArray, List.getElem?_cons_zero, List.getElem?_cons_succ, Option.some.injEq] at hoo
        subst hoo
        have e20 : a.tmps.getD 20 undef = .slice D nd cd := hA ⟨15, .data⟩ (by simp) rfl
        have e4 : a.tmps.getD 4 undef = .pointer (some ⟨w.heap.size + 1, 0, none⟩) := hF.2.2 4 (.inl (by decide))
        refine Does.yes (j := 3) (d := 8) (want := false) rfl rfl (hA ⟨3, .guard⟩ (by simp) rfl) ?_
        unfold yieldsK
        go_simp
        refine (writesBod_any 131 (w.heap.size + 1) (w.heap.size + 2) D nd cd w' (Nat.le_trans hlo hK.size)).mono ?_
        rintro e w2 ⟨u, rfl, h1, h2⟩
        exact ⟨_, rfl, h1, h2⟩
      by_cases h17 : i = 17
      · subst h17
        simp only [List.getElem?_toArray, List.getElem?_cons_zero, List.getElem?_cons_succ, Option.some.injEq] at hoo
        subst hoo
        obtain ⟨c0, p0, t0, e11, m0, a0, b0, d0⟩ := hA ⟨6, .data⟩ (by simp) rfl
        have e11 : a.tmps.getD 11 undef = askV 170 #[.pointer (some ⟨c0, 0, none⟩), .pointer (some ⟨p0, 0, none⟩), .pointer (some ⟨t0, 0, none⟩)] := e11
        obtain ⟨c1, p1, t1, e14, m1, a1, b1, d1⟩ := hA ⟨9, .data⟩ (by simp) rfl
        have e14 : a.tmps.getD 14 undef = askV 172 #[.pointer (some ⟨c1, 0, none⟩), .pointer (some ⟨p1, 0, none⟩), .pointer (some ⟨t1, 0, none⟩)] := e14
        obtain ⟨c2, p2, t2, e18, m2, a2, b2, d2⟩ := hA ⟨13, .data⟩ (by simp) rfl
        have e18 : a.tmps.getD 18 undef = askV 172 #[.pointer (some ⟨c2, 0, none⟩), .pointer (some ⟨p2, 0, none⟩), .pointer (some ⟨t2, 0, none⟩)] := e18
        obtain ⟨c3, p3, t3, e21, m3, a3, b3, d3⟩ := hA ⟨16, .data⟩ (by simp) rfl
        have e21 : a.tmps.getD 21 undef = askV 174 #[.pointer (some ⟨c3, 0, none⟩), .pointer (some ⟨p3, 0, none⟩), .pointer (some ⟨t3, 0, none⟩)] := e21
        refine Does.yes (j := 3) (d := 8) (want := false) rfl rfl (hA ⟨3, .guard⟩ (by simp) rfl) ?_
        unfold yieldsK
        unfold askV at *
        simp only [Array.getD_eq_getD_getElem?] at e11 e14 e18 e21
        go_simp
        refine ⟨⟨w'.heap.size, _, _, _, _, rfl, Nat.le_trans hlo hK.size, Blk.new _ _ _, ⟨c0, p0, t0, rfl, m0, a0.alloc _, b0.alloc _, d0.alloc _⟩, ⟨c1, p1, t1, rfl, m1, a1.alloc _, b1.alloc _, d1.alloc _⟩, ⟨c2, p2, t2, rfl, m2, a2.alloc _, b2.alloc _, d2.alloc _⟩, ⟨c3, p3, t3, rfl, m3, a3.alloc _, b3.alloc _, d3.alloc _⟩⟩, (Keep.refl _ _).alloc _⟩
      by_cases h19 : i = 19
      · subst h19
        simp only [List.getElem?_toArray, List.getElem?_cons_zero, List.getElem?_cons_succ, Option.some.injEq] at hoo
        subst hoo
        obtain ⟨e23, _⟩ := hA ⟨18, .data⟩ (by simp) rfl
        have e23 : a.tmps.getD 23 undef = .bool true := e23
        refine Does.yes (j := 3) (d := 8) (want := false) rfl rfl (hA ⟨3, .guard⟩ (by simp) rfl) ?_
        unfold yieldsK
        go_simp
        exact ⟨rfl, Keep.refl _ _⟩
      by_cases h20 : i = 20
      · subst h20
        simp only [List.getElem?_toArray, List.getElem?_cons_zero, List.getElem?_cons_succ, Option.some.injEq] at hoo
        subst hoo
        have e8 : a.tmps.getD 8 undef = .bool false := hA ⟨3, .data⟩ (by simp) rfl
        have e24 : a.tmps.getD 24 undef = .bool false := hA ⟨19, .data⟩ (by simp) rfl
        refine Does.plain rfl ?_
        unfold yieldsK
        go_simp
        exact ⟨rfl, Keep.refl _ _⟩
      omega
    case spec =>
      intro o a w' hoo hF hK hA
      simp only [List.getElem?_toArray, List.getElem?_cons_zero, List.getElem?_cons_succ, Option.some.injEq] at hoo
      subst hoo
      obtain ⟨g, u0, u1, u2, u3, e22, hm, hb, a0, a1, a2, a3⟩ := hA ⟨17, .data⟩ (by simp) rfl
      have e22 : a.tmps.getD 22 undef = .slice (some ⟨g, 0, none⟩) 4 4 := e22
      refine Does.yes (j := 3) (d := 8) (want := false) rfl rfl (hA ⟨3, .guard⟩ (by simp) rfl) ?_
      unfold yieldsK
      go_simp
      refine (writing_any ⟨S, A, na, ca, B, nb, cb, L, nl, cl, D, nd, cd⟩ f w' (w.heap.size + 1) (w.heap.size + 2) (fun W hW => HN.out W ((hK.mono (fun _ hf _ => hf.elim)).trans hW (fun _ h _ => h))) HS.out ho (HY.out.keep hK id) g u0 u1 u2 u3 hb a0 a1 a2 a3).mono ?_
      rintro e w2 ⟨rfl, hB⟩
      exact ⟨_, rfl, ⟨rfl, w', hK, hB⟩, hB.1⟩
    case fin =>
      intro a w' hF gK hA
      have e25 : a.tmps.getD (5 + 20) undef = .bool false := hA 20 (by decide)
      obtain ⟨_, W2, k2, hB⟩ := hA 18 (by decide)
      have ha := frame_fill (n := 21) hF (of_decide_eq_true rfl)
      rw [ha]
      rw [show List.range 21 = [0, 1, 2, 3, 4, 5, 6, 7, 8, 9, 10, 11, 12, 13, 14, 15, 16, 17, 18, 19, 20] from rfl]
      simp only [List.map_cons, List.map_nil, e25]
      generalize a.tmps.getD (5 + 0) undef = u0
      generalize a.tmps.getD (5 + 1) undef = u1
      generalize a.tmps.getD (5 + 2) undef = u2
      generalize a.tmps.getD (5 + 3) undef = u3
      generalize a.tmps.getD (5 + 4) undef = u4
      generalize a.tmps.getD (5 + 5) undef = u5
      generalize a.tmps.getD (5 + 6) undef = u6
      generalize a.tmps.getD (5 + 7) undef = u7
      generalize a.tmps.getD (5 + 8) undef = u8
      generalize a.tmps.getD (5 + 9) undef = u9
      generalize a.tmps.getD (5 + 10) undef = u10
      generalize a.tmps.getD (5 + 11) undef = u11
      generalize a.tmps.getD (5 + 12) undef = u12
      generalize a.tmps.getD (5 + 13) undef = u13
      generalize a.tmps.getD (5 + 14) undef = u14
      generalize a.tmps.getD (5 + 15) undef = u15
      generalize a.tmps.getD (5 + 16) undef = u16
      generalize a.tmps.getD (5 + 17) undef = u17
      generalize a.tmps.getD (5 + 18) undef = u18
      generalize a.tmps.getD (5 + 19) undef = u19
      simp only [fillT, List.setIfInBounds_toArray, List.set_cons_zero, List.set_cons_succ]
      obtain ⟨kb, u, hbu, hO⟩ := hB
      obtain ⟨A9, c9, rfl, _, _, _, _⟩ := hO.form
      have z0 := hbu.cell 0
      have HK9 := Lib.hid ((keepN gK0 k2).trans kb (fun k e hk => by omega))
      have HO9 := Lib.hid (hO.mono (fun k (hf : Fresh W2 k) _ => (Nat.le_trans (keepN gK0 k2).size hf : Fresh w k)))
      simp only [List.getElem?_toArray, List.getElem?_cons_zero] at z0
      clear gK hA hF ha e25 HN HF HC HS HX HY q0 q1 q2 q3 q4 kb hbu hO k2 gK0 hlo
      go_wp2
      go_ret2
      exact ⟨_, by rw [chkF_ok ho]; rfl, by rw [encF_ok ho]; exact HO9.out, HK9.out⟩

end Go.Proofs.YtgifflfjhockaaaGreatDoor.F

namespace Go.Proofs.YtgifflfjhockaaaGreatDoor.I
open Go.RowKit W

theorem blk_app {wr w' : World} {g : Nat} {t : TypeId} {cs : Array Value} {O : Nat → Prop} {v : Value} {xs : List UInt8} (hO : V.OwnB wr O v xs) (hb : Blk wr g t cs) (ht : t ≠ 5) (hg : wr.grownBy w' v.ownBlock) : Blk w' g t cs :=
  hb.grown hg (fun e => (V.OwnB.not_blk hO hb ht) e.symm)

/-- The bytes of the first ones. -/
def wrBS (n : Nat) (l : List SE) : List UInt8 := V.encL n ++ l.flatMap fun e => S.bytesT e.2
theorem wrBS_take {n k : Nat} {l : List SE} (h : k < l.length) : wrBS n (l.take (k + 1)) = wrBS n (l.take k) ++ S.bytesT l[k].2 := by
  unfold wrBS; rw [List.take_succ_eq_append_getElem h, List.flatMap_append, List.append_assoc]; simp
theorem wrBS_len {n : Nat} {l : List SE} (h : ∀ e ∈ l, (S.bytesT e.2).length ≤ 20000) : (wrBS n l).length ≤ 9 + 20000 * l.length := by
  unfold wrBS
  have h1 := V.encL_len n
  have : (l.flatMap fun e => S.bytesT e.2).length ≤ 20000 * l.length := by
    clear h1
    induction l with
    | nil => simp
    | cons x l ih =>
      have h2 := ih (fun e he => h e (List.mem_cons_of_mem _ he))
      have h3 := h x (List.mem_cons_self ..)
      rw [List.flatMap_cons, List.length_append, List.length_cons]; omega
  rw [List.length_append]; omega
set_option maxRecDepth 100000 in
set_option maxHeartbeats 4000000 in
theorem writeS_any (A : Option Addr) (es : List SE) (n c : Nat) (w : World) (hr : Hid (∀ W, Keep NoB w W → Rd W A (svs es))) (hn : Hid (es.length = n)) (hm : n ≤ 64) (hlen : Hid (∀ e ∈ es, (S.bytesT e.2).length ≤ 20000))
    (hc : Hid (∀ e ∈ es, ∀ W, Keep NoB w W → Calls Tryz.prog 73 #[e.1.val] W fun r W' => ∃ v, r = .returned (.tuple #[v, .int .i64 0]) ∧ V.OwnB W' (Fresh W) v (S.bytesT e.2) ∧ Keep NoB W W')) :
    Calls Tryz.prog 36 #[.slice A n c, partS] w fun e w' => ∃ v, e = .returned v ∧ V.OwnB w' (Fresh w) v (wrBS n es) ∧ Keep NoB w w' := by
  have bz := (Blk.new w 86 #[.int .i64 0, .int .i64 64, F.fnV 72, F.fnV 73, F.fnV 74, F.fnV 75]).alloc (.cells #[.pointer none, .int .i64 0] 134)
  have k0 := (Keep.refl NoB w).alloc (.cells #[.int .i64 0, .int .i64 64, F.fnV 72, F.fnV 73, F.fnV 74, F.fnV 75] 86)
  have gK := k0.alloc (.cells #[.pointer none, .int .i64 0] 134)
  have ht := V.TapeAt.new (w.alloc (.cells #[.int .i64 0, .int .i64 64, F.fnV 72, F.fnV 73, F.fnV 74, F.fnV 75] 86))
  simp only [World.size_alloc] at ht
  have hw64 := C.wrap_n (n := n) (by omega)
  have hl0 := V.encL_len n
  have HT := Lib.hid (V.tnumber_any _ (w.heap.size + 1) _ [] n ht (fun k e => by subst e; simp) (by simp))
  rw [List.nil_append] at HT
  have HZ := Lib.hid bz
  unfold partS F.fnV at *
  clear bz k0 ht
  go_enter Tryz.func36, Tryz.ntmps36
  go_wp2_with fail
  refine HT.out.mono ?_
  rintro e w2 ⟨rfl, ht2, k2⟩
  have hZ2 := HZ.out.keep k2 (by show ¬ (w.heap.size = w.heap.size + 1); omega)
  replace gK := gK.trans k2 (fun k e hl => by omega)
  go_wp2_with (go_at_call 71; refine (V.all_any w2 (w.heap.size + 1) _ (V.encL n) ht2 (by omega)).mono ?_; rintro e w3 ⟨v3, rfl, h3, k3⟩)
  have h3' := C.ownB_older h3 gK
  replace gK := keepN gK k3
  have hZ3 := hZ2.keep k3 id
  have HZ3 := Lib.hid hZ3
  clear ht2 h3 k3 k2 hZ2 hZ3 HZ HT
  go_loopw [6, 18] (fun v i wr => ∃ k : Nat, k ≤ n ∧ i = .int .i64 k ∧ V.OwnB wr (Fresh w) v (wrBS n (es.take k)) ∧ Keep NoB w wr ∧ Hid (Blk wr w.heap.size 86 #[.int .i64 0, .int .i64 64, .func (.func 72) #[] #[], .func (.func 73) #[] #[], .func (.func 74) #[] #[], .func (.func 75) #[] #[]])) (fun _ i _ => n - (intOf i).toNat)
  case atStart => exact ⟨0, Nat.zero_le _, rfl, by rw [List.take_zero]; simpa [wrBS] using h3', gK, HZ3.out⟩
  case round =>
    obtain ⟨k, hk, rfl, hO, hK, hZ⟩ := hrel
    clear h3' gK HZ3
    by_cases hlt : k < n
    · have hkl : k < es.length := by rw [hn.out]; exact hlt
      obtain ⟨g, off, rfl, c0⟩ := shape_at (hr.out _ hK) hkl
      have HX := Lib.hid (wrBS_take (n := n) hkl)
      have hl1 : (wrBS n (es.take k)).length ≤ 9 + 20000 * 64 := by
        have := wrBS_len (n := n) (l := es.take k) (fun e he => hlen.out e (List.mem_of_mem_take he))
        have := List.length_take_le k es
        omega
      have hl2 := hlen.out _ (List.getElem_mem hkl)
      have HE := Lib.hid (fun W hk => hc.out _ (List.getElem_mem hkl) W (keepN hK hk))
      generalize es[k] = e at c0 HX hl2 HE
      obtain ⟨⟨A1, n1, e1⟩, l1⟩ := e
      dsimp only [SV.val] at c0 HX hl2 HE
      have hO1 := hO
      have hK1 := hK
      have hZ1 := hZ
      have z3 := hZ.out.cell 3
      simp only [List.getElem?_toArray, List.getElem?_cons_zero, List.getElem?_cons_succ] at z3
      clear hO hK hZ
      go_wp2_with fail
      refine (HE.out _ (Keep.refl _ _)).mono ?_
      rintro e w4 ⟨v4, rfl, h4, k4⟩
      obtain ⟨A9, cp9, rfl, _, hr4, _, _⟩ := h4.form
      have hO2 := O.own_keep hO1 k4
      have hK2 := keepN hK1 k4
      have HZ4 := Lib.hid (hZ1.out.keep k4 id)
      clear h4 k4 hO1 hK1 c0 hZ1
      go_wp2_with (at_builtin; refine V.wpList_append_rd _ rfl _ _ rfl _ (wrBS n (es.take k)) (S.bytesT l1) A9 cp9 rfl hO2.1 rfl hr4 (by omega) ?_; intro v5 w5 hown hg hat; obtain ⟨hO3, hK3⟩ := O.own_app hO2 hK2 hown hg hat; rw [← HX.out] at hO3; have HZ5 := Lib.hid (blk_app hO2 HZ4.out (by decide) hg); clear hown hg hat)
      go_roundw
      case rel => exact ⟨k + 1, by omega, by go_num, hO3, hK3, HZ5.out⟩
      case measure => simp [intOf]; omega
    · obtain rfl : k = n := by omega
      rw [List.take_of_length_le (by rw [hn.out]; exact Nat.le_refl _)] at hO
      go_wp2
      go_ret
      exact ⟨_, rfl, hO, hK⟩

/-- The bytes of the first ones. -/
def wrBF (n : Nat) (l : List FE) : List UInt8 := V.encL n ++ l.flatMap fun e => F.bytesF e.2
theorem wrBF_take {n k : Nat} {l : List FE} (h : k < l.length) : wrBF n (l.take (k + 1)) = wrBF n (l.take k) ++ F.bytesF l[k].2 := by
  unfold wrBF; rw [List.take_succ_eq_append_getElem h, List.flatMap_append, List.append_assoc]; simp
theorem wrBF_len {n : Nat} {l : List FE} (h : ∀ e ∈ l, (F.bytesF e.2).length ≤ 20000) : (wrBF n l).length ≤ 9 + 20000 * l.length := by
  unfold wrBF
  have h1 := V.encL_len n
  have : (l.flatMap fun e => F.bytesF e.2).length ≤ 20000 * l.length := by
    clear h1
    induction l with
    | nil => simp
    | cons x l ih =>
      have h2 := ih (fun e he => h e (List.mem_cons_of_mem _ he))
      have h3 := h x (List.mem_cons_self ..)
      rw [List.flatMap_cons, List.length_append, List.length_cons]; omega
  rw [List.length_append]; omega
set_option maxRecDepth 100000 in
set_option maxHeartbeats 4000000 in
theorem writeF_any (A : Option Addr) (es : List FE) (n c : Nat) (w : World) (hr : Hid (∀ W, Keep NoB w W → Rd W A (fvs es))) (hn : Hid (es.length = n)) (hm : n ≤ 64) (hlen : Hid (∀ e ∈ es, (F.bytesF e.2).length ≤ 20000))
    (hc : Hid (∀ e ∈ es, ∀ W, Keep NoB w W → Calls Tryz.prog 77 #[e.1.val] W fun r W' => ∃ v, r = .returned (.tuple #[v, .int .i64 0]) ∧ V.OwnB W' (Fresh W) v (F.bytesF e.2) ∧ Keep NoB W W')) :
    Calls Tryz.prog 38 #[.slice A n c, partF] w fun e w' => ∃ v, e = .returned v ∧ V.OwnB w' (Fresh w) v (wrBF n es) ∧ Keep NoB w w' := by
  have bz := (Blk.new w 93 #[.int .i64 1, .int .i64 64, F.fnV 76, F.fnV 77, F.fnV 78, F.fnV 79]).alloc (.cells #[.pointer none, .int .i64 0] 134)
  have k0 := (Keep.refl NoB w).alloc (.cells #[.int .i64 1, .int .i64 64, F.fnV 76, F.fnV 77, F.fnV 78, F.fnV 79] 93)
  have gK := k0.alloc (.cells #[.pointer none, .int .i64 0] 134)
  have ht := V.TapeAt.new (w.alloc (.cells #[.int .i64 1, .int .i64 64, F.fnV 76, F.fnV 77, F.fnV 78, F.fnV 79] 93))
  simp only [World.size_alloc] at ht
  have hw64 := C.wrap_n (n := n) (by omega)
  have hl0 := V.encL_len n
  have HT := Lib.hid (V.tnumber_any _ (w.heap.size + 1) _ [] n ht (fun k e => by subst e; simp) (by simp))
  rw [List.nil_append] at HT
  have HZ := Lib.hid bz
  unfold partF F.fnV at *
  clear bz k0 ht
  go_enter Tryz.func38, Tryz.ntmps38
  go_wp2_with fail
  refine HT.out.mono ?_
  rintro e w2 ⟨rfl, ht2, k2⟩
  have hZ2 := HZ.out.keep k2 (by show ¬ (w.heap.size = w.heap.size + 1); omega)
  replace gK := gK.trans k2 (fun k e hl => by omega)
  go_wp2_with (go_at_call 71; refine (V.all_any w2 (w.heap.size + 1) _ (V.encL n) ht2 (by omega)).mono ?_; rintro e w3 ⟨v3, rfl, h3, k3⟩)
  have h3' := C.ownB_older h3 gK
  replace gK := keepN gK k3
  have hZ3 := hZ2.keep k3 id
  have HZ3 := Lib.hid hZ3
  clear ht2 h3 k3 k2 hZ2 hZ3 HZ HT
  go_loopw [6, 18] (fun v i wr => ∃ k : Nat, k ≤ n ∧ i = .int .i64 k ∧ V.OwnB wr (Fresh w) v (wrBF n (es.take k)) ∧ Keep NoB w wr ∧ Hid (Blk wr w.heap.size 93 #[.int .i64 1, .int .i64 64, .func (.func 76) #[] #[], .func (.func 77) #[] #[], .func (.func 78) #[] #[], .func (.func 79) #[] #[]])) (fun _ i _ => n - (intOf i).toNat)
  case atStart => exact ⟨0, Nat.zero_le _, rfl, by rw [List.take_zero]; simpa [wrBF] using h3', gK, HZ3.out⟩
  case round =>
    obtain ⟨k, hk, rfl, hO, hK, hZ⟩ := hrel
    clear h3' gK HZ3
    by_cases hlt : k < n
    · have hkl : k < es.length := by rw [hn.out]; exact hlt
      obtain ⟨g, off, rfl, c0, c1, c2, c3, c4⟩ := fun_at (hr.out _ hK) hkl
      have HX := Lib.hid (wrBF_take (n := n) hkl)
      have hl1 : (wrBF n (es.take k)).length ≤ 9 + 20000 * 64 := by
        have := wrBF_len (n := n) (l := es.take k) (fun e he => hlen.out e (List.mem_of_mem_take he))
        have := List.length_take_le k es
        omega
      have hl2 := hlen.out _ (List.getElem_mem hkl)
      have HE := Lib.hid (fun W hk => hc.out _ (List.getElem_mem hkl) W (keepN hK hk))
      generalize es[k] = e at c0 c1 c2 c3 c4 HX hl2 HE
      obtain ⟨⟨S1, A1, na1, ca1, B1, nb1, cb1, L1, nl1, cl1, D1, nd1, cd1⟩, l1⟩ := e
      dsimp only [F.FV.val, F.FV.cells] at c0 c1 c2 c3 c4 HX hl2 HE
      have kA := (Keep.refl NoB wr).alloc (.cells #[.string S1, .slice A1 na1 ca1, .slice B1 nb1 cb1, .slice L1 nl1 cl1, .slice D1 nd1 cd1] 61)
      have hO1 := O.own_keep hO kA
      have hK1 := keepN hK kA
      have hZ1 := Lib.hid (hZ.out.keep kA id)
      have z3 := hZ1.out.cell 3
      simp only [List.getElem?_toArray, List.getElem?_cons_zero, List.getElem?_cons_succ] at z3
      clear hO hK hZ
      go_wp2_with fail
      refine (HE.out _ kA).mono ?_
      rintro e w4 ⟨v4, rfl, h4, k4⟩
      obtain ⟨A9, cp9, rfl, _, hr4, _, _⟩ := h4.form
      have hO2 := O.own_keep hO1 k4
      have hK2 := keepN hK1 k4
      have HZ4 := Lib.hid (hZ1.out.keep k4 id)
      clear h4 k4 hO1 hK1 c0 c1 c2 c3 c4 hZ1
      go_wp2_with (at_builtin; refine V.wpList_append_rd _ rfl _ _ rfl _ (wrBF n (es.take k)) (F.bytesF l1) A9 cp9 rfl hO2.1 rfl hr4 (by omega) ?_; intro v5 w5 hown hg hat; obtain ⟨hO3, hK3⟩ := O.own_app hO2 hK2 hown hg hat; rw [← HX.out] at hO3; have HZ5 := Lib.hid (blk_app hO2 HZ4.out (by decide) hg); clear hown hg hat)
      go_roundw
      case rel => exact ⟨k + 1, by omega, by go_num, hO3, hK3, HZ5.out⟩
      case measure => simp [intOf]; omega
    · obtain rfl : k = n := by omega
      rw [List.take_of_length_le (by rw [hn.out]; exact Nat.le_refl _)] at hO
      go_wp2
      go_ret
      exact ⟨_, rfl, hO, hK⟩

end Go.Proofs.YtgifflfjhockaaaGreatDoor.I

namespace Go.Proofs.YtgifflfjhockaaaGreatDoor.I
open Go.RowKit W

theorem byte_info : (Tryz.prog.info? 5).map (fun i => (i.zero, i.size, i.bytes)) = some (some (.int .u8 0), 1, 1) := by kernel_rfl
set_option maxRecDepth 100000 in
set_option maxHeartbeats 2000000 in
theorem grow_any (n : Nat) (w : World) (h1 : 1 ≤ n) (h2 : n ≤ 140737488355328) : Calls Tryz.prog 69 #[.slice none 0 0, .int .i64 (n : Int)] w fun e w' => ∃ v, e = .returned v ∧ V.OwnB w' (Fresh w) v [] ∧ Keep NoB w w' := by
  obtain ⟨i0, hi, hz0, hz1, hz2⟩ := info_parts byte_info
  have happ := Lib.run_append_nil_zeros (P := Tryz.prog) w 26 3 26 5 i0 (.int .u8 0) .i64 .i64 Tryz.underlying26 Tryz.underlying3 hi hz0 n (by omega) (by rw [hz1]; omega) (by omega) (by rw [hz2]; omega)
  generalize hcap : grownCap w n 0 5 = cap2 at happ
  have hcapge : n ≤ cap2 := by rw [← hcap]; exact grownCap_ge w _ 0 5
  have hcaple : cap2 ≤ maxLen := by rw [← hcap]; exact grownCap_le_maxLen w _ 0 5 (by unfold maxLen; omega)
  generalize hZ : (Builtin.zeroCells (Value.int .u8 0).cells n ++ Builtin.zeroCells (Value.int .u8 0).cells (cap2 - n)) = Z at happ
  have hZs : Z.size = cap2 := by rw [← hZ]; simp [size_zeroCells, Value.cells]; omega
  have HZ : Hid (V.OwnB (w.drew.alloc (.cells Z 5)) (Fresh w) (.slice (some ⟨w.heap.size, 0, none⟩) 0 cap2) []) := ⟨⟨rfl, .inr ⟨w.heap.size, cap2, Z, rfl, Nat.zero_le _, heap_alloc_new w.drew _, Nat.zero_le _, hcaple, by rw [hZs, Nat.mul_one], by simp⟩⟩, fun g e => by cases e; exact Nat.le_refl _⟩
  have HK : Hid (Keep NoB w (w.drew.alloc (.cells Z 5))) := (Keep.refl NoB w).drew.alloc _
  clear hcap hZ hZs
  go_enter Tryz.func69, Tryz.ntmps69
  go_wp2_with (at_builtin; refine Lib.wpList_append_run _ rfl _ _ _ _ rfl _ _ rfl rfl _ _ happ ?_)
  go_ret
  exact ⟨_, rfl, HZ.out, HK.out⟩

/-- How many bytes there are. -/
theorem allB_len_take {ps : List PE} {k : Nat} (h : k < ps.length) : (allB (ps.take (k + 1))).length = (allB (ps.take k)).length + ps[k].2.length := by rw [allB_take h, List.length_append]
theorem allB_le {ps : List PE} (k : Nat) : (allB (ps.take k)).length ≤ (allB ps).length := by
  conv => rhs; rw [← List.take_append_drop k ps]
  unfold allB
  rw [List.flatMap_append, List.length_append]; omega

set_option maxRecDepth 100000 in
set_option maxHeartbeats 4000000 in
theorem concat_any (P : Option Addr) (ps : List PE) (m c : Nat) (w : World) (hr : Hid (∀ W, Keep NoB w W → Rd W P (pvs ps))) (hn : Hid (ps.length = m)) (hp : Hid (∀ e ∈ ps, ∀ W, Keep NoB w W → PartAt W e)) (hm : m ≤ 1000) (hl : (allB ps).length ≤ 70368744177664) (h0 : 1 ≤ (allB ps).length) :
    Calls Tryz.prog 35 #[.slice P m c] w fun e w' => ∃ v, e = .returned v ∧ V.OwnB w' (Fresh w) v (allB ps) ∧ Keep NoB w w' := by
  go_enter Tryz.func35, Tryz.ntmps35
  go_wp2
  go_loop [3, 11] (fun s i => ∃ k : Nat, k ≤ m ∧ i = .int .i64 k ∧ s = .int .i64 ((allB (ps.take k)).length : Nat)) (fun _ i => m - (intOf i).toNat)
  case atStart => exact ⟨0, Nat.zero_le _, rfl, rfl⟩
  case round =>
    obtain ⟨k, hk, rfl, rfl⟩ := hrel
    by_cases hlt : k < m
    · have hkp : k < ps.length := by rw [hn.out]; exact hlt
      obtain ⟨g, off, rfl, hc⟩ := part_at (hr.out _ (Keep.refl _ _)) hkp
      have hT := allB_len_take hkp
      have hT2 := allB_le (ps := ps) (k + 1)
      have hP := (hp.out _ (List.getElem_mem hkp) w (Keep.refl _ _)).2
      generalize ps[k] = e at hc hT hP
      obtain ⟨⟨A, n, c'⟩, l⟩ := e
      dsimp only at hc hT hP
      generalize (allB (ps.take k)).length = N at hT ⊢
      have HT := Lib.hid hT
      have hle : N + n ≤ 70368744177664 := by omega
      clear hT hT2
      go_wp2
      go_round
      case rel => exact ⟨k + 1, by omega, by go_num, by rw [HT.out, hP]; go_num⟩
      case measure => simp [intOf]; omega
    · obtain rfl : k = m := by omega
      have hall : ps.take k = ps := List.take_of_length_le (by rw [hn.out]; exact Nat.le_refl _)
      rw [hall]
      have HG := Lib.hid (fun w => grow_any (allB ps).length w h0 (by omega))
      have HL := Lib.hid hl
      generalize hN : (allB ps).length = N at HG
      have HN := Lib.hid hN
      clear hN hl h0 hall
      go_wp2_with fail
      refine (HG.out _).mono ?_
      rintro e w1 ⟨v1, rfl, h1, k1⟩
      go_wp2
      go_loopw [6, 27] (fun v i wr => ∃ j : Nat, j ≤ k ∧ i = .int .i64 j ∧ V.OwnB wr (Fresh w) v (allB (ps.take j)) ∧ Keep NoB w wr) (fun _ i _ => k - (intOf i).toNat)
      case atStart => exact ⟨0, Nat.zero_le _, rfl, by simpa [allB] using h1, k1⟩
      case round =>
        obtain ⟨j, hj, rfl, hO, hK⟩ := hrel
        clear h1 k1
        by_cases hlt : j < k
        · have hjp : j < ps.length := by rw [hn.out]; exact hlt
          obtain ⟨g, off, rfl, hc⟩ := part_at (hr.out _ hK) hjp
          have HT := Lib.hid (allB_take hjp)
          have h2 := allB_len_take hjp
          have h3 := allB_le (ps := ps) (j + 1)
          have h4 := HL.out
          have HP := hp.out _ (List.getElem_mem hjp) wr hK
          have hP1 := HP.2
          have HP1 := Lib.hid HP.1
          clear HP
          generalize ps[j] = e at hc HT h2 hP1 HP1
          obtain ⟨⟨A, n, c'⟩, l⟩ := e
          dsimp only at hc HT h2 hP1 HP1
          subst hP1
          have hle : (allB (ps.take j)).length + l.length ≤ 140737488355328 := by omega
          clear h2 h3 h4
          go_wp2_with (at_builtin; refine V.wpList_append_rd _ rfl _ _ rfl _ (allB (ps.take j)) l A c' rfl hO.1 rfl HP1.out hle ?_; intro v5 w5 hown hg hat; obtain ⟨hO3, hK3⟩ := O.own_app hO hK hown hg hat; rw [← HT.out] at hO3; clear hown hg hat)
          go_roundw
          case rel => exact ⟨j + 1, by omega, by go_num, hO3, hK3⟩
          case measure => simp [intOf]; omega
        · obtain rfl : j = k := by omega
          rw [List.take_of_length_le (by rw [hn.out]; exact Nat.le_refl _)] at hO
          go_wp2
          go_ret
          exact ⟨_, rfl, hO, hK⟩

end Go.Proofs.YtgifflfjhockaaaGreatDoor.I

namespace Go.Proofs.YtgifflfjhockaaaGreatDoor
open Go.RowKit
section
variable {P : Program} {md : Region.Mode} {ops : Array Oper}
theorem wpAny_props7 {Q : Exit → Act → World → Prop} (ds : Nat → Nat) (c : Nat) (G : World → Prop) (Kx : World → World → Prop) (late : Nat → Bool) (hB : propsD6 md ops ds c = true) (hLt : lateG md ops c late = true) (S : Nat → Value → World → Prop) (a0 : Act) (hGN : ∀ w w', G w → Keep NoB w w' → G w') (hS1 : ∀ i v w w', i ≠ c → late i = false → G w → S i v w → Kx w w' → S i v w') (hS2 : ∀ i v w w', G w → S i v w → Keep NoB w w' → S i v w') (hsz : fitsD ops ds a0.tmps.size = true)
    (hstep : ∀ i o (a : Act) (w : World), ops[i]? = some o → i ≠ c → FrameD a0 ds ops.size a → G w → (∀ e ∈ o.after, Region.binds md e = true → S e.on (a.tmps.getD (ds e.on) undef) w) → Does P ops o a w fun u w' => S i u w' ∧ Keep NoB w w')
    (hspec : ∀ o (a : Act) (w : World), ops[c]? = some o → FrameD a0 ds ops.size a → G w → (∀ e ∈ o.after, Region.binds md e = true → S e.on (a.tmps.getD (ds e.on) undef) w) → Does P ops o a w fun u w' => (∀ v, (o.dst.isSome = true → v = u) → S c v w') ∧ Kx w w' ∧ G w')
    (hend : ∀ (a : Act) (w : World), FrameD a0 ds ops.size a → G w → (∀ i, i < ops.size → S i (a.tmps.getD (ds i) undef) w) → Q .normal a w) :
    ∀ (fuel : Nat) (listed : Array Bool) (a : Act) (w : World), listed.size = ops.size → (∃ L : List Nat, L.length ≤ fuel ∧ ∀ i, i < ops.size → listed.getD i true = false → i ∈ L) → FrameD a0 ds ops.size a → G w → (∀ i, i < ops.size → late i = true → listed.getD i true = true → listed.getD c true = true) →
      (∀ i, i < ops.size → listed.getD i true = true → S i (a.tmps.getD (ds i) undef) w) → wpAny P md ops Q fuel listed a w := by
  intro fuel
  induction fuel with
  | zero =>
    intro listed a w hs ⟨L, hL, hin⟩ hF hK hLa hA
    obtain rfl : L = [] := List.length_eq_zero_iff.1 (by omega)
    have hall : ∀ i, i < ops.size → listed.getD i true = true := fun i hi => by
      cases h : listed.getD i true
      · cases hin i hi h
      · rfl
    refine ⟨?_, hend a w hF hK fun i hi => hA i hi (hall i hi)⟩
    rw [List.eq_nil_iff_forall_not_mem]
    intro i hi
    obtain ⟨h1, o, ho, _⟩ := mem_ready.1 hi
    rw [hall i (Array.getElem?_eq_some_iff.1 ho).1] at h1; cases h1
  | succ fuel ih =>
    intro listed a w hs ⟨L, hL, hin⟩ hF hK hLa hA
    refine ⟨fun h0 => hend a w hF hK fun i hi => hA i hi (no_readyD6 hB hs h0 i hi), fun i hi => ?_⟩
    obtain ⟨h1, o, ho, hall⟩ := mem_ready.1 hi
    have hi' := (Array.getElem?_eq_some_iff.1 ho).1
    obtain ⟨hd, hlt, hdis⟩ := propsD6_at hB ho
    have hdeps : ∀ e ∈ o.after, Region.binds md e = true → S e.on (a.tmps.getD (ds e.on) undef) w := fun e he hb => by
      have h2 := hall e he hb
      have h3 := hlt e he hb
      refine hA e.on (by omega) ?_
      have h4 : e.on < listed.size := by omega
      simpa [h4] using h2
    have hdoes : Does P ops o a w fun u w' => (∀ v, (o.dst.isSome = true → v = u) → S i v w') ∧ G w' ∧ (i = c → Kx w w') ∧ (i ≠ c → Keep NoB w w') := by
      by_cases e : i = c
      · subst e
        rcases hspec o a w ho hF hK hdeps with ⟨hw, hy⟩ | ⟨hw, h2, h3, h4⟩
        · refine .inl ⟨hw, ?_⟩
          unfold yieldsK at hy ⊢
          exact yieldsR_mono (fun u w' ⟨h2, h3, h4⟩ => ⟨h2, h4, fun _ => h3, fun h => absurd rfl h⟩) _ _ hy
        · exact .inr ⟨hw, h2, h4, fun _ => h3, fun h => absurd rfl h⟩
      · have hsome : o.dst.isSome = true := by
          rcases hd with h | ⟨_, h⟩
          · rw [h]; rfl
          · exact absurd h e
        rcases hstep i o a w ho e hF hK hdeps with ⟨hw, hy⟩ | ⟨hw, h2, h3⟩
        · refine .inl ⟨hw, ?_⟩
          unfold yieldsK at hy ⊢
          exact yieldsR_mono (fun u w' ⟨h2, h3⟩ => ⟨fun v hv => by rw [hv hsome]; exact h2, hGN _ _ hK h3, fun h => absurd h e, fun _ => h3⟩) _ _ hy
        · exact .inr ⟨hw, fun v hv => by rw [hv hsome]; exact h2, hGN _ _ hK h3, fun h => absurd h e, fun _ => h3⟩
    have hnext : ∀ u w', (∀ v, (o.dst.isSome = true → v = u) → S i v w') → G w' → (i = c → Kx w w') → (i ≠ c → Keep NoB w w') → wpAny P md ops Q fuel (listed.setIfInBounds i true) (a.put o.dst u) w' := by
      intro u w' hSu hgw hkx hkn
      have hfr : FrameD a0 ds ops.size (a.put o.dst u) ∧ (∀ k, k < ops.size → k ≠ i → (a.put o.dst u).tmps.getD (ds k) undef = a.tmps.getD (ds k) undef) ∧ (o.dst.isSome = true → (a.put o.dst u).tmps.getD (ds i) undef = u) := by
        rcases hd with hd | ⟨hd, _⟩
        · rw [hd]
          have hds : ds i < a.tmps.size := by rw [hF.2.1]; exact fitsD_at hsz ho hd
          have hget : ∀ s, (a.put (some (ds i)) u).tmps.getD s undef = if s = ds i then u else a.tmps.getD s undef := fun s => by
            unfold Act.put
            by_cases e : s = ds i
            · subst e; simp [hds]
            · rw [if_neg e]
              simp only [Array.getD_eq_getD_getElem?, Array.getElem?_setIfInBounds]
              rw [if_neg (fun h => e h.symm)]
          refine ⟨⟨hF.1, by unfold Act.put; simpa using hF.2.1, fun s hs' => ?_⟩, fun k hk' hki => ?_, fun _ => ?_⟩
          · rw [hget, if_neg (hs' i hi')]; exact hF.2.2 s hs'
          · rw [hget, if_neg (hdis k hk' hki)]
          · rw [hget, if_pos rfl]
        · rw [hd]
          exact ⟨hF, fun _ _ _ => rfl, fun h => by cases h⟩
      obtain ⟨hF', hother, hself⟩ := hfr
      refine ih (listed.setIfInBounds i true) _ w' (by simpa using hs) ⟨L.erase i, ?_, fun k hk' hl => ?_⟩ hF' hgw (fun k hk' hlk hl => ?_) fun k hk' hl => ?_
      · rw [List.length_erase_of_mem (hin i hi' h1)]; omega
      · have hki : k ≠ i := by
          rintro rfl
          have : k < listed.size := by omega
          simp [this] at hl
        have hl2 : listed.getD k true = false := by rw [getD_set_ne true (Ne.symm hki)] at hl; exact hl
        exact (List.mem_erase_of_ne hki).2 (hin k hk' hl2)
      · have hcl : ∀ n, listed.getD n true = true → (listed.setIfInBounds i true).getD n true = true := fun n hn => by
          by_cases e : i = n
          · subst e
            have h5 : i < listed.size := by omega
            simp [h5]
          · rw [getD_set_ne true e]; exact hn
        by_cases e : k = i
        · subst e
          by_cases ec : k = c
          · rw [← ec]; exact hl
          · obtain ⟨x, hx, hb, h6⟩ := lateG_at hLt ho hlk ec
            have h7 := hall x hx hb
            have h8 := hlt x hx hb
            have h9 : x.on < listed.size := by omega
            have h10 : listed.getD x.on true = true := by simpa [h9] using h7
            refine hcl c ?_
            rcases h6 with h6 | h6
            · rw [← h6]; exact h10
            · exact hLa x.on (by omega) h6 h10
        · rw [getD_set_ne true (Ne.symm e)] at hl
          exact hcl c (hLa k hk' hlk hl)
      · by_cases e : k = i
        · subst e
          exact hSu _ hself
        · rw [hother k hk' e]
          rw [getD_set_ne true (Ne.symm e)] at hl
          by_cases ec : i = c
          · subst ec
            by_cases hlk : late k = true
            · have := hLa k hk' hlk hl
              rw [h1] at this; cases this
            · exact hS1 k _ _ _ e (by simpa using hlk) hK (hA k hk' hl) (hkx rfl)
          · exact hS2 k _ _ _ hK (hA k hk' hl) (hkn ec)
    unfold wpOp
    simp only [ho]
    rcases hdoes with ⟨hw, hy⟩ | ⟨hw, h2, h3, h4, h5⟩
    · rw [if_pos hw]
      exact .inl (Oper.wp_of_yields hy fun u w' ⟨h2, h3, h4, h5⟩ => hnext u w' h2 h3 h4 h5)
    · rw [if_neg (by rw [hw]; decide)]
      exact hnext undef w h2 h3 h4 h5
theorem wp_region_props7 {id : Nat} {Q : Exit → Act → World → Prop} {a0 : Act} {w : World} (ds : Nat → Nat) (c : Nat) (Kx : World → World → Prop) (late : Nat → Bool) (hm : P.follows .mixedOrders = true) (hB : propsD6 .any ops ds c = true) (hLt : lateG .any ops c late = true) (S : Nat → Value → World → Prop) (hS1 : ∀ i v w1 w', i ≠ c → late i = false → Keep NoB w w1 → S i v w1 → Kx w1 w' → S i v w') (hS2 : ∀ i v w1 w', Keep NoB w w1 → S i v w1 → Keep NoB w1 w' → S i v w') (hsz : fitsD ops ds a0.tmps.size = true)
    (hstep : ∀ i o (a : Act) (w' : World), ops[i]? = some o → i ≠ c → FrameD a0 ds ops.size a → Keep NoB w w' → (∀ e ∈ o.after, Region.binds .any e = true → S e.on (a.tmps.getD (ds e.on) undef) w') → Does P ops o a w' fun u w'' => S i u w'' ∧ Keep NoB w' w'')
    (hspec : ∀ o (a : Act) (w' : World), ops[c]? = some o → FrameD a0 ds ops.size a → Keep NoB w w' → (∀ e ∈ o.after, Region.binds .any e = true → S e.on (a.tmps.getD (ds e.on) undef) w') → Does P ops o a w' fun u w'' => (∀ v, (o.dst.isSome = true → v = u) → S c v w'') ∧ Kx w' w'' ∧ Keep NoB w w'')
    (hend : ∀ (a : Act) (w' : World), FrameD a0 ds ops.size a → Keep NoB w w' → (∀ i, i < ops.size → S i (a.tmps.getD (ds i) undef) w') → Q .normal a w') : (Code.region id ops true).wp P Q a0 w :=
  wp_region_any hm (wpAny_props7 ds c (fun w' => Keep NoB w w') Kx late hB hLt S a0 (fun _ _ h h' => keepN h h') hS1 hS2 hsz hstep hspec hend _ _ a0 w.drew (by simp) ⟨List.range ops.size, by simp, fun i hi _ => List.mem_range.2 hi⟩ ⟨rfl, rfl, fun _ _ => rfl⟩ (Keep.refl NoB w).drew (fun i hi _ hl => by simp [hi] at hl) fun i hi hl => by
    simp [hi] at hl)
end
end Go.Proofs.YtgifflfjhockaaaGreatDoor

namespace Go.Proofs.YtgifflfjhockaaaGreatDoor.I
open Go.RowKit W

theorem wrBS_eq {es : List SE} {n : Nat} (h : es.length = n) : wrBS n es = shB (es.map fun e => e.2) := by
  unfold wrBS shB; rw [List.length_map, h, List.flatMap_map]
theorem wrBF_eq {fs : List FE} {n : Nat} (h : fs.length = n) : wrBF n fs = fnB (fs.map fun e => e.2) := by
  unfold wrBF fnB; rw [List.length_map, h, List.flatMap_map]
theorem bytesF_le {f : F.Fu} (h : F.okF f = true) : (F.bytesF f).length ≤ 14000 := by
  obtain ⟨h1, h2, h3, h4, h5⟩ := (F.okF_iff f).1 h
  have n0 := V.encL_len f.nm.length
  have n1 := ((F.okN_iff _).1 h1).1
  have g1 := ((S.okG_iff _ _).1 h2).1
  have a1 := S.bytesT_len f.ar (by omega)
  have a2 := S.bytesT_len f.rs (by omega)
  have a3 := S.bytesT_len f.lc (by omega)
  have a4 := S.bytesT_len [] (by simp)
  have a5 := F.bytesB_len h4
  unfold F.bytesF S.bytesG
  simp only [List.length_append]; omega
theorem bytesT_le {l : List Int} (h : S.okS l = true) : (S.bytesT l).length ≤ 14000 := by
  have := ((S.okS_iff l).1 h).1
  have := S.bytesT_len l (by omega)
  omega
theorem okI_get {es : List SE} {fs : List FE} (h : okI (imOf es fs) = true) : es.length ≤ 64 ∧ fs.length ≤ 64 ∧ (∀ e ∈ es, S.okS e.2 = true) ∧ ∀ e ∈ fs, F.okF e.2 = true := by
  obtain ⟨⟨h1, ⟨_, h2⟩, _⟩, h3, h4⟩ := (okI_iff _).1 h
  refine ⟨by simpa [imOf] using h1, by simpa [imOf] using h2, fun e he => List.all_eq_true.1 h3 _ ?_, fun e he => List.all_eq_true.1 h4 _ ?_⟩
  · exact List.mem_map.2 ⟨e, he, rfl⟩
  · exact List.mem_map.2 ⟨e, he, rfl⟩
theorem inI_len {es : List SE} {fs : List FE} (h : okI (imOf es fs) = true) : (bodyI (imOf es fs)).length ≤ 3000000 := by
  obtain ⟨h1, h2, h3, h4⟩ := okI_get h
  have a1 := wrBS_len (n := es.length) (l := es) (fun e he => by have := bytesT_le (h3 e he); omega)
  have a2 : (wrBF fs.length fs).length ≤ 9 + 20000 * fs.length := wrBF_len (fun e he => by have := bytesF_le (h4 e he); omega)
  have e : bodyI (imOf es fs) = magicL ++ (wrBS es.length es ++ wrBF fs.length fs) := by
    rw [wrBS_eq rfl, wrBF_eq rfl]; rfl
  have b2 : (wrBF fs.length fs).length ≤ 9 + 20000 * 64 := by omega
  rw [e, List.length_append, List.length_append]
  have : magicL.length = 5 := rfl
  omega
/-- A slice of bytes that reads as a list. -/
def PtV (l : List UInt8) (u : Value) (w : World) : Prop := ∃ A c, u = .slice A l.length c ∧ V.Rd w A l
theorem PtV.keepN {l : List UInt8} {u : Value} {w w' : World} (h : PtV l u w) (hk : Keep NoB w w') : PtV l u w' := by
  obtain ⟨A, c, e, h⟩ := h
  exact ⟨A, c, e, h.keep hk (fun _ _ _ => id)⟩
theorem PtV.rd {l : List UInt8} {A : Option Addr} {n c : Nat} {w : World} (h : PtV l (.slice A n c) w) : V.Rd w A l := by
  obtain ⟨A', c', e, h⟩ := h
  injection e with e1 e2 e3
  subst e1; exact h
theorem OwnB.ptV {w : World} {O : Nat → Prop} {v : Value} {l : List UInt8} (h : V.OwnB w O v l) : PtV l v w := by
  obtain ⟨A, c, e, _, hr, _, _⟩ := h.form
  exact ⟨A, c, e, hr⟩
theorem rd_three {w : World} {g : Nat} {u0 u1 u2 : Value} (h : Blk w g 26 #[u0, u1, u2]) : Rd w (some ⟨g, 0, none⟩) [u0, u1, u2] := fun _ => ⟨g, 0, rfl, fun j u hu => by
  rw [Nat.zero_add, h.cell j]; simpa using hu⟩
theorem rd_two {w : World} {g : Nat} {u0 u1 : Value} (h : Blk w g 26 #[u0, u1]) : Rd w (some ⟨g, 0, none⟩) [u0, u1] := fun _ => ⟨g, 0, rfl, fun j u hu => by
  rw [Nat.zero_add, h.cell j]; simpa using hu⟩
theorem rd_single {w : World} {g : Nat} {u0 : Value} (h : Blk w g 26 #[u0]) : Rd w (some ⟨g, 0, none⟩) [u0] := fun _ => ⟨g, 0, rfl, fun j u hu => by
  rw [Nat.zero_add, h.cell j]; simpa using hu⟩
/-- One block of bytes gets the run-time's mark. -/
structure MarkK (w w' : World) : Prop where
  os : w'.os = w.os
  tape : w'.tape = w.tape
  output : w'.output = w.output
  size : w'.heap.size = w.heap.size
  block : ∀ k : Nat, w'.heap[k]? = w.heap[k]? ∨ ∃ (cs : Array Value) (t : TypeId) (f f' : Nat × Nat), w.heap[k]? = some (Obj.cells cs t f) ∧ w'.heap[k]? = some (Obj.cells cs t f')
theorem MarkK.cell {w w' : World} (h : MarkK w w') {p : Addr} {v : Value} (hc : w.cell? p = some v) : w'.cell? p = some v := by
  rcases h.block p.block with hb | ⟨cs, t, f, f', h1, h2⟩
  · exact (World.cell?_of_block hb).trans hc
  · unfold World.cell? at hc ⊢
    rw [h1] at hc
    rw [h2]
    exact hc
theorem PtV.mark {l : List UInt8} {u : Value} {w w' : World} (h : PtV l u w) (hk : MarkK w w') : PtV l u w' := by
  obtain ⟨A, c, e, h⟩ := h
  refine ⟨A, c, e, fun h0 => ?_⟩
  obtain ⟨ad, ea, hc⟩ := h h0
  exact ⟨ad, ea, fun j u hu => hk.cell (hc j u hu)⟩
theorem freeze_mark {w : World} {g k : Nat} {cs : Array Value} {t : TypeId} {f : Nat × Nat} (h : w.heap[g]? = some (.cells cs t f)) : MarkK w (w.freeze ⟨g, k, none⟩ 1) ∧ ∀ j, j ≠ g → (w.freeze ⟨g, k, none⟩ 1).heap[j]? = w.heap[j]? := by
  unfold World.freeze
  rw [if_neg (by decide)]
  obtain ⟨lo, hi⟩ := f
  have hj : ∀ (F : Obj → Obj) (j : Nat), j ≠ g → (w.heap.modify g F)[j]? = w.heap[j]? := fun F j hne => by rw [Array.getElem?_modify, if_neg (Ne.symm hne)]
  refine ⟨⟨rfl, rfl, rfl, by simp, fun j => ?_⟩, fun j hne => hj _ j hne⟩
  by_cases e : j = g
  · subst e
    refine .inr ⟨cs, t, (lo, hi), (if lo == hi then (k, k + 1) else (min lo k, max hi (k + 1))), h, ?_⟩
    simp only [Array.getElem?_modify, if_true, h, Option.map_some]
  · exact .inl (hj _ j e)
theorem run_mark {w : World} {g n c : Nat} {cs : Array Value} {f : Nat × Nat} (h : w.heap[g]? = some (.cells cs 5 f)) : (convert 26 26 (.slice (some ⟨g, 0, none⟩) n c)).run Tryz.prog w = .ok (.slice (some ⟨g, 0, none⟩) n c) (w.freeze ⟨g, cs.size, none⟩ 1) := by
  have hsh : w.shape? g = some (5, cs.size) := by unfold World.shape?; rw [h]
  simp [convert, run_underlying Tryz.underlying26, run_underlying Tryz.underlying5, markStringish, hsh]
theorem keep_mark {w0 w : World} {g k : Nat} {cs : Array Value} {t : TypeId} {f : Nat × Nat} (hK : Keep NoB w0 w) (h : w.heap[g]? = some (.cells cs t f)) (hg : w0.heap.size ≤ g) : Keep NoB w0 (w.freeze ⟨g, k, none⟩ 1) := by
  obtain ⟨hm, hj⟩ := freeze_mark (k := k) h
  exact ⟨hm.os.trans hK.os, hm.tape.trans hK.tape, hm.output.trans hK.output, by rw [hm.size]; exact hK.size, fun j hl _ => (hj j (by omega)).trans (hK.block j hl id)⟩
theorem rdB_blk {w : World} {g : Nat} {l : List UInt8} {f : Nat × Nat} (h : w.heap[g]? = some (.cells (V.bvs l).toArray 5 f)) : V.Rd w (some ⟨g, 0, none⟩) l := fun _ => ⟨_, rfl, fun j u hu => by
  have ea : (⟨g, 0, none⟩ : Addr).add j = ⟨g, j, none⟩ := by unfold Addr.add; by_cases hj : j = 0 <;> simp [hj]
  rw [ea, cell_of_row w g j _ _ f h]
  simpa using hu⟩
/-- What the values are that Encode's region yields. -/
def SN (v : IV) (a b d : List UInt8) (x m m2 : Nat) : Nat → Value → World → Prop
  | 0 => fun u w => ∃ g f, u = .slice (some ⟨g, 0, none⟩) 5 5 ∧ m2 ≤ g ∧ w.heap[g]? = some (.cells (V.bvs magicL).toArray 5 f)
  | 1 => PtV a
  | 2 => fun u _ => u = .pointer (some ⟨x, 0, none⟩)
  | 3 => fun u _ => u = .slice v.X v.nx v.cx
  | 4 => fun u _ => u = partS
  | 5 => PtV b
  | 6 => fun u _ => u = .pointer (some ⟨x, 1, none⟩)
  | 7 => fun u _ => u = .slice v.Y v.ny v.cy
  | 8 => fun u _ => u = partF
  | 9 => PtV d
  | 10 => fun u w => ∃ g A1 c1 A2 c2 A3 c3, u = .slice (some ⟨g, 0, none⟩) 3 3 ∧ Blk w g 26 #[.slice A1 a.length c1, .slice A2 b.length c2, .slice A3 d.length c3] ∧ V.Rd w A1 a ∧ V.Rd w A2 b ∧ V.Rd w A3 d
  | 11 => fun u w => ∃ A c, u = .slice A (a ++ (b ++ d)).length c ∧ V.OwnB w (fun k => m ≤ k) (.slice A (a ++ (b ++ d)).length c) (a ++ (b ++ d))
  | 12 => fun u w => ∃ A c, u = .slice A (a ++ (b ++ d)).length c ∧ V.OwnB w (fun k => m ≤ k) (.slice A (a ++ (b ++ d)).length c) (a ++ (b ++ d))
  | _ => fun _ _ => True
theorem SN_stable (v : IV) (a b d : List UInt8) (x m m2 : Nat) : ∀ i u w w', SN v a b d x m m2 i u w → Keep NoB w w' → SN v a b d x m m2 i u w'
  | 0, _, _, _, ⟨g, f, e, h0, h⟩, hk => ⟨g, f, e, h0, (hk.block g (Array.getElem?_eq_some_iff.1 h).1 id).trans h⟩
  | 1, _, _, _, h, hk => PtV.keepN h hk
  | 2, _, _, _, h, _ => h
  | 3, _, _, _, h, _ => h
  | 4, _, _, _, h, _ => h
  | 5, _, _, _, h, hk => PtV.keepN h hk
  | 6, _, _, _, h, _ => h
  | 7, _, _, _, h, _ => h
  | 8, _, _, _, h, _ => h
  | 9, _, _, _, h, hk => PtV.keepN h hk
  | 10, _, _, _, ⟨g, A1, c1, A2, c2, A3, c3, e, hb, r1, r2, r3⟩, hk => ⟨g, A1, c1, A2, c2, A3, c3, e, hb.keep hk id, r1.keep hk (fun _ _ _ => id), r2.keep hk (fun _ _ _ => id), r3.keep hk (fun _ _ _ => id)⟩
  | 11, _, _, _, ⟨A, c, e, h⟩, hk => ⟨A, c, e, h.keep hk (fun _ _ => id)⟩
  | 12, _, _, _, ⟨A, c, e, h⟩, hk => ⟨A, c, e, h.keep hk (fun _ _ => id)⟩
  | _ + 13, _, _, _, h, _ => h

theorem SN_mark (v : IV) (a b d : List UInt8) (x m m2 : Nat) (i : Nat) (u : Value) (w w' : World) (hi : i < 10) (h : SN v a b d x m m2 i u w) (hk : MarkK w w') : SN v a b d x m m2 i u w' := by
  obtain rfl | rfl | rfl | rfl | rfl | rfl | rfl | rfl | rfl | rfl : i = 0 ∨ i = 1 ∨ i = 2 ∨ i = 3 ∨ i = 4 ∨ i = 5 ∨ i = 6 ∨ i = 7 ∨ i = 8 ∨ i = 9 := by omega
  · obtain ⟨g, f, e, h0, h⟩ := h
    rcases hk.block g with hb | ⟨cs, t, f1, f2, h1, h2⟩
    · exact ⟨g, f, e, h0, hb.trans h⟩
    · rw [h1] at h
      cases h
      exact ⟨g, f2, e, h0, h2⟩
  · exact PtV.mark h hk
  · exact h
  · exact h
  · exact h
  · exact PtV.mark h hk
  · exact h
  · exact h
  · exact h
  · exact PtV.mark h hk

theorem smF_ok {W : World} {v : F.FV} {f : F.Fu} (hn : F.FnAt W v f) (hf : F.okF f = true) : F.SmF v := by
  obtain ⟨h1, h2, _, h4, h5⟩ := (F.okF_iff f).1 hf
  have h6 := ((F.okN_iff _).1 h1).1
  have h7 := (C.okB_parts h4).2.1
  have e0 := F.sz_len hn.nm
  have := hn.la
  have := hn.lb
  have := hn.ll
  have := hn.ld
  exact ⟨by omega, by omega, by omega, by omega, by omega⟩
set_option maxRecDepth 100000 in
set_option maxHeartbeats 8000000 in
theorem encode_any (v : IV) (es : List SE) (fs : List FE) (w : World) (h : ImAt w v es fs) (hl : LgI v es fs) :
    Calls Tryz.prog 13 #[v.val] w (S.EncR w (encI (imOf es fs)) (chkI (imOf es fs))) := by
  have bx := Blk.new w 25 v.cells
  have k0 := (Keep.refl NoB w).alloc (.cells v.cells 25)
  have HC := Lib.hid (fun W (hk : Keep NoB w W) => check_any v es fs W (h.keepN hk) hl _ rfl)
  obtain ⟨q0, q1⟩ := blk2 bx
  cases ho : okI (imOf es fs)
  · rw [encI_no ho, chkI_no ho]
    rw [chkI_no ho] at HC
    clear h hl bx ho
    obtain ⟨X, nx, cx, Y, ny, cy⟩ := v
    dsimp only [IV.val, IV.cells] at *
    go_enter Tryz.func13, Tryz.ntmps13
    go_wp2_with fail
    refine (HC.out _ k0).mono ?_
    rintro e w1 ⟨rfl, k1⟩
    go_wp2
    go_ret2
    exact ⟨_, rfl, V.OwnB.nil _ _, keepN k0 k1⟩
  · rw [encI_ok ho, chkI_ok ho]
    rw [chkI_ok ho] at HC
    obtain ⟨g1, g2, g3, g4⟩ := okI_get ho
    have hlx := h.lx
    have hly := h.ly
    have HS := Lib.hid (fun W (hk : Keep NoB w W) => writeS_any v.X es v.nx v.cx W (fun W' hk' => (h.keepN (keepN hk hk')).rx) hlx (by omega) (fun e he => by have := bytesT_le (g3 e he); omega) (fun e he W' hk' => by
      have := S.encodeS_any e.1.A e.2 e.1.n e.1.c W' ((h.keepN (keepN hk hk')).hs e he).1 (h.hs e he).2 (by have := hl.sh e he; omega)
      rw [S.encS_ok (g3 e he), S.chkS_ok (g3 e he)] at this
      exact this))
    have HF := Lib.hid (fun W (hk : Keep NoB w W) => writeF_any v.Y fs v.ny v.cy W (fun W' hk' => (h.keepN (keepN hk hk')).ry) hly (by omega) (fun e he => by have := bytesF_le (g4 e he); omega) (fun e he W' hk' => by
      have hs : F.SmF e.1 := smF_ok (h.hf e he) (g4 e he)
      have := F.encodeF_any e.1 e.2 W' ((h.keepN (keepN hk hk')).hf e he) hs
      rw [F.encF_ok (g4 e he), F.chkF_ok (g4 e he)] at this
      exact this))
    have hbody : Hid (magicL ++ (wrBS v.nx es ++ wrBF v.ny fs) = bodyI (imOf es fs)) := by show _ = _; rw [wrBS_eq hlx, wrBF_eq hly]; rfl
    have hlen : (magicL ++ (wrBS v.nx es ++ wrBF v.ny fs)).length ≤ 3000000 := by rw [hbody.out]; exact inI_len ho
    have hb1 : bytesI (imOf es fs) = (magicL ++ (wrBS v.nx es ++ wrBF v.ny fs)) ++ four (sumN (magicL ++ (wrBS v.nx es ++ wrBF v.ny fs))) := by rw [hbody.out]; rfl
    rw [hb1]
    clear h hl ho g1 g2 g3 g4 hlx hly hb1 hbody
    generalize wrBS v.nx es = bS at *
    generalize wrBF v.ny fs = bF at *
    have HX := Lib.hid bx
    obtain ⟨X, nx, cx, Y, ny, cy⟩ := v
    dsimp only [IV.val, IV.cells] at *
    generalize hw1 : w.alloc (.cells #[.slice X nx cx, .slice Y ny cy] 25) = w1 at k0 q0 q1 HX
    go_enter Tryz.func13, Tryz.ntmps13
    go_wp2_with fail
    refine (HC.out _ k0).mono ?_
    rintro e w2 ⟨rfl, k2⟩
    replace q0 := k2.cell q0 id
    replace q1 := k2.cell q1 id
    have gK0 := keepN k0 k2
    clear HX k0 k2 hw1 bx HC
    go_wp2_with fail
    refine wp_region_props7 (fun i => [8, 9, 10, 11, 12, 13, 14, 15, 16, 17, 18, 19, 4].getD i 0) 1 (MarkK) (fun i => decide (10 ≤ i)) (by kernel_rfl) (by kernel_rfl) (by kernel_rfl) (SN ⟨X, nx, cx, Y, ny, cy⟩ magicL bS bF w.heap.size w.heap.size w2.heap.size) (fun i u x y _ hl _ h hk => SN_mark _ _ _ _ _ _ _ i u x y (by simpa using hl) h hk) (fun i u x y _ h hk => SN_stable _ _ _ _ _ _ _ i u x y h hk) rfl ?step ?spec ?fin
    case step =>
      intro i o a w' hoo hic hF hK hA
      have hi : i < 13 := by simpa using (Array.getElem?_eq_some_iff.1 hoo).1
      by_cases h0 : i = 0
      · subst h0
        simp only [List.getElem?_toArray, List.getElem?_cons_zero, Option.some.injEq] at hoo
        subst hoo
        refine Does.plain rfl ?_
        unfold yieldsK
        go_simp
        exact ⟨⟨w'.heap.size, (0, 0), rfl, hK.size, heap_alloc_new w' _⟩, (Keep.refl _ _).alloc _⟩
      by_cases h2 : i = 2
      · subst h2
        simp only [List.getElem?_toArray, List.getElem?_cons_zero, List.getElem?_cons_succ, Option.some.injEq] at hoo
        subst hoo
        have e1 : a.tmps.getD 1 undef = .pointer (some ⟨w.heap.size, 0, none⟩) := hF.2.2 1 (by decide)
        refine Does.plain rfl ?_
        unfold yieldsK
        go_simp
        exact ⟨rfl, Keep.refl _ _⟩
      by_cases h3 : i = 3
      · subst h3
        simp only [List.getElem?_toArray, List.getElem?_cons_zero, List.getElem?_cons_succ, Option.some.injEq] at hoo
        subst hoo
        have e10 : a.tmps.getD 10 undef = .pointer (some ⟨w.heap.size, 0, none⟩) := hA ⟨2, .data⟩ (by simp) rfl
        have c0 := Keep.cell hK q0 id
        refine Does.plain rfl ?_
        unfold yieldsK
        go_simp
        exact ⟨rfl, Keep.refl _ _⟩
      by_cases h4 : i = 4
      · subst h4
        simp only [List.getElem?_toArray, List.getElem?_cons_zero, List.getElem?_cons_succ, Option.some.injEq] at hoo
        subst hoo
        refine Does.plain rfl ?_
        unfold yieldsK
        go_simp
        refine (partsS_any w').mono ?_
        rintro e w3 ⟨rfl, h3⟩
        exact ⟨_, rfl, rfl, h3⟩
      by_cases h5 : i = 5
      · subst h5
        simp only [List.getElem?_toArray, List.getElem?_cons_zero, List.getElem?_cons_succ, Option.some.injEq] at hoo
        subst hoo
        have e11 : a.tmps.getD 11 undef = .slice X nx cx := hA ⟨3, .data⟩ (by simp) rfl
        have e12 : a.tmps.getD 12 undef = partS := hA ⟨4, .data⟩ (by simp) rfl
        refine Does.plain rfl ?_
        unfold yieldsK
        go_simp
        refine (HS.out w' (keepN gK0 hK)).mono ?_
        rintro e w3 ⟨u, rfl, h2, h3⟩
        exact ⟨_, rfl, OwnB.ptV h2, h3⟩
      by_cases h6 : i = 6
      · subst h6
        simp only [List.getElem?_toArray, List.getElem?_cons_zero, List.getElem?_cons_succ, Option.some.injEq] at hoo
        subst hoo
        have e1 : a.tmps.getD 1 undef = .pointer (some ⟨w.heap.size, 0, none⟩) := hF.2.2 1 (by decide)
        refine Does.plain rfl ?_
        unfold yieldsK
        go_simp
        exact ⟨rfl, Keep.refl _ _⟩
      by_cases h7 : i = 7
      · subst h7
        simp only [List.getElem?_toArray, List.getElem?_cons_zero, List.getElem?_cons_succ, Option.some.injEq] at hoo
        subst hoo
        have e14 : a.tmps.getD 14 undef = .pointer (some ⟨w.heap.size, 1, none⟩) := hA ⟨6, .data⟩ (by simp) rfl
        have c0 := Keep.cell hK q1 id
        refine Does.plain rfl ?_
        unfold yieldsK
        go_simp
        exact ⟨rfl, Keep.refl _ _⟩
      by_cases h8 : i = 8
      · subst h8
        simp only [List.getElem?_toArray, List.getElem?_cons_zero, List.getElem?_cons_succ, Option.some.injEq] at hoo
        subst hoo
        refine Does.plain rfl ?_
        unfold yieldsK
        go_simp
        refine (partsF_any w').mono ?_
        rintro e w3 ⟨rfl, h3⟩
        exact ⟨_, rfl, rfl, h3⟩
      by_cases h9 : i = 9
      · subst h9
        simp only [List.getElem?_toArray, List.getElem?_cons_zero, List.getElem?_cons_succ, Option.some.injEq] at hoo
        subst hoo
        have e15 : a.tmps.getD 15 undef = .slice Y ny cy := hA ⟨7, .data⟩ (by simp) rfl
        have e16 : a.tmps.getD 16 undef = partF := hA ⟨8, .data⟩ (by simp) rfl
        refine Does.plain rfl ?_
        unfold yieldsK
        go_simp
        refine (HF.out w' (keepN gK0 hK)).mono ?_
        rintro e w3 ⟨u, rfl, h2, h3⟩
        exact ⟨_, rfl, OwnB.ptV h2, h3⟩
      by_cases h10 : i = 10
      · subst h10
        simp only [List.getElem?_toArray, List.getElem?_cons_zero, List.getElem?_cons_succ, Option.some.injEq] at hoo
        subst hoo
        obtain ⟨A9, c9, e9, h9⟩ := hA ⟨1, .data⟩ (by simp) rfl
        have e9 : a.tmps.getD 9 undef = .slice A9 magicL.length c9 := e9
        obtain ⟨A13, c13, e13, h13⟩ := hA ⟨5, .data⟩ (by simp) rfl
        have e13 : a.tmps.getD 13 undef = .slice A13 bS.length c13 := e13
        obtain ⟨A17, c17, e17, h17⟩ := hA ⟨9, .data⟩ (by simp) rfl
        have e17 : a.tmps.getD 17 undef = .slice A17 bF.length c17 := e17
        refine Does.plain rfl ?_
        unfold yieldsK
        simp only [Array.getD_eq_getD_getElem?] at e9 e13 e17
        go_simp
        exact ⟨⟨w'.heap.size, A9, c9, A13, c13, A17, c17, rfl, Blk.new _ _ _, h9.keep ((Keep.refl NoB _).alloc _) (fun _ _ _ => id), h13.keep ((Keep.refl NoB _).alloc _) (fun _ _ _ => id), h17.keep ((Keep.refl NoB _).alloc _) (fun _ _ _ => id)⟩, (Keep.refl _ _).alloc _⟩
      by_cases h11 : i = 11
      · subst h11
        simp only [List.getElem?_toArray, List.getElem?_cons_zero, List.getElem?_cons_succ, Option.some.injEq] at hoo
        subst hoo
        obtain ⟨g, A1, c1, A2, c2, A3, c3, e18, hb, r1, r2, r3⟩ := hA ⟨10, .data⟩ (by simp) rfl
        have e18 : a.tmps.getD 18 undef = .slice (some ⟨g, 0, none⟩) 3 3 := e18
        refine Does.plain rfl ?_
        unfold yieldsK
        go_simp
        refine (concat_any (some ⟨g, 0, none⟩) [(⟨A1, magicL.length, c1⟩, magicL), (⟨A2, bS.length, c2⟩, bS), (⟨A3, bF.length, c3⟩, bF)] 3 3 w' (fun W hk => rd_three (hb.keep hk id)) rfl (fun e he W hk => by
          simp only [List.mem_cons, List.not_mem_nil, or_false] at he
          rcases he with rfl | rfl | rfl
          · exact ⟨r1.keep hk (fun _ _ _ => id), rfl⟩
          · exact ⟨r2.keep hk (fun _ _ _ => id), rfl⟩
          · exact ⟨r3.keep hk (fun _ _ _ => id), rfl⟩) (by omega) (by simp only [allB, List.flatMap_cons, List.flatMap_nil, List.append_nil]; omega) (by simp only [allB, List.flatMap_cons, List.length_append]; have : magicL.length = 5 := rfl; omega)).mono ?_
        rintro e w3 ⟨u, rfl, h2, h3⟩
        have e4 : allB [(⟨A1, magicL.length, c1⟩, magicL), (⟨A2, bS.length, c2⟩, bS), (⟨A3, bF.length, c3⟩, bF)] = magicL ++ (bS ++ bF) := by simp [allB]
        rw [e4] at h2
        obtain ⟨A9, c9, rfl, _, _, _, _⟩ := h2.form
        exact ⟨_, rfl, ⟨A9, c9, rfl, h2.mono (fun k (hk : Fresh w' k) _ => (Nat.le_trans (keepN gK0 hK).size hk : w.heap.size ≤ k))⟩, h3⟩
      by_cases h12 : i = 12
      · subst h12
        simp only [List.getElem?_toArray, List.getElem?_cons_zero, List.getElem?_cons_succ, Option.some.injEq] at hoo
        subst hoo
        obtain ⟨A19, c19, e19, h19⟩ := hA ⟨11, .data⟩ (by simp) rfl
        have e19 : a.tmps.getD 19 undef = .slice A19 (magicL ++ (bS ++ bF)).length c19 := e19
        refine Does.plain rfl ?_
        unfold yieldsK
        simp only [Array.getD_eq_getD_getElem?] at e19
        go_simp
        exact ⟨⟨A19, c19, by simp [List.length_append], h19⟩, Keep.refl _ _⟩
      omega
    case spec =>
      intro o a w' hoo hF hK hA
      simp only [List.getElem?_toArray, List.getElem?_cons_zero, List.getElem?_cons_succ, Option.some.injEq] at hoo
      subst hoo
      obtain ⟨g8, f8, e8, hg8, h8⟩ := hA ⟨0, .data⟩ (by simp) rfl
      have e8 : a.tmps.getD 8 undef = .slice (some ⟨g8, 0, none⟩) 5 5 := e8
      have hcv := run_mark (n := 5) (c := 5) h8
      have HM := Lib.hid (freeze_mark (k := magicL.length) h8).1
      have HKM := Lib.hid (keep_mark (k := magicL.length) hK h8 hg8)
      refine Does.plain rfl ?_
      unfold yieldsK
      simp only [Array.getD_eq_getD_getElem?] at e8
      go_simp
      exact ⟨(PtV.mark ⟨some ⟨g8, 0, none⟩, 5, rfl, rdB_blk h8⟩ HM.out : PtV magicL (.slice (some ⟨g8, 0, none⟩) 5 5) _), HM.out, HKM.out⟩
    case fin =>
      intro a w' hF gK hA
      obtain ⟨A4, c4, e4, h4⟩ := hA 12 (by decide)
      have e4 : a.tmps.getD 4 undef = .slice A4 (magicL ++ (bS ++ bF)).length c4 := e4
      have ha := frameD_list (l := [8, 9, 10, 11, 12, 13, 14, 15, 16, 17, 18, 19, 4]) rfl hF
      rw [ha]
      simp only [List.map_cons, List.map_nil, e4]
      generalize a.tmps.getD 8 undef = u0
      generalize a.tmps.getD 9 undef = u1
      generalize a.tmps.getD 10 undef = u2
      generalize a.tmps.getD 11 undef = u3
      generalize a.tmps.getD 12 undef = u4
      generalize a.tmps.getD 13 undef = u5
      generalize a.tmps.getD 14 undef = u6
      generalize a.tmps.getD 15 undef = u7
      generalize a.tmps.getD 16 undef = u8
      generalize a.tmps.getD 17 undef = u9
      generalize a.tmps.getD 18 undef = u10
      generalize a.tmps.getD 19 undef = u11
      simp only [fillD, List.setIfInBounds_toArray, List.set_cons_zero, List.set_cons_succ]
      have gK1 := keepN gK0 gK
      have h4' : V.OwnB w' (Fresh w) (.slice A4 (magicL ++ (bS ++ bF)).length c4) (magicL ++ (bS ++ bF)) := h4
      have hf4 : V.Rd w' A4 (magicL ++ (bS ++ bF)) := by
        obtain ⟨A', c', e, _, hr, _, _⟩ := h4'.form
        injection e with e1 e2 e3; subst e1; exact hr
      clear hA hF ha gK HS HF q0 q1 gK0 h4
      generalize magicL ++ (bS ++ bF) = body at *
      have kA := (Keep.refl NoB w').alloc (.cells #[.slice A4 body.length c4] 26)
      have HL := Lib.hid (seal_any (some ⟨w'.heap.size, 0, none⟩) [(⟨A4, body.length, c4⟩, body)] 1 1 (w'.alloc (.cells #[.slice A4 body.length c4] 26)) (rd_single (Blk.new _ _ _)) rfl (fun e he => by
        simp only [List.mem_cons, List.not_mem_nil, or_false] at he
        subst he
        exact ⟨hf4.keep kA (fun _ _ _ => id), rfl⟩) (by omega) (fun e he => by
        simp only [List.mem_cons, List.not_mem_nil, or_false] at he
        subst he
        show body.length ≤ _; omega))
      have e5 : allB [(⟨A4, body.length, c4⟩, body)] = body := by simp [allB]
      rw [e5] at HL
      have hO1 := O.own_keep h4' kA
      have hK1 := keepN gK1 kA
      clear e5 hf4 h4'
      go_wp2_with fail
      refine HL.out.mono ?_
      rintro e w3 ⟨u3, rfl, h3, k3⟩
      obtain ⟨A9, cp9, rfl, _, hr9, _, _⟩ := h3.form
      have hO2 := O.own_keep hO1 k3
      have hK2 := keepN hK1 k3
      have hle : body.length + (four (sumN body)).length ≤ 140737488355328 := by rw [four_length]; omega
      clear h3 k3 hO1 hK1 kA HL
      generalize four (sumN body) = fr at *
      go_wp2_with (at_builtin; refine V.wpList_append_rd _ rfl _ _ rfl _ body fr A9 cp9 rfl hO2.1 rfl hr9 hle ?_; intro v5 w5 hown hg hat; obtain ⟨hO3, hK3⟩ := O.own_app hO2 hK2 hown hg hat; clear hown hg hat)
      go_ret2
      exact ⟨_, rfl, hO3, hK3⟩

end Go.Proofs.YtgifflfjhockaaaGreatDoor.I
