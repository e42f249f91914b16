/-
  What the program's guess answers: the operands that a text is guessed to be. Conditions: the listed package-level variables hold what their initialisers lay; the text is not too long.
  An argument that is a slice of bytes, opened: an address from which a list of bytes stands. No conditions.
  What the rows of opcode share where strings.Cut is called, or bytes come in: the wrap that keeps the world's shape beside the laid variables. No conditions.
  What the program's Of answers. No conditions.
  What the program's Of answers: the number that has the name, or ErrOpcode. No conditions.
  What the program's Read answers: the instruction whose text it is, if there is one. Conditions: the listed package-level variables hold what their initialisers lay; the text is not too long.
  The document's letters, bins and uns. No conditions.
  The plain mathematics of the document's reading of an instruction from text: its words, the operands that they are, and that it is the instruction whose text it is. No program, no conditions.
  The document's digits. Conditions: the number fits an int64.
-/
import Derived.HandedShaped
import Derived.OpenShut
import Derived.ProofKit
import Derived.RangeFuncBox
import Derived.Shelf.Vars
import Derived.SizedLaws
import Derived.Test.YtpkcjokkadfhcaaGreatDoorQ9
import Derived.Test.YtpkcjokkadfhcaaGreatDoorQ3
import Derived.Test.YtpkcjokkadfhcaaGreatDoorQ4
import Derived.Test.YtpkcjokkadfhcaaGreatDoorQ6
import Derived.Test.YtpkcjokkadfhcaaGreatDoorQ8
import Derived.Test.YtpkcjokkadfhcaaGreatDoorQ5
namespace Go.Proofs.YtpkcjokkadfhcaaGreatDoor.O
open Go.RowKit

/-- What strings.Cut reads besides its text. -/
def CutAt (w : World) : Prop := ∃ m, w.cell? ⟨3, 0, none⟩ = some (.int .i64 m)
theorem CutAt.keep {w w' : World} (h : CutAt w) (hk : Keep NoB w w') : CutAt w' := by
  obtain ⟨m, hm⟩ := h
  exact ⟨m, hk.cell hm id⟩
theorem cut_any (S : ByteArray) (s : List UInt8) (w : World) (hs : S.data.toList = s) (hl : S.size ≤ 1000) (h : CutAt w) :
    Calls Tryz.prog 56 #[.string S, .string ⟨#[32]⟩] w fun e w' => ∃ b, e = .returned (.tuple #[.string (str (Lib.cut s [32]).1), .string (str (Lib.cut s [32]).2.1), .bool b]) ∧ Keep NoB w w' := by
  obtain ⟨m, hm⟩ := h
  refine (Tryz.strings_Cut S ⟨#[32]⟩ m w (by omega) hm).mono ?_
  rintro e w' ⟨rfl, n, rfl⟩
  rw [hs]
  exact ⟨_, rfl, (Keep.refl NoB w).drewN n⟩
theorem str_list (s : List UInt8) : (str s).data.toList = s := by simp
theorem str_size (s : List UInt8) : (str s).size = s.length := _root_.Go.Proofs.YtpkcjokkadfhcaaGreatDoor.W.size_of (str_list s)

set_option maxHeartbeats 1000000 in
theorem guess_dig (k : Int) (S : ByteArray) (s : List UInt8) (w : World) (hk : digK k = true) (hs : S.data.toList = s) (hl : S.size ≤ 1000) (h : LaidO w) :
    Calls Tryz.prog 106 #[.string S] w fun e w' => e = .returned (.int .i64 (gK k s)) ∧ Keep NoB w w' := by
  have HX : Hid (gK k s = W.pI s) := by show _ = _; unfold gK; rw [if_pos hk]
  have HF := Lib.hid (W.parse_any S s w hs (by omega) h.lib)
  clear h hk hs hl
  go_enter Tryz.func106, Tryz.ntmps106
  go_wp2_with fail
  refine HF.out.mono ?_
  rintro e w1 ⟨er, rfl, k1⟩
  go_wp2
  go_ret
  exact ⟨by rw [HX.out]; rfl, k1⟩

theorem own_first {w1 w : World} {B : Option Addr} {d : Nat} {x : Int} (h : Own w1 3 1 (Fresh w) (.slice B 1 d) 1 (ivs [x])) : ∃ g, B = some ⟨g, 0, none⟩ ∧ w1.cell? ⟨g, 0, none⟩ = some (.int .i64 x) := by
  obtain ⟨A, c, e, _, _, hr, ha⟩ := h.form
  injection e with e1 _ e2
  subst e1
  obtain ⟨g, off, e3, hc⟩ := hr (by simp)
  have h0 := (ha _ e3).2
  injection h0 with _ h0 _
  subst h0
  exact ⟨g, e3, hc 0 _ (by simp)⟩
/-- The error of a text that is no letter. -/
def letE (s : List UInt8) : Int := if W.tE s = 0 ∧ W.tN s = 1 then 0 else 40
theorem tE_tN (s : List UInt8) : W.tE s = 0 ∨ (W.tE s = 20 ∧ W.tN s = 0) := by
  unfold W.tE W.tN
  split
  · exact .inl rfl
  · exact .inr ⟨rfl, rfl⟩
set_option maxHeartbeats 1000000 in
theorem lettered_any (S : ByteArray) (s : List UInt8) (w : World) (hs : S.data.toList = s) (hl : S.size ≤ 1000) (h : LaidO w) :
    Calls Tryz.prog 76 #[.string S] w fun e w' => e = .returned (.tuple #[.int .i64 (ltrI s), .int .i64 (letE s)]) ∧ Keep NoB w w' := by
  have HF := Lib.hid (W.types_any S s w h.lets hs (by omega))
  have hlen := W.tL_length s
  clear h hs hl
  by_cases h0 : W.tE s = 0
  · by_cases h1 : W.tN s = 1
    · have HX : Hid (ltrI s = (W.tL s).getD 0 0 ∧ letE s = 0) := ⟨by unfold ltrI; rw [if_pos ⟨h0, h1⟩], by unfold letE; rw [if_pos ⟨h0, h1⟩]⟩
      obtain ⟨x, hx⟩ : ∃ x, W.tL s = [x] := by
        rw [h1] at hlen
        exact List.length_eq_one_iff.1 hlen
      rw [hx] at HX
      unfold W.TypesR at HF
      rw [h0, h1, hx] at HF
      clear h0 h1 hx hlen
      go_enter Tryz.func76, Tryz.ntmps76
      go_wp2_with fail
      refine HF.out.mono ?_
      rintro e w1 ⟨B, d, rfl, hO, k1⟩
      obtain ⟨ad, rfl, hc⟩ : ∃ ad, B = some ad ∧ w1.cell? ad = some (.int .i64 x) := by
        obtain ⟨g, rfl, hcell⟩ := own_first hO
        exact ⟨_, rfl, hcell⟩
      go_wp2
      go_ret2
      rw [HX.out.1, HX.out.2]
      exact ⟨rfl, k1⟩
    · have HX : Hid (ltrI s = 0 ∧ letE s = 40) := ⟨by unfold ltrI; rw [if_neg (fun h => h1 h.2)], by unfold letE; rw [if_neg (fun h => h1 h.2)]⟩
      unfold W.TypesR at HF
      rw [h0] at HF
      clear h0 hlen
      have hq : ((W.tN s : Int) != 1) = true := by rw [bne_iff_ne]; omega
      generalize W.tN s = n at HF hq
      clear h1
      go_enter Tryz.func76, Tryz.ntmps76
      go_wp2_with fail
      refine HF.out.mono ?_
      rintro e w1 ⟨B, d, rfl, hO, k1⟩
      go_wp2
      go_ret2
      rw [HX.out.1, HX.out.2]
      exact ⟨rfl, k1⟩
  · have HX : Hid (ltrI s = 0 ∧ letE s = 40) := ⟨by unfold ltrI; rw [if_neg (fun h => h0 h.1)], by unfold letE; rw [if_neg (fun h => h0 h.1)]⟩
    obtain ⟨h20, hn0⟩ := (tE_tN s).resolve_left h0
    unfold W.TypesR at HF
    rw [h20, hn0] at HF
    clear h0 h20 hn0 hlen
    go_enter Tryz.func76, Tryz.ntmps76
    go_wp2_with fail
    refine HF.out.mono ?_
    rintro e w1 ⟨B, d, rfl, hO, k1⟩
    go_wp2
    go_ret2
    rw [HX.out.1, HX.out.2]
    exact ⟨rfl, k1⟩

set_option maxHeartbeats 1000000 in
theorem guess_word (k : Int) (S : ByteArray) (s : List UInt8) (c : Nat) (w : World) (hk : wordK k = true) (hs : S.data.toList = s) (hl : S.size ≤ 1000) (h : LaidO w) (hc : w.cell? ⟨c, 0, none⟩ = some (fnV (readF k))) :
    Calls Tryz.prog 109 #[.string S, .pointer (some ⟨c, 0, none⟩)] w fun e w' => e = .returned (.int .i64 (gK k s)) ∧ Keep NoB w w' := by
  have hk := of_decide_eq_true hk
  have hkc : k = 8 ∨ k = 9 ∨ (k = 2 ∨ k = 3) := by omega
  clear hk
  rcases hkc with rfl | rfl | hk
  · have HF := Lib.hid (A.binOf_any S s w h.names hs hl)
    have HX : Hid (gK 8 s = A.ofI A.binNs s) := rfl
    have hc' : w.cell? ⟨c, 0, none⟩ = some (fnV 78) := hc
    clear h hs hl hc
    go_enter Tryz.func109, Tryz.ntmps109
    go_wp2_with fail
    refine HF.out.mono ?_
    rintro e w1 ⟨rfl, k1⟩
    go_wp2
    go_ret
    exact ⟨by rw [HX.out]; rfl, k1⟩
  · have HF := Lib.hid (A.unOf_any S s w h.names hs hl)
    have HX : Hid (gK 9 s = A.ofI A.unNs s) := rfl
    have hc' : w.cell? ⟨c, 0, none⟩ = some (fnV 80) := hc
    clear h hs hl hc
    go_enter Tryz.func109, Tryz.ntmps109
    go_wp2_with fail
    refine HF.out.mono ?_
    rintro e w1 ⟨rfl, k1⟩
    go_wp2
    go_ret
    exact ⟨by rw [HX.out]; rfl, k1⟩
  · have HF := Lib.hid (lettered_any S s w hs hl h)
    have HX : Hid (gK k s = ltrI s) := by rcases hk with rfl | rfl <;> rfl
    have hc' : w.cell? ⟨c, 0, none⟩ = some (fnV 76) := by rw [hc]; rcases hk with rfl | rfl <;> rfl
    clear h hs hl hc hk
    go_enter Tryz.func109, Tryz.ntmps109
    go_wp2_with fail
    refine HF.out.mono ?_
    rintro e w1 ⟨rfl, k1⟩
    go_wp2
    go_ret
    exact ⟨by rw [HX.out]; rfl, k1⟩

theorem kb_cases (op : Int) : (rowAt op).kb = 0 ∨ (rowAt op).kb = 3 := by
  have := rowAt_all (p := fun r => decide (r.kb = 0 ∨ r.kb = 3)) (by decide) (by decide) op
  simpa using this

theorem run_field_gu (k l m : Int) (sh gu : Value) (w : World) : (Instr.field 86 (.agg #[.int .i64 k, .int .i64 l, .int .i64 m, sh, gu]) 4).run Tryz.prog w = .ok gu w := by kernel_rfl

/-! ### guess -/
theorem dig_word {k : Int} (h : wordK k = true) : ¬ digK k = true := by
  have h := of_decide_eq_true h
  intro h2
  have h2 := of_decide_eq_true h2
  omega
theorem word_dig_no {k : Int} (h : wordK k = true) : ¬ digK k = true := dig_word h

set_option maxRecDepth 100000 in
set_option maxHeartbeats 4000000 in
theorem guess_00 (op ka kb A B : Int) (S : ByteArray) (s : List UInt8) (w : World) (hs : Hid (S.data.toList = s)) (hl : Hid (S.size ≤ 1000)) (_hL : Hid (LaidO w)) (hC : Hid (CutAt w)) (HKn : Hid (∀ w, Calls Tryz.prog 18 #[.int .i64 op] w fun e w' => e = .returned (.tuple #[.int .i64 ka, .int .i64 kb]) ∧ Keep NoB w w'))
    (hA : Hid (A = 0)) (hB : Hid (B = 0)) (h0 : ka = 0) (h1 : kb = 0) :
    Calls Tryz.prog 57 #[.int .i64 op, .string S] w fun e w' => e = .returned (instV op A B) ∧ Keep NoB w w' := by
  have HCt := Lib.hid (fun w hw => cut_any S s w hs.out hl.out hw)
  have hcl := Lib.hid (cut_len s)
  have hsz : Hid (S.size = s.length) := Lib.hid (_root_.Go.Proofs.YtpkcjokkadfhcaaGreatDoor.W.size_of hs.out)
  subst h0
  subst h1
  have gK := ((Keep.refl NoB w).alloc (.cells #[.int .i64 0, .int .i64 0, .int .i64 0] 23)).alloc (.cells #[.int .i64 op, .int .i64 0, .int .i64 0] 23)
  have bo := (Blk.new w 23 #[.int .i64 0, .int .i64 0, .int .i64 0]).alloc (.cells #[.int .i64 op, .int .i64 0, .int .i64 0] 23)
  have bx := Blk.new (w.alloc (.cells #[.int .i64 0, .int .i64 0, .int .i64 0] 23)) 23 #[.int .i64 op, .int .i64 0, .int .i64 0]
  rw [World.size_alloc] at bx
  generalize (Lib.cut s [32]).1 = s1 at *
  generalize (Lib.cut s [32]).2.1 = s2 at *
  go_enter Tryz.func57, Tryz.ntmps57
  go_wp2_with fail
  refine (HCt.out _ (hC.out.keep gK)).mono ?_
  rintro e w1 ⟨bb, rfl, k1⟩
  replace bo := bo.keep k1 id
  replace bx := bx.keep k1 id
  replace gK := keepN gK k1
  clear k1
  go_wp2_with fail
  refine (HKn.out _).mono ?_
  rintro e w2 ⟨rfl, k1⟩
  replace bo := bo.keep k1 id
  replace bx := bx.keep k1 id
  replace gK := keepN gK k1
  clear k1
  have hz := bx.lt
  have hzo := bo.lt
  have fx := fun i => bx.frozen i
  have fo := fun i => bo.frozen i
  obtain ⟨c0, c1, c2⟩ := blk_inst bx
  obtain ⟨o0, o1, o2⟩ := blk_inst bo
  go_wp2
  refine bodyPost_ret (v := instV op 0 0) (by simp [results, Tryz.results57, go_sem, o0, o1, o2]) rfl ⟨by rw [hA.out, hB.out], ?_⟩
  repeat' first | exact gK | refine Keep.setCell ?_ (fun h => absurd h (by simp)) _


set_option maxRecDepth 100000 in
set_option maxHeartbeats 4000000 in
theorem guess_d0 (op ka kb A B : Int) (S : ByteArray) (s : List UInt8) (w : World) (hs : Hid (S.data.toList = s)) (hl : Hid (S.size ≤ 1000)) (hL : Hid (LaidO w)) (hC : Hid (CutAt w)) (HKn : Hid (∀ w, Calls Tryz.prog 18 #[.int .i64 op] w fun e w' => e = .returned (.tuple #[.int .i64 ka, .int .i64 kb]) ∧ Keep NoB w w'))
    (hA : Hid (A = gK ka (Lib.cut s [32]).1)) (hB : Hid (B = 0)) (h0 : ka ≠ 0) (h1 : kb = 0) (hk0 : Hid (digK ka = true ∧ 0 ≤ ka ∧ ka ≤ 10)) :
    Calls Tryz.prog 57 #[.int .i64 op, .string S] w fun e w' => e = .returned (instV op A B) ∧ Keep NoB w w' := by
  have HCt := Lib.hid (fun w hw => cut_any S s w hs.out hl.out hw)
  have hcl := Lib.hid (cut_len s)
  have hsz : Hid (S.size = s.length) := Lib.hid (_root_.Go.Proofs.YtpkcjokkadfhcaaGreatDoor.W.size_of hs.out)
  have q0 : (ka != 0) = true := by rw [bne_iff_ne]; exact h0
  subst h1
  have gK := ((Keep.refl NoB w).alloc (.cells #[.int .i64 0, .int .i64 0, .int .i64 0] 23)).alloc (.cells #[.int .i64 op, .int .i64 0, .int .i64 0] 23)
  have bo := (Blk.new w 23 #[.int .i64 0, .int .i64 0, .int .i64 0]).alloc (.cells #[.int .i64 op, .int .i64 0, .int .i64 0] 23)
  have bx := Blk.new (w.alloc (.cells #[.int .i64 0, .int .i64 0, .int .i64 0] 23)) 23 #[.int .i64 op, .int .i64 0, .int .i64 0]
  rw [World.size_alloc] at bx
  generalize (Lib.cut s [32]).1 = s1 at *
  generalize (Lib.cut s [32]).2.1 = s2 at *
  go_enter Tryz.func57, Tryz.ntmps57
  go_wp2_with fail
  refine (HCt.out _ (hC.out.keep gK)).mono ?_
  rintro e w1 ⟨bb, rfl, k1⟩
  replace bo := bo.keep k1 id
  replace bx := bx.keep k1 id
  replace gK := keepN gK k1
  clear k1
  go_wp2_with fail
  refine (HKn.out _).mono ?_
  rintro e w2 ⟨rfl, k1⟩
  replace bo := bo.keep k1 id
  replace bx := bx.keep k1 id
  replace gK := keepN gK k1
  clear k1
  have HO := Lib.hid (fun w => operandOf_any ka ⟨hk0.out.2.1, hk0.out.2.2⟩ w)
  go_wp2_with fail
  refine (HO.out _).mono ?_
  rintro e w3 ⟨sh, gu, rfl, hF, k1⟩
  replace bo := bo.keep k1 id
  replace bx := bx.keep k1 id
  replace gK := keepN gK k1
  clear k1
  obtain ⟨rfl, rfl⟩ : sh = fnV 104 ∧ gu = fnV 106 := by
    rcases hF with ⟨h, _⟩ | ⟨_, h⟩ | ⟨h, _⟩
    · exact absurd h h0
    · exact h
    · exact absurd hk0.out.1 (dig_word h)
  clear hF
  dsimp only [opV]
  have hfd := fun w => run_field_gu ka (lo ka) (hi ka) (fnV 104) (fnV 106) w
  go_wp2_with fail
  refine (guess_dig ka (str s1) s1 _ hk0.out.1 (str_list _) (by rw [str_size]; have := hcl.out; have := hsz.out; have := hl.out; omega) (hL.out.keep gK)).mono ?_
  rintro e w4 ⟨rfl, k1⟩
  replace bo := bo.keep k1 id
  replace bx := bx.keep k1 id
  replace gK := keepN gK k1
  clear k1
  clear hfd
  rw [← hA.out]
  have hz := bx.lt
  have hzo := bo.lt
  have fx := fun i => bx.frozen i
  have fo := fun i => bo.frozen i
  obtain ⟨c0, c1, c2⟩ := blk_inst bx
  obtain ⟨o0, o1, o2⟩ := blk_inst bo
  go_wp2
  refine bodyPost_ret (v := instV op A 0) (by simp [results, Tryz.results57, go_sem, o0, o1, o2]) rfl ⟨by rw [hB.out], ?_⟩
  repeat' first | exact gK | refine Keep.setCell ?_ (fun h => absurd h (by simp)) _


set_option maxRecDepth 100000 in
set_option maxHeartbeats 4000000 in
theorem guess_w0 (op ka kb A B : Int) (S : ByteArray) (s : List UInt8) (w : World) (hs : Hid (S.data.toList = s)) (hl : Hid (S.size ≤ 1000)) (hL : Hid (LaidO w)) (hC : Hid (CutAt w)) (HKn : Hid (∀ w, Calls Tryz.prog 18 #[.int .i64 op] w fun e w' => e = .returned (.tuple #[.int .i64 ka, .int .i64 kb]) ∧ Keep NoB w w'))
    (hA : Hid (A = gK ka (Lib.cut s [32]).1)) (hB : Hid (B = 0)) (h0 : ka ≠ 0) (h1 : kb = 0) (hk0 : Hid (wordK ka = true ∧ 0 ≤ ka ∧ ka ≤ 10)) :
    Calls Tryz.prog 57 #[.int .i64 op, .string S] w fun e w' => e = .returned (instV op A B) ∧ Keep NoB w w' := by
  have HCt := Lib.hid (fun w hw => cut_any S s w hs.out hl.out hw)
  have hcl := Lib.hid (cut_len s)
  have hsz : Hid (S.size = s.length) := Lib.hid (_root_.Go.Proofs.YtpkcjokkadfhcaaGreatDoor.W.size_of hs.out)
  have q0 : (ka != 0) = true := by rw [bne_iff_ne]; exact h0
  subst h1
  have gK := ((Keep.refl NoB w).alloc (.cells #[.int .i64 0, .int .i64 0, .int .i64 0] 23)).alloc (.cells #[.int .i64 op, .int .i64 0, .int .i64 0] 23)
  have bo := (Blk.new w 23 #[.int .i64 0, .int .i64 0, .int .i64 0]).alloc (.cells #[.int .i64 op, .int .i64 0, .int .i64 0] 23)
  have bx := Blk.new (w.alloc (.cells #[.int .i64 0, .int .i64 0, .int .i64 0] 23)) 23 #[.int .i64 op, .int .i64 0, .int .i64 0]
  rw [World.size_alloc] at bx
  generalize (Lib.cut s [32]).1 = s1 at *
  generalize (Lib.cut s [32]).2.1 = s2 at *
  go_enter Tryz.func57, Tryz.ntmps57
  go_wp2_with fail
  refine (HCt.out _ (hC.out.keep gK)).mono ?_
  rintro e w1 ⟨bb, rfl, k1⟩
  replace bo := bo.keep k1 id
  replace bx := bx.keep k1 id
  replace gK := keepN gK k1
  clear k1
  go_wp2_with fail
  refine (HKn.out _).mono ?_
  rintro e w2 ⟨rfl, k1⟩
  replace bo := bo.keep k1 id
  replace bx := bx.keep k1 id
  replace gK := keepN gK k1
  clear k1
  have HO := Lib.hid (fun w => operandOf_any ka ⟨hk0.out.2.1, hk0.out.2.2⟩ w)
  go_wp2_with fail
  refine (HO.out _).mono ?_
  rintro e w3 ⟨sh, gu, rfl, hF, k1⟩
  replace bo := bo.keep k1 id
  replace bx := bx.keep k1 id
  replace gK := keepN gK k1
  clear k1
  obtain ⟨bb, cc, rfl, rfl, hcc⟩ : ∃ b c, sh = boxV 108 b ∧ gu = boxV 109 c ∧ w3.cell? ⟨c, 0, none⟩ = some (fnV (readF ka)) := by
    rcases hF with ⟨h, _⟩ | ⟨h, _⟩ | ⟨_, b, c, h1, h2, _, h4⟩
    · exact absurd h h0
    · exact absurd h (word_dig_no hk0.out.1)
    · exact ⟨b, c, h1, h2, h4⟩
  have hcc := Lib.hid hcc
  clear hF
  dsimp only [opV]
  have hfd := fun w => run_field_gu ka (lo ka) (hi ka) (boxV 108 bb) (boxV 109 cc) w
  go_wp2_with fail
  refine (guess_word ka (str s1) s1 cc _ hk0.out.1 (str_list _) (by rw [str_size]; have := hcl.out; have := hsz.out; have := hl.out; omega) (hL.out.keep gK) hcc.out).mono ?_
  rintro e w4 ⟨rfl, k1⟩
  replace bo := bo.keep k1 id
  replace bx := bx.keep k1 id
  replace gK := keepN gK k1
  clear k1
  clear hfd
  rw [← hA.out]
  have hz := bx.lt
  have hzo := bo.lt
  have fx := fun i => bx.frozen i
  have fo := fun i => bo.frozen i
  obtain ⟨c0, c1, c2⟩ := blk_inst bx
  obtain ⟨o0, o1, o2⟩ := blk_inst bo
  go_wp2
  refine bodyPost_ret (v := instV op A 0) (by simp [results, Tryz.results57, go_sem, o0, o1, o2]) rfl ⟨by rw [hB.out], ?_⟩
  repeat' first | exact gK | refine Keep.setCell ?_ (fun h => absurd h (by simp)) _


set_option maxRecDepth 100000 in
set_option maxHeartbeats 4000000 in
theorem guess_dw (op ka kb A B : Int) (S : ByteArray) (s : List UInt8) (w : World) (hs : Hid (S.data.toList = s)) (hl : Hid (S.size ≤ 1000)) (hL : Hid (LaidO w)) (hC : Hid (CutAt w)) (HKn : Hid (∀ w, Calls Tryz.prog 18 #[.int .i64 op] w fun e w' => e = .returned (.tuple #[.int .i64 ka, .int .i64 kb]) ∧ Keep NoB w w'))
    (hA : Hid (A = gK ka (Lib.cut s [32]).1)) (hB : Hid (B = gK kb (Lib.cut s [32]).2.1)) (h0 : ka ≠ 0) (h1 : kb ≠ 0) (hk0 : Hid (digK ka = true ∧ 0 ≤ ka ∧ ka ≤ 10)) (hk1 : Hid (wordK kb = true ∧ 0 ≤ kb ∧ kb ≤ 10)) :
    Calls Tryz.prog 57 #[.int .i64 op, .string S] w fun e w' => e = .returned (instV op A B) ∧ Keep NoB w w' := by
  have HCt := Lib.hid (fun w hw => cut_any S s w hs.out hl.out hw)
  have hcl := Lib.hid (cut_len s)
  have hsz : Hid (S.size = s.length) := Lib.hid (_root_.Go.Proofs.YtpkcjokkadfhcaaGreatDoor.W.size_of hs.out)
  have q0 : (ka != 0) = true := by rw [bne_iff_ne]; exact h0
  have q1 : (kb != 0) = true := by rw [bne_iff_ne]; exact h1
  have gK := ((Keep.refl NoB w).alloc (.cells #[.int .i64 0, .int .i64 0, .int .i64 0] 23)).alloc (.cells #[.int .i64 op, .int .i64 0, .int .i64 0] 23)
  have bo := (Blk.new w 23 #[.int .i64 0, .int .i64 0, .int .i64 0]).alloc (.cells #[.int .i64 op, .int .i64 0, .int .i64 0] 23)
  have bx := Blk.new (w.alloc (.cells #[.int .i64 0, .int .i64 0, .int .i64 0] 23)) 23 #[.int .i64 op, .int .i64 0, .int .i64 0]
  rw [World.size_alloc] at bx
  generalize (Lib.cut s [32]).1 = s1 at *
  generalize (Lib.cut s [32]).2.1 = s2 at *
  go_enter Tryz.func57, Tryz.ntmps57
  go_wp2_with fail
  refine (HCt.out _ (hC.out.keep gK)).mono ?_
  rintro e w1 ⟨bb, rfl, k1⟩
  replace bo := bo.keep k1 id
  replace bx := bx.keep k1 id
  replace gK := keepN gK k1
  clear k1
  go_wp2_with fail
  refine (HKn.out _).mono ?_
  rintro e w2 ⟨rfl, k1⟩
  replace bo := bo.keep k1 id
  replace bx := bx.keep k1 id
  replace gK := keepN gK k1
  clear k1
  have HO := Lib.hid (fun w => operandOf_any ka ⟨hk0.out.2.1, hk0.out.2.2⟩ w)
  go_wp2_with fail
  refine (HO.out _).mono ?_
  rintro e w3 ⟨sh, gu, rfl, hF, k1⟩
  replace bo := bo.keep k1 id
  replace bx := bx.keep k1 id
  replace gK := keepN gK k1
  clear k1
  obtain ⟨rfl, rfl⟩ : sh = fnV 104 ∧ gu = fnV 106 := by
    rcases hF with ⟨h, _⟩ | ⟨_, h⟩ | ⟨h, _⟩
    · exact absurd h h0
    · exact h
    · exact absurd hk0.out.1 (dig_word h)
  clear hF
  dsimp only [opV]
  have hfd := fun w => run_field_gu ka (lo ka) (hi ka) (fnV 104) (fnV 106) w
  go_wp2_with fail
  refine (guess_dig ka (str s1) s1 _ hk0.out.1 (str_list _) (by rw [str_size]; have := hcl.out; have := hsz.out; have := hl.out; omega) (hL.out.keep gK)).mono ?_
  rintro e w4 ⟨rfl, k1⟩
  replace bo := bo.keep k1 id
  replace bx := bx.keep k1 id
  replace gK := keepN gK k1
  clear k1
  clear hfd
  rw [← hA.out]
  have bo2 := bo
  have hz := bx.lt
  have fx := fun i => bx.frozen i
  have c0 := bx.cell 0
  have c1 := bx.cell 1
  have c2 := bx.cell 2
  have bx2 := bx.put 1 (.int .i64 A)
  have bo3 := bo.far (p := ⟨w.heap.size + 1, 1, none⟩) (by simp) (.int .i64 A)
  have gK2 : Keep NoB w (w4.setCell ⟨w.heap.size + 1, 1, none⟩ (.int .i64 A)) := gK.setCell (fun h => by have : w.heap.size + 1 < w.heap.size := h; omega) _
  have HO := Lib.hid (fun w => operandOf_any kb ⟨hk1.out.2.1, hk1.out.2.2⟩ w)
  go_wp2_with fail
  refine (HO.out _).mono ?_
  rintro e w5 ⟨sh, gu, rfl, hF, k1⟩
  clear bx bo gK hz fx c0 c1 c2 bo2
  have bx := bx2.keep k1 id
  have bo := bo3.keep k1 id
  have gK := keepN gK2 k1
  clear k1 bx2 bo3 gK2
  obtain ⟨bb, cc, rfl, rfl, hcc⟩ : ∃ b c, sh = boxV 108 b ∧ gu = boxV 109 c ∧ w5.cell? ⟨c, 0, none⟩ = some (fnV (readF kb)) := by
    rcases hF with ⟨h, _⟩ | ⟨h, _⟩ | ⟨_, b, c, h1, h2, _, h4⟩
    · exact absurd h h1
    · exact absurd h (word_dig_no hk1.out.1)
    · exact ⟨b, c, h1, h2, h4⟩
  have hcc := Lib.hid hcc
  clear hF
  dsimp only [opV]
  have hfd := fun w => run_field_gu kb (lo kb) (hi kb) (boxV 108 bb) (boxV 109 cc) w
  go_wp2_with fail
  refine (guess_word kb (str s2) s2 cc _ hk1.out.1 (str_list _) (by rw [str_size]; have := hcl.out; have := hsz.out; have := hl.out; omega) (hL.out.keep gK) hcc.out).mono ?_
  rintro e w6 ⟨rfl, k1⟩
  replace bo := bo.keep k1 id
  replace bx := bx.keep k1 id
  replace gK := keepN gK k1
  clear k1
  rw [← hB.out]
  have hz := bx.lt
  have hzo := bo.lt
  have fx := fun i => bx.frozen i
  have fo := fun i => bo.frozen i
  obtain ⟨c0, c1, c2⟩ := blk_inst bx
  obtain ⟨o0, o1, o2⟩ := blk_inst bo
  go_wp2
  refine bodyPost_ret (v := instV op A B) (by simp [results, Tryz.results57, go_sem, o0, o1, o2]) rfl ⟨rfl, ?_⟩
  repeat' first | exact gK | refine Keep.setCell ?_ (fun h => absurd h (by simp)) _

end Go.Proofs.YtpkcjokkadfhcaaGreatDoor.O

namespace Go.Proofs.YtpkcjokkadfhcaaGreatDoor.V
open Go.ChangeShapes Go.WideShapes Go.ChangeAt Go.RowKit

theorem cellsU8 : Tryz.prog.cellsOf 5 = 1 := by kernel_rfl

theorem u8_bounds {n : Int} (h : (Lit.int .u8 n).wf = true) : 0 ≤ n ∧ n < 256 := by
  have hmin : IntKind.u8.min = 0 := rfl
  have hmax : IntKind.u8.max = 255 := rfl
  simp only [Lit.wf, Bool.and_eq_true, decide_eq_true_eq] at h
  omega

/-- The bytes of a list of numbers that fit bytes. -/
def toU8 (zs : List Int) : List UInt8 := zs.map fun z => UInt8.ofNat z.toNat
theorem bvs_toU8 (zs : List Int) (h : ∀ n ∈ zs, (Lit.int .u8 n).wf = true) : bvs (toU8 zs) = zs.map (Value.int .u8) := by
  unfold bvs toU8
  rw [List.map_map]
  apply List.map_congr_left
  intro z hz
  obtain ⟨h0, h1⟩ := u8_bounds (h z hz)
  show Value.int .u8 (((UInt8.ofNat z.toNat).toNat : Nat) : Int) = _
  rw [UInt8.toNat_ofNat', Nat.mod_eq_of_lt (show z.toNat < 2 ^ 8 by omega)]
  congr 1
  omega

set_option maxRecDepth 100000 in
theorem read_bytes {H : Type} {enc : TypeId × Value → H} {W : World} {base : Nat} {spare : Nat → Bool} {held : Bool} {fuel : Nat} {cs : List Value} {x : DataW H × List MemPlace}
    (h : DataW.trod enc Tryz.prog W base spare held fuel 24 cs = some x) : ∃ A l c, cs = [.slice A l.length c] ∧ Rd W A l ∧ l.length ≤ c ∧ c ≤ maxLen := by
  rcases open_ints Tryz.underlying24 Tryz.underlying5 cellsU8 h with ⟨hcs, _⟩ | ⟨a, len, cap, zs, hcs, _, hl, hm, hz, _, hcell, hwz⟩
  · exact ⟨none, [], 0, hcs, Rd.none_ _ _, Nat.le_refl _, Nat.zero_le _⟩
  · have hzl : len ≤ zs.length := by rw [hz]; split <;> omega
    have hlen : (toU8 (zs.take len)).length = len := by simp [toU8]; omega
    refine ⟨some a, toU8 (zs.take len), cap, by rw [hlen]; exact hcs, fun _ => ⟨a, rfl, fun j u hu => ?_⟩, by rw [hlen]; exact hl, hm⟩
    rw [bvs_toU8 _ (fun n hn => hwz n (List.mem_of_mem_take hn))] at hu
    obtain ⟨hj, hju⟩ := List.getElem?_eq_some_iff.1 hu
    have hj' : j < len := by simp at hj; omega
    have hc := hcell j (by omega)
    rw [hc]
    simp at hju
    rw [← hju]
    simp [List.getD, List.getElem?_eq_getElem (show j < zs.length by omega)]

section
variable {H : Type} {enc : TypeId × Value → H} {w : World} {base b0 : Nat} {spare : Nat → Bool} {held : Bool} {r : Reach} {v : Value} {d : DataW H} {p : List MemPlace}
set_option maxRecDepth 100000 in
theorem open_bytes (hv : Value.okWide Tryz.prog w r b0 24 v) (h : DataW.Trod enc Tryz.prog w base spare held 24 v d p) : ∃ A l c, v = .slice A l.length c ∧ Rd w A l ∧ l.length ≤ c ∧ c ≤ maxLen := by
  obtain ⟨a0, len, cap, rfl⟩ := okWide_slice Tryz.underlying24 hv
  obtain ⟨fuel, hf⟩ := h
  obtain ⟨A, l, c, hcs, hr, hc, hm⟩ := read_bytes hf
  simp only [Value.cells, List.cons.injEq, Value.slice.injEq, and_true] at hcs
  obtain ⟨rfl, rfl, rfl⟩ := hcs
  exact ⟨_, l, _, rfl, hr, hc, hm⟩
end

end Go.Proofs.YtpkcjokkadfhcaaGreatDoor.V

namespace Go.Proofs.YtpkcjokkadfhcaaGreatDoor.O
open Go.ChangeShapes Go.WideShapes Go.ChangeAt Go.RowKit

theorem handed_and {H : Type} {enc : TypeId × Value → H} {a : Assume} {C : Checked} {os : Os} {f : FuncId} {fn : Func} {s : ChangeSpec} {conds : List PathCond} {apart fresh handsOn again : Bool} {X : World → Array Value → Prop}
    (hX : ∀ (w w' : World) (args : Array Value), w.heap = w'.heap → X w args → X w' args) (own : ownKnob C.prog.godebug = none) (started : os.Started) (noInit : C.prog.inits.idxOf? f = none) (hfn : C.prog.funcs[f]? = some fn)
    (witness : ∃ (w : World) (tape : Tape) (i : Input), w.os = os ∧ (w.forCall tape i).Shaped C.prog ∧ i.vars = [] ∧ Input.okWide C.prog (w.forCall tape i) .any w.heap.size f i ∧
      ((s.pre enc C.prog fn conds apart (w.forCall tape i).memory i.args ∧ X (w.forCall tape i).memory i.args) ∧ sizedMet enc C.prog fn (OpenSpec.ofChange s) apart (w.forCall tape i).memory i.args) ∧ a.holds C.prog (lone (Frame.enter C.prog f i.args .normal) [] (w.forCall tape i)))
    (contract : ∀ (W : World) (base : Nat) (args : Array Value) (ds gs : List (DataW H)) (before : List MemPlace),
      (∀ (j : Nat) t v, fn.params[j]? = some t → args[j]? = some v → Value.okWide C.prog W .any base t v) → DataW.Whole enc C.prog fn.params.toList s.vars apart W args.toList ds gs before →
      W.ShapedOpen C.prog → X W args → Calls C.prog f args W fun e W' => ∃ v, e = .returned v ∧ s.post enc C.prog fn apart fresh handsOn again W args v W') :
    ReturnsInHanded a C os f .any (fun w args => (s.pre enc C.prog fn conds apart w args ∧ X w args) ∧ sizedMet enc C.prog fn (OpenSpec.ofChange s) apart w args) (s.post enc C.prog fn apart fresh handsOn again) := by
  refine returnsInHanded_of_calls own started noInit witness ?_
  intro w tape i _ hsh _ hok hpre _
  obtain ⟨_, _, _, fn', hfn', _, _, _, _, hval⟩ := hok
  obtain rfl : fn' = fn := Option.some.inj (hfn'.symm.trans hfn)
  obtain ⟨⟨⟨ds, gs, before, hw, _⟩, hx⟩, _⟩ := hpre
  refine (contract (w.forCall tape i) w.heap.size i.args ds gs before hval (DataW.Whole.of_heap (w' := w.forCall tape i) (by rfl) hw) hsh (hX _ _ _ (by rfl) hx)).mono fun e W' ⟨v, he, hp⟩ => ?_
  subst he
  exact ChangeSpec.post_blind hp

theorem cutAt_of {w : World} (h : w.ShapedOpen Tryz.prog) : CutAt w :=
  cell_of_shapedOpen_int (t := 3) (zero := #[.int .i64 0]) h (by decide +kernel) (by kernel_rfl) rfl (by kernel_rfl) (by kernel_rfl) Tryz.underlying3

end Go.Proofs.YtpkcjokkadfhcaaGreatDoor.O

namespace Go.Proofs.YtpkcjokkadfhcaaGreatDoor.O
open Go.RowKit Go.Shelf

/-- An instruction's number. -/
abbrev Rn := { k : Nat // k < 30 }
abbrev rowE (x : Rn) : Array Value := #[.int .i64 (x.1 : Int), rowV (rowAt (x.1 : Int))]
theorem rn_op (x : Rn) : isOp (x.1 : Int) = true := decide_eq_true (by have := x.2; omega)

set_option maxRecDepth 100000 in
set_option maxHeartbeats 1000000 in
theorem rows1_in (m l : Nat) (hm : 1 ≤ m) (J Jx : List Rn → World → Prop) (hJk : ∀ pre W W', J pre W → Keep NoB W W' → J pre W')
    (hY : ∀ pre x W, J pre W → pre.length < 30 → YieldAt Fence.wide (m - 1) Tryz.prog l (rowE x) W fun e W' =>
      (e = .returned (.bool true) ∧ J (pre ++ [x]) W' ∧ True) ∨ (e = .returned (.bool false) ∧ Jx (pre ++ [x]) W'))
    (W : World) (h0 : J [] W) :
    CallsIn Fence.wide m Tryz.prog 86 #[.func (.yield l) #[] #[]] W fun e W' => (∃ v, e = .returned v) ∧
      ((∃ ys : List Rn, ys.map (·.1) = List.range 30 ∧ J ys W') ∨ (∃ pre, True ∧ Jx pre W')) := by
  refine callsIn_of_wp Tryz.func86 rfl trivial ?_ rfl
  simp only [Tryz.ntmps86, List.size_toArray, List.length_cons, List.length_nil, Nat.reduceAdd, Nat.reduceSub, Array.replicate_succ, Array.replicate_zero, List.push_toArray, List.append_toArray, List.nil_append, List.cons_append]
  gi_wp2_with (refine ⟨trivial, ?_⟩; (try refine ⟨fun _ => hm, ?_⟩); gi_at_call 87; refine (callsIn_wide.2 (table_any _)).mono ?_; rintro e w1 ⟨rfl, k1⟩; have hJ1 := hJk _ _ _ h0 k1)
  gi_loopw [5] (fun p wr => ∃ (j : Nat) (pre : List Rn), j ≤ 30 ∧ p = .int .i64 (j : Int) ∧ Hid (pre.map (·.1) = List.range j) ∧ J pre wr)
    (fun p _ => 30 - (intOf p).toNat)
  case atStart => exact ⟨0, [], by omega, rfl, rfl, hJ1⟩
  case round =>
    obtain ⟨j, pre, hj, rfl, HP, hJ⟩ := hrel
    by_cases hlt : j < 30
    · have hlen : pre.length < 30 := by
        have := congrArg List.length HP.out
        simp at this
        omega
      have ho : isOp (j : Int) = true := decide_eq_true (by omega)
      have hix : ∀ w, (Instr.index 143 (.agg tableC) (.int .i64 (j : Int))).run Tryz.prog w = .ok (rowV (rowAt (j : Int))) w := fun w => run_index_row (j : Int) ho w
      have HJ2 := Lib.hid (fun W' hk => hJk pre wr W' hJ hk)
      have HY := Lib.hid (hY pre ⟨j, hlt⟩ _ (HJ2.out _ ((Keep.refl NoB wr).alloc (.cells (cells9 (rowAt (j : Int))) 71))) hlen)
      have hdn : Hid ((pre ++ [(⟨j, hlt⟩ : Rn)]).map (·.1) = List.range (j + 1)) := by
        show _ = _
        rw [List.map_append, HP.out, List.range_succ]
        rfl
      obtain ⟨r, hr⟩ : ∃ r, rowAt (j : Int) = r := ⟨_, rfl⟩
      rw [hr] at hix
      dsimp only [rowE] at HY
      rw [hr] at HY
      clear hr
      obtain ⟨fn, tmps, assign, body, hy, hR⟩ := HY.out
      clear hY ho HY HJ2
      gi_wp2
      refine hR.mono ?_
      rintro e W3 (⟨rfl, hJ3, _⟩ | ⟨rfl, hJx3⟩)
      · gi_wp2
        go_roundw
        case rel => exact ⟨j + 1, _, by omega, by go_num, hdn, hJ3⟩
        case measure => simp [intOf]; omega
      · gi_wp2
        refine bodyPost_ret (results_none rfl _ _ _) rfl ?_
        exact ⟨⟨_, rfl⟩, .inr ⟨_, trivial, hJx3⟩⟩
    · obtain rfl : j = 30 := by omega
      gi_wp2
      go_end0
      exact ⟨⟨_, rfl⟩, .inl ⟨pre, HP.out, hJ⟩⟩

end Go.Proofs.YtpkcjokkadfhcaaGreatDoor.O

namespace Go.Proofs.YtpkcjokkadfhcaaGreatDoor.O
open Go.RowKit Go.Shelf
attribute [local go_sem] Oper.semAt_some

/-- What the loop keeps: none that has come has the name. -/
def OfI (w : World) (bs bn be : Nat) (S : ByteArray) (pre : List Rn) (W : World) : Prop :=
  (Blk W bs 9 #[.string S] ∧ Blk W bn 3 #[.int .i64 0] ∧ Blk W be 26 #[.int .i64 40]) ∧ Keep NoB w W ∧ ∀ x ∈ pre, nm x.1 ≠ S
/-- Where it is left: one has it. -/
def OfX (w : World) (bn be : Nat) (S : ByteArray) (c : Code) (W : World) : Prop :=
  c = .exit 0 ∧ ∃ x : Rn, nm x.1 = S ∧ (Blk W bn 3 #[.int .i64 (x.1 : Int)] ∧ Blk W be 26 #[.int .i64 0]) ∧ Keep NoB w W
/-- The activation at the head of the loop's body. -/
def OfA (S : ByteArray) (bs bn be : Nat) (x : Rn) (Bo : Nat) : Act :=
  { tmps := #[.string S, .pointer (some ⟨bs, 0, none⟩), .int .i64 0, .int .i64 0, .pointer (some ⟨bn, 0, none⟩), .pointer (some ⟨be, 0, none⟩), .int .i64 (x.1 : Int), .pointer (some ⟨Bo, 0, none⟩), .func (.func 86) #[] #[], .int .i64 (x.1 : Int), rowV (rowAt (x.1 : Int)), undef, undef, undef, undef, undef, undef, undef], defers := [] }
theorem ofI_own {w : World} {bs bn be B : Nat} {S : ByteArray} (hB : w.heap.size ≤ B) : OwnFrom B (OfI w bs bn be S) := by
  intro s X Y row ⟨⟨h1, h2, h3⟩, h4, h5⟩ hg hrow
  exact ⟨⟨blk_own (β := Unit) _ _ _ (fun _ => _) () _ _ _ h1 hg hrow, blk_own (β := Unit) _ _ _ (fun _ => _) () _ _ _ h2 hg hrow, blk_own (β := Unit) _ _ _ (fun _ => _) () _ _ _ h3 hg hrow⟩, keep_own (β := Unit) _ hB () _ _ _ h4 hg hrow, h5⟩
theorem ofX_own {w : World} {bn be B : Nat} {S : ByteArray} (hB : w.heap.size ≤ B) (c : Code) : OwnFrom B (fun (_ : List Rn) W => OfX w bn be S c W) := by
  intro s X Y row ⟨h0, x, h1, ⟨h2, h3⟩, h4⟩ hg hrow
  exact ⟨h0, x, h1, ⟨blk_own (β := Unit) _ _ _ (fun _ => _) () _ _ _ h2 hg hrow, blk_own (β := Unit) _ _ _ (fun _ => _) () _ _ _ h3 hg hrow⟩, keep_own (β := Unit) _ hB () _ _ _ h4 hg hrow⟩
theorem abides_keep {B : Nat} {J : List Rn → World → Prop} (h : AbidesFrom B J) : ∀ pre W W', J pre W → Keep NoB W W' → J pre W' := fun pre W W' hj hk => h pre W W' none hj hk.grows (fun r e => by cases e)
theorem rows_stops (m : Nat) (hm : 1 ≤ m) (w : World) :
    SeqStopsK Fence.wide m Tryz.prog 86 #[] rowE (fun _ _ => True) (fun ys : List Rn => ys.map (·.1) = List.range 30) (fun _ => True) 30 w := fun l J Jx W _ hJ _ hY h0 =>
  rows1_in m l hm J Jx (abides_keep hJ) hY W h0
theorem rows_any (m : Nat) (w : World) :
    CallsIn Fence.wide m Tryz.prog 51 #[] w fun e w' => e = .returned (.func (.func 86) #[] #[]) ∧ w' = w := by
  refine callsIn_of_wp Tryz.func51 rfl trivial ?_ rfl
  simp only [Tryz.ntmps51, List.size_toArray, List.length_nil, Nat.reduceSub, Array.replicate_succ, Array.replicate_zero, List.push_toArray, List.append_toArray, List.nil_append]
  gi_wp2
  go_ret
  exact ⟨rfl, rfl⟩
theorem nm_ne {S T : ByteArray} (h : T ≠ S) : (T.toList == S.toList) = false := by
  rw [beq_eq_false_iff_ne]
  intro e
  rw [ByteArray.toList_eq, ByteArray.toList_eq] at e
  exact h (by cases T; cases S; simp at e; rw [e])
theorem findI_hit {S : ByteArray} (x : Rn) (h : nm x.1 = S) : findI S = (x.1 : Int) := by
  rw [← h]; exact findI_of (rn_op x)
theorem findI_miss {S : ByteArray} {ys : List Rn} (h : ys.map (·.1) = List.range 30) (h2 : ∀ x ∈ ys, nm x.1 ≠ S) : findI S = -1 := by
  rcases find_spec S 30 0 with ⟨h1, _⟩ | ⟨j, _, hj, _, h4⟩
  · exact h1
  · have hm : j ∈ ys.map (·.1) := by rw [h]; simp; omega
    obtain ⟨x, hx, rfl⟩ := List.mem_map.1 hm
    exact absurd h4 (h2 x hx)

set_option maxRecDepth 100000 in
set_option maxHeartbeats 4000000 in
theorem opOf_any (S : ByteArray) (w : World) :
    Calls Tryz.prog 16 #[.string S] w fun e w' => e = .returned (.tuple #[.int .i64 (ofN S), .int .i64 (ofE S)]) ∧ Keep NoB w w' := by
  refine (callsIn_wide (n := 4)).1 ?_
  refine callsIn_of_wp_marks Tryz.func16 rfl trivial ?_ rfl
  simp only [Tryz.ntmps16, List.size_toArray, List.length_cons, List.length_nil, Nat.reduceAdd, Nat.reduceSub, Array.replicate_succ, Array.replicate_zero, List.push_toArray, List.append_toArray, List.nil_append, List.cons_append]
  gi_wp2
  refine V.wpIn_scope_wide ?_
  have hs := ((Blk.new w 9 #[.string S]).alloc (.cells #[.int .i64 0] 3)).alloc (.cells #[.int .i64 40] 26)
  have hn := (Blk.new (w.alloc (.cells #[.string S] 9)) 3 #[.int .i64 0]).alloc (.cells #[.int .i64 40] 26)
  have he := Blk.new ((w.alloc (.cells #[.string S] 9)).alloc (.cells #[.int .i64 0] 3)) 26 #[.int .i64 40]
  simp only [World.size_alloc] at hn he
  have hK := (((Keep.refl NoB w).alloc (.cells #[.string S] 9)).alloc (.cells #[.int .i64 0] 3)).alloc (.cells #[.int .i64 40] 26)
  have hI0 : OfI w w.heap.size (w.heap.size + 1) (w.heap.size + 1 + 1) S [] (((w.alloc (.cells #[.string S] 9)).alloc (.cells #[.int .i64 0] 3)).alloc (.cells #[.int .i64 40] 26)) := ⟨⟨hs, hn, he⟩, hK, fun x hx => by simp at hx⟩
  gi_wp2
  refine wpIn_label ?_
  gi_wp2_with (refine ⟨trivial, ?_⟩; gi_at_call 51; refine (rows_any _ _).mono ?_; rintro e w1 ⟨rfl, rfl⟩)
  clear hs hn he hK
  refine wpIn_rangeFunc_ownH rfl (by omega) (gf := 86) (lb := #[]) rfl trivial (enters_of Tryz.func86 (by kernel_rfl) rfl)
    (rows_stops _ (by omega) _) (fun _ _ => trivial) (fun _ _ _ _ _ _ _ _ => trivial) (Below.refl _ _) (fun _ => rfl)
    (OfI w w.heap.size (w.heap.size + 1) (w.heap.size + 1 + 1) S) (fun c _ W => OfX w (w.heap.size + 1) (w.heap.size + 1 + 1) S c W) (ofI_own (by simp; omega)) (fun c => ofX_own (by simp; omega) c) hI0
    (fun x a' W => ∃ Bo, Blk W Bo 71 (cells9 (rowAt (x.1 : Int))) ∧ a' = OfA S w.heap.size (w.heap.size + 1) (w.heap.size + 1 + 1) x Bo) ?hax ?assign ?body ?done ?stop
  case hax =>
    rintro x a' s X Y row ⟨Bo, h1, h2⟩ hg hrow
    exact ⟨Bo, blk_own (β := Unit) _ _ _ (fun _ => _) () _ _ _ h1 hg hrow, h2⟩
  case assign =>
    intro l pre x W K hi hK
    have HI := Lib.hid (fun W' hk => ofI_own (w := w) (bs := w.heap.size) (bn := w.heap.size + 1) (be := w.heap.size + 1 + 1) (S := S) (Nat.le_refl _) pre W W' none hi (Keep.grows hk) (fun r e => by cases e))
    have HB := Lib.hid (Blk.new W 71 (cells9 (rowAt (x.1 : Int))))
    gi_wp2
    exact hK _ _ (keepsFrom_keep ((Keep.refl NoB W).alloc _)) trivial (HI.out _ ((Keep.refl NoB W).alloc _)) ⟨_, HB.out, rfl⟩
  case body =>
    rintro l pre x a' W hl _ ⟨⟨hs, hn, he⟩, hK, hall⟩ ⟨Bo, hb, rfl⟩ _
    have cs : W.cell? ⟨w.heap.size, 0, none⟩ = some (.string S) := hs.cell 0
    have cb : W.cell? ⟨Bo, 0, none⟩ = some (.string (nm x.1)) := hb.cell 0
    have hzn := hn.lt
    have hze := he.lt
    have fn := fun i => hn.frozen i
    have fe := fun i => he.frozen i
    have cn := hn.cell 0
    have ce := he.cell 0
    dsimp only [OfA]
    by_cases hx : nm x.1 = S
    · have hq : ((nm x.1).toList == S.toList) = true := by rw [hx]; simp
      have hn2 := (hn.put 0 (.int .i64 (x.1 : Int))).far (p := ⟨w.heap.size + 1 + 1, 0, none⟩) (by simp) (.int .i64 0)
      have he2 := (he.far (p := ⟨w.heap.size + 1, 0, none⟩) (by simp) (.int .i64 (x.1 : Int))).put 0 (.int .i64 0)
      have HX : Hid (OfX w (w.heap.size + 1) (w.heap.size + 1 + 1) S (.exit 0) ((W.setCell ⟨w.heap.size + 1, 0, none⟩ (.int .i64 (x.1 : Int))).setCell ⟨w.heap.size + 1 + 1, 0, none⟩ (.int .i64 0))) :=
        ⟨rfl, x, hx, ⟨hn2, he2⟩, (hK.setCell (fun h => absurd h (by simp)) _).setCell (fun h => absurd h (by simp; omega)) _⟩
      clear hx hs hn he hn2 he2 hK hall
      generalize nm x.1 = T at cb hq
      gi_wp2
      refine ⟨⟨?_, ?_⟩, HX.out⟩
      · simp
      · intro k o hk1 hk2 hk3
        have hk1' : w.heap.size + 3 ≤ k := by simp at hk1; omega
        exact ((Below.heap_setCell _ _ _ _ (by show k ≠ w.heap.size + 1 + 1; omega)).trans (Below.heap_setCell _ _ _ _ (by show k ≠ w.heap.size + 1; omega))).trans hk2
    · have hq := nm_ne hx
      have HX : Hid (OfI w w.heap.size (w.heap.size + 1) (w.heap.size + 1 + 1) S (pre ++ [x]) W) := ⟨⟨hs, hn, he⟩, hK, fun y hy => by
        rcases List.mem_append.1 hy with h | h
        · exact hall y h
        · rw [List.mem_singleton.1 h]; exact hx⟩
      clear hx hs hn he hK hall
      generalize nm x.1 = T at cb hq
      gi_wp2
      exact ⟨KeepsFrom.refl _ _, trivial, HX.out⟩
  case done =>
    rintro D ys W hD hS ⟨⟨hs, hn, he⟩, hK, hall⟩ hDf
    have hf := findI_miss hS hall
    have HX : Hid (ofN S = 0 ∧ ofE S = 40) := ⟨by unfold ofN; rw [if_pos (by omega)], by unfold ofE; rw [if_pos (by omega)]⟩
    have cn : W.cell? ⟨w.heap.size + 1, 0, none⟩ = some (.int .i64 0) := hn.cell 0
    have ce : W.cell? ⟨w.heap.size + 1 + 1, 0, none⟩ = some (.int .i64 40) := he.cell 0
    have hmix : Tryz.prog.follows .mixedOrders = true := by kernel_rfl
    gi_wp2
    gi_region
    gi_wp2
    refine ⟨by simp, .inl ⟨_, _, rfl, run_takeDeferred (w := W.drew) hDf, ?_⟩⟩
    refine ⟨_, results_tmp2 rfl _ _ _, ?_, Keep_putObj hK.drew (by simp at hD; omega)⟩
    exact pr_ii HX.out.1.symm HX.out.2.symm
  case stop =>
    rintro D c pre W hD _ ⟨rfl, x, hx, ⟨hn, he⟩, hK⟩ hDf
    have hf := findI_hit x hx
    have HX : Hid (ofN S = (x.1 : Int) ∧ ofE S = 0) := ⟨by unfold ofN; rw [if_neg (by omega), hf], by unfold ofE; rw [if_neg (by omega)]⟩
    have cn : W.cell? ⟨w.heap.size + 1, 0, none⟩ = some (.int .i64 (x.1 : Int)) := hn.cell 0
    have ce : W.cell? ⟨w.heap.size + 1 + 1, 0, none⟩ = some (.int .i64 0) := he.cell 0
    have hmix : Tryz.prog.follows .mixedOrders = true := by kernel_rfl
    gi_wp2
    gi_region
    gi_wp2
    refine ⟨by simp, .inl ⟨_, _, rfl, run_takeDeferred (w := W.drew) hDf, ?_⟩⟩
    refine ⟨_, results_tmp2 rfl _ _ _, ?_, Keep_putObj hK.drew (by simp at hD; omega)⟩
    exact pr_ii HX.out.1.symm HX.out.2.symm

end Go.Proofs.YtpkcjokkadfhcaaGreatDoor.O

namespace Go.Proofs.YtpkcjokkadfhcaaGreatDoor.O
open Go.RowKit

theorem ka_cases (op : Int) : (rowAt op).ka = 0 ∨ digK (rowAt op).ka = true ∨ (wordK (rowAt op).ka = true ∧ (rowAt op).kb = 0) := by
  have := rowAt_all (p := fun r => decide (r.ka = 0 ∨ digK r.ka = true ∨ (wordK r.ka = true ∧ r.kb = 0))) (by decide) (by decide) op
  simpa using this

theorem guess_any (op : Int) (S : ByteArray) (s : List UInt8) (w : World) (hs : S.data.toList = s) (hl : S.size ≤ 1000) (hL : LaidO w) (hC : CutAt w) :
    Calls Tryz.prog 57 #[.int .i64 op, .string S] w fun e w' => e = .returned (instV op (gA op s) (gB op s)) ∧ Keep NoB w w' := by
  have hk := kinds_ok op
  have HK := Lib.hid (fun w => kinds_any op w)
  have eA : gA op s = if (rowAt op).ka = 0 then 0 else gK (rowAt op).ka (Lib.cut s [32]).1 := rfl
  have eB : gB op s = if (rowAt op).kb = 0 then 0 else gK (rowAt op).kb (Lib.cut s [32]).2.1 := rfl
  rcases ka_cases op with h0 | hd | ⟨hw, h1⟩
  · have h1 := kinds_none op h0
    rw [if_pos h0] at eA
    rw [if_pos h1] at eB
    exact guess_00 op (rowAt op).ka (rowAt op).kb _ _ S s w hs hl hL hC HK eA eB h0 h1
  · have h0 := dig_0 hd
    rw [if_neg h0] at eA
    rcases kb_cases op with h1 | h3
    · rw [if_pos h1] at eB
      exact guess_d0 op (rowAt op).ka (rowAt op).kb _ _ S s w hs hl hL hC HK eA eB h0 h1 ⟨hd, hk.1, hk.2.1⟩
    · have h1 : (rowAt op).kb ≠ 0 := by omega
      rw [if_neg h1] at eB
      exact guess_dw op (rowAt op).ka (rowAt op).kb _ _ S s w hs hl hL hC HK eA eB h0 h1 ⟨hd, hk.1, hk.2.1⟩ ⟨by rw [h3]; decide, hk.2.2.1, hk.2.2.2⟩
  · have h0 := word_0 hw
    rw [if_neg h0] at eA
    rw [if_pos h1] at eB
    exact guess_w0 op (rowAt op).ka (rowAt op).kb _ _ S s w hs hl hL hC HK eA eB h0 h1 ⟨hw, hk.1, hk.2.1⟩

theorem eq_text {S : ByteArray} {s t : List UInt8} (hs : S.data.toList = s) : ((str t).toList == S.toList) = decide (t = s) := by
  rw [ByteArray.toList_eq, ByteArray.toList_eq, hs, str_list]
  by_cases h : t = s
  · subst h; simp
  · simp [h]
theorem out3N {w w1 : World} {B : Nat} (hk : Keep NoB w w1) (hB : w.heap.size ≤ B) (u0 u1 u2 : Value) : Keep NoB w (((w1.setCell ⟨B, 0, none⟩ u0).setCell ⟨B, 1, none⟩ u1).setCell ⟨B, 2, none⟩ u2) := by
  have hn : ∀ i, (⟨B, i, none⟩ : Addr).block < w.heap.size → NoB (⟨B, i, none⟩ : Addr).block := fun i hl => by have : B < w.heap.size := hl; omega
  exact ((hk.setCell (hn 0) _).setCell (hn 1) _).setCell (hn 2) _

set_option maxRecDepth 100000 in
set_option maxHeartbeats 2000000 in
theorem read_text (S : ByteArray) (s : List UInt8) (w : World) (hs : S.data.toList = s) (hl : S.size ≤ 1000) (hL : LaidO w) (hC : CutAt w) :
    Calls Tryz.prog 24 #[.string S] w fun e w' => ∃ v, e = .returned v ∧ ReadV s v ∧ Keep NoB w w' := by
  have hK := (Keep.refl NoB w).alloc (.cells #[.int .i64 0, .int .i64 0, .int .i64 0] 23)
  have bo := Blk.new w 23 #[.int .i64 0, .int .i64 0, .int .i64 0]
  have HL := Lib.hid hL
  have HCt := Lib.hid (cut_any S s _ hs hl (hC.keep hK))
  have HC := Lib.hid hC
  have hcl := Lib.hid (cut_len s)
  have hsz : Hid (S.size = s.length) := Lib.hid (_root_.Go.Proofs.YtpkcjokkadfhcaaGreatDoor.W.size_of hs)
  have hl := Lib.hid hl
  have HN := Lib.hid (fun h => read_nameless (s := s) h)
  have HY := Lib.hid (fun op a b h1 h2 h3 => read_yes (s := s) (op := op) (a := a) (b := b) h1 h2 h3)
  have HM := Lib.hid (fun op h1 h2 => read_miss (s := s) (op := op) h1 h2)
  have HE := Lib.hid (fun t => eq_text (t := t) hs)
  clear hL hC hs
  generalize (Lib.cut s [32]).1 = s1 at *
  generalize (Lib.cut s [32]).2.1 = s2 at *
  have HO := Lib.hid (fun w => opOf_any (str s1) w)
  rcases findI_spec (str s1) with ⟨hf, _⟩ | ⟨ho, hn⟩
  · have HX : Hid (ofN (str s1) = 0 ∧ ofE (str s1) = 40) := ⟨by unfold ofN; rw [if_pos (by omega)], by unfold ofE; rw [if_pos (by omega)]⟩
    have HR := Lib.hid (HN.out (by omega))
    rw [HX.out.1, HX.out.2] at HO
    clear hf HX HN HY HM HE
    go_enter Tryz.func24, Tryz.ntmps24
    go_wp2_with fail
    refine HCt.out.mono ?_
    rintro e w1 ⟨bb, rfl, k1⟩
    replace hK := keepN hK k1
    replace bo := bo.keep k1 id
    clear k1
    go_wp2_with fail
    refine (HO.out _).mono ?_
    rintro e w2 ⟨rfl, k1⟩
    replace hK := keepN hK k1
    replace bo := bo.keep k1 id
    clear k1
    have hz := bo.lt
    have fo := fun i => bo.frozen i
    obtain ⟨o0, o1, o2⟩ := blk_inst bo
    go_wp2
    exact bodyPost_ret (v := .tuple #[instV 0 0 0, .int .i64 40]) (by simp [results, Tryz.results24, go_sem, o0, o1, o2]) rfl ⟨_, rfl, HR.out, out3N hK (Nat.le_refl _) _ _ _⟩
  · have hb := isOp_yes ho
    have HX : Hid (ofN (str s1) = findI (str s1) ∧ ofE (str s1) = 0) := ⟨by unfold ofN; rw [if_neg (by omega)], by unfold ofE; rw [if_neg (by omega)]⟩
    rw [HX.out.1, HX.out.2] at HO
    obtain ⟨op, hop⟩ : ∃ op, findI (str s1) = op := ⟨_, rfl⟩
    rw [hop] at HO ho hn
    have HG := Lib.hid (fun w hL hC => guess_any op (str s2) s2 w (str_list _) (by rw [str_size]; have := hcl.out; have := hsz.out; have := hl.out; omega) hL hC)
    have HS := Lib.hid (fun w hL => show_any op (gA op s2) (gB op s2) w (gA_bounds op s2) (gB_bounds op s2) hL)
    have HY := Lib.hid (HY.out op (gA op s2) (gB op s2) ho hn)
    have HM := Lib.hid (HM.out op hop)
    have HE := Lib.hid (HE.out (showI op (gA op s2) (gB op s2)))
    clear HX HN hb hop ho hn hcl hsz hl
    generalize gA op s2 = a at *
    generalize gB op s2 = b at *
    generalize showI op a b = t at *
    by_cases ht : t = s
    · have hq : ((str t).toList == S.toList) = true := by rw [HE.out]; simpa using ht
      have HR := Lib.hid (HY.out ht)
      clear HE HM HY ht
      generalize str t = T at *
      go_enter Tryz.func24, Tryz.ntmps24
      go_wp2_with fail
      refine HCt.out.mono ?_
      rintro e w1 ⟨bb, rfl, k1⟩
      replace hK := keepN hK k1
      replace bo := bo.keep k1 id
      clear k1
      go_wp2_with fail
      refine (HO.out _).mono ?_
      rintro e w2 ⟨rfl, k1⟩
      replace hK := keepN hK k1
      replace bo := bo.keep k1 id
      clear k1
      go_wp2_with fail
      refine (HG.out _ (HL.out.keep hK) (HC.out.keep hK)).mono ?_
      rintro e w3 ⟨rfl, k1⟩
      replace hK := (keepN hK k1).alloc (.cells #[.int .i64 op, .int .i64 a, .int .i64 b] 23)
      replace bo := (bo.keep k1 id).alloc (.cells #[.int .i64 op, .int .i64 a, .int .i64 b] 23)
      have bx := Blk.new w3 23 #[.int .i64 op, .int .i64 a, .int .i64 b]
      clear k1
      go_wp2_with fail
      refine (HS.out _ (HL.out.keep hK)).mono ?_
      rintro e w4 ⟨rfl, k1⟩
      replace hK := keepN hK k1
      replace bo := bo.keep k1 id
      replace bx := bx.keep k1 id
      clear k1
      have hz := bo.lt
      have fo := fun i => bo.frozen i
      obtain ⟨o0, o1, o2⟩ := blk_inst bo
      obtain ⟨x0, x1, x2⟩ := blk_inst bx
      go_wp2
      exact bodyPost_ret (v := .tuple #[instV op a b, .int .i64 0]) (by simp [results, Tryz.results24, go_sem, o0, o1, o2]) rfl ⟨_, rfl, HR.out, out3N hK (Nat.le_refl _) _ _ _⟩
    · have hq : ((str t).toList == S.toList) = false := by rw [HE.out]; simpa using ht
      have HR := Lib.hid (HM.out ht)
      clear HE HM HY ht
      generalize str t = T at *
      go_enter Tryz.func24, Tryz.ntmps24
      go_wp2_with fail
      refine HCt.out.mono ?_
      rintro e w1 ⟨bb, rfl, k1⟩
      replace hK := keepN hK k1
      replace bo := bo.keep k1 id
      clear k1
      go_wp2_with fail
      refine (HO.out _).mono ?_
      rintro e w2 ⟨rfl, k1⟩
      replace hK := keepN hK k1
      replace bo := bo.keep k1 id
      clear k1
      go_wp2_with fail
      refine (HG.out _ (HL.out.keep hK) (HC.out.keep hK)).mono ?_
      rintro e w3 ⟨rfl, k1⟩
      replace hK := (keepN hK k1).alloc (.cells #[.int .i64 op, .int .i64 a, .int .i64 b] 23)
      replace bo := (bo.keep k1 id).alloc (.cells #[.int .i64 op, .int .i64 a, .int .i64 b] 23)
      clear k1
      go_wp2_with fail
      refine (HS.out _ (HL.out.keep hK)).mono ?_
      rintro e w4 ⟨rfl, k1⟩
      replace hK := keepN hK k1
      replace bo := bo.keep k1 id
      clear k1
      have hz := bo.lt
      have fo := fun i => bo.frozen i
      obtain ⟨o0, o1, o2⟩ := blk_inst bo
      go_wp2
      exact bodyPost_ret (v := .tuple #[instV 0 0 0, .int .i64 40]) (by simp [results, Tryz.results24, go_sem, o0, o1, o2]) rfl ⟨_, rfl, HR.out, out3N hK (Nat.le_refl _) _ _ _⟩

end Go.Proofs.YtpkcjokkadfhcaaGreatDoor.O

namespace Go.Proofs.YtpkcjokkadfhcaaGreatDoor.O
open Go.RowKit

def strC (l : List (List UInt8)) : Array Value := (l.map fun s => Value.string (str s)).toArray
theorem strC_at (l : List (List UInt8)) (k : Nat) (hk : k < l.length) : (strC l)[k]? = some (.string (str l[k])) := by
  unfold strC
  simp [hk]
def letNs : List (List UInt8) := [[63], [73], [82], [70], [80]]

set_option maxRecDepth 100000 in
theorem rletters_any (w : World) :
    Calls Tryz.prog 89 #[] w fun e w' => e = .returned (.slice (some ⟨w.heap.size, 0, none⟩) 5 5) ∧ w' = w.alloc (.cells (strC letNs) 9) := by
  go_enter Tryz.func89, Tryz.ntmps89
  go_wp2
  go_ret
  exact ⟨rfl, by kernel_rfl⟩
set_option maxRecDepth 100000 in
theorem rbins_any (w : World) :
    Calls Tryz.prog 90 #[] w fun e w' => e = .returned (.slice (some ⟨w.heap.size, 0, none⟩) 14 14) ∧ w' = w.alloc (.cells (strC A.binNs) 9) := by
  go_enter Tryz.func90, Tryz.ntmps90
  go_wp2
  go_ret
  exact ⟨rfl, by kernel_rfl⟩
set_option maxRecDepth 100000 in
theorem runs_any (w : World) :
    Calls Tryz.prog 91 #[] w fun e w' => e = .returned (.slice (some ⟨w.heap.size, 0, none⟩) 9 9) ∧ w' = w.alloc (.cells (strC A.unNs) 9) := by
  go_enter Tryz.func91, Tryz.ntmps91
  go_wp2
  go_ret
  exact ⟨rfl, by kernel_rfl⟩

end Go.Proofs.YtpkcjokkadfhcaaGreatDoor.O

namespace Go.Proofs.YtpkcjokkadfhcaaGreatDoor.O

/-- The words of a text, between blanks. -/
def splitL : List UInt8 → List (List UInt8)
  | [] => [[]]
  | c :: r => if c = 32 then [] :: splitL r else match splitL r with | [] => [[c]] | w :: ws => (c :: w) :: ws
/-- What stands before the first word, put to it. -/
def consH (cur : List UInt8) : List (List UInt8) → List (List UInt8)
  | [] => [cur]
  | w :: ws => (cur ++ w) :: ws
theorem splitL_blank (r : List UInt8) : splitL (32 :: r) = [] :: splitL r := by rw [splitL, if_pos rfl]
theorem splitL_byte {c : UInt8} (h : c ≠ 32) (r : List UInt8) : splitL (c :: r) = consH [c] (splitL r) := by
  rw [splitL, if_neg h]
  cases splitL r <;> rfl
theorem consH_two (a b : List UInt8) (l : List (List UInt8)) : consH a (consH b l) = consH (a ++ b) l := by cases l <;> simp [consH]
theorem consH_nil {l : List (List UInt8)} (h : l ≠ []) : consH [] l = l := by cases l with | nil => exact absurd rfl h | cons w ws => rfl
theorem splitL_ne (s : List UInt8) : splitL s ≠ [] := by
  cases s with
  | nil => simp [splitL]
  | cons c r =>
    by_cases h : c = 32
    · subst h; rw [splitL_blank]; simp
    · rw [splitL_byte h]; cases splitL r <;> simp [consH]
theorem splitL_len : ∀ s : List UInt8, (splitL s).length ≤ s.length + 1
  | [] => by simp [splitL]
  | c :: r => by
    have ih := splitL_len r
    by_cases h : c = 32
    · subst h; rw [splitL_blank]; simp; omega
    · rw [splitL_byte h]
      have := splitL_ne r
      cases hs : splitL r with
      | nil => exact absurd hs this
      | cons w ws => rw [hs] at ih; simp [consH] at ih ⊢; omega
theorem splitL_word {s : List UInt8} (h : ∀ c ∈ s, c ≠ 32) : splitL s = [s] := by
  induction s with
  | nil => rfl
  | cons c r ih =>
    rw [splitL_byte (h c (by simp)), ih (fun c hc => h c (by simp [hc]))]; rfl
theorem splitL_more {s r : List UInt8} (h : ∀ c ∈ s, c ≠ 32) : splitL (s ++ 32 :: r) = s :: splitL r := by
  induction s with
  | nil => exact splitL_blank r
  | cons c q ih =>
    rw [List.cons_append, splitL_byte (h c (by simp)), ih (fun c hc => h c (by simp [hc]))]; rfl
/-- The words of an instruction's text. -/
theorem splitL_text {op a b : Int} : splitL (textI op a b) = (rowAt op).name :: ((if (rowAt op).ka = 0 then [] else [word (rowAt op).ka a]) ++ (if (rowAt op).kb = 0 then [] else [word (rowAt op).kb b])) := by
  have hn := kinds_none op
  unfold textI partL
  by_cases h0 : (rowAt op).ka = 0
  · have h1 := hn h0
    rw [if_pos h0, if_pos h1, if_pos h0, if_pos h1, List.append_nil, List.append_nil, splitL_word (name_no op)]; rfl
  · rw [if_neg h0, if_neg h0, List.cons_append, splitL_more (name_no op)]
    by_cases h1 : (rowAt op).kb = 0
    · rw [if_pos h1, if_pos h1, List.append_nil, splitL_word (word_no _ _)]; rfl
    · rw [if_neg h1, if_neg h1, splitL_more (word_no _ _), splitL_word (word_no _ _)]; rfl

/-- Where a text stands among some; -1: nowhere. -/
def findL (l : List (List UInt8)) (s : List UInt8) : Int := if s ∈ l then (l.idxOf s : Int) else -1
theorem findL_bounds (l : List (List UInt8)) (s : List UInt8) (hl : l.length ≤ 1000) : -1 ≤ findL l s ∧ findL l s ≤ 1000 := by
  unfold findL
  split
  · rename_i h
    have := List.idxOf_lt_length_of_mem h
    omega
  · omega
/-- The operand that a word is. -/
def rgK (k : Int) (s : List UInt8) : Int := if k = 2 ∨ k = 3 then findL letNs s else if k = 8 then findL A.binNs s else if k = 9 then findL A.unNs s else W.rN 1 s
theorem rgK_word {k n : Int} (hk : 0 ≤ k ∧ k ≤ 10) (h0 : k ≠ 0) (hn : inK k n = true) : rgK k (word k n) = n := by
  have hb := in_bounds hn
  have hd := of_decide_eq_true hn
  cases h : digK k
  · have hc : k = 2 ∨ k = 3 ∨ k = 8 ∨ k = 9 := by have := of_decide_eq_false h; omega
    rcases hc with rfl | rfl | rfl | rfl
    · have e1 : lo 2 = 1 := rfl
      have e2 : hi 2 = 4 := rfl
      have hn : n = 1 ∨ n = 2 ∨ n = 3 ∨ n = 4 := by omega
      rcases hn with rfl | rfl | rfl | rfl <;> decide +kernel
    · have e1 : lo 3 = 1 := rfl
      have e2 : hi 3 = 3 := rfl
      have hn : n = 1 ∨ n = 2 ∨ n = 3 := by omega
      rcases hn with rfl | rfl | rfl <;> decide +kernel
    · have e1 : lo 8 = 0 := rfl
      have e2 : hi 8 = 13 := rfl
      have : ∀ j : Fin 14, rgK 8 (word 8 (j.1 : Int)) = (j.1 : Int) := by decide +kernel
      have := this ⟨n.toNat, by omega⟩
      rw [show ((n.toNat : Nat) : Int) = n by omega] at this
      exact this
    · have e1 : lo 9 = 0 := rfl
      have e2 : hi 9 = 8 := rfl
      have : ∀ j : Fin 9, rgK 9 (word 9 (j.1 : Int)) = (j.1 : Int) := by decide +kernel
      have := this ⟨n.toNat, by omega⟩
      rw [show ((n.toNat : Nat) : Int) = n by omega] at this
      exact this
  · have hw := of_decide_eq_true h
    have hI : W.I64 n := ⟨hb.1.1, hb.1.2⟩
    have ho : W.okB 1 n = true := by rw [W.ok_iff]; simp
    have hz : W.nilB 1 n = false := by rw [W.nil_not]; simp
    have hs : W.showL 1 n = Lib.itoa n := by
      rw [W.show_num ho hz (by decide)]
      show [] ++ Lib.itoa (n - 0) = _
      rw [Int.sub_zero]; rfl
    have e := (W.r_some (t := 1) (s := Lib.itoa n) rfl (by rw [← hs]; exact W.rd_show hI ho (by simp))).2.1
    unfold rgK
    rw [if_neg (by omega), if_neg (by omega), if_neg (by omega), word_dig h, e]
theorem rN_bounds (t : Int) (s : List UInt8) : I64 (W.rN t s) := by
  unfold W.rN
  split
  · rename_i h
    cases hr : W.rd t s with
    | none => exact ⟨by simp, by simp⟩
    | some n => exact (W.rd_some h.1 hr).2.2.1
  · exact ⟨by omega, by omega⟩
theorem rgK_bounds (k : Int) (s : List UInt8) : I64 (rgK k s) := by
  unfold rgK
  split
  · have := findL_bounds letNs s (by decide); exact ⟨by omega, by omega⟩
  · split
    · have := findL_bounds A.binNs s (by decide); exact ⟨by omega, by omega⟩
    · split
      · have := findL_bounds A.unNs s (by decide); exact ⟨by omega, by omega⟩
      · exact rN_bounds _ _

/-- The operands that the words are. -/
def rgA (op : Int) (l : List (List UInt8)) : Int := if (rowAt op).ka = 0 ∨ l.length ≤ 1 then 0 else rgK (rowAt op).ka (l.getD 1 [])
def rgB (op : Int) (l : List (List UInt8)) : Int := if (rowAt op).kb = 0 ∨ l.length ≤ 2 then 0 else rgK (rowAt op).kb (l.getD 2 [])
theorem rgA_bounds (op : Int) (l : List (List UInt8)) : I64 (rgA op l) := by
  unfold rgA
  split
  · exact ⟨by omega, by omega⟩
  · exact rgK_bounds _ _
theorem rgB_bounds (op : Int) (l : List (List UInt8)) : I64 (rgB op l) := by
  unfold rgB
  split
  · exact ⟨by omega, by omega⟩
  · exact rgK_bounds _ _
theorem words_hit {op a b : Int} (h : okI op a b = true) : rgA op (splitL (textI op a b)) = a ∧ rgB op (splitL (textI op a b)) = b := by
  obtain ⟨ho, hA, hB⟩ := ok_op h
  have hk := kinds_ok op
  have hn := kinds_none op
  rw [splitL_text]
  unfold rgA rgB
  by_cases h0 : (rowAt op).ka = 0
  · have h1 := hn h0
    rw [if_pos (.inl h0), if_pos (.inl h1)]
    rw [h0] at hA
    rw [h1] at hB
    exact ⟨((in_bounds hA).2.2 rfl).symm, ((in_bounds hB).2.2 rfl).symm⟩
  · rw [if_neg h0]
    rw [if_neg (by rintro (h | h); exact h0 h; simp at h)]
    refine ⟨rgK_word ⟨hk.1, hk.2.1⟩ h0 hA, ?_⟩
    by_cases h1 : (rowAt op).kb = 0
    · rw [if_pos (.inl h1)]
      rw [h1] at hB
      exact ((in_bounds hB).2.2 rfl).symm
    · rw [if_neg h1, if_neg (by rintro (h | h); exact h1 h; simp at h)]
      exact rgK_word ⟨hk.2.2.1, hk.2.2.2⟩ h1 hB

theorem words_nameless {s : List UInt8} (h : findI (str ((splitL s).getD 0 [])) < 0) : ReadV s (.tuple #[instV 0 0 0, .int .i64 40]) := by
  refine .inr ⟨fun op a b hok e => ?_, rfl⟩
  subst e
  rw [splitL_text, List.getD_cons_zero, findI_of (ok_op hok).1] at h
  have := isOp_yes (ok_op hok).1
  omega
theorem words_yes {s : List UInt8} {op a b : Int} (hop : isOp op = true) (hn : str (rowAt op).name = str ((splitL s).getD 0 [])) (h : showI op a b = s) : ReadV s (.tuple #[instV op a b, .int .i64 0]) := by
  cases hok : okI op a b
  · unfold showI at h
    rw [if_neg (by rw [hok]; decide)] at h
    subst h
    exact absurd (str_inj hn) (name_ne op hop)
  · unfold showI at h
    rw [if_pos hok] at h
    exact .inl ⟨op, a, b, hok, h, rfl⟩
theorem words_miss {s : List UInt8} {op : Int} (hop : findI (str ((splitL s).getD 0 [])) = op) (hs : showI op (rgA op (splitL s)) (rgB op (splitL s)) ≠ s) : ReadV s (.tuple #[instV 0 0 0, .int .i64 40]) := by
  refine .inr ⟨fun op' x y hok e => ?_, rfl⟩
  subst e
  rw [splitL_text, List.getD_cons_zero, findI_of (ok_op hok).1] at hop
  subst hop
  obtain ⟨h1, h2⟩ := words_hit hok
  rw [h1, h2] at hs
  unfold showI at hs
  rw [if_pos hok] at hs
  exact hs rfl

end Go.Proofs.YtpkcjokkadfhcaaGreatDoor.O

namespace Go.Proofs.YtpkcjokkadfhcaaGreatDoor.W
open Go.RowKit

/-- How far Digits has come: j digits stand, m is left. -/
def DigI (u j m : Nat) (s : List UInt8) : Prop := m = u / 10 ^ j ∧ ((j = 0 ∧ s = []) ∨ (1 ≤ j ∧ (if m = 0 then s = Lib.decDigits u else Lib.decDigits m ++ s = Lib.decDigits u)))
theorem dig_step {u j m : Nat} {s : List UInt8} (h : DigI u j m s) (hm : 0 < m ∨ j = 0) : DigI u (j + 1) (m / 10) (UInt8.ofNat (48 + m % 10) :: s) := by
  obtain ⟨h1, h2⟩ := h
  have hd : m / 10 = u / 10 ^ (j + 1) := by rw [h1, Nat.pow_succ, Nat.div_div_eq_div_mul]
  have key : Lib.decDigits m ++ s = Lib.decDigits u := by
    rcases h2 with ⟨h3, h4⟩ | ⟨h3, h4⟩
    · subst h3; subst h4; rw [h1]; simp
    · have : ¬ m = 0 := by omega
      rwa [if_neg this] at h4
  refine ⟨hd, .inr ⟨by omega, ?_⟩⟩
  by_cases hs : m < 10
  · rw [if_pos (by omega)]
    rw [← key, Lib.decDigits_one hs, show m % 10 = m by omega]
    rfl
  · rw [if_neg (by omega), ← key]
    conv => rhs; rw [Lib.decDigits, dif_neg hs]
    simp
theorem dig_done {u j m : Nat} {s : List UInt8} (h : DigI u j m s) (hm : m = 0) (hj : 1 ≤ j) : s = Lib.decDigits u := by
  rcases h.2 with ⟨h3, _⟩ | ⟨_, h4⟩
  · omega
  · rwa [if_pos hm] at h4
theorem dig_end {u j m : Nat} {s : List UInt8} (h : DigI u j m s) (hu : u < 18446744073709551616) (hj : 20 ≤ j) : m = 0 := by
  have h1 : 10 ^ 20 ≤ 10 ^ j := Nat.pow_le_pow_right (by omega) hj
  have h2 : (10 : Nat) ^ 20 = 100000000000000000000 := by decide
  rw [h.1]
  exact Nat.div_eq_of_lt (by omega)

theorem conv_rd {w : World} {A : Option Addr} {l : List UInt8} {n c : Nat} (h : Rd w A (l.map fun b => .int .u8 (b.toNat : Int))) (hn : l.length = n) :
    (convert 24 9 (.slice A n c)).run Tryz.prog w = .ok (.string (str l)) w := by
  subst hn
  rcases A with _ | ad
  · have hl : l = [] := by
      rcases Nat.eq_zero_or_pos l.length with h0 | h0
      · exact List.length_eq_zero_iff.1 h0
      · obtain ⟨g, off, e, _⟩ := h (by simpa using h0); cases e
    subst hl
    exact run_convert_bytes_nil _ _ _ Tryz.underlying24 Tryz.underlying5 0 c _ Tryz.underlying9
  · refine run_convert_bytes_back w _ _ _ ad c l Tryz.underlying24 Tryz.underlying5 Tryz.underlying9 ?_
    intro j hj
    obtain ⟨g, off, e, hc⟩ := h (by simp; omega)
    cases e
    have ea : (⟨g, off, none⟩ : Addr).add j = ⟨g, off + j, none⟩ := by unfold Addr.add; by_cases hj : j = 0 <;> simp [hj]
    rw [ea]
    exact hc j _ (by simp [hj])

theorem str_cons (b : UInt8) (s : List UInt8) : (⟨#[b]⟩ : ByteArray) ++ str s = str (b :: s) := by
  apply ByteArray.ext
  simp [ByteArray.data_append]
theorem size_snoc (b : UInt8) (s : List UInt8) : ((⟨#[b]⟩ : ByteArray) ++ str s).size = 1 + (str s).size := by
  rw [str_cons, size_of (s := b :: s) (by simp), size_of (s := s) (by simp), List.length_cons]; omega
theorem conv_one (w : World) (m : Nat) (b : UInt8) (hb : Hid (UInt8.ofNat (48 + m % 10) = b)) : (convert 24 9 (.slice (some ⟨w.heap.size, 0, none⟩) 1 1)).run Tryz.prog (w.alloc (.cells #[.int .u8 (48 + (m : Int) % 10)] 5)) =
    .ok (.string ⟨#[b]⟩) (w.alloc (.cells #[.int .u8 (48 + (m : Int) % 10)] 5)) := by
  refine conv_rd (l := [b]) (rd_made rfl ?_) rfl
  have := byte_dig (m % 10) (by omega)
  rw [hb.out] at this
  simp only [List.map_cons, List.map_nil, this]
  simp
theorem conv_zero (w : World) : (convert 24 9 (.slice (some ⟨w.heap.size, 0, none⟩) 1 1)).run Tryz.prog (w.alloc (.cells #[.int .u8 48] 5)) =
    .ok (.string ⟨#[48]⟩) (w.alloc (.cells #[.int .u8 48] 5)) := conv_rd (l := [48]) (rd_made rfl rfl) rfl

set_option maxRecDepth 100000 in
set_option maxHeartbeats 8000000 in
theorem digits_any (n : Int) (w : World) (hn : I64 n) :
    Calls Tryz.prog 93 #[.int .i64 n] w fun e w' => ∃ d, e = .returned (.string d) ∧ d.size ≤ 21 ∧ Hid (d = str (Lib.itoa n)) ∧ Keep NoB w w' := by
  obtain ⟨hn0, hn1⟩ := hn
  by_cases hneg : n < 0
  · obtain ⟨u, hu0⟩ : ∃ u : Nat, u = n.natAbs := ⟨_, rfl⟩
    have hu : u ≤ 9223372036854775808 := by omega
    have HI : Hid (Lib.itoa n = 45 :: Lib.decDigits u) := by show _ = _; rw [itoa_minus hneg, hu0]
    have hw : IntKind.u64.wrap (-IntKind.u64.wrap n) = (u : Int) := by rw [IntKind.wrap_u64, IntKind.wrap_u64]; omega
    have HU : Hid (u < 18446744073709551616) := by show _ < _; omega
    clear hu0
    go_enter Tryz.func93, Tryz.ntmps93
    go_wp2
    go_loopw [3, 4, 5] (fun mv sv kv wr => ∃ (j m : Nat) (s : List UInt8), j ≤ 20 ∧ kv = .int .i64 j ∧ mv = .int .u64 m ∧ sv = .string (str s) ∧ s.length ≤ j ∧ m ≤ u ∧ Hid (DigI u j m s) ∧ Keep NoB w wr) (fun _ _ kv _ => 20 - (intOf kv).toNat)
    case atStart => exact ⟨0, u, [], by omega, rfl, rfl, rfl, Nat.le_refl _, Nat.le_refl _, ⟨by simp, .inl ⟨rfl, rfl⟩⟩, Keep.refl _ _⟩
    case round =>
      obtain ⟨j, m, s, hj, rfl, rfl, rfl, hs, hm, hD, hK⟩ := hrel
      have hsz : (str s).size ≤ 20 := by rw [size_of (s := s) (by simp)]; omega
      obtain ⟨b, hb⟩ : ∃ b, Hid (UInt8.ofNat (48 + m % 10) = b) := ⟨_, rfl⟩
      have hcv := conv_one wr m b hb
      have hcz := conv_zero wr
      have hKz := hK.alloc (.cells #[.int .u8 48] 5)
      have hKa := hK.alloc (.cells #[.int .u8 (48 + (m : Int) % 10)] 5)
      by_cases hj2 : j < 20
      · by_cases hm0 : 0 < m
        · have HD2 := Lib.hid (dig_step hD.out (.inl hm0))
          rw [hb.out] at HD2
          go_wp2
          go_roundw
          case rel => exact ⟨j + 1, m / 10, b :: s, by omega, by go_num, by go_num, by rw [← str_cons], by simp; omega, by omega, HD2, hKa⟩
          case measure => simp [intOf]; omega
        · obtain rfl : m = 0 := by omega
          by_cases hj0 : j = 0
          · subst hj0
            have HD2 : Hid (DigI u (0 + 1) (0 / 10) (48 :: s)) := dig_step hD.out (.inr rfl)
            have HSL : Hid ((48 :: s).length ≤ 0 + 1) := by show _ ≤ _; rw [List.length_cons]; omega
            clear hcv
            go_wp2
            go_roundw
            case rel => exact ⟨0 + 1, 0 / 10, 48 :: s, by omega, by go_num, by go_num, by rw [← str_cons], HSL.out, Nat.zero_le _, HD2, hKz⟩
            case measure => simp [intOf]
          · have HE := Lib.hid (dig_done hD.out rfl (by omega))
            have hq : ((j : Int) == 0) = false := by rw [beq_eq_false_iff_ne]; omega
            clear hj0 hcv hcz hKz hKa hD
            go_wp2
            go_ret
            exact ⟨_, rfl, by rw [size_snoc]; omega, by show _ = _; rw [HI.out, ← HE.out, str_cons], hK⟩
      · obtain rfl : j = 20 := by omega
        obtain rfl : m = 0 := dig_end hD.out HU.out (Nat.le_refl _)
        have HE := Lib.hid (dig_done hD.out rfl (by omega))
        clear hcv hcz hKz hKa hD
        go_wp2
        go_ret
        exact ⟨_, rfl, by rw [size_snoc]; omega, by show _ = _; rw [HI.out, ← HE.out, str_cons], hK⟩
  · obtain ⟨u, rfl⟩ := Int.eq_ofNat_of_zero_le (a := n) (by omega)
    have hu : u < 9223372036854775808 := by omega
    have HI : Hid (Lib.itoa (u : Int) = Lib.decDigits u) := by show _ = _; rw [itoa_pos (by omega)]; simp
    go_enter Tryz.func93, Tryz.ntmps93
    go_wp2
    go_loopw [3, 4, 5] (fun mv sv kv wr => ∃ (j m : Nat) (s : List UInt8), j ≤ 20 ∧ kv = .int .i64 j ∧ mv = .int .u64 m ∧ sv = .string (str s) ∧ s.length ≤ j ∧ m ≤ u ∧ Hid (DigI u j m s) ∧ Keep NoB w wr) (fun _ _ kv _ => 20 - (intOf kv).toNat)
    case atStart => exact ⟨0, u, [], by omega, rfl, rfl, rfl, Nat.le_refl _, Nat.le_refl _, ⟨by simp, .inl ⟨rfl, rfl⟩⟩, Keep.refl _ _⟩
    case round =>
      obtain ⟨j, m, s, hj, rfl, rfl, rfl, hs, hm, hD, hK⟩ := hrel
      have hsz : (str s).size ≤ 20 := by rw [size_of (s := s) (by simp)]; omega
      obtain ⟨b, hb⟩ : ∃ b, Hid (UInt8.ofNat (48 + m % 10) = b) := ⟨_, rfl⟩
      have hcv := conv_one wr m b hb
      have hcz := conv_zero wr
      have hKz := hK.alloc (.cells #[.int .u8 48] 5)
      have hKa := hK.alloc (.cells #[.int .u8 (48 + (m : Int) % 10)] 5)
      by_cases hj2 : j < 20
      · by_cases hm0 : 0 < m
        · have HD2 := Lib.hid (dig_step hD.out (.inl hm0))
          rw [hb.out] at HD2
          go_wp2
          go_roundw
          case rel => exact ⟨j + 1, m / 10, b :: s, by omega, by go_num, by go_num, by rw [← str_cons], by simp; omega, by omega, HD2, hKa⟩
          case measure => simp [intOf]; omega
        · obtain rfl : m = 0 := by omega
          by_cases hj0 : j = 0
          · subst hj0
            have HD2 : Hid (DigI u (0 + 1) (0 / 10) (48 :: s)) := dig_step hD.out (.inr rfl)
            have HSL : Hid ((48 :: s).length ≤ 0 + 1) := by show _ ≤ _; rw [List.length_cons]; omega
            clear hcv
            go_wp2
            go_roundw
            case rel => exact ⟨0 + 1, 0 / 10, 48 :: s, by omega, by go_num, by go_num, by rw [← str_cons], HSL.out, Nat.zero_le _, HD2, hKz⟩
            case measure => simp [intOf]
          · have HE := Lib.hid (dig_done hD.out rfl (by omega))
            have hq : ((j : Int) == 0) = false := by rw [beq_eq_false_iff_ne]; omega
            clear hj0 hcv hcz hKz hKa hD
            go_wp2
            go_ret
            exact ⟨_, rfl, by omega, by show _ = _; rw [HI.out, HE.out], hK⟩
      · obtain rfl : j = 20 := by omega
        obtain rfl : m = 0 := dig_end hD.out (by omega) (Nat.le_refl _)
        have HE := Lib.hid (dig_done hD.out rfl (by omega))
        clear hcv hcz hKz hKa hD
        go_wp2
        go_ret
        exact ⟨_, rfl, by omega, by show _ = _; rw [HI.out, HE.out], hK⟩

end Go.Proofs.YtpkcjokkadfhcaaGreatDoor.W
