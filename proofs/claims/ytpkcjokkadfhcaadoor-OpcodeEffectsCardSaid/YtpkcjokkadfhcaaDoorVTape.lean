/-
  The Tape: write, Number, Signed, Bytes, All, over a Tape in memory that holds the bytes l; and slices.Clone, Twin. Conditions: no more than 2^47 bytes in all.
-/
import Derived.Test.YtpkcjokkadfhcaaDoorVMem
import Derived.StillTailTactics
namespace Go.Proofs.YtpkcjokkadfhcaaDoor.V
open Go.RowKit


set_option maxHeartbeats 400000 in
theorem clone_any (w : World) (A : Option Addr) (l : List UInt8) (c : Nat) (hr : Rd w A l) (hb : l.length ≤ 140737488355328) :
    Calls Tryd.prog 41 #[.slice A l.length c] w fun e w' => ∃ v, e = .returned v ∧ OwnB w' (Fresh w) v l ∧ Keep NoB w w' := by
  have qT : ∀ (w : World) (a : Option Addr) (n c n' c' : Nat), (binOp .eql 49 (.slice a n c) (.slice none n' c')).run Tryd.prog w = .ok (.bool a.isNone) w := fun w a n c n' c' => Lib.run_eql_slice_nil w _ _ a n c n' c' Tryd.underlying49
  rcases A with _ | ad
  · have hl : l = [] := by
      rcases Nat.eq_zero_or_pos l.length with h0 | h0
      · exact List.length_eq_zero_iff.1 h0
      · obtain ⟨ad, e, _⟩ := hr h0; cases e
    subst hl
    go_enter Tryd.func41, Tryd.ntmps41
    go_wp2
    go_ret
    exact ⟨_, rfl, OwnB.nil _ _, Keep.refl _ _⟩
  · have hm := World.ownsRow_made (e := 5) (size := 1) (base := 0) w #[] 0 (Nat.zero_le _) (Nat.zero_le _) rfl
    have hr' : Rd (w.alloc (.cells #[] 5)) (some ad) l := hr.keep ((Keep.refl NoB w).alloc _) (fun _ _ _ => id)
    go_enter Tryd.func41, Tryd.ntmps41
    go_wp2_with (at_builtin; refine wpList_append_rd _ rfl _ _ rfl (.slice (some ⟨w.heap.size, 0, none⟩) 0 0) [] l (some ad) c rfl hm rfl hr' (by simpa using hb) ?_; intro v' w1 hown' hg hat)
    go_ret
    refine ⟨v', rfl, ⟨by simpa using hown', fun g e => ?_⟩, ?_⟩
    · rcases hat with h | h <;> rw [h] at e <;> simp [Value.ownBlock] at e <;> subst e <;> simp [Fresh]
    · exact ((Keep.refl NoB w).alloc _).grown hg (fun g e hlt => by simp [Value.ownBlock] at e; omega)

/-- A Tape at block bt that holds l; all its blocks are of O. -/
def TapeAt (w : World) (bt : Nat) (O : Nat → Prop) (l : List UInt8) : Prop :=
  O bt ∧ ((Blk w bt 65 #[.pointer none, .int .i64 0] ∧ l = []) ∨
    ∃ bs v, O bs ∧ Blk w bt 65 #[.pointer (some ⟨bs, 0, none⟩), .int .i64 l.length] ∧ Blk w bs 82 #[v] ∧ OwnB w O v l)

theorem TapeAt.keep {w w' : World} {bt : Nat} {O O' : Nat → Prop} {l : List UInt8} (h : TapeAt w bt O l) (hk : Keep O' w w') (hn : ∀ k, O k → ¬ O' k) : TapeAt w' bt O l := by
  refine ⟨h.1, ?_⟩
  rcases h.2 with ⟨hb, rfl⟩ | ⟨bs, v, ho, hb, hs, hv⟩
  · exact .inl ⟨hb.keep hk (hn _ h.1), rfl⟩
  · exact .inr ⟨bs, v, ho, hb.keep hk (hn _ h.1), hs.keep hk (hn _ ho), hv.keep hk hn⟩
theorem TapeAt.mono {w : World} {bt : Nat} {O O' : Nat → Prop} {l : List UInt8} (h : TapeAt w bt O l) (hO : ∀ k, O k → k < w.heap.size → O' k) : TapeAt w bt O' l := by
  rcases h.2 with ⟨hb, rfl⟩ | ⟨bs, v, ho, hb, hs, hv⟩
  · exact ⟨hO _ h.1 hb.lt, .inl ⟨hb, rfl⟩⟩
  · exact ⟨hO _ h.1 hb.lt, .inr ⟨bs, v, hO _ ho hs.lt, hb, hs, hv.mono hO⟩⟩

theorem OwnB.le {w : World} {O : Nat → Prop} {v : Value} {l : List UInt8} (h : OwnB w O v l) : l.length ≤ maxLen := by
  obtain ⟨A, c, _, h1, _, _, h2⟩ := h.form
  omega

set_option maxRecDepth 100000 in
set_option maxHeartbeats 1000000 in
theorem all_any (w : World) (bt : Nat) (O : Nat → Prop) (l : List UInt8) (h : TapeAt w bt O l) (hb : l.length ≤ 140737488355328) :
    Calls Tryd.prog 28 #[.pointer (some ⟨bt, 0, none⟩)] w fun e w' => ∃ v, e = .returned v ∧ OwnB w' (Fresh w) v l ∧ Keep NoB w w' := by
  rcases h.2 with ⟨hbt, rfl⟩ | ⟨bs, v, _, hbt, hbs, hv⟩
  · have c0 := hbt.cell 0
    have c1 := hbt.cell 1
    simp at c0 c1
    go_enter Tryd.func28, Tryd.ntmps28
    go_wp2
    go_ret
    exact ⟨_, rfl, OwnB.nil _ _, Keep.refl _ _⟩
  · obtain ⟨A, c, rfl, hc, hr, hA, hm⟩ := hv.form
    have c0 := hbt.cell 0
    have c1 := hbt.cell 1
    have c2 := hbs.cell 0
    simp at c0 c1 c2
    unfold maxLen at hm
    go_enter Tryd.func28, Tryd.ntmps28
    go_wp2
    go_still_tail 12, (by kernel_rfl)
    change wpList _ _ _ _ _ w.drew
    go_wp2_with (go_at_call 41; refine (clone_any w.drew A l c hr hb).mono ?_; rintro e w' ⟨v', rfl, hown', hk'⟩)
    go_ret
    exact ⟨v', rfl, hown', ⟨hk'.os, hk'.tape, hk'.output, hk'.size, hk'.block⟩⟩

/-- The blocks that a Tape has when it has been written on: its own, and new ones. -/
def More (O : Nat → Prop) (w w' : World) : Nat → Prop := fun k => O k ∨ (w.heap.size ≤ k ∧ k < w'.heap.size)

/-- What write leaves: the longer row in the strip, its length in the Tape. -/
theorem write_done {w wq w1 : World} {bt bs m c1 : Nat} {O : Nat → Prop} {v : Value} {A1 : Option Addr} {xs : List UInt8}
    (hk : Keep O w wq) (hbs : Blk wq bs 82 #[v]) (hbt : Blk wq bt 65 #[.pointer (some ⟨bs, 0, none⟩), .int .i64 m])
    (nb1 : v.ownBlock ≠ some bs) (nb2 : v.ownBlock ≠ some bt) (hO1 : O bs ∨ w.heap.size ≤ bs) (hO2 : O bt) (hO3 : ∀ g, v.ownBlock = some g → O g ∨ w.heap.size ≤ g)
    (hown : w1.ownsRow 0 5 1 (.slice A1 xs.length c1) xs.length (bvs xs)) (hgrow : wq.grownBy w1 v.ownBlock)
    (hat : (Value.slice A1 xs.length c1).ownBlock = v.ownBlock ∨ (Value.slice A1 xs.length c1).ownBlock = some wq.heap.size) :
    TapeAt ((w1.setCell ⟨bs, 0, none⟩ (.slice A1 xs.length c1)).setCell ⟨bt, 1, none⟩ (.int .i64 xs.length)) bt
      (More O w ((w1.setCell ⟨bs, 0, none⟩ (.slice A1 xs.length c1)).setCell ⟨bt, 1, none⟩ (.int .i64 xs.length))) xs ∧
    Keep O w ((w1.setCell ⟨bs, 0, none⟩ (.slice A1 xs.length c1)).setCell ⟨bt, 1, none⟩ (.int .i64 xs.length)) := by
  have hs1 := hbs.grown hgrow (Ne.symm nb1)
  have ht1 := hbt.grown hgrow (Ne.symm nb2)
  have hne : bs ≠ bt := Blk.ne hbs hbt (by decide)
  have hs2 := (hs1.put 0 (.slice A1 xs.length c1)).far (p := ⟨bt, 1, none⟩) hne (.int .i64 xs.length)
  have ht2 := (ht1.far (p := ⟨bs, 0, none⟩) (Ne.symm hne) (.slice A1 xs.length c1)).put 1 (.int .i64 xs.length)
  have hk1 : Keep O w w1 := hk.grown hgrow (fun g e hlt => (hO3 g e).resolve_right (by omega))
  have hk2 := (hk1.setCell (p := ⟨bs, 0, none⟩) (fun hlt => hO1.resolve_right (by simp at hlt ⊢; omega)) (.slice A1 xs.length c1)).setCell (p := ⟨bt, 1, none⟩) (fun _ => hO2) (.int .i64 xs.length)
  have hsz : ((w1.setCell ⟨bs, 0, none⟩ (.slice A1 xs.length c1)).setCell ⟨bt, 1, none⟩ (.int .i64 xs.length)).heap.size = w1.heap.size := by simp [World.setCell]
  have hrow : (Value.slice A1 xs.length c1).ownBlock ≠ some bs ∧ (Value.slice A1 xs.length c1).ownBlock ≠ some bt := by
    rcases hat with e | e
    · rw [e]; exact ⟨nb1, nb2⟩
    · rw [e]
      have h1 := hbs.lt
      have h2 := hbt.lt
      exact ⟨fun e => by injection e; omega, fun e => by injection e; omega⟩
  refine ⟨⟨.inl hO2, .inr ⟨bs, _, ?_, ht2, hs2, ?_, ?_⟩⟩, hk2⟩
  · rcases hO1 with h | h
    · exact .inl h
    · refine .inr ⟨h, ?_⟩
      rw [hsz]; exact hs1.lt
  · refine hown.kept (w' := w1.setCell ⟨bs, 0, none⟩ (.slice A1 xs.length c1)) (row := some bs) ⟨rfl, rfl, rfl, by simp [World.setCell], fun k _ hn => Below.heap_setCell _ _ _ _ (fun e => hn (by rw [e]))⟩ (.inr hrow.1) |>.kept (row := some bt) ⟨rfl, rfl, rfl, by simp [World.setCell], fun k _ hn => Below.heap_setCell _ _ _ _ (fun e => hn (by rw [e]))⟩ (.inr hrow.2)
  · intro g e
    have hlt := (hown.lt g e).2
    rcases hat with e' | e'
    · rw [e'] at e
      rcases hO3 g e with h | h
      · exact .inl h
      · exact .inr ⟨h, by rw [hsz]; exact hlt⟩
    · rw [e'] at e
      injection e with e
      refine .inr ⟨?_, by rw [hsz]; exact hlt⟩
      rw [← e]; exact hk.size

theorem write_end {w wq w1 : World} {bt bs m c1 n : Nat} {N : Int} {O : Nat → Prop} {v : Value} {A1 : Option Addr} {xs : List UInt8}
    (hk : Keep O w wq) (hbs : Blk wq bs 82 #[v]) (hbt : Blk wq bt 65 #[.pointer (some ⟨bs, 0, none⟩), .int .i64 m])
    (nb1 : v.ownBlock ≠ some bs) (nb2 : v.ownBlock ≠ some bt) (hO1 : O bs ∨ w.heap.size ≤ bs) (hO2 : O bt) (hO3 : ∀ g, v.ownBlock = some g → O g ∨ w.heap.size ≤ g)
    (hown : w1.ownsRow 0 5 1 (.slice A1 xs.length c1) xs.length (bvs xs)) (hgrow : wq.grownBy w1 v.ownBlock)
    (hat : (Value.slice A1 xs.length c1).ownBlock = v.ownBlock ∨ (Value.slice A1 xs.length c1).ownBlock = some wq.heap.size) (hn : n = xs.length) (hN : N = xs.length) :
    TapeAt ((w1.setCell ⟨bs, 0, none⟩ (.slice A1 n c1)).setCell ⟨bt, 1, none⟩ (.int .i64 N)) bt
      (More O w ((w1.setCell ⟨bs, 0, none⟩ (.slice A1 n c1)).setCell ⟨bt, 1, none⟩ (.int .i64 N))) xs ∧
    Keep O w ((w1.setCell ⟨bs, 0, none⟩ (.slice A1 n c1)).setCell ⟨bt, 1, none⟩ (.int .i64 N)) := by
  subst hn hN
  exact write_done hk hbs hbt nb1 nb2 hO1 hO2 hO3 hown hgrow hat

set_option maxRecDepth 100000 in
set_option maxHeartbeats 2000000 in
theorem write_any (w : World) (bt : Nat) (O : Nat → Prop) (l b : List UInt8) (A : Option Addr) (c : Nat) (h : TapeAt w bt O l) (hr : Rd w A b) (hA : ∀ ad, A = some ad → ¬ O ad.block)
    (hb : l.length + b.length ≤ 140737488355328) :
    Calls Tryd.prog 38 #[.pointer (some ⟨bt, 0, none⟩), .slice A b.length c] w fun e w' => e = .returned (.pointer (some ⟨bt, 0, none⟩)) ∧ TapeAt w' bt (More O w w') (l ++ b) ∧ Keep O w w' := by
  rcases h.2 with ⟨hbt, rfl⟩ | ⟨bs, v, hO, hbt, hbs, hv⟩
  · have c0' := hbt.cell 0
    have c1' := hbt.cell 1
    have f0' := hbt.frozen 0
    simp at c0' c1'
    go_enter Tryd.func38, Tryd.ntmps38
    go_wp2
    go_quiet (fail)
    obtain ⟨wq, hwq⟩ : ∃ wq, w.drewN nq = wq := ⟨_, rfl⟩
    rw [hwq]
    have hkq : Keep NoB w wq := hwq ▸ (Keep.refl NoB w).drewN nq
    have htq : TapeAt wq bt O [] := h.keep hkq (fun _ _ => id)
    clear hwq
    have hbq : Blk wq bt 65 #[.pointer none, .int .i64 0] := hbt.keep hkq id
    have hrq : Rd wq A b := hr.keep hkq (fun _ _ _ => id)
    have hkq' : Keep O w wq := hkq.mono (fun _ hf _ => hf.elim)
    clear hkq
    go_wp2_with (go_at_call 28; refine (all_any wq bt O [] htq (by simp)).mono ?_; rintro e w1 ⟨v, rfl, hv1, hk1⟩; obtain ⟨A0, c0, rfl, hA0⟩ := hv1.form; have hb1 : Blk w1 bt 65 #[.pointer none, .int .i64 0] := hbq.keep hk1 id; have ht1 := hb1.cell 0; have ht2 := hb1.frozen 0; have hlt := hb1.lt; simp at ht1)
    have e3 : (w1.setCell ⟨bt, 0, none⟩ (.pointer (some ⟨w1.heap.size, 0, none⟩))).heap.size = w1.heap.size := by simp [World.setCell]
    have hs3 := Blk.new (w1.setCell ⟨bt, 0, none⟩ (.pointer (some ⟨w1.heap.size, 0, none⟩))) 82 #[.slice A0 0 c0]
    rw [e3] at hs3
    have hb3 := (hb1.put 0 (.pointer (some ⟨w1.heap.size, 0, none⟩))).alloc (.cells #[.slice A0 0 c0] 82)
    have hrow3 := World.ownsRow.alloc (ownsRow_keep (O := fun k => k = bt) hv1.1 ((Keep.refl (fun k => k = bt) _).setCell (p := ⟨bt, 0, none⟩) (fun _ => rfl) (.pointer (some ⟨w1.heap.size, 0, none⟩))) (fun g e hg => hv1.not_blk hb1 (by decide) (hg ▸ e))) (.cells #[.slice A0 0 c0] 82)
    have hk3 : Keep O w ((w1.setCell ⟨bt, 0, none⟩ (.pointer (some ⟨w1.heap.size, 0, none⟩))).alloc (.cells #[.slice A0 0 c0] 82)) :=
      ((hkq'.trans hk1 (fun _ hf _ => hf.elim)).setCell (p := ⟨bt, 0, none⟩) (fun _ => h.1) _).alloc _
    have hr3 : Rd ((w1.setCell ⟨bt, 0, none⟩ (.pointer (some ⟨w1.heap.size, 0, none⟩))).alloc (.cells #[.slice A0 0 c0] 82)) A b := hr.keep hk3 (fun ad e _ => hA ad e)
    have hsz : w.heap.size ≤ w1.heap.size := Nat.le_trans hkq'.size hk1.size
    have hO3 : ∀ g, (Value.slice A0 0 c0).ownBlock = some g → O g ∨ w.heap.size ≤ g := fun g e => .inr (Nat.le_trans hkq'.size (hv1.2 g e))
    have nb2 := hv1.not_blk hb1 (by decide)
    have nb1 : (Value.slice A0 0 c0).ownBlock ≠ some w1.heap.size := fun e => by have := (hv1.1.lt _ e).2; omega
    obtain ⟨bs, hbs⟩ : ∃ bs, w1.heap.size = bs := ⟨_, rfl⟩
    obtain ⟨W, hW⟩ : ∃ W, ((w1.setCell ⟨bt, 0, none⟩ (.pointer (some ⟨w1.heap.size, 0, none⟩))).alloc (.cells #[.slice A0 0 c0] 82)) = W := ⟨_, rfl⟩
    rw [hbs] at hW hs3 hb3 hrow3 hk3 hr3 hsz nb1 ⊢
    rw [hW] at hs3 hb3 hrow3 hk3 hr3 ⊢
    clear hW hbs e3 ht1 ht2 hlt hb1 hk1 hv1 hA0 hkq' hbq hrq htq
    have cs3 := hs3.cell 0
    have fs3 := hs3.frozen 0
    have ct3 := hb3.cell 0
    simp at cs3 ct3
    have hbb : (⟨bs, 0, none⟩ : Addr) ≠ ⟨bt, 0, none⟩ := fun e => by
      have : bs = bt := by injection e
      exact Blk.ne hs3 hb3 (by decide) this
    go_region_law ((refine step_append_rd _ (by rfl) _ _ (by rfl) (.slice A0 0 c0) [] b A c (by rfl) (by exact hrow3) (by rfl) (by exact hr3) hb ?_; intro A1 c1 w1 hown1 hgrow hat; have hs1 := Blk.grown (w' := w1) (by exact hs3) hgrow (Ne.symm nb1); have ht1 := Blk.grown (w' := w1) (by exact hb3) hgrow (Ne.symm nb2); have cs1 := hs1.cell 0; have fs1 := hs1.frozen 0; have ct1 := ht1.cell 0; have ct2 := ht1.cell 1; have ft1 := ht1.frozen 1; simp at cs1 ct1 ct2))
    all_goals go_wp2
    all_goals go_ret
    all_goals exact ⟨rfl, write_end (m := 0) (v := .slice A0 0 c0) (xs := [] ++ b) hk3.drew (by exact hs3) (by exact hb3) nb1 nb2 (.inr hsz) h.1 hO3 hown1 hgrow hat (by simp) (by simp)⟩
  · obtain ⟨A0, c0, rfl, hc, hr0, hA0, hm⟩ := hv.form
    have c0' := hbt.cell 0
    have c1' := hbt.cell 1
    have c2' := hbs.cell 0
    simp at c0' c1' c2'
    unfold maxLen at hm
    have hne : ((l.length : Int) != (l.length : Int)) = false := by simp
    go_enter Tryd.func38, Tryd.ntmps38
    go_wp2
    go_quiet (fail)
    go_wp2
    have hrow := hv.1
    have nb1 := hv.not_blk hbs (by decide)
    have nb2 := hv.not_blk hbt (by decide)
    have hbb : (⟨bs, 0, none⟩ : Addr) ≠ ⟨bt, 0, none⟩ := fun e => by
      have : bs = bt := by injection e
      exact Blk.ne hbs hbt (by decide) this
    go_region_law ((refine step_append_rd _ (by rfl) _ _ (by rfl) (.slice A0 l.length c0) l b A c (by rfl) (by exact hrow) (by rfl) (by exact hr) hb ?_; intro A1 c1 w1 hown1 hgrow hat; have hs1 := Blk.grown (w' := w1) (by exact hbs) hgrow (Ne.symm nb1); have ht1 := Blk.grown (w' := w1) (by exact hbt) hgrow (Ne.symm nb2); have cs1 := hs1.cell 0; have fs1 := hs1.frozen 0; have ct1 := ht1.cell 0; have ct2 := ht1.cell 1; have ft1 := ht1.frozen 1; simp at cs1 ct1 ct2))
    all_goals go_wp2
    all_goals go_ret
    all_goals exact ⟨rfl, write_end (m := l.length) (v := .slice A0 l.length c0) (xs := l ++ b) ((Keep.refl O w).drewN _) (by exact hbs) (by exact hbt) nb1 nb2 (.inl hO) h.1 (fun g e => .inl (hv.2 g e)) hown1 hgrow hat (by simp) (by simp)⟩

end Go.Proofs.YtpkcjokkadfhcaaDoor.V
