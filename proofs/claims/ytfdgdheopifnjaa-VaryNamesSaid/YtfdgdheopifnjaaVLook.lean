/-
  A Reel's look with each of its two keepers: too few bytes, or they are handed on. Conditions: no more than 2^47 bytes.
-/
import Derived.Test.YtfdgdheopifnjaaVAdd
import Derived.Deep.DeepFit
namespace Go.Proofs.Ytfdgdheopifnjaa
open Go.RowKit

/-- A part of the bytes that a slice reads as. -/
theorem Rd.part {w : World} {A : Option Addr} {l : List UInt8} {c k m : Nat} (h : Rd w A l) (hc : l.length ≤ c) : Rd w (if c = k then A else A.map (·.add k)) ((l.drop k).take m) := fun h0 => by
  have h0' : k < l.length ∧ 0 < m := by simp at h0; omega
  obtain ⟨ad, rfl, hcell⟩ := h (by omega)
  rw [if_neg (by omega)]
  refine ⟨ad.add k, rfl, fun j u hu => ?_⟩
  rw [add_add]
  have hj : j < ((l.drop k).take m).length := by
    have := List.getElem?_eq_some_iff.1 hu
    obtain ⟨h1, _⟩ := this
    simpa using h1
  have hjl : k + j < l.length := by simp at hj; omega
  apply hcell
  rw [← hu]
  simp at hj
  simp [hj]
  exact ⟨_, List.getElem?_eq_getElem hjl, rfl⟩

/-- The address of a part is in the same block. -/
theorem part_block {A : Option Addr} {c k : Nat} {ad : Addr} (h : (if c = k then A else A.map (·.add k)) = some ad) : ∃ ad', A = some ad' ∧ ad.block = ad'.block := by
  split at h
  · exact ⟨ad, h, rfl⟩
  · cases A with
    | none => simp at h
    | some a => simp at h; exact ⟨a, rfl, by rw [← h, block_add]⟩

theorem add_at (w : World) (sb n0 : Nat) (A : Option Addr) (b : List UInt8) (c n : Nat) (hn : n = b.length) (hs : Blk w sb 101 #[.int .u64 n0]) (hr : Rd w A b) (hA : ∀ ad, A = some ad → ad.block ≠ sb) (hlen : b.length ≤ 140737488355328) :
    Calls Try.prog 58 #[.pointer (some ⟨sb, 0, none⟩), .slice A n c] w fun e w' => e = .returned (.tuple #[]) ∧ Blk w' sb 101 #[.int .u64 (acc n0 b)] ∧ Keep (fun k => k = sb) w w' := by
  subst hn; exact add_any w sb n0 A b c hs hr hA hlen
theorem set_at (w : World) (sb : Nat) (v0 : Value) (A : Option Addr) (b : List UInt8) (c n : Nat) (hn : n = b.length) (hs : Blk w sb 108 #[v0]) (hr : Rd w A b) (hlen : b.length ≤ 140737488355328) :
    Calls Try.prog 60 #[.pointer (some ⟨sb, 0, none⟩), .slice A n c] w fun e w' => e = .returned (.tuple #[]) ∧ (∃ v, Blk w' sb 108 #[v] ∧ OwnB w' (Fresh w) v b) ∧ Keep (fun k => k = sb) w w' := by
  subst hn; exact set_any w sb v0 A b c hs hr hlen

/-- What look leaves: too few bytes; or they were handed on. -/
def Looked (w : World) (l : List UInt8) (fr : Nat) (S : Int) (Q : List UInt8 → World → Prop) (e : Ending) (w' : World) : Prop :=
  ((l.length : Int) - fr < S ∧ e = .returned (.int .i64 10) ∧ Keep NoB w w') ∨
  (S ≤ (l.length : Int) - fr ∧ e = .returned (.int .i64 0) ∧ Q ((l.drop fr).take S.toNat) w')
/-- The sum holds the bytes; nothing else has turned. -/
def Summed (w : World) (sb n0 : Nat) (b : List UInt8) (w' : World) : Prop := Blk w' sb 101 #[.int .u64 (acc n0 b)] ∧ Keep (fun k => k = sb) w w'
/-- The taken holds a copy of the bytes; nothing else has turned. -/
def Took (w : World) (sb : Nat) (b : List UInt8) (w' : World) : Prop := (∃ v, Blk w' sb 108 #[v] ∧ OwnB w' (Fresh w) v b) ∧ Keep (fun k => k = sb) w w'

set_option maxRecDepth 100000 in
set_option maxHeartbeats 1000000 in
theorem look_add (w : World) (br sb n0 at_ fr : Nat) (S : Int) (A : Option Addr) (l : List UInt8) (c : Nat) (hb : Blk w br 68 #[.slice A l.length c, .int .i64 at_]) (hr : Rd w A l) (hc : l.length ≤ c) (hA : ∀ ad, A = some ad → ad.block ≠ sb)
    (hs : Blk w sb 101 #[.int .u64 n0]) (hlen : l.length ≤ 140737488355328) (hcm : c ≤ 9223372036854775807) (hfr : fr ≤ l.length) (hS0 : 0 ≤ S) (hS1 : S ≤ 9223372036854775807) :
    Calls Try.prog 57 #[.pointer (some ⟨br, 0, none⟩), .int .i64 fr, .agg #[.int .i64 S, .func (.func 58) #[.pointer (some ⟨sb, 0, none⟩)] #[]]] w (Looked w l fr S (Summed w sb n0)) := by
  have c0 := hb.cell 0
  have c1 := hb.cell 1
  have hlt := hb.lt
  simp at c0 c1
  by_cases hsh : (l.length : Int) - fr < S
  · go_enter Try.func57, Try.ntmps57
    go_wp2
    go_quiet (fail)
    go_wp2
    go_ret
    exact .inl ⟨hsh, rfl, ((Keep.refl NoB w).alloc _).drewN _⟩
  · obtain ⟨s, rfl⟩ := Int.eq_ofNat_of_zero_le hS0
    have hle : (s : Int) ≤ (l.length : Int) - fr := by omega
    go_enter Try.func57, Try.ntmps57
    go_wp2
    go_quiet (fail)
    go_wp2
    obtain ⟨wq, hwq⟩ : ∃ wq, (w.alloc (.cells #[.int .i64 s, .func (.func 58) #[.pointer (some ⟨sb, 0, none⟩)] #[]] 105)).drewN nq = wq := ⟨_, rfl⟩
    rw [hwq]
    have hkq : Keep NoB w wq := hwq ▸ ((Keep.refl NoB w).alloc _).drewN nq
    have hbx : Blk wq w.heap.size 105 #[.int .i64 s, .func (.func 58) #[.pointer (some ⟨sb, 0, none⟩)] #[]] := hwq ▸ Blk.new w _ _
    clear hwq
    have hbq := hb.keep hkq id
    have hsq := hs.keep hkq id
    have hrq := (hr.keep hkq (fun _ _ _ => id)).part (c := c) (k := fr) (m := s) hc
    have q0 := hbq.cell 0
    have q1 := hbx.cell 0
    have q2 := hbx.cell 1
    simp at q0 q1 q2
    have hpl : ((l.drop fr).take s).length = s := by simp; omega
    have hA2 : ∀ ad, (if c = fr then A else A.map (·.add fr)) = some ad → ad.block ≠ sb := fun ad e => by
      obtain ⟨ad', e1, e2⟩ := part_block e
      rw [e2]; exact hA ad' e1
    have hcs : (c : Int) ≤ 9223372036854775807 := by omega
    have hs0 : (0 : Int) ≤ (fr : Int) + s := by omega
    have hs1 : (fr : Int) + s ≤ c := by omega
    have hs2 : ((fr : Int) + s).toNat = fr + s := by omega
    have hs3 : IntKind.i64.wrap ((fr : Int) + s) = (fr : Int) + s := IntWalk.i64_in _ (by omega)
    go_still_tail 12, (by kernel_rfl)
    change wpList _ _ _ _ _ wq.drew
    go_wp2_with (go_at_call 58; refine (add_at wq.drew sb n0 _ ((l.drop fr).take s) _ s hpl.symm hsq hrq hA2 (by omega)).mono ?_; rintro e w2 ⟨rfl, hs2, hk2⟩)
    all_goals go_ret
    all_goals exact .inr ⟨hle, rfl, hs2, ((hkq.mono (fun _ hf _ => hf.elim)).drew).trans hk2 (fun _ h _ => h)⟩

set_option maxRecDepth 100000 in
set_option maxHeartbeats 1000000 in
theorem look_set (w : World) (br sb at_ fr : Nat) (v0 : Value) (S : Int) (A : Option Addr) (l : List UInt8) (c : Nat) (hb : Blk w br 68 #[.slice A l.length c, .int .i64 at_]) (hr : Rd w A l) (hc : l.length ≤ c) 
    (hs : Blk w sb 108 #[v0]) (hlen : l.length ≤ 140737488355328) (hcm : c ≤ 9223372036854775807) (hfr : fr ≤ l.length) (hS0 : 0 ≤ S) (hS1 : S ≤ 9223372036854775807) :
    Calls Try.prog 57 #[.pointer (some ⟨br, 0, none⟩), .int .i64 fr, .agg #[.int .i64 S, .func (.func 60) #[.pointer (some ⟨sb, 0, none⟩)] #[]]] w (Looked w l fr S (Took w sb)) := by
  have c0 := hb.cell 0
  have c1 := hb.cell 1
  have hlt := hb.lt
  simp at c0 c1
  by_cases hsh : (l.length : Int) - fr < S
  · go_enter Try.func57, Try.ntmps57
    go_wp2
    go_quiet (fail)
    go_wp2
    go_ret
    exact .inl ⟨hsh, rfl, ((Keep.refl NoB w).alloc _).drewN _⟩
  · obtain ⟨s, rfl⟩ := Int.eq_ofNat_of_zero_le hS0
    have hle : (s : Int) ≤ (l.length : Int) - fr := by omega
    go_enter Try.func57, Try.ntmps57
    go_wp2
    go_quiet (fail)
    go_wp2
    obtain ⟨wq, hwq⟩ : ∃ wq, (w.alloc (.cells #[.int .i64 s, .func (.func 60) #[.pointer (some ⟨sb, 0, none⟩)] #[]] 105)).drewN nq = wq := ⟨_, rfl⟩
    rw [hwq]
    have hkq : Keep NoB w wq := hwq ▸ ((Keep.refl NoB w).alloc _).drewN nq
    have hbx : Blk wq w.heap.size 105 #[.int .i64 s, .func (.func 60) #[.pointer (some ⟨sb, 0, none⟩)] #[]] := hwq ▸ Blk.new w _ _
    clear hwq
    have hbq := hb.keep hkq id
    have hsq := hs.keep hkq id
    have hrq := (hr.keep hkq (fun _ _ _ => id)).part (c := c) (k := fr) (m := s) hc
    have q0 := hbq.cell 0
    have q1 := hbx.cell 0
    have q2 := hbx.cell 1
    simp at q0 q1 q2
    have hpl : ((l.drop fr).take s).length = s := by simp; omega
    have hcs : (c : Int) ≤ 9223372036854775807 := by omega
    have hs0 : (0 : Int) ≤ (fr : Int) + s := by omega
    have hs1 : (fr : Int) + s ≤ c := by omega
    have hs2 : ((fr : Int) + s).toNat = fr + s := by omega
    have hs3 : IntKind.i64.wrap ((fr : Int) + s) = (fr : Int) + s := IntWalk.i64_in _ (by omega)
    go_still_tail 12, (by kernel_rfl)
    change wpList _ _ _ _ _ wq.drew
    go_wp2_with (go_at_call 60; refine (set_at wq.drew sb v0 _ ((l.drop fr).take s) _ s hpl.symm hsq hrq (by omega)).mono ?_; rintro e w2 ⟨rfl, ⟨v, hs2, hv2⟩, hk2⟩)
    all_goals go_ret
    all_goals exact .inr ⟨hle, rfl, ⟨v, hs2, hv2.mono (fun k hk _ => Nat.le_trans hkq.size hk)⟩, ((hkq.mono (fun _ hf _ => hf.elim)).drew).trans hk2 (fun _ h _ => h)⟩

end Go.Proofs.Ytfdgdheopifnjaa
