/-
  Bytes and Raw, of vary's Reel and of the document's, by one plain function each; bytes of one's own counted up. Conditions: no more than 2^47 bytes.
-/
import Derived.Test.YtfdgdheopifnjaaVRefRead
import Derived.Test.YtfdgdheopifnjaaVReadOps
namespace Go.Proofs.Ytfdgdheopifnjaa
open Go.RowKit

/-- What Bytes answers: the bytes, the error, the place behind. -/
def BytR (s : List UInt8) (p most : Nat) : List UInt8 × Nat × Nat :=
  if (bnd (nx (s.drop p)) most).2.2 ≠ 0 then ([], (bnd (nx (s.drop p)) most).2.2, p)
  else if s.length < p + (bnd (nx (s.drop p)) most).2.1 + (bnd (nx (s.drop p)) most).1 then ([], 10, p)
  else ((s.drop (p + (bnd (nx (s.drop p)) most).2.1)).take (bnd (nx (s.drop p)) most).1, 0, p + (bnd (nx (s.drop p)) most).2.1 + (bnd (nx (s.drop p)) most).1)
/-- What Raw answers. -/
def RawR (s : List UInt8) (p : Nat) (n : Int) : List UInt8 × Nat × Nat :=
  if n < 0 then ([], 2, p) else if (s.length : Int) - p < n then ([], 10, p) else ((s.drop p).take n.toNat, 0, p + n.toNat)

/-- Bytes were handed out: they are new memory. -/
def Gave (w : World) (br : Nat) (l : List UInt8) (er : Nat) (R : World → Prop) (e : Ending) (w' : World) : Prop :=
  ∃ A c, e = .returned (.tuple #[.slice A l.length c, .int .i64 er]) ∧ OwnB w' (Fresh w) (.slice A l.length c) l ∧ R w' ∧ Keep (fun k => k = br) w w'

theorem gave_nil {w w' : World} {br : Nat} {er : Nat} {R : World → Prop} (h : R w') (hk : Keep (fun k => k = br) w w') : Gave w br [] er R (.returned (.tuple #[.slice none 0 0, .int .i64 er])) w' :=
  ⟨none, 0, rfl, OwnB.nil _ _, h, hk⟩
theorem gave_some {w w' : World} {br n : Nat} {er c : Nat} {A : Option Addr} {l : List UInt8} {R : World → Prop} (hn : n = l.length) (ho : OwnB w' (Fresh w) (.slice A n c) l) (h : R w') (hk : Keep (fun k => k = br) w w') : Gave w br l er R (.returned (.tuple #[.slice A n c, .int .i64 er])) w' := by
  subst hn; exact ⟨A, c, rfl, ho, h, hk⟩

theorem ubytes (w : World) (br : Nat) (O : Nat → Prop) (s : List UInt8) (p : Nat) (most : Int) (h : ReelAt w br O s p) (hlen : s.length ≤ 140737488355328) (hm1 : -9223372036854775808 ≤ most) (hm2 : most ≤ 9223372036854775807) (l : List UInt8) (er q : Nat) (hB : Hid (BytR s p (max most 0).toNat = (l, er, q))) :
    Calls Try.prog 29 #[.pointer (some ⟨br, 0, none⟩), .int .i64 most] w (Gave w br l er fun w' => ReelAt w' br O s q) := by
  refine (rbytes_any w br O s p most h hlen hm1 hm2).mono ?_
  have hb := hB.out
  unfold BytR at hb
  have hp := h.2.1
  have hx := bnd_width (s.drop p) (max most 0).toNat
  intro e w' hh
  generalize bnd (nx (s.drop p)) (max most 0).toNat = b at hb hh hx
  obtain ⟨n, d, r⟩ := b
  rw [List.length_drop] at hx
  dsimp only at hb hx
  rcases hh with ⟨h1, h2, h3, h4⟩ | ⟨h1, ⟨h2, h3, h4, h5⟩ | ⟨h2, A, c, h3, h4, h5, h6⟩⟩ <;> dsimp only at h1 h2
  · rw [if_pos h1] at hb
    simp only [Prod.mk.injEq] at hb
    obtain ⟨rfl, rfl, rfl⟩ := hb
    subst h2
    exact gave_nil h3 (h4.mono (fun _ hf _ => hf.elim))
  · rw [if_neg (fun hf => hf h1), if_pos (by omega)] at hb
    simp only [Prod.mk.injEq] at hb
    obtain ⟨rfl, rfl, rfl⟩ := hb
    subst h3
    exact gave_nil h4 (h5.mono (fun _ hf _ => hf.elim))
  · rw [if_neg (fun hf => hf h1), if_neg (by omega)] at hb
    simp only [Prod.mk.injEq] at hb
    obtain ⟨rfl, rfl, rfl⟩ := hb
    subst h3
    rw [Int.toNat_natCast] at h4 h5 ⊢
    exact gave_some (by rw [List.length_take, List.length_drop]; omega) h4 h5 h6

theorem urefbytes (w : World) (br : Nat) (O : Nat → Prop) (s : List UInt8) (p : Nat) (most : Int) (h : RefAt w br O s p) (hlen : s.length ≤ 140737488355328) (hm1 : -9223372036854775808 ≤ most) (hm2 : most ≤ 9223372036854775807) (l : List UInt8) (er q : Nat) (hB : Hid (BytR s p (max most 0).toNat = (l, er, q))) :
    Calls Try.prog 30 #[.pointer (some ⟨br, 0, none⟩), .int .i64 most] w (Gave w br l er fun w' => RefAt w' br O s q) := by
  refine (refbytesr_any w br O s p most h hlen hm1 hm2).mono ?_
  have hb := hB.out
  unfold BytR at hb
  have hp := h.2.1
  have hx := bnd_width (s.drop p) (max most 0).toNat
  intro e w' hh
  generalize bnd (nx (s.drop p)) (max most 0).toNat = b at hb hh hx
  obtain ⟨n, d, r⟩ := b
  rw [List.length_drop] at hx
  dsimp only at hb hx
  rcases hh with ⟨h1, h2, h3, h4⟩ | ⟨h1, ⟨h2, h3, h4, h5⟩ | ⟨h2, A, c, h3, h4, h5, h6⟩⟩ <;> dsimp only at h1 h2
  · rw [if_pos h1] at hb
    simp only [Prod.mk.injEq] at hb
    obtain ⟨rfl, rfl, rfl⟩ := hb
    subst h2
    exact gave_nil h3 h4
  · rw [if_neg (fun hf => hf h1), if_pos (by omega)] at hb
    simp only [Prod.mk.injEq] at hb
    obtain ⟨rfl, rfl, rfl⟩ := hb
    subst h3
    exact gave_nil h4 h5
  · rw [if_neg (fun hf => hf h1), if_neg (by omega)] at hb
    simp only [Prod.mk.injEq] at hb
    obtain ⟨rfl, rfl, rfl⟩ := hb
    subst h3
    rw [Int.toNat_natCast] at h4 h5 ⊢
    exact gave_some (by rw [List.length_take, List.length_drop]; omega) h4 h5 h6

theorem uraw (w : World) (br : Nat) (O : Nat → Prop) (s : List UInt8) (p : Nat) (n : Int) (h : ReelAt w br O s p) (hlen : s.length ≤ 140737488355328) (hm2 : n ≤ 9223372036854775807) (l : List UInt8) (er q : Nat) (hB : Hid (RawR s p n = (l, er, q))) :
    Calls Try.prog 31 #[.pointer (some ⟨br, 0, none⟩), .int .i64 n] w (Gave w br l er fun w' => ReelAt w' br O s q) := by
  refine (rraw_any w br O s p n h hlen hm2).mono ?_
  have hb := hB.out
  unfold RawR at hb
  have hp := h.2.1
  intro e w' hh
  rcases hh with ⟨h1, h3, h4, h5⟩ | ⟨h1, ⟨h2, h3, h4, h5⟩ | ⟨h2, A, c, h3, h4, h5, h6⟩⟩
  · rw [if_pos h1] at hb
    simp only [Prod.mk.injEq] at hb
    obtain ⟨rfl, rfl, rfl⟩ := hb
    subst h3
    exact gave_nil h4 (h5.mono (fun _ hf _ => hf.elim))
  · rw [if_neg (by omega), if_pos (by omega)] at hb
    simp only [Prod.mk.injEq] at hb
    obtain ⟨rfl, rfl, rfl⟩ := hb
    subst h3
    exact gave_nil h4 (h5.mono (fun _ hf _ => hf.elim))
  · rw [if_neg (by omega), if_neg (by omega)] at hb
    simp only [Prod.mk.injEq] at hb
    obtain ⟨rfl, rfl, rfl⟩ := hb
    subst h3
    exact gave_some (by rw [List.length_take, List.length_drop]; omega) h4 h5 h6

theorem urefraw (w : World) (br : Nat) (O : Nat → Prop) (s : List UInt8) (p : Nat) (n : Int) (h : RefAt w br O s p) (hlen : s.length ≤ 140737488355328) (hm2 : n ≤ 9223372036854775807) (l : List UInt8) (er q : Nat) (hB : Hid (RawR s p n = (l, er, q))) :
    Calls Try.prog 32 #[.pointer (some ⟨br, 0, none⟩), .int .i64 n] w (Gave w br l er fun w' => RefAt w' br O s q) := by
  refine (refraw_any w br O s p n h hlen hm2).mono ?_
  have hb := hB.out
  unfold RawR at hb
  have hp := h.2.1
  intro e w' hh
  rcases hh with ⟨h1, h3, h4, h5⟩ | ⟨h1, ⟨h2, h3, h4, h5⟩ | ⟨h2, A, c, h3, h4, h5, h6⟩⟩
  · rw [if_pos h1] at hb
    simp only [Prod.mk.injEq] at hb
    obtain ⟨rfl, rfl, rfl⟩ := hb
    subst h3
    exact gave_nil h4 h5
  · rw [if_neg (by omega), if_pos (by omega)] at hb
    simp only [Prod.mk.injEq] at hb
    obtain ⟨rfl, rfl, rfl⟩ := hb
    subst h3
    exact gave_nil h4 h5
  · rw [if_neg (by omega), if_neg (by omega)] at hb
    simp only [Prod.mk.injEq] at hb
    obtain ⟨rfl, rfl, rfl⟩ := hb
    subst h3
    exact gave_some (by rw [List.length_take, List.length_drop]; omega) h4 h5 h6

/-- Bytes of one's own, one of them stored anew. -/
theorem own_put {w w0 : World} {O : Nat → Prop} {g n k c : Nat} {l : List UInt8} {V : Int} (h : OwnB w O (.slice (some ⟨g, 0, none⟩) n c) l) (hn : l.length = n) (hk : k < n) (hV : V = ((l[k].toNat : Int) + 1) % 256) (hK : Keep O w0 w) :
    ∃ l' : List UInt8, l'.length = n ∧ OwnB (w.setCell ⟨g, k, none⟩ (.int .u8 V)) O (.slice (some ⟨g, 0, none⟩) n c) l' ∧ Keep O w0 (w.setCell ⟨g, k, none⟩ (.int .u8 V)) := by
  subst hn
  have hb : (Value.int .u8 V) = bv (l[k] + 1) := by
    subst hV; simp [bv, UInt8.toNat_add]
  have hO := h.2 g rfl
  refine ⟨l.set k (l[k] + 1), by simp, ⟨?_, h.2⟩, hK.setCell (fun _ => hO) _⟩
  have h1 := (h.1.stored k (bv (l[k] + 1))).1
  rw [bvs_set, ← hb] at h1
  simpa using h1

/-- Bytes of one's own lie at the head of a block, or there are none. -/
theorem own_head {w : World} {O : Nat → Prop} {A : Option Addr} {n c : Nat} {l : List UInt8} (h : OwnB w O (.slice A n c) l) (hn : l.length = n) (h0 : 0 < n) : ∃ g, A = some ⟨g, 0, none⟩ := by
  rcases h.1.2 with ⟨e, e'⟩ | ⟨g, cap, cur, e, _⟩
  · omega
  · simp only [Value.slice.injEq] at e
    exact ⟨g, e.1⟩
theorem own_cell {w : World} {O : Nat → Prop} {g n k c : Nat} {l : List UInt8} (h : OwnB w O (.slice (some ⟨g, 0, none⟩) n c) l) (hn : l.length = n) (hk : k < n) : w.cell? ⟨g, k, none⟩ = some (bv l[k]) ∧ w.frozen? ⟨g, k, none⟩ = false := by
  subst hn
  refine ⟨?_, h.1.frozenAt k⟩
  rw [h.1.cellAt k (by omega)]
  simp [hk]

end Go.Proofs.Ytfdgdheopifnjaa
