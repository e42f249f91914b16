/-
  The law's calls (a slice of structs) in memory; great: are there more of them than the statements go through? No conditions.
-/
import Derived.Test.YtfdgdheopifnjaaVArg
import Derived.Deep.Slices
import Derived.Deep.Fields
import Derived.ChangeSame
namespace Go.Proofs.Ytfdgdheopifnjaa
open Go.ChangeShapes Go.WideShapes Go.ChangeAt Go.RowKit

/-- A call as the law has it. -/
structure OpV where
  kind : Int
  m : Int
  n : Nat
  lo : Int
  hi : Int
  B : Option Addr
  b : List UInt8
  c : Nat

/-- Number i of the calls at block g from off on. -/
def OpAt (w : World) (g off i : Nat) (o : OpV) : Prop :=
  w.cell? ⟨g, off + i * 6, none⟩ = some (.int .i64 o.kind) ∧ w.cell? ⟨g, off + i * 6 + 1, none⟩ = some (.int .i64 o.m) ∧ w.cell? ⟨g, off + i * 6 + 2, none⟩ = some (.int .u64 o.n) ∧
  w.cell? ⟨g, off + i * 6 + 3, none⟩ = some (.int .i64 o.lo) ∧ w.cell? ⟨g, off + i * 6 + 4, none⟩ = some (.int .i64 o.hi) ∧ w.cell? ⟨g, off + i * 6 + 5, none⟩ = some (.slice o.B o.b.length o.c) ∧
  Rd w o.B o.b ∧ o.b.length ≤ o.c ∧ o.c ≤ maxLen

/-- What is known of a call's numbers. -/
def OpOk (o : OpV) : Prop :=
  (-9223372036854775808 ≤ o.kind ∧ o.kind ≤ 9223372036854775807) ∧ (-9223372036854775808 ≤ o.m ∧ o.m ≤ 9223372036854775807) ∧ o.n < 18446744073709551616 ∧
  (-9223372036854775808 ≤ o.lo ∧ o.lo ≤ 9223372036854775807) ∧ (-9223372036854775808 ≤ o.hi ∧ o.hi ≤ 9223372036854775807)

/-- The calls l stand from an address on. -/
def Ops (w : World) (A : Option Addr) (l : List OpV) : Prop :=
  (∀ o ∈ l, OpOk o) ∧ (0 < l.length → ∃ g off, A = some ⟨g, off, none⟩ ∧ ∀ (i : Nat) (h : i < l.length), OpAt w g off i l[i])

theorem OpAt.keep {w w' : World} {g off i : Nat} {o : OpV} (h : OpAt w g off i o) (hk : Keep NoB w w') : OpAt w' g off i o := by
  obtain ⟨h0, h1, h2, h3, h4, h5, h6, h7⟩ := h
  exact ⟨hk.cell h0 id, hk.cell h1 id, hk.cell h2 id, hk.cell h3 id, hk.cell h4 id, hk.cell h5 id, h6.keep hk (fun _ _ _ => id), h7⟩
theorem Ops.keep {w w' : World} {A : Option Addr} {l : List OpV} (h : Ops w A l) (hk : Keep NoB w w') : Ops w' A l := by
  refine ⟨h.1, fun h0 => ?_⟩
  obtain ⟨g, off, e, hi⟩ := h.2 h0
  exact ⟨g, off, e, fun i hl => (hi i hl).keep hk⟩

/-- How many bytes the calls hand in. -/
def total (l : List OpV) : Nat := (l.map (·.b.length)).sum
theorem total_snoc (l : List OpV) (o : OpV) : total (l ++ [o]) = total l + o.b.length := by simp [total]

theorem ret_bool {a b : Bool} (h : a = b) : Ending.returned (.bool a) = .returned (.bool b) := by rw [h]
theorem great_sum (l : List OpV) (k : Nat) (h : k < l.length) : total (l.take (k + 1)) = total (l.take k) + l[k].b.length := by
  rw [List.take_succ_eq_append_getElem h, total_snoc]

set_option maxRecDepth 100000 in
set_option maxHeartbeats 1000000 in
theorem great_long (w : World) (A : Option Addr) (l : List OpV) (c : Nat) (h : Ops w A l) (hl : l.length ≤ 9223372036854775807) (h1 : 100 < l.length) :
    Calls Try.prog 10 #[.slice A l.length c] w fun e w' => e = .returned (.bool true) ∧ w = w' := by
  obtain ⟨g, off, rfl, hi⟩ := h.2 (by omega)
  go_enter Try.func10, Try.ntmps10
  go_wp2
  go_loop [3, 7] (fun z i => ∃ (k : Nat) (s : Int), k ≤ l.length ∧ i = .int .i64 k ∧ z = .int .i64 s) (fun _ i => l.length - (intOf i).toNat)
  case atStart => exact ⟨0, 0, Nat.zero_le _, rfl, rfl⟩
  case round =>
    obtain ⟨k, s, hk, rfl, rfl⟩ := hrel
    by_cases hlt : k < l.length
    · obtain ⟨_, _, _, _, _, q5, _⟩ := hi k hlt
      go_wp2
      go_round
      case rel => exact ⟨k + 1, _, by omega, by go_num, rfl⟩
      case measure => simp [intOf]; omega
    · obtain rfl : k = l.length := by omega
      go_wp2
      go_ret
      exact ⟨rfl, rfl⟩

set_option maxRecDepth 100000 in
set_option maxHeartbeats 1000000 in
theorem great_short (w : World) (A : Option Addr) (l : List OpV) (c : Nat) (h : Ops w A l) (h1 : l.length ≤ 100) (hb : ∀ o ∈ l, o.b.length ≤ 140737488355328) (G : Bool) (hG : Hid (G = decide (20000 < total l))) :
    Calls Try.prog 10 #[.slice A l.length c] w fun e w' => e = .returned (.bool G) ∧ w = w' := by
  have hsum : ∀ k, k ≤ l.length → total (l.take k) ≤ k * 140737488355328 := by
    intro k
    induction k with
    | zero => intro _; simp [total]
    | succ k ih =>
      intro hk
      rw [great_sum l k (by omega)]
      have := ih (by omega)
      have := hb l[k] (List.getElem_mem _)
      omega
  have HS := Lib.hid hsum
  clear hsum
  go_enter Try.func10, Try.ntmps10
  go_wp2
  go_loop [3, 7] (fun z i => ∃ (k s : Nat), k ≤ l.length ∧ Hid (s = total (l.take k)) ∧ i = .int .i64 k ∧ z = .int .i64 s) (fun _ i => l.length - (intOf i).toNat)
  case atStart => exact ⟨0, 0, Nat.zero_le _, by simp [total, Hid], rfl, rfl⟩
  case round =>
    obtain ⟨k, s, hk, hs, rfl, rfl⟩ := hrel
    by_cases hlt : k < l.length
    · obtain ⟨g, off, rfl, hi⟩ := h.2 (by omega)
      obtain ⟨_, _, _, _, _, q5, _⟩ := hi k hlt
      have hsb : s ≤ k * 140737488355328 := by have := HS.out k hk; rw [← hs.out] at this; exact this
      have hbk := hb l[k] (List.getElem_mem _)
      have hs' : Hid (s + l[k].b.length = total (l.take (k + 1))) := by show _ = _; rw [great_sum l k hlt, hs.out]
      go_wp2
      go_round
      case rel => exact ⟨k + 1, s + l[k].b.length, by omega, hs', by go_num, by go_num⟩
      case measure => simp [intOf]; omega
    · obtain rfl : k = l.length := by omega
      have hst : Hid (s = total l) := by show _ = _; rw [hs.out, List.take_length]
      by_cases hg : 20000 < s
      · have hG1 : G = true := by rw [hG.out, ← hst.out]; simp [hg]
        subst hG1
        go_wp2
        go_ret
        exact ⟨ret_bool (by simp; omega), rfl⟩
      · have hG1 : G = false := by rw [hG.out, ← hst.out]; simp [hg]
        subst hG1
        go_wp2
        go_ret
        exact ⟨ret_bool (by simp; omega), rfl⟩

theorem choose_list {α : Type} (R : Nat → α → Prop) : ∀ n, (∀ i, i < n → ∃ o, R i o) → ∃ l : List α, l.length = n ∧ ∀ (i : Nat) (h : i < l.length), R i l[i]
  | 0, _ => ⟨[], rfl, fun _ h => by simp at h⟩
  | n + 1, h => by
    obtain ⟨l, hl, hi⟩ := choose_list R n (fun i hi => h i (by omega))
    obtain ⟨o, ho⟩ := h n (by omega)
    refine ⟨l ++ [o], by simp [hl], fun i hi' => ?_⟩
    by_cases hlt : i < l.length
    · rw [List.getElem_append_left hlt]; exact hi i hlt
    · have : i = n := by simp [hl] at hi'; omega
      subst this
      rw [List.getElem_append_right (by omega)]
      simpa [hl] using ho

/-- A slice of structs of one-cell fields, opened to its cells. -/
theorem open_fields {H : Type} {enc : TypeId × Value → H} {P : Program} {w : World} {base : Nat} {spare : Nat → Bool} {held : Bool} {t e : TypeId} {fs : Array Field} {fuel : Nat} {cs : List Value} {x : DataW H × List MemPlace}
    (ht : P.underlying t = some (.slice e)) (he : P.underlying e = some (.struct fs)) (hone : Go.Deep.oneCellFields P fs = true) (hC : P.cellsOf e = fs.size) (h : DataW.trod enc P w base spare held fuel t cs = some x) :
    (cs = [.slice none 0 0]) ∨ ∃ (a : Addr) (len cap : Nat) (D : Nat → DataW H) (rest : List (DataW H)), cs = [.slice (some a) len cap] ∧ len ≤ cap ∧ cap ≤ maxLen ∧ x.1 = .slice ((List.range len).map D) rest ∧
      ∀ i, i < len → ∃ (ys : List (DataW H × List MemPlace)) (n : Nat), D i = .agg (ys.map (·.1)) ∧ ys.length = fs.size ∧
        ∀ (j : Nat) (f : Field), fs[j]? = some f → ∃ (v : Value) (y : DataW H × List MemPlace), w.cell? (a.add (i * fs.size + j)) = some v ∧ ys[j]? = some y ∧ DataW.trod enc P w base spare held n f.type [v] = some y := by
  rcases Go.Deep.open_slice ht h with ⟨h0, _⟩ | ⟨a, len, cap, m, n, D, Pl, hcs, hb, hl, hm, hmm, hx, hi⟩
  · exact .inl h0
  · refine .inr ⟨a, len, cap, D, _, hcs, hl, hm, by rw [hx], fun i him => ?_⟩
    obtain ⟨cs', hc, ht'⟩ := hi i (by rw [hmm]; split <;> omega)
    rw [hC] at hc
    obtain ⟨ys, n', _, hy, hlen, hyl, hf⟩ := DataW.trod_struct he ht'
    obtain ⟨_, hcl, hat⟩ := World.cells?_some hc
    simp only [Prod.mk.injEq] at hy
    refine ⟨ys, n', hy.1, hyl, fun j f hj => ?_⟩
    obtain ⟨ho, hk⟩ := Go.Deep.hone_of hone j f hj
    have hjl : j < fs.size := (Array.getElem?_eq_some_iff.1 hj).1
    have hcell := hat j hjl
    have hv : cs'[j]? = some (cs'[j]'(by omega)) := List.getElem?_eq_getElem (by omega)
    have h1 := hf j f hj
    rw [ho, hk] at h1
    have hone' : (cs'.drop j).take 1 = [cs'[j]'(by omega)] := by
      rw [List.drop_eq_getElem_cons (by omega)]
      rfl
    rw [hone'] at h1
    have hys : ys[j]? = some (ys[j]'(by omega)) := List.getElem?_eq_getElem (by omega)
    refine ⟨_, _, ?_, hys, h1.trans hys⟩
    rw [← add_add, hcell, hv]

/-- What weighs within the reach. -/
abbrev Fine (P : Program) (H : Type) (t : TypeId) (d : DataW H) : Prop := ∀ n ∈ d.weights P t, n ≤ reachBytes

theorem read_bytes_fine {H : Type} {enc : TypeId × Value → H} {W : World} {base : Nat} {spare : Nat → Bool} {held : Bool} {fuel : Nat} {cs : List Value} {x : DataW H × List MemPlace}
    (h : DataW.trod enc Try.prog W base spare held fuel 27 cs = some x) (hw : Fine Try.prog H 27 x.1) : ∃ A l c, cs = [.slice A l.length c] ∧ Rd W A l ∧ l.length ≤ c ∧ c ≤ maxLen ∧ l.length ≤ reachBytes := by
  obtain ⟨A, l, c, hcs, hr, hc, hm⟩ := read_bytes h
  refine ⟨A, l, c, hcs, hr, hc, hm, ?_⟩
  rcases open_ints Try.underlying27 Try.underlying5 cellsU8 h with ⟨hcs', _⟩ | ⟨a, len, cap, zs, hcs', _, hl, _, hz, hx, _, _⟩
  · rw [hcs'] at hcs
    simp only [List.cons.injEq, Value.slice.injEq, and_true] at hcs
    omega
  · rw [hcs'] at hcs
    simp only [List.cons.injEq, Value.slice.injEq, and_true] at hcs
    have hby : Try.prog.bytesOf 5 = 1 := by kernel_rfl
    have h1 := hw ((lits (H := H) .u8 (zs.take len)).length + (lits (H := H) .u8 (zs.drop len)).length) (by
      rw [hx]
      unfold DataW.weights
      rw [Try.underlying27]
      simp [hby])
    have hzl : len ≤ zs.length := by rw [hz]; split <;> omega
    simp [lits] at h1
    omega

end Go.Proofs.Ytfdgdheopifnjaa
