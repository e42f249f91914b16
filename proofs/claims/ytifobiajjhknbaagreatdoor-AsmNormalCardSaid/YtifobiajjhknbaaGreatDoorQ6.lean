/-
  The program's lines, as they are ranged over: each line of a text with its number, one after another; or until the body has had enough. Conditions: the text lies in the box that the iterator reads; the body changes only what is its own.
  The plain mathematics of the reader's lines: which try reads a line; what was read of those so far. No program, no conditions.
  The plain mathematics of what the reader notes: where it says that it stands, it stands; numbers are no greater than lines were. No program, no conditions.
  What Check, Count, ifBody and hasPlace of layer code answer: is a list a body, and how many have an op? Conditions: the list lies in memory.
  What Count, ifBody and hasPlace of layer code answer. Conditions: the list lies in memory.
  What the document's Check, Count and Head of layer code answer, and its Lists: are two lists the same? Conditions: lists lie in memory; numbers fit an int64.
  A function in memory: its value, its cells, what it reads as. No conditions.
  A region that draws its order and has a neck: an operation that waits for all ahead of it, and for which all behind it wait. What lies ahead is walked in an order of one's own choice (KMix); then the neck comes up alone, and may write what was made. No program, no conditions.
  Which types shapes and signatures may have: what held and all answer, and the document's held. Conditions: the list lies in memory.
  Which shapes and signatures may be: what Check, CheckSignature, Cell and Same answer, the program's and the document's; what the laws' Great and Copy answer. Conditions: the lists lie in memory.
  What pack answers: types' bytes. Conditions: the list lies in memory, holds types, no more than 64.
  What the document's Types answers: types' bytes. Conditions: the list lies in memory, holds types, no more than 64.
  What Encode and EncodeSignature answer, the program's and the document's: their bytes, if they may be. Conditions: the lists lie in memory.
  The iterator of the pieces of bytes, two bits each, from the lowest of each byte on. Conditions: the bytes lie in memory; a round keeps them.
  What types answers: the types that were laid into bytes, if nothing is behind them. Conditions: the bytes lie in memory.
  What unpack and Decode of layer shape answer: the types, and the shape, at a Reel's place. Conditions: the Reel reads bytes in memory, no more than 2^47.
  What DecodeSignature answers: the signature at a Reel's place. Conditions: the Reel reads bytes in memory, no more than 2^47.
  Names and locals at a Reel's place: what decodeName and decodeLocals answer. Conditions: the Reel reads bytes in memory, no more than 2^47.
  Names: what letter, digit and Named answer, and the document's letter and Named. No conditions but that the name's length fits an int64.
  every: questions that lie in memory are asked in turn, up to the first no. Conditions: each question answers by its contract.
  What the closures of passes answer; few and taking. Conditions: what is asked answers by its contract.
  What reads and its closures do: what stands next is read and kept. Conditions: what decodes answers by its contract.
-/
import Derived.Laws.BitsAllLaws
import Derived.Laws.ResultCell
import Derived.Laws.Rows
import Derived.Lib.OthersKept
import Derived.StillTail
import Derived.StillTailTactics
import Derived.Test.YtifobiajjhknbaaGreatDoorQ5
import Derived.Test.YtifobiajjhknbaaGreatDoorQ4
import Derived.Test.YtifobiajjhknbaaGreatDoorQ3
import Derived.Test.YtifobiajjhknbaaGreatDoorQ2
namespace Go.Proofs.YtifobiajjhknbaaGreatDoor.M
open Go.RowKit Go.Shelf Go.Lib W

/-- Lines with their numbers. -/
def numS (n : Nat) : List Bs → List (Nat × Bs)
  | [] => []
  | s :: r => (n, s) :: numS (n + 1) r
theorem sgo_word {w : Bs} (h : ∀ c ∈ w, c ≠ 10) (cur r : Bs) : sgo cur (w ++ r) = sgo (cur ++ w) r := by
  induction w generalizing cur with
  | nil => simp
  | cons c w ih =>
    rw [List.cons_append, sgo, if_neg (h c (by simp)), ih (fun d hd => h d (List.mem_cons_of_mem _ hd)), List.append_assoc]
    rfl
def isLF (c : UInt8) : Bool := decide (c = 10)
theorem low_lf : lowQ isLF := by
  intro c h
  unfold isLF
  rw [decide_eq_false_iff_not]
  rintro rfl
  exact absurd h (by decide)
theorem asR_lf (r : Nat) : asR isLF r = ((r : Int) == 10) := by
  unfold asR isLF
  rw [Bool.eq_iff_iff, Bool.and_eq_true, decide_eq_true_iff, decide_eq_true_iff, beq_iff_eq]
  constructor
  · rintro ⟨h, h1⟩
    have := congrArg UInt8.toNat h1; simp at this; omega
  · intro h
    obtain rfl : r = 10 := by omega
    exact ⟨by omega, rfl⟩
/-- What is left, when a line is in hand from f on, and the text was gone through up to k. -/
def LeftI (s : Bs) (pre : List (Nat × Bs)) (f k : Nat) : Prop := numS 1 (segs s) = pre ++ numS (pre.length + 1) (sgo ((s.drop f).take (k - f)) (s.drop k))
theorem left_start (s : Bs) : LeftI s [] 0 0 := by unfold LeftI segs; simp
theorem left_byte {s : Bs} {pre : List (Nat × Bs)} {f k w : Nat} (h : LeftI s pre f k) (hf : f ≤ k) (hno : ∀ c ∈ (s.drop k).take w, isLF c = false) : LeftI s pre f (k + w) := by
  unfold LeftI at h ⊢
  rw [h]
  have hsp : s.drop k = (s.drop k).take w ++ s.drop (k + w) := by
    rw [← List.drop_drop]; exact (List.take_append_drop w _).symm
  congr 2
  conv => lhs; rw [hsp]
  rw [sgo_word (fun c hc e => by have := hno c hc; unfold isLF at this; rw [e] at this; exact absurd this (by decide))]
  congr 1
  rw [show k + w - f = (k - f) + w by omega, List.take_add, List.drop_drop, show f + (k - f) = k by omega]
theorem left_line {s : Bs} {pre : List (Nat × Bs)} {f k : Nat} (h : LeftI s pre f k) (hk : k < s.length) (he : isLF s[k] = true) :
    numS 1 (segs s) = pre ++ (pre.length + 1, (s.drop f).take (k - f)) :: numS (pre.length + 1 + 1) (sgo [] (s.drop (k + 1))) := by
  unfold LeftI at h
  rw [h, List.drop_eq_getElem_cons hk, sgo, if_pos (of_decide_eq_true he)]
  rfl
theorem left_next {s : Bs} {pre : List (Nat × Bs)} {x : Bs} {k : Nat} (h : numS 1 (segs s) = pre ++ (pre.length + 1, x) :: numS (pre.length + 1 + 1) (sgo [] (s.drop (k + 1)))) : LeftI s (pre ++ [(pre.length + 1, x)]) (k + 1) (k + 1) := by
  unfold LeftI
  rw [h, Nat.sub_self, List.take_zero, List.length_append, List.append_assoc]
  rfl
theorem left_last {s : Bs} {pre : List (Nat × Bs)} {f k : Nat} (h : LeftI s pre f k) (hk : s.length ≤ k) (hf : f < s.length) : numS 1 (segs s) = pre ++ [(pre.length + 1, s.drop f)] := by
  unfold LeftI at h
  have e : (s.drop f).take (k - f) = s.drop f := List.take_of_length_le (by rw [List.length_drop]; omega)
  rw [h, List.drop_eq_nil_of_le hk, e, sgo, fl_some (fun e => by have := congrArg List.length e; simp at this; omega)]
  rfl
theorem left_none {s : Bs} {pre : List (Nat × Bs)} {f k : Nat} (h : LeftI s pre f k) (hk : s.length ≤ k) (hf : s.length ≤ f) : numS 1 (segs s) = pre := by
  unfold LeftI at h
  rw [h, List.drop_eq_nil_of_le hk, List.drop_eq_nil_of_le hf, List.take_nil, sgo, fl_nil]
  simp [numS]
theorem segs_count (s : Bs) : (segs s).length ≤ s.length := by
  have : ∀ (s cur : Bs), (sgo cur s).length ≤ s.length + (if cur = [] then 0 else 1) := by
    intro s
    induction s with
    | nil => intro cur; rw [sgo]; unfold fl; split <;> simp
    | cons c r ih =>
      intro cur
      by_cases hc : c = 10
      · subst hc
        rw [sgo, if_pos rfl, List.length_cons, List.length_cons]
        have := ih []
        simp at this
        omega
      · rw [sgo, if_neg hc]
        have := ih (cur ++ [c])
        rw [if_neg (by simp)] at this
        rw [List.length_cons]
        omega
  have h := this s []
  simp at h
  exact h
theorem numS_length : ∀ (n : Nat) (l : List Bs), (numS n l).length = l.length
  | _, [] => rfl
  | n, x :: r => by rw [numS, List.length_cons, List.length_cons, numS_length]
theorem pre_count {s : Bs} {pre post : List (Nat × Bs)} (h : numS 1 (segs s) = pre ++ post) : pre.length + post.length ≤ s.length := by
  have := congrArg List.length h
  rw [numS_length, List.length_append] at this
  have := segs_count s
  omega

abbrev lnV (x : Nat × Bs) : Array Value := #[.int .i64 (x.1 : Int), .string (str x.2)]
/-- What is known of a line that comes: it is the next one. -/
def EnL (s : Bs) (pre : List (Nat × Bs)) (x : Nat × Bs) : Prop := x.1 = pre.length + 1 ∧ ∃ post, numS 1 (segs s) = pre ++ x :: post
def ItI (J : List (Nat × Bs) → BSet → World → Prop) (S : ByteArray) (bx it : Nat) (pre : List (Nat × Bs)) (k : Nat) (W : World) : Prop :=
  ∃ p, J pre p W ∧ ¬ p it ∧ ¬ p bx ∧ W.heap[it]? = some (.stringIter S k) ∧ Blk W bx 9 #[.string S]

theorem step_iter {B : Nat} {p : BSet} {w : World} {it : Nat} {S : ByteArray} {k : Nat} (n : Nat) (h0 : w.heap[it]? = some (.stringIter S k)) (hB : B ≤ it) (hp : ¬ p it) : IStep B p w (w.iterAt it S n) := by
  refine ⟨⟨rfl, rfl, rfl, by rw [Lib.iterAt_size]; exact Nat.le_refl _, fun j _ hn => Lib.iterAt_other _ _ _ _ _ (fun e => by subst e; exact hn ⟨hB, hp⟩)⟩, fun j o hj hc => ?_⟩
  by_cases e : j = it
  · subst e
    rw [Lib.iterAt_heap _ _ _ _ n h0] at hj
    cases hj; cases hc
  · rwa [Lib.iterAt_other _ _ _ _ _ e] at hj
theorem ne_bool {r : Nat} (h : asR isLF r = false) : ((r : Int) == 10) = false := by rw [← asR_lf]; exact h
theorem sl_rest {S : ByteArray} {s : Bs} {f : Nat} (hs : S.data.toList = s) : S.extract f S.size = str (s.drop f) := by
  rw [extract_of hs, size_of hs]
  congr 1
  exact List.take_of_length_le (by rw [List.length_drop]; exact Nat.le_refl _)

set_option maxRecDepth 100000 in
set_option maxHeartbeats 4000000 in
theorem lines_stops (m k bx : Nat) (hk : 1 ≤ k) (hmk : m = k - 1) (S : ByteArray) (s : Bs) (hs : Hid (S.data.toList = s)) (hl : S.size ≤ 140000) :
    StopsM Tryz.prog m k 75 #[.pointer (some ⟨bx, 0, none⟩)] lnV bx (.cells #[.string S] 9 (0, 0)) (EnL s) (fun xs => xs = numS 1 (segs s)) (fun pre => ∃ post, numS 1 (segs s) = pre ++ post) := by
  subst hmk
  intro L J Jx p0 W hJ hJx hY h0 hp0 hbx hpb
  have hsz := size_of hs.out
  have HEX := Lib.hid (extract_of hs.out)
  have HY := Lib.hid hY
  have HJ := Lib.hid hJ
  have c1 : W.cell? ⟨bx, 0, none⟩ = some (.string S) := (show Blk W bx 9 #[.string S] from hbx).cell 0
  have hI0 : ItI J S bx W.heap.size [] 0 (W.iter S 0) := ⟨p0, hJ _ _ _ _ h0 (IStep.alloc _ rfl), fun h => Nat.lt_irrefl _ (hp0 _ h), hpb, World.iter_heap W S 0, (show Blk W bx 9 #[.string S] from hbx).alloc _⟩
  clear hY hJ hJx h0 hp0 hbx hpb
  refine callsIn_of_wp Tryz.func75 rfl trivial ?_ rfl
  simp only [Tryz.ntmps75, List.size_toArray, List.length_cons, List.length_nil, Nat.reduceAdd, Nat.reduceSub, Array.replicate_succ, Array.replicate_zero, List.push_toArray, List.append_toArray, List.nil_append, List.cons_append]
  gi_wp2
  gi_loopw [3, 4, 5, 6] (fun vn vf _ _ wr => ∃ (pre : List (Nat × Bs)) (f k n : Nat), vn = .int .i64 (n : Int) ∧ n = pre.length + 1 ∧ vf = .int .i64 (f : Int) ∧ f ≤ k ∧ k ≤ s.length ∧ Hid (LeftI s pre f k) ∧ ItI J S bx W.heap.size pre k wr)
    (fun _ _ _ _ wr => S.size - wr.iterPos W.heap.size)
  case atStart => exact ⟨[], 0, 0, 1, rfl, rfl, rfl, Nat.le_refl _, Nat.zero_le _, left_start s, hI0⟩
  case round =>
    obtain ⟨pre, f, k, n, rfl, hn1, rfl, hfk, hks, hL, p, hJp, hpi, hpb, hit, hB⟩ := hrel
    by_cases hps : k < s.length
    · obtain ⟨r, w, hd, hw1, hw2, hcase⟩ := step_at low_lf hs.out hps
      have hnx : ∀ ty, (Instr.next (.pointer (some ⟨W.heap.size, 0, none⟩)) true ty).run Tryz.prog wr = _ := fun ty => Lib.run_next_any_at wr W.heap.size S k ty hit (by omega)
      rw [hd] at hnx
      dsimp only at hnx
      have hit2 := Lib.iterAt_heap wr W.heap.size S k (k + w) hit
      have hps1 : wr.iterPos W.heap.size = k := by unfold World.iterPos; rw [hit]
      rcases hcase with ⟨hp, rfl, hq, hr⟩ | ⟨hp, hall⟩
      · have hten : s[k] = 10 := of_decide_eq_true hq
        obtain rfl : r = 10 := by rw [hr, hten]; rfl
        have hn := left_line hL.out hps hq
        have hJ2 := HJ.out pre p _ _ hJp (step_iter (k + 1) hit (Nat.le_refl _) hpi)
        have hB2 : Blk (wr.iterAt W.heap.size S (k + 1)) bx 9 #[.string S] := (Lib.iterAt_other _ _ _ _ _ (fun e => by subst e; exact absurd (hB.symm.trans hit) (by simp))).trans hB
        have c2 : (wr.iterAt W.heap.size S (k + 1)).cell? ⟨bx, 0, none⟩ = some (.string S) := hB2.cell 0
        rw [← hn1] at hn
        have hY2 := HY.out pre (n, (s.drop f).take (k - f)) p _ hJ2 ⟨hn1, _, hn⟩
        have hx : S.extract f k = str ((s.drop f).take (k - f)) := HEX.out f k
        have HPo : Hid (∃ post, numS 1 (segs s) = (pre ++ [(n, (s.drop f).take (k - f))]) ++ post) := ⟨_, by rw [hn, List.append_assoc]; rfl⟩
        have hcnt : pre.length ≤ 140000 := by have := pre_count hn; omega
        have hn14 : n ≤ 140001 := by omega
        have HN := Lib.hid (left_next (hn1 ▸ hn))
        rw [← hn1] at HN
        have hle : (0 : Int) ≤ (f : Int) ∧ (f : Int) ≤ (k : Int) ∧ (k : Int) ≤ (S.size : Int) := ⟨by omega, by omega, by omega⟩
        have hk14 : k ≤ 140000 := by omega
        dsimp only [lnV] at hY2
        generalize str ((s.drop f).take (k - f)) = T at hx hY2
        generalize (s.drop f).take (k - f) = x at hY2 HN HPo
        clear hp hq hr hten hn hJp hJ2 hL hd hw1 HY
        generalize wr.iterAt W.heap.size S (k + 1) = W2 at *
        have HN1 := Lib.hid hn1
        have HPost := HPo
        clear hn1
        obtain ⟨fn, tmps, assign, body, hy, hR⟩ := hY2
        gi_wp2
        refine hR.mono ?_
        rintro e W3 ⟨p', hrn, ⟨rfl, hJ3⟩ | ⟨rfl, hJx3⟩⟩
        · have hit3 := (hrn.same (Array.getElem?_eq_some_iff.1 hit2).1 hpi).trans hit2
          have hB3 : Blk W3 bx 9 #[.string S] := (hrn.same hB2.lt hpb).trans hB2
          have hpi3 := hrn.not (Array.getElem?_eq_some_iff.1 hit2).1 hpi
          have hpb3 := hrn.not hB2.lt hpb
          have hps3 : W3.iterPos W.heap.size = k + 1 := by unfold World.iterPos; rw [hit3]
          clear hit2 hB2 hrn hit hB hy hnx
          gi_wp2
          go_roundw
          case rel => exact ⟨_, k + 1, k + 1, n + 1, rfl, by rw [HN1.out]; simp, rfl, Nat.le_refl _, by omega, HN, p', hJ3, hpi3, hpb3, hit3, hB3⟩
          case measure => rw [hps1, hps3]; omega
        · gi_wp2
          refine bodyPost_ret (results_none rfl _ _ _) rfl ?_
          exact ⟨⟨_, rfl⟩, p', .inr ⟨_, HPost.out, hJx3⟩⟩
      · have HL := Lib.hid (left_byte hL.out hfk hall)
        have hne := ne_bool hp
        have hJ2 := HJ.out pre p _ _ hJp (step_iter (k + w) hit (Nat.le_refl _) hpi)
        have hB2 : Blk (wr.iterAt W.heap.size S (k + w)) bx 9 #[.string S] := (Lib.iterAt_other _ _ _ _ _ (fun e => by subst e; exact absurd (hB.symm.trans hit) (by simp))).trans hB
        have hps3 : (wr.iterAt W.heap.size S (k + w)).iterPos W.heap.size = k + w := by unfold World.iterPos; rw [hit2]
        clear hp hall hJp hL hd HY
        generalize wr.iterAt W.heap.size S (k + w) = W2 at *
        gi_wp2
        go_roundw
        case rel => exact ⟨pre, f, k + w, n, rfl, hn1, rfl, by omega, hw2, HL, p, hJ2, hpi, hpb, hit2, hB2⟩
        case measure => rw [hps1, hps3]; omega
    · have hnx : ∀ ty, (Instr.next (.pointer (some ⟨W.heap.size, 0, none⟩)) true ty).run Tryz.prog wr = _ := fun ty => Lib.run_next_end_at wr W.heap.size S k ty hit (by omega)
      have c2 : wr.cell? ⟨bx, 0, none⟩ = some (.string S) := hB.cell 0
      by_cases hf : f < s.length
      · have hn := left_last hL.out (by omega) hf
        rw [← hn1] at hn
        have hY2 := HY.out pre (n, s.drop f) p _ hJp ⟨hn1, [], hn⟩
        have hx : S.extract f S.size = str (s.drop f) := sl_rest hs.out
        have HN := Lib.hid hn
        have hcnt : pre.length ≤ 140000 := by have := pre_count hn; omega
        have hn14 : n ≤ 140001 := by omega
        have hfS : f < S.size := by omega
        have hle : (0 : Int) ≤ (f : Int) ∧ (f : Int) ≤ (S.size : Int) := ⟨by omega, by omega⟩
        dsimp only [lnV] at hY2
        generalize str (s.drop f) = T at hx hY2
        generalize s.drop f = x at hY2 HN
        clear hn hJp hL HY hn1 hsz
        obtain ⟨fn, tmps, assign, body, hy, hR⟩ := hY2
        gi_wp2
        refine hR.mono ?_
        rintro e W3 ⟨p', hrn, ⟨rfl, hJ3⟩ | ⟨rfl, hJx3⟩⟩
        · gi_wp2
          go_end0
          exact ⟨⟨_, rfl⟩, p', .inl ⟨_, rfl, by rw [HN.out]; exact hJ3⟩⟩
        · gi_wp2
          go_end0
          exact ⟨⟨_, rfl⟩, p', .inr ⟨_, ⟨[], by rw [HN.out]; simp⟩, hJx3⟩⟩
      · have HN := Lib.hid (left_none hL.out (by omega) (by omega))
        have hfS : ¬ f < S.size := by omega
        clear hL HY hsz
        gi_wp2
        go_end0
        exact ⟨⟨_, rfl⟩, p, .inl ⟨_, rfl, by rw [HN.out]; exact hJp⟩⟩

/-- What lines answers: an iterator over its text, in a box of its own. -/
theorem lines_any (S : ByteArray) (w : World) : Calls Tryz.prog 42 #[.string S] w fun e w' =>
    e = .returned (.func (.func 75) #[] #[.pointer (some ⟨w.heap.size, 0, none⟩)]) ∧ w' = w.alloc (.cells #[.string S] 9) := by
  go_enter Tryz.func42, Tryz.ntmps42
  go_wp2
  go_ret
  exact ⟨rfl, rfl⟩

end Go.Proofs.YtifobiajjhknbaaGreatDoor.M

namespace Go.Proofs.YtifobiajjhknbaaGreatDoor.M
open Go.RowKit

/-- The tries of a line, in their order. -/
def tryP (k : Nat) (p : PS) (l : Ln) : Option PS := match k with
  | 0 => pShape p l.2
  | 1 => pFunc p l.2
  | 2 => pLocal p l.2
  | 3 => pLabel p l.1 l.2
  | _ => pInstr p l.1 l.2
theorem step_none {p : PS} {l : Ln} (h : ∀ i, i < 5 → tryP i p l = none) : pStep p l = none := by
  have h0 : pShape p l.2 = none := h 0 (by omega)
  have h1 : pFunc p l.2 = none := h 1 (by omega)
  have h2 : pLocal p l.2 = none := h 2 (by omega)
  have h3 : pLabel p l.1 l.2 = none := h 3 (by omega)
  have h4 : pInstr p l.1 l.2 = none := h 4 (by omega)
  unfold pStep
  rw [h0, h1, h2, h3, h4]; rfl
theorem step_at_try {p p' : PS} {l : Ln} {k : Nat} (hk : k < 5) (h : ∀ i, i < k → tryP i p l = none) (hp : tryP k p l = some p') : pStep p l = some p' := by
  unfold pStep
  match k, hk with
  | 0, _ =>
    have hp : pShape p l.2 = some p' := hp
    rw [hp]; rfl
  | 1, _ =>
    have h0 : pShape p l.2 = none := h 0 (by omega)
    have hp : pFunc p l.2 = some p' := hp
    rw [h0, hp]; rfl
  | 2, _ =>
    have h0 : pShape p l.2 = none := h 0 (by omega)
    have h1 : pFunc p l.2 = none := h 1 (by omega)
    have hp : pLocal p l.2 = some p' := hp
    rw [h0, h1, hp]; rfl
  | 3, _ =>
    have h0 : pShape p l.2 = none := h 0 (by omega)
    have h1 : pFunc p l.2 = none := h 1 (by omega)
    have h2 : pLocal p l.2 = none := h 2 (by omega)
    have hp : pLabel p l.1 l.2 = some p' := hp
    rw [h0, h1, h2, hp]; rfl
  | 4, _ =>
    have h0 : pShape p l.2 = none := h 0 (by omega)
    have h1 : pFunc p l.2 = none := h 1 (by omega)
    have h2 : pLocal p l.2 = none := h 2 (by omega)
    have h3 : pLabel p l.1 l.2 = none := h 3 (by omega)
    have hp : pInstr p l.1 l.2 = some p' := hp
    rw [h0, h1, h2, h3, hp]; rfl
theorem pShape_last {p p' : PS} {ws : List Bs} (h : pShape p ws = some p') : p'.last = 0 := by
  unfold pShape at h
  split at h
  · split at h
    · obtain ⟨x, _, rfl⟩ := Option.map_eq_some_iff.1 h; rfl
    · cases h
  · cases h
theorem pFunc_last {p p' : PS} {ws : List Bs} (h : pFunc p ws = some p') : p'.last = 1 ∧ p'.im.fn ≠ [] := by
  unfold pFunc at h
  split at h
  · split at h
    · obtain ⟨x, _, rfl⟩ := Option.map_eq_some_iff.1 h; exact ⟨rfl, by simp⟩
    · cases h
  · cases h
theorem upd_ne {α : Type} {g : α → α} {l : List α} (h : l ≠ []) : upd g l ≠ [] := by
  match l with
  | [x] => simp [upd]
  | x :: y :: r => simp [upd]
theorem pLocal_last {p p' : PS} {ws : List Bs} (h : pLocal p ws = some p') : p'.last = 2 ∧ ((1 ≤ p.last → p.im.fn ≠ []) → p'.im.fn ≠ []) := by
  unfold pLocal at h
  split at h
  · split at h
    · rename_i hc
      obtain ⟨x, _, rfl⟩ := Option.map_eq_some_iff.1 h; exact ⟨rfl, fun hg => upd_ne (hg (by omega))⟩
    · cases h
  · cases h
theorem pLabel_last {p p' : PS} {n : Nat} {ws : List Bs} (h : pLabel p n ws = some p') : p'.last = 3 ∧ ((1 ≤ p.last → p.im.fn ≠ []) → p'.im.fn ≠ []) := by
  unfold pLabel at h
  split at h
  · split at h
    · rename_i hc
      injection h with h
      subst h
      refine ⟨rfl, fun hg => ?_⟩
      have := hg hc.1
      unfold pDef
      split <;> exact this
    · cases h
  · cases h
theorem pInstr_last {p p' : PS} {n : Nat} {ws : List Bs} (h : pInstr p n ws = some p') : p'.last = 4 ∧ ((1 ≤ p.last → p.im.fn ≠ []) → p'.im.fn ≠ []) := by
  unfold pInstr at h
  split at h
  · rename_i hc
    split at h
    · injection h with h
      subst h
      exact ⟨rfl, fun hg => upd_ne (hg hc)⟩
    · split at h
      · injection h with h
        subst h
        exact ⟨rfl, fun hg => upd_ne (hg hc)⟩
      · cases h
  · cases h
theorem try_last {k : Nat} {p p' : PS} {l : Ln} (hk : k < 5) (h : tryP k p l = some p') (hg : 1 ≤ p.last → p.im.fn ≠ []) : p'.to k = p' ∧ (1 ≤ p'.last → p'.im.fn ≠ []) := by
  unfold tryP at h
  have key : ∀ k', p'.last = k' → p'.to k' = p' := fun k' h => by subst h; rfl
  match k, hk with
  | 0, _ => have h1 := pShape_last h; exact ⟨key _ h1, fun h2 => by omega⟩
  | 1, _ => have h1 := pFunc_last h; exact ⟨key _ h1.1, fun _ => h1.2⟩
  | 2, _ => have h1 := pLocal_last h; exact ⟨key _ h1.1, fun _ => h1.2 hg⟩
  | 3, _ => have h1 := pLabel_last h; exact ⟨key _ h1.1, fun _ => h1.2 hg⟩
  | 4, _ => have h1 := pInstr_last h; exact ⟨key _ h1.1, fun _ => h1.2 hg⟩
theorem pRun_append (b : List Ln) : ∀ (a : List Ln) (p : PS), pRun p (a ++ b) = match pRun p a with | .inl q => pRun q b | .inr n => .inr n
  | [], p => rfl
  | l :: a, p => by
    rw [List.cons_append, pRun, pRun]
    cases pStep p l with
    | none => rfl
    | some p' => exact pRun_append b a p'
/-- The lines that have words. -/
def lnsOf (pre : List (Nat × Bs)) : List Ln := pre.flatMap fun x => one x.1 x.2
theorem lnsOf_append (a b : List (Nat × Bs)) : lnsOf (a ++ b) = lnsOf a ++ lnsOf b := by unfold lnsOf; simp
theorem lnsOf_snoc (pre : List (Nat × Bs)) (x : Nat × Bs) : lnsOf (pre ++ [x]) = lnsOf pre ++ one x.1 x.2 := by unfold lnsOf; simp
theorem lnsOf_ones : ∀ (n : Nat) (l : List Bs), lnsOf (numS n l) = ones n l
  | _, [] => rfl
  | n, s :: r => by
    have ih := lnsOf_ones (n + 1) r
    rw [numS, ones, ← ih]; rfl
theorem lnsOf_all (s : Bs) : lnsOf (numS 1 (segs s)) = linesL s := by rw [lnsOf_ones, ← lines_segs]
theorem run_stop {s : Bs} {pre post : List (Nat × Bs)} {n : Nat} (h : numS 1 (segs s) = pre ++ post) (hr : pRun ps0 (lnsOf pre) = .inr n) : pRun ps0 (linesL s) = .inr n := by
  rw [← lnsOf_all, h, lnsOf_append, pRun_append, hr]
theorem run_skip {pre : List (Nat × Bs)} {x : Nat × Bs} {q : PS} (h : pRun ps0 (lnsOf pre) = .inl q) (hx : wordsL x.2 = []) : pRun ps0 (lnsOf (pre ++ [x])) = .inl q := by
  rw [lnsOf_snoc, one_none hx, List.append_nil, h]
theorem run_next {pre : List (Nat × Bs)} {x : Nat × Bs} {q q' : PS} (h : pRun ps0 (lnsOf pre) = .inl q) (hx : wordsL x.2 ≠ []) (hq : pStep q (x.1, wordsL x.2) = some q') : pRun ps0 (lnsOf (pre ++ [x])) = .inl q' := by
  rw [lnsOf_snoc, one_some hx, pRun_append, h]
  dsimp only
  rw [pRun, hq]; rfl
theorem run_bad {pre : List (Nat × Bs)} {x : Nat × Bs} {q : PS} (h : pRun ps0 (lnsOf pre) = .inl q) (hx : wordsL x.2 ≠ []) (hq : pStep q (x.1, wordsL x.2) = none) : pRun ps0 (lnsOf (pre ++ [x])) = .inr x.1 := by
  rw [lnsOf_snoc, one_some hx, pRun_append, h]
  dsimp only
  rw [pRun, hq]

end Go.Proofs.YtifobiajjhknbaaGreatDoor.M

namespace Go.Proofs.YtifobiajjhknbaaGreatDoor.M
open Go.RowKit

theorem last_split {α : Type} {l : List α} (h : l ≠ []) : ∃ i x, l = i ++ [x] := ⟨l.dropLast, l.getLast h, (List.dropLast_concat_getLast h).symm⟩
theorem upd_length {α : Type} (g : α → α) : ∀ l : List α, (upd g l).length = l.length
  | [] => rfl
  | [_] => rfl
  | x :: y :: r => by rw [upd, List.length_cons, upd_length g (y :: r), List.length_cons, List.length_cons, List.length_cons]
theorem upd_mem {α : Type} {g : α → α} {l : List α} {y : α} (h : y ∈ upd g l) : y ∈ l ∨ ∃ x ∈ l, y = g x := by
  by_cases h0 : l = []
  · subst h0; cases h
  · obtain ⟨i, x, rfl⟩ := last_split h0
    rw [upd_append] at h
    rcases List.mem_append.1 h with h | h
    · exact .inl (List.mem_append_left _ h)
    · exact .inr ⟨x, by simp, List.mem_singleton.1 h⟩
theorem upd_get {α : Type} {g : α → α} {l : List α} {i : Nat} {x : α} (h : l[i]? = some x) : (upd g l)[i]? = some x ∨ (upd g l)[i]? = some (g x) := by
  have h0 : l ≠ [] := by rintro rfl; cases h
  obtain ⟨j, y, rfl⟩ := last_split h0
  rw [upd_append]
  rcases Nat.lt_or_ge i j.length with hi | hi
  · rw [List.getElem?_append_left hi] at h ⊢; exact .inl h
  · rw [List.getElem?_append_right hi] at h ⊢
    cases hk : i - j.length with
    | zero => rw [hk] at h; right; cases h; rfl
    | succ k => rw [hk] at h; cases h

theorem pNamed_len {ws : List Bs} {op : Nat} {b : Bs} (h : pNamed ws = some (op, b)) : b.length ≤ 32 := by
  unfold pNamed at h
  split at h
  · split at h
    · rename_i hk
      split at h
      · split at h
        · injection h with h
          injection h with _ h
          subst h
          exact ((_root_.Go.Proofs.YtifobiajjhknbaaGreatDoor.F.okN_iff _).1 hk).1
        · cases h
      · cases h
    · cases h
  · cases h
/-- What the reader notes, of so many lines. -/
structure GP (p : PS) (L : Nat) : Prop where
  ok : 1 ≤ p.last → p.im.fn ≠ []
  bd : ∀ f ∈ p.im.fn, f.bd.length ≤ L
  fn : p.im.fn.length ≤ L
  lf : p.labs.length = p.im.fn.length
  nu : ∀ s v, p.nums s = some v → v ≤ L
  la : ∀ l ∈ p.labs, ∀ s v, l.2 s = some v → v ≤ L
  ms : ∀ m ∈ p.ms, m.k ≠ 0 → ∃ f, p.im.fn[m.fn]? = some f ∧ m.pl < f.bd.length
  sz : ∀ m ∈ p.ms, m.s.length ≤ 32
theorem GP.start : GP ps0 0 where
  ok h := absurd h (by decide)
  bd f hf := (List.not_mem_nil hf).elim
  fn := Nat.le_refl _
  lf := rfl
  nu s v h := by cases h
  la l hl := (List.not_mem_nil hl).elim
  ms m hm := (List.not_mem_nil hm).elim
  sz m hm := (List.not_mem_nil hm).elim
theorem GP.more {p : PS} {L : Nat} (h : GP p L) : GP p (L + 1) :=
  { h with bd := fun f hf => Nat.le_succ_of_le (h.bd f hf), fn := Nat.le_succ_of_le h.fn, nu := fun s v hv => Nat.le_succ_of_le (h.nu s v hv), la := fun l hl s v hv => Nat.le_succ_of_le (h.la l hl s v hv) }
theorem GP.shape {p p' : PS} {L : Nat} {ws : List Bs} (h : GP p L) (hs : pShape p ws = some p') : GP p' (L + 1) := by
  unfold pShape at hs
  split at hs
  · split at hs
    · obtain ⟨x, _, rfl⟩ := Option.map_eq_some_iff.1 hs
      exact { h.more with ok := fun (h2 : 1 ≤ 0) => by omega }
    · cases hs
  · cases hs
theorem GP.func {p p' : PS} {L : Nat} {ws : List Bs} (h : GP p L) (hs : pFunc p ws = some p') : GP p' (L + 1) := by
  unfold pFunc at hs
  split at hs
  · split at hs
    · obtain ⟨x, _, rfl⟩ := Option.map_eq_some_iff.1 hs
      refine ⟨fun _ => by simp, fun f hf => ?_, by have := h.fn; simp; omega, by have := h.lf; simp; omega, fun s v hv => ?_, fun l hl s v hv => ?_, fun m hm hk => ?_, h.sz⟩
      · rcases List.mem_append.1 hf with hf | hf
        · have := h.bd f hf; omega
        · rw [List.mem_singleton.1 hf]; exact Nat.zero_le _
      · have hf := h.fn
        have hn := h.nu s v
        dsimp only [numsP] at hv
        split at hv
        · have := hn hv; omega
        · unfold setP at hv
          split at hv
          · cases hv; omega
          · have := hn hv; omega
      · rcases List.mem_append.1 hl with hl | hl
        · have := h.la l hl s v hv; omega
        · rw [List.mem_singleton.1 hl] at hv; cases hv
      · obtain ⟨f, h1, h2⟩ := h.ms m hm hk
        exact ⟨f, by
          rw [List.getElem?_append_left (List.getElem?_eq_some_iff.1 h1).1]; exact h1, h2⟩
    · cases hs
  · cases hs
theorem GP.updF {p : PS} {L : Nat} {g : F.Fu → F.Fu} {k : Nat} {nums : Pl} {ms : List Mn} (h : GP p L) (h0 : p.im.fn ≠ []) (hg : ∀ f, f.bd.length ≤ (g f).bd.length ∧ (g f).bd.length ≤ f.bd.length + 1)
    (hn : ∀ s v, nums s = some v → v ≤ L + 1) (hz : ∀ m ∈ ms, m.s.length ≤ 32) (hm : ∀ m ∈ ms, m ∈ p.ms ∨ (m.k ≠ 0 → ∃ f, (M.upd g p.im.fn)[m.fn]? = some f ∧ m.pl < f.bd.length)) : GP ⟨⟨p.im.sh, M.upd g p.im.fn⟩, k, nums, p.labs, ms⟩ (L + 1) := by
  refine ⟨fun _ => upd_ne h0, fun f hf => ?_, by have := h.fn; rw [upd_length]; omega, by rw [upd_length]; exact h.lf, hn, fun l hl s v hv => by have := h.la l hl s v hv; omega, fun m hm2 hk => ?_, hz⟩
  · rcases upd_mem hf with hf | ⟨x, hx, rfl⟩
    · have := h.bd f hf; omega
    · have := h.bd x hx; have := (hg x).2; omega
  · rcases hm m hm2 with h3 | h3
    · obtain ⟨f, h1, h2⟩ := h.ms m h3 hk
      rcases upd_get (g := g) h1 with h4 | h4
      · exact ⟨f, h4, h2⟩
      · exact ⟨g f, h4, Nat.lt_of_lt_of_le h2 (hg f).1⟩
    · exact h3 hk
theorem GP.local_ {p p' : PS} {L : Nat} {ws : List Bs} (h : GP p L) (hs : pLocal p ws = some p') : GP p' (L + 1) := by
  unfold pLocal at hs
  split at hs
  · split at hs
    · rename_i hc
      obtain ⟨x, _, rfl⟩ := Option.map_eq_some_iff.1 hs
      exact h.updF (h.ok (by omega)) (fun f => ⟨Nat.le_refl _, Nat.le_succ _⟩) (fun s v hv => by have := h.nu s v hv; omega) h.sz (fun m hm => .inl hm)
    · cases hs
  · cases hs
theorem GP.last {p : PS} {L : Nat} (h : GP p L) (h0 : p.im.fn ≠ []) : (lastFn p).bd.length ≤ L ∧ (∃ i x, p.im.fn = i ++ [x] ∧ lastFn p = x) := by
  obtain ⟨i, x, e⟩ := last_split h0
  have e2 : lastFn p = x := by unfold lastFn; rw [e]; simp
  exact ⟨by rw [e2]; exact h.bd x (by rw [e]; simp), i, x, e, e2⟩
theorem GP.label {p p' : PS} {L n : Nat} {ws : List Bs} (h : GP p L) (hs : pLabel p n ws = some p') : GP p' (L + 1) := by
  unfold pLabel at hs
  split at hs
  · split at hs
    · rename_i hc
      injection hs with hs
      subst hs
      have h0 := h.ok hc.1
      obtain ⟨hl, _⟩ := h.last h0
      have hla : ∀ a : Bs, ∀ l ∈ upd (fun l : List Bs × Pl => (l.1 ++ [a], setP l.2 a (lastFn p).bd.length)) p.labs, ∀ s v, l.2 s = some v → v ≤ L + 1 := fun a l hl2 s v hv => by
        rcases upd_mem hl2 with hl3 | ⟨x, hx, rfl⟩
        · have := h.la l hl3 s v hv; omega
        · dsimp only [setP] at hv
          split at hv
          · cases hv; omega
          · have := h.la x hx s v hv; omega
      unfold pDef
      split
      · exact { h.more with ok := fun _ => h0, ms := fun m hm hk => (List.mem_append.1 hm).elim (fun hm => h.ms m hm hk) (fun hm => absurd (by rw [List.mem_singleton.1 hm]) hk), sz := fun m hm => (List.mem_append.1 hm).elim (h.sz m) (fun hm => by rw [List.mem_singleton.1 hm]; exact ((_root_.Go.Proofs.YtifobiajjhknbaaGreatDoor.F.okN_iff _).1 hc.2.2).1) }
      · exact { h.more with ok := fun _ => h0, lf := (upd_length _ _).trans h.lf, la := hla _ }
    · cases hs
  · cases hs
theorem GP.instr {p p' : PS} {L n : Nat} {ws : List Bs} (h : GP p L) (hs : pInstr p n ws = some p') : GP p' (L + 1) := by
  unfold pInstr at hs
  split at hs
  · rename_i hc
    have h0 := h.ok hc
    have hn := fun s v hv => Nat.le_succ_of_le (h.nu s v hv)
    split at hs
    · injection hs with hs
      subst hs
      exact h.updF h0 (fun f => ⟨by simp, by simp⟩) hn h.sz (fun m hm => .inl hm)
    · split at hs
      · rename_i op b hpn
        injection hs with hs
        subst hs
        refine h.updF h0 (fun f => ⟨by simp, by simp⟩) hn (fun m hm => (List.mem_append.1 hm).elim (h.sz m) (fun hm => by rw [List.mem_singleton.1 hm]; exact pNamed_len hpn)) (fun m hm => ?_)
        rcases List.mem_append.1 hm with hm | hm
        · exact .inl hm
        · refine .inr fun _ => ?_
          rw [List.mem_singleton.1 hm]
          obtain ⟨_, i, x, e, e2⟩ := h.last h0
          rw [e2, e, upd_append]
          exact ⟨{ x with bd := x.bd ++ [((op : Int), 0, 0)] }, by simp, by simp⟩
      · cases hs
  · cases hs
theorem step_try {p p' : PS} {l : Ln} (h : pStep p l = some p') : ∃ k, k < 5 ∧ tryP k p l = some p' := by
  apply Classical.byContradiction
  intro hn
  have hall : ∀ k, k < 5 → ∀ x, tryP k p l = some x → x ≠ p' := fun k hk x hx e => hn ⟨k, hk, e ▸ hx⟩
  unfold pStep at h
  rcases Option.or_eq_some_iff.1 h with h | ⟨_, h⟩
  · exact hall 0 (by omega) _ h rfl
  rcases Option.or_eq_some_iff.1 h with h | ⟨_, h⟩
  · exact hall 1 (by omega) _ h rfl
  rcases Option.or_eq_some_iff.1 h with h | ⟨_, h⟩
  · exact hall 2 (by omega) _ h rfl
  rcases Option.or_eq_some_iff.1 h with h | ⟨_, h⟩
  · exact hall 3 (by omega) _ h rfl
  · exact hall 4 (by omega) _ h rfl
theorem GP.step {p p' : PS} {L : Nat} {l : Ln} (h : GP p L) (hs : pStep p l = some p') : GP p' (L + 1) := by
  obtain ⟨k, hk, ht⟩ := step_try hs
  match k, hk with
  | 0, _ => exact h.shape ht
  | 1, _ => exact h.func ht
  | 2, _ => exact h.local_ ht
  | 3, _ => exact h.label ht
  | 4, _ => exact h.instr ht
theorem GP.run : ∀ (ls : List Ln) {p q : PS} {L : Nat}, GP p L → pRun p ls = .inl q → GP q (L + ls.length)
  | [], p, q, L, h, hr => by cases hr; exact h
  | l :: r, p, q, L, h, hr => by
    rw [pRun] at hr
    cases hs : pStep p l with
    | none => rw [hs] at hr; cases hr
    | some p' =>
      rw [hs] at hr
      have := GP.run r (h.step hs) hr
      rw [List.length_cons, show L + (r.length + 1) = L + 1 + r.length by omega]
      exact this

end Go.Proofs.YtifobiajjhknbaaGreatDoor.M

namespace Go.Proofs.YtifobiajjhknbaaGreatDoor.C
open Go.RowKit O

theorem goes_gen (op a b tgt : Int) (t : Bool) (w : World) (h1 : goesN op a b = tgt) (h2 : goesI op a b = t) :
    Calls Tryz.prog 26 #[instV op a b] w fun e w' => e = .returned (.tuple #[.int .i64 tgt, .bool t]) ∧ Keep NoB w w' := by subst h1 h2; exact goes_any op a b w
theorem ends_gen (op a b : Int) (t : Bool) (w : World) (h : endsI op a b = t) :
    Calls Tryz.prog 183 #[instV op a b] w fun e w' => e = .returned (.bool t) ∧ Keep NoB w w' := by subst h; exact ends_any op a b w
theorem chk_gen (op a b c : Int) (w : World) (h : chk op a b = c) :
    Calls Tryz.prog 184 #[instV op a b] w fun e w' => e = .returned (.int .i64 c) ∧ Keep NoB w w' := by subst h; exact check_any op a b w
theorem blk3 {w : World} {g : Nat} {t : TypeId} {a0 a1 a2 : Value} (h : Blk w g t #[a0, a1, a2]) : w.cell? ⟨g, 0, none⟩ = some a0 ∧ w.cell? ⟨g, 1, none⟩ = some a1 ∧ w.cell? ⟨g, 2, none⟩ = some a2 := ⟨h.cell 0, h.cell 1, h.cell 2⟩

set_option maxRecDepth 100000 in
set_option maxHeartbeats 4000000 in
theorem cchk_any (A : Option Addr) (l : List I3) (n c : Nat) (w : World) (hr : Rd w A (iis l)) (hn : Hid (l.length = n)) (hm : n ≤ 9223372036854775807) (R : Int) (hR : Hid (chkB l = R)) :
    Calls Tryz.prog 126 #[.slice A n c] w fun e w' => e = .returned (.int .i64 R) ∧ Keep NoB w w' := by
  by_cases h0 : n = 0
  · subst h0
    obtain rfl : 50 = R := by rw [← hR.out, List.length_eq_zero_iff.1 hn.out]; rfl
    go_enter Tryz.func126, Tryz.ntmps126
    go_wp2
    go_ret
    exact ⟨rfl, Keep.refl _ _⟩
  have hz : ((n : Int) == 0) = false := by rw [beq_eq_false_iff_ne]; omega
  by_cases h5 : 512 < n
  · obtain rfl : 50 = R := by rw [← hR.out, chkB_no (okB_long (by rw [hn.out]; omega))]
    have hq : decide ((512 : Int) < (n : Int)) = true := by rw [decide_eq_true_iff]; omega
    clear h5 h0
    go_enter Tryz.func126, Tryz.ntmps126
    go_wp2
    go_ret
    exact ⟨rfl, Keep.refl _ _⟩
  have hq : decide ((512 : Int) < (n : Int)) = false := by rw [decide_eq_false_iff_not]; omega
  obtain ⟨m, rfl⟩ : ∃ m, n = m + 1 := ⟨n - 1, by omega⟩
  have hz2 : ((m : Int) + 1 == 0) = false := by rw [beq_eq_false_iff_ne]; omega
  have hq2 : decide ((512 : Int) < (m : Int) + 1) = false := by rw [decide_eq_false_iff_not]; omega
  have hl0 : 0 < l.length := by rw [hn.out]; omega
  obtain ⟨g, off, rfl, hc⟩ := rdJ_at hr hl0
  have hml : m < l.length := by rw [hn.out]; omega
  obtain ⟨c0, c1, c2⟩ := hc m hml
  have HC := Lib.hid hc
  have hlast : Hid (lastB l = eB l[m]) := by
    show _ = _
    rw [lastB_at hl0]
    congr 2
    rw [hn.out]; omega
  clear hc hr h0 h5 hl0
  generalize l[m] = x at c0 c1 c2 hlast
  obtain ⟨op, a, b⟩ := x
  dsimp only at c0 c1 c2
  cases he : endsI op a b
  · obtain rfl : 50 = R := by rw [← hR.out, chkB_no (okB_last (by rw [hlast.out]; exact he))]
    have HE := Lib.hid (fun w => ends_gen op a b _ w he)
    clear he hlast HC hR
    go_enter Tryz.func126, Tryz.ntmps126
    go_wp2_with (go_at_call 183; refine (HE.out _).mono ?_; rintro e w1 ⟨rfl, k1⟩)
    go_ret
    exact ⟨rfl, k1⟩
  have HL : Hid (lastB l = true) := by show _ = _; rw [hlast.out]; exact he
  have HE := Lib.hid (fun w => ends_gen op a b _ w he)
  clear he hlast
  go_enter Tryz.func126, Tryz.ntmps126
  go_wp2_with (go_at_call 183; refine (HE.out _).mono ?_; rintro e w1 ⟨rfl, k1⟩)
  clear c0 c1 c2 HE hml
  go_loopw [27] (fun i wr => ∃ k : Nat, k ≤ m + 1 ∧ i = .int .i64 k ∧ Hid ((l.take k).all (itemB (m + 1)) = true) ∧ Keep NoB w wr) (fun i _ => m + 1 - (intOf i).toNat)
  case atStart => exact ⟨0, Nat.zero_le _, rfl, rfl, k1⟩
  case round =>
    obtain ⟨k, hk, rfl, hall, hK⟩ := hrel
    by_cases hlt : k < m + 1
    · have hkl : k < l.length := by rw [hn.out]; exact hlt
      obtain ⟨d0, d1, d2⟩ := HC.out k hkl
      have c0 := hK.cell d0 id
      have c1 := hK.cell d1 id
      have c2 := hK.cell d2 id
      have HT := Lib.hid (show l.take (k + 1) = l.take k ++ [l[k]] from List.take_succ_eq_append_getElem hkl)
      have HN : Hid (itemB l.length l[k] = false → 50 = R) := fun h => by rw [← hR.out, chkB_no (okB_item (all_no hkl h))]
      rw [hn.out] at HN
      clear d0 d1 d2
      generalize l[k] = x at c0 c1 c2 HT HN
      obtain ⟨op, a, b⟩ := x
      dsimp only at c0 c1 c2
      obtain ⟨tgt, hto⟩ : ∃ tgt, goesN op a b = tgt := ⟨_, rfl⟩
      have hb : 0 ≤ tgt ∧ tgt ≤ 511 := by rw [← hto]; exact gN_in (op, a, b)
      have HG := Lib.hid (fun w => goes_gen op a b tgt _ w hto rfl)
      have bx := Blk.new wr 37 #[.int .i64 op, .int .i64 a, .int .i64 b]
      have gK := hK.alloc (.cells #[.int .i64 op, .int .i64 a, .int .i64 b] 37)
      cases ho : okI op a b
      · obtain rfl := HN.out (item_no1 ho)
        have HO := Lib.hid (fun w => chk_gen op a b 40 w (by unfold chk; rw [ho]; rfl))
        clear ho hto HN HT HL hall hK hR
        go_wp2_with fail
        refine (HG.out _).mono ?_
        rintro e w2 ⟨rfl, k2⟩
        replace bx := bx.keep k2 id
        replace gK := keepN gK k2
        obtain ⟨x0, x1, x2⟩ := blk3 bx
        go_wp2_with (go_at_call 184; refine (HO.out _).mono ?_; rintro e w3 ⟨rfl, k3⟩)
        go_ret
        exact ⟨rfl, keepN gK k3⟩
      have HO := Lib.hid (fun w => chk_gen op a b 0 w (by unfold chk; rw [ho]; rfl))
      by_cases ht : tgt < ((m + 1 : Nat) : Int)
      · have ht2 : ¬ ((m : Int) + 1 ≤ tgt) := by omega
        have ha2 : Hid ((l.take (k + 1)).all (itemB (m + 1)) = true) := by
          show _ = _
          rw [HT.out, List.all_append, hall.out]
          simp only [List.all_cons, List.all_nil, Bool.and_true, Bool.true_and]
          exact item_yes ho (by show goesN op a b < _; rw [hto]; exact ht)
        clear ho hto HN HT HL hall hK hR ht
        go_wp2_with fail
        refine (HG.out _).mono ?_
        rintro e w2 ⟨rfl, k2⟩
        replace bx := bx.keep k2 id
        replace gK := keepN gK k2
        obtain ⟨x0, x1, x2⟩ := blk3 bx
        go_wp2_with (go_at_call 184; refine (HO.out _).mono ?_; rintro e w3 ⟨rfl, k3⟩)
        go_roundw
        case rel => exact ⟨k + 1, by omega, by go_num, ha2, keepN gK k3⟩
        case measure => simp [intOf]; omega
      · obtain rfl := HN.out (item_no2 (by show ¬ goesN op a b < _; rw [hto]; exact ht))
        have ht2 : ((m : Int) + 1 ≤ tgt) := by omega
        clear ho hto HN HT HL hall hK hR ht
        go_wp2_with fail
        refine (HG.out _).mono ?_
        rintro e w2 ⟨rfl, k2⟩
        replace bx := bx.keep k2 id
        replace gK := keepN gK k2
        obtain ⟨x0, x1, x2⟩ := blk3 bx
        go_wp2_with (go_at_call 184; refine (HO.out _).mono ?_; rintro e w3 ⟨rfl, k3⟩)
        go_ret
        exact ⟨rfl, keepN gK k3⟩
    · obtain rfl : 0 = R := by
        rw [← hR.out, chkB_ok (okB_mk (by rw [hn.out]; have := decide_eq_false_iff_not.1 hq; omega) HL.out ?_)]
        have := hall.out
        rw [List.take_of_length_le (by rw [hn.out]; omega)] at this
        rw [hn.out]; exact this
      clear HC hR
      go_wp2
      go_ret
      exact ⟨rfl, hK⟩

end Go.Proofs.YtifobiajjhknbaaGreatDoor.C

namespace Go.Proofs.YtifobiajjhknbaaGreatDoor.C
open Go.RowKit O

end Go.Proofs.YtifobiajjhknbaaGreatDoor.C

namespace Go.Proofs.YtifobiajjhknbaaGreatDoor.C
open Go.RowKit O

/-- The numbers of a list fit. -/
def AllI (l : List I3) : Prop := ∀ x ∈ l, O.I64 x.2.1 ∧ O.I64 x.2.2

end Go.Proofs.YtifobiajjhknbaaGreatDoor.C

namespace Go.Proofs.YtifobiajjhknbaaGreatDoor.F
open Go.RowKit W

/-- A function's value: its name, and where its lists lie. -/
structure FV where
  S : ByteArray
  A : Option Addr
  na : Nat
  ca : Nat
  B : Option Addr
  nb : Nat
  cb : Nat
  L : Option Addr
  nl : Nat
  cl : Nat
  D : Option Addr
  nd : Nat
  cd : Nat
def FV.cells (v : FV) : Array Value := #[.string v.S, .slice v.A v.na v.ca, .slice v.B v.nb v.cb, .slice v.L v.nl v.cl, .slice v.D v.nd v.cd]
def FV.val (v : FV) : Value := .agg v.cells
/-- What its lists hold, wherever the value itself lies; numbers fit an int64. -/
structure FnAt (w : World) (v : FV) (f : Fu) : Prop where
  nm : v.S.data.toList = f.nm
  ra : Rd w v.A (ivs f.ar)
  rb : Rd w v.B (ivs f.rs)
  rl : Rd w v.L (ivs f.lc)
  rd : Rd w v.D (C.iis f.bd)
  la : f.ar.length = v.na
  lb : f.rs.length = v.nb
  ll : f.lc.length = v.nl
  ld : f.bd.length = v.nd
  hI : C.AllI f.bd
/-- It is no greater than statements go through. -/
structure SmF (v : FV) : Prop where
  sz : v.S.size ≤ 100
  na : v.na ≤ 100
  nb : v.nb ≤ 100
  nl : v.nl ≤ 100
  nd : v.nd ≤ 600
theorem FnAt.keep {O : Nat → Prop} {w w' : World} {v : FV} {f : Fu} (h : FnAt w v f) (hk : Keep O w w') (hO : ∀ k, k < w.heap.size → ¬ O k) : FnAt w' v f :=
  have h2 : Keep NoB w w' := hk.mono (fun k ho hl => absurd ho (hO k hl))
  ⟨h.nm, h.ra.keepN h2, h.rb.keepN h2, h.rl.keepN h2, h.rd.keepN h2, h.la, h.lb, h.ll, h.ld, h.hI⟩
theorem FnAt.keepN {w w' : World} {v : FV} {f : Fu} (h : FnAt w v f) (hk : Keep NoB w w') : FnAt w' v f := h.keep hk (fun _ _ => id)
theorem sz_len {S : ByteArray} {s : List UInt8} (h : S.data.toList = s) : S.size = s.length := by rw [← h]; rfl
theorem blk5 {w : World} {g : Nat} {t : TypeId} {v : FV} (h : Blk w g t v.cells) : w.cell? ⟨g, 0, none⟩ = some (.string v.S) ∧ w.cell? ⟨g, 1, none⟩ = some (.slice v.A v.na v.ca) ∧ w.cell? ⟨g, 2, none⟩ = some (.slice v.B v.nb v.cb) ∧
    w.cell? ⟨g, 3, none⟩ = some (.slice v.L v.nl v.cl) ∧ w.cell? ⟨g, 4, none⟩ = some (.slice v.D v.nd v.cd) := ⟨h.cell 0, h.cell 1, h.cell 2, h.cell 3, h.cell 4⟩

end Go.Proofs.YtifobiajjhknbaaGreatDoor.F

namespace Go.Proofs.YtifobiajjhknbaaGreatDoor
open Go.RowKit

section
variable {P : Program} {ops : Array Oper} {md : Region.Mode}

end
end Go.Proofs.YtifobiajjhknbaaGreatDoor

namespace Go.Proofs.YtifobiajjhknbaaGreatDoor.S
open Go.RowKit W

theorem all_no {l : List Int} {p : Int → Bool} {k : Nat} (hk : k < l.length) (h : p l[k] = false) : l.all p = false :=
  List.all_eq_false.2 ⟨_, List.getElem_mem hk, by rw [h]; decide⟩
theorem all_step {l : List Int} {p : Int → Bool} {k : Nat} (hk : k < l.length) (h : (l.take k).all p = true) (h2 : p l[k] = true) : (l.take (k + 1)).all p = true := by
  rw [List.take_succ_eq_append_getElem hk, List.all_append, h]
  simp [h2]
theorem knownF_any (t : Int) (w : World) : Calls Tryz.prog 58 #[.int .i64 t] w fun e w' => e = .returned (.bool (knownB t)) ∧ Keep NoB w w' :=
  (known_any t w).mono fun _ _ ⟨he, hw⟩ => ⟨he, by rw [← hw]; exact Keep.refl _ _⟩
set_option maxHeartbeats 1000000 in
theorem heldF_any (t : Int) (w : World) : Calls Tryz.prog 95 #[.int .i64 t] w fun e w' => e = .returned (.bool (heldB t)) ∧ Keep NoB w w' := by
  have HK := Lib.hid (fun w => known_any t w)
  cases hk : knownB t
  · rw [hk] at HK
    have hR : heldB t = false := by rw [known_not] at hk; rw [held_not]; omega
    rw [hR]
    clear hk hR
    go_enter Tryz.func95, Tryz.ntmps95
    go_wp2_with (go_at_call 58; refine (HK.out _).mono ?_; rintro e w1 ⟨rfl, rfl⟩)
    go_ret
    exact ⟨rfl, Keep.refl _ _⟩
  · rw [hk] at HK
    by_cases h4 : t = 4
    · subst h4
      have hR : heldB 4 = false := by decide
      rw [hR]
      clear hk hR
      go_enter Tryz.func95, Tryz.ntmps95
      go_wp2_with (go_at_call 58; refine (HK.out _).mono ?_; rintro e w1 ⟨rfl, rfl⟩)
      go_ret
      exact ⟨rfl, Keep.refl _ _⟩
    · have hR : heldB t = true := by rw [known_iff] at hk; rw [held_iff]; omega
      have hq : (t != 4) = true := by rw [bne_iff_ne]; exact h4
      rw [hR]
      clear hk hR h4
      go_enter Tryz.func95, Tryz.ntmps95
      go_wp2_with (go_at_call 58; refine (HK.out _).mono ?_; rintro e w1 ⟨rfl, rfl⟩)
      go_ret
      exact ⟨rfl, Keep.refl _ _⟩

set_option maxRecDepth 100000 in
set_option maxHeartbeats 2000000 in
theorem allS_any (A : Option Addr) (l : List Int) (n c : Nat) (w : World) (hr : Rd w A (ivs l)) (hn : Hid (l.length = n)) (hm : n ≤ 9223372036854775807) (R : Bool) (hR : Hid (R = l.all heldB)) :
    Calls Tryz.prog 94 #[.slice A n c, .func (.func 95) #[] #[]] w fun e w' => e = .returned (.bool R) ∧ Keep NoB w w' := by
  go_enter Tryz.func94, Tryz.ntmps94
  go_wp2
  go_loopw [9] (fun i wr => ∃ k : Nat, k ≤ n ∧ i = .int .i64 k ∧ Hid ((l.take k).all heldB = true) ∧ Keep NoB w wr) (fun i _ => n - (intOf i).toNat)
  case atStart => exact ⟨0, Nat.zero_le _, rfl, rfl, Keep.refl _ _⟩
  case round =>
    obtain ⟨k, hk, rfl, ht, hK⟩ := hrel
    by_cases hlt : k < n
    · have hka : k < l.length := by rw [hn.out]; exact hlt
      obtain ⟨ga, oa, rfl, hca⟩ := rdI_at hr (by omega)
      have ca := hK.cell (hca k hka) id
      have HT := Lib.hid (fun h => all_step (p := heldB) hka ht.out h)
      have HN := Lib.hid (fun h => all_no (p := heldB) hka h)
      clear hca hr ht
      generalize l[k] = x at ca HT HN
      have HC := Lib.hid (fun w => heldF_any x w)
      cases hx : heldB x
      · rw [hx] at HC
        obtain rfl : R = false := by rw [hR.out]; exact HN.out hx
        clear hx HT HN hR
        go_wp2_with (go_at_call 95; refine (HC.out _).mono ?_; rintro e w3 ⟨rfl, k3⟩)
        go_ret
        exact ⟨rfl, keepN hK k3⟩
      · rw [hx] at HC
        have HV := Lib.hid (HT.out hx)
        clear hx HT HN hR
        go_wp2_with (go_at_call 95; refine (HC.out _).mono ?_; rintro e w3 ⟨rfl, k3⟩)
        go_roundw
        case rel => exact ⟨k + 1, by omega, by go_num, HV, keepN hK k3⟩
        case measure => simp [intOf]; omega
    · obtain rfl : R = true := by
        rw [hR.out]
        have e1 := ht.out
        rwa [List.take_of_length_le (by rw [hn.out]; omega)] at e1
      clear hR
      go_wp2
      go_ret
      exact ⟨rfl, hK⟩

set_option maxRecDepth 100000 in
set_option maxHeartbeats 2000000 in
theorem allK_any (A : Option Addr) (l : List Int) (n c : Nat) (w : World) (hr : Rd w A (ivs l)) (hn : Hid (l.length = n)) (hm : n ≤ 9223372036854775807) (R : Bool) (hR : Hid (R = l.all knownB)) :
    Calls Tryz.prog 96 #[.slice A n c, .func (.func 58) #[] #[]] w fun e w' => e = .returned (.bool R) ∧ Keep NoB w w' := by
  go_enter Tryz.func96, Tryz.ntmps96
  go_wp2
  go_loopw [9] (fun i wr => ∃ k : Nat, k ≤ n ∧ i = .int .i64 k ∧ Hid ((l.take k).all knownB = true) ∧ Keep NoB w wr) (fun i _ => n - (intOf i).toNat)
  case atStart => exact ⟨0, Nat.zero_le _, rfl, rfl, Keep.refl _ _⟩
  case round =>
    obtain ⟨k, hk, rfl, ht, hK⟩ := hrel
    by_cases hlt : k < n
    · have hka : k < l.length := by rw [hn.out]; exact hlt
      obtain ⟨ga, oa, rfl, hca⟩ := rdI_at hr (by omega)
      have ca := hK.cell (hca k hka) id
      have HT := Lib.hid (fun h => all_step (p := knownB) hka ht.out h)
      have HN := Lib.hid (fun h => all_no (p := knownB) hka h)
      clear hca hr ht
      generalize l[k] = x at ca HT HN
      have HC := Lib.hid (fun w => knownF_any x w)
      cases hx : knownB x
      · rw [hx] at HC
        obtain rfl : R = false := by rw [hR.out]; exact HN.out hx
        clear hx HT HN hR
        go_wp2_with (go_at_call 58; refine (HC.out _).mono ?_; rintro e w3 ⟨rfl, k3⟩)
        go_ret
        exact ⟨rfl, keepN hK k3⟩
      · rw [hx] at HC
        have HV := Lib.hid (HT.out hx)
        clear hx HT HN hR
        go_wp2_with (go_at_call 58; refine (HC.out _).mono ?_; rintro e w3 ⟨rfl, k3⟩)
        go_roundw
        case rel => exact ⟨k + 1, by omega, by go_num, HV, keepN hK k3⟩
        case measure => simp [intOf]; omega
    · obtain rfl : R = true := by
        rw [hR.out]
        have e1 := ht.out
        rwa [List.take_of_length_le (by rw [hn.out]; omega)] at e1
      clear hR
      go_wp2
      go_ret
      exact ⟨rfl, hK⟩

set_option maxRecDepth 100000 in
set_option maxHeartbeats 2000000 in
theorem allH_any (A : Option Addr) (l : List Int) (n c : Nat) (w : World) (hr : Rd w A (ivs l)) (hn : Hid (l.length = n)) (hm : n ≤ 9223372036854775807) (R : Bool) (hR : Hid (R = l.all heldB)) :
    Calls Tryz.prog 96 #[.slice A n c, .func (.func 95) #[] #[]] w fun e w' => e = .returned (.bool R) ∧ Keep NoB w w' := by
  go_enter Tryz.func96, Tryz.ntmps96
  go_wp2
  go_loopw [9] (fun i wr => ∃ k : Nat, k ≤ n ∧ i = .int .i64 k ∧ Hid ((l.take k).all heldB = true) ∧ Keep NoB w wr) (fun i _ => n - (intOf i).toNat)
  case atStart => exact ⟨0, Nat.zero_le _, rfl, rfl, Keep.refl _ _⟩
  case round =>
    obtain ⟨k, hk, rfl, ht, hK⟩ := hrel
    by_cases hlt : k < n
    · have hka : k < l.length := by rw [hn.out]; exact hlt
      obtain ⟨ga, oa, rfl, hca⟩ := rdI_at hr (by omega)
      have ca := hK.cell (hca k hka) id
      have HT := Lib.hid (fun h => all_step (p := heldB) hka ht.out h)
      have HN := Lib.hid (fun h => all_no (p := heldB) hka h)
      clear hca hr ht
      generalize l[k] = x at ca HT HN
      have HC := Lib.hid (fun w => heldF_any x w)
      cases hx : heldB x
      · rw [hx] at HC
        obtain rfl : R = false := by rw [hR.out]; exact HN.out hx
        clear hx HT HN hR
        go_wp2_with (go_at_call 95; refine (HC.out _).mono ?_; rintro e w3 ⟨rfl, k3⟩)
        go_ret
        exact ⟨rfl, keepN hK k3⟩
      · rw [hx] at HC
        have HV := Lib.hid (HT.out hx)
        clear hx HT HN hR
        go_wp2_with (go_at_call 95; refine (HC.out _).mono ?_; rintro e w3 ⟨rfl, k3⟩)
        go_roundw
        case rel => exact ⟨k + 1, by omega, by go_num, HV, keepN hK k3⟩
        case measure => simp [intOf]; omega
    · obtain rfl : R = true := by
        rw [hR.out]
        have e1 := ht.out
        rwa [List.take_of_length_le (by rw [hn.out]; omega)] at e1
      clear hR
      go_wp2
      go_ret
      exact ⟨rfl, hK⟩

end Go.Proofs.YtifobiajjhknbaaGreatDoor.S

namespace Go.Proofs.YtifobiajjhknbaaGreatDoor.S
open Go.RowKit W

theorem blk2 {w : World} {g : Nat} {t : TypeId} {a0 a1 : Value} (h : Blk w g t #[a0, a1]) : w.cell? ⟨g, 0, none⟩ = some a0 ∧ w.cell? ⟨g, 1, none⟩ = some a1 := ⟨h.cell 0, h.cell 1⟩
theorem okS_len {l : List Int} (h : ¬ (1 ≤ l.length ∧ l.length ≤ 16)) : okS l = false := by unfold okS; rw [decide_eq_false h]; rfl
theorem okS_all {l : List Int} (h : l.all heldB = false) : okS l = false := by unfold okS; rw [h, Bool.and_false]
theorem okS_mk {l : List Int} (h : 1 ≤ l.length ∧ l.length ≤ 16) (h2 : l.all heldB = true) : okS l = true := (okS_iff l).2 ⟨h, h2⟩
theorem okG_len {a r : List Int} (h : ¬ (a.length + r.length ≤ 64)) : okG a r = false := by unfold okG; rw [decide_eq_false h]; rfl
theorem okG_args {a r : List Int} (h : a.all knownB = false) : okG a r = false := by unfold okG; rw [h, Bool.false_and, Bool.and_false]
theorem okG_res {a r : List Int} (h : r.all heldB = false) : okG a r = false := by unfold okG; rw [h, Bool.and_false, Bool.and_false]
theorem okG_mk {a r : List Int} (h : a.length + r.length ≤ 64) (h2 : a.all knownB = true) (h3 : r.all heldB = true) : okG a r = true := (okG_iff a r).2 ⟨h, h2, h3⟩
set_option maxRecDepth 100000 in
set_option maxHeartbeats 2000000 in
theorem chkS_any (A : Option Addr) (l : List Int) (n c : Nat) (w : World) (hr : Rd w A (ivs l)) (hn : Hid (l.length = n)) (hm : n ≤ 9223372036854775807) (R : Int) (hR : Hid (chkS l = R)) :
    Calls Tryz.prog 56 #[.slice A n c] w fun e w' => e = .returned (.int .i64 R) ∧ Keep NoB w w' := by
  by_cases h0 : n = 0
  · subst h0
    obtain rfl : 60 = R := by rw [← hR.out]; exact (chkS_no (okS_len (by rw [hn.out]; omega))).symm
    go_enter Tryz.func56, Tryz.ntmps56
    go_wp2
    go_ret
    exact ⟨rfl, Keep.refl _ _⟩
  have hq1 : ((n : Int) == 0) = false := by rw [beq_eq_false_iff_ne]; omega
  by_cases h1 : 16 < n
  · obtain rfl : 60 = R := by rw [← hR.out]; exact (chkS_no (okS_len (by rw [hn.out]; omega))).symm
    clear hR h0
    go_enter Tryz.func56, Tryz.ntmps56
    go_wp2
    go_ret
    exact ⟨rfl, Keep.refl _ _⟩
  have HC0 := Lib.hid (fun w hr (R : Bool) hR => allS_any A l n c w hr hn hm R hR)
  cases hh : l.all heldB
  · obtain rfl : 60 = R := by rw [← hR.out]; exact (chkS_no (okS_all hh)).symm
    have HC := Lib.hid (fun w hr => HC0.out w hr _ hh.symm)
    clear hh hR HC0 h0
    go_enter Tryz.func56, Tryz.ntmps56
    go_wp2_with (go_at_call 94; refine (HC.out _ hr).mono ?_; rintro e w1 ⟨rfl, k1⟩)
    go_ret
    exact ⟨rfl, k1⟩
  · obtain rfl : 0 = R := by rw [← hR.out]; exact (chkS_ok (okS_mk (by rw [hn.out]; omega) hh)).symm
    have HC := Lib.hid (fun w hr => HC0.out w hr _ hh.symm)
    clear hh hR HC0 h0
    go_enter Tryz.func56, Tryz.ntmps56
    go_wp2_with (go_at_call 94; refine (HC.out _ hr).mono ?_; rintro e w1 ⟨rfl, k1⟩)
    go_ret
    exact ⟨rfl, k1⟩

set_option maxRecDepth 100000 in
set_option maxHeartbeats 4000000 in
theorem chkG_any (A : Option Addr) (a : List Int) (n c : Nat) (B : Option Addr) (r : List Int) (m d : Nat) (w : World) (ha : Rd w A (ivs a)) (hr : Rd w B (ivs r)) (hn : Hid (a.length = n)) (hm : Hid (r.length = m)) (hn6 : n ≤ 4611686018427387903) (hm6 : m ≤ 4611686018427387903) (R : Int) (hR : Hid (chkG a r = R)) :
    Calls Tryz.prog 57 #[.agg #[.slice A n c, .slice B m d]] w fun e w' => e = .returned (.int .i64 R) ∧ Keep NoB w w' := by
  have bx := Blk.new w 32 #[.slice A n c, .slice B m d]
  have k0 := (Keep.refl NoB w).alloc (.cells #[.slice A n c, .slice B m d] 32)
  by_cases h1 : 64 < n + m
  · obtain rfl : 61 = R := by rw [← hR.out]; exact (chkG_no (okG_len (by rw [hn.out, hm.out]; omega))).symm
    have hq : (64 : Int) < (n : Int) + (m : Int) := by omega
    clear hR
    go_enter Tryz.func57, Tryz.ntmps57
    go_wp2
    go_ret
    exact ⟨rfl, k0⟩
  have hq : ¬ (64 : Int) < (n : Int) + (m : Int) := by omega
  have HA := Lib.hid (fun w hr (R : Bool) hR => allK_any A a n c w hr hn (by omega) R hR)
  have HB := Lib.hid (fun w hr (R : Bool) hR => allH_any B r m d w hr hm (by omega) R hR)
  cases h2 : a.all knownB
  · obtain rfl : 61 = R := by rw [← hR.out]; exact (chkG_no (okG_args h2)).symm
    have HA2 := Lib.hid (fun w hr => HA.out w hr _ h2.symm)
    clear h2 hR HA HB
    go_enter Tryz.func57, Tryz.ntmps57
    go_wp2_with (go_at_call 96; refine (HA2.out _ (ha.keepN k0)).mono ?_; rintro e w1 ⟨rfl, k1⟩)
    go_ret
    exact ⟨rfl, keepN k0 k1⟩
  have HA2 := Lib.hid (fun w hr => HA.out w hr _ h2.symm)
  cases h3 : r.all heldB
  · obtain rfl : 61 = R := by rw [← hR.out]; exact (chkG_no (okG_res h3)).symm
    have HB2 := Lib.hid (fun w hr => HB.out w hr _ h3.symm)
    clear h2 h3 hR HA HB
    go_enter Tryz.func57, Tryz.ntmps57
    go_wp2_with fail
    refine (HA2.out _ (ha.keepN k0)).mono ?_
    rintro e w1 ⟨rfl, k1⟩
    obtain ⟨c0, c1⟩ := blk2 (bx.keep k1 id)
    have hr1 := (hr.keepN k0).keepN k1
    go_wp2_with fail
    refine (HB2.out _ hr1).mono ?_
    rintro e w2 ⟨rfl, k2⟩
    go_wp2
    go_ret
    exact ⟨rfl, keepN (keepN k0 k1) k2⟩
  · obtain rfl : 0 = R := by rw [← hR.out]; exact (chkG_ok (okG_mk (by rw [hn.out, hm.out]; omega) h2 h3)).symm
    have HB2 := Lib.hid (fun w hr => HB.out w hr _ h3.symm)
    clear h2 h3 hR HA HB
    go_enter Tryz.func57, Tryz.ntmps57
    go_wp2_with fail
    refine (HA2.out _ (ha.keepN k0)).mono ?_
    rintro e w1 ⟨rfl, k1⟩
    obtain ⟨c0, c1⟩ := blk2 (bx.keep k1 id)
    have hr1 := (hr.keepN k0).keepN k1
    go_wp2_with fail
    refine (HB2.out _ hr1).mono ?_
    rintro e w2 ⟨rfl, k2⟩
    go_wp2
    go_ret
    exact ⟨rfl, keepN (keepN k0 k1) k2⟩

set_option maxRecDepth 100000 in
set_option maxHeartbeats 2000000 in
theorem equal_any (A B : Option Addr) (la lb : List Int) (n m c d : Nat) (w : World) (ha : Rd w A (ivs la)) (hb : Rd w B (ivs lb)) (hn : Hid (la.length = n)) (hm : Hid (lb.length = m))
    (h1 : n ≤ 9223372036854775807) (h2 : m ≤ 9223372036854775807) (R : Bool) (hR : Hid (R = decide (la = lb))) :
    Calls Tryz.prog 91 #[.slice A n c, .slice B m d] w fun e w' => e = .returned (.bool R) ∧ Keep NoB w w' := by
  by_cases hnm : n = m
  · subst hnm
    go_enter Tryz.func91, Tryz.ntmps91
    go_wp2
    go_loopw [13] (fun i wr => ∃ k : Nat, k ≤ n ∧ i = .int .i64 k ∧ Hid (la.take k = lb.take k) ∧ Keep NoB w wr) (fun i _ => n - (intOf i).toNat)
    case atStart => exact ⟨0, Nat.zero_le _, rfl, rfl, Keep.refl _ _⟩
    case round =>
      obtain ⟨k, hk, rfl, ht, hK⟩ := hrel
      by_cases hlt : k < n
      · have hka : k < la.length := by rw [hn.out]; exact hlt
        have hkb : k < lb.length := by rw [hm.out]; exact hlt
        obtain ⟨ga, oa, rfl, hca⟩ := rdI_at ha (by omega)
        obtain ⟨gb, ob, rfl, hcb⟩ := rdI_at hb (by omega)
        have ca := hK.cell (hca k hka) id
        have cb := hK.cell (hcb k hkb) id
        have HT := Lib.hid (show la.take (k + 1) = la.take k ++ [la[k]] from List.take_succ_eq_append_getElem hka)
        have HU := Lib.hid (show lb.take (k + 1) = lb.take k ++ [lb[k]] from List.take_succ_eq_append_getElem hkb)
        clear hca hcb
        by_cases he : la[k] = lb[k]
        · have HV : Hid (la.take (k + 1) = lb.take (k + 1)) := by show _ = _; rw [HT.out, HU.out, ht.out, he]
          rw [he] at ca
          clear he HT HU ha hb
          generalize lb[k] = y at ca cb
          go_wp2
          go_quiet (fail)
          go_wp2
          go_roundw
          case rel => exact ⟨k + 1, by omega, by go_num, HV, hK.drewN _⟩
          case measure => simp [intOf]; omega
        · have hf : R = false := by
            rw [hR.out, decide_eq_false_iff_not]
            intro e
            exact he (by simp [e])
          subst hf
          clear HT HU ha hb
          generalize la[k] = x at ca he
          generalize lb[k] = y at cb he
          have hne : (x != y) = true := by rw [bne_iff_ne]; exact he
          clear he
          go_wp2
          go_quiet (fail)
          go_wp2
          go_ret
          exact ⟨rfl, hK.drewN _⟩
      · have hf : R = true := by
          rw [hR.out, decide_eq_true_iff]
          have e1 := ht.out
          rwa [List.take_of_length_le (by rw [hn.out]; omega), List.take_of_length_le (by rw [hm.out]; omega)] at e1
        subst hf
        go_wp2
        go_ret
        exact ⟨rfl, hK⟩
  · have hf : R = false := by
      rw [hR.out, decide_eq_false_iff_not]
      intro e
      exact hnm (by rw [← hn.out, ← hm.out, e])
    subst hf
    have hne : ((n : Int) != (m : Int)) = true := by rw [bne_iff_ne]; omega
    clear hnm
    go_enter Tryz.func91, Tryz.ntmps91
    go_wp2
    go_ret
    exact ⟨rfl, Keep.refl _ _⟩

set_option maxRecDepth 100000 in
set_option maxHeartbeats 4000000 in
theorem same_any (A1 : Option Addr) (a1 : List Int) (n1 c1 : Nat) (B1 : Option Addr) (r1 : List Int) (m1 d1 : Nat) (A2 : Option Addr) (a2 : List Int) (n2 c2 : Nat) (B2 : Option Addr) (r2 : List Int) (m2 d2 : Nat) (w : World)
    (ha1 : Rd w A1 (ivs a1)) (hr1 : Rd w B1 (ivs r1)) (ha2 : Rd w A2 (ivs a2)) (hr2 : Rd w B2 (ivs r2)) (hn1 : Hid (a1.length = n1)) (hm1 : Hid (r1.length = m1)) (hn2 : Hid (a2.length = n2)) (hm2 : Hid (r2.length = m2))
    (qn1 : n1 ≤ 9223372036854775807) (qm1 : m1 ≤ 9223372036854775807) (qn2 : n2 ≤ 9223372036854775807) (qm2 : m2 ≤ 9223372036854775807) (R : Bool) (hR : Hid (R = decide (a1 = a2 ∧ r1 = r2))) :
    Calls Tryz.prog 90 #[.agg #[.slice A1 n1 c1, .slice B1 m1 d1], .agg #[.slice A2 n2 c2, .slice B2 m2 d2]] w fun e w' => e = .returned (.bool R) ∧ Keep NoB w w' := by
  have bx := (Blk.new w 32 #[.slice A1 n1 c1, .slice B1 m1 d1]).alloc (.cells #[.slice A2 n2 c2, .slice B2 m2 d2] 32)
  have by2 := Blk.new (w.alloc (.cells #[.slice A1 n1 c1, .slice B1 m1 d1] 32)) 32 #[.slice A2 n2 c2, .slice B2 m2 d2]
  have k0 := ((Keep.refl NoB w).alloc (.cells #[.slice A1 n1 c1, .slice B1 m1 d1] 32)).alloc (.cells #[.slice A2 n2 c2, .slice B2 m2 d2] 32)
  rw [World.size_alloc] at by2
  have HA := Lib.hid (fun w h h' (R : Bool) hR => equal_any A1 A2 a1 a2 n1 n2 c1 c2 w h h' hn1 hn2 qn1 qn2 R hR)
  have HB := Lib.hid (fun w h h' (R : Bool) hR => equal_any B1 B2 r1 r2 m1 m2 d1 d2 w h h' hm1 hm2 qm1 qm2 R hR)
  by_cases q1 : a1 = a2
  by_cases q2 : r1 = r2
  · skip
    have HA2 := Lib.hid (fun w h h' => HA.out w h h' true (show _ = _ from (decide_eq_true q1).symm))
    have HB2 := Lib.hid (fun w h h' => HB.out w h h' true (show _ = _ from (decide_eq_true q2).symm))
    obtain rfl : R = true := by rw [hR.out, decide_eq_true_iff]; exact ⟨q1, q2⟩
    clear HA HB hR
    go_enter Tryz.func90, Tryz.ntmps90
    go_wp2_with fail
    refine (HA2.out _ (ha1.keepN k0) (ha2.keepN k0)).mono ?_
    rintro e w1 ⟨rfl, k1⟩
    obtain ⟨x0, x1⟩ := blk2 (bx.keep k1 id)
    obtain ⟨y0, y1⟩ := blk2 (by2.keep k1 id)
    go_wp2_with fail
    refine (HB2.out _ ((hr1.keepN k0).keepN k1) ((hr2.keepN k0).keepN k1)).mono ?_
    rintro e w2 ⟨rfl, k2⟩
    go_wp2
    go_ret
    exact ⟨rfl, keepN (keepN k0 k1) k2⟩
  · skip
    have HA2 := Lib.hid (fun w h h' => HA.out w h h' true (show _ = _ from (decide_eq_true q1).symm))
    have HB2 := Lib.hid (fun w h h' => HB.out w h h' false (show _ = _ from (decide_eq_false q2).symm))
    obtain rfl : R = false := by rw [hR.out, decide_eq_false_iff_not]; exact fun h => q2 h.2
    clear HA HB hR
    go_enter Tryz.func90, Tryz.ntmps90
    go_wp2_with fail
    refine (HA2.out _ (ha1.keepN k0) (ha2.keepN k0)).mono ?_
    rintro e w1 ⟨rfl, k1⟩
    obtain ⟨x0, x1⟩ := blk2 (bx.keep k1 id)
    obtain ⟨y0, y1⟩ := blk2 (by2.keep k1 id)
    go_wp2_with fail
    refine (HB2.out _ ((hr1.keepN k0).keepN k1) ((hr2.keepN k0).keepN k1)).mono ?_
    rintro e w2 ⟨rfl, k2⟩
    go_wp2
    go_ret
    exact ⟨rfl, keepN (keepN k0 k1) k2⟩
  · skip
    have HA2 := Lib.hid (fun w h h' => HA.out w h h' false (show _ = _ from (decide_eq_false q1).symm))
    obtain rfl : R = false := by rw [hR.out, decide_eq_false_iff_not]; exact fun h => q1 h.1
    clear HA HB hR
    go_enter Tryz.func90, Tryz.ntmps90
    go_wp2_with fail
    refine (HA2.out _ (ha1.keepN k0) (ha2.keepN k0)).mono ?_
    rintro e w1 ⟨rfl, k1⟩
    go_wp2
    go_ret
    exact ⟨rfl, keepN k0 k1⟩

end Go.Proofs.YtifobiajjhknbaaGreatDoor.S

namespace Go.Proofs.YtifobiajjhknbaaGreatDoor.S
open Go.RowKit W

end Go.Proofs.YtifobiajjhknbaaGreatDoor.S

namespace Go.Proofs.YtifobiajjhknbaaGreatDoor.S
open Go.RowKit W

end Go.Proofs.YtifobiajjhknbaaGreatDoor.S

namespace Go.Proofs.YtifobiajjhknbaaGreatDoor.S
open Go.RowKit W

end Go.Proofs.YtifobiajjhknbaaGreatDoor.S

namespace Go.Proofs.YtifobiajjhknbaaGreatDoor.S
open Go.RowKit Go.Shelf W
attribute [local go_sem] Oper.semAt_some

/-- What a round keeps: the bytes. -/
def RdK (A : Option Addr) (b : List UInt8) (W W' : World) : Prop := V.Rd W A b → V.Rd W' A b
theorem RdK.trans {A : Option Addr} {b : List UInt8} {X Y Z : World} (h : RdK A b X Y) (h' : RdK A b Y Z) : RdK A b X Z := fun hr => h' (h hr)
theorem RdK.putObj {A : Option Addr} {b : List UInt8} (W : World) (l : Nat) (o o' : Obj) (hl : W.heap[l]? = some o) (ho : o.isCells = false) : RdK A b W (W.putObj l o') := fun hr h0 => by
  obtain ⟨ad, e, hc⟩ := hr h0
  refine ⟨ad, e, fun j u hu => ?_⟩
  have h1 := hc j u hu
  have hne : (ad.add j).block ≠ l := by
    intro e2
    unfold World.cell? at h1
    rw [e2, hl] at h1
    cases o with
    | cells cs t f => cases ho
    | _ => simp at h1
  exact (World.cell?_of_block (World.putObj_heap_other hne)).trans h1
end Go.Proofs.YtifobiajjhknbaaGreatDoor.S

namespace Go.Proofs.YtifobiajjhknbaaGreatDoor.S
open Go.RowKit Go.Shelf W
attribute [local go_sem] Oper.semAt_some

end Go.Proofs.YtifobiajjhknbaaGreatDoor.S

namespace Go.Proofs.YtifobiajjhknbaaGreatDoor.S
open Go.RowKit W

set_option maxRecDepth 100000 in
set_option maxHeartbeats 1000000 in
theorem ifS_no (A : Option Addr) (l : List Int) (na c : Nat) (w : World) (hr : Rd w A (ivs l)) (hn : Hid (l.length = na)) (hm : na ≤ 9223372036854775807) (ho : okS l = false) :
    Calls Tryz.prog 116 #[.slice A na c] w fun e w' => e = .returned (.tuple #[.slice none 0 0, .int .i64 60]) ∧ Keep NoB w w' := by
  have HC := Lib.hid (fun w hr => chkS_any A l na c w hr hn hm 60 (chkS_no ho))
  go_enter Tryz.func116, Tryz.ntmps116
  go_wp2_with (go_at_call 56; refine (HC.out _ hr).mono ?_; rintro e w1 ⟨rfl, k1⟩)
  go_ret2
  exact ⟨rfl, k1⟩
set_option maxRecDepth 100000 in
set_option maxHeartbeats 1000000 in
theorem ifS_yes (A : Option Addr) (l : List Int) (na c : Nat) (w : World) (hr : Rd w A (ivs l)) (hn : Hid (l.length = na)) (hm : na ≤ 9223372036854775807) (ho : okS l = true) :
    Calls Tryz.prog 116 #[.slice A na c] w fun e w' => e = .returned (.tuple #[.slice A na c, .int .i64 0]) ∧ Keep NoB w w' := by
  have HC := Lib.hid (fun w hr => chkS_any A l na c w hr hn hm 0 (chkS_ok ho))
  go_enter Tryz.func116, Tryz.ntmps116
  go_wp2_with (go_at_call 56; refine (HC.out _ hr).mono ?_; rintro e w1 ⟨rfl, k1⟩)
  go_ret2
  exact ⟨rfl, k1⟩

end Go.Proofs.YtifobiajjhknbaaGreatDoor.S

namespace Go.Proofs.YtifobiajjhknbaaGreatDoor.S
open Go.RowKit W

theorem blk_put2 {W : World} {g : Nat} {x y : Value} (h : Blk W g 32 #[x, y]) (u v : Value) : Blk ((W.setCell ⟨g, 0, none⟩ u).setCell ⟨g, 1, none⟩ v) g 32 #[u, v] := by
  have := (h.put 0 u).put 1 v
  simpa using this
theorem sig_size : (Tryz.prog.info? 32).map (·.size) = some 2 := by kernel_rfl
theorem ret_sig {fn : Func} {tmps : Array Value} {w : World} {g : Nat} {u v e : Value} (h : fn.results = #[.cell 2 32, .tmp 3]) (hp : tmps.getD 2 undef = .pointer (some ⟨g, 0, none⟩)) (hb : Blk w g 32 #[u, v]) (he : tmps.getD 3 undef = e) :
    (results fn tmps).run Tryz.prog w = .ok (.tuple #[.agg #[u, v], e]) w := by
  rw [results_cell_tmp h, hp, he]
  simp only [asAddr, Sem.run_pure, Result.andThen_ok]
  rw [run_loadVar_row w g 32 32 #[u, v] (0, 0) _ hb Tryz.underlying32 rfl sig_size]
  rfl
/-- Two cells of a block of one's own are put. -/
theorem keep_put2 {O : Nat → Prop} {w W : World} {g : Nat} (h : Keep O w W) (hg : w.heap.size ≤ g) (u v : Value) : Keep O w ((W.setCell ⟨g, 0, none⟩ u).setCell ⟨g, 1, none⟩ v) :=
  (h.setCell (fun h => absurd h (by simp; omega)) u).setCell (fun h => absurd h (by simp; omega)) v
theorem keep_at2 (W : World) (g : Nat) (u v : Value) : Keep (fun k => k = g) W ((W.setCell ⟨g, 0, none⟩ u).setCell ⟨g, 1, none⟩ v) :=
  ((Keep.refl (fun k => k = g) W).setCell (fun _ => rfl) u).setCell (fun _ => rfl) v
theorem own_put2 {w W : World} {g n : Nat} {v : Value} {xs : List Value} (h : Own W 3 1 (fun k => g < k) v n xs) (hg : w.heap.size ≤ g) (u u' : Value) : Own ((W.setCell ⟨g, 0, none⟩ u).setCell ⟨g, 1, none⟩ u') 3 1 (Fresh w) v n xs :=
  (h.keep (keep_at2 W g u u') (fun k hk e => by omega)).mono (fun k hk _ => by unfold Fresh; omega)

set_option maxRecDepth 100000 in
set_option maxHeartbeats 2000000 in
theorem ifG_no (A : Option Addr) (a : List Int) (na ca : Nat) (B : Option Addr) (r : List Int) (nb cb : Nat) (w : World) (ha : Rd w A (ivs a)) (hr : Rd w B (ivs r)) (hna : Hid (a.length = na)) (hnb : Hid (r.length = nb)) (hn6 : na ≤ 4611686018427387903) (hm6 : nb ≤ 4611686018427387903) (ho : okG a r = false) :
    Calls Tryz.prog 195 #[.agg #[.slice A na ca, .slice B nb cb]] w fun e w' => e = .returned (.tuple #[.agg #[.slice none 0 0, .slice none 0 0], .int .i64 61]) ∧ Keep NoB w w' := by
  have bx := (Blk.new w 32 #[.slice A na ca, .slice B nb cb]).alloc (.cells #[.slice none 0 0, .slice none 0 0] 32)
  have bz := Blk.new (w.alloc (.cells #[.slice A na ca, .slice B nb cb] 32)) 32 #[.slice none 0 0, .slice none 0 0]
  rw [World.size_alloc] at bz
  have k0 := ((Keep.refl NoB w).alloc (.cells #[.slice A na ca, .slice B nb cb] 32)).alloc (.cells #[.slice none 0 0, .slice none 0 0] 32)
  have HC := Lib.hid (fun w ha hr => chkG_any A a na ca B r nb cb w ha hr hna hnb hn6 hm6 61 (chkG_no ho))
  go_enter Tryz.func195, Tryz.ntmps195
  go_wp2_with fail
  refine (HC.out _ (ha.keepN k0) (hr.keepN k0)).mono ?_
  rintro e w2 ⟨rfl, k1⟩
  have bz2 := bz.keep k1 id
  obtain ⟨z0, z1⟩ := blk2 bz2
  have fz := fun i => bz2.frozen i
  have gK := keepN k0 k1
  have HBZ := Lib.hid (fun u v => blk_put2 bz2 u v)
  clear bx bz k0 k1 ha hr HC bz2
  go_wp2
  refine bodyPost_ret (ret_sig rfl rfl (HBZ.out _ _) rfl) rfl ?_
  exact ⟨rfl, keep_put2 gK (by omega) _ _⟩
set_option maxRecDepth 100000 in
set_option maxHeartbeats 2000000 in
theorem ifG_yes (A : Option Addr) (a : List Int) (na ca : Nat) (B : Option Addr) (r : List Int) (nb cb : Nat) (w : World) (ha : Rd w A (ivs a)) (hr : Rd w B (ivs r)) (hna : Hid (a.length = na)) (hnb : Hid (r.length = nb)) (hn6 : na ≤ 4611686018427387903) (hm6 : nb ≤ 4611686018427387903) (ho : okG a r = true) :
    Calls Tryz.prog 195 #[.agg #[.slice A na ca, .slice B nb cb]] w fun e w' => e = .returned (.tuple #[.agg #[.slice A na ca, .slice B nb cb], .int .i64 0]) ∧ Keep NoB w w' := by
  have bx := (Blk.new w 32 #[.slice A na ca, .slice B nb cb]).alloc (.cells #[.slice none 0 0, .slice none 0 0] 32)
  have bz := Blk.new (w.alloc (.cells #[.slice A na ca, .slice B nb cb] 32)) 32 #[.slice none 0 0, .slice none 0 0]
  rw [World.size_alloc] at bz
  have k0 := ((Keep.refl NoB w).alloc (.cells #[.slice A na ca, .slice B nb cb] 32)).alloc (.cells #[.slice none 0 0, .slice none 0 0] 32)
  have HC := Lib.hid (fun w ha hr => chkG_any A a na ca B r nb cb w ha hr hna hnb hn6 hm6 0 (chkG_ok ho))
  go_enter Tryz.func195, Tryz.ntmps195
  go_wp2_with fail
  refine (HC.out _ (ha.keepN k0) (hr.keepN k0)).mono ?_
  rintro e w2 ⟨rfl, k1⟩
  have bz2 := bz.keep k1 id
  obtain ⟨x0, x1⟩ := blk2 (bx.keep k1 id)
  obtain ⟨z0, z1⟩ := blk2 bz2
  have fz := fun i => bz2.frozen i
  have gK := keepN k0 k1
  have HBZ := Lib.hid (fun u v => blk_put2 bz2 u v)
  clear bx bz k0 k1 ha hr HC bz2
  go_wp2
  refine bodyPost_ret (ret_sig rfl rfl (HBZ.out _ _) rfl) rfl ?_
  exact ⟨rfl, keep_put2 gK (by omega) _ _⟩

end Go.Proofs.YtifobiajjhknbaaGreatDoor.S

namespace Go.Proofs.YtifobiajjhknbaaGreatDoor.F
open Go.RowKit W

theorem own_len {w : World} {O : Nat → Prop} {v : Value} {l : List Int} {n : Nat} (h : Own w 3 1 O v n (ivs l)) : l.length = n := by have := h.1.1; simpa using this

end Go.Proofs.YtifobiajjhknbaaGreatDoor.F

namespace Go.Proofs.YtifobiajjhknbaaGreatDoor.F
open Go.RowKit W

theorem letB_yes {c : UInt8} (h : (97 ≤ c.toNat ∧ c.toNat ≤ 122) ∨ (65 ≤ c.toNat ∧ c.toNat ≤ 90)) : letB c = true := (letB_iff c).2 h
theorem letB_no {c : UInt8} (h : ¬ ((97 ≤ c.toNat ∧ c.toNat ≤ 122) ∨ (65 ≤ c.toNat ∧ c.toNat ≤ 90))) : letB c = false := by
  cases hb : letB c
  · rfl
  · exact absurd ((letB_iff c).1 hb) h
theorem digB_yes {c : UInt8} (h : 48 ≤ c.toNat ∧ c.toNat ≤ 57) : digB c = true := (digB_iff c).2 h
theorem digB_no {c : UInt8} (h : ¬ (48 ≤ c.toNat ∧ c.toNat ≤ 57)) : digB c = false := by
  cases hb : digB c
  · rfl
  · exact absurd ((digB_iff c).1 hb) h

set_option maxRecDepth 100000 in
set_option maxHeartbeats 2000000 in
theorem letter_any (c : UInt8) (w : World) : Calls Tryz.prog 179 #[.int .u8 (c.toNat : Int)] w fun e w' => e = .returned (.bool (letB c)) ∧ w = w' := by
  have hc : c.toNat < 256 := UInt8.toNat_lt _
  have HY : Hid ((97 ≤ c.toNat ∧ c.toNat ≤ 122) ∨ (65 ≤ c.toNat ∧ c.toNat ≤ 90) → letB c = true) := letB_yes
  have HN : Hid (¬ ((97 ≤ c.toNat ∧ c.toNat ≤ 122) ∨ (65 ≤ c.toNat ∧ c.toNat ≤ 90)) → letB c = false) := letB_no
  generalize letB c = R at HY HN
  generalize c.toNat = n at hc HY HN
  by_cases h0 : n < 65
  · skip
    obtain rfl : false = R := (HN.out (by omega)).symm
    clear HY HN
    go_enter Tryz.func179, Tryz.ntmps179
    go_wp2
    go_ret
    exact ⟨ret_bool (by first | rfl | (simp; done) | (simp; omega)), rfl⟩
  by_cases h1 : n ≤ 90
  · skip
    obtain rfl : true = R := (HY.out (by omega)).symm
    clear HY HN
    go_enter Tryz.func179, Tryz.ntmps179
    go_wp2
    go_ret
    exact ⟨ret_bool (by first | rfl | (simp; done) | (simp; omega)), rfl⟩
  by_cases h2 : n < 97
  · skip
    obtain rfl : false = R := (HN.out (by omega)).symm
    clear HY HN
    go_enter Tryz.func179, Tryz.ntmps179
    go_wp2
    go_ret
    exact ⟨ret_bool (by first | rfl | (simp; done) | (simp; omega)), rfl⟩
  by_cases h3 : n ≤ 122
  · skip
    obtain rfl : true = R := (HY.out (by omega)).symm
    clear HY HN
    go_enter Tryz.func179, Tryz.ntmps179
    go_wp2
    go_ret
    exact ⟨ret_bool (by first | rfl | (simp; done) | (simp; omega)), rfl⟩
  obtain rfl : false = R := (HN.out (by omega)).symm
  clear HY HN
  go_enter Tryz.func179, Tryz.ntmps179
  go_wp2
  go_ret
  exact ⟨ret_bool (by first | rfl | (simp; done) | (simp; omega)), rfl⟩

set_option maxRecDepth 100000 in
set_option maxHeartbeats 2000000 in
theorem digit_any (c : UInt8) (w : World) : Calls Tryz.prog 180 #[.int .u8 (c.toNat : Int)] w fun e w' => e = .returned (.bool (digB c)) ∧ w = w' := by
  have hc : c.toNat < 256 := UInt8.toNat_lt _
  have HY : Hid (48 ≤ c.toNat ∧ c.toNat ≤ 57 → digB c = true) := digB_yes
  have HN : Hid (¬ (48 ≤ c.toNat ∧ c.toNat ≤ 57) → digB c = false) := digB_no
  generalize digB c = R at HY HN
  generalize c.toNat = n at hc HY HN
  by_cases h0 : n < 48
  · skip
    obtain rfl : false = R := (HN.out (by omega)).symm
    clear HY HN
    go_enter Tryz.func180, Tryz.ntmps180
    go_wp2
    go_ret
    exact ⟨ret_bool (by first | rfl | (simp; done) | (simp; omega)), rfl⟩
  by_cases h1 : n ≤ 57
  · skip
    obtain rfl : true = R := (HY.out (by omega)).symm
    clear HY HN
    go_enter Tryz.func180, Tryz.ntmps180
    go_wp2
    go_ret
    exact ⟨ret_bool (by first | rfl | (simp; done) | (simp; omega)), rfl⟩
  obtain rfl : false = R := (HN.out (by omega)).symm
  clear HY HN
  go_enter Tryz.func180, Tryz.ntmps180
  go_wp2
  go_ret
  exact ⟨ret_bool (by first | rfl | (simp; done) | (simp; omega)), rfl⟩

theorem in_step {l : List UInt8} {k : Nat} (hk : k < l.length) (h : (l.take k).all inB = true) (h2 : inB l[k] = true) : (l.take (k + 1)).all inB = true := by
  rw [List.take_succ_eq_append_getElem hk, List.all_append, h]; simp [h2]
theorem in_no {l : List UInt8} {k : Nat} (hk : k < l.length) (h2 : inB l[k] = false) : l.all inB = false := by
  cases h : l.all inB
  · rfl
  · rw [List.all_eq_true.1 h _ (List.getElem_mem hk)] at h2; cases h2
theorem str_at {S : ByteArray} {s : List UInt8} (hs : S.data.toList = s) {k : Nat} (hk : k < S.size) (hk2 : k < s.length) : S[k] = s[k] := by subst hs; rfl

set_option maxRecDepth 100000 in
set_option maxHeartbeats 4000000 in
theorem named_any (S : ByteArray) (s : List UInt8) (w : World) (hs : Hid (S.data.toList = s)) (hm : S.size ≤ 9223372036854775807) (R : Int) (hR : Hid (chkN s = R)) :
    Calls Tryz.prog 122 #[.string S] w fun e w' => e = .returned (.int .i64 R) ∧ w = w' := by
  have HZ : Hid (S.size = s.length) := sz_len hs.out
  have HL := Lib.hid (fun (c : UInt8) (w : World) => letter_any c w)
  have HD := Lib.hid (fun (c : UInt8) (w : World) => digit_any c w)
  by_cases h0 : S.size = 0
  · obtain rfl : 71 = R := by rw [← hR.out]; exact (chkN_no (by rw [List.length_eq_zero_iff.1 (HZ.out.symm.trans h0)]; rfl)).symm
    clear hR
    go_enter Tryz.func122, Tryz.ntmps122
    go_wp2
    go_ret
    exact ⟨rfl, rfl⟩
  have hq0 : ((S.size : Int) == 0) = false := by rw [beq_eq_false_iff_ne]; omega
  by_cases h1 : 32 < S.size
  · obtain rfl : 71 = R := by rw [← hR.out]; exact (chkN_no (okN_long (by rw [← HZ.out]; omega))).symm
    clear hR
    go_enter Tryz.func122, Tryz.ntmps122
    go_wp2
    go_ret
    exact ⟨rfl, rfl⟩
  have hp : 0 < S.size := by omega
  have HH : Hid (headB s = letB (S[0]'hp)) := by show _ = _; rw [str_at hs.out hp (by rw [← HZ.out]; omega)]; exact headB_at _
  cases hh : letB (S[0]'hp)
  · obtain rfl : 71 = R := by rw [← hR.out]; exact (chkN_no (okN_head (HH.out.trans hh))).symm
    have HC := Lib.hid (fun w => HL.out (S[0]'hp) w)
    rw [hh] at HC
    clear hR HH hh
    go_enter Tryz.func122, Tryz.ntmps122
    go_wp2_with (go_at_call 179; refine (HC.out _).mono ?_; rintro e w1 ⟨rfl, rfl⟩)
    go_ret
    exact ⟨rfl, rfl⟩
  have HHT := Lib.hid (HH.out.trans hh)
  have HC := Lib.hid (fun w => HL.out (S[0]'hp) w)
  rw [hh] at HC
  clear HH hh
  go_enter Tryz.func122, Tryz.ntmps122
  go_wp2_with (go_at_call 179; refine (HC.out _).mono ?_; rintro e w1 ⟨rfl, rfl⟩)
  clear HC
  go_loop [20] (fun i => ∃ k : Nat, k ≤ S.size ∧ i = .int .i64 k ∧ Hid ((s.take k).all inB = true)) (fun i => S.size - (intOf i).toNat)
  case atStart => exact ⟨0, Nat.zero_le _, rfl, rfl⟩
  case round =>
    obtain ⟨k, hk, rfl, ht⟩ := hrel
    by_cases hlt : k < S.size
    · have hks : k < s.length := by rw [← HZ.out]; exact hlt
      have HE := Lib.hid (str_at hs.out hlt hks)
      have HA := Lib.hid (fun w => HL.out (S[k]'hlt) w)
      have HB := Lib.hid (fun w => HD.out (S[k]'hlt) w)
      have HI : Hid (inB s[k] = (letB (S[k]'hlt) || digB (S[k]'hlt))) := by show _ = _; rw [HE.out]; rfl
      have HT := Lib.hid (fun h => in_step hks ht.out h)
      have HN := Lib.hid (fun h => in_no hks h)
      cases hl : letB (S[k]'hlt)
      · rw [hl] at HA HI
        cases hd : digB (S[k]'hlt)
        · rw [hd] at HB HI
          obtain rfl : 71 = R := by rw [← hR.out]; exact (chkN_no (okN_in (HN.out HI.out))).symm
          clear hR HT HN HI HE hl hd HHT ht
          go_wp2_with (first | (go_at_call 179; refine (HA.out _).mono ?_; rintro e w2 ⟨rfl, rfl⟩) | (go_at_call 180; refine (HB.out _).mono ?_; rintro e w2 ⟨rfl, rfl⟩))
          go_ret
          exact ⟨rfl, rfl⟩
        · rw [hd] at HB HI
          have HV := Lib.hid (HT.out HI.out)
          clear HT HN HI HE hl hd
          go_wp2_with (first | (go_at_call 179; refine (HA.out _).mono ?_; rintro e w2 ⟨rfl, rfl⟩) | (go_at_call 180; refine (HB.out _).mono ?_; rintro e w2 ⟨rfl, rfl⟩))
          go_round
          case rel => exact ⟨k + 1, by omega, by go_num, HV⟩
          case measure => simp [intOf]; omega
      · rw [hl] at HA HI
        have HV := Lib.hid (HT.out (by rw [HI.out]; rfl))
        clear HT HN HI HE hl HB
        go_wp2_with (go_at_call 179; refine (HA.out _).mono ?_; rintro e w2 ⟨rfl, rfl⟩)
        go_round
        case rel => exact ⟨k + 1, by omega, by go_num, HV⟩
        case measure => simp [intOf]; omega
    · obtain rfl : 0 = R := by
        rw [← hR.out]
        have e1 := ht.out
        rw [List.take_of_length_le (by rw [← HZ.out]; omega)] at e1
        exact (chkN_ok ((okN_iff s).2 ⟨by rw [← HZ.out]; omega, HHT.out, e1⟩)).symm
      clear hR HHT
      go_wp2
      go_ret
      exact ⟨rfl, rfl⟩

end Go.Proofs.YtifobiajjhknbaaGreatDoor.F

namespace Go.Proofs.YtifobiajjhknbaaGreatDoor.F
open Go.RowKit

/-- A function value, with what it has captured. -/
def askV (g : Nat) (caps : Array Value) : Value := .func (.func g) #[] caps

set_option maxRecDepth 100000 in
set_option maxHeartbeats 2000000 in
theorem every_any (A : Option Addr) (qs : List (Nat × Array Value)) (n c : Nat) (w : World) (hn : Hid (qs.length = n)) (hm : n ≤ 1000) (bs : Nat → Bool) (I : Nat → World → Prop) (J : World → Prop)
    (hcf : Hid (∀ q ∈ qs, ∀ args w, (callFunc q.1 args).run Tryz.prog w = .ok (.enter q.1 args) w))
    (hr : Hid (∀ i W, I i W → Rd W A (qs.map fun q => askV q.1 q.2)))
    (hq : Hid (∀ i (h : i < qs.length) W, I i W → Calls Tryz.prog qs[i].1 qs[i].2 W fun e W' => e = .returned (.bool (bs i)) ∧ (bs i = true → I (i + 1) W') ∧ (bs i = false → J W')))
    (h0 : I 0 w) :
    Calls Tryz.prog 118 #[.slice A n c] w fun e w' => (e = .returned (.bool true) ∧ (∀ i, i < n → bs i = true) ∧ I n w') ∨ (e = .returned (.bool false) ∧ (∃ i, i < n ∧ bs i = false) ∧ J w') := by
  go_enter Tryz.func118, Tryz.ntmps118
  go_wp2
  go_loopw [7] (fun i wr => ∃ k : Nat, k ≤ n ∧ i = .int .i64 k ∧ Hid (∀ j, j < k → bs j = true) ∧ Hid (I k wr)) (fun i _ => n - (intOf i).toNat)
  case atStart => exact ⟨0, Nat.zero_le _, rfl, fun j h => absurd h (by omega), h0⟩
  case round =>
    obtain ⟨k, hk, rfl, ht, hI⟩ := hrel
    clear h0
    by_cases hlt : k < n
    · have hkq : k < qs.length := by rw [hn.out]; exact hlt
      obtain ⟨g0, off, rfl, hc⟩ := hr.out k _ hI.out (by simp; omega)
      have ck := hc k (askV qs[k].1 qs[k].2) (by simp [hkq])
      have hg := hcf.out qs[k] (List.getElem_mem hkq)
      have HQ := Lib.hid (hq.out k hkq _ hI.out)
      clear hc
      generalize qs[k] = q at ck hg HQ
      obtain ⟨g, caps⟩ := q
      dsimp only [askV] at ck hg HQ
      obtain ⟨b, hb⟩ : ∃ b, bs k = b := ⟨_, rfl⟩
      have HB := Lib.hid hb
      rw [hb] at HQ
      clear hb hI
      go_wp2_with fail
      refine HQ.out.mono ?_
      rintro e w1 ⟨rfl, hy, hno⟩
      have HY := Lib.hid hy
      have HNO := Lib.hid hno
      clear hy hno
      cases b
      · go_wp2
        go_ret
        exact .inr ⟨rfl, ⟨k, hlt, HB.out⟩, HNO.out trivial⟩
      · go_wp2
        go_roundw
        case rel => exact ⟨k + 1, by omega, by go_num, fun j hj => (by
          rcases Nat.lt_succ_iff_lt_or_eq.1 hj with h | rfl
          · exact ht.out j h
          · exact HB.out), HY.out trivial⟩
        case measure => simp [intOf]; omega
    · obtain rfl : k = n := by omega
      go_wp2
      go_ret
      exact .inl ⟨rfl, ht.out, hI.out⟩

end Go.Proofs.YtifobiajjhknbaaGreatDoor.F

namespace Go.Proofs.YtifobiajjhknbaaGreatDoor.F
open Go.RowKit W

/-- A question: what checks, and the part, each in a cell of its own. -/
def AskV (k : Nat) (tc tp : TypeId) (chk : Value) (cells : Array Value) (v : Value) (w : World) : Prop :=
  ∃ c p, v = askV k #[.pointer (some ⟨c, 0, none⟩), .pointer (some ⟨p, 0, none⟩)] ∧ Blk w c tc #[chk] ∧ Blk w p tp cells
theorem AskV.keep {k : Nat} {tc tp : TypeId} {chk : Value} {cells : Array Value} {v : Value} {w w' : World} (h : AskV k tc tp chk cells v w) (hk : Keep NoB w w') : AskV k tc tp chk cells v w' := by
  obtain ⟨c, p, e, h1, h2⟩ := h
  exact ⟨c, p, e, h1.keep hk id, h2.keep hk id⟩
/-- A function by its number alone. -/
def fnV (k : Nat) : Value := .func (.func k) #[] #[]

theorem sig_size : (Tryz.prog.info? 32).map (·.size) = some 2 := by kernel_rfl
theorem ret_sig1 {fn : Func} {p : Tmp} {tmps : Array Value} {w : World} {g : Nat} {u v : Value} (h : fn.results = #[.cell p 32]) (hp : tmps.getD p undef = .pointer (some ⟨g, 0, none⟩)) (hb : Blk w g 32 #[u, v]) :
    (results fn tmps).run Tryz.prog w = .ok (.agg #[u, v]) w :=
  results_cell_row h tmps w g 32 #[u, v] (0, 0) _ hp hb Tryz.underlying32 rfl sig_size
set_option maxRecDepth 100000 in
set_option maxHeartbeats 2000000 in
theorem taking_any (L : Option Addr) (nl cl : Nat) (w : World) :
    Calls Tryz.prog 124 #[.slice L nl cl] w fun e w' => e = .returned (.agg #[.slice L nl cl, .slice none 0 0]) ∧ Keep NoB w w' := by
  have bz := Blk.new w 32 #[.slice L nl cl, .slice none 0 0]
  have k0 := (Keep.refl NoB w).alloc (.cells #[.slice L nl cl, .slice none 0 0] 32)
  go_enter Tryz.func124, Tryz.ntmps124
  go_wp2
  refine bodyPost_ret (ret_sig1 rfl rfl bz) rfl ?_
  exact ⟨rfl, k0⟩

set_option maxRecDepth 100000 in
set_option maxHeartbeats 2000000 in
theorem passesFun_any (k : Nat) (v : FV) (w : World) :
    Calls Tryz.prog 119 #[fnV k, v.val] w fun e w' => ∃ u, e = .returned u ∧ AskV 177 107 35 (fnV k) (v.cells) u w' ∧ Keep NoB w w' := by
  have hmf : ∀ (fn : Go.Fn) (first cap : Array Value) (w : World), (Instr.makeFunc fn first cap).run Tryz.prog w = .ok (.func fn first cap) w := fun _ _ _ _ => rfl
  have b1 := (Blk.new w 107 #[fnV k]).alloc (.cells (v.cells) 35)
  have b2 := Blk.new (w.alloc (.cells #[fnV k] 107)) 35 (v.cells)
  rw [World.size_alloc] at b2
  have k0 := ((Keep.refl NoB w).alloc (.cells #[fnV k] 107)).alloc (.cells (v.cells) 35)
  unfold fnV at *
  obtain ⟨S, A, na, ca, B, nb, cb, L, nl, cl, D, nd, cd⟩ := v
  dsimp only [FV.val, FV.cells] at *
  have HB1 := Lib.hid b1
  have HB2 := Lib.hid b2
  have HK := Lib.hid k0
  clear b1 b2 k0
  go_enter Tryz.func119, Tryz.ntmps119
  go_wp2
  go_ret
  exact ⟨_, rfl, ⟨w.heap.size, w.heap.size + 1, rfl, HB1.out, HB2.out⟩, HK.out⟩

set_option maxRecDepth 100000 in
set_option maxHeartbeats 2000000 in
theorem askedFun_any (k : Nat) (hcf : ∀ args w, (callFunc k args).run Tryz.prog w = .ok (.enter k args) w) (v : FV) (c p : Nat) (w : World) (hc : Blk w c 107 #[fnV k]) (hp : Blk w p 35 (v.cells)) (R : Int) (b : Bool) (hb : (R == 0) = b)
    (HG : Hid (Calls Tryz.prog k #[v.val] w fun e w' => e = .returned (.int .i64 R) ∧ Keep NoB w w')) :
    Calls Tryz.prog 177 #[.pointer (some ⟨c, 0, none⟩), .pointer (some ⟨p, 0, none⟩)] w fun e w' => e = .returned (.bool b) ∧ Keep NoB w w' := by
  obtain ⟨S, A, na, ca, B, nb, cb, L, nl, cl, D, nd, cd⟩ := v
  have cc := hc.cell 0
  unfold fnV at cc
  obtain ⟨c0, c1, c2, c3, c4⟩ := blk5 hp
  dsimp only [FV.val] at *
  clear hc hp
  go_enter Tryz.func177, Tryz.ntmps177
  go_wp2_with fail
  refine HG.out.mono ?_
  rintro e w1 ⟨rfl, k1⟩
  go_wp2
  go_ret
  exact ⟨rfl, k1⟩

set_option maxRecDepth 100000 in
set_option maxHeartbeats 2000000 in
theorem passesStr_any (k : Nat) (S : ByteArray) (w : World) :
    Calls Tryz.prog 121 #[fnV k, .string S] w fun e w' => ∃ u, e = .returned u ∧ AskV 178 192 9 (fnV k) (#[.string S]) u w' ∧ Keep NoB w w' := by
  have hmf : ∀ (fn : Go.Fn) (first cap : Array Value) (w : World), (Instr.makeFunc fn first cap).run Tryz.prog w = .ok (.func fn first cap) w := fun _ _ _ _ => rfl
  have b1 := (Blk.new w 192 #[fnV k]).alloc (.cells (#[.string S]) 9)
  have b2 := Blk.new (w.alloc (.cells #[fnV k] 192)) 9 (#[.string S])
  rw [World.size_alloc] at b2
  have k0 := ((Keep.refl NoB w).alloc (.cells #[fnV k] 192)).alloc (.cells (#[.string S]) 9)
  unfold fnV at *
  have HB1 := Lib.hid b1
  have HB2 := Lib.hid b2
  have HK := Lib.hid k0
  clear b1 b2 k0
  go_enter Tryz.func121, Tryz.ntmps121
  go_wp2
  go_ret
  exact ⟨_, rfl, ⟨w.heap.size, w.heap.size + 1, rfl, HB1.out, HB2.out⟩, HK.out⟩

set_option maxRecDepth 100000 in
set_option maxHeartbeats 2000000 in
theorem askedStr_any (k : Nat) (hcf : ∀ args w, (callFunc k args).run Tryz.prog w = .ok (.enter k args) w) (S : ByteArray) (c p : Nat) (w : World) (hc : Blk w c 192 #[fnV k]) (hp : Blk w p 9 (#[.string S])) (R : Int) (b : Bool) (hb : (R == 0) = b)
    (HG : Hid (Calls Tryz.prog k #[.string S] w fun e w' => e = .returned (.int .i64 R) ∧ Keep NoB w w')) :
    Calls Tryz.prog 178 #[.pointer (some ⟨c, 0, none⟩), .pointer (some ⟨p, 0, none⟩)] w fun e w' => e = .returned (.bool b) ∧ Keep NoB w w' := by
  have cc := hc.cell 0
  unfold fnV at cc
  have c0 := hp.cell 0
  clear hc hp
  go_enter Tryz.func178, Tryz.ntmps178
  go_wp2_with fail
  refine HG.out.mono ?_
  rintro e w1 ⟨rfl, k1⟩
  go_wp2
  go_ret
  exact ⟨rfl, k1⟩

set_option maxRecDepth 100000 in
set_option maxHeartbeats 2000000 in
theorem passesSig_any (k : Nat) (x y : Value) (w : World) :
    Calls Tryz.prog 123 #[fnV k, .agg #[x, y]] w fun e w' => ∃ u, e = .returned u ∧ AskV 181 118 32 (fnV k) (#[x, y]) u w' ∧ Keep NoB w w' := by
  have hmf : ∀ (fn : Go.Fn) (first cap : Array Value) (w : World), (Instr.makeFunc fn first cap).run Tryz.prog w = .ok (.func fn first cap) w := fun _ _ _ _ => rfl
  have b1 := (Blk.new w 118 #[fnV k]).alloc (.cells (#[x, y]) 32)
  have b2 := Blk.new (w.alloc (.cells #[fnV k] 118)) 32 (#[x, y])
  rw [World.size_alloc] at b2
  have k0 := ((Keep.refl NoB w).alloc (.cells #[fnV k] 118)).alloc (.cells (#[x, y]) 32)
  unfold fnV at *
  have HB1 := Lib.hid b1
  have HB2 := Lib.hid b2
  have HK := Lib.hid k0
  clear b1 b2 k0
  go_enter Tryz.func123, Tryz.ntmps123
  go_wp2
  go_ret
  exact ⟨_, rfl, ⟨w.heap.size, w.heap.size + 1, rfl, HB1.out, HB2.out⟩, HK.out⟩

set_option maxRecDepth 100000 in
set_option maxHeartbeats 2000000 in
theorem askedSig_any (k : Nat) (hcf : ∀ args w, (callFunc k args).run Tryz.prog w = .ok (.enter k args) w) (x y : Value) (c p : Nat) (w : World) (hc : Blk w c 118 #[fnV k]) (hp : Blk w p 32 (#[x, y])) (R : Int) (b : Bool) (hb : (R == 0) = b)
    (HG : Hid (Calls Tryz.prog k #[.agg #[x, y]] w fun e w' => e = .returned (.int .i64 R) ∧ Keep NoB w w')) :
    Calls Tryz.prog 181 #[.pointer (some ⟨c, 0, none⟩), .pointer (some ⟨p, 0, none⟩)] w fun e w' => e = .returned (.bool b) ∧ Keep NoB w w' := by
  have cc := hc.cell 0
  unfold fnV at cc
  obtain ⟨c0, c1⟩ := S.blk2 hp
  clear hc hp
  go_enter Tryz.func181, Tryz.ntmps181
  go_wp2_with fail
  refine HG.out.mono ?_
  rintro e w1 ⟨rfl, k1⟩
  go_wp2
  go_ret
  exact ⟨rfl, k1⟩

set_option maxRecDepth 100000 in
set_option maxHeartbeats 2000000 in
theorem passesBod_any (k : Nat) (D : Option Addr) (nd cd : Nat) (w : World) :
    Calls Tryz.prog 125 #[fnV k, .slice D nd cd] w fun e w' => ∃ u, e = .returned u ∧ AskV 182 196 33 (fnV k) (#[.slice D nd cd]) u w' ∧ Keep NoB w w' := by
  have hmf : ∀ (fn : Go.Fn) (first cap : Array Value) (w : World), (Instr.makeFunc fn first cap).run Tryz.prog w = .ok (.func fn first cap) w := fun _ _ _ _ => rfl
  have b1 := (Blk.new w 196 #[fnV k]).alloc (.cells (#[.slice D nd cd]) 33)
  have b2 := Blk.new (w.alloc (.cells #[fnV k] 196)) 33 (#[.slice D nd cd])
  rw [World.size_alloc] at b2
  have k0 := ((Keep.refl NoB w).alloc (.cells #[fnV k] 196)).alloc (.cells (#[.slice D nd cd]) 33)
  unfold fnV at *
  have HB1 := Lib.hid b1
  have HB2 := Lib.hid b2
  have HK := Lib.hid k0
  clear b1 b2 k0
  go_enter Tryz.func125, Tryz.ntmps125
  go_wp2
  go_ret
  exact ⟨_, rfl, ⟨w.heap.size, w.heap.size + 1, rfl, HB1.out, HB2.out⟩, HK.out⟩

set_option maxRecDepth 100000 in
set_option maxHeartbeats 2000000 in
theorem askedBod_any (k : Nat) (hcf : ∀ args w, (callFunc k args).run Tryz.prog w = .ok (.enter k args) w) (D : Option Addr) (nd cd : Nat) (c p : Nat) (w : World) (hc : Blk w c 196 #[fnV k]) (hp : Blk w p 33 (#[.slice D nd cd])) (R : Int) (b : Bool) (hb : (R == 0) = b)
    (HG : Hid (Calls Tryz.prog k #[.slice D nd cd] w fun e w' => e = .returned (.int .i64 R) ∧ Keep NoB w w')) :
    Calls Tryz.prog 182 #[.pointer (some ⟨c, 0, none⟩), .pointer (some ⟨p, 0, none⟩)] w fun e w' => e = .returned (.bool b) ∧ Keep NoB w w' := by
  have cc := hc.cell 0
  unfold fnV at cc
  have c0 := hp.cell 0
  clear hc hp
  go_enter Tryz.func182, Tryz.ntmps182
  go_wp2_with fail
  refine HG.out.mono ?_
  rintro e w1 ⟨rfl, k1⟩
  go_wp2
  go_ret
  exact ⟨rfl, k1⟩

end Go.Proofs.YtifobiajjhknbaaGreatDoor.F

namespace Go.Proofs.YtifobiajjhknbaaGreatDoor.F
open Go.RowKit W

/-- A reader: what decodes, the Reel, and where the part goes, each in a cell of its own. -/
def RdV (k : Nat) (tc tp : TypeId) (dec : Value) (rp : Option Addr) (pt : Addr) (v : Value) (w : World) : Prop :=
  ∃ c r q, v = askV k #[.pointer (some ⟨c, 0, none⟩), .pointer (some ⟨r, 0, none⟩), .pointer (some ⟨q, 0, none⟩)] ∧ Blk w c tc #[dec] ∧ Blk w r 183 #[.pointer rp] ∧ Blk w q tp #[.pointer (some pt)]
theorem RdV.keep {k : Nat} {tc tp : TypeId} {dec : Value} {rp : Option Addr} {pt : Addr} {v : Value} {w w' : World} (h : RdV k tc tp dec rp pt v w) (hk : Keep NoB w w') : RdV k tc tp dec rp pt v w' := by
  obtain ⟨c, r, q, e, h1, h2, h3⟩ := h
  exact ⟨c, r, q, e, h1.keep hk id, h2.keep hk id, h3.keep hk id⟩

end Go.Proofs.YtifobiajjhknbaaGreatDoor.F
