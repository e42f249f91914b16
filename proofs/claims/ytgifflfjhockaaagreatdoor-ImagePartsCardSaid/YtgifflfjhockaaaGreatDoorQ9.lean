/-
  Parts read from a Reel: how many, and these: what read answers, of shapes and of functions. Conditions: the Reel reads bytes in memory, no more than 2^47.
  What the laws ask ahead: whether an image is more than statements go through. Conditions: the image's lists lie in memory, each below 2^47.
  What stands between Magic and the sum: what inner answers. Conditions: the bytes lie in memory, no more than 2^47.
  The sum of bytes: the program's, over any number of parts, and the document's; a sum's four bytes. Conditions: the parts lie in memory; no more than 2^31 bytes.
  bytes.Equal, bytes.HasPrefix, bytes.CutPrefix: what they answer of bytes in memory. No conditions but that the bytes lie in memory.
  The iterator of an instruction's operands: it brings each operand that there is, in order, with its functions as they lie in memory when it comes. Conditions: kinds are from 0 to 10.
  What Show answers. Conditions: the listed package-level variables hold what their initialisers lay; numbers fit an int64.
  The iterator of an image's functions, with their numbers; and Find, the program's and the document's. Conditions: the image's lists lie in memory; a round keeps them.
  A map from numbers to numbers that a call makes: what each key has. No program, no conditions.
  A map from texts to numbers that a call makes: what each key has. No program, no conditions.
-/
import Derived.Laws.BitsAllLaws
import Derived.Maps.Keyed
import Derived.Maps.Own
import Derived.Maps.OwnIn
import Derived.Maps.OwnOps
import Derived.Maps.OwnSet
import Derived.Maps.Views
import Derived.WalkArith
import Derived.Test.YtgifflfjhockaaaGreatDoorQ8
import Derived.Test.YtgifflfjhockaaaGreatDoorQ7
import Derived.Test.YtgifflfjhockaaaGreatDoorQ3
import Derived.Test.YtgifflfjhockaaaGreatDoorQ2
import Derived.Test.YtgifflfjhockaaaGreatDoorQ4
import Derived.Test.YtgifflfjhockaaaGreatDoorQ5
namespace Go.Proofs.YtgifflfjhockaaaGreatDoor.I
open Go.RowKit W

theorem shape_info : (Tryz.prog.info? 58).map (fun i => (i.zero, i.size, i.bytes)) = some (some (.slice none 0 0), 1, 24) := by kernel_rfl
theorem shape_size1 : (Tryz.prog.info? 58).map (·.size) = some 1 := by kernel_rfl
theorem fun_info : (Tryz.prog.info? 61).map (fun i => (i.zero, i.size, i.bytes)) = some (some (.agg F.nilV.cells), 5, 112) := by kernel_rfl
theorem made_gen {w w1 : World} {E sz n : Nat} {zs : List Value} (hrow : w1.ownsRow 0 E sz (.slice (some ⟨w.heap.size, 0, none⟩) n n) n zs) : ∃ rest : List Value, rest.length = n * sz ∧ Blk w1 w.heap.size E ([] ++ rest).toArray := by
  obtain ⟨h3, h4⟩ := hrow
  rcases h4 with ⟨h4, _⟩ | ⟨g, cap, cur, h4, _, h6, _, _, h7, _⟩
  · cases h4
  · injection h4 with h4 _ h8
    injection h4 with h4
    injection h4 with h4 _ _
    subst h4 h8
    exact ⟨cur.toList, by simpa using h7, by rw [List.nil_append, Array.toArray_toList]; exact h6⟩
theorem split_at {rest : List Value} {m sz : Nat} (h : rest.length = m) (h0 : sz ≤ m) : ∃ old r, rest = old ++ r ∧ old.length = sz ∧ r.length = m - sz :=
  ⟨rest.take sz, rest.drop sz, (List.take_append_drop _ _).symm, by rw [List.length_take]; omega, by rw [List.length_drop]; omega⟩
theorem own_blk {W : World} {g E sz n : Nat} {P : Nat → Prop} {xs : List Value} (h : Blk W g E xs.toArray) (hl : xs.length = n * sz) (hm : n ≤ maxLen) (hP : P g) : Own W E sz P (.slice (some ⟨g, 0, none⟩) n n) n xs :=
  ⟨⟨hl, .inr ⟨g, n, xs.toArray, rfl, Nat.zero_le _, h, Nat.le_refl _, hm, by simpa using hl, by rw [← hl]; simp⟩⟩, fun k e => by cases e; exact hP⟩
/-- A value put at an element's place. -/
theorem wpList_putN {ops : Array Oper} {rest : List Oper} {o : Oper} {a : Act} {w : World} {Q : Exit → Act → World → Prop} (hgd : o.guard = none) (x y : Operand) {E sz : Nat} (ho : o.op = .store E x y) (hE : (Tryz.prog.info? E).map (·.size) = some sz)
    {g off : Nat} {pre old r : List Value} {u : Value} (hB : Blk w g E (pre ++ (old ++ r)).toArray) (hp : pre.length = off) (hol : old.length = sz) (hu : u.cells.size = sz) (h1 : ∀ c ∈ u.cells.toList, c.oneCell' = true)
    (hx : a.eval x = .pointer (some ⟨g, off, none⟩)) (hy : a.eval y = u)
    (h : ∀ w', Blk w' g E (pre ++ u.cells.toList ++ r).toArray → Keep (fun b => b = g) w w' → wpList Tryz.prog ops Q rest (a.put o.dst undef) w') : wpList Tryz.prog ops Q (o :: rest) a w := by
  refine wpList_plain hgd fun K hK => ?_
  have hul : u.cells.toList.length = sz := by simpa using hu
  have hst := run_storeCells_at Tryz.prog g off E u.cells.toList 0 _ w hB (by simp; omega) h1
  have e : (pre ++ (old ++ r)).take (off + 0) ++ u.cells.toList ++ (pre ++ (old ++ r)).drop (off + 0 + u.cells.toList.length) = pre ++ u.cells.toList ++ r := by
    rw [Nat.add_zero, ← hp, List.take_left', List.drop_length_add_append, hul, ← hol, List.drop_left'] <;> rfl
  rw [e] at hst
  try rw [Nat.add_zero] at hst
  cases hq : Tryz.prog.info? E with
  | none => rw [hq] at hE; cases hE
  | some i0 =>
    have hz : i0.size = sz := by simpa [hq] using hE
    have hrun : (storeVar E ⟨g, off, none⟩ u).run Tryz.prog w = .ok () (w.setRow g (pre ++ u.cells.toList ++ r).toArray) := by
      simp [storeVar, sizeOf, typeInfo, hq, hz, hu, hst]
    unfold Oper.wp execOp
    simp only [ho, hx, hy, Instr.storeAt, Instr.sureAddr, Sem.run_bind, Sem.run_pure, Result.andThen_ok, hrun]
    exact hK _ _ (h _ (setRow_heap w g _ _ _ _ hB) ⟨rfl, rfl, rfl, by simp, fun b _ hne => setRow_other w g b _ hne⟩)

/-- Parts that are owned, each. -/
def OwnS (W : World) (P : Nat → Prop) (e : SE) : Prop := Own W 3 1 P (.slice e.1.A e.1.n e.1.c) e.1.n (ivs e.2)
theorem OwnS.keep {W W' : World} {P O : Nat → Prop} {e : SE} (h : OwnS W P e) (hk : Keep O W W') (hn : ∀ k, P k → ¬ O k) : OwnS W' P e := by
  unfold OwnS at *
  exact h.keep hk hn
theorem OwnS.mono {W : World} {P P' : Nat → Prop} {e : SE} (h : OwnS W P e) (hP : ∀ k, P k → k < W.heap.size → P' k) : OwnS W P' e := by
  unfold OwnS at *
  exact h.mono hP
/-- How read ends. -/
def RdRS (w : World) (br : Nat) (At : World → Nat → Prop) (R : Option (List (List Int) × Nat)) (e : Ending) (w' : World) : Prop :=
  (R = none ∧ e = .returned (.tuple #[.slice none 0 0, .bool false]) ∧ (∃ q, At w' q) ∧ Keep (fun k => k = br) w w') ∨
  (∃ q A n c, ∃ es : List SE, R = some (es.map (fun e => e.2), q) ∧ e = .returned (.tuple #[.slice A n c, .bool true]) ∧ Own w' 58 1 (Fresh w) (.slice A n c) n (svs es) ∧ (∀ e ∈ es, OwnS w' (Fresh w) e) ∧ At w' q ∧ Keep (fun k => k = br) w w')
theorem rdLS_1 {l : List UInt8} {p n r q : Nat} (h : V.NumR l p 64 = (n, r, q)) (hr : r ≠ 0) : rdL (S.decS l) l p = none := by unfold rdL; rw [h]; exact if_neg hr
theorem rdLS_2 {l : List UInt8} {p n q : Nat} (h : V.NumR l p 64 = (n, 0, q)) : rdL (S.decS l) l p = rdK (S.decS l) n q := by unfold rdL; rw [h]; exact if_pos rfl
/-- One part read: a failure, or the part, owned. -/
theorem decS_cases (w : World) (br : Nat) (Ob : Nat → Prop) (l : List UInt8) (p : Nat) (hO : ∀ k, Ob k → k < w.heap.size) (h : V.ReelAt w br Ob l p) (hlen : l.length ≤ 140737488355328) :
    Calls Tryz.prog 74 #[.pointer (some ⟨br, 0, none⟩)] w fun r w' => (∃ E q, ∃ e : SE, r = .returned (.tuple #[e.1.val, .int .i64 E]) ∧ E ≠ 0 ∧ (S.decS l) p = none ∧ V.ReelAt w' br Ob l q ∧ Keep (fun k => k = br) w w') ∨
      (∃ q, ∃ e : SE, r = .returned (.tuple #[e.1.val, .int .i64 0]) ∧ (S.decS l) p = some (e.2, q) ∧ OwnS w' (Fresh w) e ∧ V.ReelAt w' br Ob l q ∧ Keep (fun k => k = br) w w') := by
  have _ := hO
  refine (S.decodeS_any w br Ob l p h hlen).mono ?_
  rintro r w' ⟨v, q, rfl, hv, hat, hq, hk⟩
  obtain ⟨A, c, rfl, _, _, _, _⟩ := hv.form
  cases hd : S.decS l p with
  | none =>
    exact .inl ⟨60, q, (⟨A, 0, c⟩, []), rfl, by decide, rfl, hat, hk⟩
  | some y =>
    obtain ⟨y, q'⟩ := y
    have hv2 : Own w' 3 1 (Fresh w) (.slice A y.length c) y.length (ivs y) := by rw [hd] at hv; exact hv
    refine .inr ⟨q', (⟨A, y.length, c⟩, y), ?_, rfl, hv2, ?_, hk⟩
    · rfl
    · have := hq _ hd
      dsimp only at this
      rw [← this]; exact hat

set_option maxRecDepth 100000 in
set_option maxHeartbeats 8000000 in
theorem readS_any (w : World) (br : Nat) (Ob : Nat → Prop) (l : List UInt8) (p : Nat) (hO : ∀ k, Ob k → k < w.heap.size) (h : V.ReelAt w br Ob l p) (hlen : l.length ≤ 140737488355328) :
    Calls Tryz.prog 85 #[.pointer (some ⟨br, 0, none⟩), partS] w (RdRS w br (fun w' q => V.ReelAt w' br Ob l q) (rdL (S.decS l) l p)) := by
  have hbr := S.reel_lt h
  have bz := Blk.new w 86 #[.int .i64 0, .int .i64 64, F.fnV 72, F.fnV 73, F.fnV 74, F.fnV 75]
  have k0 := (Keep.refl NoB w).alloc (.cells #[.int .i64 0, .int .i64 64, F.fnV 72, F.fnV 73, F.fnV 74, F.fnV 75] 86)
  have HS := Lib.hid (V.rnumber_any _ br Ob l p 64 (h.keep k0 (fun _ _ => id)) hlen)
  obtain ⟨n, r, q, hN, hN0, hN1⟩ := S.num_case l p 64
  rw [hN] at HS
  have z1 := bz.cell 1
  simp only [List.getElem?_toArray, List.getElem?_cons_zero, List.getElem?_cons_succ] at z1
  have HZ := Lib.hid bz
  unfold partS F.fnV at *
  clear h bz
  by_cases hr : r = 0
  · subst hr
    obtain ⟨hn1, hn2⟩ := hN0 rfl
    have HD := Lib.hid (rdLS_2 hN)
    obtain ⟨i0, hi, hz0, hz1, hz2⟩ := info_parts shape_info
    have HO := Lib.hid hO
    clear hN0 hN1 hN hO
    go_enter Tryz.func85, Tryz.ntmps85
    go_wp2_with fail
    refine HS.out.mono ?_
    rintro e w1 ⟨rfl, h1, k1⟩
    have gs := k1.size
    simp only [World.size_alloc] at gs
    have hZ1 := HZ.out.keep k1 (by show ¬ (w.heap.size = br); omega)
    go_wp2_with (at_make; refine wpList_make_full _ rfl _ _ 22 rfl 0 58 i0 _ 1 Tryz.underlying22 hi hz0 hz1 _ _ _ _ n rfl rfl rfl rfl (by rw [hz2]; omega) (by unfold maxLen; omega) (Nat.zero_le _) ?_; intro w2 hrow2 hg2; obtain ⟨rest, hrl, hB2⟩ := made_gen hrow2; have k2 : Keep NoB w1 w2 := (Keep.refl NoB w1).grown hg2 (fun g e _ => by cases e); clear hrow2 hg2)
    have h2 := h1.keep k2 (fun _ _ => id)
    have gK : Keep (fun k => k = br) w w2 := ((k0.mono (fun _ hf _ => hf.elim)).trans k1 (fun _ ho _ => ho)).trans (k2.mono (fun _ hf _ => hf.elim)) (fun _ ho _ => ho)
    have HZ2 := Lib.hid (hZ1.keep k2 id)
    clear h1 k1 k2 hZ1 HZ k0 z1 HS
    go_loopw [24] (fun i wr => ∃ k : Nat, k ≤ n ∧ i = .int .i64 k ∧ ∃ es : List SE, ∃ qk rest, Hid (rdK (S.decS l) k q = some (es.map (fun e => e.2), qk)) ∧ es.length = k ∧ rest.length = (n - k) * 1 ∧ Hid (Blk wr w1.heap.size 58 (svs es ++ rest).toArray) ∧ Hid (∀ e ∈ es, OwnS wr (fun b => w.heap.size ≤ b ∧ b ≠ w1.heap.size) e) ∧ V.ReelAt wr br Ob l qk ∧ Keep (fun k => k = br) w wr ∧ w1.heap.size < wr.heap.size ∧ Hid (Blk wr w.heap.size 86 #[.int .i64 0, .int .i64 64, .func (.func 72) #[] #[], .func (.func 73) #[] #[], .func (.func 74) #[] #[], .func (.func 75) #[] #[]])) (fun i _ => n - (intOf i).toNat)
    case atStart => exact ⟨0, Nat.zero_le _, rfl, [], q, rest, rfl, rfl, hrl, hB2, (fun _ h => nomatch h), h2, gK, hB2.lt, HZ2.out⟩
    case round =>
      clear hB2 h2 gK hrl HZ2
      obtain ⟨k, hk, rfl, es, qk, rest, hf, hel, hrl, hB, hE, hA, hK, hwz, hZ⟩ := hrel
      by_cases hlt : k < n
      · obtain ⟨old, r, rfl, hol, hrl2⟩ := split_at hrl (show 1 ≤ (n - k) * 1 by omega)
        have HE := Lib.hid (decS_cases wr br Ob l qk (fun k h => Nat.lt_of_lt_of_le (HO.out k h) hK.size) hA hlen)
        have z4 := hZ.out.cell 4
        simp only [List.getElem?_toArray, List.getElem?_cons_zero, List.getElem?_cons_succ] at z4
        clear hA
        go_wp2_with fail
        refine HE.out.mono ?_
        have hgo : ∀ k, Ob k → ¬ (k = w1.heap.size) := fun k h e => by have := HO.out k h; omega
        have hgz : ¬ (w1.heap.size = br) := by omega
        have hwbr : ¬ (w.heap.size = br) := by omega
        have hwg : ¬ (w.heap.size = w1.heap.size) := by omega
        rintro e w4 (⟨E, q4, ⟨ev, ey⟩, rfl, hE0, hnone, h4, k4⟩ | ⟨q4, ⟨ev, ey⟩, rfl, hsome, hO4, h4, k4⟩)
        · have hB4 := hB.out.keep k4 hgz
          have hK4 := hK.trans k4 (fun _ ho _ => ho)
          have hr3 : (E != 0) = true := by rw [bne_iff_ne]; exact hE0
          have HD2 := Lib.hid (HD.out.trans (rdK_none (rdK_succ_no hf.out hnone) n (by omega)))
          clear hB hK k4 hE hZ z4 hnone hf
          obtain ⟨A1, n1, d1⟩ := ev
          have HU : Hid (∀ c ∈ (Value.slice A1 n1 d1).cells.toList, c.oneCell' = true) := fun u hu => by
            simp [Value.cells] at hu
            subst hu; rfl
          dsimp only [SV.val]
          go_wp2_with (refine wpList_putN rfl _ _ rfl shape_size1 hB4 (by rw [svs_length, hel]) hol (by rfl) HU.out rfl rfl ?_; intro w6 hB6 k6)
          go_ret2
          exact .inl ⟨HD2.out, rfl, ⟨q4, h4.keep k6 hgo⟩, hK4.trans k6 (fun b e hl => by omega)⟩
        · have hB4 := hB.out.keep k4 hgz
          have hK4 := hK.trans k4 (fun _ ho _ => ho)
          have hZ4 := hZ.out.keep k4 hwbr
          have HE4 : Hid (∀ e ∈ es, OwnS w4 (fun b => w.heap.size ≤ b ∧ b ≠ w1.heap.size) e) := fun e he => (hE.out e he).keep k4 (fun b hb e => by omega)
          have HN : Hid (OwnS w4 (fun b => w.heap.size ≤ b ∧ b ≠ w1.heap.size) (ev, ey)) := hO4.mono (fun b (hb : Fresh wr b) _ => ⟨Nat.le_trans hK.size hb, by have : wr.heap.size ≤ b := hb; omega⟩)
          have HF2 : Hid (rdK (S.decS l) (k + 1) q = some ((es ++ [(ev, ey)]).map (fun e => e.2), q4)) := by
            show _ = _
            rw [rdK_succ hf.out hsome]; simp
          have hsz4 := k4.size
          clear hB hK k4 hE hZ z4 hsome hf hO4
          obtain ⟨A1, n1, d1⟩ := ev
          have HU : Hid (∀ c ∈ (Value.slice A1 n1 d1).cells.toList, c.oneCell' = true) := fun u hu => by
            simp [Value.cells] at hu
            subst hu; rfl
          have HL := Lib.hid (And.intro HE4.out (And.intro HN.out (And.intro hK4 (And.intro h4 hZ4))))
          clear HE4 HN hK4 h4 hZ4
          dsimp only [SV.val]
          go_wp2_with (refine wpList_putN rfl _ _ rfl shape_size1 hB4 (by rw [svs_length, hel]) hol (by rfl) HU.out rfl rfl ?_; intro w6 hB6 k6)
          obtain ⟨HE4, HN, hK4, h4, hZ4⟩ := HL.out
          have hE6 : ∀ e ∈ es ++ [((⟨A1, n1, d1⟩ : SV), ey)], OwnS w6 (fun b => w.heap.size ≤ b ∧ b ≠ w1.heap.size) e := fun e he => by
            rcases List.mem_append.1 he with he | he
            · exact (HE4 e he).keep k6 (fun b hb e => hb.2 e)
            · rw [List.mem_singleton.1 he]; exact HN.keep k6 (fun b hb e => hb.2 e)
          have hBe : (svs es ++ [Value.slice A1 n1 d1] ++ r) = svs (es ++ [((⟨A1, n1, d1⟩ : SV), ey)]) ++ r := by rw [svs_append]; rfl
          replace hB6 : Blk w6 w1.heap.size 58 (svs (es ++ [((⟨A1, n1, d1⟩ : SV), ey)]) ++ r).toArray := by rw [← hBe]; exact hB6
          have hsz6 := k6.size
          go_roundw
          case rel => exact ⟨k + 1, by omega, by go_num, es ++ [((⟨A1, n1, d1⟩ : SV), ey)], q4, r, HF2.out, by simp [hel], by omega, hB6, hE6, h4.keep k6 hgo, hK4.trans k6 (fun b e hl => by omega), by omega, hZ4.keep k6 hwg⟩
          case measure => simp [intOf]; omega
      · obtain rfl : k = n := by omega
        obtain rfl : rest = [] := List.length_eq_zero_iff.1 (by rw [hrl]; omega)
        rw [List.append_nil] at hB
        rw [hf.out] at HD
        have hown : Own wr 58 1 (Fresh w) (.slice (some ⟨w1.heap.size, 0, none⟩) k k) k (svs es) := own_blk hB.out (by rw [svs_length, hel]; omega) (by unfold maxLen; omega) (by unfold Fresh; omega)
        clear hB hf
        go_wp2
        go_ret2
        exact .inr ⟨qk, _, k, k, es, HD.out, rfl, hown, fun e he => (hE.out e he).mono (fun b hb _ => hb.1), hA, hK⟩
  · have e1 := rdLS_1 hN hr
    rw [e1]
    have hr3 : ((r : Int) != 0) = true := by rw [bne_iff_ne]; omega
    clear hN0 hN1 hN hr e1
    go_enter Tryz.func85, Tryz.ntmps85
    go_wp2_with fail
    refine HS.out.mono ?_
    rintro e w1 ⟨rfl, h1, k1⟩
    go_wp2
    go_ret2
    exact .inl ⟨rfl, rfl, ⟨_, h1⟩, (k0.mono (fun _ hf _ => hf.elim)).trans k1 (fun _ ho _ => ho)⟩

/-- Parts that are owned, each. -/
def OwnF (W : World) (P : Nat → Prop) (e : FE) : Prop := F.OwnF W P e.1 e.2
theorem OwnF.keep {W W' : World} {P O : Nat → Prop} {e : FE} (h : OwnF W P e) (hk : Keep O W W') (hn : ∀ k, P k → ¬ O k) : OwnF W' P e := by
  unfold OwnF at *
  exact h.keep hk hn
theorem OwnF.mono {W : World} {P P' : Nat → Prop} {e : FE} (h : OwnF W P e) (hP : ∀ k, P k → k < W.heap.size → P' k) : OwnF W P' e := by
  unfold OwnF at *
  exact h.mono hP
/-- How read ends. -/
def RdRF (w : World) (br : Nat) (At : World → Nat → Prop) (R : Option (List (F.Fu) × Nat)) (e : Ending) (w' : World) : Prop :=
  (R = none ∧ e = .returned (.tuple #[.slice none 0 0, .bool false]) ∧ (∃ q, At w' q) ∧ Keep (fun k => k = br) w w') ∨
  (∃ q A n c, ∃ es : List FE, R = some (es.map (fun e => e.2), q) ∧ e = .returned (.tuple #[.slice A n c, .bool true]) ∧ Own w' 61 5 (Fresh w) (.slice A n c) n (fvs es) ∧ (∀ e ∈ es, OwnF w' (Fresh w) e) ∧ At w' q ∧ Keep (fun k => k = br) w w')
theorem rdLF_1 {l : List UInt8} {p n r q : Nat} (h : V.NumR l p 64 = (n, r, q)) (hr : r ≠ 0) : rdL (F.decF l) l p = none := by unfold rdL; rw [h]; exact if_neg hr
theorem rdLF_2 {l : List UInt8} {p n q : Nat} (h : V.NumR l p 64 = (n, 0, q)) : rdL (F.decF l) l p = rdK (F.decF l) n q := by unfold rdL; rw [h]; exact if_pos rfl
/-- One part read: a failure, or the part, owned. -/
theorem decF_cases (w : World) (br : Nat) (Ob : Nat → Prop) (l : List UInt8) (p : Nat) (hO : ∀ k, Ob k → k < w.heap.size) (h : V.ReelAt w br Ob l p) (hlen : l.length ≤ 140737488355328) :
    Calls Tryz.prog 78 #[.pointer (some ⟨br, 0, none⟩)] w fun r w' => (∃ E q, ∃ e : FE, r = .returned (.tuple #[e.1.val, .int .i64 E]) ∧ E ≠ 0 ∧ (F.decF l) p = none ∧ V.ReelAt w' br Ob l q ∧ Keep (fun k => k = br) w w') ∨
      (∃ q, ∃ e : FE, r = .returned (.tuple #[e.1.val, .int .i64 0]) ∧ (F.decF l) p = some (e.2, q) ∧ OwnF w' (Fresh w) e ∧ V.ReelAt w' br Ob l q ∧ Keep (fun k => k = br) w w') := by
  refine (F.decodeF_any w br Ob l p hO h hlen).mono ?_
  rintro r w' (⟨h1, rfl, ⟨q, hat⟩, hk⟩ | ⟨f, q, v, h1, rfl, hv, hat, hk⟩)
  · exact .inl ⟨70, q, (F.nilV, F.nilF), rfl, by decide, h1, hat, hk⟩
  · exact .inr ⟨q, (v, f), rfl, h1, hv, hat, hk⟩

set_option maxRecDepth 100000 in
set_option maxHeartbeats 8000000 in
theorem readF_any (w : World) (br : Nat) (Ob : Nat → Prop) (l : List UInt8) (p : Nat) (hO : ∀ k, Ob k → k < w.heap.size) (h : V.ReelAt w br Ob l p) (hlen : l.length ≤ 140737488355328) :
    Calls Tryz.prog 86 #[.pointer (some ⟨br, 0, none⟩), partF] w (RdRF w br (fun w' q => V.ReelAt w' br Ob l q) (rdL (F.decF l) l p)) := by
  have hbr := S.reel_lt h
  have bz := Blk.new w 93 #[.int .i64 1, .int .i64 64, F.fnV 76, F.fnV 77, F.fnV 78, F.fnV 79]
  have k0 := (Keep.refl NoB w).alloc (.cells #[.int .i64 1, .int .i64 64, F.fnV 76, F.fnV 77, F.fnV 78, F.fnV 79] 93)
  have HS := Lib.hid (V.rnumber_any _ br Ob l p 64 (h.keep k0 (fun _ _ => id)) hlen)
  obtain ⟨n, r, q, hN, hN0, hN1⟩ := S.num_case l p 64
  rw [hN] at HS
  have z1 := bz.cell 1
  simp only [List.getElem?_toArray, List.getElem?_cons_zero, List.getElem?_cons_succ] at z1
  have HZ := Lib.hid bz
  unfold partF F.fnV at *
  clear h bz
  by_cases hr : r = 0
  · subst hr
    obtain ⟨hn1, hn2⟩ := hN0 rfl
    have HD := Lib.hid (rdLF_2 hN)
    obtain ⟨i0, hi, hz0, hz1, hz2⟩ := info_parts fun_info
    have HO := Lib.hid hO
    clear hN0 hN1 hN hO
    go_enter Tryz.func86, Tryz.ntmps86
    go_wp2_with fail
    refine HS.out.mono ?_
    rintro e w1 ⟨rfl, h1, k1⟩
    have gs := k1.size
    simp only [World.size_alloc] at gs
    have hZ1 := HZ.out.keep k1 (by show ¬ (w.heap.size = br); omega)
    go_wp2_with (at_make; refine wpList_make_full _ rfl _ _ 23 rfl 0 61 i0 _ 5 Tryz.underlying23 hi hz0 hz1 _ _ _ _ n rfl rfl rfl rfl (by rw [hz2]; omega) (by unfold maxLen; omega) (Nat.zero_le _) ?_; intro w2 hrow2 hg2; obtain ⟨rest, hrl, hB2⟩ := made_gen hrow2; have k2 : Keep NoB w1 w2 := (Keep.refl NoB w1).grown hg2 (fun g e _ => by cases e); clear hrow2 hg2)
    have h2 := h1.keep k2 (fun _ _ => id)
    have gK : Keep (fun k => k = br) w w2 := ((k0.mono (fun _ hf _ => hf.elim)).trans k1 (fun _ ho _ => ho)).trans (k2.mono (fun _ hf _ => hf.elim)) (fun _ ho _ => ho)
    have HZ2 := Lib.hid (hZ1.keep k2 id)
    clear h1 k1 k2 hZ1 HZ k0 z1 HS
    go_loopw [24] (fun i wr => ∃ k : Nat, k ≤ n ∧ i = .int .i64 k ∧ ∃ es : List FE, ∃ qk rest, Hid (rdK (F.decF l) k q = some (es.map (fun e => e.2), qk)) ∧ es.length = k ∧ rest.length = (n - k) * 5 ∧ Hid (Blk wr w1.heap.size 61 (fvs es ++ rest).toArray) ∧ Hid (∀ e ∈ es, OwnF wr (fun b => w.heap.size ≤ b ∧ b ≠ w1.heap.size) e) ∧ V.ReelAt wr br Ob l qk ∧ Keep (fun k => k = br) w wr ∧ w1.heap.size < wr.heap.size ∧ Hid (Blk wr w.heap.size 93 #[.int .i64 1, .int .i64 64, .func (.func 76) #[] #[], .func (.func 77) #[] #[], .func (.func 78) #[] #[], .func (.func 79) #[] #[]])) (fun i _ => n - (intOf i).toNat)
    case atStart => exact ⟨0, Nat.zero_le _, rfl, [], q, rest, rfl, rfl, hrl, hB2, (fun _ h => nomatch h), h2, gK, hB2.lt, HZ2.out⟩
    case round =>
      clear hB2 h2 gK hrl HZ2
      obtain ⟨k, hk, rfl, es, qk, rest, hf, hel, hrl, hB, hE, hA, hK, hwz, hZ⟩ := hrel
      by_cases hlt : k < n
      · obtain ⟨old, r, rfl, hol, hrl2⟩ := split_at hrl (show 5 ≤ (n - k) * 5 by omega)
        have HE := Lib.hid (decF_cases wr br Ob l qk (fun k h => Nat.lt_of_lt_of_le (HO.out k h) hK.size) hA hlen)
        have z4 := hZ.out.cell 4
        simp only [List.getElem?_toArray, List.getElem?_cons_zero, List.getElem?_cons_succ] at z4
        clear hA
        go_wp2_with fail
        refine HE.out.mono ?_
        have hgo : ∀ k, Ob k → ¬ (k = w1.heap.size) := fun k h e => by have := HO.out k h; omega
        have hgz : ¬ (w1.heap.size = br) := by omega
        have hwbr : ¬ (w.heap.size = br) := by omega
        have hwg : ¬ (w.heap.size = w1.heap.size) := by omega
        rintro e w4 (⟨E, q4, ⟨ev, ey⟩, rfl, hE0, hnone, h4, k4⟩ | ⟨q4, ⟨ev, ey⟩, rfl, hsome, hO4, h4, k4⟩)
        · have hB4 := hB.out.keep k4 hgz
          have hK4 := hK.trans k4 (fun _ ho _ => ho)
          have hr3 : (E != 0) = true := by rw [bne_iff_ne]; exact hE0
          have HD2 := Lib.hid (HD.out.trans (rdK_none (rdK_succ_no hf.out hnone) n (by omega)))
          clear hB hK k4 hE hZ z4 hnone hf
          obtain ⟨S1, A1, na1, ca1, B1, nb1, cb1, L1, nl1, cl1, D1, nd1, cd1⟩ := ev
          have HU : Hid (∀ c ∈ (Value.agg #[.string S1, .slice A1 na1 ca1, .slice B1 nb1 cb1, .slice L1 nl1 cl1, .slice D1 nd1 cd1]).cells.toList, c.oneCell' = true) := fun u hu => by
            simp [Value.cells] at hu
            rcases hu with rfl | rfl | rfl | rfl | rfl <;> rfl
          dsimp only [F.FV.val, F.FV.cells]
          go_wp2_with (refine wpList_putN rfl _ _ rfl F.fun_size hB4 (by rw [fvs_length, hel]) hol (by rfl) HU.out rfl rfl ?_; intro w6 hB6 k6)
          go_ret2
          exact .inl ⟨HD2.out, rfl, ⟨q4, h4.keep k6 hgo⟩, hK4.trans k6 (fun b e hl => by omega)⟩
        · have hB4 := hB.out.keep k4 hgz
          have hK4 := hK.trans k4 (fun _ ho _ => ho)
          have hZ4 := hZ.out.keep k4 hwbr
          have HE4 : Hid (∀ e ∈ es, OwnF w4 (fun b => w.heap.size ≤ b ∧ b ≠ w1.heap.size) e) := fun e he => (hE.out e he).keep k4 (fun b hb e => by omega)
          have HN : Hid (OwnF w4 (fun b => w.heap.size ≤ b ∧ b ≠ w1.heap.size) (ev, ey)) := hO4.mono (fun b (hb : Fresh wr b) _ => ⟨Nat.le_trans hK.size hb, by have : wr.heap.size ≤ b := hb; omega⟩)
          have HF2 : Hid (rdK (F.decF l) (k + 1) q = some ((es ++ [(ev, ey)]).map (fun e => e.2), q4)) := by
            show _ = _
            rw [rdK_succ hf.out hsome]; simp
          have hsz4 := k4.size
          clear hB hK k4 hE hZ z4 hsome hf hO4
          obtain ⟨S1, A1, na1, ca1, B1, nb1, cb1, L1, nl1, cl1, D1, nd1, cd1⟩ := ev
          have HU : Hid (∀ c ∈ (Value.agg #[.string S1, .slice A1 na1 ca1, .slice B1 nb1 cb1, .slice L1 nl1 cl1, .slice D1 nd1 cd1]).cells.toList, c.oneCell' = true) := fun u hu => by
            simp [Value.cells] at hu
            rcases hu with rfl | rfl | rfl | rfl | rfl <;> rfl
          have HL := Lib.hid (And.intro HE4.out (And.intro HN.out (And.intro hK4 (And.intro h4 hZ4))))
          clear HE4 HN hK4 h4 hZ4
          dsimp only [F.FV.val, F.FV.cells]
          go_wp2_with (refine wpList_putN rfl _ _ rfl F.fun_size hB4 (by rw [fvs_length, hel]) hol (by rfl) HU.out rfl rfl ?_; intro w6 hB6 k6)
          obtain ⟨HE4, HN, hK4, h4, hZ4⟩ := HL.out
          have hE6 : ∀ e ∈ es ++ [((⟨S1, A1, na1, ca1, B1, nb1, cb1, L1, nl1, cl1, D1, nd1, cd1⟩ : F.FV), ey)], OwnF w6 (fun b => w.heap.size ≤ b ∧ b ≠ w1.heap.size) e := fun e he => by
            rcases List.mem_append.1 he with he | he
            · exact (HE4 e he).keep k6 (fun b hb e => hb.2 e)
            · rw [List.mem_singleton.1 he]; exact HN.keep k6 (fun b hb e => hb.2 e)
          have hBe : (fvs es ++ [Value.string S1, .slice A1 na1 ca1, .slice B1 nb1 cb1, .slice L1 nl1 cl1, .slice D1 nd1 cd1] ++ r) = fvs (es ++ [((⟨S1, A1, na1, ca1, B1, nb1, cb1, L1, nl1, cl1, D1, nd1, cd1⟩ : F.FV), ey)]) ++ r := by rw [fvs_append]; rfl
          replace hB6 : Blk w6 w1.heap.size 61 (fvs (es ++ [((⟨S1, A1, na1, ca1, B1, nb1, cb1, L1, nl1, cl1, D1, nd1, cd1⟩ : F.FV), ey)]) ++ r).toArray := by rw [← hBe]; exact hB6
          have hsz6 := k6.size
          go_roundw
          case rel => exact ⟨k + 1, by omega, by go_num, es ++ [((⟨S1, A1, na1, ca1, B1, nb1, cb1, L1, nl1, cl1, D1, nd1, cd1⟩ : F.FV), ey)], q4, r, HF2.out, by simp [hel], by omega, hB6, hE6, h4.keep k6 hgo, hK4.trans k6 (fun b e hl => by omega), by omega, hZ4.keep k6 hwg⟩
          case measure => simp [intOf]; omega
      · obtain rfl : k = n := by omega
        obtain rfl : rest = [] := List.length_eq_zero_iff.1 (by rw [hrl]; omega)
        rw [List.append_nil] at hB
        rw [hf.out] at HD
        have hown : Own wr 61 5 (Fresh w) (.slice (some ⟨w1.heap.size, 0, none⟩) k k) k (fvs es) := own_blk hB.out (by rw [fvs_length, hel]) (by unfold maxLen; omega) (by unfold Fresh; omega)
        clear hB hf
        go_wp2
        go_ret2
        exact .inr ⟨qk, _, k, k, es, HD.out, rfl, hown, fun e he => (hE.out e he).mono (fun b hb _ => hb.1), hA, hK⟩
  · have e1 := rdLF_1 hN hr
    rw [e1]
    have hr3 : ((r : Int) != 0) = true := by rw [bne_iff_ne]; omega
    clear hN0 hN1 hN hr e1
    go_enter Tryz.func86, Tryz.ntmps86
    go_wp2_with fail
    refine HS.out.mono ?_
    rintro e w1 ⟨rfl, h1, k1⟩
    go_wp2
    go_ret2
    exact .inl ⟨rfl, rfl, ⟨_, h1⟩, (k0.mono (fun _ hf _ => hf.elim)).trans k1 (fun _ ho _ => ho)⟩

end Go.Proofs.YtgifflfjhockaaaGreatDoor.I

namespace Go.Proofs.YtgifflfjhockaaaGreatDoor.I
open Go.RowKit W

/-- How many instructions there are. -/
def ndS (fs : List FE) : Nat := (fs.map fun e => e.1.nd).sum
theorem ndS_take {fs : List FE} {k : Nat} (h : k < fs.length) : ndS (fs.take (k + 1)) = ndS (fs.take k) + fs[k].1.nd := by
  unfold ndS; rw [List.take_succ_eq_append_getElem h, List.map_append, List.sum_append]; rfl
theorem blk2 {w : World} {g : Nat} {v : IV} (h : Blk w g 25 v.cells) : w.cell? ⟨g, 0, none⟩ = some (.slice v.X v.nx v.cx) ∧ w.cell? ⟨g, 1, none⟩ = some (.slice v.Y v.ny v.cy) := ⟨h.cell 0, h.cell 1⟩
/-- An image whose lists a machine holds. -/
structure LgI (v : IV) (es : List SE) (fs : List FE) : Prop where
  nx : v.nx ≤ 140737488355328
  ny : v.ny ≤ 140737488355328
  sh : ∀ e ∈ es, e.1.n ≤ 140737488355328
  fn : ∀ e ∈ fs, F.LgF e.1

set_option maxRecDepth 100000 in
set_option maxHeartbeats 4000000 in
theorem great_any (v : IV) (es : List SE) (fs : List FE) (w : World) (h : ImAt w v es fs) (hl : LgI v es fs) :
    Calls Tryz.prog 10 #[v.val] w fun e w' => ((e = .returned (.int .i64 0) ∧ SmI es fs ∧ ndS fs ≤ 5000) ∨ e = .returned (.int .i64 1)) ∧ Keep NoB w w' := by
  have bx := Blk.new w 25 v.cells
  have k0 := (Keep.refl NoB w).alloc (.cells v.cells 25)
  have HI := Lib.hid (h.keepN k0)
  obtain ⟨q0, q1⟩ := blk2 bx
  have hlx := h.lx
  have hly := h.ly
  have hx := hl.nx
  have hy := hl.ny
  have HS := Lib.hid hl.sh
  have HF := Lib.hid hl.fn
  have HB := Lib.hid bx
  obtain ⟨X, nx, cx, Y, ny, cy⟩ := v
  dsimp only [IV.val, IV.cells] at *
  clear h hl bx
  by_cases hg : nx ≤ 70
  · by_cases hg2 : ny ≤ 70
    · go_enter Tryz.func10, Tryz.ntmps10
      go_wp2
      go_loop [3] (fun i => ∃ k : Nat, k ≤ nx ∧ i = .int .i64 k ∧ Hid (∀ e ∈ es.take k, e.1.n ≤ 100)) (fun i => nx - (intOf i).toNat)
      case atStart => exact ⟨0, Nat.zero_le _, rfl, fun e h => by simp at h⟩
      case round =>
        obtain ⟨k, hk, rfl, hT⟩ := hrel
        by_cases hlt : k < nx
        · have hke : k < es.length := by omega
          obtain ⟨g, off, rfl, c0⟩ := shape_at HI.out.rx hke
          have hL := HS.out _ (List.getElem_mem hke)
          have HT : Hid (es[k].1.n ≤ 100 → ∀ e ∈ es.take (k + 1), e.1.n ≤ 100) := fun h e he => by
            rw [List.take_succ_eq_append_getElem hke] at he
            rcases List.mem_append.1 he with he | he
            · exact hT.out e he
            · rw [List.mem_singleton.1 he]; exact h
          clear hT
          generalize es[k] = e at c0 hL HT
          obtain ⟨⟨A1, n1, d1⟩, l⟩ := e
          dsimp only [SV.val] at c0 hL HT
          by_cases h1 : n1 ≤ 100
          · have HV := Lib.hid (HT.out h1)
            clear HT
            go_wp2
            go_round
            case rel => exact ⟨k + 1, by omega, by go_num, HV⟩
            case measure => simp [intOf]; omega
          · clear HT
            go_wp2
            go_ret
            exact ⟨.inr rfl, k0⟩
        · obtain rfl : k = nx := by omega
          have HV : Hid (∀ e ∈ es, e.1.n ≤ 100) := by show ∀ e ∈ es, e.1.n ≤ 100; rw [← List.take_of_length_le (l := es) (i := k) (by omega)]; exact hT.out
          clear hT hlt
          have hF := fun e he => HF.out e he
          go_wp2
          go_loopw [4, 5] (fun s i wr => ∃ j : Nat, j ≤ ny ∧ i = .int .i64 j ∧ s = .int .i64 (ndS (fs.take j) : Nat) ∧ ndS (fs.take j) ≤ 5000 ∧ Hid (∀ e ∈ fs.take j, F.SmF e.1) ∧ Keep NoB (w.alloc (.cells #[.slice X k cx, .slice Y ny cy] 25)) wr) (fun _ i _ => ny - (intOf i).toNat)
          case atStart => exact ⟨0, Nat.zero_le _, rfl, rfl, Nat.zero_le _, fun e h => by simp at h, Keep.refl _ _⟩
          case round =>
            obtain ⟨j, hj, rfl, rfl, hs5, hT, hK⟩ := hrel
            replace q1 := hK.cell q1 id
            by_cases hlt : j < ny
            · have hje : j < fs.length := by omega
              obtain ⟨g, off, rfl, c0, c1, c2, c3, c4⟩ := fun_at (HI.out.keepN hK).ry hje
              have hL := hF _ (List.getElem_mem hje)
              have hnd := ndS_take hje
              have HT : Hid (F.SmF fs[j].1 → ∀ e ∈ fs.take (j + 1), F.SmF e.1) := fun h e he => by
                rw [List.take_succ_eq_append_getElem hje] at he
                rcases List.mem_append.1 he with he | he
                · exact hT.out e he
                · rw [List.mem_singleton.1 he]; exact h
              clear hT
              generalize fs[j] = e at c0 c1 c2 c3 c4 hL HT hnd
              obtain ⟨fv, f⟩ := e
              dsimp only at c0 c1 c2 c3 c4 hL HT hnd
              have hL4 := hL.nd
              clear hF HF HS hL
              generalize ndS (fs.take j) = N at *
              by_cases h1 : F.SmF fv
              · have HG := Lib.hid (fun w => F.great_no fv w h1)
                have HV := Lib.hid (HT.out h1)
                clear HT h1
                obtain ⟨S1, A1, na1, ca1, B1, nb1, cb1, L1, nl1, cl1, D1, nd1, cd1⟩ := fv
                dsimp only [F.FV.val, F.FV.cells] at *
                by_cases h5 : N + nd1 ≤ 5000
                · go_wp2_with fail
                  refine (HG.out _).mono ?_
                  rintro e w1 ⟨rfl, k1⟩
                  have hK1 := keepN hK k1
                  go_wp2
                  go_roundw
                  case rel => exact ⟨j + 1, by omega, by go_num, by rw [hnd]; go_num, by omega, HV, hK1⟩
                  case measure => simp [intOf]; omega
                · have h6 : (5000 : Int) < (N : Int) + (nd1 : Int) := by omega
                  go_wp2_with fail
                  refine (HG.out _).mono ?_
                  rintro e w1 ⟨rfl, k1⟩
                  have hK1 := keepN hK k1
                  go_wp2
                  go_ret
                  exact ⟨.inr rfl, keepN k0 hK1⟩
              · have HG := Lib.hid (fun w => F.great_yes fv w h1)
                clear HT h1
                obtain ⟨S1, A1, na1, ca1, B1, nb1, cb1, L1, nl1, cl1, D1, nd1, cd1⟩ := fv
                dsimp only [F.FV.val, F.FV.cells] at *
                go_wp2_with fail
                refine (HG.out _).mono ?_
                rintro e w1 ⟨rfl, k1⟩
                have hK1 := keepN hK k1
                go_wp2
                go_ret
                exact ⟨.inr rfl, keepN k0 hK1⟩
            · obtain rfl : j = ny := by omega
              have hall : fs.take j = fs := List.take_of_length_le (by omega)
              rw [hall] at hs5 hT
              have HR : Hid (SmI es fs ∧ ndS fs ≤ 5000) := ⟨⟨by omega, by omega, HV.out, hT.out⟩, hs5⟩
              clear hF HF HS HV hT hs5
              go_wp2
              go_ret
              exact ⟨.inl ⟨rfl, HR.out.1, HR.out.2⟩, keepN k0 hK⟩
    · have hd : decide ((70 : Int) < (ny : Int)) = true := by rw [decide_eq_true_iff]; omega
      go_enter Tryz.func10, Tryz.ntmps10
      go_wp2
      go_ret
      exact ⟨.inr rfl, k0⟩
  · have hd : decide ((70 : Int) < (nx : Int)) = true := by rw [decide_eq_true_iff]; omega
    go_enter Tryz.func10, Tryz.ntmps10
    go_wp2
    go_ret
    exact ⟨.inr rfl, k0⟩

end Go.Proofs.YtgifflfjhockaaaGreatDoor.I

namespace Go.Proofs.YtgifflfjhockaaaGreatDoor.I
open Go.RowKit W

theorem img_size : (Tryz.prog.info? 25).map (·.size) = some 2 := by kernel_rfl
theorem ret_imgE {fn : Func} {tmps : Array Value} {w : World} {g : Nat} {v : IV} {e : Value} (h : fn.results = #[.cell 2 25, .tmp 3]) (hp : tmps.getD 2 undef = .pointer (some ⟨g, 0, none⟩)) (hb : Blk w g 25 v.cells) (he : tmps.getD 3 undef = e) :
    (results fn tmps).run Tryz.prog w = .ok (.tuple #[v.val, e]) w := by
  rw [results_cell_tmp h, hp, he]
  simp only [asAddr, Sem.run_pure, Result.andThen_ok]
  rw [run_loadVar_row w g 25 25 v.cells (0, 0) _ hb Tryz.underlying25 rfl img_size]
  rfl
theorem ret_img {fn : Func} {p : Tmp} {tmps : Array Value} {w : World} {g : Nat} {v : IV} (h : fn.results = #[.cell p 25]) (hp : tmps.getD p undef = .pointer (some ⟨g, 0, none⟩)) (hb : Blk w g 25 v.cells) :
    (results fn tmps).run Tryz.prog w = .ok v.val w :=
  results_cell_row h tmps w g 25 v.cells (0, 0) _ hp hb Tryz.underlying25 rfl img_size
theorem put2_img {W : World} {g : Nat} {x y : Value} (h : Blk W g 25 #[x, y]) (u v : Value) : Blk ((W.setCell ⟨g, 0, none⟩ u).setCell ⟨g, 1, none⟩ v) g 25 #[u, v] := by
  have := (h.put 0 u).put 1 v
  simpa using this
theorem keep2_img (W : World) (g : Nat) (u v : Value) : Keep (fun k => k = g) W ((W.setCell ⟨g, 0, none⟩ u).setCell ⟨g, 1, none⟩ v) :=
  ((Keep.refl (fun k => k = g) W).setCell (p := ⟨g, 0, none⟩) (fun _ => rfl) u).setCell (p := ⟨g, 1, none⟩) (fun _ => rfl) v
/-- How inner ends. -/
def InnR (w : World) (l : List UInt8) (e : Ending) (w' : World) : Prop :=
  ∃ v es fs, ∃ b : Bool, e = .returned (.tuple #[v.val, .bool b]) ∧ OwnIm w' (Fresh w) v es fs ∧ Keep NoB w w' ∧ (b = true → rdI l 0 = some (imOf es fs, l.length)) ∧ (b = false → ∀ x, rdI l 0 = some x → x.2 ≠ l.length)
theorem end_of {q n : Nat} : ((if q < n then (13 : Int) else 0) == 0) = decide (n ≤ q) := by
  by_cases h : q < n
  · rw [if_pos h, decide_eq_false (by omega)]; rfl
  · rw [if_neg h, decide_eq_true (by omega)]; rfl

set_option maxRecDepth 100000 in
set_option maxHeartbeats 8000000 in
theorem inner_any (A : Option Addr) (l : List UInt8) (c : Nat) (w : World) (hr : V.Rd w A l) (hlen : l.length ≤ 140737488355328) :
    Calls Tryz.prog 44 #[.slice A l.length c] w (InnR w l) := by
  have bz := Blk.new w 25 nilW.cells
  have k0 := (Keep.refl NoB w).alloc (.cells nilW.cells 25)
  have HO := Lib.hid (V.on_any (w.alloc (.cells nilW.cells 25)) A l c (hr.keep k0 (fun _ _ _ => id)) hlen)
  have HB := Lib.hid bz
  have hb0 := bz.lt
  unfold nilW IV.cells at *
  dsimp only at *
  generalize hw0 : w.alloc (.cells #[.slice none 0 0, .slice none 0 0] 25) = w0 at *
  clear hr bz
  go_enter Tryz.func44, Tryz.ntmps44
  go_wp2_with fail
  refine HO.out.mono ?_
  rintro e w1 ⟨br, rfl, h1, k1⟩
  have hbr : w.heap.size < br := by
    have := h1.1
    unfold Fresh at this; omega
  have h1' : V.ReelAt w1 br (fun k => w.heap.size < k ∧ k < w1.heap.size) l 0 := h1.mono (fun k hk hl => ⟨by unfold Fresh at hk; omega, hl⟩)
  have hB1 := HB.out.keep k1 id
  have gK := keepN k0 k1
  clear h1 k1 hw0 HO HB
  go_wp2_with fail
  refine (partsS_any _).mono ?_
  rintro e w2 ⟨rfl, k2⟩
  have h2 := h1'.keep k2 (fun _ _ => id)
  have hB2 := hB1.keep k2 id
  replace gK := keepN gK k2
  have hz2 := k2.size
  have hbr2 := S.reel_lt h2
  clear h1' k2 hB1
  go_wp2_with fail
  refine (readS_any w2 br _ l 0 (fun k hk => by have := hk.2; omega) h2 hlen).mono ?_
  rintro e w3 (⟨hnone, rfl, ⟨q, h3⟩, k3⟩ | ⟨q, A3, n3, c3, es, hsome, rfl, hO3, hE3, h3, k3⟩)
  · have hB3 := hB2.keep k3 (by show ¬ (w.heap.size = br); omega)
    have gK3 := gK.trans k3 (fun k e hl => by omega)
    have HN := Lib.hid (rdI_1 hnone)
    have hlt3 := hB3.lt
    have f3 := fun i => hB3.frozen i
    have hc30 := hB3.cell 0
    have hc31 := hB3.cell 1
    simp only [List.getElem?_toArray, List.getElem?_cons_zero, List.getElem?_cons_succ] at hc30 hc31
    have HP := Lib.hid (put2_img hB3 (.slice none 0 0) (.slice none 0 0))
    have HK := Lib.hid (gK3.trans (keep2_img w3 w.heap.size (.slice none 0 0) (.slice none 0 0)) (fun k e hl => by omega))
    clear hB2 gK h2 h3 k3 hnone hB3 gK3
    go_wp2
    refine bodyPost_ret (ret_imgE (v := nilW) rfl rfl HP.out rfl) rfl ?_
    exact ⟨nilW, [], [], false, rfl, nil_own _ _, HK.out, (fun h => nomatch h), fun _ x hx => by rw [HN.out] at hx; cases hx⟩
  · have hB3 := hB2.keep k3 (by show ¬ (w.heap.size = br); omega)
    have gK3 := gK.trans k3 (fun k e hl => by omega)
    have hz3 := k3.size
    have hbr3 := S.reel_lt h3
    have hw2 : w.heap.size < w2.heap.size := hB2.lt
    clear hB2 gK h2 k3
    go_wp2_with fail
    refine (partsF_any _).mono ?_
    rintro e w4 ⟨rfl, k4⟩
    have h4 := h3.keep k4 (fun _ _ => id)
    have hB4 := hB3.keep k4 id
    have gK4 := keepN gK3 k4
    have hO4 := hO3.keepN k4
    have hE4 : ∀ e ∈ es, OwnS w4 (Fresh w2) e := fun e he => (hE3 e he).keep k4 (fun _ _ => id)
    have hz4 := k4.size
    clear h3 hB3 gK3 hO3 hE3 k4
    go_wp2_with fail
    refine (readF_any w4 br _ l q (fun k hk => by have := hk.2; omega) h4 hlen).mono ?_
    rintro e w5 (⟨hnone, rfl, ⟨q5, h5⟩, k5⟩ | ⟨q5, A5, n5, c5, fs, hsome5, rfl, hO5, hF5, h5, k5⟩)
    · have hB5 := hB4.keep k5 (by show ¬ (w.heap.size = br); omega)
      have gK5 := gK4.trans k5 (fun k e hl => by omega)
      have hO5 := hO4.keep k5 (fun k hk e => by unfold Fresh at hk; omega)
      have hE5 : ∀ e ∈ es, OwnS w5 (Fresh w2) e := fun e he => (hE4 e he).keep k5 (fun k hk e => by unfold Fresh at hk; omega)
      have HN := Lib.hid (rdI_2 hsome hnone)
      have hlt5 := hB5.lt
      have f5 := fun i => hB5.frozen i
      have hc50 := hB5.cell 0
      have hc51 := hB5.cell 1
      simp only [List.getElem?_toArray, List.getElem?_cons_zero, List.getElem?_cons_succ] at hc50 hc51
      have HP := Lib.hid (put2_img hB5 (.slice A3 n3 c3) (.slice none 0 0))
      have kq := keep2_img w5 w.heap.size (.slice A3 n3 c3) (.slice none 0 0)
      have HK := Lib.hid (gK5.trans kq (fun k e hl => by omega))
      have HOI : Hid (OwnIm ((w5.setCell ⟨w.heap.size, 0, none⟩ (.slice A3 n3 c3)).setCell ⟨w.heap.size, 1, none⟩ (.slice none 0 0)) (Fresh w) ⟨A3, n3, c3, none, 0, 0⟩ es []) :=
        ⟨(hO5.keep kq (fun k hk e => by unfold Fresh at hk; omega)).mono (fun k hk _ => by unfold Fresh at *; omega), Own.nil _ _ _ _, fun e he => (((hE5 e he).keep kq (fun k hk e => by unfold Fresh at hk; omega)).mono (fun k hk _ => by unfold Fresh at *; omega) : OwnS _ (Fresh w) e), (fun _ h => nomatch h)⟩
      clear hB4 gK4 h4 h5 k5 hnone hB5 gK5 hO4 hE4 hO5 hE5 kq hsome
      go_wp2
      refine bodyPost_ret (ret_imgE (v := ⟨A3, n3, c3, none, 0, 0⟩) rfl rfl HP.out rfl) rfl ?_
      exact ⟨⟨A3, n3, c3, none, 0, 0⟩, es, [], false, rfl, HOI.out, HK.out, (fun h => nomatch h), fun _ x hx => by rw [HN.out] at hx; cases hx⟩
    · have hB5 := hB4.keep k5 (by show ¬ (w.heap.size = br); omega)
      have gK5 := gK4.trans k5 (fun k e hl => by omega)
      have hO3 := hO4.keep k5 (fun k hk e => by unfold Fresh at hk; omega)
      have hE3 : ∀ e ∈ es, OwnS w5 (Fresh w2) e := fun e he => (hE4 e he).keep k5 (fun k hk e => by unfold Fresh at hk; omega)
      have HN := Lib.hid (rdI_3 hsome hsome5)
      have hq5 : q5 ≤ l.length := h5.2.1
      clear hB4 gK4 h4 hO4 hE4 hsome hsome5
      go_wp2_with fail
      refine (V.end_any w5 br _ l q5 h5).mono ?_
      rintro e w6 ⟨rfl, k6⟩
      have hB6 := hB5.keep k6 id
      have gK6 := keepN gK5 k6
      have hO6 := hO3.keepN k6
      have hP6 := hO5.keepN k6
      have hE6 : ∀ e ∈ es, OwnS w6 (Fresh w2) e := fun e he => (hE3 e he).keep k6 (fun _ _ => id)
      have hF6 : ∀ e ∈ fs, OwnF w6 (Fresh w4) e := fun e he => (hF5 e he).keep k6 (fun _ _ => id)
      have hz6 := k6.size
      have hend := end_of (q := q5) (n := l.length)
      have hlt6 := hB6.lt
      have f6 := fun i => hB6.frozen i
      have hc60 := hB6.cell 0
      have hc61 := hB6.cell 1
      simp only [List.getElem?_toArray, List.getElem?_cons_zero, List.getElem?_cons_succ] at hc60 hc61
      have HP := Lib.hid (put2_img hB6 (.slice A3 n3 c3) (.slice A5 n5 c5))
      have kq := keep2_img w6 w.heap.size (.slice A3 n3 c3) (.slice A5 n5 c5)
      have HK := Lib.hid (gK6.trans kq (fun k e hl => by omega))
      have HOI : Hid (OwnIm ((w6.setCell ⟨w.heap.size, 0, none⟩ (.slice A3 n3 c3)).setCell ⟨w.heap.size, 1, none⟩ (.slice A5 n5 c5)) (Fresh w) ⟨A3, n3, c3, A5, n5, c5⟩ es fs) :=
        ⟨(hO6.keep kq (fun k hk e => by unfold Fresh at hk; omega)).mono (fun k hk _ => by unfold Fresh at *; omega), (hP6.keep kq (fun k hk e => by unfold Fresh at hk; omega)).mono (fun k hk _ => by unfold Fresh at *; omega),
          fun e he => (((hE6 e he).keep kq (fun k hk e => by unfold Fresh at hk; omega)).mono (fun k hk _ => by unfold Fresh at *; omega) : OwnS _ (Fresh w) e),
          fun e he => (((hF6 e he).keep kq (fun k hk e => by unfold Fresh at hk; omega)).mono (fun k hk _ => by unfold Fresh at *; omega) : OwnF _ (Fresh w) e)⟩
      have HE : Hid ((decide (l.length ≤ q5) = true → rdI l 0 = some (imOf es fs, l.length)) ∧ (decide (l.length ≤ q5) = false → ∀ x, rdI l 0 = some x → x.2 ≠ l.length)) := by
        refine ⟨fun h => ?_, fun h x hx => ?_⟩
        · have h7 := of_decide_eq_true h
          rw [HN.out]
          have : q5 = l.length := by omega
          rw [← this]; rfl
        · have h7 := of_decide_eq_false h
          rw [HN.out] at hx
          injection hx with hx
          rw [← hx]
          dsimp only; omega
      generalize (if q5 < l.length then (13 : Int) else 0) = E at *
      generalize decide (l.length ≤ q5) = bb at *
      clear hB5 gK5 h5 k5 hO3 hE3 hO5 hF5 hB6 gK6 hO6 hP6 hE6 hF6 kq HN k6
      go_wp2
      refine bodyPost_ret (ret_imgE (v := ⟨A3, n3, c3, A5, n5, c5⟩) rfl rfl HP.out rfl) rfl ?_
      exact ⟨⟨A3, n3, c3, A5, n5, c5⟩, es, fs, bb, rfl, HOI.out, HK.out, HE.out.1, HE.out.2⟩

end Go.Proofs.YtgifflfjhockaaaGreatDoor.I

namespace Go.Proofs.YtgifflfjhockaaaGreatDoor.I
open Go.RowKit W

/-- Parts of bytes in memory. -/
abbrev PE := SV × List UInt8
def PartAt (w : World) (e : PE) : Prop := V.Rd w e.1.A e.2 ∧ e.2.length = e.1.n
def pvs (ps : List PE) : List Value := ps.map fun e => e.1.val
def allB (ps : List PE) : List UInt8 := ps.flatMap fun e => e.2
theorem pvs_length (ps : List PE) : (pvs ps).length = ps.length := by simp [pvs]
theorem part_at {w : World} {X : Option Addr} {ps : List PE} (h : Rd w X (pvs ps)) {i : Nat} (hi : i < ps.length) : ∃ g off, X = some ⟨g, off, none⟩ ∧ w.cell? ⟨g, off + i, none⟩ = some (.slice ps[i].1.A ps[i].1.n ps[i].1.c) := by
  obtain ⟨g, off, e, hc⟩ := h (by rw [pvs_length]; omega)
  exact ⟨g, off, e, hc i _ (by simp [pvs, hi]; rfl)⟩
theorem allB_take {ps : List PE} {k : Nat} (h : k < ps.length) : allB (ps.take (k + 1)) = allB (ps.take k) ++ ps[k].2 := by
  unfold allB; rw [List.take_succ_eq_append_getElem h, List.flatMap_append]; simp
/-- The two numbers as the program holds them. -/
def sA (l : List UInt8) : Nat := (ad l).1 % 65521
def sB (l : List UInt8) : Nat := (ad l).2 % 65521
theorem sA_lt (l : List UInt8) : sA l < 65521 := Nat.mod_lt _ (by omega)
theorem sB_lt (l : List UInt8) : sB l < 65521 := Nat.mod_lt _ (by omega)
theorem sA_snoc (l : List UInt8) (x : UInt8) : sA (l ++ [x]) = (sA l + x.toNat) % 65521 := by unfold sA; rw [ad_snoc]; simp [adS]
theorem sB_snoc (l : List UInt8) (x : UInt8) : sB (l ++ [x]) = (sB l + (sA l + x.toNat) % 65521) % 65521 := by unfold sA sB; rw [ad_snoc]; simp only [adS]; omega
theorem sum_or (l : List UInt8) : bits .or .u32 ((sB l * 65536 : Nat) : Int) ((sA l : Nat) : Int) = (sumN l : Int) := by
  have h1 := sA_lt l
  have h2 := sB_lt l
  rw [u32_or_nat _ _ (by omega) (by omega)]
  congr 1
  have : sB l * 65536 ||| sA l = sB l * 65536 + sA l := by
    have h := Nat.shiftLeft_add_eq_or_of_lt (show sA l < 2 ^ 16 by omega) (sB l)
    rw [Nat.shiftLeft_eq] at h
    exact h.symm
  rw [this]; rfl
theorem rdB_at {w : World} {A : Option Addr} {l : List UInt8} (h : V.Rd w A l) (h0 : 0 < l.length) : ∃ ad, A = some ad ∧ ∀ (i : Nat) (hi : i < l.length), w.cell? (ad.add i) = some (.int .u8 (l[i].toNat : Int)) := by
  obtain ⟨ad, e, hc⟩ := h h0
  exact ⟨ad, e, fun i hi => hc i _ (by simp [V.bvs, V.bv, hi])⟩

set_option maxRecDepth 100000 in
set_option maxHeartbeats 4000000 in
theorem sum_any (P : Option Addr) (ps : List PE) (m c : Nat) (w : World) (hr : Rd w P (pvs ps)) (hn : Hid (ps.length = m)) (hp : Hid (∀ e ∈ ps, PartAt w e)) (hm : m ≤ 1000) (hl : Hid (∀ e ∈ ps, e.1.n ≤ 140737488355328)) (R : Nat) (hR : Hid (sumN (allB ps) = R)) :
    Calls Tryz.prog 18 #[.slice P m c] w fun e w' => e = .returned (.int .u32 (R : Int)) ∧ w = w' := by
  go_enter Tryz.func18, Tryz.ntmps18
  go_wp2
  go_loop [3, 4, 11] (fun a b i => ∃ k : Nat, k ≤ m ∧ i = .int .i64 k ∧ a = .int .u32 (sA (allB (ps.take k)) : Nat) ∧ b = .int .u32 (sB (allB (ps.take k)) : Nat)) (fun _ _ i => m - (intOf i).toNat)
  case atStart => exact ⟨0, Nat.zero_le _, rfl, rfl, rfl⟩
  case round =>
    obtain ⟨k, hk, rfl, rfl, rfl⟩ := hrel
    by_cases hlt : k < m
    · have hkp : k < ps.length := by rw [hn.out]; exact hlt
      obtain ⟨g, off, rfl, hc⟩ := part_at hr hkp
      have HT := Lib.hid (allB_take hkp)
      have HP := Lib.hid (hp.out _ (List.getElem_mem hkp))
      have hL := hl.out _ (List.getElem_mem hkp)
      generalize ps[k] = e at hc HT HP hL
      obtain ⟨⟨A, n, c'⟩, l⟩ := e
      dsimp only at hc HT HP hL
      have hln : l.length = n := HP.out.2
      have HRB : Hid (V.Rd w A l) := HP.out.1
      clear hr
      generalize allB (ps.take k) = pre at HT ⊢
      go_wp2
      go_loop [3, 4, 17] (fun a b i => ∃ j : Nat, j ≤ n ∧ i = .int .i64 j ∧ a = .int .u32 (sA (pre ++ l.take j) : Nat) ∧ b = .int .u32 (sB (pre ++ l.take j) : Nat)) (fun _ _ i => n - (intOf i).toNat)
      case atStart => exact ⟨0, Nat.zero_le _, rfl, by simp, by simp⟩
      case round =>
        obtain ⟨j, hj, rfl, rfl, rfl⟩ := hrel
        by_cases hjl : j < n
        · have hjl2 : j < l.length := by omega
          obtain ⟨ad, rfl, hcb⟩ := rdB_at HRB.out (by omega)
          have cb := hcb j hjl2
          have HS : Hid (sA (pre ++ l.take (j + 1)) = (sA (pre ++ l.take j) + l[j].toNat) % 65521 ∧ sB (pre ++ l.take (j + 1)) = (sB (pre ++ l.take j) + (sA (pre ++ l.take j) + l[j].toNat) % 65521) % 65521) := by
            have e : pre ++ l.take (j + 1) = (pre ++ l.take j) ++ [l[j]] := by rw [List.take_succ_eq_append_getElem hjl2, List.append_assoc]
            show _ ∧ _
            rw [e]
            exact ⟨sA_snoc _ _, sB_snoc _ _⟩
          have h1 := sA_lt (pre ++ l.take j)
          have h2 := sB_lt (pre ++ l.take j)
          have h3 := l[j].toNat_lt
          clear hcb
          generalize sA (pre ++ l.take j) = a at HS h1 ⊢
          generalize sB (pre ++ l.take j) = b at HS h2 ⊢
          generalize l[j].toNat = x at cb HS h3
          go_wp2
          go_round
          case rel => exact ⟨j + 1, by omega, by go_num, by rw [HS.out.1]; go_num, by rw [HS.out.2]; go_num⟩
          case measure => simp [intOf]; omega
        · obtain rfl : j = n := by omega
          rw [List.take_of_length_le (by omega), ← HT.out]
          go_wp2
          go_round
          case rel => exact ⟨k + 1, by omega, by go_num, rfl, rfl⟩
          case measure => simp [intOf]; omega
    · obtain rfl : k = m := by omega
      have hall : ps.take k = ps := List.take_of_length_le (by rw [hn.out]; exact Nat.le_refl _)
      rw [hall]
      have h1 := sA_lt (allB ps)
      have h2 := sB_lt (allB ps)
      have hor := sum_or (allB ps)
      rw [hR.out] at hor
      generalize sA (allB ps) = a at *
      generalize sB (allB ps) = b at *
      have HOR : Hid (bits .or .u32 ((b : Int) * 65536) (a : Int) = (R : Int)) := by
        show bits .or .u32 ((b : Int) * 65536) (a : Int) = (R : Int)
        rw [show (b : Int) * 65536 = ((b * 65536 : Nat) : Int) by omega]
        exact hor
      clear hR hall hn hp hl hr hor
      go_wp2
      go_ret
      exact ⟨congrArg (fun x => Ending.returned (.int .u32 x)) HOR.out, rfl⟩

theorem made_bytes {w : World} (cs : List UInt8) (n : Nat) (h : cs.length = n) (hn : n ≤ 1000) : V.OwnB (w.alloc (.cells (V.bvs cs).toArray 5)) (Fresh w) (.slice (some ⟨w.heap.size, 0, none⟩) n n) cs := by
  subst h
  refine ⟨⟨by simp, .inr ⟨w.heap.size, cs.length, (V.bvs cs).toArray, rfl, Nat.zero_le _, heap_alloc_new w _, Nat.le_refl _, by unfold maxLen; omega, by simp, ?_⟩⟩, fun g e => by cases e; exact Nat.le_refl _⟩
  rw [Nat.mul_one]
  exact List.take_of_length_le (by simp)
theorem four_cells (n : Nat) (h : n < 4294967296) : #[Value.int .u8 ((n : Int) / 16777216), Value.int .u8 ((n : Int) / 65536 % 256), Value.int .u8 ((n : Int) / 256 % 256), Value.int .u8 ((n : Int) % 256)] = (V.bvs (four n)).toArray := by
  have f : ∀ a : Nat, a < 256 → ((UInt8.ofNat a).toNat : Int) = (a : Int) := fun a ha => by rw [UInt8.toNat_ofNat', Nat.mod_eq_of_lt ha]
  unfold four V.bvs V.bv
  simp only [List.map_cons, List.map_nil]
  rw [f _ (by omega), f _ (by omega), f _ (by omega), f _ (by omega)]
  rfl
theorem made_four {w : World} (n : Nat) (h : n < 4294967296) : V.OwnB (w.alloc (.cells #[Value.int .u8 ((n : Int) / 16777216), Value.int .u8 ((n : Int) / 65536 % 256), Value.int .u8 ((n : Int) / 256 % 256), Value.int .u8 ((n : Int) % 256)] 5)) (Fresh w) (.slice (some ⟨w.heap.size, 0, none⟩) 4 4) (four n) := by
  rw [four_cells n h]; exact made_bytes (four n) 4 rfl (by omega)

set_option maxRecDepth 100000 in
set_option maxHeartbeats 2000000 in
theorem seal_any (P : Option Addr) (ps : List PE) (m c : Nat) (w : World) (hr : Rd w P (pvs ps)) (hn : Hid (ps.length = m)) (hp : Hid (∀ e ∈ ps, PartAt w e)) (hm : m ≤ 1000) (hl : Hid (∀ e ∈ ps, e.1.n ≤ 140737488355328)) :
    Calls Tryz.prog 40 #[.slice P m c] w fun e w' => ∃ v, e = .returned v ∧ V.OwnB w' (Fresh w) v (four (sumN (allB ps))) ∧ Keep NoB w w' := by
  have HS := Lib.hid (sum_any P ps m c w hr hn hp hm hl _ rfl)
  have hlt := sumN_lt (allB ps)
  clear hr hn hp hl
  generalize sumN (allB ps) = n at *
  go_enter Tryz.func40, Tryz.ntmps40
  go_wp2_with fail
  refine HS.out.mono ?_
  rintro e w1 ⟨rfl, rfl⟩
  go_wp2
  go_ret
  exact ⟨_, rfl, made_four n hlt, (Keep.refl NoB w).alloc _⟩

end Go.Proofs.YtgifflfjhockaaaGreatDoor.I

namespace Go.Proofs.YtgifflfjhockaaaGreatDoor.I
open Go.RowKit W

theorem str_eq (l m : List UInt8) : ((V.str l).toList == (V.str m).toList) = decide (l = m) := by
  rw [ByteArray.toList_eq, ByteArray.toList_eq]
  show (l == m) = decide (l = m)
  rw [Bool.eq_iff_iff, beq_iff_eq, decide_eq_true_iff]
theorem rd_tk {w : World} {A : Option Addr} {l : List UInt8} (h : V.Rd w A l) (k : Nat) : V.Rd w A (l.take k) := fun h0 => by
  have hl : 0 < l.length := by rw [List.length_take] at h0; omega
  obtain ⟨ad, e, hc⟩ := h hl
  refine ⟨ad, e, fun j u hu => hc j u ?_⟩
  obtain ⟨hj, hju⟩ := List.getElem?_eq_some_iff.1 hu
  have hj2 : j < l.length := by simp at hj; omega
  simp at hju
  rw [← hju]
  simp [hj2]
theorem rd_dp {w : World} {ad : Addr} {l : List UInt8} (h : V.Rd w (some ad) l) (k : Nat) : V.Rd w (some (ad.add k)) (l.drop k) := fun h0 => by
  have hl : 0 < l.length := by rw [List.length_drop] at h0; omega
  obtain ⟨ad', e, hc⟩ := h hl
  injection e with e
  subst e
  refine ⟨ad.add k, rfl, fun j u hu => ?_⟩
  rw [V.add_add]
  refine hc (k + j) u ?_
  rw [List.getElem?_map, List.getElem?_drop] at hu
  rw [List.getElem?_map]; exact hu
set_option maxRecDepth 100000 in
set_option maxHeartbeats 2000000 in
theorem equalB_any (A B : Option Addr) (l m : List UInt8) (nl nm c d : Nat) (w : World) (ha : V.Rd w A l) (hb : V.Rd w B m) (hl : l.length = nl) (hm : m.length = nm) (R : Bool) (hR : Hid (decide (l = m) = R)) :
    Calls Tryz.prog 43 #[.slice A nl c, .slice B nm d] w fun e w' => e = .returned (.bool R) ∧ w = w' := by
  subst hl hm
  have c1 : (convert 26 9 (.slice A l.length c)).run Tryz.prog w = .ok (.string (V.str l)) w := V.conv_rd ha
  have c2 : (convert 26 9 (.slice B m.length d)).run Tryz.prog w = .ok (.string (V.str m)) w := V.conv_rd hb
  have he := (str_eq l m).trans hR.out
  clear ha hb hR
  generalize V.str l = X at *
  generalize V.str m = Y at *
  go_enter Tryz.func43, Tryz.ntmps43
  go_wp2
  go_ret
  exact ⟨rfl, rfl⟩

set_option maxRecDepth 100000 in
set_option maxHeartbeats 2000000 in
theorem hasPre_any (A B : Option Addr) (l m : List UInt8) (c d : Nat) (w : World) (ha : V.Rd w A l) (hb : V.Rd w B m) (hc : l.length ≤ c) (hm : m.length = 5) (R : Bool) (hR : Hid (decide (l.take 5 = m) = R)) :
    Calls Tryz.prog 83 #[.slice A l.length c, .slice B 5 d] w fun e w' => e = .returned (.bool R) ∧ w = w' := by
  go_enter Tryz.func83, Tryz.ntmps83
  by_cases h5 : 5 ≤ l.length
  · have hd : decide ((5 : Int) ≤ (l.length : Int)) = true := decide_eq_true (by omega)
    have HE := Lib.hid (equalB_any A B (l.take 5) m 5 5 c d w (rd_tk ha 5) hb (by rw [List.length_take]; omega) hm R hR)
    clear ha hb hR
    go_wp2_with fail
    refine HE.out.mono ?_
    rintro e w1 ⟨rfl, rfl⟩
    go_wp2
    go_ret
    exact ⟨rfl, rfl⟩
  · have hd : decide ((5 : Int) ≤ (l.length : Int)) = false := decide_eq_false (by omega)
    obtain rfl : false = R := by
      rw [← hR.out]; symm
      rw [decide_eq_false_iff_not]
      intro h
      have := congrArg List.length h
      rw [List.length_take, hm] at this; omega
    clear hR
    go_wp2
    go_ret
    exact ⟨rfl, rfl⟩

set_option maxRecDepth 100000 in
set_option maxHeartbeats 2000000 in
theorem cut_any (A B : Option Addr) (l m : List UInt8) (c d : Nat) (w : World) (ha : V.Rd w A l) (hb : V.Rd w B m) (hc : l.length ≤ c) (hcm : c ≤ maxLen) (hm : m.length = 5) :
    Calls Tryz.prog 42 #[.slice A l.length c, .slice B 5 d] w fun e w' => w = w' ∧ ((l.take 5 ≠ m ∧ ∃ v, e = .returned (.tuple #[v, .bool false])) ∨ (l.take 5 = m ∧ ∃ A' c', e = .returned (.tuple #[.slice A' (l.length - 5) c', .bool true]) ∧ V.Rd w A' (l.drop 5) ∧ Hid (l.length - 5 ≤ c' ∧ c' ≤ maxLen))) := by
  by_cases h5 : l.take 5 = m
  · have hl : 5 ≤ l.length := by
      have := congrArg List.length h5
      rw [List.length_take, hm] at this; omega
    have HP := Lib.hid (hasPre_any A B l m c d w ha hb hc hm true (decide_eq_true h5))
    obtain ⟨ad, rfl, _⟩ := ha (by omega)
    have HR : Hid (V.Rd w (some ⟨ad.block, ad.off + 5, none⟩) (l.drop 5)) := by
      have := rd_dp ha 5
      unfold Addr.add at this
      rw [if_neg (by decide)] at this
      exact this
    have HC : Hid (l.length - 5 ≤ c - 5 ∧ c - 5 ≤ maxLen) := ⟨by omega, by omega⟩
    have HT := Lib.hid h5
    clear ha hb h5 hcm
    by_cases hc5 : c = 5
    · subst hc5
      have HW : Hid (V.Rd w (some ad) (l.drop 5)) := fun h0 => by rw [List.length_drop] at h0; omega
      have hz : l.length - 5 = 0 := by omega
      rw [hz] at HC
      rw [hz]
      go_enter Tryz.func42, Tryz.ntmps42
      go_wp2_with fail
      refine HP.out.mono ?_
      rintro e w1 ⟨rfl, rfl⟩
      go_wp2
      go_ret2
      exact ⟨rfl, .inr ⟨HT.out, _, _, rfl, HW.out, HC.out⟩⟩
    go_enter Tryz.func42, Tryz.ntmps42
    go_wp2_with fail
    refine HP.out.mono ?_
    rintro e w1 ⟨rfl, rfl⟩
    go_wp2
    go_ret2
    exact ⟨rfl, .inr ⟨HT.out, _, _, rfl, HR.out, HC.out⟩⟩
  · have HP := Lib.hid (hasPre_any A B l m c d w ha hb hc hm false (decide_eq_false h5))
    clear ha hb
    go_enter Tryz.func42, Tryz.ntmps42
    go_wp2_with fail
    refine HP.out.mono ?_
    rintro e w1 ⟨rfl, rfl⟩
    go_wp2
    go_ret2
    exact ⟨rfl, .inl ⟨h5, _, rfl⟩⟩

end Go.Proofs.YtgifflfjhockaaaGreatDoor.I

namespace Go.Proofs.YtgifflfjhockaaaGreatDoor.O
open Go.RowKit Go.Shelf
attribute [local go_sem] Oper.semAt_some

/-- An operand that comes: its kind, its number, its functions. -/
structure Part where
  k : Int
  n : Int
  sh : Value
  gu : Value
def Part.key (x : Part) : Int × Int := (x.k, x.n)
abbrev partE (x : Part) : Array Value := #[opV x.k x.sh x.gu, .int .i64 x.n]
/-- The operands that there are. -/
def partsL (ka kb a b : Int) : List (Int × Int) := if ka = 0 then [] else if kb = 0 then [(ka, a)] else [(ka, a), (kb, b)]
/-- What is known of one that comes: its place, its functions. -/
def PartN (ka kb a b : Int) (pre : List Part) (x : Part) (W : World) : Prop := (∃ post, pre.map Part.key ++ x.key :: post = partsL ka kb a b) ∧ FnAt x.k x.sh x.gu W

theorem parts_0 {ka kb a b : Int} (h : ka = 0) : partsL ka kb a b = [] := by unfold partsL; rw [if_pos h]
theorem parts_1 {ka kb a b : Int} (h : ka ≠ 0) (h' : kb = 0) : partsL ka kb a b = [(ka, a)] := by unfold partsL; rw [if_neg h, if_pos h']
theorem parts_2 {ka kb a b : Int} (h : ka ≠ 0) (h' : kb ≠ 0) : partsL ka kb a b = [(ka, a), (kb, b)] := by unfold partsL; rw [if_neg h, if_neg h']

theorem run_index_nums (a b : Int) (w : World) : (Instr.index 287 (.agg #[.int .i64 a, .int .i64 b]) (.int .i64 0)).run Tryz.prog w = .ok (.int .i64 a) w ∧
    (Instr.index 287 (.agg #[.int .i64 a, .int .i64 b]) (.int .i64 1)).run Tryz.prog w = .ok (.int .i64 b) w := by
  have hs : (sizeOf 2).run Tryz.prog w = .ok 1 w := Tryz.sizeOf2 w
  unfold Instr.index
  constructor
  · simp [run_underlying Tryz.underlying287, asIntOf, hs, part]
  · simp [run_underlying Tryz.underlying287, asIntOf, hs, part]

set_option maxRecDepth 100000 in
set_option maxHeartbeats 4000000 in
theorem parts1_in (m : Nat) (q : Row) (op a b : Int) (Bx Br : Nat) (hka : 0 ≤ q.ka ∧ q.ka ≤ 10) (hkb : 0 ≤ q.kb ∧ q.kb ≤ 10) (I : List Part → World → Prop)
    (hbx : ∀ pre W, I pre W → Blk W Bx 63 #[.int .i64 op, .int .i64 a, .int .i64 b]) (hbr : ∀ pre W, I pre W → Blk W Br 259 (cells9 q)) :
    Brings Tryz.prog m (m + 1) 210 #[.pointer (some ⟨Bx, 0, none⟩), .pointer (some ⟨Br, 0, none⟩)] partE I (PartN q.ka q.kb a b) (fun xs => xs.map Part.key = partsL q.ka q.kb a b) := by
  intro L J hJk hJI hY W h0
  refine callsIn_of_wp Tryz.func210 rfl trivial ?_ rfl
  simp only [Tryz.ntmps210, List.size_toArray, List.length_cons, List.length_nil, Nat.reduceAdd, Nat.reduceSub, Array.replicate_succ, Array.replicate_zero, List.push_toArray, List.append_toArray, List.nil_append, List.cons_append]
  have x0 := hbx _ _ (hJI _ _ h0)
  have c1 : W.cell? ⟨Bx, 1, none⟩ = some (.int .i64 a) := x0.cell 1
  have c2 : W.cell? ⟨Bx, 2, none⟩ = some (.int .i64 b) := x0.cell 2
  clear x0
  gi_wp2
  gi_loopw [11] (fun i wr => ∃ (k : Nat) (pre : List Part), k ≤ 2 ∧ i = .int .i64 (k : Int) ∧ Hid (pre.map Part.key = [(q.ka, a), (q.kb, b)].take k ∧ (1 ≤ k → q.ka ≠ 0) ∧ (2 ≤ k → q.kb ≠ 0)) ∧ J pre wr)
    (fun i _ => 2 - (intOf i).toNat)
  case atStart => exact ⟨0, [], by omega, rfl, ⟨rfl, fun h => by omega, fun h => by omega⟩, h0⟩
  case round =>
    obtain ⟨k, pre, hk, rfl, HP, hJ⟩ := hrel
    have r0 := hbr _ _ (hJI _ _ hJ)
    have d1 : wr.cell? ⟨Br, 1, none⟩ = some (.int .i64 q.ka) := r0.cell 1
    have d2 : wr.cell? ⟨Br, 2, none⟩ = some (.int .i64 q.kb) := r0.cell 2
    clear r0 c1 c2
    have hix := fun w => run_index_nums a b w
    have hi0 := fun w => (hix w).1
    have hi1 := fun w => (hix w).2
    clear hix
    obtain rfl | rfl | rfl : k = 0 ∨ k = 1 ∨ k = 2 := by omega
    · by_cases hz : q.ka = 0
      · have hS : Hid (pre.map Part.key = partsL q.ka q.kb a b) := by show _ = _; rw [HP.out.1, parts_0 hz]; rfl
        have e0 : (q.ka == 0) = true := by rw [beq_iff_eq]; exact hz
        clear HP hz hka hkb
        rw [show ((0 : Nat) : Int) = 0 from rfl]
        gi_wp2
        refine ⟨trivial, ?_⟩
        gi_wp2
        refine ⟨fun _ h => (by cases h), ?_⟩
        gi_wp2
        refine bodyPost_ret (results_none rfl _ _ _) rfl ?_
        exact ⟨⟨_, rfl⟩, pre, hS.out, hJ⟩
      · have e0 : (q.ka == 0) = false := by rw [beq_eq_false_iff_ne]; exact hz
        have HN : Hid (pre.map Part.key ++ (q.ka, a) :: (if q.kb = 0 then [] else [(q.kb, b)]) = partsL q.ka q.kb a b) := by show _ = _; rw [HP.out.1]; unfold partsL; rw [if_neg hz]; split <;> rfl
        have HQ : Hid (∀ x : Part, x.key = (q.ka, a) → (pre ++ [x]).map Part.key = [(q.ka, a), (q.kb, b)].take 1) := by intro x hx; rw [List.map_append, HP.out.1]; simp [hx]
        have hp1 := HP.out.2.1
        have HZ : Hid ((1 ≤ 1 → q.ka ≠ 0) ∧ (2 ≤ 1 → q.kb ≠ 0)) := ⟨fun _ => hz, fun h => by omega⟩
        clear HP hz hp1
        rw [show ((0 : Nat) : Int) = 0 from rfl]
        gi_wp2_with (refine ⟨trivial, ?_⟩; gi_at_call 198; refine (callsIn_wide.2 (operandOf_any q.ka hka _)).mono ?_; rintro e w1 ⟨sh, gu, rfl, hF, k1⟩; have hJ1 := hJk _ _ _ hJ k1; obtain ⟨fn, tmps, assign, body, hy, hR⟩ := hY pre ⟨q.ka, a, sh, gu⟩ w1 hJ1 ⟨⟨_, HN.out⟩, hF⟩; dsimp only [partE] at hy)
        refine hR.mono ?_
        rintro e W3 ⟨rfl, hJ3⟩
        gi_wp2
        go_roundw
        case rel => exact ⟨1, pre ++ [_], by omega, rfl, ⟨HQ.out _ rfl, HZ.out⟩, hJ3⟩
        case measure => simp [intOf]
    · by_cases hz : q.kb = 0
      · have hS : Hid (pre.map Part.key = partsL q.ka q.kb a b) := by show _ = _; rw [HP.out.1, parts_1 (HP.out.2.1 (by omega)) hz]; rfl
        have e0 : (q.kb == 0) = true := by rw [beq_iff_eq]; exact hz
        clear HP hz hka hkb
        rw [show ((1 : Nat) : Int) = 1 from rfl]
        gi_wp2
        refine ⟨trivial, ?_⟩
        gi_wp2
        refine ⟨fun _ h => (by cases h), ?_⟩
        gi_wp2
        refine bodyPost_ret (results_none rfl _ _ _) rfl ?_
        exact ⟨⟨_, rfl⟩, pre, hS.out, hJ⟩
      · have e0 : (q.kb == 0) = false := by rw [beq_eq_false_iff_ne]; exact hz
        have HN : Hid (pre.map Part.key ++ (q.kb, b) :: [] = partsL q.ka q.kb a b) := by show _ = _; rw [HP.out.1, parts_2 (HP.out.2.1 (by omega)) hz]; rfl
        have HQ : Hid (∀ x : Part, x.key = (q.kb, b) → (pre ++ [x]).map Part.key = [(q.ka, a), (q.kb, b)].take 2) := by intro x hx; rw [List.map_append, HP.out.1]; simp [hx]
        have hp1 := HP.out.2.1
        have HZ : Hid ((1 ≤ 2 → q.ka ≠ 0) ∧ (2 ≤ 2 → q.kb ≠ 0)) := ⟨fun _ => hp1 (by omega), fun _ => hz⟩
        clear HP hz hp1
        rw [show ((1 : Nat) : Int) = 1 from rfl]
        gi_wp2_with (refine ⟨trivial, ?_⟩; gi_at_call 198; refine (callsIn_wide.2 (operandOf_any q.kb hkb _)).mono ?_; rintro e w1 ⟨sh, gu, rfl, hF, k1⟩; have hJ1 := hJk _ _ _ hJ k1; obtain ⟨fn, tmps, assign, body, hy, hR⟩ := hY pre ⟨q.kb, b, sh, gu⟩ w1 hJ1 ⟨⟨_, HN.out⟩, hF⟩; dsimp only [partE] at hy)
        refine hR.mono ?_
        rintro e W3 ⟨rfl, hJ3⟩
        gi_wp2
        go_roundw
        case rel => exact ⟨2, pre ++ [_], by omega, rfl, ⟨HQ.out _ rfl, HZ.out⟩, hJ3⟩
        case measure => simp [intOf]
    · have hS : Hid (pre.map Part.key = partsL q.ka q.kb a b) := by show _ = _; rw [HP.out.1, parts_2 (HP.out.2.1 (by omega)) (HP.out.2.2 (by omega))]; rfl
      clear HP hka hkb
      rw [show ((2 : Nat) : Int) = 2 from rfl]
      gi_wp2
      go_end0
      exact ⟨⟨_, rfl⟩, pre, hS.out, hJ⟩

end Go.Proofs.YtgifflfjhockaaaGreatDoor.O

namespace Go.Proofs.YtgifflfjhockaaaGreatDoor.O
open Go.RowKit Go.Shelf
attribute [local go_sem] Oper.semAt_some

theorem blk_own {β : Type} (B g : Nat) (t : TypeId) (cs : β → Array Value) : OwnFrom B (fun s W => Blk W g t (cs s)) := by
  intro s X Y row h hg hrow
  refine (hg.block g h.lt (fun e => ?_)).trans h
  obtain ⟨_, o, ho, hc⟩ := hrow g e.symm
  rw [show X.heap[g]? = _ from h] at ho
  cases ho; cases hc
theorem keep_own {β : Type} {B : Nat} {w0 : World} (O : Nat → Prop) (hB : w0.heap.size ≤ B) : OwnFrom B (fun (_ : β) W => Keep O w0 W) := by
  intro s X Y row h hg hrow
  exact h.grown hg (fun g e hl => by have := (hrow g e).1; omega)
set_option maxHeartbeats 1000000 in
theorem parts_any (q : Row) (op a b : Int) (w : World) : Calls Tryz.prog 194 #[rowV q, instV op a b] w fun e w' =>
    e = .returned (.func (.func 210) #[] #[.pointer (some ⟨w.heap.size + 1, 0, none⟩), .pointer (some ⟨w.heap.size, 0, none⟩)]) ∧ Blk w' w.heap.size 259 (cells9 q) ∧ Blk w' (w.heap.size + 1) 63 #[.int .i64 op, .int .i64 a, .int .i64 b] ∧ Keep NoB w w' := by
  go_enter Tryz.func194, Tryz.ntmps194
  go_wp2
  go_ret
  have h1 := Blk.new (w.alloc (.cells (cells9 q) 259)) 63 #[.int .i64 op, .int .i64 a, .int .i64 b]
  rw [World.size_alloc] at h1
  exact ⟨rfl, (Blk.new _ _ _).alloc _, h1, ((Keep.refl NoB w).alloc _).alloc _⟩

/-- The text of the operands that have come. -/
def textP (l : List (Int × Int)) : List UInt8 := l.flatMap fun x => 32 :: word x.1 x.2
theorem kinds_none (op : Int) : (rowAt op).ka = 0 → (rowAt op).kb = 0 := by
  have := rowAt_all (p := fun r => decide (r.ka = 0 → r.kb = 0)) (by decide) (by decide) op
  exact of_decide_eq_true this

theorem textP_len : ∀ (l : List (Int × Int)), (∀ x ∈ l, I64 x.2) → (textP l).length ≤ 22 * l.length
  | [], _ => Nat.zero_le _
  | x :: l, h => by
    have h1 := word_len x.1 x.2 (h x (by simp))
    have h2 := textP_len l (fun y hy => h y (by simp [hy]))
    have e : textP (x :: l) = (32 :: word x.1 x.2) ++ textP l := by unfold textP; simp
    rw [e]
    simp
    omega
theorem parts_mem {ka kb a b : Int} {x : Int × Int} (h : x ∈ partsL ka kb a b) : x.1 ≠ 0 ∧ (x.2 = a ∨ x.2 = b) := by
  unfold partsL at h
  split at h
  · cases h
  · split at h
    · rename_i h1 h2; simp at h; subst h; exact ⟨h1, .inl rfl⟩
    · rename_i h1 h2
      simp at h
      rcases h with rfl | rfl
      · exact ⟨h1, .inl rfl⟩
      · exact ⟨h2, .inr rfl⟩
theorem parts_len (ka kb a b : Int) : (partsL ka kb a b).length ≤ 2 := by unfold partsL; split <;> (try split) <;> simp
theorem part_facts {ka kb a b : Int} {pre : List Part} {x : Part} {W : World} (h : PartN ka kb a b pre x W) (ha : I64 a) (hb : I64 b) : x.k ≠ 0 ∧ I64 x.n ∧ (textP (pre.map Part.key)).length ≤ 44 := by
  obtain ⟨⟨post, hp⟩, _⟩ := h
  have h64 : ∀ y ∈ partsL ka kb a b, I64 y.2 := fun y hy => by rcases (parts_mem hy).2 with e | e <;> rw [e] <;> assumption
  have hx := parts_mem (x := x.key) (by rw [← hp]; simp)
  have hl := congrArg List.length hp
  have h2 := parts_len ka kb a b
  have hx64 := h64 x.key (by rw [← hp]; simp)
  have ht := textP_len (pre.map Part.key) (fun y hy => h64 y (by rw [← hp]; exact List.mem_append_left _ hy))
  simp at hl ht
  exact ⟨hx.1, hx64, by omega⟩
theorem Keep_putObj {O : Nat → Prop} {w W : World} {D : Nat} {o : Obj} (h : Keep O w W) (hD : w.heap.size ≤ D) : Keep O w (W.putObj D o) := h.grown (grownBy_putObj' W D o) (fun g e hl => by cases e; omega)
end Go.Proofs.YtgifflfjhockaaaGreatDoor.O

namespace Go.Proofs.YtgifflfjhockaaaGreatDoor.I
open Go.RowKit Go.Shelf W
attribute [local go_sem] Oper.semAt_some

/-- The function of a number, and what comes. -/
def fnI (fs : List FE) (x : Nat) : FE := fs[x]?.getD (F.nilV, F.nilF)
theorem fnI_at {fs : List FE} {x : Nat} (h : x < fs.length) : fnI fs x = fs[x] := by unfold fnI; rw [List.getElem?_eq_getElem h]; rfl
abbrev eaA (fs : List FE) (x : Nat) : Array Value := #[.int .i64 (x : Int), (fnI fs x).1.val]
/-- What a round keeps: the list of functions. -/
def FsK (Y : Option Addr) (fs : List FE) (W W' : World) : Prop := Rd W Y (fvs fs) → Rd W' Y (fvs fs)
theorem FsK.trans {Y : Option Addr} {fs : List FE} {A B C : World} (h : FsK Y fs A B) (h' : FsK Y fs B C) : FsK Y fs A C := fun hr => h' (h hr)
theorem rd_putObj {A : Option Addr} {xs : List Value} (W : World) (l : Nat) (o o' : Obj) (hl : W.heap[l]? = some o) (ho : o.isCells = false) (hr : Rd W A xs) : Rd (W.putObj l o') A xs := fun h0 => by
  obtain ⟨g, off, e, hc⟩ := hr h0
  refine ⟨g, off, e, fun j u hu => ?_⟩
  have h1 := hc j u hu
  have hne : g ≠ l := by
    intro e2
    unfold World.cell? at h1
    dsimp only at h1
    rw [e2, hl] at h1
    cases o with
    | cells cs t f => cases ho
    | _ => simp at h1
  exact (World.cell?_of_block (World.putObj_heap_other (show (⟨g, off + j, none⟩ : Addr).block ≠ l from hne))).trans h1
theorem FsK.putObj {Y : Option Addr} {fs : List FE} (W : World) (l : Nat) (o o' : Obj) (hl : W.heap[l]? = some o) (ho : o.isCells = false) : FsK Y fs W (W.putObj l o') := fun h => rd_putObj W l o o' hl ho h
theorem rd_lt {W : World} {A : Option Addr} {xs : List Value} (h : Rd W A xs) {ad : Addr} (e : A = some ad) (h0 : 0 < xs.length) : ad.block < W.heap.size := by
  obtain ⟨g, off, e2, hc⟩ := h h0
  rw [e] at e2
  injection e2 with e2
  subst e2
  exact World.block_lt_of_cell? W _ (hc 0 _ (List.getElem?_eq_getElem h0))
set_option maxRecDepth 100000 in
set_option maxHeartbeats 4000000 in
theorem each1_in (m l : Nat) (hm : 1 ≤ m) (b : Nat) (v : IV) (fs : List FE) (hl : fs.length = v.ny) (hn : v.ny ≤ 1000) (J Jx : List Nat → World → Prop) (hJk : ∀ pre W W', J pre W → Keep NoB W W' → J pre W')
    (hY : ∀ pre x W, J pre W → pre.length < v.ny → YieldAt Fence.wide (m - 1) Tryz.prog l (eaA fs x) W fun e W' =>
      (e = .returned (.bool true) ∧ J (pre ++ [x]) W' ∧ FsK v.Y fs W W') ∨ (e = .returned (.bool false) ∧ Jx (pre ++ [x]) W'))
    (W : World) (hx : Blk W b 25 v.cells) (hr : Rd W v.Y (fvs fs)) (h0 : J [] W) :
    CallsIn Fence.wide m Tryz.prog 104 #[.func (.yield l) #[] #[], .pointer (some ⟨b, 0, none⟩)] W fun e W' => (∃ v, e = .returned v) ∧
      ((∃ ys : List Nat, ys = List.range v.ny ∧ J ys W') ∨ (∃ pre : List Nat, (∃ k, k ≤ v.ny ∧ pre = List.range k) ∧ Jx pre W')) := by
  obtain ⟨q0, q1⟩ := blk2 hx
  obtain ⟨X, nx, cx, Y, ny, cy⟩ := v
  dsimp only at *
  have HR := Lib.hid hr
  clear hr hx
  refine callsIn_of_wp Tryz.func104 rfl trivial ?_ rfl
  simp only [Tryz.ntmps104, List.size_toArray, List.length_cons, List.length_nil, Nat.reduceAdd, Nat.reduceSub, Array.replicate_succ, Array.replicate_zero, List.push_toArray, List.append_toArray, List.nil_append, List.cons_append]
  gi_wp2
  gi_loopw [8] (fun p wr => ∃ j : Nat, j ≤ ny ∧ p = .int .i64 (j : Int) ∧ J (List.range j) wr ∧ Hid (Rd wr Y (fvs fs))) (fun p _ => ny - (intOf p).toNat)
  case atStart => exact ⟨0, by omega, rfl, h0, HR.out⟩
  case round =>
    clear h0 HR q0 q1
    obtain ⟨j, hj, rfl, hJ, hL⟩ := hrel
    by_cases hlt : j < ny
    · have hje : j < fs.length := by omega
      obtain ⟨g, off, rfl, c0, c1, c2, c3, c4⟩ := fun_at hL.out hje
      have hk0 := (Keep.refl NoB wr).alloc (.cells (fnI fs j).1.cells 61)
      have HY := Lib.hid (hY (List.range j) j _ (hJk _ _ _ hJ hk0) (by simp; omega))
      have HL2 := Lib.hid (hL.out.keepN hk0)
      have HE : Hid (List.range j ++ [j] = List.range (j + 1)) := by show _ = _; rw [List.range_succ]
      have hfi := fnI_at hje
      dsimp only [eaA] at HY
      rw [hfi] at HY HL2
      clear hJ hk0 hfi
      generalize fs[j] = e at c0 c1 c2 c3 c4 HY HL2
      obtain ⟨⟨S1, A1, na1, ca1, B1, nb1, cb1, L1, nl1, cl1, D1, nd1, cd1⟩, f⟩ := e
      dsimp only [F.FV.val, F.FV.cells] at c0 c1 c2 c3 c4 HY HL2
      obtain ⟨fn, tmps, assign, body, hy, hRun⟩ := HY.out
      clear HY hY
      gi_wp2
      refine hRun.mono ?_
      rintro e W3 (⟨rfl, hJ3, hk3⟩ | ⟨rfl, hJx3⟩)
      · have hL3 := hk3 HL2.out
        rw [HE.out] at hJ3
        gi_wp2
        go_roundw
        case rel => exact ⟨j + 1, by omega, by go_num, hJ3, hL3⟩
        case measure => simp [intOf]; omega
      · rw [HE.out] at hJx3
        gi_wp2
        refine bodyPost_ret (results_none rfl _ _ _) rfl ?_
        exact ⟨⟨_, rfl⟩, .inr ⟨_, ⟨_, by omega, rfl⟩, hJx3⟩⟩
    · obtain rfl : j = ny := by omega
      gi_wp2
      go_end0
      exact ⟨⟨_, rfl⟩, .inl ⟨_, rfl, hJ⟩⟩

theorem each_abides {B : Nat} {J : List Nat → World → Prop} (h : AbidesFrom B J) : ∀ pre W W', J pre W → Keep NoB W W' → J pre W' := fun pre W W' hj hk => h pre W W' none hj hk.grows (fun r e => by cases e)
theorem each_stops (m : Nat) (hm : 1 ≤ m) (b : Nat) (v : IV) (fs : List FE) (hl : fs.length = v.ny) (hn : v.ny ≤ 1000) (w : World) (hx : Blk w b 25 v.cells) (hr : Rd w v.Y (fvs fs)) :
    SeqStopsK Fence.wide m Tryz.prog 104 #[.pointer (some ⟨b, 0, none⟩)] (eaA fs) (FsK v.Y fs) (fun ys : List Nat => ys = List.range v.ny) (fun pre : List Nat => ∃ k, k ≤ v.ny ∧ pre = List.range k) v.ny w := fun l J Jx W hb hJ _ hY h0 =>
  each1_in m l hm b v fs hl hn J Jx (each_abides hJ) hY W (Blk.keep hx (Keep.of_below (O := NoB) hb) id) (hr.keepN (Keep.of_below (O := NoB) hb)) h0

set_option maxRecDepth 100000 in
theorem each_any (m : Nat) (v : IV) (w : World) :
    CallsIn Fence.wide m Tryz.prog 57 #[v.val] w fun e w' => e = .returned (.func (.func 104) #[] #[.pointer (some ⟨w.heap.size, 0, none⟩)]) ∧ w' = w.alloc (.cells v.cells 25) := by
  obtain ⟨X, nx, cx, Y, ny, cy⟩ := v
  dsimp only [IV.val, IV.cells]
  refine callsIn_of_wp Tryz.func57 rfl trivial ?_ rfl
  simp only [Tryz.ntmps57, List.size_toArray, List.length_cons, List.length_nil, Nat.reduceAdd, Nat.reduceSub, Array.replicate_succ, Array.replicate_zero, List.push_toArray, List.append_toArray, List.nil_append, List.cons_append]
  gi_wp2
  go_ret
  exact ⟨rfl, rfl⟩

end Go.Proofs.YtgifflfjhockaaaGreatDoor.I

namespace Go.Proofs.YtgifflfjhockaaaGreatDoor
open Go.RowKit Go.Maps

/-- Block b is a map of at most n keys; each number has what f says. -/
def IMap (P : Program) (k e : TypeId) (b n : Nat) (f : Int → Nat) (w : World) : Prop :=
  ∃ D : DataW Unit, w.ownsMap P k (plainElem P e) b n D ∧ IsMap D ∧ ∀ h : Int, D.atKey (.int .i64 h) (.lit (.int .i64 0)) = .lit (.int .i64 (f h : Int))
section
variable {P : Program} {k e t : TypeId} {b n : Nat} {f : Int → Nat} {w w' : World}
theorem IMap.new (P : Program) (k e : TypeId) (w : World) : IMap P k e w.heap.size 0 (fun _ => 0) (w.alloc (.map #[] 0)) :=
  ⟨.map [], World.ownsMap_made w P k _, isMap_empty, fun _ => rfl⟩
theorem IMap.lt (h : IMap P k e b n f w) : b < w.heap.size := by obtain ⟨_, h, _⟩ := h; exact h.lt
theorem IMap.obj (h : IMap P k e b n f w) : ∃ es c, w.heap[b]? = some (.map es c) := by
  obtain ⟨_, ⟨es, c, hb, _⟩, _⟩ := h
  exact ⟨es, c, hb⟩
theorem IMap.grown {row : Option Nat} (h : IMap P k e b n f w) (hg : w.grownBy w' row) (hne : some b ≠ row) : IMap P k e b n f w' := by
  obtain ⟨D, h1, h2, h3⟩ := h
  exact ⟨D, h1.kept hg hne, h2, h3⟩
theorem IMap.keep {O : Nat → Prop} (h : IMap P k e b n f w) (hk : Keep O w w') (hb : ¬ O b) : IMap P k e b n f w' := by
  obtain ⟨D, ⟨es, c, h0, hr⟩, h2, h3⟩ := h
  exact ⟨D, ⟨es, c, (hk.block b (Array.getElem?_eq_some_iff.1 h0).1 hb).trans h0, hr⟩, h2, h3⟩
theorem IMap.mono {m : Nat} (h : IMap P k e b n f w) (hm : n ≤ m) : IMap P k e b m f w := by
  obtain ⟨D, h1, h2, h3⟩ := h
  exact ⟨D, h1.mono hm, h2, h3⟩
theorem IMap.congr {g : Int → Nat} (h : IMap P k e b n f w) (hg : ∀ x, g x = f x) : IMap P k e b n g w := by
  obtain ⟨D, h1, h2, h3⟩ := h
  exact ⟨D, h1, h2, fun x => by rw [hg]; exact h3 x⟩
/-- What a store of one makes of f. -/
def setF (f : Int → Nat) (x : Int) (v : Nat) : Int → Nat := fun y => if y = x then v else f y
theorem lit_inj {a b : Int} (h : (DataW.lit (.int .i64 a) : DataW Unit) = .lit (.int .i64 b)) : a = b := by injection h with h; injection h with _ h
theorem isMap_put {D : DataW Unit} {f : Int → Nat} {x : Int} {v : Nat} (hD : IsMap D) (h3 : ∀ h : Int, D.atKey (.int .i64 h) (.lit (.int .i64 0)) = .lit (.int .i64 (f h : Int))) :
    ∀ h : Int, (D.put (.int .i64 x) (.lit (.int .i64 (v : Int)))).atKey (.int .i64 h) (.lit (.int .i64 0)) = .lit (.int .i64 (setF f x v h : Int)) := by
  intro h
  unfold setF
  by_cases he : h = x
  · subst he; rw [if_pos rfl]; exact atKey_put_same hD (by unfold WideAt.IsKeyLit; trivial) _ _
  · rw [if_neg he, atKey_put_other (by intro e; injection e with _ e; exact he e)]; exact h3 h
/-- A store. -/
theorem IMap.update (h : IMap P k e b n f w) (ht : P.underlying t = some (.map k e)) (hk : P.underlying k = some (.int .i64)) (he : P.underlying e = some (.int .i64)) (hn : n < maxLen) (x : Int) (v : Nat) (hx : (Lit.int .i64 x).wf = true) (hv : (Lit.int .i64 (v : Int)).wf = true) :
    ∃ w', (Instr.mapUpdate t (.map (some b)) (.int .i64 x) (.int .i64 (v : Int))).run P w = .ok () w' ∧ IMap P k e b (n + 1) (setF f x v) w' ∧ w.grownBy w' (some b) := by
  obtain ⟨D, h1, h2, h3⟩ := h
  obtain ⟨w', hrun, r1, r2⟩ := h1.update (int_keyed hk) ht hn (keyOf_int_mk hk hx) (plainElem_int he hv)
  exact ⟨w', hrun, ⟨_, r1, h2.put _ _, isMap_put h2 h3⟩, r2⟩
/-- A look. -/
theorem IMap.look (h : IMap P k e b n f w) (ht : P.underlying t = some (.map k e)) (hk : P.underlying k = some (.int .i64)) (he : P.underlying e = some (.int .i64)) (hz : (zeroValue e).run P w = .ok (.int .i64 0) w) (x : Int) (hx : (Lit.int .i64 x).wf = true) :
    (Instr.lookup t (.map (some b)) (.int .i64 x) false).run P w = .ok (.int .i64 (f x : Int)) w := by
  obtain ⟨D, h1, h2, h3⟩ := h
  obtain ⟨c, hrun, hat, _⟩ := h1.lookup_int (int_keyed hk) ht he hz (keyOf_int_mk hk hx)
  rw [h3 x] at hat
  rw [lit_inj hat]
  exact hrun
end
end Go.Proofs.YtgifflfjhockaaaGreatDoor

namespace Go.Proofs.YtgifflfjhockaaaGreatDoor
open Go.RowKit Go.Maps

/-- Block b is a map of at most n keys; each text has what f says. -/
def SMap (P : Program) (k e : TypeId) (b n : Nat) (f : List UInt8 → Nat) (w : World) : Prop :=
  ∃ D : DataW Unit, w.ownsMap P k (plainElem P e) b n D ∧ IsMap D ∧ ∀ s : List UInt8, D.atKey (.string s) (.lit (.int .i64 0)) = .lit (.int .i64 (f s : Int))
section
variable {P : Program} {k e t : TypeId} {b n : Nat} {f : List UInt8 → Nat} {w w' : World}
theorem SMap.new (P : Program) (k e : TypeId) (w : World) : SMap P k e w.heap.size 0 (fun _ => 0) (w.alloc (.map #[] 0)) :=
  ⟨.map [], World.ownsMap_made w P k _, isMap_empty, fun _ => rfl⟩
theorem SMap.lt (h : SMap P k e b n f w) : b < w.heap.size := by obtain ⟨_, h, _⟩ := h; exact h.lt
theorem SMap.obj (h : SMap P k e b n f w) : ∃ es c, w.heap[b]? = some (.map es c) := by
  obtain ⟨_, ⟨es, c, hb, _⟩, _⟩ := h
  exact ⟨es, c, hb⟩
theorem SMap.grown {row : Option Nat} (h : SMap P k e b n f w) (hg : w.grownBy w' row) (hne : some b ≠ row) : SMap P k e b n f w' := by
  obtain ⟨D, h1, h2, h3⟩ := h
  exact ⟨D, h1.kept hg hne, h2, h3⟩
theorem SMap.keep {O : Nat → Prop} (h : SMap P k e b n f w) (hk : Keep O w w') (hb : ¬ O b) : SMap P k e b n f w' := by
  obtain ⟨D, ⟨es, c, h0, hr⟩, h2, h3⟩ := h
  exact ⟨D, ⟨es, c, (hk.block b (Array.getElem?_eq_some_iff.1 h0).1 hb).trans h0, hr⟩, h2, h3⟩
theorem SMap.mono {m : Nat} (h : SMap P k e b n f w) (hm : n ≤ m) : SMap P k e b m f w := by
  obtain ⟨D, h1, h2, h3⟩ := h
  exact ⟨D, h1.mono hm, h2, h3⟩
theorem SMap.congr {g : List UInt8 → Nat} (h : SMap P k e b n f w) (hg : ∀ x, g x = f x) : SMap P k e b n g w := by
  obtain ⟨D, h1, h2, h3⟩ := h
  exact ⟨D, h1, h2, fun x => by rw [hg]; exact h3 x⟩
/-- What a store makes of f. -/
def setS (f : List UInt8 → Nat) (x : List UInt8) (v : Nat) : List UInt8 → Nat := fun y => if y = x then v else f y
theorem isMap_putS {D : DataW Unit} {f : List UInt8 → Nat} {x : List UInt8} {v : Nat} (hD : IsMap D) (h3 : ∀ h : List UInt8, D.atKey (.string h) (.lit (.int .i64 0)) = .lit (.int .i64 (f h : Int))) :
    ∀ h : List UInt8, (D.put (.string x) (.lit (.int .i64 (v : Int)))).atKey (.string h) (.lit (.int .i64 0)) = .lit (.int .i64 (setS f x v h : Int)) := by
  intro h
  unfold setS
  by_cases he : h = x
  · subst he; rw [if_pos rfl]; exact atKey_put_same hD (by unfold WideAt.IsKeyLit; trivial) _ _
  · rw [if_neg he, atKey_put_other (by intro e; injection e with e; exact he e)]; exact h3 h
theorem keyOf_str {P : Program} {k : TypeId} (hk : P.underlying k = some .string) {S : ByteArray} (hs : S.size ≤ maxLen) : keyOf P k (.string S) = some (.string S.data.toList) := by
  simp [keyOf, hk, mapKey, hs]
/-- A store. -/
theorem SMap.update (h : SMap P k e b n f w) (ht : P.underlying t = some (.map k e)) (hk : P.underlying k = some .string) (he : P.underlying e = some (.int .i64)) (hn : n < maxLen) (S : ByteArray) (v : Nat) (hx : S.size ≤ maxLen) (hv : (Lit.int .i64 (v : Int)).wf = true) :
    ∃ w', (Instr.mapUpdate t (.map (some b)) (.string S) (.int .i64 (v : Int))).run P w = .ok () w' ∧ SMap P k e b (n + 1) (setS f S.data.toList v) w' ∧ w.grownBy w' (some b) := by
  obtain ⟨D, h1, h2, h3⟩ := h
  obtain ⟨w', hrun, r1, r2⟩ := h1.update (string_keyed hk) ht hn (keyOf_str hk hx) (plainElem_int he hv)
  exact ⟨w', hrun, ⟨_, r1, h2.put _ _, isMap_putS h2 h3⟩, r2⟩
/-- A look. -/
theorem SMap.look (h : SMap P k e b n f w) (ht : P.underlying t = some (.map k e)) (hk : P.underlying k = some .string) (he : P.underlying e = some (.int .i64)) (hz : (zeroValue e).run P w = .ok (.int .i64 0) w) (S : ByteArray) (hx : S.size ≤ maxLen) :
    (Instr.lookup t (.map (some b)) (.string S) false).run P w = .ok (.int .i64 (f S.data.toList : Int)) w := by
  obtain ⟨D, h1, h2, h3⟩ := h
  obtain ⟨c, hrun, hat, _⟩ := h1.lookup_int (string_keyed hk) ht he hz (keyOf_str hk hx)
  rw [h3 S.data.toList] at hat
  rw [lit_inj hat]
  exact hrun
end
end Go.Proofs.YtgifflfjhockaaaGreatDoor
