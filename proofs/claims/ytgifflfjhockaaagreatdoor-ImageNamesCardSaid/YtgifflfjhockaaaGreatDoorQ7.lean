/-
  What DecodeSignature answers: the signature at a Reel's place. Conditions: the Reel reads bytes in memory, no more than 2^47.
  Names and locals at a Reel's place: what decodeName and decodeLocals answer. Conditions: the Reel reads bytes in memory, no more than 2^47.
  Names: what letter, digit and Named answer, and the document's letter and Named. No conditions but that the name's length fits an int64.
  every: questions that lie in memory are asked in turn, up to the first no. Conditions: each question answers by its contract.
  What the closures of passes answer; few and taking. Conditions: what is asked answers by its contract.
  What reads and its closures do: what stands next is read and kept. Conditions: what decodes answers by its contract.
  A region that draws its order, by what each of its values is: whatever order is picked, each operation finds what it stands behind. No program, no conditions.
  A region that draws its order, by what each of its values is: whatever order is picked, each operation finds what it stands behind. Operations may be guarded; one of them, number c, may write what lay in the blocks of O, which the others' words don't speak of. No program, no conditions.
-/
import Derived.Laws.BitsAllLaws
import Derived.Laws.ResultCell
import Derived.Laws.Rows
import Derived.Test.YtgifflfjhockaaaGreatDoorQ6
import Derived.Test.YtgifflfjhockaaaGreatDoorQ4
import Derived.Test.YtgifflfjhockaaaGreatDoorQ5
import Derived.Test.YtgifflfjhockaaaGreatDoorQ3
import Derived.Test.YtgifflfjhockaaaGreatDoorQ2
namespace Go.Proofs.YtgifflfjhockaaaGreatDoor.S
open Go.RowKit W

abbrev Sg := Option ((List Int × List Int) × Nat)
def optA (R : Sg) : List Int := match R with
  | none => []
  | some x => x.1.1
def optB (R : Sg) : List Int := match R with
  | none => []
  | some x => x.1.2
def optF (R : Sg) : Int := match R with
  | none => 61
  | some _ => 0
/-- How DecodeSignature ends. -/
def SigR (w : World) (br : Nat) (At : World → Nat → Prop) (R : Sg) (e : Ending) (w' : World) : Prop :=
  ∃ v1 v2 q, e = .returned (.tuple #[.agg #[v1, v2], .int .i64 (optF R)]) ∧ Own w' 3 1 (Fresh w) v1 (optA R).length (ivs (optA R)) ∧ Own w' 3 1 (Fresh w) v2 (optB R).length (ivs (optB R)) ∧ At w' q ∧ (∀ y, R = some y → q = y.2) ∧ Keep (fun k => k = br) w w'
theorem sig_none {w w' : World} {br q : Nat} {At : World → Nat → Prop} {R : Sg} (hR : R = none) (h : At w' q) (hk : Keep (fun k => k = br) w w') : SigR w br At R (.returned (.tuple #[.agg #[.slice none 0 0, .slice none 0 0], .int .i64 61])) w' := by
  subst hR
  exact ⟨_, _, q, rfl, Own.nil _ _ _ _, Own.nil _ _ _ _, h, fun _ h => (by cases h), hk⟩
theorem decGm_1 {l : List UInt8} {p : Nat} (h : rdT l p 64 = none) : decG l p = none := by rw [← decGm_eq]; unfold decGm; rw [h]
theorem decGm_2 {l : List UInt8} {p : Nat} {x : List Int × Nat} (h : rdT l p 64 = some x) (h2 : rdT l x.2 (64 - x.1.length) = none) : decG l p = none := by rw [← decGm_eq]; unfold decGm; rw [h]; dsimp only; rw [h2]
theorem decGm_3 {l : List UInt8} {p : Nat} {x y : List Int × Nat} (h : rdT l p 64 = some x) (h2 : rdT l x.2 (64 - x.1.length) = some y) (ho : okG x.1 y.1 = false) : decG l p = none := by
  rw [← decGm_eq]; unfold decGm; rw [h]; dsimp only; rw [h2]; exact if_neg (by rw [ho]; decide)
theorem decGm_4 {l : List UInt8} {p : Nat} {x y : List Int × Nat} (h : rdT l p 64 = some x) (h2 : rdT l x.2 (64 - x.1.length) = some y) (ho : okG x.1 y.1 = true) : decG l p = some ((x.1, y.1), y.2) := by
  rw [← decGm_eq]; unfold decGm; rw [h]; dsimp only; rw [h2]; exact if_pos ho
theorem blk_put2 {W : World} {g : Nat} {x y : Value} (h : Blk W g 57 #[x, y]) (u v : Value) : Blk ((W.setCell ⟨g, 0, none⟩ u).setCell ⟨g, 1, none⟩ v) g 57 #[u, v] := by
  have := (h.put 0 u).put 1 v
  simpa using this
theorem sig_size : (Tryz.prog.info? 57).map (·.size) = some 2 := by kernel_rfl
theorem ret_sig {fn : Func} {tmps : Array Value} {w : World} {g : Nat} {u v e : Value} (h : fn.results = #[.cell 2 57, .tmp 3]) (hp : tmps.getD 2 undef = .pointer (some ⟨g, 0, none⟩)) (hb : Blk w g 57 #[u, v]) (he : tmps.getD 3 undef = e) :
    (results fn tmps).run Tryz.prog w = .ok (.tuple #[.agg #[u, v], e]) w := by
  rw [results_cell_tmp h, hp, he]
  simp only [asAddr, Sem.run_pure, Result.andThen_ok]
  rw [run_loadVar_row w g 57 57 #[u, v] (0, 0) _ hb Tryz.underlying57 rfl sig_size]
  rfl
/-- Two cells of a block of one's own are put. -/
theorem keep_put2 {O : Nat → Prop} {w W : World} {g : Nat} (h : Keep O w W) (hg : w.heap.size ≤ g) (u v : Value) : Keep O w ((W.setCell ⟨g, 0, none⟩ u).setCell ⟨g, 1, none⟩ v) :=
  (h.setCell (fun h => absurd h (by simp; omega)) u).setCell (fun h => absurd h (by simp; omega)) v
theorem keep_at2 (W : World) (g : Nat) (u v : Value) : Keep (fun k => k = g) W ((W.setCell ⟨g, 0, none⟩ u).setCell ⟨g, 1, none⟩ v) :=
  ((Keep.refl (fun k => k = g) W).setCell (fun _ => rfl) u).setCell (fun _ => rfl) v
theorem own_put2 {w W : World} {g n : Nat} {v : Value} {xs : List Value} (h : Own W 3 1 (fun k => g < k) v n xs) (hg : w.heap.size ≤ g) (u u' : Value) : Own ((W.setCell ⟨g, 0, none⟩ u).setCell ⟨g, 1, none⟩ u') 3 1 (Fresh w) v n xs :=
  (h.keep (keep_at2 W g u u') (fun k hk e => by omega)).mono (fun k hk _ => by unfold Fresh; omega)

set_option maxRecDepth 100000 in
set_option maxHeartbeats 2000000 in
theorem ifG_no (A : Option Addr) (a : List Int) (na ca : Nat) (B : Option Addr) (r : List Int) (nb cb : Nat) (w : World) (ha : Rd w A (ivs a)) (hr : Rd w B (ivs r)) (hna : Hid (a.length = na)) (hnb : Hid (r.length = nb)) (hn6 : na ≤ 4611686018427387903) (hm6 : nb ≤ 4611686018427387903) (ho : okG a r = false) :
    Calls Tryz.prog 180 #[.agg #[.slice A na ca, .slice B nb cb]] w fun e w' => e = .returned (.tuple #[.agg #[.slice none 0 0, .slice none 0 0], .int .i64 61]) ∧ Keep NoB w w' := by
  have bx := (Blk.new w 57 #[.slice A na ca, .slice B nb cb]).alloc (.cells #[.slice none 0 0, .slice none 0 0] 57)
  have bz := Blk.new (w.alloc (.cells #[.slice A na ca, .slice B nb cb] 57)) 57 #[.slice none 0 0, .slice none 0 0]
  rw [World.size_alloc] at bz
  have k0 := ((Keep.refl NoB w).alloc (.cells #[.slice A na ca, .slice B nb cb] 57)).alloc (.cells #[.slice none 0 0, .slice none 0 0] 57)
  have HC := Lib.hid (fun w ha hr => chkG_any A a na ca B r nb cb w ha hr hna hnb hn6 hm6 61 (chkG_no ho))
  go_enter Tryz.func180, Tryz.ntmps180
  go_wp2_with fail
  refine (HC.out _ (ha.keepN k0) (hr.keepN k0)).mono ?_
  rintro e w2 ⟨rfl, k1⟩
  have bz2 := bz.keep k1 id
  obtain ⟨z0, z1⟩ := blk2 bz2
  have fz := fun i => bz2.frozen i
  have gK := keepN k0 k1
  have HBZ := Lib.hid (fun u v => blk_put2 bz2 u v)
  clear bx bz k0 k1 ha hr HC bz2
  go_wp2
  refine bodyPost_ret (ret_sig rfl rfl (HBZ.out _ _) rfl) rfl ?_
  exact ⟨rfl, keep_put2 gK (by omega) _ _⟩
set_option maxRecDepth 100000 in
set_option maxHeartbeats 2000000 in
theorem ifG_yes (A : Option Addr) (a : List Int) (na ca : Nat) (B : Option Addr) (r : List Int) (nb cb : Nat) (w : World) (ha : Rd w A (ivs a)) (hr : Rd w B (ivs r)) (hna : Hid (a.length = na)) (hnb : Hid (r.length = nb)) (hn6 : na ≤ 4611686018427387903) (hm6 : nb ≤ 4611686018427387903) (ho : okG a r = true) :
    Calls Tryz.prog 180 #[.agg #[.slice A na ca, .slice B nb cb]] w fun e w' => e = .returned (.tuple #[.agg #[.slice A na ca, .slice B nb cb], .int .i64 0]) ∧ Keep NoB w w' := by
  have bx := (Blk.new w 57 #[.slice A na ca, .slice B nb cb]).alloc (.cells #[.slice none 0 0, .slice none 0 0] 57)
  have bz := Blk.new (w.alloc (.cells #[.slice A na ca, .slice B nb cb] 57)) 57 #[.slice none 0 0, .slice none 0 0]
  rw [World.size_alloc] at bz
  have k0 := ((Keep.refl NoB w).alloc (.cells #[.slice A na ca, .slice B nb cb] 57)).alloc (.cells #[.slice none 0 0, .slice none 0 0] 57)
  have HC := Lib.hid (fun w ha hr => chkG_any A a na ca B r nb cb w ha hr hna hnb hn6 hm6 0 (chkG_ok ho))
  go_enter Tryz.func180, Tryz.ntmps180
  go_wp2_with fail
  refine (HC.out _ (ha.keepN k0) (hr.keepN k0)).mono ?_
  rintro e w2 ⟨rfl, k1⟩
  have bz2 := bz.keep k1 id
  obtain ⟨x0, x1⟩ := blk2 (bx.keep k1 id)
  obtain ⟨z0, z1⟩ := blk2 bz2
  have fz := fun i => bz2.frozen i
  have gK := keepN k0 k1
  have HBZ := Lib.hid (fun u v => blk_put2 bz2 u v)
  clear bx bz k0 k1 ha hr HC bz2
  go_wp2
  refine bodyPost_ret (ret_sig rfl rfl (HBZ.out _ _) rfl) rfl ?_
  exact ⟨rfl, keep_put2 gK (by omega) _ _⟩

theorem unpackI_at (w : World) (br : Nat) (Ob : Nat → Prop) (l : List UInt8) (p most : Nat) (M : Int) (hM : M = (most : Int)) (hm : most ≤ 64) (h : V.ReelAt w br Ob l p) (hlen : l.length ≤ 140737488355328) :
    Calls Tryz.prog 179 #[.pointer (some ⟨br, 0, none⟩), .int .i64 M] w (UnpR w br (fun w' q => V.ReelAt w' br Ob l q) (rdT l p most)) := by
  subst hM; exact unpackI_any w br Ob l p most hm h hlen

set_option maxRecDepth 100000 in
set_option maxHeartbeats 4000000 in
theorem decodeG_any (w : World) (br : Nat) (Ob : Nat → Prop) (l : List UInt8) (p : Nat) (hO : ∀ k, Ob k → k < w.heap.size) (h : V.ReelAt w br Ob l p) (hlen : l.length ≤ 140737488355328) :
    Calls Tryz.prog 135 #[.pointer (some ⟨br, 0, none⟩)] w (SigR w br (fun w' q => V.ReelAt w' br Ob l q) (decG l p)) := by
  have hbr := reel_lt h
  have bz := Blk.new w 57 #[.slice none 0 0, .slice none 0 0]
  have k0 := (Keep.refl NoB w).alloc (.cells #[.slice none 0 0, .slice none 0 0] 57)
  have h0 := h.keep k0 (fun _ _ => id)
  have HU := Lib.hid (unpackI_any _ br Ob l p 64 (by omega) h0 hlen)
  have HOb : Hid (∀ k, Ob k → ¬ (k = w.heap.size)) := fun k hk e => by have := hO k hk; omega
  clear h h0
  cases hR : rdT l p 64 with
  | none =>
    have HD := Lib.hid (decGm_1 hR)
    rw [hR] at HU
    go_enter Tryz.func135, Tryz.ntmps135
    go_wp2_with fail
    refine HU.out.mono ?_
    rintro e w1 ⟨v, q, rfl, hO1, h1, _, k1⟩
    have bz1 := bz.keep k1 (fun e => by omega)
    obtain ⟨z0, z1⟩ := blk2 bz1
    have fz := fun i => bz1.frozen i
    have HBZ := Lib.hid (fun u v => blk_put2 bz1 u v)
    have gK := (k0.mono (O' := fun k => k = br) (fun _ hf _ => hf.elim)).trans k1 (fun _ h _ => h)
    clear bz bz1 k0 k1 hO1
    go_wp2
    refine bodyPost_ret (ret_sig rfl rfl (HBZ.out _ _) rfl) rfl ?_
    exact sig_none HD.out (h1.keep (keep_at2 w1 w.heap.size _ _) HOb.out) (keep_put2 gK (Nat.le_refl _) _ _)
  | some x =>
    obtain ⟨xs, qx⟩ := x
    obtain ⟨hk, hml, _⟩ := rdT_ok hR
    rw [hR] at HU
    cases hR2 : rdT l qx (64 - xs.length) with
    | none =>
      have HD := Lib.hid (decGm_2 hR hR2)
      obtain ⟨na, hna⟩ : ∃ na, xs.length = na := ⟨_, rfl⟩
      have HN := Lib.hid hna
      rw [hna] at hml
      have HU2 := Lib.hid (fun (w : World) (M : Int) (hM : M = ((64 - na : Nat) : Int)) (h : V.ReelAt w br Ob l qx) => (by have := unpackI_at w br Ob l qx (64 - na) M hM (by omega) h hlen; rw [← hna, hR2] at this; exact this : Calls Tryz.prog 179 #[.pointer (some ⟨br, 0, none⟩), .int .i64 M] w (UnpR w br (fun w' q => V.ReelAt w' br Ob l q) none)))
      clear hR hR2 hk hna
      go_enter Tryz.func135, Tryz.ntmps135
      go_wp2_with fail
      refine HU.out.mono ?_
      rintro e w1 ⟨v, q, rfl, hO1, h1, hq1, k1⟩
      obtain rfl : q = qx := hq1 _ rfl
      have bz1 := bz.keep k1 (fun e => by omega)
      dsimp only [optL] at hO1
      rw [HN.out] at hO1
      obtain ⟨A1, c1, rfl, r1⟩ := own_rdI hO1
      have gK := (k0.mono (O' := fun k => k = br) (fun _ hf _ => hf.elim)).trans k1 (fun _ h _ => h)
      clear bz k0 hq1 hO1
      go_wp2_with fail
      refine (HU2.out _ _ (by omega) h1).mono ?_
      rintro e w2 ⟨v2, q2, rfl, hO2, h2, _, k2⟩
      have bz2 := bz1.keep k2 (fun e => by omega)
      obtain ⟨z0, z1⟩ := blk2 bz2
      have fz := fun i => bz2.frozen i
      have HBZ := Lib.hid (fun u v => blk_put2 bz2 u v)
      replace gK := keep_bb gK k2
      clear bz1 bz2 k2 k1 hO2
      go_wp2
      refine bodyPost_ret (ret_sig rfl rfl (HBZ.out _ _) rfl) rfl ?_
      exact sig_none HD.out (h2.keep (keep_at2 w2 w.heap.size _ _) HOb.out) (keep_put2 gK (Nat.le_refl _) _ _)
    | some y =>
      obtain ⟨ys, qy⟩ := y
      obtain ⟨hk2, hml2, _⟩ := rdT_ok hR2
      obtain ⟨na, hna⟩ : ∃ na, xs.length = na := ⟨_, rfl⟩
      obtain ⟨nb, hnb⟩ : ∃ nb, ys.length = nb := ⟨_, rfl⟩
      have HN := Lib.hid hna
      have HM := Lib.hid hnb
      rw [hna] at hml
      rw [hnb, hna] at hml2
      have HU2 := Lib.hid (fun (w : World) (M : Int) (hM : M = ((64 - na : Nat) : Int)) (h : V.ReelAt w br Ob l qx) => (by have := unpackI_at w br Ob l qx (64 - na) M hM (by omega) h hlen; rw [← hna, hR2] at this; exact this : Calls Tryz.prog 179 #[.pointer (some ⟨br, 0, none⟩), .int .i64 M] w (UnpR w br (fun w' q => V.ReelAt w' br Ob l q) (some (ys, qy)))))
      have HI : Hid ((okG xs ys = false → decG l p = none ∧ ∀ (A : Option Addr) (ca : Nat) (B : Option Addr) (cb : Nat) (w : World), Rd w A (ivs xs) → Rd w B (ivs ys) → Calls Tryz.prog 180 #[.agg #[.slice A na ca, .slice B nb cb]] w fun e w' => e = .returned (.tuple #[.agg #[.slice none 0 0, .slice none 0 0], .int .i64 61]) ∧ Keep NoB w w') ∧
        (okG xs ys = true → decG l p = some ((xs, ys), qy) ∧ ∀ (A : Option Addr) (ca : Nat) (B : Option Addr) (cb : Nat) (w : World), Rd w A (ivs xs) → Rd w B (ivs ys) → Calls Tryz.prog 180 #[.agg #[.slice A na ca, .slice B nb cb]] w fun e w' => e = .returned (.tuple #[.agg #[.slice A na ca, .slice B nb cb], .int .i64 0]) ∧ Keep NoB w w')) :=
        ⟨fun ho => ⟨decGm_3 hR hR2 ho, fun A ca B cb w ha hr => ifG_no A xs na ca B ys nb cb w ha hr hna hnb (by omega) (by omega) ho⟩, fun ho => ⟨decGm_4 hR hR2 ho, fun A ca B cb w ha hr => ifG_yes A xs na ca B ys nb cb w ha hr hna hnb (by omega) (by omega) ho⟩⟩
      have HO1 : Hid (w.heap.size < (w.alloc (.cells #[.slice none 0 0, .slice none 0 0] 57)).heap.size) := by show _ < _; simp
      clear hR hR2 hk hk2 hna hnb
      go_enter Tryz.func135, Tryz.ntmps135
      go_wp2_with fail
      refine HU.out.mono ?_
      rintro e w1 ⟨v, q, rfl, hO1, h1, hq1, k1⟩
      obtain rfl : q = qx := hq1 _ rfl
      have bz1 := bz.keep k1 (fun e => by omega)
      dsimp only [optL] at hO1
      rw [HN.out] at hO1
      have gK := (k0.mono (O' := fun k => k = br) (fun _ hf _ => hf.elim)).trans k1 (fun _ h _ => h)
      replace hO1 := hO1.mono (O' := fun k => w.heap.size < k) (fun k hf _ => by have := HO1.out; unfold Fresh at hf; omega)
      obtain ⟨A1, c1, rfl, r1⟩ := own_rdI hO1
      have hs1 : w.heap.size < w1.heap.size := bz1.lt
      clear bz k0 hq1 r1 k1 HO1
      go_wp2_with fail
      refine (HU2.out _ _ (by omega) h1).mono ?_
      rintro e w2 ⟨v2, q2, rfl, hO2, h2, hq2, k2⟩
      obtain rfl : q2 = qy := hq2 _ rfl
      have bz2 := bz1.keep k2 (fun e => by omega)
      dsimp only [optL] at hO2
      rw [HM.out] at hO2
      replace hO2 := hO2.mono (O' := fun k => w.heap.size < k) (fun k hf _ => by unfold Fresh at hf; omega)
      replace hO1 := hO1.keep k2 (fun k hk e => by omega)
      replace gK := keep_bb gK k2
      obtain ⟨A2, c2, rfl, r2⟩ := own_rdI hO2
      have r1 : Rd w2 A1 (ivs xs) := by
        obtain ⟨A', c', e, hr⟩ := own_rdI hO1
        cases e; exact hr
      clear bz1 hq2 k2 h1 HU HU2
      cases ho : okG xs ys
      · obtain ⟨hD, hI⟩ := HI.out.1 ho
        have HD := Lib.hid hD
        have HI2 := Lib.hid hI
        clear hD hI HI ho hO1 hO2
        go_wp2_with fail
        refine (HI2.out _ _ _ _ _ r1 r2).mono ?_
        rintro e w3 ⟨rfl, k3⟩
        have bz3 := bz2.keep k3 id
        obtain ⟨z0, z1⟩ := blk2 bz3
        have fz := fun i => bz3.frozen i
        have HBZ := Lib.hid (fun u v => blk_put2 bz3 u v)
        have h3 := h2.keep k3 (fun _ _ => id)
        replace gK := keep_nb gK k3
        clear bz2 bz3 k3 r1 r2 h2 HI2
        go_wp2
        refine bodyPost_ret (ret_sig rfl rfl (HBZ.out _ _) rfl) rfl ?_
        exact sig_none HD.out (h3.keep (keep_at2 w3 w.heap.size _ _) HOb.out) (keep_put2 gK (Nat.le_refl _) _ _)
      · obtain ⟨hD, hI⟩ := HI.out.2 ho
        have HD := Lib.hid hD
        have HI2 := Lib.hid hI
        clear hD hI HI ho
        go_wp2_with fail
        refine (HI2.out _ _ _ _ _ r1 r2).mono ?_
        rintro e w3 ⟨rfl, k3⟩
        have bz3 := bz2.keep k3 id
        obtain ⟨z0, z1⟩ := blk2 bz3
        have fz := fun i => bz3.frozen i
        have HBZ := Lib.hid (fun u v => blk_put2 bz3 u v)
        have h3 := h2.keep k3 (fun _ _ => id)
        have HP1 := Lib.hid (own_put2 (hO1.keepN k3) (Nat.le_refl _) (.slice A1 na c1) (.slice A2 nb c2))
        have HP2 := Lib.hid (own_put2 (hO2.keepN k3) (Nat.le_refl _) (.slice A1 na c1) (.slice A2 nb c2))
        replace gK := keep_nb gK k3
        clear bz2 bz3 k3 r1 r2 h2 HI2 hO1 hO2
        go_wp2
        refine bodyPost_ret (ret_sig rfl rfl (HBZ.out _ _) rfl) rfl ?_
        rw [HD.out]
        refine ⟨_, _, q2, rfl, ?_, ?_, h3.keep (keep_at2 w3 w.heap.size _ _) HOb.out, fun y hy => (by injection hy with hy; rw [← hy]), keep_put2 gK (Nat.le_refl _) _ _⟩
        · show Own _ _ _ _ _ xs.length (ivs xs)
          rw [HN.out]; exact HP1.out
        · show Own _ _ _ _ _ ys.length (ivs ys)
          rw [HM.out]; exact HP2.out

end Go.Proofs.YtgifflfjhockaaaGreatDoor.S

namespace Go.Proofs.YtgifflfjhockaaaGreatDoor.F
open Go.RowKit W

/-- What decodeName answers; At is where the Reel stands. -/
def NmG (At : World → Nat → Prop) (R : Option (List UInt8 × Nat)) (S : ByteArray) (E : Int) (w' : World) : Prop :=
  (R = none ∧ E ≠ 0 ∧ ∃ q, At w' q) ∨ (∃ s q, R = some (s, q) ∧ E = 0 ∧ S.data.toList = s ∧ At w' q)
theorem nmR_1 {l : List UInt8} {p n d r : Nat} (h : V.bnd (V.nx (l.drop p)) 32 = (n, d, r)) (hr : r ≠ 0) : nmR l p = none := by unfold nmR; rw [h]; exact if_pos hr
theorem nmR_2 {l : List UInt8} {p n d : Nat} (h : V.bnd (V.nx (l.drop p)) 32 = (n, d, 0)) (hs : l.length < p + d + n) : nmR l p = none := by
  unfold nmR; rw [h]; dsimp only; rw [if_neg (by simp), if_pos hs]
theorem nmR_3 {l : List UInt8} {p n d : Nat} (h : V.bnd (V.nx (l.drop p)) 32 = (n, d, 0)) (hs : ¬ l.length < p + d + n) : nmR l p = some ((l.drop (p + d)).take n, p + d + n) := by
  unfold nmR; rw [h]; dsimp only; rw [if_neg (by simp), if_neg hs]

set_option maxRecDepth 100000 in
set_option maxHeartbeats 2000000 in
theorem decName_any (w : World) (br : Nat) (Ob : Nat → Prop) (l : List UInt8) (p : Nat) (h : V.ReelAt w br Ob l p) (hlen : l.length ≤ 140737488355328) :
    Calls Tryz.prog 133 #[.pointer (some ⟨br, 0, none⟩)] w fun e w' => ∃ x E, e = .returned (.tuple #[.string x, .int .i64 E]) ∧ NmG (fun w' q => V.ReelAt w' br Ob l q) (nmR l p) x E w' ∧ Keep (fun k => k = br) w w' := by
  have HB := Lib.hid (V.rbytes_any w br Ob l p 32 h hlen (by omega) (by omega))
  rw [show (max (32 : Int) 0).toNat = 32 from rfl] at HB
  have hx := V.bnd_width (l.drop p) 32
  have hp := h.2.1
  rw [List.length_drop] at hx
  have hb0 : ∃ b, V.bnd (V.nx (l.drop p)) 32 = b := ⟨_, rfl⟩
  obtain ⟨⟨n, d, r⟩, hb⟩ := hb0
  rw [hb] at HB hx
  dsimp only at hx
  have HN := Lib.hid hb
  clear hb
  have c0 : ∀ w, (convert 26 9 (.slice none 0 0)).run Tryz.prog w = .ok (.string (V.str [])) w := fun w => V.conv_rd (l := []) (c := 0) (fun h => absurd h (by simp))
  go_enter Tryz.func133, Tryz.ntmps133
  go_wp2_with fail
  refine HB.out.mono ?_
  rintro e w1 (⟨hr, rfl, h1, k1⟩ | ⟨hr, (⟨hs, rfl, h1, k1⟩ | ⟨hs, A, c, rfl, hO, h1, k1⟩)⟩)
  · have H1 := Lib.hid h1
    have HE := Lib.hid (show ((r : Int)) ≠ 0 by dsimp only at hr; omega)
    have HM := Lib.hid (nmR_1 HN.out hr)
    clear hx hp hr h1
    dsimp only
    go_wp2
    go_ret2
    exact ⟨_, _, rfl, .inl ⟨HM.out, HE.out, p, H1.out⟩, k1.mono (fun _ hf _ => hf.elim)⟩
  · dsimp only at hr hs
    subst hr
    have H1 := Lib.hid h1
    have HM := Lib.hid (nmR_2 HN.out (by omega))
    clear hx hp hs h1
    go_wp2
    go_ret2
    exact ⟨_, _, rfl, .inl ⟨HM.out, by decide, p, H1.out⟩, k1.mono (fun _ hf _ => hf.elim)⟩
  · dsimp only at hr hs hO h1
    subst hr
    rw [Int.toNat_natCast] at hO h1 ⊢
    have hns : ¬ l.length < p + d + n := by omega
    have HM := nmR_3 HN.out hns
    have hxl : ((l.drop (p + d)).take n).length = n := by rw [List.length_take, List.length_drop]; omega
    generalize (l.drop (p + d)).take n = xs at hO HM hxl
    obtain ⟨A', c', e, hr', _⟩ := S.own_rd hO
    injection e with e1 e2 e3
    subst e1 e3
    have cv : (convert 26 9 (.slice A n c)).run Tryz.prog w1 = .ok (.string (V.str xs)) w1 := by rw [← hxl]; exact V.conv_rd hr'
    have H1 := Lib.hid h1
    have HM := Lib.hid HM
    clear hx hp hs h1 hO hr' e2 hxl hns c0
    go_wp2
    go_ret2
    exact ⟨_, _, rfl, .inr ⟨xs, _, HM.out, rfl, rfl, H1.out⟩, k1⟩

/-- What decodeLocals answers. -/
def LcG (w : World) (At : World → Nat → Prop) (R : Option (List Int × Nat)) (A : Option Addr) (n c : Nat) (E : Int) (w' : World) : Prop :=
  (R = none ∧ E ≠ 0 ∧ ∃ q, At w' q) ∨ (∃ a q, R = some (a, q) ∧ E = 0 ∧ Own w' 3 1 (Fresh w) (.slice A n c) n (ivs a) ∧ a.length = n ∧ At w' q)
theorem lcR_1 {l : List UInt8} {p : Nat} (h : S.decG l p = none) : lcR l p = none := by unfold lcR; rw [h]
theorem lcR_2 {l : List UInt8} {p q : Nat} {a r : List Int} (h : S.decG l p = some ((a, r), q)) (hr : r ≠ []) : lcR l p = none := by unfold lcR; rw [h]; exact if_neg hr
theorem lcR_3 {l : List UInt8} {p q : Nat} {a : List Int} (h : S.decG l p = some ((a, []), q)) : lcR l p = some (a, q) := by unfold lcR; rw [h]; exact if_pos rfl
theorem own_len {w : World} {O : Nat → Prop} {v : Value} {l : List Int} {n : Nat} (h : Own w 3 1 O v n (ivs l)) : l.length = n := by have := h.1.1; simpa using this

set_option maxRecDepth 100000 in
set_option maxHeartbeats 2000000 in
theorem decLoc_any (w : World) (br : Nat) (Ob : Nat → Prop) (l : List UInt8) (p : Nat) (hO : ∀ k, Ob k → k < w.heap.size) (h : V.ReelAt w br Ob l p) (hlen : l.length ≤ 140737488355328) :
    Calls Tryz.prog 137 #[.pointer (some ⟨br, 0, none⟩)] w fun e w' => ∃ A n c E, e = .returned (.tuple #[.slice A n c, .int .i64 E]) ∧ LcG w (fun w' q => V.ReelAt w' br Ob l q) (lcR l p) A n c E w' ∧ Keep (fun k => k = br) w w' := by
  have HD := Lib.hid (S.decodeG_any w br Ob l p hO h hlen)
  have HH : Hid (∀ k, Ob k → k < w.heap.size) := hO
  clear h
  cases hg : S.decG l p with
  | none =>
    rw [hg] at HD
    have HM := Lib.hid (lcR_1 hg)
    clear hg hO
    go_enter Tryz.func137, Tryz.ntmps137
    go_wp2_with fail
    refine HD.out.mono ?_
    rintro e w1 ⟨v1, v2, q, rfl, hO1, hO2, h1, _, k1⟩
    obtain ⟨A1, c1, rfl, _⟩ := hO1.form
    obtain ⟨A2, c2, rfl, _⟩ := hO2.form
    dsimp only [S.optA, S.optB, S.optF, List.length_nil]
    have ka := (Keep.refl NoB w1).alloc (.cells #[.slice A1 0 c1, .slice A2 0 c2] 57)
    have H1 := Lib.hid (h1.keep ka (fun _ _ => id))
    have HK := Lib.hid (k1.trans ka (fun _ hf _ => hf.elim))
    clear hO1 hO2 h1 k1 ka
    go_wp2
    go_ret2
    exact ⟨_, _, _, _, rfl, .inl ⟨HM.out, by decide, q, H1.out⟩, HK.out⟩
  | some x =>
    obtain ⟨⟨a, r⟩, qx⟩ := x
    rw [hg] at HD
    by_cases hr : r = []
    · subst hr
      have HM := Lib.hid (lcR_3 hg)
      clear hg hO
      go_enter Tryz.func137, Tryz.ntmps137
      go_wp2_with fail
      refine HD.out.mono ?_
      rintro e w1 ⟨v1, v2, q, rfl, hO1, hO2, h1, hq, k1⟩
      obtain rfl := hq _ rfl
      dsimp only [S.optA, S.optB, S.optF, List.length_nil] at hO1 hO2 ⊢
      obtain ⟨A1, c1, rfl, _⟩ := hO1.form
      obtain ⟨A2, c2, rfl, _⟩ := hO2.form
      have ka := (Keep.refl NoB w1).alloc (.cells #[.slice A1 a.length c1, .slice A2 0 c2] 57)
      have H1 := Lib.hid (h1.keep ka (fun _ _ => id))
      have HK := Lib.hid (k1.trans ka (fun _ hf _ => hf.elim))
      have HO := Lib.hid (hO1.keepN ka)
      clear hO1 hO2 h1 k1 ka
      go_wp2
      go_ret2
      exact ⟨_, _, _, _, rfl, .inr ⟨a, _, HM.out, rfl, HO.out, rfl, H1.out⟩, HK.out⟩
    · have hl : 0 < r.length := List.length_pos_iff.2 hr
      have HM := Lib.hid (lcR_2 hg hr)
      clear hg hO hr
      go_enter Tryz.func137, Tryz.ntmps137
      go_wp2_with fail
      refine HD.out.mono ?_
      rintro e w1 ⟨v1, v2, q, rfl, hO1, hO2, h1, hq, k1⟩
      dsimp only [S.optA, S.optB, S.optF] at hO1 hO2 ⊢
      obtain ⟨A1, c1, rfl, _⟩ := hO1.form
      obtain ⟨A2, c2, rfl, _⟩ := hO2.form
      have ka := (Keep.refl NoB w1).alloc (.cells #[.slice A1 a.length c1, .slice A2 r.length c2] 57)
      have H1 := Lib.hid (h1.keep ka (fun _ _ => id))
      have HK := Lib.hid (k1.trans ka (fun _ hf _ => hf.elim))
      clear hO1 hO2 h1 k1 ka hq
      have hlb : decide ((0 : Int) < (r.length : Int)) = true := by rw [decide_eq_true_iff]; omega
      go_wp2
      go_ret2
      exact ⟨_, _, _, _, rfl, .inl ⟨HM.out, by decide, q, H1.out⟩, HK.out⟩

end Go.Proofs.YtgifflfjhockaaaGreatDoor.F

namespace Go.Proofs.YtgifflfjhockaaaGreatDoor.F
open Go.RowKit W

theorem letB_yes {c : UInt8} (h : (97 ≤ c.toNat ∧ c.toNat ≤ 122) ∨ (65 ≤ c.toNat ∧ c.toNat ≤ 90)) : letB c = true := (letB_iff c).2 h
theorem letB_no {c : UInt8} (h : ¬ ((97 ≤ c.toNat ∧ c.toNat ≤ 122) ∨ (65 ≤ c.toNat ∧ c.toNat ≤ 90))) : letB c = false := by
  cases hb : letB c
  · rfl
  · exact absurd ((letB_iff c).1 hb) h
theorem digB_yes {c : UInt8} (h : 48 ≤ c.toNat ∧ c.toNat ≤ 57) : digB c = true := (digB_iff c).2 h
theorem digB_no {c : UInt8} (h : ¬ (48 ≤ c.toNat ∧ c.toNat ≤ 57)) : digB c = false := by
  cases hb : digB c
  · rfl
  · exact absurd ((digB_iff c).1 hb) h

set_option maxRecDepth 100000 in
set_option maxHeartbeats 2000000 in
theorem letter_any (c : UInt8) (w : World) : Calls Tryz.prog 162 #[.int .u8 (c.toNat : Int)] w fun e w' => e = .returned (.bool (letB c)) ∧ w = w' := by
  have hc : c.toNat < 256 := UInt8.toNat_lt _
  have HY : Hid ((97 ≤ c.toNat ∧ c.toNat ≤ 122) ∨ (65 ≤ c.toNat ∧ c.toNat ≤ 90) → letB c = true) := letB_yes
  have HN : Hid (¬ ((97 ≤ c.toNat ∧ c.toNat ≤ 122) ∨ (65 ≤ c.toNat ∧ c.toNat ≤ 90)) → letB c = false) := letB_no
  generalize letB c = R at HY HN
  generalize c.toNat = n at hc HY HN
  by_cases h0 : n < 65
  · skip
    obtain rfl : false = R := (HN.out (by omega)).symm
    clear HY HN
    go_enter Tryz.func162, Tryz.ntmps162
    go_wp2
    go_ret
    exact ⟨ret_bool (by first | rfl | (simp; done) | (simp; omega)), rfl⟩
  by_cases h1 : n ≤ 90
  · skip
    obtain rfl : true = R := (HY.out (by omega)).symm
    clear HY HN
    go_enter Tryz.func162, Tryz.ntmps162
    go_wp2
    go_ret
    exact ⟨ret_bool (by first | rfl | (simp; done) | (simp; omega)), rfl⟩
  by_cases h2 : n < 97
  · skip
    obtain rfl : false = R := (HN.out (by omega)).symm
    clear HY HN
    go_enter Tryz.func162, Tryz.ntmps162
    go_wp2
    go_ret
    exact ⟨ret_bool (by first | rfl | (simp; done) | (simp; omega)), rfl⟩
  by_cases h3 : n ≤ 122
  · skip
    obtain rfl : true = R := (HY.out (by omega)).symm
    clear HY HN
    go_enter Tryz.func162, Tryz.ntmps162
    go_wp2
    go_ret
    exact ⟨ret_bool (by first | rfl | (simp; done) | (simp; omega)), rfl⟩
  obtain rfl : false = R := (HN.out (by omega)).symm
  clear HY HN
  go_enter Tryz.func162, Tryz.ntmps162
  go_wp2
  go_ret
  exact ⟨ret_bool (by first | rfl | (simp; done) | (simp; omega)), rfl⟩

set_option maxRecDepth 100000 in
set_option maxHeartbeats 2000000 in
theorem digit_any (c : UInt8) (w : World) : Calls Tryz.prog 163 #[.int .u8 (c.toNat : Int)] w fun e w' => e = .returned (.bool (digB c)) ∧ w = w' := by
  have hc : c.toNat < 256 := UInt8.toNat_lt _
  have HY : Hid (48 ≤ c.toNat ∧ c.toNat ≤ 57 → digB c = true) := digB_yes
  have HN : Hid (¬ (48 ≤ c.toNat ∧ c.toNat ≤ 57) → digB c = false) := digB_no
  generalize digB c = R at HY HN
  generalize c.toNat = n at hc HY HN
  by_cases h0 : n < 48
  · skip
    obtain rfl : false = R := (HN.out (by omega)).symm
    clear HY HN
    go_enter Tryz.func163, Tryz.ntmps163
    go_wp2
    go_ret
    exact ⟨ret_bool (by first | rfl | (simp; done) | (simp; omega)), rfl⟩
  by_cases h1 : n ≤ 57
  · skip
    obtain rfl : true = R := (HY.out (by omega)).symm
    clear HY HN
    go_enter Tryz.func163, Tryz.ntmps163
    go_wp2
    go_ret
    exact ⟨ret_bool (by first | rfl | (simp; done) | (simp; omega)), rfl⟩
  obtain rfl : false = R := (HN.out (by omega)).symm
  clear HY HN
  go_enter Tryz.func163, Tryz.ntmps163
  go_wp2
  go_ret
  exact ⟨ret_bool (by first | rfl | (simp; done) | (simp; omega)), rfl⟩

theorem in_step {l : List UInt8} {k : Nat} (hk : k < l.length) (h : (l.take k).all inB = true) (h2 : inB l[k] = true) : (l.take (k + 1)).all inB = true := by
  rw [List.take_succ_eq_append_getElem hk, List.all_append, h]; simp [h2]
theorem in_no {l : List UInt8} {k : Nat} (hk : k < l.length) (h2 : inB l[k] = false) : l.all inB = false := by
  cases h : l.all inB
  · rfl
  · rw [List.all_eq_true.1 h _ (List.getElem_mem hk)] at h2; cases h2
theorem str_at {S : ByteArray} {s : List UInt8} (hs : S.data.toList = s) {k : Nat} (hk : k < S.size) (hk2 : k < s.length) : S[k] = s[k] := by subst hs; rfl

set_option maxRecDepth 100000 in
set_option maxHeartbeats 4000000 in
theorem named_any (S : ByteArray) (s : List UInt8) (w : World) (hs : Hid (S.data.toList = s)) (hm : S.size ≤ 9223372036854775807) (R : Int) (hR : Hid (chkN s = R)) :
    Calls Tryz.prog 120 #[.string S] w fun e w' => e = .returned (.int .i64 R) ∧ w = w' := by
  have HZ : Hid (S.size = s.length) := sz_len hs.out
  have HL := Lib.hid (fun (c : UInt8) (w : World) => letter_any c w)
  have HD := Lib.hid (fun (c : UInt8) (w : World) => digit_any c w)
  by_cases h0 : S.size = 0
  · obtain rfl : 71 = R := by rw [← hR.out]; exact (chkN_no (by rw [List.length_eq_zero_iff.1 (HZ.out.symm.trans h0)]; rfl)).symm
    clear hR
    go_enter Tryz.func120, Tryz.ntmps120
    go_wp2
    go_ret
    exact ⟨rfl, rfl⟩
  have hq0 : ((S.size : Int) == 0) = false := by rw [beq_eq_false_iff_ne]; omega
  by_cases h1 : 32 < S.size
  · obtain rfl : 71 = R := by rw [← hR.out]; exact (chkN_no (okN_long (by rw [← HZ.out]; omega))).symm
    clear hR
    go_enter Tryz.func120, Tryz.ntmps120
    go_wp2
    go_ret
    exact ⟨rfl, rfl⟩
  have hp : 0 < S.size := by omega
  have HH : Hid (headB s = letB (S[0]'hp)) := by show _ = _; rw [str_at hs.out hp (by rw [← HZ.out]; omega)]; exact headB_at _
  cases hh : letB (S[0]'hp)
  · obtain rfl : 71 = R := by rw [← hR.out]; exact (chkN_no (okN_head (HH.out.trans hh))).symm
    have HC := Lib.hid (fun w => HL.out (S[0]'hp) w)
    rw [hh] at HC
    clear hR HH hh
    go_enter Tryz.func120, Tryz.ntmps120
    go_wp2_with (go_at_call 162; refine (HC.out _).mono ?_; rintro e w1 ⟨rfl, rfl⟩)
    go_ret
    exact ⟨rfl, rfl⟩
  have HHT := Lib.hid (HH.out.trans hh)
  have HC := Lib.hid (fun w => HL.out (S[0]'hp) w)
  rw [hh] at HC
  clear HH hh
  go_enter Tryz.func120, Tryz.ntmps120
  go_wp2_with (go_at_call 162; refine (HC.out _).mono ?_; rintro e w1 ⟨rfl, rfl⟩)
  clear HC
  go_loop [20] (fun i => ∃ k : Nat, k ≤ S.size ∧ i = .int .i64 k ∧ Hid ((s.take k).all inB = true)) (fun i => S.size - (intOf i).toNat)
  case atStart => exact ⟨0, Nat.zero_le _, rfl, rfl⟩
  case round =>
    obtain ⟨k, hk, rfl, ht⟩ := hrel
    by_cases hlt : k < S.size
    · have hks : k < s.length := by rw [← HZ.out]; exact hlt
      have HE := Lib.hid (str_at hs.out hlt hks)
      have HA := Lib.hid (fun w => HL.out (S[k]'hlt) w)
      have HB := Lib.hid (fun w => HD.out (S[k]'hlt) w)
      have HI : Hid (inB s[k] = (letB (S[k]'hlt) || digB (S[k]'hlt))) := by show _ = _; rw [HE.out]; rfl
      have HT := Lib.hid (fun h => in_step hks ht.out h)
      have HN := Lib.hid (fun h => in_no hks h)
      cases hl : letB (S[k]'hlt)
      · rw [hl] at HA HI
        cases hd : digB (S[k]'hlt)
        · rw [hd] at HB HI
          obtain rfl : 71 = R := by rw [← hR.out]; exact (chkN_no (okN_in (HN.out HI.out))).symm
          clear hR HT HN HI HE hl hd HHT ht
          go_wp2_with (first | (go_at_call 162; refine (HA.out _).mono ?_; rintro e w2 ⟨rfl, rfl⟩) | (go_at_call 163; refine (HB.out _).mono ?_; rintro e w2 ⟨rfl, rfl⟩))
          go_ret
          exact ⟨rfl, rfl⟩
        · rw [hd] at HB HI
          have HV := Lib.hid (HT.out HI.out)
          clear HT HN HI HE hl hd
          go_wp2_with (first | (go_at_call 162; refine (HA.out _).mono ?_; rintro e w2 ⟨rfl, rfl⟩) | (go_at_call 163; refine (HB.out _).mono ?_; rintro e w2 ⟨rfl, rfl⟩))
          go_round
          case rel => exact ⟨k + 1, by omega, by go_num, HV⟩
          case measure => simp [intOf]; omega
      · rw [hl] at HA HI
        have HV := Lib.hid (HT.out (by rw [HI.out]; rfl))
        clear HT HN HI HE hl HB
        go_wp2_with (go_at_call 162; refine (HA.out _).mono ?_; rintro e w2 ⟨rfl, rfl⟩)
        go_round
        case rel => exact ⟨k + 1, by omega, by go_num, HV⟩
        case measure => simp [intOf]; omega
    · obtain rfl : 0 = R := by
        rw [← hR.out]
        have e1 := ht.out
        rw [List.take_of_length_le (by rw [← HZ.out]; omega)] at e1
        exact (chkN_ok ((okN_iff s).2 ⟨by rw [← HZ.out]; omega, HHT.out, e1⟩)).symm
      clear hR HHT
      go_wp2
      go_ret
      exact ⟨rfl, rfl⟩

end Go.Proofs.YtgifflfjhockaaaGreatDoor.F

namespace Go.Proofs.YtgifflfjhockaaaGreatDoor.F
open Go.RowKit

/-- A function value, with what it has captured. -/
def askV (g : Nat) (caps : Array Value) : Value := .func (.func g) #[] caps

set_option maxRecDepth 100000 in
set_option maxHeartbeats 2000000 in
theorem every_any (A : Option Addr) (qs : List (Nat × Array Value)) (n c : Nat) (w : World) (hn : Hid (qs.length = n)) (hm : n ≤ 1000) (bs : Nat → Bool) (I : Nat → World → Prop) (J : World → Prop)
    (hcf : Hid (∀ q ∈ qs, ∀ args w, (callFunc q.1 args).run Tryz.prog w = .ok (.enter q.1 args) w))
    (hr : Hid (∀ i W, I i W → Rd W A (qs.map fun q => askV q.1 q.2)))
    (hq : Hid (∀ i (h : i < qs.length) W, I i W → Calls Tryz.prog qs[i].1 qs[i].2 W fun e W' => e = .returned (.bool (bs i)) ∧ (bs i = true → I (i + 1) W') ∧ (bs i = false → J W')))
    (h0 : I 0 w) :
    Calls Tryz.prog 116 #[.slice A n c] w fun e w' => (e = .returned (.bool true) ∧ (∀ i, i < n → bs i = true) ∧ I n w') ∨ (e = .returned (.bool false) ∧ (∃ i, i < n ∧ bs i = false) ∧ J w') := by
  go_enter Tryz.func116, Tryz.ntmps116
  go_wp2
  go_loopw [7] (fun i wr => ∃ k : Nat, k ≤ n ∧ i = .int .i64 k ∧ Hid (∀ j, j < k → bs j = true) ∧ Hid (I k wr)) (fun i _ => n - (intOf i).toNat)
  case atStart => exact ⟨0, Nat.zero_le _, rfl, fun j h => absurd h (by omega), h0⟩
  case round =>
    obtain ⟨k, hk, rfl, ht, hI⟩ := hrel
    clear h0
    by_cases hlt : k < n
    · have hkq : k < qs.length := by rw [hn.out]; exact hlt
      obtain ⟨g0, off, rfl, hc⟩ := hr.out k _ hI.out (by simp; omega)
      have ck := hc k (askV qs[k].1 qs[k].2) (by simp [hkq])
      have hg := hcf.out qs[k] (List.getElem_mem hkq)
      have HQ := Lib.hid (hq.out k hkq _ hI.out)
      clear hc
      generalize qs[k] = q at ck hg HQ
      obtain ⟨g, caps⟩ := q
      dsimp only [askV] at ck hg HQ
      obtain ⟨b, hb⟩ : ∃ b, bs k = b := ⟨_, rfl⟩
      have HB := Lib.hid hb
      rw [hb] at HQ
      clear hb hI
      go_wp2_with fail
      refine HQ.out.mono ?_
      rintro e w1 ⟨rfl, hy, hno⟩
      have HY := Lib.hid hy
      have HNO := Lib.hid hno
      clear hy hno
      cases b
      · go_wp2
        go_ret
        exact .inr ⟨rfl, ⟨k, hlt, HB.out⟩, HNO.out trivial⟩
      · go_wp2
        go_roundw
        case rel => exact ⟨k + 1, by omega, by go_num, fun j hj => (by
          rcases Nat.lt_succ_iff_lt_or_eq.1 hj with h | rfl
          · exact ht.out j h
          · exact HB.out), HY.out trivial⟩
        case measure => simp [intOf]; omega
    · obtain rfl : k = n := by omega
      go_wp2
      go_ret
      exact .inl ⟨rfl, ht.out, hI.out⟩

end Go.Proofs.YtgifflfjhockaaaGreatDoor.F

namespace Go.Proofs.YtgifflfjhockaaaGreatDoor.F
open Go.RowKit W

/-- A question: what checks, and the part, each in a cell of its own. -/
def AskV (k : Nat) (tc tp : TypeId) (chk : Value) (cells : Array Value) (v : Value) (w : World) : Prop :=
  ∃ c p, v = askV k #[.pointer (some ⟨c, 0, none⟩), .pointer (some ⟨p, 0, none⟩)] ∧ Blk w c tc #[chk] ∧ Blk w p tp cells
theorem AskV.keep {k : Nat} {tc tp : TypeId} {chk : Value} {cells : Array Value} {v : Value} {w w' : World} (h : AskV k tc tp chk cells v w) (hk : Keep NoB w w') : AskV k tc tp chk cells v w' := by
  obtain ⟨c, p, e, h1, h2⟩ := h
  exact ⟨c, p, e, h1.keep hk id, h2.keep hk id⟩
/-- A function by its number alone. -/
def fnV (k : Nat) : Value := .func (.func k) #[] #[]

set_option maxRecDepth 100000 in
set_option maxHeartbeats 2000000 in
theorem few_any (v : FV) (w : World) (h : SmF v) (R : Int) (hR : Hid ((if v.na + v.nb + v.nl ≤ 64 then (0 : Int) else 70) = R)) :
    Calls Tryz.prog 118 #[v.val] w fun e w' => e = .returned (.int .i64 R) ∧ Keep NoB w w' := by
  obtain ⟨S, A, na, ca, B, nb, cb, L, nl, cl, D, nd, cd⟩ := v
  obtain ⟨_, q1, q2, q3, _⟩ := h
  dsimp only at q1 q2 q3 hR
  have bx := Blk.new w 61 (FV.cells ⟨S, A, na, ca, B, nb, cb, L, nl, cl, D, nd, cd⟩)
  have k0 := (Keep.refl NoB w).alloc (.cells (FV.cells ⟨S, A, na, ca, B, nb, cb, L, nl, cl, D, nd, cd⟩) 61)
  dsimp only [FV.val, FV.cells] at bx k0 ⊢
  by_cases h1 : na + nb + nl ≤ 64
  · obtain rfl : 0 = R := by rw [← hR.out, if_pos h1]
    clear hR
    go_enter Tryz.func118, Tryz.ntmps118
    go_wp2
    go_ret
    exact ⟨rfl, k0⟩
  · obtain rfl : 70 = R := by rw [← hR.out, if_neg h1]
    have h2 : (64 : Int) < (na : Int) + (nb : Int) + (nl : Int) := by omega
    clear hR h1
    go_enter Tryz.func118, Tryz.ntmps118
    go_wp2
    go_ret
    exact ⟨rfl, k0⟩

theorem sig_size : (Tryz.prog.info? 57).map (·.size) = some 2 := by kernel_rfl
theorem ret_sig1 {fn : Func} {p : Tmp} {tmps : Array Value} {w : World} {g : Nat} {u v : Value} (h : fn.results = #[.cell p 57]) (hp : tmps.getD p undef = .pointer (some ⟨g, 0, none⟩)) (hb : Blk w g 57 #[u, v]) :
    (results fn tmps).run Tryz.prog w = .ok (.agg #[u, v]) w :=
  results_cell_row h tmps w g 57 #[u, v] (0, 0) _ hp hb Tryz.underlying57 rfl sig_size
set_option maxRecDepth 100000 in
set_option maxHeartbeats 2000000 in
theorem taking_any (L : Option Addr) (nl cl : Nat) (w : World) :
    Calls Tryz.prog 123 #[.slice L nl cl] w fun e w' => e = .returned (.agg #[.slice L nl cl, .slice none 0 0]) ∧ Keep NoB w w' := by
  have bz := Blk.new w 57 #[.slice L nl cl, .slice none 0 0]
  have k0 := (Keep.refl NoB w).alloc (.cells #[.slice L nl cl, .slice none 0 0] 57)
  go_enter Tryz.func123, Tryz.ntmps123
  go_wp2
  refine bodyPost_ret (ret_sig1 rfl rfl bz) rfl ?_
  exact ⟨rfl, k0⟩

set_option maxRecDepth 100000 in
set_option maxHeartbeats 2000000 in
theorem passesFun_any (k : Nat) (v : FV) (w : World) :
    Calls Tryz.prog 117 #[fnV k, v.val] w fun e w' => ∃ u, e = .returned u ∧ AskV 160 89 61 (fnV k) (v.cells) u w' ∧ Keep NoB w w' := by
  have hmf : ∀ (fn : Go.Fn) (first cap : Array Value) (w : World), (Instr.makeFunc fn first cap).run Tryz.prog w = .ok (.func fn first cap) w := fun _ _ _ _ => rfl
  have b1 := (Blk.new w 89 #[fnV k]).alloc (.cells (v.cells) 61)
  have b2 := Blk.new (w.alloc (.cells #[fnV k] 89)) 61 (v.cells)
  rw [World.size_alloc] at b2
  have k0 := ((Keep.refl NoB w).alloc (.cells #[fnV k] 89)).alloc (.cells (v.cells) 61)
  unfold fnV at *
  obtain ⟨S, A, na, ca, B, nb, cb, L, nl, cl, D, nd, cd⟩ := v
  dsimp only [FV.val, FV.cells] at *
  have HB1 := Lib.hid b1
  have HB2 := Lib.hid b2
  have HK := Lib.hid k0
  clear b1 b2 k0
  go_enter Tryz.func117, Tryz.ntmps117
  go_wp2
  go_ret
  exact ⟨_, rfl, ⟨w.heap.size, w.heap.size + 1, rfl, HB1.out, HB2.out⟩, HK.out⟩

set_option maxRecDepth 100000 in
set_option maxHeartbeats 2000000 in
theorem askedFun_any (k : Nat) (hcf : ∀ args w, (callFunc k args).run Tryz.prog w = .ok (.enter k args) w) (v : FV) (c p : Nat) (w : World) (hc : Blk w c 89 #[fnV k]) (hp : Blk w p 61 (v.cells)) (R : Int) (b : Bool) (hb : (R == 0) = b)
    (HG : Hid (Calls Tryz.prog k #[v.val] w fun e w' => e = .returned (.int .i64 R) ∧ Keep NoB w w')) :
    Calls Tryz.prog 160 #[.pointer (some ⟨c, 0, none⟩), .pointer (some ⟨p, 0, none⟩)] w fun e w' => e = .returned (.bool b) ∧ Keep NoB w w' := by
  obtain ⟨S, A, na, ca, B, nb, cb, L, nl, cl, D, nd, cd⟩ := v
  have cc := hc.cell 0
  unfold fnV at cc
  obtain ⟨c0, c1, c2, c3, c4⟩ := blk5 hp
  dsimp only [FV.val] at *
  clear hc hp
  go_enter Tryz.func160, Tryz.ntmps160
  go_wp2_with fail
  refine HG.out.mono ?_
  rintro e w1 ⟨rfl, k1⟩
  go_wp2
  go_ret
  exact ⟨rfl, k1⟩

set_option maxRecDepth 100000 in
set_option maxHeartbeats 2000000 in
theorem passesStr_any (k : Nat) (S : ByteArray) (w : World) :
    Calls Tryz.prog 119 #[fnV k, .string S] w fun e w' => ∃ u, e = .returned u ∧ AskV 161 181 9 (fnV k) (#[.string S]) u w' ∧ Keep NoB w w' := by
  have hmf : ∀ (fn : Go.Fn) (first cap : Array Value) (w : World), (Instr.makeFunc fn first cap).run Tryz.prog w = .ok (.func fn first cap) w := fun _ _ _ _ => rfl
  have b1 := (Blk.new w 181 #[fnV k]).alloc (.cells (#[.string S]) 9)
  have b2 := Blk.new (w.alloc (.cells #[fnV k] 181)) 9 (#[.string S])
  rw [World.size_alloc] at b2
  have k0 := ((Keep.refl NoB w).alloc (.cells #[fnV k] 181)).alloc (.cells (#[.string S]) 9)
  unfold fnV at *
  have HB1 := Lib.hid b1
  have HB2 := Lib.hid b2
  have HK := Lib.hid k0
  clear b1 b2 k0
  go_enter Tryz.func119, Tryz.ntmps119
  go_wp2
  go_ret
  exact ⟨_, rfl, ⟨w.heap.size, w.heap.size + 1, rfl, HB1.out, HB2.out⟩, HK.out⟩

set_option maxRecDepth 100000 in
set_option maxHeartbeats 2000000 in
theorem askedStr_any (k : Nat) (hcf : ∀ args w, (callFunc k args).run Tryz.prog w = .ok (.enter k args) w) (S : ByteArray) (c p : Nat) (w : World) (hc : Blk w c 181 #[fnV k]) (hp : Blk w p 9 (#[.string S])) (R : Int) (b : Bool) (hb : (R == 0) = b)
    (HG : Hid (Calls Tryz.prog k #[.string S] w fun e w' => e = .returned (.int .i64 R) ∧ Keep NoB w w')) :
    Calls Tryz.prog 161 #[.pointer (some ⟨c, 0, none⟩), .pointer (some ⟨p, 0, none⟩)] w fun e w' => e = .returned (.bool b) ∧ Keep NoB w w' := by
  have cc := hc.cell 0
  unfold fnV at cc
  have c0 := hp.cell 0
  clear hc hp
  go_enter Tryz.func161, Tryz.ntmps161
  go_wp2_with fail
  refine HG.out.mono ?_
  rintro e w1 ⟨rfl, k1⟩
  go_wp2
  go_ret
  exact ⟨rfl, k1⟩

set_option maxRecDepth 100000 in
set_option maxHeartbeats 2000000 in
theorem passesSig_any (k : Nat) (x y : Value) (w : World) :
    Calls Tryz.prog 121 #[fnV k, .agg #[x, y]] w fun e w' => ∃ u, e = .returned u ∧ AskV 164 183 57 (fnV k) (#[x, y]) u w' ∧ Keep NoB w w' := by
  have hmf : ∀ (fn : Go.Fn) (first cap : Array Value) (w : World), (Instr.makeFunc fn first cap).run Tryz.prog w = .ok (.func fn first cap) w := fun _ _ _ _ => rfl
  have b1 := (Blk.new w 183 #[fnV k]).alloc (.cells (#[x, y]) 57)
  have b2 := Blk.new (w.alloc (.cells #[fnV k] 183)) 57 (#[x, y])
  rw [World.size_alloc] at b2
  have k0 := ((Keep.refl NoB w).alloc (.cells #[fnV k] 183)).alloc (.cells (#[x, y]) 57)
  unfold fnV at *
  have HB1 := Lib.hid b1
  have HB2 := Lib.hid b2
  have HK := Lib.hid k0
  clear b1 b2 k0
  go_enter Tryz.func121, Tryz.ntmps121
  go_wp2
  go_ret
  exact ⟨_, rfl, ⟨w.heap.size, w.heap.size + 1, rfl, HB1.out, HB2.out⟩, HK.out⟩

set_option maxRecDepth 100000 in
set_option maxHeartbeats 2000000 in
theorem askedSig_any (k : Nat) (hcf : ∀ args w, (callFunc k args).run Tryz.prog w = .ok (.enter k args) w) (x y : Value) (c p : Nat) (w : World) (hc : Blk w c 183 #[fnV k]) (hp : Blk w p 57 (#[x, y])) (R : Int) (b : Bool) (hb : (R == 0) = b)
    (HG : Hid (Calls Tryz.prog k #[.agg #[x, y]] w fun e w' => e = .returned (.int .i64 R) ∧ Keep NoB w w')) :
    Calls Tryz.prog 164 #[.pointer (some ⟨c, 0, none⟩), .pointer (some ⟨p, 0, none⟩)] w fun e w' => e = .returned (.bool b) ∧ Keep NoB w w' := by
  have cc := hc.cell 0
  unfold fnV at cc
  obtain ⟨c0, c1⟩ := S.blk2 hp
  clear hc hp
  go_enter Tryz.func164, Tryz.ntmps164
  go_wp2_with fail
  refine HG.out.mono ?_
  rintro e w1 ⟨rfl, k1⟩
  go_wp2
  go_ret
  exact ⟨rfl, k1⟩

set_option maxRecDepth 100000 in
set_option maxHeartbeats 2000000 in
theorem passesBod_any (k : Nat) (D : Option Addr) (nd cd : Nat) (w : World) :
    Calls Tryz.prog 124 #[fnV k, .slice D nd cd] w fun e w' => ∃ u, e = .returned u ∧ AskV 166 186 59 (fnV k) (#[.slice D nd cd]) u w' ∧ Keep NoB w w' := by
  have hmf : ∀ (fn : Go.Fn) (first cap : Array Value) (w : World), (Instr.makeFunc fn first cap).run Tryz.prog w = .ok (.func fn first cap) w := fun _ _ _ _ => rfl
  have b1 := (Blk.new w 186 #[fnV k]).alloc (.cells (#[.slice D nd cd]) 59)
  have b2 := Blk.new (w.alloc (.cells #[fnV k] 186)) 59 (#[.slice D nd cd])
  rw [World.size_alloc] at b2
  have k0 := ((Keep.refl NoB w).alloc (.cells #[fnV k] 186)).alloc (.cells (#[.slice D nd cd]) 59)
  unfold fnV at *
  have HB1 := Lib.hid b1
  have HB2 := Lib.hid b2
  have HK := Lib.hid k0
  clear b1 b2 k0
  go_enter Tryz.func124, Tryz.ntmps124
  go_wp2
  go_ret
  exact ⟨_, rfl, ⟨w.heap.size, w.heap.size + 1, rfl, HB1.out, HB2.out⟩, HK.out⟩

set_option maxRecDepth 100000 in
set_option maxHeartbeats 2000000 in
theorem askedBod_any (k : Nat) (hcf : ∀ args w, (callFunc k args).run Tryz.prog w = .ok (.enter k args) w) (D : Option Addr) (nd cd : Nat) (c p : Nat) (w : World) (hc : Blk w c 186 #[fnV k]) (hp : Blk w p 59 (#[.slice D nd cd])) (R : Int) (b : Bool) (hb : (R == 0) = b)
    (HG : Hid (Calls Tryz.prog k #[.slice D nd cd] w fun e w' => e = .returned (.int .i64 R) ∧ Keep NoB w w')) :
    Calls Tryz.prog 166 #[.pointer (some ⟨c, 0, none⟩), .pointer (some ⟨p, 0, none⟩)] w fun e w' => e = .returned (.bool b) ∧ Keep NoB w w' := by
  have cc := hc.cell 0
  unfold fnV at cc
  have c0 := hp.cell 0
  clear hc hp
  go_enter Tryz.func166, Tryz.ntmps166
  go_wp2_with fail
  refine HG.out.mono ?_
  rintro e w1 ⟨rfl, k1⟩
  go_wp2
  go_ret
  exact ⟨rfl, k1⟩

end Go.Proofs.YtgifflfjhockaaaGreatDoor.F

namespace Go.Proofs.YtgifflfjhockaaaGreatDoor.F
open Go.RowKit W

/-- A reader: what decodes, the Reel, and where the part goes, each in a cell of its own. -/
def RdV (k : Nat) (tc tp : TypeId) (dec : Value) (rp : Option Addr) (pt : Addr) (v : Value) (w : World) : Prop :=
  ∃ c r q, v = askV k #[.pointer (some ⟨c, 0, none⟩), .pointer (some ⟨r, 0, none⟩), .pointer (some ⟨q, 0, none⟩)] ∧ Blk w c tc #[dec] ∧ Blk w r 141 #[.pointer rp] ∧ Blk w q tp #[.pointer (some pt)]
theorem RdV.keep {k : Nat} {tc tp : TypeId} {dec : Value} {rp : Option Addr} {pt : Addr} {v : Value} {w w' : World} (h : RdV k tc tp dec rp pt v w) (hk : Keep NoB w w') : RdV k tc tp dec rp pt v w' := by
  obtain ⟨c, r, q, e, h1, h2, h3⟩ := h
  exact ⟨c, r, q, e, h1.keep hk id, h2.keep hk id, h3.keep hk id⟩

set_option maxRecDepth 100000 in
set_option maxHeartbeats 4000000 in
theorem readsStr_any (k F i : Nat) (rp : Option Addr) (w : World) :
    Calls Tryz.prog 132 #[.pointer rp, fnV k, .pointer (some ⟨F, i, none⟩)] w fun e w' => ∃ u, e = .returned u ∧ RdV 176 195 196 (fnV k) rp ⟨F, i, none⟩ u w' ∧ Keep NoB w w' := by
  have hmf : ∀ (fn : Go.Fn) (first cap : Array Value) (w : World), (Instr.makeFunc fn first cap).run Tryz.prog w = .ok (.func fn first cap) w := fun _ _ _ _ => rfl
  have b0 := ((Blk.new w 141 #[.pointer rp]).alloc (.cells #[fnV k] 195)).alloc (.cells (#[.pointer (some ⟨F, i, none⟩)]) 196)
  have b1 := (Blk.new (w.alloc (.cells #[.pointer rp] 141)) 195 #[fnV k]).alloc (.cells (#[.pointer (some ⟨F, i, none⟩)]) 196)
  have b2 := Blk.new ((w.alloc (.cells #[.pointer rp] 141)).alloc (.cells #[fnV k] 195)) 196 (#[.pointer (some ⟨F, i, none⟩)])
  simp only [World.size_alloc] at b1 b2
  have k0 := (((Keep.refl NoB w).alloc (.cells #[.pointer rp] 141)).alloc (.cells #[fnV k] 195)).alloc (.cells (#[.pointer (some ⟨F, i, none⟩)]) 196)
  unfold fnV at *
  have HB0 := Lib.hid b0
  have HB1 := Lib.hid b1
  have HB2 := Lib.hid b2
  have HK := Lib.hid k0
  clear b0 b1 b2 k0
  go_enter Tryz.func132, Tryz.ntmps132
  go_wp2
  go_ret
  exact ⟨_, rfl, ⟨w.heap.size + 1, w.heap.size, w.heap.size + 1 + 1, rfl, HB1.out, HB0.out, HB2.out⟩, HK.out⟩

set_option maxRecDepth 100000 in
set_option maxHeartbeats 4000000 in
theorem readStr_any (k : Nat) (hcf : ∀ args w, (callFunc k args).run Tryz.prog w = .ok (.enter k args) w) (O : Nat → Prop) (rp : Option Addr) (cc0 rr qq F : Nat) (v : FV) (w : World) (hc : Blk w cc0 195 #[fnV k]) (hr : Blk w rr 141 #[.pointer rp]) (hq : Blk w qq 196 #[.pointer (some ⟨F, 0, none⟩)])
    (hF : Blk w F 61 v.cells) (hq1 : ¬ O qq) (hF1 : ¬ O F) (G : ByteArray → Int → World → Prop)
    (HG : Hid (Calls Tryz.prog k #[.pointer rp] w fun e w1 => ∃ x E, e = .returned (.tuple #[.string x, .int .i64 E]) ∧ G x E w1 ∧ Keep O w w1)) :
    Calls Tryz.prog 176 #[.pointer (some ⟨cc0, 0, none⟩), .pointer (some ⟨rr, 0, none⟩), .pointer (some ⟨qq, 0, none⟩)] w fun e w' => ∃ x E w1, e = .returned (.bool (E == 0)) ∧ G x E w1 ∧ Keep O w w1 ∧ w' = (w1.setCell ⟨F, 0, none⟩ (.string x)) := by
  have c1 := hc.cell 0
  have c2 := hr.cell 0
  have c3 := hq.cell 0
  unfold fnV at c1
  unfold FV.cells at hF
  have HQ := Lib.hid hq
  have HF := Lib.hid hF
  clear hc hr hq hF
  go_enter Tryz.func176, Tryz.ntmps176
  go_wp2_with fail
  refine HG.out.mono ?_
  rintro e w1 ⟨x, E, rfl, hg, k1⟩
  have q1 := ((HQ.out.keep k1 hq1)).cell 0
  have f1 := (HF.out.keep k1 hF1)
  obtain ⟨d0, d1, d2, d3, d4⟩ := blk5 (v := v) f1
  have fz := fun i => f1.frozen i
  simp at q1
  clear c1 c2 c3 f1 HG
  go_wp2
  go_ret
  exact ⟨x, E, w1, rfl, hg, k1, rfl⟩

set_option maxRecDepth 100000 in
set_option maxHeartbeats 4000000 in
theorem readsSig_any (k F i : Nat) (rp : Option Addr) (w : World) :
    Calls Tryz.prog 134 #[.pointer rp, fnV k, .pointer (some ⟨F, i, none⟩)] w fun e w' => ∃ u, e = .returned u ∧ RdV 178 198 199 (fnV k) rp ⟨F, i, none⟩ u w' ∧ Keep NoB w w' := by
  have hmf : ∀ (fn : Go.Fn) (first cap : Array Value) (w : World), (Instr.makeFunc fn first cap).run Tryz.prog w = .ok (.func fn first cap) w := fun _ _ _ _ => rfl
  have b0 := ((Blk.new w 141 #[.pointer rp]).alloc (.cells #[fnV k] 198)).alloc (.cells (#[.pointer (some ⟨F, i, none⟩)]) 199)
  have b1 := (Blk.new (w.alloc (.cells #[.pointer rp] 141)) 198 #[fnV k]).alloc (.cells (#[.pointer (some ⟨F, i, none⟩)]) 199)
  have b2 := Blk.new ((w.alloc (.cells #[.pointer rp] 141)).alloc (.cells #[fnV k] 198)) 199 (#[.pointer (some ⟨F, i, none⟩)])
  simp only [World.size_alloc] at b1 b2
  have k0 := (((Keep.refl NoB w).alloc (.cells #[.pointer rp] 141)).alloc (.cells #[fnV k] 198)).alloc (.cells (#[.pointer (some ⟨F, i, none⟩)]) 199)
  unfold fnV at *
  have HB0 := Lib.hid b0
  have HB1 := Lib.hid b1
  have HB2 := Lib.hid b2
  have HK := Lib.hid k0
  clear b0 b1 b2 k0
  go_enter Tryz.func134, Tryz.ntmps134
  go_wp2
  go_ret
  exact ⟨_, rfl, ⟨w.heap.size + 1, w.heap.size, w.heap.size + 1 + 1, rfl, HB1.out, HB0.out, HB2.out⟩, HK.out⟩

set_option maxRecDepth 100000 in
set_option maxHeartbeats 4000000 in
theorem readSig_any (k : Nat) (hcf : ∀ args w, (callFunc k args).run Tryz.prog w = .ok (.enter k args) w) (O : Nat → Prop) (rp : Option Addr) (cc0 rr qq F : Nat) (v : FV) (w : World) (hc : Blk w cc0 198 #[fnV k]) (hr : Blk w rr 141 #[.pointer rp]) (hq : Blk w qq 199 #[.pointer (some ⟨F, 1, none⟩)])
    (hF : Blk w F 61 v.cells) (hq1 : ¬ O qq) (hF1 : ¬ O F) (G : Option Addr → Nat → Nat → Option Addr → Nat → Nat → Int → World → Prop)
    (HG : Hid (Calls Tryz.prog k #[.pointer rp] w fun e w1 => ∃ A n c B m d E, e = .returned (.tuple #[.agg #[.slice A n c, .slice B m d], .int .i64 E]) ∧ G A n c B m d E w1 ∧ Keep O w w1)) :
    Calls Tryz.prog 178 #[.pointer (some ⟨cc0, 0, none⟩), .pointer (some ⟨rr, 0, none⟩), .pointer (some ⟨qq, 0, none⟩)] w fun e w' => ∃ A n c B m d E w1, e = .returned (.bool (E == 0)) ∧ G A n c B m d E w1 ∧ Keep O w w1 ∧ w' = (((w1.alloc (.cells #[.slice A n c, .slice B m d] 57)).setCell ⟨F, 1, none⟩ (.slice A n c)).setCell ⟨F, 2, none⟩ (.slice B m d)) := by
  have c1 := hc.cell 0
  have c2 := hr.cell 0
  have c3 := hq.cell 0
  unfold fnV at c1
  unfold FV.cells at hF
  have HQ := Lib.hid hq
  have HF := Lib.hid hF
  clear hc hr hq hF
  go_enter Tryz.func178, Tryz.ntmps178
  go_wp2_with fail
  refine HG.out.mono ?_
  rintro e w1 ⟨A, n, c, B, m, d, E, rfl, hg, k1⟩
  have q1 := ((HQ.out.keep k1 hq1).alloc (.cells #[.slice A n c, .slice B m d] 57)).cell 0
  have f1 := (HF.out.keep k1 hF1).alloc (.cells #[.slice A n c, .slice B m d] 57)
  obtain ⟨d0, d1, d2, d3, d4⟩ := blk5 (v := v) f1
  have fz := fun i => f1.frozen i
  simp at q1
  clear c1 c2 c3 f1 HG
  go_wp2
  go_ret
  exact ⟨A, n, c, B, m, d, E, w1, rfl, hg, k1, rfl⟩

set_option maxRecDepth 100000 in
set_option maxHeartbeats 4000000 in
theorem readsLoc_any (k F i : Nat) (rp : Option Addr) (w : World) :
    Calls Tryz.prog 136 #[.pointer rp, fnV k, .pointer (some ⟨F, i, none⟩)] w fun e w' => ∃ u, e = .returned u ∧ RdV 181 201 202 (fnV k) rp ⟨F, i, none⟩ u w' ∧ Keep NoB w w' := by
  have hmf : ∀ (fn : Go.Fn) (first cap : Array Value) (w : World), (Instr.makeFunc fn first cap).run Tryz.prog w = .ok (.func fn first cap) w := fun _ _ _ _ => rfl
  have b0 := ((Blk.new w 141 #[.pointer rp]).alloc (.cells #[fnV k] 201)).alloc (.cells (#[.pointer (some ⟨F, i, none⟩)]) 202)
  have b1 := (Blk.new (w.alloc (.cells #[.pointer rp] 141)) 201 #[fnV k]).alloc (.cells (#[.pointer (some ⟨F, i, none⟩)]) 202)
  have b2 := Blk.new ((w.alloc (.cells #[.pointer rp] 141)).alloc (.cells #[fnV k] 201)) 202 (#[.pointer (some ⟨F, i, none⟩)])
  simp only [World.size_alloc] at b1 b2
  have k0 := (((Keep.refl NoB w).alloc (.cells #[.pointer rp] 141)).alloc (.cells #[fnV k] 201)).alloc (.cells (#[.pointer (some ⟨F, i, none⟩)]) 202)
  unfold fnV at *
  have HB0 := Lib.hid b0
  have HB1 := Lib.hid b1
  have HB2 := Lib.hid b2
  have HK := Lib.hid k0
  clear b0 b1 b2 k0
  go_enter Tryz.func136, Tryz.ntmps136
  go_wp2
  go_ret
  exact ⟨_, rfl, ⟨w.heap.size + 1, w.heap.size, w.heap.size + 1 + 1, rfl, HB1.out, HB0.out, HB2.out⟩, HK.out⟩

set_option maxRecDepth 100000 in
set_option maxHeartbeats 4000000 in
theorem readLoc_any (k : Nat) (hcf : ∀ args w, (callFunc k args).run Tryz.prog w = .ok (.enter k args) w) (O : Nat → Prop) (rp : Option Addr) (cc0 rr qq F : Nat) (v : FV) (w : World) (hc : Blk w cc0 201 #[fnV k]) (hr : Blk w rr 141 #[.pointer rp]) (hq : Blk w qq 202 #[.pointer (some ⟨F, 3, none⟩)])
    (hF : Blk w F 61 v.cells) (hq1 : ¬ O qq) (hF1 : ¬ O F) (G : Option Addr → Nat → Nat → Int → World → Prop)
    (HG : Hid (Calls Tryz.prog k #[.pointer rp] w fun e w1 => ∃ A n c E, e = .returned (.tuple #[.slice A n c, .int .i64 E]) ∧ G A n c E w1 ∧ Keep O w w1)) :
    Calls Tryz.prog 181 #[.pointer (some ⟨cc0, 0, none⟩), .pointer (some ⟨rr, 0, none⟩), .pointer (some ⟨qq, 0, none⟩)] w fun e w' => ∃ A n c E w1, e = .returned (.bool (E == 0)) ∧ G A n c E w1 ∧ Keep O w w1 ∧ w' = (w1.setCell ⟨F, 3, none⟩ (.slice A n c)) := by
  have c1 := hc.cell 0
  have c2 := hr.cell 0
  have c3 := hq.cell 0
  unfold fnV at c1
  unfold FV.cells at hF
  have HQ := Lib.hid hq
  have HF := Lib.hid hF
  clear hc hr hq hF
  go_enter Tryz.func181, Tryz.ntmps181
  go_wp2_with fail
  refine HG.out.mono ?_
  rintro e w1 ⟨A, n, c, E, rfl, hg, k1⟩
  have q1 := ((HQ.out.keep k1 hq1)).cell 0
  have f1 := (HF.out.keep k1 hF1)
  obtain ⟨d0, d1, d2, d3, d4⟩ := blk5 (v := v) f1
  have fz := fun i => f1.frozen i
  simp at q1
  clear c1 c2 c3 f1 HG
  go_wp2
  go_ret
  exact ⟨A, n, c, E, w1, rfl, hg, k1, rfl⟩

set_option maxRecDepth 100000 in
set_option maxHeartbeats 4000000 in
theorem readsBod_any (k F i : Nat) (rp : Option Addr) (w : World) :
    Calls Tryz.prog 138 #[.pointer rp, fnV k, .pointer (some ⟨F, i, none⟩)] w fun e w' => ∃ u, e = .returned u ∧ RdV 182 204 205 (fnV k) rp ⟨F, i, none⟩ u w' ∧ Keep NoB w w' := by
  have hmf : ∀ (fn : Go.Fn) (first cap : Array Value) (w : World), (Instr.makeFunc fn first cap).run Tryz.prog w = .ok (.func fn first cap) w := fun _ _ _ _ => rfl
  have b0 := ((Blk.new w 141 #[.pointer rp]).alloc (.cells #[fnV k] 204)).alloc (.cells (#[.pointer (some ⟨F, i, none⟩)]) 205)
  have b1 := (Blk.new (w.alloc (.cells #[.pointer rp] 141)) 204 #[fnV k]).alloc (.cells (#[.pointer (some ⟨F, i, none⟩)]) 205)
  have b2 := Blk.new ((w.alloc (.cells #[.pointer rp] 141)).alloc (.cells #[fnV k] 204)) 205 (#[.pointer (some ⟨F, i, none⟩)])
  simp only [World.size_alloc] at b1 b2
  have k0 := (((Keep.refl NoB w).alloc (.cells #[.pointer rp] 141)).alloc (.cells #[fnV k] 204)).alloc (.cells (#[.pointer (some ⟨F, i, none⟩)]) 205)
  unfold fnV at *
  have HB0 := Lib.hid b0
  have HB1 := Lib.hid b1
  have HB2 := Lib.hid b2
  have HK := Lib.hid k0
  clear b0 b1 b2 k0
  go_enter Tryz.func138, Tryz.ntmps138
  go_wp2
  go_ret
  exact ⟨_, rfl, ⟨w.heap.size + 1, w.heap.size, w.heap.size + 1 + 1, rfl, HB1.out, HB0.out, HB2.out⟩, HK.out⟩

set_option maxRecDepth 100000 in
set_option maxHeartbeats 4000000 in
theorem readBod_any (k : Nat) (hcf : ∀ args w, (callFunc k args).run Tryz.prog w = .ok (.enter k args) w) (O : Nat → Prop) (rp : Option Addr) (cc0 rr qq F : Nat) (v : FV) (w : World) (hc : Blk w cc0 204 #[fnV k]) (hr : Blk w rr 141 #[.pointer rp]) (hq : Blk w qq 205 #[.pointer (some ⟨F, 4, none⟩)])
    (hF : Blk w F 61 v.cells) (hq1 : ¬ O qq) (hF1 : ¬ O F) (G : Option Addr → Nat → Nat → Int → World → Prop)
    (HG : Hid (Calls Tryz.prog k #[.pointer rp] w fun e w1 => ∃ A n c E, e = .returned (.tuple #[.slice A n c, .int .i64 E]) ∧ G A n c E w1 ∧ Keep O w w1)) :
    Calls Tryz.prog 182 #[.pointer (some ⟨cc0, 0, none⟩), .pointer (some ⟨rr, 0, none⟩), .pointer (some ⟨qq, 0, none⟩)] w fun e w' => ∃ A n c E w1, e = .returned (.bool (E == 0)) ∧ G A n c E w1 ∧ Keep O w w1 ∧ w' = (w1.setCell ⟨F, 4, none⟩ (.slice A n c)) := by
  have c1 := hc.cell 0
  have c2 := hr.cell 0
  have c3 := hq.cell 0
  unfold fnV at c1
  unfold FV.cells at hF
  have HQ := Lib.hid hq
  have HF := Lib.hid hF
  clear hc hr hq hF
  go_enter Tryz.func182, Tryz.ntmps182
  go_wp2_with fail
  refine HG.out.mono ?_
  rintro e w1 ⟨A, n, c, E, rfl, hg, k1⟩
  have q1 := ((HQ.out.keep k1 hq1)).cell 0
  have f1 := (HF.out.keep k1 hF1)
  obtain ⟨d0, d1, d2, d3, d4⟩ := blk5 (v := v) f1
  have fz := fun i => f1.frozen i
  simp at q1
  clear c1 c2 c3 f1 HG
  go_wp2
  go_ret
  exact ⟨A, n, c, E, w1, rfl, hg, k1, rfl⟩

end Go.Proofs.YtgifflfjhockaaaGreatDoor.F

namespace Go.Proofs.YtgifflfjhockaaaGreatDoor
open Go.RowKit
section
variable {P : Program} {md : Region.Mode} {ops : Array Oper}

/-- The frame as it was, but for the region's slots. -/
def FrameI (a0 : Act) (d0 n : Nat) (a : Act) : Prop := a.defers = a0.defers ∧ a.tmps.size = a0.tmps.size ∧ ∀ s, (s < d0 ∨ d0 + n ≤ s) → a.tmps.getD s undef = a0.tmps.getD s undef

/-- The slots from one on, filled. -/
def fillT (t : Array Value) (d : Nat) : List Value → Array Value
  | [] => t
  | v :: vs => fillT (t.setIfInBounds d v) (d + 1) vs
theorem fillT_size : ∀ (vs : List Value) (t : Array Value) (d : Nat), (fillT t d vs).size = t.size
  | [], _, _ => rfl
  | v :: vs, t, d => by rw [fillT, fillT_size vs]; simp
theorem fillT_get : ∀ (vs : List Value) (t : Array Value) (d : Nat), d + vs.length ≤ t.size → ∀ s, (fillT t d vs).getD s undef = if d ≤ s ∧ s < d + vs.length then vs.getD (s - d) undef else t.getD s undef
  | [], t, d, _, s => by rw [fillT, if_neg (by simp)]
  | v :: vs, t, d, h, s => by
    simp only [List.length_cons] at h
    rw [fillT, fillT_get vs _ _ (by simp; omega)]
    by_cases e : s = d
    · subst e
      rw [if_neg (by omega), if_pos (by constructor <;> simp <;> omega)]
      have hs : s < t.size := by omega
      simp [hs]
    · have hset : (t.setIfInBounds d v).getD s undef = t.getD s undef := by
        simp only [Array.getD_eq_getD_getElem?, Array.getElem?_setIfInBounds]
        rw [if_neg (fun h => e h.symm)]
      rw [hset]
      by_cases h2 : d + 1 ≤ s ∧ s < d + 1 + vs.length
      · rw [if_pos h2, if_pos (by simp; omega), show s - d = (s - (d + 1)) + 1 by omega, List.getD_cons_succ]
      · rw [if_neg h2, if_neg (by simp; omega)]
theorem frame_fill {a0 a : Act} {d0 n : Nat} (h : FrameI a0 d0 n a) (hsz : d0 + n ≤ a0.tmps.size) : a = { tmps := fillT a0.tmps d0 ((List.range n).map fun i => a.tmps.getD (d0 + i) undef), defers := a0.defers } := by
  obtain ⟨h1, h2, h3⟩ := h
  have e : a.tmps = fillT a0.tmps d0 ((List.range n).map fun i => a.tmps.getD (d0 + i) undef) := by
    apply Array.ext
    · rw [fillT_size, h2]
    · intro i hi hi'
      have hg := fillT_get ((List.range n).map fun i => a.tmps.getD (d0 + i) undef) a0.tmps d0 (by simpa using hsz) i
      have e1 : (fillT a0.tmps d0 ((List.range n).map fun i => a.tmps.getD (d0 + i) undef)).getD i undef = (fillT a0.tmps d0 ((List.range n).map fun i => a.tmps.getD (d0 + i) undef))[i] := by rw [Array.getD_eq_getD_getElem?, Array.getElem?_eq_getElem hi']; rfl
      have e2 : a.tmps.getD i undef = a.tmps[i] := by rw [Array.getD_eq_getD_getElem?, Array.getElem?_eq_getElem hi]; rfl
      refine e2.symm.trans (Eq.trans ?_ (hg.symm.trans e1))
      simp only [List.length_map, List.length_range]
      by_cases hh : d0 ≤ i ∧ i < d0 + n
      · rw [if_pos hh]
        have hlt : i - d0 < n := by omega
        rw [List.getD_eq_getElem?_getD, List.getElem?_map, List.getElem?_range hlt]
        simp only [Option.map_some, Option.getD_some]
        rw [show d0 + (i - d0) = i by omega]
      · rw [if_neg hh]; exact h3 i (by omega)
  obtain ⟨t, d⟩ := a
  simp only at e h1 ⊢
  rw [← e, h1]
end
end Go.Proofs.YtgifflfjhockaaaGreatDoor

namespace Go.Proofs.YtgifflfjhockaaaGreatDoor
open Go.RowKit
section
variable {P : Program} {md : Region.Mode} {ops : Array Oper}

/-- Each operation writes the slot of its number (number c may write none), and stands behind earlier ones alone. -/
def propsG (ops : Array Oper) (d0 c : Nat) : Bool := (List.range ops.size).all fun i => match ops[i]? with
  | none => false
  | some o => (match o.dst with
    | none => i == c
    | some d => d == d0 + i) && o.after.all fun e => decide (e.on < i)
theorem propsG_at {d0 c : Nat} (h : propsG ops d0 c = true) {i : Nat} {o : Oper} (ho : ops[i]? = some o) : (o.dst = some (d0 + i) ∨ (o.dst = none ∧ i = c)) ∧ ∀ e ∈ o.after, e.on < i := by
  have hi := (Array.getElem?_eq_some_iff.1 ho).1
  have h1 := List.all_eq_true.1 h i (List.mem_range.2 hi)
  simp only [ho, Bool.and_eq_true] at h1
  obtain ⟨h1, h3⟩ := h1
  refine ⟨?_, fun e he => ?_⟩
  · cases hd : o.dst with
    | none => rw [hd] at h1; exact .inr ⟨rfl, by simpa using h1⟩
    | some d => rw [hd] at h1; exact .inl (by simpa using h1)
  · have := Array.all_eq_true_iff_forall_mem.1 h3 e he
    simpa using this
theorem no_readyG {d0 c : Nat} (hB : propsG ops d0 c = true) {listed : Array Bool} (hs : listed.size = ops.size) (hr : Region.ready md ops listed = []) : ∀ i, i < ops.size → listed.getD i true = true := by
  intro i
  induction i using Nat.strongRecOn with
  | ind i ih =>
    intro hi
    cases hl : listed.getD i true
    · have ho : ops[i]? = some ops[i] := Array.getElem?_eq_getElem hi
      have : i ∈ Region.ready md ops listed := mem_ready.2 ⟨hl, ops[i], ho, fun e he _ => by
        have he2 := (propsG_at hB ho).2 e he
        have h1 := ih e.on he2 (by omega)
        have h2 : e.on < listed.size := by omega
        simpa [h2] using h1⟩
      rw [hr] at this; cases this
    · rfl
/-- Is a guarded operation wanted? -/
theorem wanted_at {o : Oper} {tmps : Array Value} {j d : Nat} {want b : Bool} (hg : o.guard = some (j, want)) (hd : (ops[j]?).bind (·.dst) = some d) (hv : tmps.getD d undef = .bool b) : Region.wanted o (yielded ops tmps) = (b == want) := by
  have ht : tmps[d]? = some (.bool b) := by
    rw [Array.getD_eq_getD_getElem?] at hv
    cases h : tmps[d]? with
    | none => rw [h] at hv; simp [undef] at hv
    | some x => rw [h] at hv; simp at hv; rw [hv]
  unfold Region.wanted
  rw [hg]
  simp only [yielded, hd, Option.bind_some, ht]
  cases b <;> cases want <;> rfl
theorem yieldsR_mono {R R' : Value → World → Prop} (h : ∀ u w, R u w → R' u w) : ∀ (P : Program) (r : Result Next), yieldsR R P r → yieldsR R' P r := by
  intro P r hr
  cases r with
  | ok n w =>
    cases n with
    | value u => exact h _ _ hr
    | skip => exact h _ _ hr
    | enter f args => exact Calls.mono hr fun e w'' ⟨u, e1, h2⟩ => ⟨u, e1, h _ _ h2⟩
    | _ => exact hr.elim
  | _ => exact hr.elim
/-- What an operation does: it yields a value, or isn't wanted. -/
def Does (P : Program) (ops : Array Oper) (o : Oper) (a : Act) (w : World) (R : Value → World → Prop) : Prop :=
  (Region.wanted o (yielded ops a.tmps) = true ∧ yieldsK P o a w R) ∨ (Region.wanted o (yielded ops a.tmps) = false ∧ R undef w)
theorem Does.plain {o : Oper} {a : Act} {w : World} {R : Value → World → Prop} (hg : o.guard = none) (h : yieldsK P o a w R) : Does P ops o a w R := .inl ⟨by unfold Region.wanted; rw [hg], h⟩
theorem Does.yes {o : Oper} {a : Act} {w : World} {R : Value → World → Prop} {j d : Nat} {want : Bool} (hg : o.guard = some (j, want)) (hd : (ops[j]?).bind (·.dst) = some d) (hv : a.tmps.getD d undef = .bool want) (h : yieldsK P o a w R) : Does P ops o a w R :=
  .inl ⟨by rw [wanted_at hg hd hv]; cases want <;> rfl, h⟩
theorem Does.no {o : Oper} {a : Act} {w : World} {R : Value → World → Prop} {j d : Nat} {want : Bool} (hg : o.guard = some (j, want)) (hd : (ops[j]?).bind (·.dst) = some d) (hv : a.tmps.getD d undef = .bool (!want)) (h : R undef w) : Does P ops o a w R :=
  .inr ⟨by rw [wanted_at hg hd hv]; cases want <;> rfl, h⟩

theorem wpAny_props2 {Q : Exit → Act → World → Prop} (d0 c : Nat) (O : Nat → Prop) (hB : propsG ops d0 c = true) (S : Nat → Value → World → Prop) (w0 : World) (a0 : Act) (hS : ∀ i v w w', Keep O w0 w → S i v w → Keep O w w' → S i v w') (hsz : d0 + ops.size ≤ a0.tmps.size)
    (hstep : ∀ i o (a : Act) (w : World), ops[i]? = some o → i ≠ c → FrameI a0 d0 ops.size a → Keep O w0 w → (∀ e ∈ o.after, Region.binds md e = true → S e.on (a.tmps.getD (d0 + e.on) undef) w) → Does P ops o a w fun u w' => S i u w' ∧ Keep NoB w w')
    (hspec : ∀ o (a : Act) (w : World), ops[c]? = some o → FrameI a0 d0 ops.size a → Keep NoB w0 w → (∀ e ∈ o.after, Region.binds md e = true → S e.on (a.tmps.getD (d0 + e.on) undef) w) → Does P ops o a w fun u w' => (∀ v, (o.dst.isSome = true → v = u) → S c v w') ∧ Keep O w w')
    (hend : ∀ (a : Act) (w : World), FrameI a0 d0 ops.size a → Keep O w0 w → (∀ i, i < ops.size → S i (a.tmps.getD (d0 + i) undef) w) → Q .normal a w) :
    ∀ (fuel : Nat) (listed : Array Bool) (a : Act) (w : World), listed.size = ops.size → (∃ L : List Nat, L.length ≤ fuel ∧ ∀ i, i < ops.size → listed.getD i true = false → i ∈ L) → FrameI a0 d0 ops.size a → Keep O w0 w → (listed.getD c true = false → Keep NoB w0 w) →
      (∀ i, i < ops.size → listed.getD i true = true → S i (a.tmps.getD (d0 + i) undef) w) → wpAny P md ops Q fuel listed a w := by
  have hNO : ∀ {X Y : World}, Keep NoB X Y → Keep O X Y := fun h => h.mono (fun _ hf _ => hf.elim)
  intro fuel
  induction fuel with
  | zero =>
    intro listed a w hs ⟨L, hL, hin⟩ hF hK hC hA
    obtain rfl : L = [] := List.length_eq_zero_iff.1 (by omega)
    have hall : ∀ i, i < ops.size → listed.getD i true = true := fun i hi => by
      cases h : listed.getD i true
      · cases hin i hi h
      · rfl
    refine ⟨?_, hend a w hF hK fun i hi => hA i hi (hall i hi)⟩
    rw [List.eq_nil_iff_forall_not_mem]
    intro i hi
    obtain ⟨h1, o, ho, _⟩ := mem_ready.1 hi
    rw [hall i (Array.getElem?_eq_some_iff.1 ho).1] at h1; cases h1
  | succ fuel ih =>
    intro listed a w hs ⟨L, hL, hin⟩ hF hK hC hA
    refine ⟨fun h0 => hend a w hF hK fun i hi => hA i hi (no_readyG hB hs h0 i hi), fun i hi => ?_⟩
    obtain ⟨h1, o, ho, hall⟩ := mem_ready.1 hi
    have hi' := (Array.getElem?_eq_some_iff.1 ho).1
    obtain ⟨hd, hlt⟩ := propsG_at hB ho
    have hdeps : ∀ e ∈ o.after, Region.binds md e = true → S e.on (a.tmps.getD (d0 + e.on) undef) w := fun e he hb => by
      have h2 := hall e he hb
      have h3 := hlt e he
      refine hA e.on (by omega) ?_
      have h4 : e.on < listed.size := by omega
      simpa [h4] using h2
    have hKO : (if i = c then Keep NoB w0 w else True) := by
      split
      · rename_i e; subst e; exact hC h1
      · trivial
    have hdoes : Does P ops o a w fun u w' => (∀ v, (o.dst.isSome = true → v = u) → S i v w') ∧ Keep O w w' ∧ (i ≠ c → Keep NoB w w') := by
      by_cases e : i = c
      · subst e
        rw [if_pos rfl] at hKO
        rcases hspec o a w ho hF hKO hdeps with ⟨hw, hy⟩ | ⟨hw, h2, h3⟩
        · refine .inl ⟨hw, ?_⟩
          unfold yieldsK at hy ⊢
          exact yieldsR_mono (fun u w' ⟨h2, h3⟩ => ⟨h2, h3, fun h => absurd rfl h⟩) _ _ hy
        · exact .inr ⟨hw, h2, h3, fun h => absurd rfl h⟩
      · have hsome : o.dst.isSome = true := by
          rcases hd with h | ⟨_, h⟩
          · rw [h]; rfl
          · exact absurd h e
        rcases hstep i o a w ho e hF hK hdeps with ⟨hw, hy⟩ | ⟨hw, h2, h3⟩
        · refine .inl ⟨hw, ?_⟩
          unfold yieldsK at hy ⊢
          exact yieldsR_mono (fun u w' ⟨h2, h3⟩ => ⟨fun v hv => by rw [hv hsome]; exact h2, hNO h3, fun _ => h3⟩) _ _ hy
        · exact .inr ⟨hw, fun v hv => by rw [hv hsome]; exact h2, hNO h3, fun _ => h3⟩
    have hnext : ∀ u w', (∀ v, (o.dst.isSome = true → v = u) → S i v w') → Keep O w w' → (i ≠ c → Keep NoB w w') → wpAny P md ops Q fuel (listed.setIfInBounds i true) (a.put o.dst u) w' := by
      intro u w' hSu hk hkn
      have hfr : FrameI a0 d0 ops.size (a.put o.dst u) ∧ (∀ k, k < ops.size → k ≠ i → (a.put o.dst u).tmps.getD (d0 + k) undef = a.tmps.getD (d0 + k) undef) ∧ (o.dst.isSome = true → (a.put o.dst u).tmps.getD (d0 + i) undef = u) := by
        rcases hd with hd | ⟨hd, _⟩
        · rw [hd]
          have hds : d0 + i < a.tmps.size := by rw [hF.2.1]; omega
          have hget : ∀ s, (a.put (some (d0 + i)) u).tmps.getD s undef = if s = d0 + i then u else a.tmps.getD s undef := fun s => by
            unfold Act.put
            by_cases e : s = d0 + i
            · subst e; simp [hds]
            · rw [if_neg e]
              simp only [Array.getD_eq_getD_getElem?, Array.getElem?_setIfInBounds]
              rw [if_neg (fun h => e h.symm)]
          refine ⟨⟨hF.1, by unfold Act.put; simpa using hF.2.1, fun s hs' => ?_⟩, fun k hk' hki => ?_, fun _ => ?_⟩
          · rw [hget, if_neg (by omega)]; exact hF.2.2 s hs'
          · rw [hget, if_neg (by omega)]
          · rw [hget, if_pos rfl]
        · rw [hd]
          exact ⟨hF, fun _ _ _ => rfl, fun h => by cases h⟩
      obtain ⟨hF', hother, hself⟩ := hfr
      refine ih (listed.setIfInBounds i true) _ w' (by simpa using hs) ⟨L.erase i, ?_, fun k hk' hl => ?_⟩ hF' (hK.trans hk (fun _ h _ => h)) (fun hl => ?_) fun k hk' hl => ?_
      · rw [List.length_erase_of_mem (hin i hi' h1)]; omega
      · have hki : k ≠ i := by
          rintro rfl
          have : k < listed.size := by omega
          simp [this] at hl
        have hl2 : listed.getD k true = false := by rw [getD_set_ne true (Ne.symm hki)] at hl; exact hl
        exact (List.mem_erase_of_ne hki).2 (hin k hk' hl2)
      · have hci : c ≠ i := by
          rintro rfl
          have : c < listed.size := by omega
          simp [this] at hl
        rw [getD_set_ne true (Ne.symm hci)] at hl
        exact keepN (hC hl) (hkn (Ne.symm hci))
      · by_cases e : k = i
        · subst e
          exact hSu _ hself
        · rw [hother k hk' e]
          exact hS k _ _ _ hK (hA k hk' (by rw [getD_set_ne true (Ne.symm e)] at hl; exact hl)) hk
    unfold wpOp
    simp only [ho]
    rcases hdoes with ⟨hw, hy⟩ | ⟨hw, h2, h3, h4⟩
    · rw [if_pos hw]
      exact .inl (Oper.wp_of_yields hy fun u w' ⟨h2, h3, h4⟩ => hnext u w' h2 h3 h4)
    · rw [if_neg (by rw [hw]; decide)]
      exact hnext undef w h2 h3 h4
theorem wp_region_props2 {id : Nat} {Q : Exit → Act → World → Prop} {a0 : Act} {w : World} (d0 c : Nat) (O : Nat → Prop) (hm : P.follows .mixedOrders = true) (hB : propsG ops d0 c = true) (S : Nat → Value → World → Prop) (hS : ∀ i v w1 w', Keep O w w1 → S i v w1 → Keep O w1 w' → S i v w') (hsz : d0 + ops.size ≤ a0.tmps.size)
    (hstep : ∀ i o (a : Act) (w' : World), ops[i]? = some o → i ≠ c → FrameI a0 d0 ops.size a → Keep O w w' → (∀ e ∈ o.after, Region.binds .any e = true → S e.on (a.tmps.getD (d0 + e.on) undef) w') → Does P ops o a w' fun u w'' => S i u w'' ∧ Keep NoB w' w'')
    (hspec : ∀ o (a : Act) (w' : World), ops[c]? = some o → FrameI a0 d0 ops.size a → Keep NoB w w' → (∀ e ∈ o.after, Region.binds .any e = true → S e.on (a.tmps.getD (d0 + e.on) undef) w') → Does P ops o a w' fun u w'' => (∀ v, (o.dst.isSome = true → v = u) → S c v w'') ∧ Keep O w' w'')
    (hend : ∀ (a : Act) (w' : World), FrameI a0 d0 ops.size a → Keep O w w' → (∀ i, i < ops.size → S i (a.tmps.getD (d0 + i) undef) w') → Q .normal a w') : (Code.region id ops true).wp P Q a0 w :=
  wp_region_any hm (wpAny_props2 d0 c O hB S w a0 hS hsz hstep hspec hend _ _ a0 w.drew (by simp) ⟨List.range ops.size, by simp, fun i hi _ => List.mem_range.2 hi⟩ ⟨rfl, rfl, fun _ _ => rfl⟩ (Keep.refl O w).drew (fun _ => (Keep.refl NoB w).drew) fun i hi hl => by
    simp [hi] at hl)
end
end Go.Proofs.YtgifflfjhockaaaGreatDoor
