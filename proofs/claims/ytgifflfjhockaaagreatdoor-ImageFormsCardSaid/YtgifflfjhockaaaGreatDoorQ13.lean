/-
  The document's Check of images. Conditions: the image's lists lie in memory, and are no greater than statements go through.
  The sum of bytes: the program's, over any number of parts, and the document's; a sum's four bytes. Conditions: the parts lie in memory; no more than 2^31 bytes.
  bytes.Equal, bytes.HasPrefix, bytes.CutPrefix: what they answer of bytes in memory. No conditions but that the bytes lie in memory.
  What write puts on a Tape: an operand's bytes. Conditions: the number is one of the kind; no more than 2^47 bytes in all.
  What Encode answers. Condition: numbers fit an int64.
  Show and Encode of any instruction; the law's own bytes, of, alive. Conditions: the listed package-level variables hold what their initialisers lay; numbers fit an int64.
  What the document's Encode answers. Conditions: the operands fit an int64.
  What Encode of layer code answers, the program's and the document's: a body's bytes. Conditions: the list lies in memory; numbers fit an int64.
  What the document's Bytes and Encode of layer code answer. Conditions: the list lies in memory; numbers fit an int64.
  The document's bytes of a function: Bytes and Encode. Conditions: the function's lists lie in memory, and are no longer than statements go through.
-/
import Derived.Laws.BitsAllLaws
import Derived.Test.YtgifflfjhockaaaGreatDoorQ12
import Derived.Test.YtgifflfjhockaaaGreatDoorQ6
import Derived.Test.YtgifflfjhockaaaGreatDoorQ9
import Derived.Test.YtgifflfjhockaaaGreatDoorQ2
import Derived.Test.YtgifflfjhockaaaGreatDoorQ4
import Derived.Test.YtgifflfjhockaaaGreatDoorQ10
import Derived.Test.YtgifflfjhockaaaGreatDoorQ5
namespace Go.Proofs.YtgifflfjhockaaaGreatDoor.I
open Go.RowKit W

theorem nm_iff {fs : List FE} (hN : NmsI fs) {i j : Nat} (hi : i < fs.length) (hj : j < fs.length) : fs[i].1.S = fs[j].1.S ↔ fs[i].2.nm = fs[j].2.nm := by
  have h1 := hN _ (List.getElem_mem hi)
  have h2 := hN _ (List.getElem_mem hj)
  rw [← h1, ← h2]
  constructor
  · intro h; rw [h]
  · intro h
    generalize fs[i].1.S = T at h
    generalize fs[j].1.S = U at h
    cases T; cases U; simp at h; rw [h]
/-- The first so many functions are fine. -/
def FnP (fs : List FE) (j : Nat) : Prop := (∀ e ∈ fs.take j, F.okF e.2 = true) ∧ ((fs.take j).map fun e => e.2.nm).Nodup
theorem fnP_succ {fs : List FE} {j : Nat} (hj : j < fs.length) (h : FnP fs j) (ho : F.okF fs[j].2 = true) (hn : ∀ i (hi : i < fs.length), i < j → fs[i].2.nm ≠ fs[j].2.nm) : FnP fs (j + 1) := by
  obtain ⟨h1, h2⟩ := h
  unfold FnP
  rw [List.take_succ_eq_append_getElem hj]
  refine ⟨fun e he => ?_, ?_⟩
  · rcases List.mem_append.1 he with h | h
    · exact h1 e h
    · rw [List.mem_singleton.1 h]; exact ho
  · rw [List.map_append, List.nodup_append]
    refine ⟨h2, by simp, fun a ha b hb e => ?_⟩
    simp at hb
    obtain ⟨x, hx, rfl⟩ := List.mem_map.1 ha
    obtain ⟨i, hi, hxi⟩ := List.getElem_of_mem hx
    have hij : i < j := by rw [List.length_take] at hi; omega
    have hil : i < fs.length := by omega
    refine hn i hil hij ?_
    rw [List.getElem_take] at hxi
    rw [hxi, e, hb]
theorem not_ok_shape {es : List SE} {fs : List FE} {k : Nat} (hk : k < es.length) (h : S.okS es[k].2 = false) : okI (imOf es fs) = false := okI_not (fun hh => by
  have := List.all_eq_true.1 hh.2.1 es[k].2 (List.mem_map.2 ⟨_, List.getElem_mem hk, rfl⟩)
  rw [h] at this; cases this)
theorem not_ok_fun {es : List SE} {fs : List FE} {k : Nat} (hk : k < fs.length) (h : F.okF fs[k].2 = false) : okI (imOf es fs) = false := okI_not (fun hh => by
  have := List.all_eq_true.1 hh.2.2 fs[k].2 (List.mem_map.2 ⟨_, List.getElem_mem hk, rfl⟩)
  rw [h] at this; cases this)
theorem not_ok_name {es : List SE} {fs : List FE} {i j : Nat} (hi : i < fs.length) (hj : j < fs.length) (hij : i < j) (h : fs[i].2.nm = fs[j].2.nm) : okI (imOf es fs) = false := okI_not (fun hh => by
  have hnd := hh.1.2.2
  have hl : (names (imOf es fs)).length = fs.length := by simp [names, imOf]
  have := (List.getElem_inj (h₀ := by omega) (h₁ := by omega) hnd (i := i) (j := j)).1 (by simpa [names, imOf] using h)
  omega)
theorem ok_all {es : List SE} {fs : List FE} (h1 : es.length ≤ 64) (h2 : 1 ≤ fs.length) (h3 : fs.length ≤ 64) (h4 : ∀ e ∈ es, S.okS e.2 = true) (h5 : FnP fs fs.length) : okI (imOf es fs) = true := by
  obtain ⟨h6, h7⟩ := h5
  rw [List.take_of_length_le (Nat.le_refl _)] at h6 h7
  refine (okI_iff _).2 ⟨⟨by simpa [imOf] using h1, ⟨by simpa [imOf] using h2, by simpa [imOf] using h3⟩, by unfold names imOf; rw [List.map_map]; exact h7⟩, List.all_eq_true.2 fun x hx => ?_, List.all_eq_true.2 fun x hx => ?_⟩
  · obtain ⟨e, he, rfl⟩ := List.mem_map.1 hx; exact h4 e he
  · obtain ⟨e, he, rfl⟩ := List.mem_map.1 hx; exact h6 e he

set_option maxRecDepth 100000 in
set_option maxHeartbeats 4000000 in
theorem rcheckI_any (v : IV) (es : List SE) (fs : List FE) (w : World) (h : ImAt w v es fs) (hs : SmI es fs) (R : Int) (hR : Hid (chkI (imOf es fs) = R)) :
    Calls Tryz.prog 21 #[v.val] w fun e w' => e = .returned (.int .i64 R) ∧ Keep NoB w w' := by
  have bx := Blk.new w 25 v.cells
  have gK := (Keep.refl NoB w).alloc (.cells v.cells 25)
  have HI := Lib.hid (fun W (hk : Keep NoB w W) => h.keepN hk)
  have HN := Lib.hid (nms_of h)
  have hlx := h.lx
  have hly := h.ly
  have HSM := Lib.hid hs
  have hnx := hs.ns
  have hny := hs.nf
  rw [hlx] at hnx
  rw [hly] at hny
  have HBAD : Hid (okI (imOf es fs) = false → R = 80) := fun h => by rw [← hR.out, chkI_no h]
  have HOK : Hid (okI (imOf es fs) = true → R = 0) := fun h => by rw [← hR.out, chkI_ok h]
  have HLEN : Hid (¬ (v.nx ≤ 64 ∧ 1 ≤ v.ny ∧ v.ny ≤ 64) → R = 80) := fun hh => HBAD.out (okI_not (fun h2 => hh (by
    obtain ⟨⟨a1, ⟨a2, a3⟩, _⟩, _⟩ := h2
    have e1 : (imOf es fs).sh.length = es.length := by simp [imOf]
    have e2 : (imOf es fs).fn.length = fs.length := by simp [imOf]
    rw [e1] at a1
    rw [e2] at a2 a3
    omega)))
  clear h hs hR
  obtain ⟨X, nx, cx, Y, ny, cy⟩ := v
  dsimp only [IV.val, IV.cells] at *
  obtain ⟨p0, p1⟩ := blk2 (v := ⟨X, nx, cx, Y, ny, cy⟩) bx
  dsimp only at p0 p1
  clear bx
  generalize hwb : w.alloc (.cells #[.slice X nx cx, .slice Y ny cy] 25) = wb at gK p0 p1
  by_cases h1 : nx ≤ 64
  rotate_left
  · obtain rfl := HLEN.out (fun h => h1 h.1)
    go_enter Tryz.func21, Tryz.ntmps21
    go_wp2
    go_ret
    exact ⟨rfl, gK⟩
  by_cases h2 : 1 ≤ ny
  rotate_left
  · obtain rfl := HLEN.out (fun h => h2 h.2.1)
    go_enter Tryz.func21, Tryz.ntmps21
    go_wp2
    go_ret
    exact ⟨rfl, gK⟩
  by_cases h3 : ny ≤ 64
  rotate_left
  · obtain rfl := HLEN.out (fun h => h3 h.2.2)
    go_enter Tryz.func21, Tryz.ntmps21
    go_wp2
    go_ret
    exact ⟨rfl, gK⟩
  go_enter Tryz.func21, Tryz.ntmps21
  go_wp2_with fail
  clear hwb
  go_loopw [3] (fun i wr => ∃ k : Nat, k ≤ nx ∧ i = .int .i64 k ∧ Hid (∀ e ∈ es.take k, S.okS e.2 = true) ∧ Keep NoB wb wr) (fun i _ => nx - (intOf i).toNat)
  case atStart => exact ⟨0, Nat.zero_le _, rfl, fun e he => (by simp at he), Keep.refl _ _⟩
  case round =>
    obtain ⟨k, hk, rfl, hT, hK⟩ := hrel
    replace p0 := hK.cell p0 id
    by_cases hlt : k < nx
    · have hke : k < es.length := by omega
      obtain ⟨g, off, rfl, d0⟩ := shape_at (HI.out wr (keepN gK hK)).rx hke
      have hsh := (HI.out wr (keepN gK hK)).hs _ (List.getElem_mem hke)
      have hsz := HSM.out.sh _ (List.getElem_mem hke)
      have HC := Lib.hid (fun (R : Int) (hR : Hid (S.chkS es[k].2 = R)) => S.rchkS_any es[k].1.A es[k].2 es[k].1.n es[k].1.c wr hsh.1 hsh.2 (by omega) R hR)
      have HNO := Lib.hid (fun h => not_ok_shape (fs := fs) hke h)
      have HYE : Hid (S.okS es[k].2 = true → ∀ e ∈ es.take (k + 1), S.okS e.2 = true) := fun h e he => by
        rw [List.take_succ_eq_append_getElem hke] at he
        rcases List.mem_append.1 he with h5 | h5
        · exact hT.out e h5
        · rw [List.mem_singleton.1 h5]; exact h
      clear hsh hT hsz
      generalize es[k] = e at *
      obtain ⟨⟨A, n, c⟩, l⟩ := e
      dsimp only at *
      cases ho : S.okS l
      · have hC2 := Lib.hid (HC.out 60 (S.chkS_no ho))
        obtain rfl := HBAD.out (HNO.out ho)
        clear HC HYE HNO
        go_wp2_with fail
        refine hC2.out.mono ?_
        rintro e w5 ⟨rfl, k5⟩
        have HK := Lib.hid (keepN gK (keepN hK k5))
        clear k5 hC2
        go_wp2
        go_ret
        exact ⟨rfl, HK.out⟩
      · have hC2 := Lib.hid (HC.out 0 (S.chkS_ok ho))
        have HT2 := Lib.hid (HYE.out ho)
        clear HC HYE HNO
        go_wp2_with fail
        refine hC2.out.mono ?_
        rintro e w5 ⟨rfl, k5⟩
        have HK := Lib.hid (keepN hK k5)
        clear k5 hC2
        go_wp2
        go_roundw
        case rel => exact ⟨k + 1, by omega, by go_num, HT2, HK.out⟩
        case measure => simp [intOf]; omega
    · obtain rfl : k = nx := by omega
      have HES : Hid (∀ e ∈ es, S.okS e.2 = true) := fun e he => hT.out e (by rw [List.take_of_length_le (by omega)]; exact he)
      replace p1 := hK.cell p1 id
      replace gK := keepN gK hK
      obtain ⟨wM, hwM⟩ : ∃ wM, wM = wr := ⟨_, rfl⟩
      subst hwM
      clear hT hK
      go_wp2_with fail
      go_loopw [4] (fun i wr => ∃ j : Nat, j ≤ ny ∧ i = .int .i64 j ∧ Hid (FnP fs j) ∧ Keep NoB wM wr) (fun i _ => ny - (intOf i).toNat)
      case atStart => exact ⟨0, Nat.zero_le _, rfl, ⟨fun e he => (by simp at he), by simp⟩, Keep.refl _ _⟩
      case round =>
        obtain ⟨j, hj, rfl, hT, hK⟩ := hrel
        replace p1 := hK.cell p1 id
        by_cases hlt2 : j < ny
        · have hje : j < fs.length := by omega
          have hry := (HI.out wr (keepN gK hK)).ry
          obtain ⟨g, off, rfl, d0, d1, d2, d3, d4⟩ := fun_at hry hje
          have hfn := (HI.out wr (keepN gK hK)).hf _ (List.getElem_mem hje)
          have hsm := HSM.out.fn _ (List.getElem_mem hje)
          have HC := Lib.hid (fun W (hk : Keep NoB wr W) (R : Int) (hR : Hid (F.chkF fs[j].2 = R)) => F.rcheck_any fs[j].1 fs[j].2 W (hfn.keepN hk) hsm R hR)
          have HNO := Lib.hid (fun h => not_ok_fun (es := es) hje h)
          have HNN := Lib.hid (fun i hi hij h => not_ok_name (es := es) (i := i) hi hje hij h)
          have HNI := Lib.hid (fun i hi => nm_iff HN.out (i := i) hi hje)
          have HYE := Lib.hid (fun ho hn => fnP_succ hje hT.out ho hn)
          have HRY := Lib.hid hry
          clear hfn hsm hT hry
          generalize fs[j] = e at *
          obtain ⟨⟨S1, A1, na1, ca1, B1, nb1, cb1, L1, nl1, cl1, D1, nd1, cd1⟩, f⟩ := e
          dsimp only [F.FV.val, F.FV.cells] at *
          cases ho : F.okF f
          · have hC2 := Lib.hid (fun W hk => HC.out W hk 70 (F.chkF_no ho))
            obtain rfl := HBAD.out (HNO.out ho)
            clear HC HYE HNO HNN HNI
            go_wp2_with fail
            refine (hC2.out _ (Keep.refl _ _)).mono ?_
            rintro e w5 ⟨rfl, k5⟩
            have HK := Lib.hid (keepN gK (keepN hK k5))
            clear k5 hC2
            go_wp2
            go_ret
            exact ⟨rfl, HK.out⟩
          · have hC2 := Lib.hid (fun W hk => HC.out W hk 0 (F.chkF_ok ho))
            have HYE2 := Lib.hid (HYE.out ho)
            clear HC HYE HNO
            go_wp2_with fail
            refine (hC2.out _ (Keep.refl _ _)).mono ?_
            rintro e w5 ⟨rfl, k5⟩
            replace p1 := k5.cell p1 id
            replace d0 := k5.cell d0 id
            have HRY5 := Lib.hid (HRY.out.keepN k5)
            replace hK := keepN hK k5
            clear k5 hC2 HRY d1 d2 d3 d4
            go_wp2_with fail
            go_loopw [5] (fun i wr => ∃ i0 : Nat, i0 ≤ j ∧ i = .int .i64 i0 ∧ Hid (∀ i (hi : i < fs.length), i < i0 → fs[i].2.nm ≠ f.nm) ∧ Keep NoB w5 wr) (fun i _ => j - (intOf i).toNat)
            case atStart => exact ⟨0, Nat.zero_le _, rfl, fun i _ hi => (by omega), Keep.refl _ _⟩
            case round =>
              obtain ⟨i0, hi0, rfl, hT, hK2⟩ := hrel
              replace p1 := hK2.cell p1 id
              replace d0 := hK2.cell d0 id
              by_cases hlt3 : i0 < j
              · have hie : i0 < fs.length := by omega
                have hji : (i0 : Int) < (ny : Int) := by omega
                have hjn : (j : Int) < (ny : Int) := by omega
                obtain ⟨g', off', eg, e0, _⟩ := fun_at (HRY5.out.keepN hK2) hie
                injection eg with eg
                injection eg with eg1 eg2
                subst eg1 eg2
                have HI0 := Lib.hid (HNI.out i0 hie)
                have HN0 := Lib.hid (HNN.out i0 hie hlt3)
                have HT2 : Hid (fs[i0].2.nm ≠ f.nm → ∀ i (hi : i < fs.length), i < i0 + 1 → fs[i].2.nm ≠ f.nm) := fun h i hi hii => by
                  rcases Nat.lt_succ_iff_lt_or_eq.1 hii with h5 | rfl
                  · exact hT.out i hi h5
                  · exact h
                clear hT
                generalize fs[i0] = q at *
                obtain ⟨qv, qf⟩ := q
                dsimp only at *
                have HK := Lib.hid (keepN hK hK2)
                by_cases he : qf.nm = f.nm
                · obtain rfl := HBAD.out (HN0.out he)
                  have heq : qv.S = S1 := HI0.out.2 he
                  rw [heq] at e0
                  clear HT2 HN0 HI0 HYE2 he
                  go_wp2
                  go_quiet (fail)
                  go_wp2
                  go_ret
                  exact ⟨rfl, (keepN gK HK.out).drewN _⟩
                · have hne := str_ne (S := S1) (T := qv.S) (fun h => he (HI0.out.1 h))
                  have HT3 := Lib.hid (HT2.out he)
                  have HK3 := Lib.hid hK2
                  clear HT2 HN0 HI0 he
                  generalize qv.S = T at *
                  go_wp2
                  go_quiet (fail)
                  go_wp2
                  go_roundw
                  case rel => exact ⟨i0 + 1, by omega, by go_num, HT3, HK3.out.drewN _⟩
                  case measure => simp [intOf]; omega
              · obtain rfl : i0 = j := by omega
                have HT2 := Lib.hid (HYE2.out (fun i hi hij => hT.out i hi hij))
                have HK := Lib.hid (keepN hK hK2)
                clear hT hK hK2
                go_wp2
                go_roundw
                case rel => exact ⟨i0 + 1, by omega, by go_num, HT2, HK.out⟩
                case measure => simp [intOf]; omega
        · obtain rfl : j = ny := by omega
          obtain rfl := HOK.out (ok_all (by omega) (by omega) (by omega) HES.out (by rw [hly]; exact hT.out))
          have HK := Lib.hid (keepN gK hK)
          clear hT hK
          go_wp2
          go_ret
          exact ⟨rfl, HK.out⟩

end Go.Proofs.YtgifflfjhockaaaGreatDoor.I

namespace Go.Proofs.YtgifflfjhockaaaGreatDoor.I
open Go.RowKit W

/-- Parts of bytes in memory. -/
abbrev PE := SV × List UInt8
def PartAt (w : World) (e : PE) : Prop := V.Rd w e.1.A e.2 ∧ e.2.length = e.1.n
def pvs (ps : List PE) : List Value := ps.map fun e => e.1.val
def allB (ps : List PE) : List UInt8 := ps.flatMap fun e => e.2
theorem pvs_length (ps : List PE) : (pvs ps).length = ps.length := by simp [pvs]
theorem part_at {w : World} {X : Option Addr} {ps : List PE} (h : Rd w X (pvs ps)) {i : Nat} (hi : i < ps.length) : ∃ g off, X = some ⟨g, off, none⟩ ∧ w.cell? ⟨g, off + i, none⟩ = some (.slice ps[i].1.A ps[i].1.n ps[i].1.c) := by
  obtain ⟨g, off, e, hc⟩ := h (by rw [pvs_length]; omega)
  exact ⟨g, off, e, hc i _ (by simp [pvs, hi]; rfl)⟩
theorem allB_take {ps : List PE} {k : Nat} (h : k < ps.length) : allB (ps.take (k + 1)) = allB (ps.take k) ++ ps[k].2 := by
  unfold allB; rw [List.take_succ_eq_append_getElem h, List.flatMap_append]; simp
/-- The two numbers as the program holds them. -/
def sA (l : List UInt8) : Nat := (ad l).1 % 65521
def sB (l : List UInt8) : Nat := (ad l).2 % 65521
theorem sA_lt (l : List UInt8) : sA l < 65521 := Nat.mod_lt _ (by omega)
theorem sB_lt (l : List UInt8) : sB l < 65521 := Nat.mod_lt _ (by omega)
theorem sA_snoc (l : List UInt8) (x : UInt8) : sA (l ++ [x]) = (sA l + x.toNat) % 65521 := by unfold sA; rw [ad_snoc]; simp [adS]
theorem sB_snoc (l : List UInt8) (x : UInt8) : sB (l ++ [x]) = (sB l + (sA l + x.toNat) % 65521) % 65521 := by unfold sA sB; rw [ad_snoc]; simp only [adS]; omega
theorem sum_or (l : List UInt8) : bits .or .u32 ((sB l * 65536 : Nat) : Int) ((sA l : Nat) : Int) = (sumN l : Int) := by
  have h1 := sA_lt l
  have h2 := sB_lt l
  rw [u32_or_nat _ _ (by omega) (by omega)]
  congr 1
  have : sB l * 65536 ||| sA l = sB l * 65536 + sA l := by
    have h := Nat.shiftLeft_add_eq_or_of_lt (show sA l < 2 ^ 16 by omega) (sB l)
    rw [Nat.shiftLeft_eq] at h
    exact h.symm
  rw [this]; rfl
theorem rdB_at {w : World} {A : Option Addr} {l : List UInt8} (h : V.Rd w A l) (h0 : 0 < l.length) : ∃ ad, A = some ad ∧ ∀ (i : Nat) (hi : i < l.length), w.cell? (ad.add i) = some (.int .u8 (l[i].toNat : Int)) := by
  obtain ⟨ad, e, hc⟩ := h h0
  exact ⟨ad, e, fun i hi => hc i _ (by simp [V.bvs, V.bv, hi])⟩

set_option maxRecDepth 100000 in
set_option maxHeartbeats 4000000 in
theorem sum_any (P : Option Addr) (ps : List PE) (m c : Nat) (w : World) (hr : Rd w P (pvs ps)) (hn : Hid (ps.length = m)) (hp : Hid (∀ e ∈ ps, PartAt w e)) (hm : m ≤ 1000) (hl : Hid (∀ e ∈ ps, e.1.n ≤ 140737488355328)) (R : Nat) (hR : Hid (sumN (allB ps) = R)) :
    Calls Tryz.prog 18 #[.slice P m c] w fun e w' => e = .returned (.int .u32 (R : Int)) ∧ w = w' := by
  go_enter Tryz.func18, Tryz.ntmps18
  go_wp2
  go_loop [3, 4, 11] (fun a b i => ∃ k : Nat, k ≤ m ∧ i = .int .i64 k ∧ a = .int .u32 (sA (allB (ps.take k)) : Nat) ∧ b = .int .u32 (sB (allB (ps.take k)) : Nat)) (fun _ _ i => m - (intOf i).toNat)
  case atStart => exact ⟨0, Nat.zero_le _, rfl, rfl, rfl⟩
  case round =>
    obtain ⟨k, hk, rfl, rfl, rfl⟩ := hrel
    by_cases hlt : k < m
    · have hkp : k < ps.length := by rw [hn.out]; exact hlt
      obtain ⟨g, off, rfl, hc⟩ := part_at hr hkp
      have HT := Lib.hid (allB_take hkp)
      have HP := Lib.hid (hp.out _ (List.getElem_mem hkp))
      have hL := hl.out _ (List.getElem_mem hkp)
      generalize ps[k] = e at hc HT HP hL
      obtain ⟨⟨A, n, c'⟩, l⟩ := e
      dsimp only at hc HT HP hL
      have hln : l.length = n := HP.out.2
      have HRB : Hid (V.Rd w A l) := HP.out.1
      clear hr
      generalize allB (ps.take k) = pre at HT ⊢
      go_wp2
      go_loop [3, 4, 17] (fun a b i => ∃ j : Nat, j ≤ n ∧ i = .int .i64 j ∧ a = .int .u32 (sA (pre ++ l.take j) : Nat) ∧ b = .int .u32 (sB (pre ++ l.take j) : Nat)) (fun _ _ i => n - (intOf i).toNat)
      case atStart => exact ⟨0, Nat.zero_le _, rfl, by simp, by simp⟩
      case round =>
        obtain ⟨j, hj, rfl, rfl, rfl⟩ := hrel
        by_cases hjl : j < n
        · have hjl2 : j < l.length := by omega
          obtain ⟨ad, rfl, hcb⟩ := rdB_at HRB.out (by omega)
          have cb := hcb j hjl2
          have HS : Hid (sA (pre ++ l.take (j + 1)) = (sA (pre ++ l.take j) + l[j].toNat) % 65521 ∧ sB (pre ++ l.take (j + 1)) = (sB (pre ++ l.take j) + (sA (pre ++ l.take j) + l[j].toNat) % 65521) % 65521) := by
            have e : pre ++ l.take (j + 1) = (pre ++ l.take j) ++ [l[j]] := by rw [List.take_succ_eq_append_getElem hjl2, List.append_assoc]
            show _ ∧ _
            rw [e]
            exact ⟨sA_snoc _ _, sB_snoc _ _⟩
          have h1 := sA_lt (pre ++ l.take j)
          have h2 := sB_lt (pre ++ l.take j)
          have h3 := l[j].toNat_lt
          clear hcb
          generalize sA (pre ++ l.take j) = a at HS h1 ⊢
          generalize sB (pre ++ l.take j) = b at HS h2 ⊢
          generalize l[j].toNat = x at cb HS h3
          go_wp2
          go_round
          case rel => exact ⟨j + 1, by omega, by go_num, by rw [HS.out.1]; go_num, by rw [HS.out.2]; go_num⟩
          case measure => simp [intOf]; omega
        · obtain rfl : j = n := by omega
          rw [List.take_of_length_le (by omega), ← HT.out]
          go_wp2
          go_round
          case rel => exact ⟨k + 1, by omega, by go_num, rfl, rfl⟩
          case measure => simp [intOf]; omega
    · obtain rfl : k = m := by omega
      have hall : ps.take k = ps := List.take_of_length_le (by rw [hn.out]; exact Nat.le_refl _)
      rw [hall]
      have h1 := sA_lt (allB ps)
      have h2 := sB_lt (allB ps)
      have hor := sum_or (allB ps)
      rw [hR.out] at hor
      generalize sA (allB ps) = a at *
      generalize sB (allB ps) = b at *
      have HOR : Hid (bits .or .u32 ((b : Int) * 65536) (a : Int) = (R : Int)) := by
        show bits .or .u32 ((b : Int) * 65536) (a : Int) = (R : Int)
        rw [show (b : Int) * 65536 = ((b * 65536 : Nat) : Int) by omega]
        exact hor
      clear hR hall hn hp hl hr hor
      go_wp2
      go_ret
      exact ⟨congrArg (fun x => Ending.returned (.int .u32 x)) HOR.out, rfl⟩

theorem made_bytes {w : World} (cs : List UInt8) (n : Nat) (h : cs.length = n) (hn : n ≤ 1000) : V.OwnB (w.alloc (.cells (V.bvs cs).toArray 5)) (Fresh w) (.slice (some ⟨w.heap.size, 0, none⟩) n n) cs := by
  subst h
  refine ⟨⟨by simp, .inr ⟨w.heap.size, cs.length, (V.bvs cs).toArray, rfl, Nat.zero_le _, heap_alloc_new w _, Nat.le_refl _, by unfold maxLen; omega, by simp, ?_⟩⟩, fun g e => by cases e; exact Nat.le_refl _⟩
  rw [Nat.mul_one]
  exact List.take_of_length_le (by simp)
theorem four_cells (n : Nat) (h : n < 4294967296) : #[Value.int .u8 ((n : Int) / 16777216), Value.int .u8 ((n : Int) / 65536 % 256), Value.int .u8 ((n : Int) / 256 % 256), Value.int .u8 ((n : Int) % 256)] = (V.bvs (four n)).toArray := by
  have f : ∀ a : Nat, a < 256 → ((UInt8.ofNat a).toNat : Int) = (a : Int) := fun a ha => by rw [UInt8.toNat_ofNat', Nat.mod_eq_of_lt ha]
  unfold four V.bvs V.bv
  simp only [List.map_cons, List.map_nil]
  rw [f _ (by omega), f _ (by omega), f _ (by omega), f _ (by omega)]
  rfl
theorem made_four {w : World} (n : Nat) (h : n < 4294967296) : V.OwnB (w.alloc (.cells #[Value.int .u8 ((n : Int) / 16777216), Value.int .u8 ((n : Int) / 65536 % 256), Value.int .u8 ((n : Int) / 256 % 256), Value.int .u8 ((n : Int) % 256)] 5)) (Fresh w) (.slice (some ⟨w.heap.size, 0, none⟩) 4 4) (four n) := by
  rw [four_cells n h]; exact made_bytes (four n) 4 rfl (by omega)

set_option maxRecDepth 100000 in
set_option maxHeartbeats 2000000 in
theorem seal_any (P : Option Addr) (ps : List PE) (m c : Nat) (w : World) (hr : Rd w P (pvs ps)) (hn : Hid (ps.length = m)) (hp : Hid (∀ e ∈ ps, PartAt w e)) (hm : m ≤ 1000) (hl : Hid (∀ e ∈ ps, e.1.n ≤ 140737488355328)) :
    Calls Tryz.prog 40 #[.slice P m c] w fun e w' => ∃ v, e = .returned v ∧ V.OwnB w' (Fresh w) v (four (sumN (allB ps))) ∧ Keep NoB w w' := by
  have HS := Lib.hid (sum_any P ps m c w hr hn hp hm hl _ rfl)
  have hlt := sumN_lt (allB ps)
  clear hr hn hp hl
  generalize sumN (allB ps) = n at *
  go_enter Tryz.func40, Tryz.ntmps40
  go_wp2_with fail
  refine HS.out.mono ?_
  rintro e w1 ⟨rfl, rfl⟩
  go_wp2
  go_ret
  exact ⟨_, rfl, made_four n hlt, (Keep.refl NoB w).alloc _⟩

set_option maxRecDepth 100000 in
set_option maxHeartbeats 2000000 in
theorem four_any (n : Nat) (w : World) (hlt : n < 4294967296) :
    Calls Tryz.prog 45 #[.int .u32 (n : Int)] w fun e w' => ∃ v, e = .returned v ∧ V.OwnB w' (Fresh w) v (four n) ∧ Keep NoB w w' := by
  go_enter Tryz.func45, Tryz.ntmps45
  go_wp2
  go_ret
  exact ⟨_, rfl, made_four n hlt, (Keep.refl NoB w).alloc _⟩

theorem ad1_le (l : List UInt8) : (ad l).1 ≤ 1 + 255 * l.length := by
  rw [ad_fst]; have := sum_le l; omega
set_option maxRecDepth 100000 in
set_option maxHeartbeats 4000000 in
theorem rsum_any (A : Option Addr) (l : List UInt8) (n c : Nat) (w : World) (hr : V.Rd w A l) (hn : Hid (l.length = n)) (hm : n ≤ 2147483648) (R : Nat) (hR : Hid (sumN l = R)) :
    Calls Tryz.prog 19 #[.slice A n c] w fun e w' => e = .returned (.int .u32 (R : Int)) ∧ w = w' := by
  have HB := Lib.hid (fun k (hk : k ≤ n) => (show (ad (l.take k)).1 ≤ 1 + 255 * n by have := ad1_le (l.take k); have := List.length_take_le k l; omega))
  go_enter Tryz.func19, Tryz.ntmps19
  go_wp2
  go_loop [3, 4, 5] (fun a b i => ∃ k C : Nat, k ≤ n ∧ i = .int .i64 k ∧ a = .int .u64 ((ad (l.take k)).1 : Nat) ∧ b = .int .u64 (C : Nat) ∧ Hid (C % 65521 = (ad (l.take k)).2 % 65521) ∧ C ≤ 65521 + (k % 1000) * (1 + 255 * n)) (fun _ _ i => n - (intOf i).toNat)
  case atStart => exact ⟨0, 0, Nat.zero_le _, rfl, rfl, rfl, rfl, by omega⟩
  case round =>
    obtain ⟨k, C, hk, rfl, rfl, rfl, hC, hCle⟩ := hrel
    have hA := HB.out k hk
    by_cases hlt : k < n
    · have hkl : k < l.length := by rw [hn.out]; exact hlt
      obtain ⟨ad0, rfl, hc⟩ := rdB_at hr (by omega)
      have cb := hc k hkl
      have HS : Hid ((ad (l.take (k + 1))).1 = (ad (l.take k)).1 + l[k].toNat ∧ (ad (l.take (k + 1))).2 = (ad (l.take k)).2 + ((ad (l.take k)).1 + l[k].toNat)) := by
        show _ ∧ _
        rw [List.take_succ_eq_append_getElem hkl, ad_snoc]; exact ⟨rfl, rfl⟩
      have hA2 := HB.out (k + 1) (by omega)
      have hA3 : (ad (l.take k)).1 + l[k].toNat ≤ 1 + 255 * n := by rw [← HS.out.1]; exact hA2
      have h3 := l[k].toNat_lt
      clear hc hr hA2
      generalize (ad (l.take k)).1 = a at *
      generalize (ad (l.take k)).2 = b at *
      generalize l[k].toNat = x at *
      have hq : k % 1000 ≤ 999 := by omega
      have hmul : (k % 1000) * (1 + 255 * n) ≤ 999 * (1 + 255 * n) := Nat.mul_le_mul_right _ hq
      by_cases h9 : k % 1000 = 999
      · have h9' : (((k : Int) % 1000) == 999) = true := by rw [beq_iff_eq]; omega
        have HZ : Hid ((C + (a + x)) % 65521 % 65521 = (ad (l.take (k + 1))).2 % 65521 ∧ (C + (a + x)) % 65521 ≤ 65521 + ((k + 1) % 1000) * (1 + 255 * n)) := by
          show _ ∧ _
          rw [HS.out.2]
          have := hC.out
          refine ⟨by omega, ?_⟩
          have := Nat.mod_lt (C + (a + x)) (show 0 < 65521 by omega)
          omega
        clear hq h9
        go_wp2
        go_round
        case rel => exact ⟨k + 1, (C + (a + x)) % 65521, by omega, by go_num, by rw [HS.out.1]; go_num, by go_num, HZ.out.1, HZ.out.2⟩
        case measure => simp [intOf]; omega
      · have h9' : (((k : Int) % 1000) == 999) = false := by rw [beq_eq_false_iff_ne]; omega
        have HZ : Hid ((C + (a + x)) % 65521 = (ad (l.take (k + 1))).2 % 65521 ∧ C + (a + x) ≤ 65521 + ((k + 1) % 1000) * (1 + 255 * n)) := by
          show _ ∧ _
          rw [HS.out.2, show (k + 1) % 1000 = k % 1000 + 1 by omega, Nat.add_mul]
          have := hC.out
          refine ⟨by omega, by omega⟩
        clear h9
        go_wp2
        go_round
        case rel => exact ⟨k + 1, C + (a + x), by omega, by go_num, by rw [HS.out.1]; go_num, by go_num, HZ.out.1, HZ.out.2⟩
        case measure => simp [intOf]; omega
    · obtain rfl : k = n := by omega
      have hall : l.take k = l := List.take_of_length_le (by rw [hn.out]; exact Nat.le_refl _)
      rw [hall] at hC ⊢
      have HV : Hid (C % 65521 * 65536 + (ad l).1 % 65521 = R) := by
        show _ = _
        rw [hC.out, ← hR.out]; rfl
      clear hall HB hr
      generalize (ad l).1 = a at *
      have h1 := Nat.mod_lt C (show 0 < 65521 by omega)
      have h2 := Nat.mod_lt a (show 0 < 65521 by omega)
      go_wp2
      go_ret
      refine ⟨?_, rfl⟩
      rw [← HV.out]
      exact congrArg (fun x => Ending.returned (.int .u32 x)) (by first | rfl | (simp; done) | (push_cast; omega))

end Go.Proofs.YtgifflfjhockaaaGreatDoor.I

namespace Go.Proofs.YtgifflfjhockaaaGreatDoor.I
open Go.RowKit W

theorem str_eq (l m : List UInt8) : ((V.str l).toList == (V.str m).toList) = decide (l = m) := by
  rw [ByteArray.toList_eq, ByteArray.toList_eq]
  show (l == m) = decide (l = m)
  rw [Bool.eq_iff_iff, beq_iff_eq, decide_eq_true_iff]
theorem rd_tk {w : World} {A : Option Addr} {l : List UInt8} (h : V.Rd w A l) (k : Nat) : V.Rd w A (l.take k) := fun h0 => by
  have hl : 0 < l.length := by rw [List.length_take] at h0; omega
  obtain ⟨ad, e, hc⟩ := h hl
  refine ⟨ad, e, fun j u hu => hc j u ?_⟩
  obtain ⟨hj, hju⟩ := List.getElem?_eq_some_iff.1 hu
  have hj2 : j < l.length := by simp at hj; omega
  simp at hju
  rw [← hju]
  simp [hj2]
theorem rd_dp {w : World} {ad : Addr} {l : List UInt8} (h : V.Rd w (some ad) l) (k : Nat) : V.Rd w (some (ad.add k)) (l.drop k) := fun h0 => by
  have hl : 0 < l.length := by rw [List.length_drop] at h0; omega
  obtain ⟨ad', e, hc⟩ := h hl
  injection e with e
  subst e
  refine ⟨ad.add k, rfl, fun j u hu => ?_⟩
  rw [V.add_add]
  refine hc (k + j) u ?_
  rw [List.getElem?_map, List.getElem?_drop] at hu
  rw [List.getElem?_map]; exact hu
set_option maxRecDepth 100000 in
set_option maxHeartbeats 2000000 in
theorem equalB_any (A B : Option Addr) (l m : List UInt8) (nl nm c d : Nat) (w : World) (ha : V.Rd w A l) (hb : V.Rd w B m) (hl : l.length = nl) (hm : m.length = nm) (R : Bool) (hR : Hid (decide (l = m) = R)) :
    Calls Tryz.prog 43 #[.slice A nl c, .slice B nm d] w fun e w' => e = .returned (.bool R) ∧ w = w' := by
  subst hl hm
  have c1 : (convert 26 9 (.slice A l.length c)).run Tryz.prog w = .ok (.string (V.str l)) w := V.conv_rd ha
  have c2 : (convert 26 9 (.slice B m.length d)).run Tryz.prog w = .ok (.string (V.str m)) w := V.conv_rd hb
  have he := (str_eq l m).trans hR.out
  clear ha hb hR
  generalize V.str l = X at *
  generalize V.str m = Y at *
  go_enter Tryz.func43, Tryz.ntmps43
  go_wp2
  go_ret
  exact ⟨rfl, rfl⟩

set_option maxRecDepth 100000 in
set_option maxHeartbeats 2000000 in
theorem hasPre_any (A B : Option Addr) (l m : List UInt8) (c d : Nat) (w : World) (ha : V.Rd w A l) (hb : V.Rd w B m) (hc : l.length ≤ c) (hm : m.length = 5) (R : Bool) (hR : Hid (decide (l.take 5 = m) = R)) :
    Calls Tryz.prog 83 #[.slice A l.length c, .slice B 5 d] w fun e w' => e = .returned (.bool R) ∧ w = w' := by
  go_enter Tryz.func83, Tryz.ntmps83
  by_cases h5 : 5 ≤ l.length
  · have hd : decide ((5 : Int) ≤ (l.length : Int)) = true := decide_eq_true (by omega)
    have HE := Lib.hid (equalB_any A B (l.take 5) m 5 5 c d w (rd_tk ha 5) hb (by rw [List.length_take]; omega) hm R hR)
    clear ha hb hR
    go_wp2_with fail
    refine HE.out.mono ?_
    rintro e w1 ⟨rfl, rfl⟩
    go_wp2
    go_ret
    exact ⟨rfl, rfl⟩
  · have hd : decide ((5 : Int) ≤ (l.length : Int)) = false := decide_eq_false (by omega)
    obtain rfl : false = R := by
      rw [← hR.out]; symm
      rw [decide_eq_false_iff_not]
      intro h
      have := congrArg List.length h
      rw [List.length_take, hm] at this; omega
    clear hR
    go_wp2
    go_ret
    exact ⟨rfl, rfl⟩

set_option maxRecDepth 100000 in
set_option maxHeartbeats 2000000 in
theorem cut_any (A B : Option Addr) (l m : List UInt8) (c d : Nat) (w : World) (ha : V.Rd w A l) (hb : V.Rd w B m) (hc : l.length ≤ c) (hcm : c ≤ maxLen) (hm : m.length = 5) :
    Calls Tryz.prog 42 #[.slice A l.length c, .slice B 5 d] w fun e w' => w = w' ∧ ((l.take 5 ≠ m ∧ ∃ v, e = .returned (.tuple #[v, .bool false])) ∨ (l.take 5 = m ∧ ∃ A' c', e = .returned (.tuple #[.slice A' (l.length - 5) c', .bool true]) ∧ V.Rd w A' (l.drop 5) ∧ Hid (l.length - 5 ≤ c' ∧ c' ≤ maxLen))) := by
  by_cases h5 : l.take 5 = m
  · have hl : 5 ≤ l.length := by
      have := congrArg List.length h5
      rw [List.length_take, hm] at this; omega
    have HP := Lib.hid (hasPre_any A B l m c d w ha hb hc hm true (decide_eq_true h5))
    obtain ⟨ad, rfl, _⟩ := ha (by omega)
    have HR : Hid (V.Rd w (some ⟨ad.block, ad.off + 5, none⟩) (l.drop 5)) := by
      have := rd_dp ha 5
      unfold Addr.add at this
      rw [if_neg (by decide)] at this
      exact this
    have HC : Hid (l.length - 5 ≤ c - 5 ∧ c - 5 ≤ maxLen) := ⟨by omega, by omega⟩
    have HT := Lib.hid h5
    clear ha hb h5 hcm
    by_cases hc5 : c = 5
    · subst hc5
      have HW : Hid (V.Rd w (some ad) (l.drop 5)) := fun h0 => by rw [List.length_drop] at h0; omega
      have hz : l.length - 5 = 0 := by omega
      rw [hz] at HC
      rw [hz]
      go_enter Tryz.func42, Tryz.ntmps42
      go_wp2_with fail
      refine HP.out.mono ?_
      rintro e w1 ⟨rfl, rfl⟩
      go_wp2
      go_ret2
      exact ⟨rfl, .inr ⟨HT.out, _, _, rfl, HW.out, HC.out⟩⟩
    go_enter Tryz.func42, Tryz.ntmps42
    go_wp2_with fail
    refine HP.out.mono ?_
    rintro e w1 ⟨rfl, rfl⟩
    go_wp2
    go_ret2
    exact ⟨rfl, .inr ⟨HT.out, _, _, rfl, HR.out, HC.out⟩⟩
  · have HP := Lib.hid (hasPre_any A B l m c d w ha hb hc hm false (decide_eq_false h5))
    clear ha hb
    go_enter Tryz.func42, Tryz.ntmps42
    go_wp2_with fail
    refine HP.out.mono ?_
    rintro e w1 ⟨rfl, rfl⟩
    go_wp2
    go_ret2
    exact ⟨rfl, .inl ⟨h5, _, rfl⟩⟩

end Go.Proofs.YtgifflfjhockaaaGreatDoor.I

namespace Go.Proofs.YtgifflfjhockaaaGreatDoor.O
open Go.RowKit

/-- Block k holds cells. -/
def CellsAt (W : World) (k : Nat) : Prop := ∃ cs t f, W.heap[k]? = some (.cells cs t f)
theorem CellsAt.lt {W : World} {k : Nat} (h : CellsAt W k) : k < W.heap.size := by obtain ⟨_, _, _, h⟩ := h; exact (Array.getElem?_eq_some_iff.1 h).1
theorem Blk.cellsAt {w : World} {g : Nat} {t : TypeId} {cs : Array Value} (h : Blk w g t cs) : CellsAt w g := ⟨cs, t, (0, 0), h⟩
theorem own_cells {w : World} {O : Nat → Prop} {v : Value} {l : List UInt8} (h : V.OwnB w O v l) : ∀ g, v.ownBlock = some g → CellsAt w g := by
  intro g e
  rcases h.1.2 with ⟨rfl, _⟩ | ⟨g', cap, cur, rfl, _, hh, _⟩
  · simp [Value.ownBlock] at e
  · simp [Value.ownBlock] at e
    subst e
    exact ⟨_, _, _, hh⟩
/-- A Tape's blocks are cells. -/
theorem tape_cells {w : World} {bt : Nat} {O : Nat → Prop} {l : List UInt8} (h : V.TapeAt w bt O l) : V.TapeAt w bt (fun k => O k ∧ CellsAt w k) l := by
  rcases h.2 with ⟨hb, hl⟩ | ⟨bs, v, ho, hb, hs, hv⟩
  · exact ⟨⟨h.1, Blk.cellsAt hb⟩, .inl ⟨hb, hl⟩⟩
  · exact ⟨⟨h.1, Blk.cellsAt hb⟩, .inr ⟨bs, v, ⟨ho, Blk.cellsAt hs⟩, hb, hs, hv.1, fun g e => ⟨hv.2 g e, own_cells hv g e⟩⟩⟩
/-- A step that turns none of a Tape's blocks leaves it. -/
theorem tape_grown {w w' : World} {row : Option Nat} {bt : Nat} {O : Nat → Prop} {l : List UInt8} (h : V.TapeAt w bt O l) (hg : w.grownBy w' row) (hr : ∀ r, row = some r → ¬ O r) : V.TapeAt w' bt O l := by
  have hk : Keep (fun k => some k = row) w w' := ⟨hg.os, hg.tape, hg.output, hg.size, fun k hk hn => hg.block k hk hn⟩
  exact h.keep hk (fun k ho e => hr k e.symm ho)

/-- What write leaves. -/
def WroteR (w : World) (bt : Nat) (O : Nat → Prop) (xs : List UInt8) (e : Ending) (w' : World) : Prop := e = .returned (.tuple #[]) ∧ V.TapeAt w' bt (V.More O w w') xs ∧ Keep O w w'

set_option maxHeartbeats 1000000 in
theorem write_any (k n : Int) (sh gu : Value) (bt : Nat) (O : Nat → Prop) (l : List UInt8) (w : World) (hk : k ≠ 0) (hn : inK k n = true) (h64 : -9223372036854775808 ≤ n ∧ n ≤ 9223372036854775807)
    (h : V.TapeAt w bt O l) (hO : ∀ k, O k → k < w.heap.size) (hb : l.length + 9 ≤ 140737488355328) :
    Calls Tryz.prog 195 #[opV k sh gu, .pointer (some ⟨bt, 0, none⟩), .int .i64 n] w (WroteR w bt O (l ++ encP k n)) := by
  have hK := (Keep.refl NoB w).alloc (.cells #[.int .i64 k, .int .i64 (lo k), .int .i64 (hi k), sh, gu] 268)
  have h1 := h.keep hK (fun _ _ => id)
  have hO1 : ∀ j, O j → j < (w.alloc (.cells #[.int .i64 k, .int .i64 (lo k), .int .i64 (hi k), sh, gu] 268)).heap.size := by intro j hj; have := hO j hj; simp; omega
  have hsz : (w.alloc (.cells #[.int .i64 k, .int .i64 (lo k), .int .i64 (hi k), sh, gu] 268)).heap.size = w.heap.size + 1 := by simp
  by_cases h1k : k = 1
  · subst h1k
    have HE : Hid (encP 1 n = V.encL (V.zig n)) := rfl
    have HS := Lib.hid (V.tsigned_any _ bt O l n h64.1 h64.2 h1 hO1 hb)
    clear hk hn hO hb h h1 hO1
    unfold opV
    go_enter Tryz.func195, Tryz.ntmps195
    go_wp2_with fail
    refine HS.out.mono ?_
    rintro e w2 ⟨rfl, h2, k2⟩
    go_wp2
    go_end0
    rw [HE.out]
    refine ⟨rfl, h2.mono ?_, hK.mono (fun _ hf _ => hf.elim) |>.trans k2 (fun _ ho _ => ho)⟩
    rintro j (hj | ⟨hj1, hj2⟩) _
    · exact .inl hj
    · exact .inr ⟨by omega, hj2⟩
  · have hn0 : 0 ≤ n := by
      have := (of_decide_eq_true hn).1
      unfold lo at this
      rw [if_neg h1k] at this
      split at this <;> omega
    obtain ⟨m, rfl⟩ := Int.eq_ofNat_of_zero_le hn0
    have HE : Hid (encP k m = V.encL m) := by show _ = _; unfold encP; rw [if_neg hk, if_neg h1k]; rfl
    have HS := Lib.hid (V.tnumber_any _ bt O l m h1 hO1 hb)
    have q1 : (k == 1) = false := by rw [beq_eq_false_iff_ne]; exact h1k
    have hm : (m : Int) ≤ 9223372036854775807 := h64.2
    have hw : IntKind.u64.wrap (m : Int) = (m : Int) := by simp [IntKind.wrap, IntKind.bits, IntKind.signed]; omega
    clear hk hn hO hb h h1 hO1 h1k h64
    unfold opV
    go_enter Tryz.func195, Tryz.ntmps195
    go_wp2_with fail
    refine HS.out.mono ?_
    rintro e w2 ⟨rfl, h2, k2⟩
    go_wp2
    go_end0
    rw [HE.out]
    refine ⟨rfl, h2.mono ?_, hK.mono (fun _ hf _ => hf.elim) |>.trans k2 (fun _ ho _ => ho)⟩
    rintro j (hj | ⟨hj1, hj2⟩) _
    · exact .inl hj
    · exact .inr ⟨by omega, hj2⟩

end Go.Proofs.YtgifflfjhockaaaGreatDoor.O

namespace Go.Proofs.YtgifflfjhockaaaGreatDoor.O
open Go.RowKit Go.Shelf
attribute [local go_sem] Oper.semAt_some

/-- The bytes of the operands that have come. -/
def bytesP (l : List (Int × Int)) : List UInt8 := l.flatMap fun x => encP x.1 x.2
theorem bytesP_snoc (l : List (Int × Int)) (x : Int × Int) : bytesP (l ++ [x]) = bytesP l ++ encP x.1 x.2 := by unfold bytesP; simp
theorem encP_0 (n : Int) : encP 0 n = [] := rfl
theorem bytesP_parts (ka kb a b : Int) (h : ka = 0 → kb = 0) : bytesP (partsL ka kb a b) = encP ka a ++ encP kb b := by
  unfold partsL bytesP
  split
  · rename_i hz
    rw [hz, h hz]; rfl
  · split
    · rename_i h2; rw [h2]; simp [encP_0]
    · simp
theorem encP_len (k n : Int) : (encP k n).length ≤ 9 := by
  unfold encP
  split
  · exact Nat.zero_le _
  · split <;> exact V.encL_len _
theorem bytesP_len : ∀ (l : List (Int × Int)), (bytesP l).length ≤ 9 * l.length
  | [] => Nat.zero_le _
  | x :: l => by
    have h1 := encP_len x.1 x.2
    have h2 := bytesP_len l
    have e : bytesP (x :: l) = encP x.1 x.2 ++ bytesP l := by unfold bytesP; simp
    rw [e]
    simp
    omega
theorem parts_in {ka kb a b : Int} {x : Int × Int} (h : x ∈ partsL ka kb a b) (ha : inK ka a = true) (hb : inK kb b = true) : inK x.1 x.2 = true := by
  unfold partsL at h
  split at h
  · cases h
  · split at h
    · simp at h; subst h; exact ha
    · simp at h
      rcases h with rfl | rfl
      · exact ha
      · exact hb

/-- What a Tape in the loop is. -/
def TapeI (w : World) (bt Bx Br : Nat) (xs : List UInt8) (op a b : Int) (r : Row) (W : World) : Prop :=
  ∃ O, V.TapeAt W bt O xs ∧ (∀ k, O k → CellsAt W k ∧ w.heap.size ≤ k ∧ k ≠ Bx ∧ k ≠ Br) ∧ Blk W Bx 63 #[.int .i64 op, .int .i64 a, .int .i64 b] ∧ Blk W Br 259 (cells9 r) ∧ Keep NoB w W
theorem tapeI_own {β : Type} {B : Nat} {w : World} (hB : w.heap.size ≤ B) (bt Bx Br : Nat) (xs : β → List UInt8) (op a b : Int) (r : Row) : OwnFrom B (fun s W => TapeI w bt Bx Br (xs s) op a b r W) := by
  rintro s X Y row ⟨O, h1, h2, h3, h4, h5⟩ hg hrow
  have hO : ∀ k, row = some k → ¬ O k := fun k e ho => by
    obtain ⟨cs, t, f, hc⟩ := (h2 k ho).1
    obtain ⟨_, o, ho', hn⟩ := hrow k e
    rw [hc] at ho'; cases ho'; cases hn
  refine ⟨O, tape_grown h1 hg hO, fun k ho => ⟨?_, (h2 k ho).2⟩, blk_own (β := Unit) _ _ _ (fun _ => _) () _ _ _ h3 hg hrow, blk_own (β := Unit) _ _ _ (fun _ => _) () _ _ _ h4 hg hrow, keep_own (β := Unit) NoB hB () _ _ _ h5 hg hrow⟩
  obtain ⟨cs, t, f, hc⟩ := (h2 k ho).1
  exact ⟨cs, t, f, (hg.block k (Array.getElem?_eq_some_iff.1 hc).1 (fun e => hO k e.symm ho)).trans hc⟩
theorem tapeI_keep {w : World} {bt Bx Br : Nat} {xs : List UInt8} {op a b : Int} {r : Row} {W W' : World} (h : TapeI w bt Bx Br xs op a b r W) (hk : Keep NoB W W') : TapeI w bt Bx Br xs op a b r W' :=
  tapeI_own (β := Unit) (Nat.le_refl _) bt Bx Br (fun _ => xs) op a b r () W W' none h hk.grows (fun _ e => by cases e)

/-- A round: the Tape with so much more. -/
theorem tapeI_wrote {w : World} {bt Bx Br B : Nat} {xs ys : List UInt8} {op a b : Int} {r : Row} {W W' : World} {O : Nat → Prop} (hO : ∀ k, O k → CellsAt W k ∧ w.heap.size ≤ k ∧ k ≠ Bx ∧ k ≠ Br)
    (h3 : Blk W Bx 63 #[.int .i64 op, .int .i64 a, .int .i64 b]) (h4 : Blk W Br 259 (cells9 r)) (h5 : Keep NoB w W) (ht : V.TapeAt W' bt (V.More O W W') ys) (hk : Keep O W W') (hxy : ys = xs) :
    TapeI w bt Bx Br xs op a b r W' ∧ KeepsFrom B W W' := by
  subst hxy
  have hx := h3.lt
  have hr := h4.lt
  refine ⟨⟨_, tape_cells ht, ?_, h3.keep hk (fun h => (hO _ h).2.2.1 rfl), h4.keep hk (fun h => (hO _ h).2.2.2 rfl), h5.trans hk (fun k h hl => by have := (hO k h).2.1; omega)⟩, ?_⟩
  · rintro k ⟨h | ⟨h, _⟩, hc⟩
    · exact ⟨hc, (hO k h).2⟩
    · have := h5.size
      exact ⟨hc, by omega, by omega, by omega⟩
  · refine ⟨hk.size, fun k o _ hh hn => (hk.block k (Array.getElem?_eq_some_iff.1 hh).1 (fun ho => ?_)).trans hh⟩
    obtain ⟨cs, t, f, hc⟩ := (hO k ho).1
    rw [hh] at hc; cases hc; cases hn

/-- The activation at the head of the loop's body. -/
def encAct (op a b : Int) (r : Row) (g h q : Nat) (x : Part) (Bo : Nat) : Act :=
  { tmps := #[instV op a b, .pointer (some ⟨g, 0, none⟩), .slice none 0 0, .int .i64 0, .pointer (some ⟨h, 0, none⟩), .bool true, .pointer (some ⟨h + 1, 0, none⟩), .pointer (some ⟨Bo, 0, none⟩), .int .i64 x.n, .tuple #[rowV r, .bool true],
      instV op a b, .tuple #[rowV r, .bool true], rowV r, .bool true, .bool true, .bool false, .pointer (some ⟨g, 0, none⟩), .int .i64 op, .int .u64 op, .pointer (some ⟨h + 1, 0, none⟩), rowV r, instV op a b,
      .func (.func 210) #[] #[.pointer (some ⟨q + 1, 0, none⟩), .pointer (some ⟨q, 0, none⟩)], .agg #[.int .i64 x.k, .int .i64 (lo x.k), .int .i64 (hi x.k), x.sh, x.gu], .int .i64 x.n,
      undef, undef, undef, undef], defers := [] }

set_option maxRecDepth 100000 in
set_option maxHeartbeats 4000000 in
theorem encode_yes (op a b : Int) (w : World) (hok : okI op a b = true) (ha : I64 a) (hb : I64 b) :
    Calls Tryz.prog 175 #[instV op a b] w fun e w' => ∃ v, e = .returned (.tuple #[v, .int .i64 0]) ∧ V.OwnB w' (Fresh w) v (bytesI op a b) ∧ Keep NoB w w' := by
  obtain ⟨r, hr⟩ : ∃ r, rowAt op = r := ⟨_, rfl⟩
  have hka := kinds_ok op
  have hkn := kinds_none op
  obtain ⟨ho, hia, hib⟩ := ok_op hok
  obtain ⟨m, rfl⟩ := Int.eq_ofNat_of_zero_le (isOp_yes ho).1
  have hm : m < 30 := by have := (isOp_yes ho).2; omega
  have HT : Hid (bytesI m a b = V.encL m ++ bytesP (partsL r.ka r.kb a b)) := by show _ = _; unfold bytesI; rw [hr, bytesP_parts _ _ _ _ (hr ▸ hkn)]; rfl
  have HR := Lib.hid (fun w => rowFor_any m a b r w (by rw [rowR_ok hok]; exact hr))
  rw [hr] at hka hia hib
  rw [hok] at HR
  have HA := Lib.hid (And.intro ha hia)
  have HB := Lib.hid (And.intro hb hib)
  have hw64 : IntKind.u64.wrap (m : Int) = (m : Int) := by simp [IntKind.wrap, IntKind.bits, IntKind.signed]; omega
  clear hok hr hkn ha hb ho hia hib
  refine (callsIn_wide (n := 4)).1 ?_
  refine callsIn_of_wp_marks Tryz.func175 rfl trivial ?_ rfl
  simp only [Tryz.ntmps175, List.size_toArray, List.length_cons, List.length_nil, Nat.reduceAdd, Nat.reduceSub, Array.replicate_succ, Array.replicate_zero, List.push_toArray, List.append_toArray, List.nil_append, List.cons_append]
  gi_wp2_with (refine ⟨trivial, ?_⟩; gi_at_call 193; refine (callsIn_wide.2 (HR.out _)).mono ?_; rintro e w1 ⟨rfl, k1⟩; have bi := (Blk.new w 63 #[.int .i64 m, .int .i64 a, .int .i64 b]).keep k1 id; have i0 : ∀ o o', ((w1.alloc o).alloc o').cell? ⟨w.heap.size, 0, none⟩ = some (.int .i64 m) := fun o o' => ((bi.alloc o).alloc o').cell 0)
  have ht := V.TapeAt.new (w1.alloc (.cells (cells9 r) 259))
  rw [World.size_alloc] at ht
  have hl0 := V.encL_len m
  refine ⟨trivial, ?_⟩
  refine (callsIn_wide.2 (V.tnumber_any _ (w1.heap.size + 1) _ [] m ht (fun k e => by subst e; simp) (by simp))).mono ?_
  rintro e w2 ⟨rfl, ht2, k2⟩
  have hsz : w.heap.size < w1.heap.size := by have := k1.size; simp at this; omega
  have hs2 : w1.heap.size + 1 < w2.heap.size := by have := k2.size; simp at this; omega
  have bi2 := ((bi.alloc (.cells (cells9 r) 259)).alloc (.cells #[.pointer none, .int .i64 0] 134)).keep k2 (by omega)
  have br2 := ((Blk.new w1 259 (cells9 r)).alloc (.cells #[.pointer none, .int .i64 0] 134)).keep k2 (by omega)
  have hK2 : Keep NoB w w2 := ((keepN ((Keep.refl NoB w).alloc _) k1).alloc _ |>.alloc _).trans k2 (fun k e hl => by omega)
  obtain ⟨c0, c1, c2, c3, c4, c5, c6, c7, c8⟩ := blk9 br2
  have d0 : w2.cell? ⟨w.heap.size, 0, none⟩ = some (.int .i64 m) := bi2.cell 0
  have d1 : w2.cell? ⟨w.heap.size, 1, none⟩ = some (.int .i64 a) := bi2.cell 1
  have d2 : w2.cell? ⟨w.heap.size, 2, none⟩ = some (.int .i64 b) := bi2.cell 2
  have HT2 := Lib.hid ht2
  clear ht2 ht bi i0 bi2 br2 k1 k2
  gi_wp2_with (refine ⟨trivial, ?_⟩; gi_at_call 194; refine (callsIn_wide.2 (parts_any r m a b _)).mono ?_; rintro e w3 ⟨rfl, br, bx, k3⟩)
  have hK3 : Keep NoB w w3 := keepN hK2 k3
  have hI0 : TapeI w (w1.heap.size + 1) (w2.heap.size + 1) w2.heap.size (V.encL m ++ bytesP (([] : List Part).map Part.key)) m a b r w3 := by
    have h1 := tape_cells HT2.out
    have h2 := h1.keep k3 (fun _ _ => id)
    refine ⟨_, by simpa [bytesP] using h2, ?_, bx, br, hK3⟩
    rintro k ⟨hk, hc⟩
    have hlt := hc.lt
    obtain ⟨cs, t, f, hh⟩ := hc
    refine ⟨⟨cs, t, f, (k3.block k hlt id).trans hh⟩, ?_, by omega, by omega⟩
    rcases hk with rfl | ⟨hk, _⟩
    · omega
    · simp at hk; omega
  clear c0 c1 c2 c3 c4 c5 c6 c7 c8 d0 d1 d2 HT2 hs2 hw64 HR
  have hI : OwnFrom w3.heap.size (fun (pre : List Part) W => TapeI w (w1.heap.size + 1) (w2.heap.size + 1) w2.heap.size (V.encL m ++ bytesP (pre.map Part.key)) m a b r W) :=
    tapeI_own hK3.size (w1.heap.size + 1) (w2.heap.size + 1) w2.heap.size (fun pre : List Part => V.encL m ++ bytesP (pre.map Part.key)) m a b r
  refine wpIn_rangeFunc_brings (m := 2) (gf := 210) (lb := #[.pointer (some ⟨w2.heap.size + 1, 0, none⟩), .pointer (some ⟨w2.heap.size, 0, none⟩)]) rfl (enters_of Tryz.func210 (by kernel_rfl) rfl)
    (parts1_in 2 r m a b (w2.heap.size + 1) w2.heap.size ⟨hka.1, hka.2.1⟩ hka.2.2 (fun pre W => TapeI w (w1.heap.size + 1) (w2.heap.size + 1) w2.heap.size (V.encL m ++ bytesP (pre.map Part.key)) m a b r W)
      (fun pre W ⟨_, _, _, h, _⟩ => h) (fun pre W ⟨_, _, _, _, h, _⟩ => h)) (fun _ => rfl) hI hI0
    (fun pre x a' W => TapeI w (w1.heap.size + 1) (w2.heap.size + 1) w2.heap.size (V.encL m ++ bytesP (pre.map Part.key)) m a b r W ∧ (∃ post, pre.map Part.key ++ x.key :: post = partsL r.ka r.kb a b) ∧ ∃ Bo, Blk W Bo 268 #[.int .i64 x.k, .int .i64 (lo x.k), .int .i64 (hi x.k), x.sh, x.gu] ∧ a' = encAct m a b r w.heap.size w1.heap.size w2.heap.size x Bo) ?hax ?assign ?body ?done
  case hax =>
    rintro pre x a' s X Y row ⟨h1, h2, Bo, h5, h6⟩ hg hrow
    exact ⟨hI _ _ _ _ h1 hg hrow, h2, Bo, blk_own (β := Unit) _ _ _ (fun _ => _) () _ _ _ h5 hg hrow, h6⟩
  case assign =>
    rintro l pre ⟨k, n, sh, gu⟩ W hi hen
    have hk0 := (part_facts hen HA.out.1 HB.out.1).1
    have hen2 := Lib.hid hen.1
    have hi2 := Lib.hid hi
    rcases hen.2 with ⟨h0, _⟩ | ⟨_, h1, h2⟩ | ⟨_, b1, c1, h1, h2, _, _⟩
    · exact absurd h0 hk0
    all_goals
      simp only at h1 h2
      subst h1 h2
      clear hen hi
      dsimp only [partE, opV]
      gi_wp2
      exact ⟨⟨tapeI_keep hi2.out ((Keep.refl NoB W).alloc _), hen2.out, W.heap.size, Blk.new W _ _, rfl⟩, keepsFrom_keep ((Keep.refl NoB W).alloc _)⟩
  case body =>
    rintro l pre ⟨k, n, sh, gu⟩ a' W ⟨⟨O, ht, hO, bx2, br2, hKW⟩, hen, Bo, bo, rfl⟩
    obtain ⟨post, hp⟩ := hen
    have hmem : ((k, n) : Int × Int) ∈ partsL r.ka r.kb a b := by rw [← hp]; simp [Part.key]
    have hk0 : k ≠ 0 := (parts_mem hmem).1
    have hn64 : -9223372036854775808 ≤ n ∧ n ≤ 9223372036854775807 := by
      rcases (parts_mem hmem).2 with e | e
      · simp only at e; rw [e]; exact HA.out.1
      · simp only at e; rw [e]; exact HB.out.1
    have hin : inK k n = true := parts_in hmem HA.out.2 HB.out.2
    have hl1 := bytesP_len (pre.map Part.key)
    have hl2 := congrArg List.length hp
    have hl3 := parts_len r.ka r.kb a b
    simp at hl1 hl2
    have HC := Lib.hid (write_any k n sh gu (w1.heap.size + 1) O (V.encL m ++ bytesP (pre.map Part.key)) W hk0 hin hn64 ht (fun j hj => (hO j hj).1.lt) (by rw [List.length_append]; omega))
    have o0 : W.cell? ⟨Bo, 0, none⟩ = some (.int .i64 k) := bo.cell 0
    have o1 : W.cell? ⟨Bo, 1, none⟩ = some (.int .i64 (lo k)) := bo.cell 1
    have o2 : W.cell? ⟨Bo, 2, none⟩ = some (.int .i64 (hi k)) := bo.cell 2
    have o3 : W.cell? ⟨Bo, 3, none⟩ = some sh := bo.cell 3
    have o4 : W.cell? ⟨Bo, 4, none⟩ = some gu := bo.cell 4
    have HX : Hid ((V.encL m ++ bytesP (pre.map Part.key)) ++ encP k n = V.encL m ++ bytesP (pre.map Part.key ++ [(⟨k, n, sh, gu⟩ : Part).key])) := by
      show _ = _
      rw [bytesP_snoc, List.append_assoc]
      rfl
    have HE := Lib.hid (fun (W' : World) (h1 : V.TapeAt W' (w1.heap.size + 1) (V.More O W W') ((V.encL m ++ bytesP (pre.map Part.key)) ++ encP k n)) (h2 : Keep O W W') => tapeI_wrote (B := w3.heap.size) hO bx2 br2 hKW h1 h2 HX.out)
    clear hp hmem hk0 hn64 hin hl1 hl2 hl3 ht hO bx2 br2 hKW bo HX
    dsimp only [encAct]
    gi_wp2_with (refine ⟨trivial, ?_⟩; gi_at_call 195; refine (CallsIn.inRound l (callsIn_wide.2 HC.out)).mono ?_; rintro e w4 ⟨rfl, h4, k4⟩)
    exact HE.out _ h4 k4
  case done =>
    rintro D xs W hD hS ⟨O, ht, hO, _, _, hKW⟩ hK
    rw [hS, ← HT.out] at ht
    have hlen : (bytesI m a b).length ≤ 140737488355328 := by
      have h1 := bytesP_len (partsL r.ka r.kb a b)
      have h2 := parts_len r.ka r.kb a b
      rw [HT.out, List.length_append]; omega
    have HC := Lib.hid (V.all_any W (w1.heap.size + 1) O (bytesI m a b) ht hlen)
    clear ht hO hlen
    gi_wp2_with (refine ⟨trivial, ?_⟩; gi_at_call 71; refine (callsIn_wide.2 HC.out).mono ?_; rintro e w4 ⟨v, rfl, h4, k4⟩)
    have hK4 := (k4.block _ (Array.getElem?_eq_some_iff.1 hK).1 id).trans hK
    refine ⟨by simp, .inl ⟨_, _, rfl, run_takeDeferred hK4, ?_⟩⟩
    exact ⟨_, results_tmp2 rfl _ _ _, v, rfl, ⟨ownsRow_putObj h4.1 _ hK4 rfl, fun g e => Nat.le_trans hKW.size (h4.2 g e)⟩, Keep_putObj (keepN hKW k4) (Nat.le_trans hK3.size hD)⟩

end Go.Proofs.YtgifflfjhockaaaGreatDoor.O

namespace Go.Proofs.YtgifflfjhockaaaGreatDoor.O
open Go.RowKit

set_option maxHeartbeats 1000000 in
theorem encode_any (op a b : Int) (w : World) (ha : I64 a) (hb : I64 b) :
    Calls Tryz.prog 175 #[instV op a b] w fun e w' => ∃ v, e = .returned (.tuple #[v, .int .i64 (chk op a b)]) ∧ V.OwnB w' (Fresh w) v (encI op a b) ∧ Keep NoB w w' := by
  cases hok : okI op a b
  · have hK := (Keep.refl NoB w).alloc (.cells #[.int .i64 op, .int .i64 a, .int .i64 b] 63)
    have HR := Lib.hid (fun w => rowFor_any op a b row0 w (rowR_no hok))
    rw [hok] at HR
    have HX : Hid (encI op a b = [] ∧ chk op a b = 40) := ⟨by unfold encI; rw [if_neg (by rw [hok]; decide)], by unfold chk; rw [if_neg (by rw [hok]; decide)]⟩
    clear hok ha hb
    go_enter Tryz.func175, Tryz.ntmps175
    go_wp2_with fail
    refine (HR.out _).mono ?_
    rintro e w1 ⟨rfl, k1⟩
    go_wp2
    go_ret2
    rw [HX.out.1, HX.out.2]
    exact ⟨_, rfl, V.OwnB.nil _ _, (keepN hK k1).alloc _⟩
  · refine (encode_yes op a b w hok ha hb).mono ?_
    rintro e w' ⟨v, rfl, hv, hk⟩
    refine ⟨v, ?_, ?_, hk⟩
    · unfold chk; rw [if_pos hok]
    · unfold encI; rw [if_pos hok]; exact hv

end Go.Proofs.YtgifflfjhockaaaGreatDoor.O

namespace Go.Proofs.YtgifflfjhockaaaGreatDoor.O
open Go.RowKit

theorem own_app {w w1 w2 : World} {v v' : Value} {l m : List UInt8} (hv : V.OwnB w1 (Fresh w) v l) (hk : Keep NoB w w1) (hown : w2.ownsRow 0 5 1 v' (l ++ m).length (V.bvs (l ++ m))) (hg : w1.grownBy w2 v.ownBlock)
    (hat : v'.ownBlock = v.ownBlock ∨ v'.ownBlock = some w1.heap.size) : V.OwnB w2 (Fresh w) v' (l ++ m) ∧ Keep NoB w w2 := by
  refine ⟨⟨hown, fun g e => ?_⟩, hk.grown hg (fun g e hlt => by have := hv.2 g e; unfold Fresh at this; omega)⟩
  rcases hat with h | h
  · rw [h] at e; exact hv.2 g e
  · rw [h] at e
    injection e with e
    subst e
    exact hk.size
theorem own_keep {w w1 w2 : World} {v : Value} {l : List UInt8} (hv : V.OwnB w1 (Fresh w) v l) (hk : Keep NoB w1 w2) : V.OwnB w2 (Fresh w) v l := hv.keep hk (fun _ _ => id)

theorem nat_of {k n : Int} (h1 : k ≠ 1) (h : inK k n = true) : ∃ m : Nat, n = (m : Int) ∧ m ≤ 511 := by
  have := (in_bounds h).2.1 h1
  exact ⟨n.toNat, by omega, by omega⟩
theorem wrap_u64 {m : Nat} (h : m ≤ 511) : IntKind.u64.wrap (m : Int) = (m : Int) := by simp [IntKind.wrap, IntKind.bits, IntKind.signed]; omega

theorem kind_one (op : Int) : (rowAt op).ka = 1 → (rowAt op).kb = 0 := by
  have := rowAt_all (p := fun r => decide (r.ka = 1 → r.kb = 0)) (by decide) (by decide) op
  exact of_decide_eq_true this
theorem kind_two (op : Int) : (rowAt op).kb ≠ 1 := by
  have := rowAt_all (p := fun r => decide (r.kb ≠ 1)) (by decide) (by decide) op
  simpa using this

set_option maxHeartbeats 2000000 in
theorem rbytes_any (op a b : Int) (w : World) (hok : okI op a b = true) :
    Calls Tryz.prog 185 #[instV op a b] w fun e w' => ∃ v, e = .returned v ∧ V.OwnB w' (Fresh w) v (bytesI op a b) ∧ Keep NoB w w' := by
  obtain ⟨ho, hA, hB⟩ := ok_op hok
  have hb := isOp_yes ho
  obtain ⟨o, rfl⟩ := Int.eq_ofNat_of_zero_le hb.1
  have hwo := wrap_u64 (m := o) (by omega)
  have HO := Lib.hid (fun w => V.refnum_any o w (by show _ < _; omega))
  have HK := Lib.hid (fun w => rkinds_any (o : Int) w)
  have hkk := kinds_ok (o : Int)
  have hkn := kinds_none (o : Int)
  have HX : Hid (bytesI o a b = V.encL o ++ (encP (rowAt o).ka a ++ encP (rowAt o).kb b)) := rfl
  have hl1 := V.encL_len o
  have hk1 := kind_one (o : Int)
  have hkb := kind_two (o : Int)
  clear ho hok hb
  generalize (rowAt (o : Int)).ka = ka at *
  generalize (rowAt (o : Int)).kb = kb at *
  have bx0 := Blk.new w 63 #[.int .i64 o, .int .i64 a, .int .i64 b]
  have gK := (Keep.refl NoB w).alloc (.cells #[.int .i64 o, .int .i64 a, .int .i64 b] 63)
  by_cases h0 : ka = 0
  · have h00 := hkn h0
    subst h0 h00
    have HX2 : Hid (bytesI o a b = V.encL o) := by show _ = _; rw [HX.out]; simp [encP_0]
    clear HX hA hB hkk hkn hk1 hkb
    go_enter Tryz.func185, Tryz.ntmps185
    go_wp2_with fail
    refine (HO.out _).mono ?_
    rintro e w1 ⟨v, rfl, hv, k1⟩
    obtain ⟨x0, x1, x2⟩ := blk_inst (bx0.keep k1 id)
    go_wp2_with fail
    refine (HK.out _).mono ?_
    rintro e w2 ⟨rfl, rfl⟩
    go_wp2
    go_ret
    rw [HX2.out]
    exact ⟨v, rfl, hv.mono (fun k hk _ => by unfold Fresh at hk ⊢; simp at hk; omega), keepN gK k1⟩
  · have q0 : decide (0 < ka) = true := by rw [decide_eq_true_iff]; omega
    by_cases h1 : ka = 1
    · subst h1
      have h00 := hk1 rfl
      subst h00
      have HX2 : Hid (bytesI o a b = V.encL o ++ V.encL (V.zig a)) := by show _ = _; rw [HX.out]; unfold encP; simp
      have hb1 := in_bounds hA
      have HZ := Lib.hid (fun w => V.rzig_any a w hb1.1.1 hb1.1.2)
      have HN := Lib.hid (fun w => V.refnum_any (V.zig a) w (V.zig_lt a hb1.1.1 hb1.1.2))
      have hl2 := V.encL_len (V.zig a)
      clear HX hA hB hkk hkn hk1 hb1 h0
      go_enter Tryz.func185, Tryz.ntmps185
      go_wp2_with fail
      refine (HO.out _).mono ?_
      rintro e w1 ⟨v, rfl, hv, k1⟩
      have bx := bx0.keep k1 id
      have hv : V.OwnB w1 (Fresh w) v (V.encL o) := hv.mono (fun k hk _ => by unfold Fresh at hk ⊢; simp at hk; omega)
      replace gK := keepN gK k1
      obtain ⟨x0, x1, x2⟩ := blk_inst bx
      go_wp2_with fail
      refine (HK.out _).mono ?_
      rintro e w2 ⟨rfl, rfl⟩
      go_wp2_with fail
      refine (HZ.out _).mono ?_
      rintro e w2 ⟨rfl, rfl⟩
      go_wp2_with fail
      refine (HN.out _).mono ?_
      rintro e w3 ⟨v2, rfl, hv2, k2⟩
      obtain ⟨A2, c2, rfl, _, hr2, _, _⟩ := hv2.form
      have hv3 := own_keep hv k2
      replace gK := keepN gK k2
      go_wp2_with (at_builtin; refine V.wpList_append_rd _ rfl _ _ rfl v (V.encL o) (V.encL (V.zig a)) A2 c2 rfl hv3.1 rfl hr2 (by omega) ?_; intro v' w4 hown' hg hat)
      go_ret
      rw [HX2.out]
      have := own_app hv3 gK hown' hg hat
      exact ⟨v', rfl, this.1, this.2⟩
    · have q1 : (ka == 1) = false := by rw [beq_eq_false_iff_ne]; exact h1
      obtain ⟨m, rfl, hm⟩ := nat_of h1 hA
      have hwm := wrap_u64 hm
      have HN := Lib.hid (fun w => V.refnum_any m w (by show _ < _; omega))
      have hl2 := V.encL_len m
      have e1 : encP ka (m : Int) = V.encL m := by unfold encP; rw [if_neg h0, if_neg h1]; simp
      by_cases h2 : kb = 0
      · subst h2
        have HX2 : Hid (bytesI o (m : Int) b = V.encL o ++ V.encL m) := by show _ = _; rw [HX.out, e1, encP_0]; simp
        clear HX hA hB hkk hkn hk1 h0 h1 e1 hm
        go_enter Tryz.func185, Tryz.ntmps185
        go_wp2_with fail
        refine (HO.out _).mono ?_
        rintro e w1 ⟨v, rfl, hv, k1⟩
        have bx := bx0.keep k1 id
        have hv : V.OwnB w1 (Fresh w) v (V.encL o) := hv.mono (fun k hk _ => by unfold Fresh at hk ⊢; simp at hk; omega)
        replace gK := keepN gK k1
        obtain ⟨x0, x1, x2⟩ := blk_inst bx
        go_wp2_with fail
        refine (HK.out _).mono ?_
        rintro e w2 ⟨rfl, rfl⟩
        go_wp2_with fail
        refine (HN.out _).mono ?_
        rintro e w3 ⟨v2, rfl, hv2, k2⟩
        obtain ⟨A2, c2, rfl, _, hr2, _, _⟩ := hv2.form
        have hv3 := own_keep hv k2
        replace gK := keepN gK k2
        go_wp2_with (at_builtin; refine V.wpList_append_rd _ rfl _ _ rfl v (V.encL o) (V.encL m) A2 c2 rfl hv3.1 rfl hr2 (by omega) ?_; intro v' w4 hown' hg hat)
        go_ret
        rw [HX2.out]
        have := own_app hv3 gK hown' hg hat
        exact ⟨v', rfl, this.1, this.2⟩
      · have hkb1 : kb ≠ 1 := hkb
        obtain ⟨n, rfl, hn⟩ := nat_of hkb1 hB
        have hwn := wrap_u64 hn
        have q2 : decide (0 < kb) = true := by rw [decide_eq_true_iff]; omega
        have HN2 := Lib.hid (fun w => V.refnum_any n w (by show _ < _; omega))
        have hl3 := V.encL_len n
        have e2 : encP kb (n : Int) = V.encL n := by unfold encP; rw [if_neg h2, if_neg hkb1]; simp
        have HX2 : Hid (bytesI o (m : Int) (n : Int) = (V.encL o ++ V.encL m) ++ V.encL n) := by show _ = _; rw [HX.out, e1, e2]; simp
        clear HX hA hB hkk hkn hk1 h0 h1 e1 e2 hm hn h2 hkb hkb1
        go_enter Tryz.func185, Tryz.ntmps185
        go_wp2_with fail
        refine (HO.out _).mono ?_
        rintro e w1 ⟨v, rfl, hv, k1⟩
        have bx := bx0.keep k1 id
        have hv : V.OwnB w1 (Fresh w) v (V.encL o) := hv.mono (fun k hk _ => by unfold Fresh at hk ⊢; simp at hk; omega)
        replace gK := keepN gK k1
        obtain ⟨x0, x1, x2⟩ := blk_inst bx
        go_wp2_with fail
        refine (HK.out _).mono ?_
        rintro e w2 ⟨rfl, rfl⟩
        go_wp2_with fail
        refine (HN.out _).mono ?_
        rintro e w3 ⟨v2, rfl, hv2, k2⟩
        obtain ⟨A2, c2, rfl, _, hr2, _, _⟩ := hv2.form
        have hv3 := own_keep hv k2
        have bx2 := bx.keep k2 id
        replace gK := keepN gK k2
        clear x0 x1 x2
        go_wp2_with (at_builtin; refine V.wpList_append_rd _ rfl _ _ rfl v (V.encL o) (V.encL m) A2 c2 rfl hv3.1 rfl hr2 (by omega) ?_; intro v' w4 hown' hg hat; have hap := own_app hv3 gK hown' hg hat; have hne : some w.heap.size ≠ v.ownBlock := (hv3.not_blk bx2 (by decide)).symm; have bx4 := bx2.grown hg hne; obtain ⟨x0, x1, x2⟩ := blk_inst bx4)
        go_wp2_with fail
        refine (HN2.out _).mono ?_
        rintro e w5 ⟨v5, rfl, hv5, k5⟩
        obtain ⟨A5, c5, rfl, _, hr5, _, _⟩ := hv5.form
        have hv6 := own_keep hap.1 k5
        have gK6 := keepN hap.2 k5
        go_wp2_with (at_builtin; refine V.wpList_append_rd _ rfl _ _ rfl v' (V.encL o ++ V.encL m) (V.encL n) A5 c5 rfl hv6.1 rfl hr5 (by simp; omega) ?_; intro v7 w7 hown7 hg7 hat7)
        go_ret
        rw [HX2.out]
        have := own_app hv6 gK6 hown7 hg7 hat7
        exact ⟨v7, rfl, this.1, this.2⟩

end Go.Proofs.YtgifflfjhockaaaGreatDoor.O

namespace Go.Proofs.YtgifflfjhockaaaGreatDoor.C
open Go.RowKit O

theorem bytesI_len (op a b : Int) : (bytesI op a b).length ≤ 27 := by
  unfold bytesI
  have h1 := V.encL_len op.toNat
  have h2 := encP_len (O.rowAt op).ka a
  have h3 := encP_len (O.rowAt op).kb b
  rw [List.length_append, List.length_append]
  omega
theorem byt_len : ∀ (l : List I3), (byt l).length ≤ 27 * l.length
  | [] => Nat.zero_le _
  | x :: l => by
    have h1 := bytesI_len x.1 x.2.1 x.2.2
    have h2 := byt_len l
    have e : byt (x :: l) = bytesI x.1 x.2.1 x.2.2 ++ byt l := rfl
    rw [e, List.length_append]
    simp only [List.length_cons]; omega
theorem wrap_n {n : Nat} (h : n ≤ 512) : IntKind.u64.wrap (n : Int) = (n : Int) := by simp [IntKind.wrap, IntKind.bits, IntKind.signed]; omega
theorem encB_ok {l : List I3} (h : okB l = true) : encB l = bytesB l := if_pos h
theorem encB_no {l : List I3} (h : okB l = false) : encB l = [] := if_neg (by rw [h]; decide)
theorem enc_one (op a b : Int) (w : World) (h : okI op a b = true) (ha : O.I64 a) (hb : O.I64 b) :
    Calls Tryz.prog 175 #[instV op a b] w fun e w' => ∃ v, e = .returned (.tuple #[v, .int .i64 0]) ∧ V.OwnB w' (Fresh w) v (bytesI op a b) ∧ Keep NoB w w' :=
  encode_yes op a b w h ha hb
/-- How Encode ends. -/
def EncR (w : World) (bs : List UInt8) (E : Int) (e : Ending) (w' : World) : Prop := ∃ v, e = .returned (.tuple #[v, .int .i64 E]) ∧ V.OwnB w' (Fresh w) v bs ∧ Keep NoB w w'
theorem encR_none {w w' : World} {E : Int} (h : Keep NoB w w') : EncR w [] E (.returned (.tuple #[.slice none 0 0, .int .i64 E])) w' := ⟨_, rfl, V.OwnB.nil _ _, h⟩
theorem ownB_older {w w0 w' : World} {v : Value} {l : List UInt8} (h : V.OwnB w' (Fresh w0) v l) (hk : Keep NoB w w0) : V.OwnB w' (Fresh w) v l := h.mono (fun _ hf _ => Nat.le_trans hk.size hf)

set_option maxRecDepth 100000 in
set_option maxHeartbeats 4000000 in
theorem cencode_any (A : Option Addr) (l : List I3) (n c : Nat) (w : World) (hr : Rd w A (iis l)) (hn : Hid (l.length = n)) (hI : Hid (AllI l)) (hm : n ≤ 9223372036854775807) :
    Calls Tryz.prog 131 #[.slice A n c] w (EncR w (encB l) (chkB l)) := by
  have hr0 := Lib.hid hr
  cases ho : okB l
  · rw [encB_no ho, chkB_no ho]
    have HC := Lib.hid (fun w hr => cchk_any A l n c w hr hn hm 50 (chkB_no ho))
    clear ho hr
    go_enter Tryz.func131, Tryz.ntmps131
    go_wp2_with (go_at_call 125; refine (HC.out _ hr0.out).mono ?_; rintro e w1 ⟨rfl, k1⟩)
    go_ret2
    exact encR_none k1
  · rw [encB_ok ho, chkB_ok ho]
    obtain ⟨h1, h5, _, hall⟩ := okB_parts ho
    rw [hn.out] at h1 h5
    have HC := Lib.hid (fun w hr => cchk_any A l n c w hr hn hm 0 (chkB_ok ho))
    have HA : Hid (∀ (k : Nat) (hk : k < l.length), okI l[k].1 l[k].2.1 l[k].2.2 = true) := fun k hk => (item_parts (okB_at ho hk)).1
    have HB : Hid (bytesB l = V.encL n ++ byt l) := by show _ = _; unfold bytesB; rw [hn.out]
    have hw64 := wrap_n h5
    have hl0 := V.encL_len n
    clear ho hr hall
    go_enter Tryz.func131, Tryz.ntmps131
    go_wp2_with fail
    refine (HC.out _ hr0.out).mono ?_
    rintro e w1 ⟨rfl, k1⟩
    have ht := V.TapeAt.new w1
    have hr1 := Lib.hid (hr0.out.keepN (k1.alloc (.cells #[.pointer none, .int .i64 0] 134)))
    have gK := k1.alloc (.cells #[.pointer none, .int .i64 0] 134)
    have hsz : w.heap.size ≤ w1.heap.size := k1.size
    go_wp2_with fail
    refine (V.tnumber_any _ w1.heap.size _ [] n ht (fun k e => by subst e; simp) (by simp)).mono ?_
    rintro e w2 ⟨rfl, ht2, k2⟩
    replace gK := gK.trans k2 (fun k e hl => by omega)
    have hr2 := Lib.hid (hr1.out.keep k2 (fun ad e ho => by
      have hlt : 0 < (iis l).length := by rw [iis_length, hn.out]; omega
      obtain ⟨g, off, e2, hc⟩ := hr0.out hlt
      rw [e2] at e; cases e
      obtain ⟨u, hu⟩ : ∃ u, (iis l)[0]? = some u := ⟨_, List.getElem?_eq_getElem hlt⟩
      have := World.block_lt_of_cell? w _ (hc 0 u hu)
      simp at this ho; omega))
    clear hr1 ht k1 k2
    rw [List.nil_append] at ht2
    go_wp2_with (go_at_call 71; refine (V.all_any w2 w1.heap.size _ (V.encL n) ht2 (by omega)).mono ?_; rintro e w3 ⟨v3, rfl, h3, k3⟩)
    have h3' := ownB_older h3 gK
    replace gK := keepN gK k3
    have hr3 := Lib.hid (hr2.out.keepN k3)
    clear ht2 h3 k3 hr2 hsz HC
    have gsz := gK.size
    go_loopw [5, 20] (fun v i wr => ∃ k : Nat, k ≤ n ∧ i = .int .i64 k ∧ V.OwnB wr (Fresh w) v (V.encL n ++ byt (l.take k)) ∧ Keep NoB w wr) (fun _ i _ => n - (intOf i).toNat)
    case atStart => exact ⟨0, Nat.zero_le _, rfl, by rw [List.take_zero]; simpa [byt] using h3', gK⟩
    case round =>
      obtain ⟨k, hk, rfl, hO, hK⟩ := hrel
      have hR := hr0.out.keepN hK
      clear h3' gK gsz hr3
      by_cases hlt : k < n
      · have hkl : k < l.length := by rw [hn.out]; exact hlt
        obtain ⟨g, off, rfl, hc⟩ := rdJ_at hR (by omega)
        obtain ⟨c0, c1, c2⟩ := hc k hkl
        have HT := Lib.hid (show l.take (k + 1) = l.take k ++ [l[k]] from List.take_succ_eq_append_getElem hkl)
        have hab := hI.out l[k] (List.getElem_mem hkl)
        have hok := HA.out k hkl
        have hl1 := byt_len (l.take k)
        rw [List.length_take] at hl1
        clear hc
        generalize l[k] = x at c0 c1 c2 HT hab hok
        obtain ⟨op, a, b⟩ := x
        dsimp only at c0 c1 c2 hab hok
        have HE := Lib.hid (fun w => enc_one op a b w hok hab.1 hab.2)
        have HX : Hid ((V.encL n ++ byt (l.take k)) ++ bytesI op a b = V.encL n ++ byt (l.take (k + 1))) := by show _ = _; rw [HT.out, byt_snoc, List.append_assoc]
        have hl2 := bytesI_len op a b
        have hl3 : (V.encL n ++ byt (l.take k)).length ≤ 20000 := by rw [List.length_append]; omega
        have hO1 := own_keep hO ((Keep.refl NoB wr).alloc (.cells #[.int .i64 op, .int .i64 a, .int .i64 b] 63))
        have hK1 := hK.alloc (.cells #[.int .i64 op, .int .i64 a, .int .i64 b] 63)
        have hR1 := hR.keepN ((Keep.refl NoB wr).alloc (.cells #[.int .i64 op, .int .i64 a, .int .i64 b] 63))
        clear hab hok HT hl1 hO hK hR hl0
        go_wp2_with fail
        refine (HE.out _).mono ?_
        rintro e w4 ⟨v4, rfl, h4, k4⟩
        obtain ⟨A4, c4, rfl, _, hr4, _, _⟩ := h4.form
        have hO2 := own_keep hO1 k4
        have hK2 := keepN hK1 k4
        have hR2 := hR1.keepN k4
        clear h4 k4 hO1 hK1 hR1 c0 c1 c2
        go_wp2_with (at_builtin; refine V.wpList_append_rd _ rfl _ _ rfl _ (V.encL n ++ byt (l.take k)) (bytesI op a b) A4 c4 rfl hO2.1 rfl hr4 (by omega) ?_; intro v5 w5 hown hg hat; obtain ⟨hO3, hK3⟩ := own_app hO2 hK2 hown hg hat; rw [HX.out] at hO3; clear hown hg hat)
        go_roundw
        case rel => exact ⟨k + 1, by omega, by go_num, hO3, hK3⟩
        case measure => simp [intOf]; omega
      · obtain rfl : k = n := by omega
        rw [List.take_of_length_le (by rw [hn.out]; omega), ← HB.out] at hO
        go_wp2
        go_ret2
        exact ⟨_, rfl, hO, hK⟩

end Go.Proofs.YtgifflfjhockaaaGreatDoor.C

namespace Go.Proofs.YtgifflfjhockaaaGreatDoor.C
open Go.RowKit O

theorem rb_one (op a b : Int) (w : World) (h : okI op a b = true) :
    Calls Tryz.prog 185 #[instV op a b] w fun e w' => ∃ v, e = .returned v ∧ V.OwnB w' (Fresh w) v (bytesI op a b) ∧ Keep NoB w w' := O.rbytes_any op a b w h

set_option maxRecDepth 100000 in
set_option maxHeartbeats 4000000 in
theorem rcbytes_any (A : Option Addr) (l : List I3) (n c : Nat) (w : World) (hr : Rd w A (iis l)) (hn : Hid (l.length = n)) (ho : okB l = true) :
    Calls Tryz.prog 143 #[.slice A n c] w fun e w' => ∃ v, e = .returned v ∧ V.OwnB w' (Fresh w) v (bytesB l) ∧ Keep NoB w w' := by
  have hr0 := Lib.hid hr
  obtain ⟨h1, h5, _, hall⟩ := okB_parts ho
  rw [hn.out] at h1 h5
  have HA : Hid (∀ (k : Nat) (hk : k < l.length), okI l[k].1 l[k].2.1 l[k].2.2 = true) := fun k hk => (item_parts (okB_at ho hk)).1
  have HB : Hid (bytesB l = V.encL n ++ byt l) := by show _ = _; unfold bytesB; rw [hn.out]
  have hw64 := wrap_n h5
  have HN := Lib.hid (fun w => V.refnum_any n w (by show _ < _; omega))
  have hl0 := V.encL_len n
  clear ho hr hall
  go_enter Tryz.func143, Tryz.ntmps143
  go_wp2_with fail
  refine (HN.out _).mono ?_
  rintro e w1 ⟨v1, rfl, hv1, gK⟩
  go_wp2
  go_loopw [3, 4] (fun v i wr => ∃ k : Nat, k ≤ n ∧ i = .int .i64 k ∧ V.OwnB wr (Fresh w) v (V.encL n ++ byt (l.take k)) ∧ Keep NoB w wr) (fun _ i _ => n - (intOf i).toNat)
  case atStart => exact ⟨0, Nat.zero_le _, rfl, by rw [List.take_zero]; simpa [byt] using hv1, gK⟩
  case round =>
    obtain ⟨k, hk, rfl, hO, hK⟩ := hrel
    have hR := hr0.out.keepN hK
    clear hv1 gK
    by_cases hlt : k < n
    · have hkl : k < l.length := by rw [hn.out]; exact hlt
      obtain ⟨g, off, rfl, hc⟩ := rdJ_at hR (by omega)
      obtain ⟨c0, c1, c2⟩ := hc k hkl
      have HT := Lib.hid (show l.take (k + 1) = l.take k ++ [l[k]] from List.take_succ_eq_append_getElem hkl)
      have hok := HA.out k hkl
      have hl1 := byt_len (l.take k)
      rw [List.length_take] at hl1
      clear hc hR
      generalize l[k] = x at c0 c1 c2 HT hok
      obtain ⟨op, a, b⟩ := x
      dsimp only at c0 c1 c2 hok
      have HE := Lib.hid (fun w => rb_one op a b w hok)
      have HX : Hid ((V.encL n ++ byt (l.take k)) ++ bytesI op a b = V.encL n ++ byt (l.take (k + 1))) := by show _ = _; rw [HT.out, byt_snoc, List.append_assoc]
      have hl2 := bytesI_len op a b
      have hl3 : (V.encL n ++ byt (l.take k)).length ≤ 20000 := by rw [List.length_append]; omega
      clear hok HT hl1 hl0
      go_wp2_with fail
      refine (HE.out _).mono ?_
      rintro e w4 ⟨v4, rfl, h4, k4⟩
      obtain ⟨A4, c4, rfl, _, hr4, _, _⟩ := h4.form
      have hO2 := own_keep hO k4
      have hK2 := keepN hK k4
      clear h4 k4 hO hK c0 c1 c2
      go_wp2_with (at_builtin; refine V.wpList_append_rd _ rfl _ _ rfl _ (V.encL n ++ byt (l.take k)) (bytesI op a b) A4 c4 rfl hO2.1 rfl hr4 (by omega) ?_; intro v5 w5 hown hg hat; obtain ⟨hO3, hK3⟩ := own_app hO2 hK2 hown hg hat; rw [HX.out] at hO3; clear hown hg hat)
      go_roundw
      case rel => exact ⟨k + 1, by omega, by go_num, hO3, hK3⟩
      case measure => simp [intOf]; omega
    · obtain rfl : k = n := by omega
      rw [List.take_of_length_le (by rw [hn.out]; omega), ← HB.out] at hO
      go_wp2
      go_ret
      exact ⟨_, rfl, hO, hK⟩

end Go.Proofs.YtgifflfjhockaaaGreatDoor.C

namespace Go.Proofs.YtgifflfjhockaaaGreatDoor.F
open Go.RowKit W

theorem bytesB_len {l : List C.I3} (h : C.okB l = true) : (C.bytesB l).length ≤ 13840 := by
  have h1 := V.encL_len l.length
  have h2 := C.byt_len l
  obtain ⟨_, h5, _, _⟩ := C.okB_parts h
  unfold C.bytesB
  rw [List.length_append]
  omega
theorem str_of {S : ByteArray} {l : List UInt8} (h : S.data.toList = l) : S = V.str l := by subst h; rfl
theorem rd_mark (w : World) (l : List UInt8) (C : Array Value) (fr : Nat × Nat) (hC : ∀ (j : Nat) (u : Value), (V.bvs l)[j]? = some u → C[j]? = some u) :
    V.Rd (w.alloc (.cells C 5 fr)) (some ⟨w.heap.size, 0, none⟩) l := fun _ =>
  ⟨_, rfl, fun j u hu => by
    have e : (⟨w.heap.size, 0, none⟩ : Addr).add j = ⟨w.heap.size, j, none⟩ := by unfold Addr.add; split <;> simp_all
    rw [e, World.cell?_alloc_mark]
    exact hC j u hu⟩
theorem conv_name (w : World) (l : List UInt8) : ∃ w' c, (convert 9 26 (.string (V.str l))).run Tryz.prog w = .ok (.slice (some ⟨w.heap.size, 0, none⟩) l.length c) w' ∧ V.Rd w' (some ⟨w.heap.size, 0, none⟩) l ∧ Keep NoB w w' ∧ w.heap.size < w'.heap.size := by
  have h := run_bytes_of_string w 9 26 5 (V.str l) Tryz.underlying9 Tryz.underlying26 Tryz.underlying5
  refine ⟨_, _, h, ?_, ((Keep.refl NoB w).drew).alloc _, by simp⟩
  refine rd_mark w.drew l _ _ (fun j u hu => ?_)
  obtain ⟨hj, rfl⟩ := List.getElem?_eq_some_iff.1 hu
  rw [bytesRow_at (V.str l) _ j (by simpa using hj)]
  simp
theorem rd_byte {w : World} {g : Nat} (hg : g = w.heap.size) : V.Rd (w.alloc (.cells #[.int .u8 0] 5)) (some ⟨g, 0, none⟩) [0] := fun _ =>
  ⟨_, rfl, fun j u hu => by
    subst hg
    obtain ⟨hj, rfl⟩ := List.getElem?_eq_some_iff.1 hu
    have e : j = 0 := by simp at hj; omega
    subst e
    exact (Blk.new w 5 #[.int .u8 0]).cell 0⟩
theorem bytesT_nil : S.bytesT [] = [0] := by kernel_rfl
theorem bytesF_parts (f : Fu) : ((((((V.encL f.nm.length ++ f.nm) ++ S.bytesT f.ar) ++ S.bytesT f.rs) ++ S.bytesT f.lc) ++ [0]) ++ C.bytesB f.bd) = bytesF f := by
  unfold bytesF S.bytesG
  rw [bytesT_nil]
  simp only [List.append_assoc]

set_option maxRecDepth 100000 in
set_option maxHeartbeats 8000000 in
theorem rbytesF_any (v : FV) (f : Fu) (w : World) (h : FnAt w v f) (hs : SmF v) (ho : okF f = true) :
    Calls Tryz.prog 82 #[v.val] w fun e w' => ∃ u, e = .returned u ∧ V.OwnB w' (Fresh w) u (bytesF f) ∧ Keep NoB w w' := by
  have bx := Blk.new w 61 v.cells
  have k0 := (Keep.refl NoB w).alloc (.cells v.cells 61)
  have HF := Lib.hid (h.keepN k0)
  have HX := Lib.hid bx
  obtain ⟨hN, hG, hL, hB, h64⟩ := (okF_iff f).1 ho
  obtain ⟨hAB, hka, hkr⟩ := (S.okG_iff _ _).1 hG
  have hkr2 := S.all_known hkr
  have hnm : f.nm.length ≤ 32 := ((okN_iff _).1 hN).1
  obtain ⟨q1, q2, q3⟩ : f.ar.length ≤ 64 ∧ f.rs.length ≤ 64 ∧ f.lc.length ≤ 64 := ⟨by omega, by omega, by omega⟩
  have hla := h.la
  have hlb := h.lb
  have hll := h.ll
  have HA := Lib.hid (fun w1 hk => S.rtypesB_any v.A f.ar v.na v.ca w1 ((HF.out.keepN hk).ra) hla hka (by omega))
  have HB := Lib.hid (fun w1 hk => S.rtypesB_any v.B f.rs v.nb v.cb w1 ((HF.out.keepN hk).rb) hlb hkr2 (by omega))
  have HL := Lib.hid (fun w1 hk => S.rtypesB_any v.L f.lc v.nl v.cl w1 ((HF.out.keepN hk).rl) hll hL (by omega))
  have HD := Lib.hid (fun w1 hk => C.rcbytes_any v.D f.bd v.nd v.cd w1 ((HF.out.keepN hk).rd) h.ld hB)
  have l0 := V.encL_len f.nm.length
  have l1 := S.bytesT_len f.ar q1
  have l2 := S.bytesT_len f.rs q2
  have l3 := S.bytesT_len f.lc q3
  have l4 := bytesB_len hB
  have HE := Lib.hid (bytesF_parts f)
  have hst := str_of h.nm
  have hcv : ∀ w : World, ∃ w' c, (convert 9 26 (.string v.S)).run Tryz.prog w = .ok (.slice (some ⟨w.heap.size, 0, none⟩) f.nm.length c) w' ∧ V.Rd w' (some ⟨w.heap.size, 0, none⟩) f.nm ∧ Keep NoB w w' ∧ w.heap.size < w'.heap.size := fun w => by rw [hst]; exact conv_name w f.nm
  have HNm := Lib.hid (fun w A c hr => V.refbytes_any w A f.nm c hr (by omega))
  have hl1 : (V.encL f.nm.length ++ f.nm).length ≤ 50 := by rw [List.length_append]; omega
  obtain ⟨s0, A, na, ca, B, nb, cb, L, nl, cl, D, nd, cd⟩ := v
  unfold FV.val FV.cells at *
  dsimp only at hcv HA HB HL HD
  clear hst hnm
  clear bx h hs ho hN hG hL hB h64 hAB hka hkr hkr2 q1 q2 q3 hla hlb hll l0 HF
  generalize bytesF f = bF at HE
  generalize S.bytesT f.ar = bA at HA HE l1
  generalize S.bytesT f.rs = bR at HB HE l2
  generalize S.bytesT f.lc = bL at HL HE l3
  generalize C.bytesB f.bd = bD at HD HE l4
  generalize V.encL f.nm.length ++ f.nm = b1 at HNm HE hl1
  have HE1 := Lib.hid (show (b1 ++ bA).length ≤ 100 by rw [List.length_append]; omega)
  have HE2 := Lib.hid (show ((b1 ++ bA) ++ bR).length ≤ 200 by have := HE1.out; rw [List.length_append]; omega)
  have HE3 := Lib.hid (show (((b1 ++ bA) ++ bR) ++ bL).length ≤ 300 by have := HE2.out; rw [List.length_append]; omega)
  have HE4 := Lib.hid (show ((((b1 ++ bA) ++ bR) ++ bL) ++ [0]).length ≤ 400 by have := HE3.out; rw [List.length_append]; simp at *; omega)
  generalize f.nm = nm at hcv HNm
  go_enter Tryz.func82, Tryz.ntmps82
  obtain ⟨c0, c1, c2, c3, c4⟩ := blk5 (v := ⟨s0, A, na, ca, B, nb, cb, L, nl, cl, D, nd, cd⟩) HX.out
  dsimp only at c0 c1 c2 c3 c4
  obtain ⟨wc, cc, hcv2, hrc, kc, _⟩ := hcv (w.alloc (.cells #[.string s0, .slice A na ca, .slice B nb cb, .slice L nl cl, .slice D nd cd] 61))
  simp only [World.size_alloc] at hrc
  go_wp2_with fail
  refine (HNm.out _ _ _ hrc).mono ?_
  rintro e w2 ⟨v2, rfl, hO, k2⟩
  replace hO := hO.mono (fun k (hf : Fresh wc k) _ => Nat.le_trans kc.size hf)
  have gK := keepN kc k2
  clear hrc kc k2 hcv2 hcv
  clear c0 c1 c2 c3 c4
  obtain ⟨c0, c1, c2, c3, c4⟩ := blk5 (v := ⟨s0, A, na, ca, B, nb, cb, L, nl, cl, D, nd, cd⟩) (HX.out.keep gK id)
  dsimp only at c0 c1 c2 c3 c4
  go_wp2_with fail
  refine (HA.out _ gK).mono ?_
  rintro e w3 ⟨v3, rfl, h3, k3⟩
  obtain ⟨A3, c3', rfl, _, r3, _, _⟩ := h3.form
  replace hO := hO.keep k3 (fun _ _ => id)
  replace gK := keepN gK k3
  clear h3 k3
  clear c0 c1 c2 c3 c4
  obtain ⟨c0, c1, c2, c3, c4⟩ := blk5 (v := ⟨s0, A, na, ca, B, nb, cb, L, nl, cl, D, nd, cd⟩) (HX.out.keep gK id)
  dsimp only at c0 c1 c2 c3 c4
  go_wp2_with (at_builtin; refine V.wpList_append_rd _ rfl _ _ rfl _ (b1) bA A3 c3' rfl hO.1 rfl r3 (by have := hl1; omega) ?_; intro v5 w5 hown hg hat; obtain ⟨hO3, hK3⟩ := S.own_app hO gK hown hg hat; clear hO gK hown hg hat r3; have hO := hO3; have gK := hK3; clear hO3 hK3; clear c0 c1 c2 c3 c4; obtain ⟨c0, c1, c2, c3, c4⟩ := blk5 (v := ⟨s0, A, na, ca, B, nb, cb, L, nl, cl, D, nd, cd⟩) (HX.out.keep gK id); dsimp only at c0 c1 c2 c3 c4)
  refine (HB.out _ gK).mono ?_
  rintro e w3 ⟨v3, rfl, h3, k3⟩
  obtain ⟨A3, c3', rfl, _, r3, _, _⟩ := h3.form
  replace hO := hO.keep k3 (fun _ _ => id)
  replace gK := keepN gK k3
  clear h3 k3
  clear c0 c1 c2 c3 c4
  obtain ⟨c0, c1, c2, c3, c4⟩ := blk5 (v := ⟨s0, A, na, ca, B, nb, cb, L, nl, cl, D, nd, cd⟩) (HX.out.keep gK id)
  dsimp only at c0 c1 c2 c3 c4
  go_wp2_with (at_builtin; refine V.wpList_append_rd _ rfl _ _ rfl _ ((b1 ++ bA)) bR A3 c3' rfl hO.1 rfl r3 (by have := HE1.out; omega) ?_; intro v5 w5 hown hg hat; obtain ⟨hO3, hK3⟩ := S.own_app hO gK hown hg hat; clear hO gK hown hg hat r3; have hO := hO3; have gK := hK3; clear hO3 hK3; clear c0 c1 c2 c3 c4; obtain ⟨c0, c1, c2, c3, c4⟩ := blk5 (v := ⟨s0, A, na, ca, B, nb, cb, L, nl, cl, D, nd, cd⟩) (HX.out.keep gK id); dsimp only at c0 c1 c2 c3 c4)
  refine (HL.out _ gK).mono ?_
  rintro e w3 ⟨v3, rfl, h3, k3⟩
  obtain ⟨A3, c3', rfl, _, r3, _, _⟩ := h3.form
  replace hO := hO.keep k3 (fun _ _ => id)
  replace gK := keepN gK k3
  clear h3 k3
  clear c0 c1 c2 c3 c4
  obtain ⟨c0, c1, c2, c3, c4⟩ := blk5 (v := ⟨s0, A, na, ca, B, nb, cb, L, nl, cl, D, nd, cd⟩) (HX.out.keep gK id)
  dsimp only at c0 c1 c2 c3 c4
  go_wp2_with (first
    | (at_builtin; refine V.wpList_append_rd _ rfl _ _ rfl _ (((b1 ++ bA) ++ bR) ++ bL) [0] _ _ rfl (hO.1.alloc _) rfl (rd_byte (by simp)) (by have := HE3.out; simp; omega) ?_; intro v5 w5 hown hg hat; obtain ⟨hO3, hK3⟩ := S.own_app (hO.keep ((Keep.refl NoB _).alloc _) (fun _ _ => id)) (gK.alloc _) hown hg hat; clear hO gK hown hg hat; have hO := hO3; have gK := hK3; clear hO3 hK3; clear c0 c1 c2 c3 c4; obtain ⟨c0, c1, c2, c3, c4⟩ := blk5 (v := ⟨s0, A, na, ca, B, nb, cb, L, nl, cl, D, nd, cd⟩) (HX.out.keep gK id); dsimp only at c0 c1 c2 c3 c4)
    | (at_builtin; refine V.wpList_append_rd _ rfl _ _ rfl _ (((b1 ++ bA) ++ bR)) bL A3 c3' rfl hO.1 rfl r3 (by have := HE2.out; omega) ?_; intro v5 w5 hown hg hat; obtain ⟨hO3, hK3⟩ := S.own_app hO gK hown hg hat; clear hO gK hown hg hat r3; have hO := hO3; have gK := hK3; clear hO3 hK3; clear c0 c1 c2 c3 c4; obtain ⟨c0, c1, c2, c3, c4⟩ := blk5 (v := ⟨s0, A, na, ca, B, nb, cb, L, nl, cl, D, nd, cd⟩) (HX.out.keep gK id); dsimp only at c0 c1 c2 c3 c4))
  refine (HD.out _ gK).mono ?_
  rintro e w3 ⟨v3, rfl, h3, k3⟩
  obtain ⟨A3, c3', rfl, _, r3, _, _⟩ := h3.form
  replace hO := hO.keep k3 (fun _ _ => id)
  replace gK := keepN gK k3
  clear h3 k3
  clear c0 c1 c2 c3 c4
  obtain ⟨c0, c1, c2, c3, c4⟩ := blk5 (v := ⟨s0, A, na, ca, B, nb, cb, L, nl, cl, D, nd, cd⟩) (HX.out.keep gK id)
  dsimp only at c0 c1 c2 c3 c4
  go_wp2_with (at_builtin; refine V.wpList_append_rd _ rfl _ _ rfl _ ((((b1 ++ bA) ++ bR) ++ bL) ++ [0]) bD A3 c3' rfl hO.1 rfl r3 (by have := HE4.out; omega) ?_; intro v5 w5 hown hg hat; obtain ⟨hO3, hK3⟩ := S.own_app hO gK hown hg hat; clear hO gK hown hg hat r3; have hO := hO3; have gK := hK3; clear hO3 hK3)
  rw [HE.out] at hO
  go_ret
  exact ⟨_, rfl, hO.mono (fun k hf _ => Nat.le_trans k0.size hf), keepN k0 gK⟩

end Go.Proofs.YtgifflfjhockaaaGreatDoor.F
