/-
  Part 25 of the proofs of LBackRow, LLabelsRow: what is laid, and what the functions that the law runs answer. Conditions: each theorem names its own.
-/
import Derived.Test.YtgnooffedmeenaaGreatDoorQB22
namespace Go.Proofs.YtgnooffedmeenaaGreatDoor.M
open Go.RowKit Go.Shelf W

def labP (fn : Int) : PS ⊕ (Nat × Int) → List Bs
 | .inr _ => []
 | .inl q => if 0 ≤ fn then ((q.labs[fn.toNat]?).map Prod.fst).getD [] else []
theorem firsts_names (i : Nat) : ∀ (r pre : List Nm) (ns : List Nm) (fn fn' : List _root_.Go.Proofs.YtgnooffedmeenaaGreatDoor.F.Fu), resL ns pre fn r = .inl fn' → firsts i pre r = (r.filter fun x => x.lb && decide ((x.fn : Int) = (i : Int))).map Nm.s
 | [], _, _, _, _, _ => rfl
 | x :: r, pre, ns, fn, fn', h => by
  rw [resL] at h
  rw [firsts, List.filter_cons]
  by_cases hl : x.lb = true
  ·rw [if_pos hl] at h
   by_cases ha : again pre x = true
   ·rw [if_pos ha] at h; cases h
   ·rw [if_neg ha] at h
    have ih := firsts_names i r _ _ _ _ h
    have ha2 : again pre x = false := by simpa using ha
    by_cases e : x.fn = i
    ·rw [if_pos ⟨hl, e, ha2⟩, ih, if_pos (by simp [hl, e])]; rfl
    ·rw [if_neg (fun h2 => e h2.2.1), ih, if_neg (by simp [hl]; omega)]
  ·rw [if_neg hl] at h
   rw [if_neg (fun h2 => hl h2.1), if_neg (by simp [hl])]
   split at h
   ·exact firsts_names i r _ _ _ _ h
   ·cases h
theorem names_none {ns : List Nm} {fn : Int} (h : ∀ x ∈ ns, (x.fn : Int) ≠ fn) : namesL ns fn = [] := by
 unfold namesL
 rw [List.filter_eq_nil_iff.2]
 ·rfl
 ·intro x hx
  simp [h x hx]
theorem labels_read (s : Bs) (fn : Int) : labP fn (readP s) = labelsL s fn := by
 unfold readP labelsL
 by_cases h1 : 131072 < s.length
 ·rw [if_pos h1, if_pos h1]; rfl
 ·rw [if_neg h1, if_neg h1]
  unfold labsL
  rcases sim_run (linesL s) Sim.start (lines_ne s) with ⟨n, e1, e2⟩ | ⟨st, p, e1, e2, h⟩
  ·rw [e1, e2]; rfl
  ·rw [e1, e2]
   dsimp only
   rw [h.ms, h.im, sim_settle h st.ns [] st.im.fn rfl (fun _ => rfl) (fun _ => rfl)]
   cases hr : resL st.ns [] st.im.fn st.ns with
   | inr x =>
    have hc : x.2 ≠ 0 := by
     have h2 := sim_settle h st.ns [] st.im.fn rfl (fun _ => rfl) (fun _ => rfl)
     rw [hr] at h2
     exact settle_wrong (l := x.1) (c := x.2) _ _ h2
    have he : (endL st).2.2 = x.2 := by unfold endL; rw [hr]
    rw [if_neg (by rw [he]; exact hc)]; rfl
   | inl fn2 =>
    dsimp only
    by_cases ho : I.okI ⟨st.im.sh, fn2⟩ = true
    ·have he : (endL st).2.2 = 0 := by unfold endL; rw [hr]; dsimp only; rw [if_pos ho]
     rw [if_pos ho, if_pos he]
     unfold labP
     dsimp only
     by_cases h0 : 0 ≤ fn
     ·rw [if_pos h0]
      by_cases h2 : fn.toNat < st.im.fn.length
      ·rw [h.labs _ h2]
       have e : ((fn.toNat : Nat) : Int) = fn := by omega
       have := firsts_names fn.toNat st.ns [] st.ns st.im.fn fn2 hr
       rw [e] at this
       exact this
      ·rw [List.getElem?_eq_none (by rw [h.lbl]; omega), names_none (fun x hx => by have := (h.ns x hx).1; omega)]
       rfl
     ·rw [if_neg h0, names_none (fun x _ => by omega)]
    ·have he : (endL st).2.2 = 93 := by unfold endL; rw [hr]; dsimp only; rw [if_neg ho]
     rw [if_neg ho, if_neg (by rw [he]; decide)]; rfl
def LabR (l : List Bs) (w : World) (e : Ending) (W' : World) : Prop := ∃ A c, e = .returned (.slice A l.length c) ∧ Rd W' A (sv l) ∧ l.length ≤ c ∧ Keep NoB w W'
theorem lab_cells {B : Nat} {W : World} {T : Nat → Tg} {rb : Nat} {v : RV} {es : List I.SE} {fs : List I.FE} {ls : List LE} {R : Tg → Row} {F : Tg → Option Mp} {p : PS} {N : Nat} (h : Rdr B W T rb v es fs ls R F p N) : v.nl = ls.length ∧ ∀ k (hk : k < ls.length), ∃ g, v.L = some ⟨g, 0, none⟩ ∧ W.cell? ⟨g, k * 2, none⟩ = some (.slice ls[k].A ls[k].n ls[k].c) ∧ ls[k].n = ls[k].ws.length ∧ ls[k].n ≤ ls[k].c ∧ Rd W ls[k].A (sv ls[k].ws) := by
 have hrow := h.pa.row .lb ⟨Tg.noConfusion, Tg.noConfusion⟩
 rw [h.rlb] at hrow
 have hlen : (lvs ls).length = v.nl * 2 := hrow.1.1
 rw [lvs_length] at hlen
 refine ⟨by omega, fun k hk => ?_⟩
 obtain ⟨A, c, e, _, _, hr, ho⟩ := Own.form hrow
 injection e with e1 e2 e3
 obtain ⟨g, off, rfl, hcs⟩ := hr (by show 0 < (lvs ls).length; rw [lvs_length]; omega)
 have h2 := (ho _ rfl).2
 injection h2 with _ h3
 subst h3
 have h4 := hcs (k * 2 + 0) _ (by rw [lvs_at _ _ _ hk (by omega)]; rfl)
 rw [Nat.zero_add, Nat.add_zero] at h4
 have hn := h.pa.row (.nm k) ⟨Tg.noConfusion, Tg.noConfusion⟩
 rw [h.rnm k hk] at hn
 have hnl : (sv ls[k].ws).length = ls[k].n * 1 := hn.1.1
 obtain ⟨A2, c2, e5, h6, _, hr2, _⟩ := Own.form hn
 injection e5 with e5 _ e7
 subst e5 e7
 exact ⟨g, e1, h4, by simpa [sv] using hnl.symm, h6, hr2⟩

set_option maxRecDepth 100000 in
set_option maxHeartbeats 4000000 in
theorem labels_any (S : ByteArray) (s : Bs) (fn : Int) (w : World) (hE : Hid (EnvM w)) (hs : Hid (S.data.toList = s)) (hl : S.size ≤ 140000) (hf : O.I64 fn) :
  Calls Tryz.prog 37 #[.string S, .int .i64 fn] w (LabR (labelsL s fn) w) := by
 have HRd := Lib.hid (read_any S s w hE hs hl)
 have HQ := Lib.hid (labels_read s fn)
 obtain ⟨Q, hQ⟩ : ∃ Q, labelsL s fn = Q := ⟨_, rfl⟩
 rw [hQ] at HQ ⊢
 clear hQ
 have hno : Q = [] → ∀ W', Keep NoB w W' → LabR Q w (.returned (.slice none 0 0)) W' := by
  rintro rfl W' hk
  exact ⟨none, 0, rfl, Rd.none_ _ _, Nat.le_refl _, hk⟩
 have HNo := Lib.hid hno
 clear hno
 unfold O.I64 at hf
 go_enter Tryz.func37, Tryz.ntmps37
 go_wp2_with fail
 refine HRd.out.mono ?_
 rintro e w2 ⟨k2, ⟨l, c, hp, rfl⟩ | ⟨q, rb, T, N, ln, hp, rfl, hr, hN⟩⟩
 ·have hc := readP_no hp
  have hc2 : (c == 0) = false := by rw [beq_eq_false_iff_ne]; exact hc
  have h0 : Q = [] := by rw [← HQ.out, hp]; rfl
  clear hp HRd HQ
  go_wp2
  go_ret
  exact HNo.out h0 _ k2
 ·have HP := HQ.out
  rw [hp] at HP
  unfold labP at HP
  dsimp only at HP
  obtain ⟨hk3, v, es, fs, ls, R, F, hln, hr4⟩ := hr
  obtain ⟨_, _, _, _, _, c5, _⟩ := rd_cells hr4.bk
  obtain ⟨hnl, hlc⟩ := lab_cells hr4
  have hlb := hr4.lb
  have hlf := hr4.lf
  have hfb := hr4.by_
  rw [hnl] at c5
  by_cases h0 : fn < 0
  ·have hQ0 : Q = [] := by rw [← HP, if_neg (by omega)]
   clear HP HQ HRd hp hr4 hk3
   go_wp2
   go_ret
   exact HNo.out hQ0 _ k2
  ·by_cases h1 : (ls.length : Int) ≤ fn
   ·have hQ0 : Q = [] := by
     rw [← HP, if_pos (by omega), ← hlb, List.getElem?_eq_none (by simp; omega)]; rfl
    clear HP HQ HRd hp hr4 hk3
    go_wp2
    go_ret
    exact HNo.out hQ0 _ k2
   ·obtain ⟨i, rfl⟩ : ∃ i : Nat, fn = (i : Int) := ⟨fn.toNat, by omega⟩
    have hi : i < ls.length := by omega
    obtain ⟨g, hL, z0, hn, hc, hrd⟩ := hlc i hi
    have hQ0 : Q = ls[i].ws := by
     rw [← HP, if_pos (by omega), ← hlb, List.getElem?_map, Int.toNat_natCast, List.getElem?_eq_getElem hi]; rfl
    have HF : Hid (LabR Q w (.returned (.slice ls[i].A ls[i].n ls[i].c)) w2) := by
     rw [hQ0]
     exact ⟨ls[i].A, ls[i].c, by rw [hn], hrd, by omega, k2⟩
    rw [hL] at c5
    generalize ls[i] = le at *
    obtain ⟨LA, Ln, Lc, Lb, Lw, Lf⟩ := le
    dsimp only at z0 HF
    clear HP HQ HRd hp hr4 hk3 hlc hQ0 hn hc hrd
    go_wp2
    go_ret
    exact HF.out

end Go.Proofs.YtgnooffedmeenaaGreatDoor.M
