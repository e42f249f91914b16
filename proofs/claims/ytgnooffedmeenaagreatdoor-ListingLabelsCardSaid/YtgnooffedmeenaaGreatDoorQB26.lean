/-
  Part 26 of the proofs of LBackRow, LLabelsRow: what is laid, and what the functions that the law runs answer. Conditions: each theorem names its own.
-/
import Derived.Test.YtgnooffedmeenaaGreatDoorQB25
namespace Go.Proofs.YtgnooffedmeenaaGreatDoor.M.L
open Go.RowKit W

theorem str_bytes2 (l : Bs) : (str l).data.toList = l := by unfold str; simp
theorem cnt_sum2 (es : List I.SE) (fs : List I.FE) : ((I.imOf es fs).fn.map fun f => f.bd.length).sum = cntF fs := by
 unfold cntF I.imOf
 simp only [List.map_map]
 rfl
def lbQz (s : Nat) (n : Nat) : Nat := if s ≤ 131072 then n else 0
def tgN (fs : List I.FE) (j : Nat) : Nat := ((fs.take j).map fun e => (tgs e.2.bd).length).sum
theorem tgN_succ (fs : List I.FE) (j : Nat) (h : j < fs.length) : tgN fs (j + 1) = tgN fs j + (tgs fs[j].2.bd).length := by
 unfold tgN
 rw [List.take_succ_eq_append_getElem h, List.map_append, List.sum_append]
 simp
theorem tgN_all (es : List I.SE) (fs : List I.FE) : tgN fs fs.length = sumT (I.imOf es fs).fn := by
 unfold tgN sumT I.imOf
 rw [List.take_length]
 simp only [List.map_map]
 rfl
theorem tgN_le {fs : List I.FE} (h : ∀ e ∈ fs, e.2.bd.length ≤ 600) : ∀ j, tgN fs j ≤ 600 * fs.length := by
 intro j
 have key : ∀ l : List I.FE, (∀ e ∈ l, e.2.bd.length ≤ 600) → (l.map fun e => (tgs e.2.bd).length).sum ≤ 600 * l.length := by
  intro l
  induction l with
  | nil => intro _; exact Nat.le_refl _
  | cons e l ih =>
   intro hl
   have h1 := ih (fun x hx => hl x (List.mem_cons_of_mem _ hx))
   have h2 := hl e (List.mem_cons_self ..)
   have h3 := tgs_len e.2.bd
   rw [List.map_cons, List.sum_cons, List.length_cons, Nat.mul_add]
   omega
 have h1 := key (fs.take j) (fun e he => h e (List.mem_of_mem_take he))
 have h2 : (fs.take j).length ≤ fs.length := by rw [List.length_take]; exact Nat.min_le_right _ _
 have h3 := Nat.mul_le_mul_left 600 h2
 unfold tgN
 omega
theorem llabs_any {w W : World} {v : I.IV} {es : List I.SE} {fs : List I.FE} (h : I.ImAt w v es fs) (hc : cntF fs ≤ 500) (hok : I.okI (I.imOf es fs) = true) {k : Nat} (hk : k < fs.length) (hE : EnvM W) :
  Calls Tryz.prog 37 #[.string (str (textL 0 (I.imOf es fs))), .int .i64 (k : Int)] W fun e w' => ∃ A c, e = .returned (.slice A (lbQz (str (textL 0 (I.imOf es fs))).size (tgs fs[k].2.bd).length) c) ∧
   Rd w' A (sv ((List.range (lbQz (str (textL 0 (I.imOf es fs))).size (tgs fs[k].2.bd).length)).map fun n => lbl ((n : Nat) : Int))) ∧ Keep NoB W w' := by
 have hs : (str (textL 0 (I.imOf es fs))).data.toList = textR 0 (I.imOf es fs) := by rw [str_bytes2]; unfold textL; rw [if_pos hok]
 have hz : (str (textL 0 (I.imOf es fs))).size = (textR 0 (I.imOf es fs)).length := by rw [← hs]; rfl
 have h1 := textR_140 (imOk_of h hok) 0 (by rw [cnt_sum2]; exact hc)
 have hf : (I.imOf es fs).fn[k]? = some fs[k].2 := by
  unfold I.imOf
  simp [hk]
 have h70 : fs.length ≤ 64 := by have := (imOk_of h hok).nf; unfold I.imOf at this; simpa using this
 have e : labelsL (textR 0 (I.imOf es fs)) (k : Int) = (List.range (lbQz (str (textL 0 (I.imOf es fs))).size (tgs fs[k].2.bd).length)).map fun n => lbl ((n : Nat) : Int) := by
  unfold lbQz
  by_cases hl : (textR 0 (I.imOf es fs)).length ≤ 131072
  ·rw [if_pos (by omega)]; exact labels_list hok hl hf
  ·rw [if_neg (by omega)]; exact labels_long hl _
 refine (labels_any _ _ (k : Int) W (Lib.hid hE) (Lib.hid hs) (by omega) (by unfold O.I64; omega)).mono ?_
 rw [e]
 rintro e w' ⟨A, c, rfl, h2, _, h3⟩
 exact ⟨A, c, by simp, h2, h3⟩
theorem labs_none {w W : World} {v : I.IV} {es : List I.SE} {fs : List I.FE} (h : I.ImAt w v es fs) (hc : cntF fs ≤ 500) (hok : I.okI (I.imOf es fs) = true) {k : Nat} (hk : k < fs.length) (hE : EnvM W) :
  Calls Tryz.prog 37 #[.string (str (textL 1 (I.imOf es fs))), .int .i64 (k : Int)] W fun e w' => ∃ A c, e = .returned (.slice A 0 c) ∧ Keep NoB W w' := by
 have hs : (str (textL 1 (I.imOf es fs))).data.toList = textR 1 (I.imOf es fs) := by rw [str_bytes2]; unfold textL; rw [if_pos hok]
 have hz : (str (textL 1 (I.imOf es fs))).size = (textR 1 (I.imOf es fs)).length := by rw [← hs]; rfl
 have h1 := textR_140 (imOk_of h hok) 1 (by rw [cnt_sum2]; exact hc)
 have hf : (I.imOf es fs).fn[k]? = some fs[k].2 := by
  unfold I.imOf
  simp [hk]
 have h70 : fs.length ≤ 64 := by have := (imOk_of h hok).nf; unfold I.imOf at this; simpa using this
 have e : labelsL (textR 1 (I.imOf es fs)) (k : Int) = [] := labels_plain hok hf
 refine (labels_any _ _ (k : Int) W (Lib.hid hE) (Lib.hid hs) (by omega) (by unfold O.I64; omega)).mono ?_
 rw [e]
 rintro e w' ⟨A, c, rfl, h2, _, h3⟩
 exact ⟨A, c, rfl, h3⟩
theorem tgF_len {f : F.Fu} (h : F.okF f = true) : (tgF f).length = (tgs f.bd).length := by unfold tgF; rw [if_pos h]; simp
theorem feeds {w : World} {v : I.IV} {es : List I.SE} {fs : List I.FE} (_h : I.ImAt w v es fs) (hok : I.okI (I.imOf es fs) = true) : Lib.countByte (str (textL 0 (I.imOf es fs))).data.toList 10 = Lib.countByte (str (textL 1 (I.imOf es fs))).data.toList 10 + tgN fs fs.length := by
 have hs : ∀ k, (str (textL k (I.imOf es fs))).data.toList = textR k (I.imOf es fs) := fun k => by rw [str_bytes2]; unfold textL; rw [if_pos hok]
 rw [hs, hs, tgN_all es fs]
 exact count_list hok
theorem feeds_le {w : World} {v : I.IV} {es : List I.SE} {fs : List I.FE} (h : I.ImAt w v es fs) (hc : cntF fs ≤ 500) (hok : I.okI (I.imOf es fs) = true) (k : Nat) : Lib.countByte (str (textL k (I.imOf es fs))).data.toList 10 ≤ 140000 := by
 have hs : (str (textL k (I.imOf es fs))).data.toList = textR k (I.imOf es fs) := by rw [str_bytes2]; unfold textL; rw [if_pos hok]
 have h1 := textR_140 (imOk_of h hok) k (by rw [cnt_sum2]; exact hc)
 rw [hs]
 exact Nat.le_trans List.count_le_length h1
theorem str_neq {a b : Bs} (h : a ≠ b) : ((str a).toList == (str b).toList) = false := by
 rw [F.name_eq (str_bytes2 a) (str_bytes2 b), decide_eq_false_iff_not]
 exact h

end Go.Proofs.YtgnooffedmeenaaGreatDoor.M.L
