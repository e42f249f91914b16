/-
  What the document's Show answers. Conditions: the operands fit an int64.
  The document's find among any texts, and the operand that a word is. Conditions: the word is not too long.
  The document's words. Conditions: the text is not too long.
  What the document's Effect answers. Conditions: the operands fit an int64.
-/
import Derived.Test.YtpkcjokkadfhcaaGreatDoorQ11
import Derived.Test.YtpkcjokkadfhcaaGreatDoorQ6
import Derived.Test.YtpkcjokkadfhcaaGreatDoorQ10
import Derived.Test.YtpkcjokkadfhcaaGreatDoorQ12
import Derived.Test.YtpkcjokkadfhcaaGreatDoorQ4
import Derived.Test.YtpkcjokkadfhcaaGreatDoorQ13
namespace Go.Proofs.YtpkcjokkadfhcaaGreatDoor.O
open Go.RowKit

theorem word_size (k n : Int) (hn : I64 n) : (str (word k n)).size ≤ 21 := by
  rw [_root_.Go.Proofs.YtpkcjokkadfhcaaGreatDoor.W.size_of (s := word k n) (by simp)]; exact word_len k n hn
theorem nm_size (op : Int) : (str (rowAt op).name).size ≤ 7 := by
  rw [_root_.Go.Proofs.YtpkcjokkadfhcaaGreatDoor.W.size_of (s := (rowAt op).name) (by simp)]; exact name_len op
theorem str_put (s d : List UInt8) : (str s ++ (⟨#[32]⟩ : ByteArray)) ++ str d = str (s ++ 32 :: d) := by
  apply ByteArray.ext
  simp [ByteArray.data_append]

set_option maxRecDepth 100000 in
set_option maxHeartbeats 4000000 in
theorem rshow_any (op a b : Int) (w : World) (ha : I64 a) (hb : I64 b) :
    Calls Tryz.prog 32 #[instV op a b] w fun e w' => e = .returned (.string (str (showI op a b))) ∧ Keep NoB w w' := by
  have HC := Lib.hid (fun w => rcheck_any op a b w ha hb)
  have bx := Blk.new w 23 #[.int .i64 op, .int .i64 a, .int .i64 b]
  have gK := (Keep.refl NoB w).alloc (.cells #[.int .i64 op, .int .i64 a, .int .i64 b] 23)
  cases hok : okI op a b
  · have HX : Hid (showI op a b = [] ∧ chk op a b = 40) := ⟨by unfold showI; rw [if_neg (by rw [hok]; decide)], by unfold chk; rw [if_neg (by rw [hok]; decide)]⟩
    rw [HX.out.2] at HC
    clear hok ha hb
    go_enter Tryz.func32, Tryz.ntmps32
    go_wp2_with fail
    refine (HC.out _).mono ?_
    rintro e w1 ⟨rfl, k1⟩
    go_wp2
    go_ret
    exact ⟨by rw [HX.out.1]; rfl, keepN gK k1⟩
  · have HX : Hid (showI op a b = textI op a b ∧ chk op a b = 0) := ⟨by unfold showI; rw [if_pos hok], by unfold chk; rw [if_pos hok]⟩
    rw [HX.out.2] at HC
    obtain ⟨ho, hA, hB⟩ := ok_op hok
    have hop := isOp_yes ho
    obtain ⟨k, rfl⟩ := Int.eq_ofNat_of_zero_le hop.1
    have hk : k < 30 := by omega
    have hcell : ∀ w : World, (w.alloc (.cells namesC 9)).cell? ⟨w.heap.size, k, none⟩ = some (.string (str (rowAt (k : Int)).name)) := fun w => by
      rw [World.cell?_alloc_at _ _ _ _ rfl]
      exact namesC_at k hk
    have HKn := Lib.hid (fun w => rkinds_any (k : Int) w)
    have HWA := Lib.hid (fun w => rword_any (rowAt (k : Int)).ka a w hA ha)
    have HWB := Lib.hid (fun w => rword_any (rowAt (k : Int)).kb b w hB hb)
    have hka := kinds_ok (k : Int)
    have hkn := kinds_none (k : Int)
    have sA := word_size (rowAt (k : Int)).ka a ha
    have sB := word_size (rowAt (k : Int)).kb b hb
    have sN := nm_size (k : Int)
    have HT : Hid (str (showI (k : Int) a b) = str ((rowAt (k : Int)).name ++ (partL (rowAt (k : Int)).ka a ++ partL (rowAt (k : Int)).kb b))) := by show _ = _; rw [HX.out.1]; rfl
    have b0 : decide ((k : Int) < 0) = false := by rw [decide_eq_false_iff_not]; omega
    have b1 : decide (30 ≤ (k : Int)) = false := by rw [decide_eq_false_iff_not]; omega
    have hmix : Tryz.prog.follows .mixedOrders = true := by kernel_rfl
    clear HX hok ho hA hB ha hb hop
    by_cases h0 : (rowAt (k : Int)).ka = 0
    · have h00 := hkn h0
      have HT2 : Hid (str (showI (k : Int) a b) = str (rowAt (k : Int)).name) := by show _ = _; rw [HT.out]; unfold partL; rw [if_pos h0, if_pos h00]; simp
      rw [h0, h00] at HKn
      clear HT HWA HWB hka hkn sA sB h0 h00
      generalize str (rowAt (k : Int)).name = S at *
      go_enter Tryz.func32, Tryz.ntmps32
      go_wp2_with fail
      refine (HC.out _).mono ?_
      rintro e w1 ⟨rfl, k1⟩
      replace bx := bx.keep k1 id
      replace gK := keepN gK k1
      clear k1
      obtain ⟨x0, x1, x2⟩ := blk_inst bx
      go_wp2_with fail
      refine (HKn.out _).mono ?_
      rintro e w2 ⟨rfl, rfl⟩
      have d1 := hcell w1
      obtain ⟨y0, y1, y2⟩ := blk_inst (bx.alloc (.cells namesC 9))
      go_wp2_with fail
      go_region_with (go_at_call 53; refine (rnames_any _).mono ?_; rintro e w' ⟨rfl, rfl⟩)
      all_goals
        go_wp2
        go_ret
        exact ⟨by rw [HT2.out]; rfl, by first | exact gK.alloc _ | exact (gK.alloc _).drew | exact gK.drew.alloc _⟩
    · have d0 : decide (0 < (rowAt (k : Int)).ka) = true := by rw [decide_eq_true_iff]; omega
      by_cases h1 : (rowAt (k : Int)).kb = 0
      · have HT2 : Hid (str (showI (k : Int) a b) = (str (rowAt (k : Int)).name ++ (⟨#[32]⟩ : ByteArray)) ++ str (word (rowAt (k : Int)).ka a)) := by
          show _ = _; rw [HT.out, str_put]; unfold partL; rw [if_neg h0, if_pos h1]; simp
        rw [h1] at HKn
        clear HT HWB hkn sB h0 h1
        generalize str (word (rowAt (k : Int)).ka a) = D at *
        generalize str (rowAt (k : Int)).name = S at *
        generalize (rowAt (k : Int)).ka = ka at *
        have q1 : ¬ 9223372036854775807 < S.size + 1 := by omega
        have q2 : ¬ 9223372036854775807 < S.size + 1 + D.size := by omega
        go_enter Tryz.func32, Tryz.ntmps32
        go_wp2_with fail
        refine (HC.out _).mono ?_
        rintro e w1 ⟨rfl, k1⟩
        replace bx := bx.keep k1 id
        replace gK := keepN gK k1
        clear k1
        obtain ⟨x0, x1, x2⟩ := blk_inst bx
        go_wp2_with fail
        refine (HKn.out _).mono ?_
        rintro e w2 ⟨rfl, rfl⟩
        have d1 := hcell w1
        obtain ⟨y0, y1, y2⟩ := blk_inst (bx.alloc (.cells namesC 9))
        go_wp2_with fail
        go_region_with (go_at_call 53; refine (rnames_any _).mono ?_; rintro e w' ⟨rfl, rfl⟩)
        all_goals
          go_wp2_with fail
          refine (HWA.out _).mono ?_
          rintro e w3 ⟨rfl, k2⟩
          go_wp2
          go_ret
          exact ⟨by rw [HT2.out]; rfl, by first | exact keepN (gK.alloc _) k2 | exact keepN (gK.alloc _).drew k2 | exact keepN (gK.drew.alloc _) k2⟩
      · have e0 : decide (0 < (rowAt (k : Int)).kb) = true := by rw [decide_eq_true_iff]; omega
        have HT2 : Hid (str (showI (k : Int) a b) = (((str (rowAt (k : Int)).name ++ (⟨#[32]⟩ : ByteArray)) ++ str (word (rowAt (k : Int)).ka a)) ++ (⟨#[32]⟩ : ByteArray)) ++ str (word (rowAt (k : Int)).kb b)) := by
          show _ = _; rw [HT.out, str_put, str_put]; unfold partL; rw [if_neg h0, if_neg h1]; simp
        clear HT hkn h0 h1
        generalize str (word (rowAt (k : Int)).ka a) = D at *
        generalize str (word (rowAt (k : Int)).kb b) = F at *
        generalize str (rowAt (k : Int)).name = S at *
        generalize (rowAt (k : Int)).ka = ka at *
        generalize (rowAt (k : Int)).kb = kb at *
        have q1 : ¬ 9223372036854775807 < S.size + 1 := by omega
        have q2 : ¬ 9223372036854775807 < S.size + 1 + D.size := by omega
        have q3 : ¬ 9223372036854775807 < S.size + 1 + D.size + 1 := by omega
        have q4 : ¬ 9223372036854775807 < S.size + 1 + D.size + 1 + F.size := by omega
        go_enter Tryz.func32, Tryz.ntmps32
        go_wp2_with fail
        refine (HC.out _).mono ?_
        rintro e w1 ⟨rfl, k1⟩
        replace bx := bx.keep k1 id
        replace gK := keepN gK k1
        clear k1
        obtain ⟨x0, x1, x2⟩ := blk_inst bx
        go_wp2_with fail
        refine (HKn.out _).mono ?_
        rintro e w2 ⟨rfl, rfl⟩
        have d1 := hcell w1
        obtain ⟨y0, y1, y2⟩ := blk_inst (bx.alloc (.cells namesC 9))
        go_wp2_with fail
        go_region_with (go_at_call 53; refine (rnames_any _).mono ?_; rintro e w' ⟨rfl, rfl⟩)
        all_goals
          go_wp2_with fail
          refine (HWA.out _).mono ?_
          rintro e w3 ⟨rfl, k2⟩
          have K1 : Keep NoB w1 w3 := by first | exact keepN ((Keep.refl NoB w1).alloc _) k2 | exact keepN ((Keep.refl NoB w1).alloc _).drew k2 | exact keepN ((Keep.refl NoB w1).drew.alloc _) k2
          obtain ⟨z0, z1, z2⟩ := blk_inst (bx.keep K1 id)
          go_wp2_with fail
          refine (HWB.out _).mono ?_
          rintro e w4 ⟨rfl, k3⟩
          go_wp2
          go_ret
          exact ⟨by rw [HT2.out]; rfl, keepN (keepN gK K1) k3⟩

end Go.Proofs.YtpkcjokkadfhcaaGreatDoor.O

namespace Go.Proofs.YtpkcjokkadfhcaaGreatDoor.O
open Go.RowKit

theorem eq_textD {S : ByteArray} {s t : List UInt8} (hs : S.data.toList = s) : ((str t).toList == S.toList) = decide (t = s) := by
  rw [ByteArray.toList_eq, ByteArray.toList_eq, hs]
  by_cases h : t = s
  · subst h; simp
  · simp [h]
theorem findL_hit {l : List (List UInt8)} {s : List UInt8} {k : Nat} (hk : k < l.length) (h : l[k] = s) (hall : ∀ (j : Nat) (hj : j < l.length), j < k → l[j] ≠ s) : findL l s = (k : Int) := by
  have hm : s ∈ l := h ▸ List.getElem_mem hk
  have h1 := List.idxOf_lt_length_of_mem hm
  have h2 : l[l.idxOf s] = s := List.getElem_idxOf h1
  have h3 : ¬ l.idxOf s < k := fun h => hall _ h1 h h2
  have h4 : ¬ k < l.idxOf s := fun hlt => by
    have := List.not_of_lt_findIdx (p := (· == s)) (xs := l) (i := k) (by simpa [List.idxOf] using hlt)
    simp [h] at this
  unfold findL
  rw [if_pos hm]
  omega
theorem findL_miss {l : List (List UInt8)} {s : List UInt8} (hall : ∀ (j : Nat) (hj : j < l.length), l[j] ≠ s) : findL l s = -1 := by
  unfold findL
  rw [if_neg fun hm => by
    obtain ⟨j, hj, e⟩ := List.getElem_of_mem hm
    exact hall j hj e]

set_option maxHeartbeats 2000000 in
theorem rfindL_any (l : List (List UInt8)) (n b : Nat) (S : ByteArray) (s : List UInt8) (w : World) (hs : Hid (S.data.toList = s)) (hn : n = l.length) (hn2 : n ≤ 1000) (hc : Hid (∀ (k : Nat) (hk : k < l.length), w.cell? ⟨b, k, none⟩ = some (.string (str l[k])))) :
    Calls Tryz.prog 52 #[.slice (some ⟨b, 0, none⟩) n n, .string S] w fun e w' => e = .returned (.int .i64 (findL l s)) ∧ Keep NoB w w' := by
  have HN := Lib.hid hn
  clear hn
  go_enter Tryz.func52, Tryz.ntmps52
  go_wp2
  go_loopw [5] (fun i wr => ∃ k : Nat, k ≤ n ∧ i = .int .i64 (k : Int) ∧ Hid (∀ (j : Nat) (hj : j < l.length), j < k → l[j] ≠ s) ∧ Keep NoB w wr) (fun i _ => n - (intOf i).toNat)
  case atStart => exact ⟨0, by omega, rfl, fun j _ h => by omega, Keep.refl _ _⟩
  case round =>
    obtain ⟨k, hk, rfl, hf, hK⟩ := hrel
    by_cases hlt : k < n
    · have hkl : k < l.length := by rw [← HN.out]; exact hlt
      have ca := hK.cell (hc.out k hkl) id
      by_cases he : l[k] = s
      · have HF : Hid (findL l s = (k : Int)) := findL_hit hkl he hf.out
        have hq : ((str l[k]).toList == S.toList) = true := by rw [eq_textD hs.out]; simpa using he
        clear he hf
        generalize str l[k] = T at ca hq
        clear hkl
        go_wp2
        go_ret
        exact ⟨by rw [HF.out]; rfl, hK⟩
      · have HF : Hid (∀ (j : Nat) (hj : j < l.length), j < k + 1 → l[j] ≠ s) := fun j hj h => by
          by_cases e : j = k
          · subst e; exact he
          · exact hf.out j hj (by omega)
        have hq : ((str l[k]).toList == S.toList) = false := by rw [eq_textD hs.out]; simpa using he
        clear he hf
        generalize str l[k] = T at ca hq
        clear hkl
        go_wp2
        go_roundw
        case rel => exact ⟨k + 1, by omega, by go_num, HF, hK⟩
        case measure => simp [intOf]; omega
    · obtain rfl : k = n := by omega
      have HF : Hid (findL l s = -1) := findL_miss fun j hj => hf.out j hj (by rw [HN.out]; exact hj)
      clear hf hlt
      go_wp2
      go_ret
      exact ⟨by rw [HF.out]; rfl, hK⟩

/-- The cells of a list of texts that has just been made. -/
theorem strC_new (l : List (List UInt8)) (w : World) : Hid (∀ (k : Nat) (hk : k < l.length), (w.alloc (.cells (strC l) 9)).cell? ⟨w.heap.size, k, none⟩ = some (.string (str l[k]))) := fun k hk => by
  rw [World.cell?_alloc_at _ _ _ _ rfl]; exact strC_at l k hk

set_option maxHeartbeats 2000000 in
theorem rnum_any (k : Int) (S : ByteArray) (s : List UInt8) (w : World) (hs : Hid (S.data.toList = s)) (hl : S.size ≤ 1000) :
    Calls Tryz.prog 59 #[.int .i64 k, .string S] w fun e w' => e = .returned (.int .i64 (rgK k s)) ∧ Keep NoB w w' := by
  by_cases h23 : k = 2 ∨ k = 3
  · have HX : Hid (rgK k s = findL letNs s) := by show _ = _; unfold rgK; rw [if_pos h23]
    have HF := Lib.hid (fun w => rfindL_any letNs 5 w.heap.size S s _ hs rfl (by omega) (strC_new letNs w))
    rcases h23 with rfl | rfl
    all_goals
      go_enter Tryz.func59, Tryz.ntmps59
      go_wp2_with fail
      refine (rletters_any _).mono ?_
      rintro e w1 ⟨rfl, rfl⟩
      go_wp2_with fail
      refine (HF.out _).mono ?_
      rintro e w2 ⟨rfl, k2⟩
      go_wp2
      go_ret
      exact ⟨by rw [HX.out]; rfl, keepN ((Keep.refl NoB w).alloc _) k2⟩
  · have q2 : (k == 2) = false := by rw [beq_eq_false_iff_ne]; exact fun h => h23 (.inl h)
    have q3 : (k == 3) = false := by rw [beq_eq_false_iff_ne]; exact fun h => h23 (.inr h)
    by_cases h8 : k = 8
    · have HX : Hid (rgK k s = findL A.binNs s) := by show _ = _; unfold rgK; rw [if_neg h23, if_pos h8]
      have HF := Lib.hid (fun w => rfindL_any A.binNs 14 w.heap.size S s _ hs rfl (by omega) (strC_new A.binNs w))
      subst h8
      clear h23
      go_enter Tryz.func59, Tryz.ntmps59
      go_wp2_with fail
      refine (rbins_any _).mono ?_
      rintro e w1 ⟨rfl, rfl⟩
      go_wp2_with fail
      refine (HF.out _).mono ?_
      rintro e w2 ⟨rfl, k2⟩
      go_wp2
      go_ret
      exact ⟨by rw [HX.out]; rfl, keepN ((Keep.refl NoB w).alloc _) k2⟩
    · have q8 : (k == 8) = false := by rw [beq_eq_false_iff_ne]; exact h8
      by_cases h9 : k = 9
      · have HX : Hid (rgK k s = findL A.unNs s) := by show _ = _; unfold rgK; rw [if_neg h23, if_neg h8, if_pos h9]
        have HF := Lib.hid (fun w => rfindL_any A.unNs 9 w.heap.size S s _ hs rfl (by omega) (strC_new A.unNs w))
        subst h9
        clear h23 h8
        go_enter Tryz.func59, Tryz.ntmps59
        go_wp2_with fail
        refine (runs_any _).mono ?_
        rintro e w1 ⟨rfl, rfl⟩
        go_wp2_with fail
        refine (HF.out _).mono ?_
        rintro e w2 ⟨rfl, k2⟩
        go_wp2
        go_ret
        exact ⟨by rw [HX.out]; rfl, keepN ((Keep.refl NoB w).alloc _) k2⟩
      · have q9 : (k == 9) = false := by rw [beq_eq_false_iff_ne]; exact h9
        have HX : Hid (rgK k s = W.rN 1 s) := by show _ = _; unfold rgK; rw [if_neg h23, if_neg h8, if_neg h9]
        have HR := Lib.hid (fun w => W.rread_any 1 S s w hs (by omega))
        clear h23 h8 h9
        generalize W.rT 1 s = t1 at *
        generalize W.rN 1 s = n1 at *
        generalize W.rE 1 s = e1 at *
        go_enter Tryz.func59, Tryz.ntmps59
        go_wp2_with fail
        refine (HR.out _).mono ?_
        rintro e w1 ⟨rfl, k1⟩
        go_wp2
        go_ret
        exact ⟨by rw [HX.out]; rfl, k1.alloc _⟩

end Go.Proofs.YtpkcjokkadfhcaaGreatDoor.O

namespace Go.Proofs.YtpkcjokkadfhcaaGreatDoor.O
open Go.RowKit

theorem string_info : (Tryz.prog.info? 9).map (fun i => (i.zero, i.size, i.bytes)) = some (some (.string ⟨#[]⟩), 1, 16) := by kernel_rfl
abbrev sv (l : List (List UInt8)) : List Value := l.map fun s => .string (str s)
theorem rd_one {w : World} {T : TypeId} {v : Value} : Rd (w.alloc (.cells #[v] T)) (some ⟨w.heap.size, 0, none⟩) [v] := fun _ =>
  ⟨_, 0, rfl, fun j u hu => by rw [Nat.zero_add, (Blk.new w T #[v]).cell j, ← hu]; simp⟩

/-- What has come: the words so far, and the one that is being read. -/
def WordI (s : List UInt8) (out : List (List UInt8)) (f k : Nat) : Prop :=
  (k ≤ s.length → splitL s = out ++ consH ((s.drop f).take (k - f)) (splitL (s.drop k))) ∧ (k = s.length + 1 → splitL s = out)
theorem wordI_start (s : List UInt8) : WordI s [] 0 0 := ⟨fun _ => by simp [consH_nil (splitL_ne s)], fun h => by omega⟩
theorem wordI_end {s : List UInt8} {out : List (List UInt8)} {f : Nat} (h : WordI s out f s.length) : WordI s (out ++ [(s.drop f).take (s.length - f)]) (s.length + 1) (s.length + 1) := by
  have e := h.1 (Nat.le_refl _)
  rw [List.drop_length] at e
  refine ⟨fun h => by omega, fun _ => ?_⟩
  rw [e]
  simp [splitL, consH]
theorem wordI_blank {s : List UInt8} {out : List (List UInt8)} {f k : Nat} (hk : k < s.length) (h32 : s[k] = 32) (h : WordI s out f k) : WordI s (out ++ [(s.drop f).take (k - f)]) (k + 1) (k + 1) := by
  have e := h.1 (Nat.le_of_lt hk)
  rw [List.drop_eq_getElem_cons hk, h32, splitL_blank] at e
  refine ⟨fun _ => ?_, fun h => ?_⟩
  · rw [e, Nat.sub_self, List.take_zero, consH_nil (splitL_ne _)]
    simp [consH]
  · have hl : s.length = k := by omega
    omega
theorem wordI_byte {s : List UInt8} {out : List (List UInt8)} {f k : Nat} (hfk : f ≤ k) (hk : k < s.length) (h32 : s[k] ≠ 32) (h : WordI s out f k) : WordI s out f (k + 1) := by
  have e := h.1 (Nat.le_of_lt hk)
  rw [List.drop_eq_getElem_cons hk, splitL_byte h32, consH_two] at e
  refine ⟨fun _ => ?_, fun h => by omega⟩
  rw [e]
  congr 2
  have e2 : k + 1 - f = (k - f) + 1 := by omega
  rw [e2, List.take_succ_eq_append_getElem (by simp; omega)]
  congr 2
  rw [List.getElem_drop]
  congr 1
  omega
theorem extract_of {S : ByteArray} {s : List UInt8} (hs : S.data.toList = s) (f k : Nat) : S.extract f k = str ((s.drop f).take (k - f)) := by
  apply ByteArray.ext
  rw [ByteArray.data_extract]
  apply Array.ext'
  rw [Array.toList_extract, hs, List.extract_eq_take_drop]

/-- What words answers. -/
def WordsR (s : List UInt8) (w : World) (e : Ending) (w' : World) : Prop :=
  ∃ A c, e = .returned (.slice A (splitL s).length c) ∧ Rd w' A (sv (splitL s)) ∧ (splitL s).length ≤ c ∧ Keep NoB w w'

set_option maxRecDepth 100000 in
set_option maxHeartbeats 4000000 in
theorem words_any (S : ByteArray) (s : List UInt8) (w : World) (hs : Hid (S.data.toList = s)) (hl : S.size ≤ 1000) :
    Calls Tryz.prog 58 #[.string S] w (WordsR s w) := by
  have HSZ : Hid (S.size = s.length) := Lib.hid (_root_.Go.Proofs.YtpkcjokkadfhcaaGreatDoor.W.size_of hs.out)
  have HEX := Lib.hid (extract_of hs.out)
  obtain ⟨i0, hi, hz0, hz1, hz2⟩ := info_parts string_info
  go_enter Tryz.func58, Tryz.ntmps58
  go_wp2
  go_loopw [3, 4, 5] (fun o f i wr => ∃ (out : List (List UInt8)) (p k : Nat), p ≤ k ∧ k ≤ S.size + 1 ∧ f = .int .i64 (p : Int) ∧ i = .int .i64 (k : Int) ∧ Hid (WordI s out p k) ∧ out.length ≤ k ∧ (∃ B d, o = .slice B out.length d ∧ Own wr 9 1 (Fresh w) (.slice B out.length d) out.length (sv out)) ∧ Keep NoB w wr)
    (fun _ _ i _ => S.size + 1 - (intOf i).toNat)
  case atStart => exact ⟨[], 0, 0, Nat.le_refl _, by omega, rfl, rfl, wordI_start s, Nat.le_refl _, ⟨_, _, rfl, Own.nil _ _ _ _⟩, Keep.refl _ _⟩
  case round =>
    obtain ⟨out, p, k, hpk, hk, rfl, rfl, hW, hol, ⟨B, d, rfl, hO⟩, hK⟩ := hrel
    by_cases hle : k ≤ S.size
    · by_cases heq : k = S.size
      · have HW2 : Hid (WordI s (out ++ [(s.drop p).take (k - p)]) (k + 1) (k + 1)) := by
          have hks : k = s.length := by rw [heq, HSZ.out]
          have := hW.out
          rw [hks] at this ⊢
          exact wordI_end this
        have hE := HEX.out p k
        have HZ : Hid (sv (out ++ [(s.drop p).take (k - p)]) = sv out ++ [.string (str ((s.drop p).take (k - p)))]) := by show _ = _; simp
        have HLn : Hid ((out ++ [(s.drop p).take (k - p)]).length = out.length + 1) := by show _ = _; simp
        generalize out ++ [(s.drop p).take (k - p)] = out2 at HW2 HZ HLn
        obtain ⟨T, hT⟩ : ∃ T, str ((s.drop p).take (k - p)) = T := ⟨_, rfl⟩
        rw [hT] at hE HZ
        clear hW hT
        subst heq
        go_wp2_with (at_builtin; refine wpList_append_rd _ rfl (.tmp 22) (.tmp 27) _ rfl 9 1 16 i0 _ Tryz.underlying61 hi hz0 hz1 hz2 rfl (by decide) _ out.length _ _ 1 _ [.string T] rfl (hO.1.alloc _) rfl rd_one rfl (by simp [Value.oneCell']) (by unfold maxLen; omega) (by omega) ?_; intro B2 d2 w3 hrow3 hg3 hv3; rw [← HZ.out] at hrow3; obtain ⟨hO3, hK3⟩ := _root_.Go.Proofs.YtpkcjokkadfhcaaGreatDoor.W.own_after hO.2 (hK.alloc _) hg3 hv3 hrow3; clear hrow3 hg3 hv3)
        go_roundw
        case rel =>
          refine ⟨out2, S.size + 1, S.size + 1, Nat.le_refl _, Nat.le_refl _, by go_num, by go_num, HW2, by rw [HLn.out]; omega, ⟨B2, d2, ?_, ?_⟩, hK3⟩
          · rw [HLn.out]
          · rw [HLn.out]; exact hO3
        case measure => simp [intOf]
      · have hlt : k < S.size := by omega
        have hks : k < s.length := by rw [← HSZ.out]; exact hlt
        have hbt := _root_.Go.Proofs.YtpkcjokkadfhcaaGreatDoor.W.byte_at hs.out k hlt hks
        have heq' : ((k : Int) == (S.size : Int)) = false := by rw [beq_eq_false_iff_ne]; omega
        by_cases h32 : s[k] = 32
        · have hq : ((S[k].toNat : Int) == 32) = true := by rw [hbt, h32]; rfl
          have HW2 : Hid (WordI s (out ++ [(s.drop p).take (k - p)]) (k + 1) (k + 1)) := wordI_blank hks h32 hW.out
          have hE := HEX.out p k
          have HZ : Hid (sv (out ++ [(s.drop p).take (k - p)]) = sv out ++ [.string (str ((s.drop p).take (k - p)))]) := by show _ = _; simp
          have HLn : Hid ((out ++ [(s.drop p).take (k - p)]).length = out.length + 1) := by show _ = _; simp
          generalize out ++ [(s.drop p).take (k - p)] = out2 at HW2 HZ HLn
          obtain ⟨T, hT⟩ : ∃ T, str ((s.drop p).take (k - p)) = T := ⟨_, rfl⟩
          rw [hT] at hE HZ
          clear hW hT hbt h32 hks heq
          go_wp2_with (at_builtin; refine wpList_append_rd _ rfl (.tmp 22) (.tmp 27) _ rfl 9 1 16 i0 _ Tryz.underlying61 hi hz0 hz1 hz2 rfl (by decide) _ out.length _ _ 1 _ [.string T] rfl (hO.1.alloc _) rfl rd_one rfl (by simp [Value.oneCell']) (by unfold maxLen; omega) (by omega) ?_; intro B2 d2 w3 hrow3 hg3 hv3; rw [← HZ.out] at hrow3; obtain ⟨hO3, hK3⟩ := _root_.Go.Proofs.YtpkcjokkadfhcaaGreatDoor.W.own_after hO.2 (hK.alloc _) hg3 hv3 hrow3; clear hrow3 hg3 hv3)
          go_roundw
          case rel =>
            refine ⟨out2, k + 1, k + 1, Nat.le_refl _, by omega, by go_num, by go_num, HW2, by rw [HLn.out]; omega, ⟨B2, d2, ?_, ?_⟩, hK3⟩
            · rw [HLn.out]
            · rw [HLn.out]; exact hO3
          case measure => simp [intOf]; omega
        · have hq : ((S[k].toNat : Int) == 32) = false := by
            rw [hbt, beq_eq_false_iff_ne]
            intro e
            exact h32 (UInt8.toNat_inj.1 (by have : ((s[k].toNat : Nat) : Int) = ((32 : UInt8).toNat : Int) := e; omega))
          have HW2 : Hid (WordI s out p (k + 1)) := wordI_byte hpk hks h32 hW.out
          clear hW hbt h32 hks heq
          go_wp2
          go_roundw
          case rel => exact ⟨out, p, k + 1, by omega, by omega, rfl, by go_num, HW2, by omega, ⟨B, d, rfl, hO⟩, hK⟩
          case measure => simp [intOf]; omega
    · obtain rfl : k = S.size + 1 := by omega
      have hfin : out = splitL s := (hW.out.2 (by rw [HSZ.out])).symm
      subst hfin
      clear hW
      go_wp2
      go_ret
      obtain ⟨A, c, e, hc, _, hR, _⟩ := hO.form
      cases e
      exact ⟨_, _, rfl, hR, hc, hK⟩

end Go.Proofs.YtpkcjokkadfhcaaGreatDoor.O

namespace Go.Proofs.YtpkcjokkadfhcaaGreatDoor.O
open Go.RowKit

/-- What the document's Effect leaves: two slices that read so, and lie in new memory. -/
def REff (tl ll : List Int) (x : Bool) (w : World) (e : Ending) (w' : World) : Prop :=
  ∃ A c B d, e = .returned (.tuple #[.slice A tl.length c, .slice B ll.length d, .bool x]) ∧ (Rd w' A (ivs tl) ∧ ∀ ad, A = some ad → w.heap.size ≤ ad.block) ∧ (Rd w' B (ivs ll) ∧ ∀ ad, B = some ad → w.heap.size ≤ ad.block) ∧ Keep NoB w w'
theorem rd_ivs (l : List Int) (w : World) (T : TypeId) : Rd (w.alloc (.cells (ivs l).toArray T)) (some ⟨w.heap.size, 0, none⟩) (ivs l) := fun _ =>
  ⟨_, 0, rfl, fun j u hu => by rw [Nat.zero_add, (Blk.new w T (ivs l).toArray).cell j, ← hu]; simp⟩
section
variable {op a b : Int} {w w1 : World} {x : Bool}
theorem reff_0 (h1 : takesI op a b = []) (h2 : leavesI op a b = []) (h3 : fixedI op a b = x) (hk : Keep NoB w w1) : REff (takesI op a b) (leavesI op a b) (fixedI op a b) w (.returned (.tuple #[.slice none 0 0, .slice none 0 0, .bool x])) w1 := by
  rw [h1, h2, h3]
  exact ⟨none, 0, none, 0, rfl, ⟨Rd.none_ _ _, by simp⟩, ⟨Rd.none_ _ _, by simp⟩, hk⟩
theorem reff_l (l : List Int) (h1 : takesI op a b = []) (h2 : leavesI op a b = l) (h3 : fixedI op a b = true) (hk : Keep NoB w w1) :
    REff (takesI op a b) (leavesI op a b) (fixedI op a b) w (.returned (.tuple #[.slice none 0 0, .slice (some ⟨w1.heap.size, 0, none⟩) l.length l.length, .bool true])) (w1.alloc (.cells (ivs l).toArray 3)) := by
  rw [h1, h2, h3]
  exact ⟨none, 0, _, _, rfl, ⟨Rd.none_ _ _, by simp⟩, ⟨rd_ivs l w1 _, fun ad e => by cases e; exact hk.size⟩, hk.alloc _⟩
theorem reff_t (l : List Int) (h1 : takesI op a b = l) (h2 : leavesI op a b = []) (h3 : fixedI op a b = true) (hk : Keep NoB w w1) :
    REff (takesI op a b) (leavesI op a b) (fixedI op a b) w (.returned (.tuple #[.slice (some ⟨w1.heap.size, 0, none⟩) l.length l.length, .slice none 0 0, .bool true])) (w1.alloc (.cells (ivs l).toArray 3)) := by
  rw [h1, h2, h3]
  exact ⟨_, _, none, 0, rfl, ⟨rd_ivs l w1 _, fun ad e => by cases e; exact hk.size⟩, ⟨Rd.none_ _ _, by simp⟩, hk.alloc _⟩
theorem reff_tl (t l : List Int) (h1 : takesI op a b = t) (h2 : leavesI op a b = l) (h3 : fixedI op a b = true) (hk : Keep NoB w w1) :
    REff (takesI op a b) (leavesI op a b) (fixedI op a b) w (.returned (.tuple #[.slice (some ⟨w1.heap.size, 0, none⟩) t.length t.length, .slice (some ⟨w1.heap.size + 1, 0, none⟩) l.length l.length, .bool true])) ((w1.alloc (.cells (ivs t).toArray 3)).alloc (.cells (ivs l).toArray 3)) := by
  rw [h1, h2, h3]
  have h := rd_ivs l (w1.alloc (.cells (ivs t).toArray 3)) 3
  rw [World.size_alloc] at h
  exact ⟨_, _, _, _, rfl, ⟨(rd_ivs t w1 _).keepN ((Keep.refl NoB _).alloc _), fun ad e => by cases e; exact hk.size⟩, ⟨h, fun ad e => by cases e; exact Nat.le_succ_of_le hk.size⟩, (hk.alloc _).alloc _⟩
end
theorem fix_of {op a b : Int} (h : okI op a b = true) (x : Bool) (hx : (!(rowAt op).hop) = x) : fixedI op a b = x := by unfold fixedI; rw [h, hx]; rfl
theorem takes_of {op a b : Int} (l : List Int) (h : fixedI op a b = true) (hl : typesL (rowAt op).ta (rowAt op).tb a b = l) : takesI op a b = l := by unfold takesI; rw [if_pos h, hl]
theorem leaves_of {op a b : Int} (l : List Int) (h : fixedI op a b = true) (hl : typesL (rowAt op).la (rowAt op).lb a b = l) : leavesI op a b = l := by unfold leavesI; rw [if_pos h, hl]
theorem takes_no {op a b : Int} (h : fixedI op a b = false) : takesI op a b = [] := by unfold takesI; rw [if_neg (by rw [h]; decide)]
theorem leaves_no {op a b : Int} (h : fixedI op a b = false) : leavesI op a b = [] := by unfold leavesI; rw [if_neg (by rw [h]; decide)]

set_option maxHeartbeats 1000000 in
theorem reff_no (op a b : Int) (w : World) (ha : I64 a) (hb : I64 b) (hok : okI op a b = false) :
    Calls Tryz.prog 21 #[instV op a b] w (REff (takesI op a b) (leavesI op a b) (fixedI op a b) w) := by
  have HF : Hid (fixedI op a b = false) := by show _ = _; unfold fixedI; rw [hok]; rfl
  have HC := Lib.hid (fun w => rcheck_any op a b w ha hb)
  have hc : chk op a b = 40 := by unfold chk; rw [if_neg (by rw [hok]; decide)]
  rw [hc] at HC
  have gK := (Keep.refl NoB w).alloc (.cells #[.int .i64 op, .int .i64 a, .int .i64 b] 23)
  clear hok hc ha hb
  go_enter Tryz.func21, Tryz.ntmps21
  go_wp2_with fail
  refine (HC.out _).mono ?_
  rintro e w1 ⟨rfl, k1⟩
  go_wp2
  go_ret3
  exact reff_0 (takes_no HF.out) (leaves_no HF.out) HF.out (keepN gK k1)

set_option maxHeartbeats 1000000 in
theorem reff_0_ (a b : Int) (w : World) (HC : Hid (∀ w, Calls Tryz.prog 15 #[instV 0 a b] w fun e w' => e = .returned (.int .i64 0) ∧ Keep NoB w w')) (HF : Hid (fixedI 0 a b = true)) :
    Calls Tryz.prog 21 #[instV 0 a b] w (REff (takesI 0 a b) (leavesI 0 a b) (fixedI 0 a b) w) := by
  have bx := Blk.new w 23 #[.int .i64 0, .int .i64 a, .int .i64 b]
  have gK := (Keep.refl NoB w).alloc (.cells #[.int .i64 0, .int .i64 a, .int .i64 b] 23)
  go_enter Tryz.func21, Tryz.ntmps21
  go_wp2_with fail
  refine (HC.out _).mono ?_
  rintro e w1 ⟨rfl, k1⟩
  replace gK := keepN gK k1
  obtain ⟨x0, x1, x2⟩ := blk_inst (bx.keep k1 id)
  clear k1 bx
  go_wp2
  go_ret3
  exact reff_0 (takes_of [] HF.out rfl) (leaves_of [] HF.out rfl) HF.out gK

set_option maxHeartbeats 1000000 in
theorem reff_1_ (a b : Int) (w : World) (HC : Hid (∀ w, Calls Tryz.prog 15 #[instV 1 a b] w fun e w' => e = .returned (.int .i64 0) ∧ Keep NoB w w')) (HF : Hid (fixedI 1 a b = true)) :
    Calls Tryz.prog 21 #[instV 1 a b] w (REff (takesI 1 a b) (leavesI 1 a b) (fixedI 1 a b) w) := by
  have bx := Blk.new w 23 #[.int .i64 1, .int .i64 a, .int .i64 b]
  have gK := (Keep.refl NoB w).alloc (.cells #[.int .i64 1, .int .i64 a, .int .i64 b] 23)
  go_enter Tryz.func21, Tryz.ntmps21
  go_wp2_with fail
  refine (HC.out _).mono ?_
  rintro e w1 ⟨rfl, k1⟩
  replace gK := keepN gK k1
  obtain ⟨x0, x1, x2⟩ := blk_inst (bx.keep k1 id)
  clear k1 bx
  go_wp2
  go_ret3
  exact reff_l [1] (takes_of [] HF.out rfl) (leaves_of [1] HF.out rfl) HF.out gK

set_option maxHeartbeats 1000000 in
theorem reff_2_ (a b : Int) (w : World) (HC : Hid (∀ w, Calls Tryz.prog 15 #[instV 2 a b] w fun e w' => e = .returned (.int .i64 0) ∧ Keep NoB w w')) (HF : Hid (fixedI 2 a b = true)) :
    Calls Tryz.prog 21 #[instV 2 a b] w (REff (takesI 2 a b) (leavesI 2 a b) (fixedI 2 a b) w) := by
  have bx := Blk.new w 23 #[.int .i64 2, .int .i64 a, .int .i64 b]
  have gK := (Keep.refl NoB w).alloc (.cells #[.int .i64 2, .int .i64 a, .int .i64 b] 23)
  go_enter Tryz.func21, Tryz.ntmps21
  go_wp2_with fail
  refine (HC.out _).mono ?_
  rintro e w1 ⟨rfl, k1⟩
  replace gK := keepN gK k1
  obtain ⟨x0, x1, x2⟩ := blk_inst (bx.keep k1 id)
  clear k1 bx
  go_wp2
  go_ret3
  exact reff_l [a] (takes_of [] HF.out rfl) (leaves_of [a] HF.out rfl) HF.out gK

set_option maxHeartbeats 1000000 in
theorem reff_3_ (a b : Int) (w : World) (HC : Hid (∀ w, Calls Tryz.prog 15 #[instV 3 a b] w fun e w' => e = .returned (.int .i64 0) ∧ Keep NoB w w')) (HF : Hid (fixedI 3 a b = false)) :
    Calls Tryz.prog 21 #[instV 3 a b] w (REff (takesI 3 a b) (leavesI 3 a b) (fixedI 3 a b) w) := by
  have bx := Blk.new w 23 #[.int .i64 3, .int .i64 a, .int .i64 b]
  have gK := (Keep.refl NoB w).alloc (.cells #[.int .i64 3, .int .i64 a, .int .i64 b] 23)
  go_enter Tryz.func21, Tryz.ntmps21
  go_wp2_with fail
  refine (HC.out _).mono ?_
  rintro e w1 ⟨rfl, k1⟩
  replace gK := keepN gK k1
  obtain ⟨x0, x1, x2⟩ := blk_inst (bx.keep k1 id)
  clear k1 bx
  go_wp2
  go_ret3
  exact reff_0 (takes_no HF.out) (leaves_no HF.out) HF.out gK

set_option maxHeartbeats 1000000 in
theorem reff_4_ (a b : Int) (w : World) (HC : Hid (∀ w, Calls Tryz.prog 15 #[instV 4 a b] w fun e w' => e = .returned (.int .i64 0) ∧ Keep NoB w w')) (HF : Hid (fixedI 4 a b = false)) :
    Calls Tryz.prog 21 #[instV 4 a b] w (REff (takesI 4 a b) (leavesI 4 a b) (fixedI 4 a b) w) := by
  have bx := Blk.new w 23 #[.int .i64 4, .int .i64 a, .int .i64 b]
  have gK := (Keep.refl NoB w).alloc (.cells #[.int .i64 4, .int .i64 a, .int .i64 b] 23)
  go_enter Tryz.func21, Tryz.ntmps21
  go_wp2_with fail
  refine (HC.out _).mono ?_
  rintro e w1 ⟨rfl, k1⟩
  replace gK := keepN gK k1
  obtain ⟨x0, x1, x2⟩ := blk_inst (bx.keep k1 id)
  clear k1 bx
  go_wp2
  go_ret3
  exact reff_0 (takes_no HF.out) (leaves_no HF.out) HF.out gK

set_option maxHeartbeats 1000000 in
theorem reff_5_ (a b : Int) (w : World) (HC : Hid (∀ w, Calls Tryz.prog 15 #[instV 5 a b] w fun e w' => e = .returned (.int .i64 0) ∧ Keep NoB w w')) (HF : Hid (fixedI 5 a b = true)) :
    Calls Tryz.prog 21 #[instV 5 a b] w (REff (takesI 5 a b) (leavesI 5 a b) (fixedI 5 a b) w) := by
  have bx := Blk.new w 23 #[.int .i64 5, .int .i64 a, .int .i64 b]
  have gK := (Keep.refl NoB w).alloc (.cells #[.int .i64 5, .int .i64 a, .int .i64 b] 23)
  go_enter Tryz.func21, Tryz.ntmps21
  go_wp2_with fail
  refine (HC.out _).mono ?_
  rintro e w1 ⟨rfl, k1⟩
  replace gK := keepN gK k1
  obtain ⟨x0, x1, x2⟩ := blk_inst (bx.keep k1 id)
  clear k1 bx
  go_wp2
  go_ret3
  exact reff_l [4] (takes_of [] HF.out rfl) (leaves_of [4] HF.out rfl) HF.out gK

set_option maxHeartbeats 1000000 in
theorem reff_6_ (a b : Int) (w : World) (HC : Hid (∀ w, Calls Tryz.prog 15 #[instV 6 a b] w fun e w' => e = .returned (.int .i64 0) ∧ Keep NoB w w')) (HF : Hid (fixedI 6 a b = true)) :
    Calls Tryz.prog 21 #[instV 6 a b] w (REff (takesI 6 a b) (leavesI 6 a b) (fixedI 6 a b) w) := by
  have bx := Blk.new w 23 #[.int .i64 6, .int .i64 a, .int .i64 b]
  have gK := (Keep.refl NoB w).alloc (.cells #[.int .i64 6, .int .i64 a, .int .i64 b] 23)
  go_enter Tryz.func21, Tryz.ntmps21
  go_wp2_with fail
  refine (HC.out _).mono ?_
  rintro e w1 ⟨rfl, k1⟩
  replace gK := keepN gK k1
  obtain ⟨x0, x1, x2⟩ := blk_inst (bx.keep k1 id)
  clear k1 bx
  go_wp2
  go_ret3
  exact reff_tl [4] [1] (takes_of [4] HF.out rfl) (leaves_of [1] HF.out rfl) HF.out gK

set_option maxHeartbeats 1000000 in
theorem reff_7_ (a b : Int) (w : World) (HC : Hid (∀ w, Calls Tryz.prog 15 #[instV 7 a b] w fun e w' => e = .returned (.int .i64 0) ∧ Keep NoB w w')) (HF : Hid (fixedI 7 a b = true)) :
    Calls Tryz.prog 21 #[instV 7 a b] w (REff (takesI 7 a b) (leavesI 7 a b) (fixedI 7 a b) w) := by
  have bx := Blk.new w 23 #[.int .i64 7, .int .i64 a, .int .i64 b]
  have gK := (Keep.refl NoB w).alloc (.cells #[.int .i64 7, .int .i64 a, .int .i64 b] 23)
  go_enter Tryz.func21, Tryz.ntmps21
  go_wp2_with fail
  refine (HC.out _).mono ?_
  rintro e w1 ⟨rfl, k1⟩
  replace gK := keepN gK k1
  obtain ⟨x0, x1, x2⟩ := blk_inst (bx.keep k1 id)
  clear k1 bx
  go_wp2
  go_ret3
  exact reff_t [4, 1] (takes_of [4, 1] HF.out rfl) (leaves_of [] HF.out rfl) HF.out gK

set_option maxHeartbeats 1000000 in
theorem reff_8_ (a b : Int) (w : World) (HC : Hid (∀ w, Calls Tryz.prog 15 #[instV 8 a b] w fun e w' => e = .returned (.int .i64 0) ∧ Keep NoB w w')) (HF : Hid (fixedI 8 a b = true)) :
    Calls Tryz.prog 21 #[instV 8 a b] w (REff (takesI 8 a b) (leavesI 8 a b) (fixedI 8 a b) w) := by
  have bx := Blk.new w 23 #[.int .i64 8, .int .i64 a, .int .i64 b]
  have gK := (Keep.refl NoB w).alloc (.cells #[.int .i64 8, .int .i64 a, .int .i64 b] 23)
  go_enter Tryz.func21, Tryz.ntmps21
  go_wp2_with fail
  refine (HC.out _).mono ?_
  rintro e w1 ⟨rfl, k1⟩
  replace gK := keepN gK k1
  obtain ⟨x0, x1, x2⟩ := blk_inst (bx.keep k1 id)
  clear k1 bx
  go_wp2
  go_ret3
  exact reff_l [2] (takes_of [] HF.out rfl) (leaves_of [2] HF.out rfl) HF.out gK

set_option maxHeartbeats 1000000 in
theorem reff_9_ (a b : Int) (w : World) (HC : Hid (∀ w, Calls Tryz.prog 15 #[instV 9 a b] w fun e w' => e = .returned (.int .i64 0) ∧ Keep NoB w w')) (HF : Hid (fixedI 9 a b = true)) :
    Calls Tryz.prog 21 #[instV 9 a b] w (REff (takesI 9 a b) (leavesI 9 a b) (fixedI 9 a b) w) := by
  have bx := Blk.new w 23 #[.int .i64 9, .int .i64 a, .int .i64 b]
  have gK := (Keep.refl NoB w).alloc (.cells #[.int .i64 9, .int .i64 a, .int .i64 b] 23)
  go_enter Tryz.func21, Tryz.ntmps21
  go_wp2_with fail
  refine (HC.out _).mono ?_
  rintro e w1 ⟨rfl, k1⟩
  replace gK := keepN gK k1
  obtain ⟨x0, x1, x2⟩ := blk_inst (bx.keep k1 id)
  clear k1 bx
  go_wp2
  go_ret3
  exact reff_tl [2] [b] (takes_of [2] HF.out rfl) (leaves_of [b] HF.out rfl) HF.out gK

set_option maxHeartbeats 1000000 in
theorem reff_10_ (a b : Int) (w : World) (HC : Hid (∀ w, Calls Tryz.prog 15 #[instV 10 a b] w fun e w' => e = .returned (.int .i64 0) ∧ Keep NoB w w')) (HF : Hid (fixedI 10 a b = true)) :
    Calls Tryz.prog 21 #[instV 10 a b] w (REff (takesI 10 a b) (leavesI 10 a b) (fixedI 10 a b) w) := by
  have bx := Blk.new w 23 #[.int .i64 10, .int .i64 a, .int .i64 b]
  have gK := (Keep.refl NoB w).alloc (.cells #[.int .i64 10, .int .i64 a, .int .i64 b] 23)
  go_enter Tryz.func21, Tryz.ntmps21
  go_wp2_with fail
  refine (HC.out _).mono ?_
  rintro e w1 ⟨rfl, k1⟩
  replace gK := keepN gK k1
  obtain ⟨x0, x1, x2⟩ := blk_inst (bx.keep k1 id)
  clear k1 bx
  go_wp2
  go_ret3
  exact reff_t [2, b] (takes_of [2, b] HF.out rfl) (leaves_of [] HF.out rfl) HF.out gK

set_option maxHeartbeats 1000000 in
theorem reff_11_ (a b : Int) (w : World) (HC : Hid (∀ w, Calls Tryz.prog 15 #[instV 11 a b] w fun e w' => e = .returned (.int .i64 0) ∧ Keep NoB w w')) (HF : Hid (fixedI 11 a b = true)) :
    Calls Tryz.prog 21 #[instV 11 a b] w (REff (takesI 11 a b) (leavesI 11 a b) (fixedI 11 a b) w) := by
  have bx := Blk.new w 23 #[.int .i64 11, .int .i64 a, .int .i64 b]
  have gK := (Keep.refl NoB w).alloc (.cells #[.int .i64 11, .int .i64 a, .int .i64 b] 23)
  go_enter Tryz.func21, Tryz.ntmps21
  go_wp2_with fail
  refine (HC.out _).mono ?_
  rintro e w1 ⟨rfl, k1⟩
  replace gK := keepN gK k1
  obtain ⟨x0, x1, x2⟩ := blk_inst (bx.keep k1 id)
  clear k1 bx
  go_wp2
  go_ret3
  exact reff_l [3] (takes_of [] HF.out rfl) (leaves_of [3] HF.out rfl) HF.out gK

set_option maxHeartbeats 1000000 in
theorem reff_12_ (a b : Int) (w : World) (HC : Hid (∀ w, Calls Tryz.prog 15 #[instV 12 a b] w fun e w' => e = .returned (.int .i64 0) ∧ Keep NoB w w')) (HF : Hid (fixedI 12 a b = false)) :
    Calls Tryz.prog 21 #[instV 12 a b] w (REff (takesI 12 a b) (leavesI 12 a b) (fixedI 12 a b) w) := by
  have bx := Blk.new w 23 #[.int .i64 12, .int .i64 a, .int .i64 b]
  have gK := (Keep.refl NoB w).alloc (.cells #[.int .i64 12, .int .i64 a, .int .i64 b] 23)
  go_enter Tryz.func21, Tryz.ntmps21
  go_wp2_with fail
  refine (HC.out _).mono ?_
  rintro e w1 ⟨rfl, k1⟩
  replace gK := keepN gK k1
  obtain ⟨x0, x1, x2⟩ := blk_inst (bx.keep k1 id)
  clear k1 bx
  go_wp2
  go_ret3
  exact reff_0 (takes_no HF.out) (leaves_no HF.out) HF.out gK

set_option maxHeartbeats 1000000 in
theorem reff_13_ (a b : Int) (w : World) (HC : Hid (∀ w, Calls Tryz.prog 15 #[instV 13 a b] w fun e w' => e = .returned (.int .i64 0) ∧ Keep NoB w w')) (HF : Hid (fixedI 13 a b = false)) :
    Calls Tryz.prog 21 #[instV 13 a b] w (REff (takesI 13 a b) (leavesI 13 a b) (fixedI 13 a b) w) := by
  have bx := Blk.new w 23 #[.int .i64 13, .int .i64 a, .int .i64 b]
  have gK := (Keep.refl NoB w).alloc (.cells #[.int .i64 13, .int .i64 a, .int .i64 b] 23)
  go_enter Tryz.func21, Tryz.ntmps21
  go_wp2_with fail
  refine (HC.out _).mono ?_
  rintro e w1 ⟨rfl, k1⟩
  replace gK := keepN gK k1
  obtain ⟨x0, x1, x2⟩ := blk_inst (bx.keep k1 id)
  clear k1 bx
  go_wp2
  go_ret3
  exact reff_0 (takes_no HF.out) (leaves_no HF.out) HF.out gK

set_option maxHeartbeats 1000000 in
theorem reff_14_ (a b : Int) (w : World) (HC : Hid (∀ w, Calls Tryz.prog 15 #[instV 14 a b] w fun e w' => e = .returned (.int .i64 0) ∧ Keep NoB w w')) (HF : Hid (fixedI 14 a b = false)) :
    Calls Tryz.prog 21 #[instV 14 a b] w (REff (takesI 14 a b) (leavesI 14 a b) (fixedI 14 a b) w) := by
  have bx := Blk.new w 23 #[.int .i64 14, .int .i64 a, .int .i64 b]
  have gK := (Keep.refl NoB w).alloc (.cells #[.int .i64 14, .int .i64 a, .int .i64 b] 23)
  go_enter Tryz.func21, Tryz.ntmps21
  go_wp2_with fail
  refine (HC.out _).mono ?_
  rintro e w1 ⟨rfl, k1⟩
  replace gK := keepN gK k1
  obtain ⟨x0, x1, x2⟩ := blk_inst (bx.keep k1 id)
  clear k1 bx
  go_wp2
  go_ret3
  exact reff_0 (takes_no HF.out) (leaves_no HF.out) HF.out gK

set_option maxHeartbeats 1000000 in
theorem reff_15_ (a b : Int) (w : World) (HC : Hid (∀ w, Calls Tryz.prog 15 #[instV 15 a b] w fun e w' => e = .returned (.int .i64 0) ∧ Keep NoB w w')) (HF : Hid (fixedI 15 a b = true)) :
    Calls Tryz.prog 21 #[instV 15 a b] w (REff (takesI 15 a b) (leavesI 15 a b) (fixedI 15 a b) w) := by
  have bx := Blk.new w 23 #[.int .i64 15, .int .i64 a, .int .i64 b]
  have gK := (Keep.refl NoB w).alloc (.cells #[.int .i64 15, .int .i64 a, .int .i64 b] 23)
  go_enter Tryz.func21, Tryz.ntmps21
  go_wp2_with fail
  refine (HC.out _).mono ?_
  rintro e w1 ⟨rfl, k1⟩
  replace gK := keepN gK k1
  obtain ⟨x0, x1, x2⟩ := blk_inst (bx.keep k1 id)
  clear k1 bx
  go_wp2
  go_ret3
  exact reff_tl [1, 1] [1] (takes_of [1, 1] HF.out rfl) (leaves_of [1] HF.out rfl) HF.out gK

set_option maxHeartbeats 1000000 in
theorem reff_16_ (a b : Int) (w : World) (HC : Hid (∀ w, Calls Tryz.prog 15 #[instV 16 a b] w fun e w' => e = .returned (.int .i64 0) ∧ Keep NoB w w')) (HF : Hid (fixedI 16 a b = true)) :
    Calls Tryz.prog 21 #[instV 16 a b] w (REff (takesI 16 a b) (leavesI 16 a b) (fixedI 16 a b) w) := by
  have bx := Blk.new w 23 #[.int .i64 16, .int .i64 a, .int .i64 b]
  have gK := (Keep.refl NoB w).alloc (.cells #[.int .i64 16, .int .i64 a, .int .i64 b] 23)
  go_enter Tryz.func21, Tryz.ntmps21
  go_wp2_with fail
  refine (HC.out _).mono ?_
  rintro e w1 ⟨rfl, k1⟩
  replace gK := keepN gK k1
  obtain ⟨x0, x1, x2⟩ := blk_inst (bx.keep k1 id)
  clear k1 bx
  go_wp2
  go_ret3
  exact reff_tl [1] [1] (takes_of [1] HF.out rfl) (leaves_of [1] HF.out rfl) HF.out gK

set_option maxHeartbeats 1000000 in
theorem reff_17_ (a b : Int) (w : World) (HC : Hid (∀ w, Calls Tryz.prog 15 #[instV 17 a b] w fun e w' => e = .returned (.int .i64 0) ∧ Keep NoB w w')) (HF : Hid (fixedI 17 a b = true)) :
    Calls Tryz.prog 21 #[instV 17 a b] w (REff (takesI 17 a b) (leavesI 17 a b) (fixedI 17 a b) w) := by
  have bx := Blk.new w 23 #[.int .i64 17, .int .i64 a, .int .i64 b]
  have gK := (Keep.refl NoB w).alloc (.cells #[.int .i64 17, .int .i64 a, .int .i64 b] 23)
  go_enter Tryz.func21, Tryz.ntmps21
  go_wp2_with fail
  refine (HC.out _).mono ?_
  rintro e w1 ⟨rfl, k1⟩
  replace gK := keepN gK k1
  obtain ⟨x0, x1, x2⟩ := blk_inst (bx.keep k1 id)
  clear k1 bx
  go_wp2
  go_ret3
  exact reff_tl [a, a] [1] (takes_of [a, a] HF.out rfl) (leaves_of [1] HF.out rfl) HF.out gK

set_option maxHeartbeats 1000000 in
theorem reff_18_ (a b : Int) (w : World) (HC : Hid (∀ w, Calls Tryz.prog 15 #[instV 18 a b] w fun e w' => e = .returned (.int .i64 0) ∧ Keep NoB w w')) (HF : Hid (fixedI 18 a b = true)) :
    Calls Tryz.prog 21 #[instV 18 a b] w (REff (takesI 18 a b) (leavesI 18 a b) (fixedI 18 a b) w) := by
  have bx := Blk.new w 23 #[.int .i64 18, .int .i64 a, .int .i64 b]
  have gK := (Keep.refl NoB w).alloc (.cells #[.int .i64 18, .int .i64 a, .int .i64 b] 23)
  go_enter Tryz.func21, Tryz.ntmps21
  go_wp2_with fail
  refine (HC.out _).mono ?_
  rintro e w1 ⟨rfl, k1⟩
  replace gK := keepN gK k1
  obtain ⟨x0, x1, x2⟩ := blk_inst (bx.keep k1 id)
  clear k1 bx
  go_wp2
  go_ret3
  exact reff_0 (takes_of [] HF.out rfl) (leaves_of [] HF.out rfl) HF.out gK

set_option maxHeartbeats 1000000 in
theorem reff_19_ (a b : Int) (w : World) (HC : Hid (∀ w, Calls Tryz.prog 15 #[instV 19 a b] w fun e w' => e = .returned (.int .i64 0) ∧ Keep NoB w w')) (HF : Hid (fixedI 19 a b = true)) :
    Calls Tryz.prog 21 #[instV 19 a b] w (REff (takesI 19 a b) (leavesI 19 a b) (fixedI 19 a b) w) := by
  have bx := Blk.new w 23 #[.int .i64 19, .int .i64 a, .int .i64 b]
  have gK := (Keep.refl NoB w).alloc (.cells #[.int .i64 19, .int .i64 a, .int .i64 b] 23)
  go_enter Tryz.func21, Tryz.ntmps21
  go_wp2_with fail
  refine (HC.out _).mono ?_
  rintro e w1 ⟨rfl, k1⟩
  replace gK := keepN gK k1
  obtain ⟨x0, x1, x2⟩ := blk_inst (bx.keep k1 id)
  clear k1 bx
  go_wp2
  go_ret3
  exact reff_t [1] (takes_of [1] HF.out rfl) (leaves_of [] HF.out rfl) HF.out gK

set_option maxHeartbeats 1000000 in
theorem reff_20_ (a b : Int) (w : World) (HC : Hid (∀ w, Calls Tryz.prog 15 #[instV 20 a b] w fun e w' => e = .returned (.int .i64 0) ∧ Keep NoB w w')) (HF : Hid (fixedI 20 a b = false)) :
    Calls Tryz.prog 21 #[instV 20 a b] w (REff (takesI 20 a b) (leavesI 20 a b) (fixedI 20 a b) w) := by
  have bx := Blk.new w 23 #[.int .i64 20, .int .i64 a, .int .i64 b]
  have gK := (Keep.refl NoB w).alloc (.cells #[.int .i64 20, .int .i64 a, .int .i64 b] 23)
  go_enter Tryz.func21, Tryz.ntmps21
  go_wp2_with fail
  refine (HC.out _).mono ?_
  rintro e w1 ⟨rfl, k1⟩
  replace gK := keepN gK k1
  obtain ⟨x0, x1, x2⟩ := blk_inst (bx.keep k1 id)
  clear k1 bx
  go_wp2
  go_ret3
  exact reff_0 (takes_no HF.out) (leaves_no HF.out) HF.out gK

set_option maxHeartbeats 1000000 in
theorem reff_21_ (a b : Int) (w : World) (HC : Hid (∀ w, Calls Tryz.prog 15 #[instV 21 a b] w fun e w' => e = .returned (.int .i64 0) ∧ Keep NoB w w')) (HF : Hid (fixedI 21 a b = false)) :
    Calls Tryz.prog 21 #[instV 21 a b] w (REff (takesI 21 a b) (leavesI 21 a b) (fixedI 21 a b) w) := by
  have bx := Blk.new w 23 #[.int .i64 21, .int .i64 a, .int .i64 b]
  have gK := (Keep.refl NoB w).alloc (.cells #[.int .i64 21, .int .i64 a, .int .i64 b] 23)
  go_enter Tryz.func21, Tryz.ntmps21
  go_wp2_with fail
  refine (HC.out _).mono ?_
  rintro e w1 ⟨rfl, k1⟩
  replace gK := keepN gK k1
  obtain ⟨x0, x1, x2⟩ := blk_inst (bx.keep k1 id)
  clear k1 bx
  go_wp2
  go_ret3
  exact reff_0 (takes_no HF.out) (leaves_no HF.out) HF.out gK

set_option maxHeartbeats 1000000 in
theorem reff_22_ (a b : Int) (w : World) (HC : Hid (∀ w, Calls Tryz.prog 15 #[instV 22 a b] w fun e w' => e = .returned (.int .i64 0) ∧ Keep NoB w w')) (HF : Hid (fixedI 22 a b = false)) :
    Calls Tryz.prog 21 #[instV 22 a b] w (REff (takesI 22 a b) (leavesI 22 a b) (fixedI 22 a b) w) := by
  have bx := Blk.new w 23 #[.int .i64 22, .int .i64 a, .int .i64 b]
  have gK := (Keep.refl NoB w).alloc (.cells #[.int .i64 22, .int .i64 a, .int .i64 b] 23)
  go_enter Tryz.func21, Tryz.ntmps21
  go_wp2_with fail
  refine (HC.out _).mono ?_
  rintro e w1 ⟨rfl, k1⟩
  replace gK := keepN gK k1
  obtain ⟨x0, x1, x2⟩ := blk_inst (bx.keep k1 id)
  clear k1 bx
  go_wp2
  go_ret3
  exact reff_0 (takes_no HF.out) (leaves_no HF.out) HF.out gK

set_option maxHeartbeats 1000000 in
theorem reff_23_ (a b : Int) (w : World) (HC : Hid (∀ w, Calls Tryz.prog 15 #[instV 23 a b] w fun e w' => e = .returned (.int .i64 0) ∧ Keep NoB w w')) (HF : Hid (fixedI 23 a b = false)) :
    Calls Tryz.prog 21 #[instV 23 a b] w (REff (takesI 23 a b) (leavesI 23 a b) (fixedI 23 a b) w) := by
  have bx := Blk.new w 23 #[.int .i64 23, .int .i64 a, .int .i64 b]
  have gK := (Keep.refl NoB w).alloc (.cells #[.int .i64 23, .int .i64 a, .int .i64 b] 23)
  go_enter Tryz.func21, Tryz.ntmps21
  go_wp2_with fail
  refine (HC.out _).mono ?_
  rintro e w1 ⟨rfl, k1⟩
  replace gK := keepN gK k1
  obtain ⟨x0, x1, x2⟩ := blk_inst (bx.keep k1 id)
  clear k1 bx
  go_wp2
  go_ret3
  exact reff_0 (takes_no HF.out) (leaves_no HF.out) HF.out gK

set_option maxHeartbeats 1000000 in
theorem reff_24_ (a b : Int) (w : World) (HC : Hid (∀ w, Calls Tryz.prog 15 #[instV 24 a b] w fun e w' => e = .returned (.int .i64 0) ∧ Keep NoB w w')) (HF : Hid (fixedI 24 a b = true)) :
    Calls Tryz.prog 21 #[instV 24 a b] w (REff (takesI 24 a b) (leavesI 24 a b) (fixedI 24 a b) w) := by
  have bx := Blk.new w 23 #[.int .i64 24, .int .i64 a, .int .i64 b]
  have gK := (Keep.refl NoB w).alloc (.cells #[.int .i64 24, .int .i64 a, .int .i64 b] 23)
  go_enter Tryz.func21, Tryz.ntmps21
  go_wp2_with fail
  refine (HC.out _).mono ?_
  rintro e w1 ⟨rfl, k1⟩
  replace gK := keepN gK k1
  obtain ⟨x0, x1, x2⟩ := blk_inst (bx.keep k1 id)
  clear k1 bx
  go_wp2
  go_ret3
  exact reff_0 (takes_of [] HF.out rfl) (leaves_of [] HF.out rfl) HF.out gK

set_option maxHeartbeats 1000000 in
theorem reff_25_ (a b : Int) (w : World) (HC : Hid (∀ w, Calls Tryz.prog 15 #[instV 25 a b] w fun e w' => e = .returned (.int .i64 0) ∧ Keep NoB w w')) (HF : Hid (fixedI 25 a b = true)) :
    Calls Tryz.prog 21 #[instV 25 a b] w (REff (takesI 25 a b) (leavesI 25 a b) (fixedI 25 a b) w) := by
  have bx := Blk.new w 23 #[.int .i64 25, .int .i64 a, .int .i64 b]
  have gK := (Keep.refl NoB w).alloc (.cells #[.int .i64 25, .int .i64 a, .int .i64 b] 23)
  go_enter Tryz.func21, Tryz.ntmps21
  go_wp2_with fail
  refine (HC.out _).mono ?_
  rintro e w1 ⟨rfl, k1⟩
  replace gK := keepN gK k1
  obtain ⟨x0, x1, x2⟩ := blk_inst (bx.keep k1 id)
  clear k1 bx
  go_wp2
  go_ret3
  exact reff_t [1] (takes_of [1] HF.out rfl) (leaves_of [] HF.out rfl) HF.out gK

set_option maxHeartbeats 1000000 in
theorem reff_26_ (a b : Int) (w : World) (HC : Hid (∀ w, Calls Tryz.prog 15 #[instV 26 a b] w fun e w' => e = .returned (.int .i64 0) ∧ Keep NoB w w')) (HF : Hid (fixedI 26 a b = true)) :
    Calls Tryz.prog 21 #[instV 26 a b] w (REff (takesI 26 a b) (leavesI 26 a b) (fixedI 26 a b) w) := by
  have bx := Blk.new w 23 #[.int .i64 26, .int .i64 a, .int .i64 b]
  have gK := (Keep.refl NoB w).alloc (.cells #[.int .i64 26, .int .i64 a, .int .i64 b] 23)
  go_enter Tryz.func21, Tryz.ntmps21
  go_wp2_with fail
  refine (HC.out _).mono ?_
  rintro e w1 ⟨rfl, k1⟩
  replace gK := keepN gK k1
  obtain ⟨x0, x1, x2⟩ := blk_inst (bx.keep k1 id)
  clear k1 bx
  go_wp2
  go_ret3
  exact reff_l [1, 1] (takes_of [] HF.out rfl) (leaves_of [1, 1] HF.out rfl) HF.out gK

set_option maxHeartbeats 1000000 in
theorem reff_27_ (a b : Int) (w : World) (HC : Hid (∀ w, Calls Tryz.prog 15 #[instV 27 a b] w fun e w' => e = .returned (.int .i64 0) ∧ Keep NoB w w')) (HF : Hid (fixedI 27 a b = true)) :
    Calls Tryz.prog 21 #[instV 27 a b] w (REff (takesI 27 a b) (leavesI 27 a b) (fixedI 27 a b) w) := by
  have bx := Blk.new w 23 #[.int .i64 27, .int .i64 a, .int .i64 b]
  have gK := (Keep.refl NoB w).alloc (.cells #[.int .i64 27, .int .i64 a, .int .i64 b] 23)
  go_enter Tryz.func21, Tryz.ntmps21
  go_wp2_with fail
  refine (HC.out _).mono ?_
  rintro e w1 ⟨rfl, k1⟩
  replace gK := keepN gK k1
  obtain ⟨x0, x1, x2⟩ := blk_inst (bx.keep k1 id)
  clear k1 bx
  go_wp2
  go_ret3
  exact reff_0 (takes_of [] HF.out rfl) (leaves_of [] HF.out rfl) HF.out gK

set_option maxHeartbeats 1000000 in
theorem reff_28_ (a b : Int) (w : World) (HC : Hid (∀ w, Calls Tryz.prog 15 #[instV 28 a b] w fun e w' => e = .returned (.int .i64 0) ∧ Keep NoB w w')) (HF : Hid (fixedI 28 a b = true)) :
    Calls Tryz.prog 21 #[instV 28 a b] w (REff (takesI 28 a b) (leavesI 28 a b) (fixedI 28 a b) w) := by
  have bx := Blk.new w 23 #[.int .i64 28, .int .i64 a, .int .i64 b]
  have gK := (Keep.refl NoB w).alloc (.cells #[.int .i64 28, .int .i64 a, .int .i64 b] 23)
  go_enter Tryz.func21, Tryz.ntmps21
  go_wp2_with fail
  refine (HC.out _).mono ?_
  rintro e w1 ⟨rfl, k1⟩
  replace gK := keepN gK k1
  obtain ⟨x0, x1, x2⟩ := blk_inst (bx.keep k1 id)
  clear k1 bx
  go_wp2
  go_ret3
  exact reff_t [1] (takes_of [1] HF.out rfl) (leaves_of [] HF.out rfl) HF.out gK

set_option maxHeartbeats 1000000 in
theorem reff_29_ (a b : Int) (w : World) (HC : Hid (∀ w, Calls Tryz.prog 15 #[instV 29 a b] w fun e w' => e = .returned (.int .i64 0) ∧ Keep NoB w w')) (HF : Hid (fixedI 29 a b = true)) :
    Calls Tryz.prog 21 #[instV 29 a b] w (REff (takesI 29 a b) (leavesI 29 a b) (fixedI 29 a b) w) := by
  have bx := Blk.new w 23 #[.int .i64 29, .int .i64 a, .int .i64 b]
  have gK := (Keep.refl NoB w).alloc (.cells #[.int .i64 29, .int .i64 a, .int .i64 b] 23)
  go_enter Tryz.func21, Tryz.ntmps21
  go_wp2_with fail
  refine (HC.out _).mono ?_
  rintro e w1 ⟨rfl, k1⟩
  replace gK := keepN gK k1
  obtain ⟨x0, x1, x2⟩ := blk_inst (bx.keep k1 id)
  clear k1 bx
  go_wp2
  go_ret3
  exact reff_l [1, 1] (takes_of [] HF.out rfl) (leaves_of [1, 1] HF.out rfl) HF.out gK

theorem reffect_any (op a b : Int) (w : World) (ha : I64 a) (hb : I64 b) : Calls Tryz.prog 21 #[instV op a b] w (REff (takesI op a b) (leavesI op a b) (fixedI op a b) w) := by
  cases hok : okI op a b
  · exact reff_no op a b w ha hb hok
  · have HC := Lib.hid (fun w => rcheck_any op a b w ha hb)
    have hc : chk op a b = 0 := by unfold chk; rw [if_pos hok]
    rw [hc] at HC
    have hop := isOp_yes (ok_op hok).1
    have hcs : op = 0 ∨ op = 1 ∨ op = 2 ∨ op = 3 ∨ op = 4 ∨ op = 5 ∨ op = 6 ∨ op = 7 ∨ op = 8 ∨ op = 9 ∨ op = 10 ∨ op = 11 ∨ op = 12 ∨ op = 13 ∨ op = 14 ∨ op = 15 ∨ op = 16 ∨ op = 17 ∨ op = 18 ∨ op = 19 ∨ op = 20 ∨ op = 21 ∨ op = 22 ∨ op = 23 ∨ op = 24 ∨ op = 25 ∨ op = 26 ∨ op = 27 ∨ op = 28 ∨ op = 29 := by omega
    have hf := fun x => fix_of hok x
    clear hc hok hop
    rcases hcs with rfl | rfl | rfl | rfl | rfl | rfl | rfl | rfl | rfl | rfl | rfl | rfl | rfl | rfl | rfl | rfl | rfl | rfl | rfl | rfl | rfl | rfl | rfl | rfl | rfl | rfl | rfl | rfl | rfl | rfl
    · exact reff_0_ a b w HC (hf _ rfl)
    · exact reff_1_ a b w HC (hf _ rfl)
    · exact reff_2_ a b w HC (hf _ rfl)
    · exact reff_3_ a b w HC (hf _ rfl)
    · exact reff_4_ a b w HC (hf _ rfl)
    · exact reff_5_ a b w HC (hf _ rfl)
    · exact reff_6_ a b w HC (hf _ rfl)
    · exact reff_7_ a b w HC (hf _ rfl)
    · exact reff_8_ a b w HC (hf _ rfl)
    · exact reff_9_ a b w HC (hf _ rfl)
    · exact reff_10_ a b w HC (hf _ rfl)
    · exact reff_11_ a b w HC (hf _ rfl)
    · exact reff_12_ a b w HC (hf _ rfl)
    · exact reff_13_ a b w HC (hf _ rfl)
    · exact reff_14_ a b w HC (hf _ rfl)
    · exact reff_15_ a b w HC (hf _ rfl)
    · exact reff_16_ a b w HC (hf _ rfl)
    · exact reff_17_ a b w HC (hf _ rfl)
    · exact reff_18_ a b w HC (hf _ rfl)
    · exact reff_19_ a b w HC (hf _ rfl)
    · exact reff_20_ a b w HC (hf _ rfl)
    · exact reff_21_ a b w HC (hf _ rfl)
    · exact reff_22_ a b w HC (hf _ rfl)
    · exact reff_23_ a b w HC (hf _ rfl)
    · exact reff_24_ a b w HC (hf _ rfl)
    · exact reff_25_ a b w HC (hf _ rfl)
    · exact reff_26_ a b w HC (hf _ rfl)
    · exact reff_27_ a b w HC (hf _ rfl)
    · exact reff_28_ a b w HC (hf _ rfl)
    · exact reff_29_ a b w HC (hf _ rfl)

end Go.Proofs.YtpkcjokkadfhcaaGreatDoor.O
