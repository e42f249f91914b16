/-
  What the document's Read answers: the instruction whose text it is, if there is one. Conditions: the text is not too long.
-/
import Derived.Test.YtpkcjokkadfhcaaGreatDoorQ14
import Derived.Test.YtpkcjokkadfhcaaGreatDoorQ10
namespace Go.Proofs.YtpkcjokkadfhcaaGreatDoor.O
open Go.RowKit

theorem consH_mem {c : List UInt8} {l : List (List UInt8)} {x : List UInt8} (h : x ∈ consH c l) : x = c ∨ x ∈ l ∨ ∃ y ∈ l, x = c ++ y := by
  cases l with
  | nil => simp [consH] at h; exact .inl h
  | cons w ws =>
    simp [consH] at h
    rcases h with h | h
    · exact .inr (.inr ⟨w, by simp, h⟩)
    · exact .inr (.inl (by simp [h]))
theorem splitL_mem : ∀ (s : List UInt8) (x : List UInt8), x ∈ splitL s → x.length ≤ s.length
  | [], x, h => by simp [splitL] at h; subst h; simp
  | c :: r, x, h => by
    by_cases h32 : c = 32
    · subst h32
      rw [splitL_blank] at h
      rcases List.mem_cons.1 h with h | h
      · subst h; simp
      · have := splitL_mem r x h; simp; omega
    · rw [splitL_byte h32] at h
      rcases consH_mem h with h | h | ⟨y, hy, h⟩
      · subst h; simp
      · have := splitL_mem r x h; simp; omega
      · have := splitL_mem r y hy; subst h; simp; omega
theorem splitL_get (s : List UInt8) (j : Nat) : ((splitL s).getD j []).length ≤ s.length := by
  rcases Nat.lt_or_ge j (splitL s).length with h | h
  · rw [List.getD_eq_getElem?_getD, List.getElem?_eq_getElem h]; exact splitL_mem s _ (List.getElem_mem h)
  · rw [List.getD_eq_getElem?_getD, List.getElem?_eq_none h]; simp
theorem sv_get {l : List (List UInt8)} {j : Nat} (h : j < l.length) : (sv l)[j]? = some (.string (str (l.getD j []))) := by
  simp [sv, h]
theorem splitL_pos (s : List UInt8) : 0 < (splitL s).length := List.length_pos_iff.2 (splitL_ne s)

set_option maxRecDepth 100000 in
set_option maxHeartbeats 4000000 in
theorem rd_00h (S : ByteArray) (s s0 s1 s2 : List UInt8) (n : Nat) (cs : List Value) (op ka kb A B : Int) (w : World)
    (HWd : Hid (∀ w, Calls Tryz.prog 58 #[.string S] w fun e w' => ∃ A c, e = .returned (.slice A n c) ∧ Rd w' A cs ∧ n ≤ c ∧ Keep NoB w w')) (hn0 : 0 < n)
    (hcs : Hid (cs.length = n ∧ cs[0]? = some (.string (str s0)) ∧ (1 < n → cs[1]? = some (.string (str s1))) ∧ (2 < n → cs[2]? = some (.string (str s2)))))
    (HO : Hid (∀ w, Calls Tryz.prog 17 #[.string (str s0)] w fun e w' => e = .returned (.tuple #[.int .i64 op, .int .i64 0]) ∧ Keep NoB w w'))
    (HKn : Hid (∀ w, Calls Tryz.prog 19 #[.int .i64 op] w fun e w' => e = .returned (.tuple #[.int .i64 ka, .int .i64 kb]) ∧ w = w'))
    (_HN1 : Hid (∀ k w, Calls Tryz.prog 59 #[.int .i64 k, .string (str s1)] w fun e w' => e = .returned (.int .i64 (rgK k s1)) ∧ Keep NoB w w'))
    (_HN2 : Hid (∀ k w, Calls Tryz.prog 59 #[.int .i64 k, .string (str s2)] w fun e w' => e = .returned (.int .i64 (rgK k s2)) ∧ Keep NoB w w'))
    (T : ByteArray) (HS : Hid (∀ w, Calls Tryz.prog 32 #[instV op A B] w fun e w' => e = .returned (.string T) ∧ Keep NoB w w'))
    (hq : (T.toList == S.toList) = true) (hA : Hid (A = 0)) (hB : Hid (B = 0)) (hka : decide (0 < ka) = false) (hkb : decide (0 < kb) = false) (v : Value) (hv : Hid (v = .tuple #[instV op A B, .int .i64 0])) (HR : Hid (ReadV s v)) :
    Calls Tryz.prog 25 #[.string S] w fun e w' => ∃ v, e = .returned v ∧ ReadV s v ∧ Keep NoB w w' := by
  have gK := (Keep.refl NoB w).alloc (.cells #[.int .i64 0, .int .i64 0, .int .i64 0] 23)
  have bo := Blk.new w 23 #[.int .i64 0, .int .i64 0, .int .i64 0]
  go_enter Tryz.func25, Tryz.ntmps25
  go_wp2_with fail
  refine (HWd.out _).mono ?_
  rintro e w1 ⟨Ad, c, rfl, HQ, hc, k1⟩
  replace gK := keepN gK k1
  replace bo := bo.keep k1 id
  clear k1
  obtain ⟨g, off, rfl, HQ2⟩ := HQ (by rw [hcs.out.1]; exact hn0)
  clear HQ
  have c0 : w1.cell? ⟨g, off, none⟩ = some (.string (str s0)) := HQ2 0 _ hcs.out.2.1
  clear HQ2
  go_wp2_with fail
  refine (HO.out _).mono ?_
  rintro e w2 ⟨rfl, k1⟩
  have hbx := (bo.keep k1 id).lt
  have hg := Nat.lt_of_lt_of_le (World.block_lt_of_cell? w1 _ c0) k1.size
  replace k1 := k1.alloc (.cells #[.int .i64 op, .int .i64 0, .int .i64 0] 23)
  replace gK := keepN gK k1
  replace bo := bo.keep k1 id
  have bx := Blk.new w2 23 #[.int .i64 op, .int .i64 0, .int .i64 0]
  clear k1 c0
  go_wp2_with fail
  refine (HKn.out _).mono ?_
  rintro e w3 ⟨rfl, rfl⟩
  have hz := bx.lt
  have fx := fun i => bx.frozen i
  obtain ⟨x0, x1, x2⟩ := blk_inst bx
  have HS : Hid (∀ w, Calls Tryz.prog 32 #[instV op 0 0] w fun e w' => e = .returned (.string T) ∧ Keep NoB w w') := by have h := HS.out; rw [hA.out, hB.out] at h; exact h
  go_wp2_with fail
  refine (HS.out _).mono ?_
  rintro e w6 ⟨rfl, k1⟩
  clear hz fx x0 x1 x2
  replace bx := bx.keep k1 id
  replace bo := bo.keep k1 id
  replace gK := keepN gK k1
  clear k1
  obtain ⟨x0, x1, x2⟩ := blk_inst bx
  have hz := bo.lt
  have fo := fun i => bo.frozen i
  obtain ⟨o0, o1, o2⟩ := blk_inst bo
  go_wp2
  refine bodyPost_ret (v := .tuple #[instV op 0 0, .int .i64 0]) (by simp [results, Tryz.results25, go_sem, o0, o1, o2]) rfl ⟨_, rfl, ?_, out3N gK (Nat.le_refl _) _ _ _⟩
  have hr := HR.out
  rw [hv.out] at hr
  rw [hA.out, hB.out] at hr
  exact hr

set_option maxRecDepth 100000 in
set_option maxHeartbeats 4000000 in
theorem rd_00m (S : ByteArray) (s s0 s1 s2 : List UInt8) (n : Nat) (cs : List Value) (op ka kb A B : Int) (w : World)
    (HWd : Hid (∀ w, Calls Tryz.prog 58 #[.string S] w fun e w' => ∃ A c, e = .returned (.slice A n c) ∧ Rd w' A cs ∧ n ≤ c ∧ Keep NoB w w')) (hn0 : 0 < n)
    (hcs : Hid (cs.length = n ∧ cs[0]? = some (.string (str s0)) ∧ (1 < n → cs[1]? = some (.string (str s1))) ∧ (2 < n → cs[2]? = some (.string (str s2)))))
    (HO : Hid (∀ w, Calls Tryz.prog 17 #[.string (str s0)] w fun e w' => e = .returned (.tuple #[.int .i64 op, .int .i64 0]) ∧ Keep NoB w w'))
    (HKn : Hid (∀ w, Calls Tryz.prog 19 #[.int .i64 op] w fun e w' => e = .returned (.tuple #[.int .i64 ka, .int .i64 kb]) ∧ w = w'))
    (_HN1 : Hid (∀ k w, Calls Tryz.prog 59 #[.int .i64 k, .string (str s1)] w fun e w' => e = .returned (.int .i64 (rgK k s1)) ∧ Keep NoB w w'))
    (_HN2 : Hid (∀ k w, Calls Tryz.prog 59 #[.int .i64 k, .string (str s2)] w fun e w' => e = .returned (.int .i64 (rgK k s2)) ∧ Keep NoB w w'))
    (T : ByteArray) (HS : Hid (∀ w, Calls Tryz.prog 32 #[instV op A B] w fun e w' => e = .returned (.string T) ∧ Keep NoB w w'))
    (hq : (T.toList == S.toList) = false) (hA : Hid (A = 0)) (hB : Hid (B = 0)) (hka : decide (0 < ka) = false) (hkb : decide (0 < kb) = false) (v : Value) (hv : Hid (v = .tuple #[instV 0 0 0, .int .i64 40])) (HR : Hid (ReadV s v)) :
    Calls Tryz.prog 25 #[.string S] w fun e w' => ∃ v, e = .returned v ∧ ReadV s v ∧ Keep NoB w w' := by
  have gK := (Keep.refl NoB w).alloc (.cells #[.int .i64 0, .int .i64 0, .int .i64 0] 23)
  have bo := Blk.new w 23 #[.int .i64 0, .int .i64 0, .int .i64 0]
  go_enter Tryz.func25, Tryz.ntmps25
  go_wp2_with fail
  refine (HWd.out _).mono ?_
  rintro e w1 ⟨Ad, c, rfl, HQ, hc, k1⟩
  replace gK := keepN gK k1
  replace bo := bo.keep k1 id
  clear k1
  obtain ⟨g, off, rfl, HQ2⟩ := HQ (by rw [hcs.out.1]; exact hn0)
  clear HQ
  have c0 : w1.cell? ⟨g, off, none⟩ = some (.string (str s0)) := HQ2 0 _ hcs.out.2.1
  clear HQ2
  go_wp2_with fail
  refine (HO.out _).mono ?_
  rintro e w2 ⟨rfl, k1⟩
  have hbx := (bo.keep k1 id).lt
  have hg := Nat.lt_of_lt_of_le (World.block_lt_of_cell? w1 _ c0) k1.size
  replace k1 := k1.alloc (.cells #[.int .i64 op, .int .i64 0, .int .i64 0] 23)
  replace gK := keepN gK k1
  replace bo := bo.keep k1 id
  have bx := Blk.new w2 23 #[.int .i64 op, .int .i64 0, .int .i64 0]
  clear k1 c0
  go_wp2_with fail
  refine (HKn.out _).mono ?_
  rintro e w3 ⟨rfl, rfl⟩
  have hz := bx.lt
  have fx := fun i => bx.frozen i
  obtain ⟨x0, x1, x2⟩ := blk_inst bx
  have HS : Hid (∀ w, Calls Tryz.prog 32 #[instV op 0 0] w fun e w' => e = .returned (.string T) ∧ Keep NoB w w') := by have h := HS.out; rw [hA.out, hB.out] at h; exact h
  go_wp2_with fail
  refine (HS.out _).mono ?_
  rintro e w6 ⟨rfl, k1⟩
  clear hz fx x0 x1 x2
  replace bx := bx.keep k1 id
  replace bo := bo.keep k1 id
  replace gK := keepN gK k1
  clear k1
  obtain ⟨x0, x1, x2⟩ := blk_inst bx
  have hz := bo.lt
  have fo := fun i => bo.frozen i
  obtain ⟨o0, o1, o2⟩ := blk_inst bo
  go_wp2
  refine bodyPost_ret (v := .tuple #[instV 0 0 0, .int .i64 40]) (by simp [results, Tryz.results25, go_sem, o0, o1, o2]) rfl ⟨_, rfl, ?_, out3N gK (Nat.le_refl _) _ _ _⟩
  have hr := HR.out
  rw [hv.out] at hr
  exact hr

set_option maxRecDepth 100000 in
set_option maxHeartbeats 4000000 in
theorem rd_1n0h (S : ByteArray) (s s0 s1 s2 : List UInt8) (n : Nat) (cs : List Value) (op ka kb A B : Int) (w : World)
    (HWd : Hid (∀ w, Calls Tryz.prog 58 #[.string S] w fun e w' => ∃ A c, e = .returned (.slice A n c) ∧ Rd w' A cs ∧ n ≤ c ∧ Keep NoB w w')) (hn0 : 0 < n)
    (hcs : Hid (cs.length = n ∧ cs[0]? = some (.string (str s0)) ∧ (1 < n → cs[1]? = some (.string (str s1))) ∧ (2 < n → cs[2]? = some (.string (str s2)))))
    (HO : Hid (∀ w, Calls Tryz.prog 17 #[.string (str s0)] w fun e w' => e = .returned (.tuple #[.int .i64 op, .int .i64 0]) ∧ Keep NoB w w'))
    (HKn : Hid (∀ w, Calls Tryz.prog 19 #[.int .i64 op] w fun e w' => e = .returned (.tuple #[.int .i64 ka, .int .i64 kb]) ∧ w = w'))
    (_HN1 : Hid (∀ k w, Calls Tryz.prog 59 #[.int .i64 k, .string (str s1)] w fun e w' => e = .returned (.int .i64 (rgK k s1)) ∧ Keep NoB w w'))
    (_HN2 : Hid (∀ k w, Calls Tryz.prog 59 #[.int .i64 k, .string (str s2)] w fun e w' => e = .returned (.int .i64 (rgK k s2)) ∧ Keep NoB w w'))
    (T : ByteArray) (HS : Hid (∀ w, Calls Tryz.prog 32 #[instV op A B] w fun e w' => e = .returned (.string T) ∧ Keep NoB w w'))
    (hq : (T.toList == S.toList) = true) (hA : Hid (A = 0)) (hB : Hid (B = 0)) (hka : decide (0 < ka) = true) (hn1 : n ≤ 1) (hkb : decide (0 < kb) = false) (v : Value) (hv : Hid (v = .tuple #[instV op A B, .int .i64 0])) (HR : Hid (ReadV s v)) :
    Calls Tryz.prog 25 #[.string S] w fun e w' => ∃ v, e = .returned v ∧ ReadV s v ∧ Keep NoB w w' := by
  have gK := (Keep.refl NoB w).alloc (.cells #[.int .i64 0, .int .i64 0, .int .i64 0] 23)
  have bo := Blk.new w 23 #[.int .i64 0, .int .i64 0, .int .i64 0]
  go_enter Tryz.func25, Tryz.ntmps25
  go_wp2_with fail
  refine (HWd.out _).mono ?_
  rintro e w1 ⟨Ad, c, rfl, HQ, hc, k1⟩
  replace gK := keepN gK k1
  replace bo := bo.keep k1 id
  clear k1
  obtain ⟨g, off, rfl, HQ2⟩ := HQ (by rw [hcs.out.1]; exact hn0)
  clear HQ
  have c0 : w1.cell? ⟨g, off, none⟩ = some (.string (str s0)) := HQ2 0 _ hcs.out.2.1
  clear HQ2
  go_wp2_with fail
  refine (HO.out _).mono ?_
  rintro e w2 ⟨rfl, k1⟩
  have hbx := (bo.keep k1 id).lt
  have hg := Nat.lt_of_lt_of_le (World.block_lt_of_cell? w1 _ c0) k1.size
  replace k1 := k1.alloc (.cells #[.int .i64 op, .int .i64 0, .int .i64 0] 23)
  replace gK := keepN gK k1
  replace bo := bo.keep k1 id
  have bx := Blk.new w2 23 #[.int .i64 op, .int .i64 0, .int .i64 0]
  clear k1 c0
  go_wp2_with fail
  refine (HKn.out _).mono ?_
  rintro e w3 ⟨rfl, rfl⟩
  have hz := bx.lt
  have fx := fun i => bx.frozen i
  obtain ⟨x0, x1, x2⟩ := blk_inst bx
  have HS : Hid (∀ w, Calls Tryz.prog 32 #[instV op 0 0] w fun e w' => e = .returned (.string T) ∧ Keep NoB w w') := by have h := HS.out; rw [hA.out, hB.out] at h; exact h
  go_wp2_with fail
  refine (HS.out _).mono ?_
  rintro e w6 ⟨rfl, k1⟩
  clear hz fx x0 x1 x2
  replace bx := bx.keep k1 id
  replace bo := bo.keep k1 id
  replace gK := keepN gK k1
  clear k1
  obtain ⟨x0, x1, x2⟩ := blk_inst bx
  have hz := bo.lt
  have fo := fun i => bo.frozen i
  obtain ⟨o0, o1, o2⟩ := blk_inst bo
  go_wp2
  refine bodyPost_ret (v := .tuple #[instV op 0 0, .int .i64 0]) (by simp [results, Tryz.results25, go_sem, o0, o1, o2]) rfl ⟨_, rfl, ?_, out3N gK (Nat.le_refl _) _ _ _⟩
  have hr := HR.out
  rw [hv.out] at hr
  rw [hA.out, hB.out] at hr
  exact hr

set_option maxRecDepth 100000 in
set_option maxHeartbeats 4000000 in
theorem rd_1n0m (S : ByteArray) (s s0 s1 s2 : List UInt8) (n : Nat) (cs : List Value) (op ka kb A B : Int) (w : World)
    (HWd : Hid (∀ w, Calls Tryz.prog 58 #[.string S] w fun e w' => ∃ A c, e = .returned (.slice A n c) ∧ Rd w' A cs ∧ n ≤ c ∧ Keep NoB w w')) (hn0 : 0 < n)
    (hcs : Hid (cs.length = n ∧ cs[0]? = some (.string (str s0)) ∧ (1 < n → cs[1]? = some (.string (str s1))) ∧ (2 < n → cs[2]? = some (.string (str s2)))))
    (HO : Hid (∀ w, Calls Tryz.prog 17 #[.string (str s0)] w fun e w' => e = .returned (.tuple #[.int .i64 op, .int .i64 0]) ∧ Keep NoB w w'))
    (HKn : Hid (∀ w, Calls Tryz.prog 19 #[.int .i64 op] w fun e w' => e = .returned (.tuple #[.int .i64 ka, .int .i64 kb]) ∧ w = w'))
    (_HN1 : Hid (∀ k w, Calls Tryz.prog 59 #[.int .i64 k, .string (str s1)] w fun e w' => e = .returned (.int .i64 (rgK k s1)) ∧ Keep NoB w w'))
    (_HN2 : Hid (∀ k w, Calls Tryz.prog 59 #[.int .i64 k, .string (str s2)] w fun e w' => e = .returned (.int .i64 (rgK k s2)) ∧ Keep NoB w w'))
    (T : ByteArray) (HS : Hid (∀ w, Calls Tryz.prog 32 #[instV op A B] w fun e w' => e = .returned (.string T) ∧ Keep NoB w w'))
    (hq : (T.toList == S.toList) = false) (hA : Hid (A = 0)) (hB : Hid (B = 0)) (hka : decide (0 < ka) = true) (hn1 : n ≤ 1) (hkb : decide (0 < kb) = false) (v : Value) (hv : Hid (v = .tuple #[instV 0 0 0, .int .i64 40])) (HR : Hid (ReadV s v)) :
    Calls Tryz.prog 25 #[.string S] w fun e w' => ∃ v, e = .returned v ∧ ReadV s v ∧ Keep NoB w w' := by
  have gK := (Keep.refl NoB w).alloc (.cells #[.int .i64 0, .int .i64 0, .int .i64 0] 23)
  have bo := Blk.new w 23 #[.int .i64 0, .int .i64 0, .int .i64 0]
  go_enter Tryz.func25, Tryz.ntmps25
  go_wp2_with fail
  refine (HWd.out _).mono ?_
  rintro e w1 ⟨Ad, c, rfl, HQ, hc, k1⟩
  replace gK := keepN gK k1
  replace bo := bo.keep k1 id
  clear k1
  obtain ⟨g, off, rfl, HQ2⟩ := HQ (by rw [hcs.out.1]; exact hn0)
  clear HQ
  have c0 : w1.cell? ⟨g, off, none⟩ = some (.string (str s0)) := HQ2 0 _ hcs.out.2.1
  clear HQ2
  go_wp2_with fail
  refine (HO.out _).mono ?_
  rintro e w2 ⟨rfl, k1⟩
  have hbx := (bo.keep k1 id).lt
  have hg := Nat.lt_of_lt_of_le (World.block_lt_of_cell? w1 _ c0) k1.size
  replace k1 := k1.alloc (.cells #[.int .i64 op, .int .i64 0, .int .i64 0] 23)
  replace gK := keepN gK k1
  replace bo := bo.keep k1 id
  have bx := Blk.new w2 23 #[.int .i64 op, .int .i64 0, .int .i64 0]
  clear k1 c0
  go_wp2_with fail
  refine (HKn.out _).mono ?_
  rintro e w3 ⟨rfl, rfl⟩
  have hz := bx.lt
  have fx := fun i => bx.frozen i
  obtain ⟨x0, x1, x2⟩ := blk_inst bx
  have HS : Hid (∀ w, Calls Tryz.prog 32 #[instV op 0 0] w fun e w' => e = .returned (.string T) ∧ Keep NoB w w') := by have h := HS.out; rw [hA.out, hB.out] at h; exact h
  go_wp2_with fail
  refine (HS.out _).mono ?_
  rintro e w6 ⟨rfl, k1⟩
  clear hz fx x0 x1 x2
  replace bx := bx.keep k1 id
  replace bo := bo.keep k1 id
  replace gK := keepN gK k1
  clear k1
  obtain ⟨x0, x1, x2⟩ := blk_inst bx
  have hz := bo.lt
  have fo := fun i => bo.frozen i
  obtain ⟨o0, o1, o2⟩ := blk_inst bo
  go_wp2
  refine bodyPost_ret (v := .tuple #[instV 0 0 0, .int .i64 40]) (by simp [results, Tryz.results25, go_sem, o0, o1, o2]) rfl ⟨_, rfl, ?_, out3N gK (Nat.le_refl _) _ _ _⟩
  have hr := HR.out
  rw [hv.out] at hr
  exact hr

set_option maxRecDepth 100000 in
set_option maxHeartbeats 4000000 in
theorem rd_1n1h (S : ByteArray) (s s0 s1 s2 : List UInt8) (n : Nat) (cs : List Value) (op ka kb A B : Int) (w : World)
    (HWd : Hid (∀ w, Calls Tryz.prog 58 #[.string S] w fun e w' => ∃ A c, e = .returned (.slice A n c) ∧ Rd w' A cs ∧ n ≤ c ∧ Keep NoB w w')) (hn0 : 0 < n)
    (hcs : Hid (cs.length = n ∧ cs[0]? = some (.string (str s0)) ∧ (1 < n → cs[1]? = some (.string (str s1))) ∧ (2 < n → cs[2]? = some (.string (str s2)))))
    (HO : Hid (∀ w, Calls Tryz.prog 17 #[.string (str s0)] w fun e w' => e = .returned (.tuple #[.int .i64 op, .int .i64 0]) ∧ Keep NoB w w'))
    (HKn : Hid (∀ w, Calls Tryz.prog 19 #[.int .i64 op] w fun e w' => e = .returned (.tuple #[.int .i64 ka, .int .i64 kb]) ∧ w = w'))
    (_HN1 : Hid (∀ k w, Calls Tryz.prog 59 #[.int .i64 k, .string (str s1)] w fun e w' => e = .returned (.int .i64 (rgK k s1)) ∧ Keep NoB w w'))
    (_HN2 : Hid (∀ k w, Calls Tryz.prog 59 #[.int .i64 k, .string (str s2)] w fun e w' => e = .returned (.int .i64 (rgK k s2)) ∧ Keep NoB w w'))
    (T : ByteArray) (HS : Hid (∀ w, Calls Tryz.prog 32 #[instV op A B] w fun e w' => e = .returned (.string T) ∧ Keep NoB w w'))
    (hq : (T.toList == S.toList) = true) (hA : Hid (A = 0)) (hB : Hid (B = 0)) (hka : decide (0 < ka) = true) (hn1 : n ≤ 1) (hkb : decide (0 < kb) = true) (_hn2 : n ≤ 2) (v : Value) (hv : Hid (v = .tuple #[instV op A B, .int .i64 0])) (HR : Hid (ReadV s v)) :
    Calls Tryz.prog 25 #[.string S] w fun e w' => ∃ v, e = .returned v ∧ ReadV s v ∧ Keep NoB w w' := by
  have gK := (Keep.refl NoB w).alloc (.cells #[.int .i64 0, .int .i64 0, .int .i64 0] 23)
  have bo := Blk.new w 23 #[.int .i64 0, .int .i64 0, .int .i64 0]
  go_enter Tryz.func25, Tryz.ntmps25
  go_wp2_with fail
  refine (HWd.out _).mono ?_
  rintro e w1 ⟨Ad, c, rfl, HQ, hc, k1⟩
  replace gK := keepN gK k1
  replace bo := bo.keep k1 id
  clear k1
  obtain ⟨g, off, rfl, HQ2⟩ := HQ (by rw [hcs.out.1]; exact hn0)
  clear HQ
  have c0 : w1.cell? ⟨g, off, none⟩ = some (.string (str s0)) := HQ2 0 _ hcs.out.2.1
  clear HQ2
  go_wp2_with fail
  refine (HO.out _).mono ?_
  rintro e w2 ⟨rfl, k1⟩
  have hbx := (bo.keep k1 id).lt
  have hg := Nat.lt_of_lt_of_le (World.block_lt_of_cell? w1 _ c0) k1.size
  replace k1 := k1.alloc (.cells #[.int .i64 op, .int .i64 0, .int .i64 0] 23)
  replace gK := keepN gK k1
  replace bo := bo.keep k1 id
  have bx := Blk.new w2 23 #[.int .i64 op, .int .i64 0, .int .i64 0]
  clear k1 c0
  go_wp2_with fail
  refine (HKn.out _).mono ?_
  rintro e w3 ⟨rfl, rfl⟩
  have hz := bx.lt
  have fx := fun i => bx.frozen i
  obtain ⟨x0, x1, x2⟩ := blk_inst bx
  have HS : Hid (∀ w, Calls Tryz.prog 32 #[instV op 0 0] w fun e w' => e = .returned (.string T) ∧ Keep NoB w w') := by have h := HS.out; rw [hA.out, hB.out] at h; exact h
  go_wp2_with fail
  refine (HS.out _).mono ?_
  rintro e w6 ⟨rfl, k1⟩
  clear hz fx x0 x1 x2
  replace bx := bx.keep k1 id
  replace bo := bo.keep k1 id
  replace gK := keepN gK k1
  clear k1
  obtain ⟨x0, x1, x2⟩ := blk_inst bx
  have hz := bo.lt
  have fo := fun i => bo.frozen i
  obtain ⟨o0, o1, o2⟩ := blk_inst bo
  go_wp2
  refine bodyPost_ret (v := .tuple #[instV op 0 0, .int .i64 0]) (by simp [results, Tryz.results25, go_sem, o0, o1, o2]) rfl ⟨_, rfl, ?_, out3N gK (Nat.le_refl _) _ _ _⟩
  have hr := HR.out
  rw [hv.out] at hr
  rw [hA.out, hB.out] at hr
  exact hr

set_option maxRecDepth 100000 in
set_option maxHeartbeats 4000000 in
theorem rd_1n1m (S : ByteArray) (s s0 s1 s2 : List UInt8) (n : Nat) (cs : List Value) (op ka kb A B : Int) (w : World)
    (HWd : Hid (∀ w, Calls Tryz.prog 58 #[.string S] w fun e w' => ∃ A c, e = .returned (.slice A n c) ∧ Rd w' A cs ∧ n ≤ c ∧ Keep NoB w w')) (hn0 : 0 < n)
    (hcs : Hid (cs.length = n ∧ cs[0]? = some (.string (str s0)) ∧ (1 < n → cs[1]? = some (.string (str s1))) ∧ (2 < n → cs[2]? = some (.string (str s2)))))
    (HO : Hid (∀ w, Calls Tryz.prog 17 #[.string (str s0)] w fun e w' => e = .returned (.tuple #[.int .i64 op, .int .i64 0]) ∧ Keep NoB w w'))
    (HKn : Hid (∀ w, Calls Tryz.prog 19 #[.int .i64 op] w fun e w' => e = .returned (.tuple #[.int .i64 ka, .int .i64 kb]) ∧ w = w'))
    (_HN1 : Hid (∀ k w, Calls Tryz.prog 59 #[.int .i64 k, .string (str s1)] w fun e w' => e = .returned (.int .i64 (rgK k s1)) ∧ Keep NoB w w'))
    (_HN2 : Hid (∀ k w, Calls Tryz.prog 59 #[.int .i64 k, .string (str s2)] w fun e w' => e = .returned (.int .i64 (rgK k s2)) ∧ Keep NoB w w'))
    (T : ByteArray) (HS : Hid (∀ w, Calls Tryz.prog 32 #[instV op A B] w fun e w' => e = .returned (.string T) ∧ Keep NoB w w'))
    (hq : (T.toList == S.toList) = false) (hA : Hid (A = 0)) (hB : Hid (B = 0)) (hka : decide (0 < ka) = true) (hn1 : n ≤ 1) (hkb : decide (0 < kb) = true) (_hn2 : n ≤ 2) (v : Value) (hv : Hid (v = .tuple #[instV 0 0 0, .int .i64 40])) (HR : Hid (ReadV s v)) :
    Calls Tryz.prog 25 #[.string S] w fun e w' => ∃ v, e = .returned v ∧ ReadV s v ∧ Keep NoB w w' := by
  have gK := (Keep.refl NoB w).alloc (.cells #[.int .i64 0, .int .i64 0, .int .i64 0] 23)
  have bo := Blk.new w 23 #[.int .i64 0, .int .i64 0, .int .i64 0]
  go_enter Tryz.func25, Tryz.ntmps25
  go_wp2_with fail
  refine (HWd.out _).mono ?_
  rintro e w1 ⟨Ad, c, rfl, HQ, hc, k1⟩
  replace gK := keepN gK k1
  replace bo := bo.keep k1 id
  clear k1
  obtain ⟨g, off, rfl, HQ2⟩ := HQ (by rw [hcs.out.1]; exact hn0)
  clear HQ
  have c0 : w1.cell? ⟨g, off, none⟩ = some (.string (str s0)) := HQ2 0 _ hcs.out.2.1
  clear HQ2
  go_wp2_with fail
  refine (HO.out _).mono ?_
  rintro e w2 ⟨rfl, k1⟩
  have hbx := (bo.keep k1 id).lt
  have hg := Nat.lt_of_lt_of_le (World.block_lt_of_cell? w1 _ c0) k1.size
  replace k1 := k1.alloc (.cells #[.int .i64 op, .int .i64 0, .int .i64 0] 23)
  replace gK := keepN gK k1
  replace bo := bo.keep k1 id
  have bx := Blk.new w2 23 #[.int .i64 op, .int .i64 0, .int .i64 0]
  clear k1 c0
  go_wp2_with fail
  refine (HKn.out _).mono ?_
  rintro e w3 ⟨rfl, rfl⟩
  have hz := bx.lt
  have fx := fun i => bx.frozen i
  obtain ⟨x0, x1, x2⟩ := blk_inst bx
  have HS : Hid (∀ w, Calls Tryz.prog 32 #[instV op 0 0] w fun e w' => e = .returned (.string T) ∧ Keep NoB w w') := by have h := HS.out; rw [hA.out, hB.out] at h; exact h
  go_wp2_with fail
  refine (HS.out _).mono ?_
  rintro e w6 ⟨rfl, k1⟩
  clear hz fx x0 x1 x2
  replace bx := bx.keep k1 id
  replace bo := bo.keep k1 id
  replace gK := keepN gK k1
  clear k1
  obtain ⟨x0, x1, x2⟩ := blk_inst bx
  have hz := bo.lt
  have fo := fun i => bo.frozen i
  obtain ⟨o0, o1, o2⟩ := blk_inst bo
  go_wp2
  refine bodyPost_ret (v := .tuple #[instV 0 0 0, .int .i64 40]) (by simp [results, Tryz.results25, go_sem, o0, o1, o2]) rfl ⟨_, rfl, ?_, out3N gK (Nat.le_refl _) _ _ _⟩
  have hr := HR.out
  rw [hv.out] at hr
  exact hr

set_option maxRecDepth 100000 in
set_option maxHeartbeats 4000000 in
theorem rd_1y0h (S : ByteArray) (s s0 s1 s2 : List UInt8) (n : Nat) (cs : List Value) (op ka kb A B : Int) (w : World)
    (HWd : Hid (∀ w, Calls Tryz.prog 58 #[.string S] w fun e w' => ∃ A c, e = .returned (.slice A n c) ∧ Rd w' A cs ∧ n ≤ c ∧ Keep NoB w w')) (hn0 : 0 < n)
    (hcs : Hid (cs.length = n ∧ cs[0]? = some (.string (str s0)) ∧ (1 < n → cs[1]? = some (.string (str s1))) ∧ (2 < n → cs[2]? = some (.string (str s2)))))
    (HO : Hid (∀ w, Calls Tryz.prog 17 #[.string (str s0)] w fun e w' => e = .returned (.tuple #[.int .i64 op, .int .i64 0]) ∧ Keep NoB w w'))
    (HKn : Hid (∀ w, Calls Tryz.prog 19 #[.int .i64 op] w fun e w' => e = .returned (.tuple #[.int .i64 ka, .int .i64 kb]) ∧ w = w'))
    (HN1 : Hid (∀ k w, Calls Tryz.prog 59 #[.int .i64 k, .string (str s1)] w fun e w' => e = .returned (.int .i64 (rgK k s1)) ∧ Keep NoB w w'))
    (_HN2 : Hid (∀ k w, Calls Tryz.prog 59 #[.int .i64 k, .string (str s2)] w fun e w' => e = .returned (.int .i64 (rgK k s2)) ∧ Keep NoB w w'))
    (T : ByteArray) (HS : Hid (∀ w, Calls Tryz.prog 32 #[instV op A B] w fun e w' => e = .returned (.string T) ∧ Keep NoB w w'))
    (hq : (T.toList == S.toList) = true) (hA : Hid (A = rgK ka s1)) (hB : Hid (B = 0)) (hka : decide (0 < ka) = true) (hn1 : 1 < n) (hkb : decide (0 < kb) = false) (v : Value) (hv : Hid (v = .tuple #[instV op A B, .int .i64 0])) (HR : Hid (ReadV s v)) :
    Calls Tryz.prog 25 #[.string S] w fun e w' => ∃ v, e = .returned v ∧ ReadV s v ∧ Keep NoB w w' := by
  have gK := (Keep.refl NoB w).alloc (.cells #[.int .i64 0, .int .i64 0, .int .i64 0] 23)
  have bo := Blk.new w 23 #[.int .i64 0, .int .i64 0, .int .i64 0]
  go_enter Tryz.func25, Tryz.ntmps25
  go_wp2_with fail
  refine (HWd.out _).mono ?_
  rintro e w1 ⟨Ad, c, rfl, HQ, hc, k1⟩
  replace gK := keepN gK k1
  replace bo := bo.keep k1 id
  clear k1
  obtain ⟨g, off, rfl, HQ2⟩ := HQ (by rw [hcs.out.1]; exact hn0)
  clear HQ
  have c0 : w1.cell? ⟨g, off, none⟩ = some (.string (str s0)) := HQ2 0 _ hcs.out.2.1
  have c1 : w1.cell? ⟨g, off + 1, none⟩ = some (.string (str s1)) := HQ2 1 _ (hcs.out.2.2.1 hn1)
  clear HQ2
  go_wp2_with fail
  refine (HO.out _).mono ?_
  rintro e w2 ⟨rfl, k1⟩
  have hbx := (bo.keep k1 id).lt
  have hg := Nat.lt_of_lt_of_le (World.block_lt_of_cell? w1 _ c0) k1.size
  replace k1 := k1.alloc (.cells #[.int .i64 op, .int .i64 0, .int .i64 0] 23)
  replace gK := keepN gK k1
  replace bo := bo.keep k1 id
  replace c1 := k1.cell c1 id
  have bx := Blk.new w2 23 #[.int .i64 op, .int .i64 0, .int .i64 0]
  clear k1 c0
  go_wp2_with fail
  refine (HKn.out _).mono ?_
  rintro e w3 ⟨rfl, rfl⟩
  go_wp2_with fail
  refine (HN1.out _ _).mono ?_
  rintro e w4 ⟨rfl, k1⟩
  replace gK := keepN gK k1
  replace bo := bo.keep k1 id
  replace bx := bx.keep k1 id
  clear k1 c1
  rw [← hA.out]
  have hz := bx.lt
  have fx := fun i => bx.frozen i
  obtain ⟨x0, x1, x2⟩ := blk_inst bx
  have HS : Hid (∀ w, Calls Tryz.prog 32 #[instV op A 0] w fun e w' => e = .returned (.string T) ∧ Keep NoB w w') := by have h := HS.out; rw [hB.out] at h; exact h
  have bx2 := bx.put 1 (.int .i64 A)
  have bo3 := bo.far (p := ⟨w2.heap.size, 1, none⟩) (by simp; omega) (.int .i64 A)
  have gK2 := gK.setCell (p := ⟨w2.heap.size, 1, none⟩) (fun h => absurd h (by simp; omega)) (.int .i64 A)
  go_wp2_with fail
  refine (HS.out _).mono ?_
  rintro e w6 ⟨rfl, k1⟩
  clear bx bo gK hz fx x0 x1 x2
  have bx := bx2.keep k1 id
  have bo := bo3.keep k1 id
  have gK := keepN gK2 k1
  clear bx2 bo3 gK2 k1
  obtain ⟨x0, x1, x2⟩ := blk_inst bx
  have hz := bo.lt
  have fo := fun i => bo.frozen i
  obtain ⟨o0, o1, o2⟩ := blk_inst bo
  go_wp2
  refine bodyPost_ret (v := .tuple #[instV op A 0, .int .i64 0]) (by simp [results, Tryz.results25, go_sem, o0, o1, o2]) rfl ⟨_, rfl, ?_, out3N gK (Nat.le_refl _) _ _ _⟩
  have hr := HR.out
  rw [hv.out] at hr
  rw [hB.out] at hr
  exact hr

set_option maxRecDepth 100000 in
set_option maxHeartbeats 4000000 in
theorem rd_1y0m (S : ByteArray) (s s0 s1 s2 : List UInt8) (n : Nat) (cs : List Value) (op ka kb A B : Int) (w : World)
    (HWd : Hid (∀ w, Calls Tryz.prog 58 #[.string S] w fun e w' => ∃ A c, e = .returned (.slice A n c) ∧ Rd w' A cs ∧ n ≤ c ∧ Keep NoB w w')) (hn0 : 0 < n)
    (hcs : Hid (cs.length = n ∧ cs[0]? = some (.string (str s0)) ∧ (1 < n → cs[1]? = some (.string (str s1))) ∧ (2 < n → cs[2]? = some (.string (str s2)))))
    (HO : Hid (∀ w, Calls Tryz.prog 17 #[.string (str s0)] w fun e w' => e = .returned (.tuple #[.int .i64 op, .int .i64 0]) ∧ Keep NoB w w'))
    (HKn : Hid (∀ w, Calls Tryz.prog 19 #[.int .i64 op] w fun e w' => e = .returned (.tuple #[.int .i64 ka, .int .i64 kb]) ∧ w = w'))
    (HN1 : Hid (∀ k w, Calls Tryz.prog 59 #[.int .i64 k, .string (str s1)] w fun e w' => e = .returned (.int .i64 (rgK k s1)) ∧ Keep NoB w w'))
    (_HN2 : Hid (∀ k w, Calls Tryz.prog 59 #[.int .i64 k, .string (str s2)] w fun e w' => e = .returned (.int .i64 (rgK k s2)) ∧ Keep NoB w w'))
    (T : ByteArray) (HS : Hid (∀ w, Calls Tryz.prog 32 #[instV op A B] w fun e w' => e = .returned (.string T) ∧ Keep NoB w w'))
    (hq : (T.toList == S.toList) = false) (hA : Hid (A = rgK ka s1)) (hB : Hid (B = 0)) (hka : decide (0 < ka) = true) (hn1 : 1 < n) (hkb : decide (0 < kb) = false) (v : Value) (hv : Hid (v = .tuple #[instV 0 0 0, .int .i64 40])) (HR : Hid (ReadV s v)) :
    Calls Tryz.prog 25 #[.string S] w fun e w' => ∃ v, e = .returned v ∧ ReadV s v ∧ Keep NoB w w' := by
  have gK := (Keep.refl NoB w).alloc (.cells #[.int .i64 0, .int .i64 0, .int .i64 0] 23)
  have bo := Blk.new w 23 #[.int .i64 0, .int .i64 0, .int .i64 0]
  go_enter Tryz.func25, Tryz.ntmps25
  go_wp2_with fail
  refine (HWd.out _).mono ?_
  rintro e w1 ⟨Ad, c, rfl, HQ, hc, k1⟩
  replace gK := keepN gK k1
  replace bo := bo.keep k1 id
  clear k1
  obtain ⟨g, off, rfl, HQ2⟩ := HQ (by rw [hcs.out.1]; exact hn0)
  clear HQ
  have c0 : w1.cell? ⟨g, off, none⟩ = some (.string (str s0)) := HQ2 0 _ hcs.out.2.1
  have c1 : w1.cell? ⟨g, off + 1, none⟩ = some (.string (str s1)) := HQ2 1 _ (hcs.out.2.2.1 hn1)
  clear HQ2
  go_wp2_with fail
  refine (HO.out _).mono ?_
  rintro e w2 ⟨rfl, k1⟩
  have hbx := (bo.keep k1 id).lt
  have hg := Nat.lt_of_lt_of_le (World.block_lt_of_cell? w1 _ c0) k1.size
  replace k1 := k1.alloc (.cells #[.int .i64 op, .int .i64 0, .int .i64 0] 23)
  replace gK := keepN gK k1
  replace bo := bo.keep k1 id
  replace c1 := k1.cell c1 id
  have bx := Blk.new w2 23 #[.int .i64 op, .int .i64 0, .int .i64 0]
  clear k1 c0
  go_wp2_with fail
  refine (HKn.out _).mono ?_
  rintro e w3 ⟨rfl, rfl⟩
  go_wp2_with fail
  refine (HN1.out _ _).mono ?_
  rintro e w4 ⟨rfl, k1⟩
  replace gK := keepN gK k1
  replace bo := bo.keep k1 id
  replace bx := bx.keep k1 id
  clear k1 c1
  rw [← hA.out]
  have hz := bx.lt
  have fx := fun i => bx.frozen i
  obtain ⟨x0, x1, x2⟩ := blk_inst bx
  have HS : Hid (∀ w, Calls Tryz.prog 32 #[instV op A 0] w fun e w' => e = .returned (.string T) ∧ Keep NoB w w') := by have h := HS.out; rw [hB.out] at h; exact h
  have bx2 := bx.put 1 (.int .i64 A)
  have bo3 := bo.far (p := ⟨w2.heap.size, 1, none⟩) (by simp; omega) (.int .i64 A)
  have gK2 := gK.setCell (p := ⟨w2.heap.size, 1, none⟩) (fun h => absurd h (by simp; omega)) (.int .i64 A)
  go_wp2_with fail
  refine (HS.out _).mono ?_
  rintro e w6 ⟨rfl, k1⟩
  clear bx bo gK hz fx x0 x1 x2
  have bx := bx2.keep k1 id
  have bo := bo3.keep k1 id
  have gK := keepN gK2 k1
  clear bx2 bo3 gK2 k1
  obtain ⟨x0, x1, x2⟩ := blk_inst bx
  have hz := bo.lt
  have fo := fun i => bo.frozen i
  obtain ⟨o0, o1, o2⟩ := blk_inst bo
  go_wp2
  refine bodyPost_ret (v := .tuple #[instV 0 0 0, .int .i64 40]) (by simp [results, Tryz.results25, go_sem, o0, o1, o2]) rfl ⟨_, rfl, ?_, out3N gK (Nat.le_refl _) _ _ _⟩
  have hr := HR.out
  rw [hv.out] at hr
  exact hr

set_option maxRecDepth 100000 in
set_option maxHeartbeats 4000000 in
theorem rd_1y1nh (S : ByteArray) (s s0 s1 s2 : List UInt8) (n : Nat) (cs : List Value) (op ka kb A B : Int) (w : World)
    (HWd : Hid (∀ w, Calls Tryz.prog 58 #[.string S] w fun e w' => ∃ A c, e = .returned (.slice A n c) ∧ Rd w' A cs ∧ n ≤ c ∧ Keep NoB w w')) (hn0 : 0 < n)
    (hcs : Hid (cs.length = n ∧ cs[0]? = some (.string (str s0)) ∧ (1 < n → cs[1]? = some (.string (str s1))) ∧ (2 < n → cs[2]? = some (.string (str s2)))))
    (HO : Hid (∀ w, Calls Tryz.prog 17 #[.string (str s0)] w fun e w' => e = .returned (.tuple #[.int .i64 op, .int .i64 0]) ∧ Keep NoB w w'))
    (HKn : Hid (∀ w, Calls Tryz.prog 19 #[.int .i64 op] w fun e w' => e = .returned (.tuple #[.int .i64 ka, .int .i64 kb]) ∧ w = w'))
    (HN1 : Hid (∀ k w, Calls Tryz.prog 59 #[.int .i64 k, .string (str s1)] w fun e w' => e = .returned (.int .i64 (rgK k s1)) ∧ Keep NoB w w'))
    (_HN2 : Hid (∀ k w, Calls Tryz.prog 59 #[.int .i64 k, .string (str s2)] w fun e w' => e = .returned (.int .i64 (rgK k s2)) ∧ Keep NoB w w'))
    (T : ByteArray) (HS : Hid (∀ w, Calls Tryz.prog 32 #[instV op A B] w fun e w' => e = .returned (.string T) ∧ Keep NoB w w'))
    (hq : (T.toList == S.toList) = true) (hA : Hid (A = rgK ka s1)) (hB : Hid (B = 0)) (hka : decide (0 < ka) = true) (hn1 : 1 < n) (hkb : decide (0 < kb) = true) (hn2 : n ≤ 2) (v : Value) (hv : Hid (v = .tuple #[instV op A B, .int .i64 0])) (HR : Hid (ReadV s v)) :
    Calls Tryz.prog 25 #[.string S] w fun e w' => ∃ v, e = .returned v ∧ ReadV s v ∧ Keep NoB w w' := by
  have gK := (Keep.refl NoB w).alloc (.cells #[.int .i64 0, .int .i64 0, .int .i64 0] 23)
  have bo := Blk.new w 23 #[.int .i64 0, .int .i64 0, .int .i64 0]
  go_enter Tryz.func25, Tryz.ntmps25
  go_wp2_with fail
  refine (HWd.out _).mono ?_
  rintro e w1 ⟨Ad, c, rfl, HQ, hc, k1⟩
  replace gK := keepN gK k1
  replace bo := bo.keep k1 id
  clear k1
  obtain ⟨g, off, rfl, HQ2⟩ := HQ (by rw [hcs.out.1]; exact hn0)
  clear HQ
  have c0 : w1.cell? ⟨g, off, none⟩ = some (.string (str s0)) := HQ2 0 _ hcs.out.2.1
  have c1 : w1.cell? ⟨g, off + 1, none⟩ = some (.string (str s1)) := HQ2 1 _ (hcs.out.2.2.1 hn1)
  clear HQ2
  go_wp2_with fail
  refine (HO.out _).mono ?_
  rintro e w2 ⟨rfl, k1⟩
  have hbx := (bo.keep k1 id).lt
  have hg := Nat.lt_of_lt_of_le (World.block_lt_of_cell? w1 _ c0) k1.size
  replace k1 := k1.alloc (.cells #[.int .i64 op, .int .i64 0, .int .i64 0] 23)
  replace gK := keepN gK k1
  replace bo := bo.keep k1 id
  replace c1 := k1.cell c1 id
  have bx := Blk.new w2 23 #[.int .i64 op, .int .i64 0, .int .i64 0]
  clear k1 c0
  go_wp2_with fail
  refine (HKn.out _).mono ?_
  rintro e w3 ⟨rfl, rfl⟩
  go_wp2_with fail
  refine (HN1.out _ _).mono ?_
  rintro e w4 ⟨rfl, k1⟩
  replace gK := keepN gK k1
  replace bo := bo.keep k1 id
  replace bx := bx.keep k1 id
  clear k1 c1
  rw [← hA.out]
  have hz := bx.lt
  have fx := fun i => bx.frozen i
  obtain ⟨x0, x1, x2⟩ := blk_inst bx
  have HS : Hid (∀ w, Calls Tryz.prog 32 #[instV op A 0] w fun e w' => e = .returned (.string T) ∧ Keep NoB w w') := by have h := HS.out; rw [hB.out] at h; exact h
  have bx2 := bx.put 1 (.int .i64 A)
  have bo3 := bo.far (p := ⟨w2.heap.size, 1, none⟩) (by simp; omega) (.int .i64 A)
  have gK2 := gK.setCell (p := ⟨w2.heap.size, 1, none⟩) (fun h => absurd h (by simp; omega)) (.int .i64 A)
  go_wp2_with fail
  refine (HS.out _).mono ?_
  rintro e w6 ⟨rfl, k1⟩
  clear bx bo gK hz fx x0 x1 x2
  have bx := bx2.keep k1 id
  have bo := bo3.keep k1 id
  have gK := keepN gK2 k1
  clear bx2 bo3 gK2 k1
  obtain ⟨x0, x1, x2⟩ := blk_inst bx
  have hz := bo.lt
  have fo := fun i => bo.frozen i
  obtain ⟨o0, o1, o2⟩ := blk_inst bo
  go_wp2
  refine bodyPost_ret (v := .tuple #[instV op A 0, .int .i64 0]) (by simp [results, Tryz.results25, go_sem, o0, o1, o2]) rfl ⟨_, rfl, ?_, out3N gK (Nat.le_refl _) _ _ _⟩
  have hr := HR.out
  rw [hv.out] at hr
  rw [hB.out] at hr
  exact hr

set_option maxRecDepth 100000 in
set_option maxHeartbeats 4000000 in
theorem rd_1y1nm (S : ByteArray) (s s0 s1 s2 : List UInt8) (n : Nat) (cs : List Value) (op ka kb A B : Int) (w : World)
    (HWd : Hid (∀ w, Calls Tryz.prog 58 #[.string S] w fun e w' => ∃ A c, e = .returned (.slice A n c) ∧ Rd w' A cs ∧ n ≤ c ∧ Keep NoB w w')) (hn0 : 0 < n)
    (hcs : Hid (cs.length = n ∧ cs[0]? = some (.string (str s0)) ∧ (1 < n → cs[1]? = some (.string (str s1))) ∧ (2 < n → cs[2]? = some (.string (str s2)))))
    (HO : Hid (∀ w, Calls Tryz.prog 17 #[.string (str s0)] w fun e w' => e = .returned (.tuple #[.int .i64 op, .int .i64 0]) ∧ Keep NoB w w'))
    (HKn : Hid (∀ w, Calls Tryz.prog 19 #[.int .i64 op] w fun e w' => e = .returned (.tuple #[.int .i64 ka, .int .i64 kb]) ∧ w = w'))
    (HN1 : Hid (∀ k w, Calls Tryz.prog 59 #[.int .i64 k, .string (str s1)] w fun e w' => e = .returned (.int .i64 (rgK k s1)) ∧ Keep NoB w w'))
    (_HN2 : Hid (∀ k w, Calls Tryz.prog 59 #[.int .i64 k, .string (str s2)] w fun e w' => e = .returned (.int .i64 (rgK k s2)) ∧ Keep NoB w w'))
    (T : ByteArray) (HS : Hid (∀ w, Calls Tryz.prog 32 #[instV op A B] w fun e w' => e = .returned (.string T) ∧ Keep NoB w w'))
    (hq : (T.toList == S.toList) = false) (hA : Hid (A = rgK ka s1)) (hB : Hid (B = 0)) (hka : decide (0 < ka) = true) (hn1 : 1 < n) (hkb : decide (0 < kb) = true) (hn2 : n ≤ 2) (v : Value) (hv : Hid (v = .tuple #[instV 0 0 0, .int .i64 40])) (HR : Hid (ReadV s v)) :
    Calls Tryz.prog 25 #[.string S] w fun e w' => ∃ v, e = .returned v ∧ ReadV s v ∧ Keep NoB w w' := by
  have gK := (Keep.refl NoB w).alloc (.cells #[.int .i64 0, .int .i64 0, .int .i64 0] 23)
  have bo := Blk.new w 23 #[.int .i64 0, .int .i64 0, .int .i64 0]
  go_enter Tryz.func25, Tryz.ntmps25
  go_wp2_with fail
  refine (HWd.out _).mono ?_
  rintro e w1 ⟨Ad, c, rfl, HQ, hc, k1⟩
  replace gK := keepN gK k1
  replace bo := bo.keep k1 id
  clear k1
  obtain ⟨g, off, rfl, HQ2⟩ := HQ (by rw [hcs.out.1]; exact hn0)
  clear HQ
  have c0 : w1.cell? ⟨g, off, none⟩ = some (.string (str s0)) := HQ2 0 _ hcs.out.2.1
  have c1 : w1.cell? ⟨g, off + 1, none⟩ = some (.string (str s1)) := HQ2 1 _ (hcs.out.2.2.1 hn1)
  clear HQ2
  go_wp2_with fail
  refine (HO.out _).mono ?_
  rintro e w2 ⟨rfl, k1⟩
  have hbx := (bo.keep k1 id).lt
  have hg := Nat.lt_of_lt_of_le (World.block_lt_of_cell? w1 _ c0) k1.size
  replace k1 := k1.alloc (.cells #[.int .i64 op, .int .i64 0, .int .i64 0] 23)
  replace gK := keepN gK k1
  replace bo := bo.keep k1 id
  replace c1 := k1.cell c1 id
  have bx := Blk.new w2 23 #[.int .i64 op, .int .i64 0, .int .i64 0]
  clear k1 c0
  go_wp2_with fail
  refine (HKn.out _).mono ?_
  rintro e w3 ⟨rfl, rfl⟩
  go_wp2_with fail
  refine (HN1.out _ _).mono ?_
  rintro e w4 ⟨rfl, k1⟩
  replace gK := keepN gK k1
  replace bo := bo.keep k1 id
  replace bx := bx.keep k1 id
  clear k1 c1
  rw [← hA.out]
  have hz := bx.lt
  have fx := fun i => bx.frozen i
  obtain ⟨x0, x1, x2⟩ := blk_inst bx
  have HS : Hid (∀ w, Calls Tryz.prog 32 #[instV op A 0] w fun e w' => e = .returned (.string T) ∧ Keep NoB w w') := by have h := HS.out; rw [hB.out] at h; exact h
  have bx2 := bx.put 1 (.int .i64 A)
  have bo3 := bo.far (p := ⟨w2.heap.size, 1, none⟩) (by simp; omega) (.int .i64 A)
  have gK2 := gK.setCell (p := ⟨w2.heap.size, 1, none⟩) (fun h => absurd h (by simp; omega)) (.int .i64 A)
  go_wp2_with fail
  refine (HS.out _).mono ?_
  rintro e w6 ⟨rfl, k1⟩
  clear bx bo gK hz fx x0 x1 x2
  have bx := bx2.keep k1 id
  have bo := bo3.keep k1 id
  have gK := keepN gK2 k1
  clear bx2 bo3 gK2 k1
  obtain ⟨x0, x1, x2⟩ := blk_inst bx
  have hz := bo.lt
  have fo := fun i => bo.frozen i
  obtain ⟨o0, o1, o2⟩ := blk_inst bo
  go_wp2
  refine bodyPost_ret (v := .tuple #[instV 0 0 0, .int .i64 40]) (by simp [results, Tryz.results25, go_sem, o0, o1, o2]) rfl ⟨_, rfl, ?_, out3N gK (Nat.le_refl _) _ _ _⟩
  have hr := HR.out
  rw [hv.out] at hr
  exact hr

set_option maxRecDepth 100000 in
set_option maxHeartbeats 4000000 in
theorem rd_1y1yh (S : ByteArray) (s s0 s1 s2 : List UInt8) (n : Nat) (cs : List Value) (op ka kb A B : Int) (w : World)
    (HWd : Hid (∀ w, Calls Tryz.prog 58 #[.string S] w fun e w' => ∃ A c, e = .returned (.slice A n c) ∧ Rd w' A cs ∧ n ≤ c ∧ Keep NoB w w')) (hn0 : 0 < n)
    (hcs : Hid (cs.length = n ∧ cs[0]? = some (.string (str s0)) ∧ (1 < n → cs[1]? = some (.string (str s1))) ∧ (2 < n → cs[2]? = some (.string (str s2)))))
    (HO : Hid (∀ w, Calls Tryz.prog 17 #[.string (str s0)] w fun e w' => e = .returned (.tuple #[.int .i64 op, .int .i64 0]) ∧ Keep NoB w w'))
    (HKn : Hid (∀ w, Calls Tryz.prog 19 #[.int .i64 op] w fun e w' => e = .returned (.tuple #[.int .i64 ka, .int .i64 kb]) ∧ w = w'))
    (HN1 : Hid (∀ k w, Calls Tryz.prog 59 #[.int .i64 k, .string (str s1)] w fun e w' => e = .returned (.int .i64 (rgK k s1)) ∧ Keep NoB w w'))
    (HN2 : Hid (∀ k w, Calls Tryz.prog 59 #[.int .i64 k, .string (str s2)] w fun e w' => e = .returned (.int .i64 (rgK k s2)) ∧ Keep NoB w w'))
    (T : ByteArray) (HS : Hid (∀ w, Calls Tryz.prog 32 #[instV op A B] w fun e w' => e = .returned (.string T) ∧ Keep NoB w w'))
    (hq : (T.toList == S.toList) = true) (hA : Hid (A = rgK ka s1)) (hB : Hid (B = rgK kb s2)) (hka : decide (0 < ka) = true) (hn1 : 1 < n) (hkb : decide (0 < kb) = true) (hn2 : 2 < n) (v : Value) (hv : Hid (v = .tuple #[instV op A B, .int .i64 0])) (HR : Hid (ReadV s v)) :
    Calls Tryz.prog 25 #[.string S] w fun e w' => ∃ v, e = .returned v ∧ ReadV s v ∧ Keep NoB w w' := by
  have gK := (Keep.refl NoB w).alloc (.cells #[.int .i64 0, .int .i64 0, .int .i64 0] 23)
  have bo := Blk.new w 23 #[.int .i64 0, .int .i64 0, .int .i64 0]
  go_enter Tryz.func25, Tryz.ntmps25
  go_wp2_with fail
  refine (HWd.out _).mono ?_
  rintro e w1 ⟨Ad, c, rfl, HQ, hc, k1⟩
  replace gK := keepN gK k1
  replace bo := bo.keep k1 id
  clear k1
  obtain ⟨g, off, rfl, HQ2⟩ := HQ (by rw [hcs.out.1]; exact hn0)
  clear HQ
  have c0 : w1.cell? ⟨g, off, none⟩ = some (.string (str s0)) := HQ2 0 _ hcs.out.2.1
  have c1 : w1.cell? ⟨g, off + 1, none⟩ = some (.string (str s1)) := HQ2 1 _ (hcs.out.2.2.1 hn1)
  have c2 : w1.cell? ⟨g, off + 2, none⟩ = some (.string (str s2)) := HQ2 2 _ (hcs.out.2.2.2 hn2)
  clear HQ2
  go_wp2_with fail
  refine (HO.out _).mono ?_
  rintro e w2 ⟨rfl, k1⟩
  have hbx := (bo.keep k1 id).lt
  have hg := Nat.lt_of_lt_of_le (World.block_lt_of_cell? w1 _ c0) k1.size
  replace k1 := k1.alloc (.cells #[.int .i64 op, .int .i64 0, .int .i64 0] 23)
  replace gK := keepN gK k1
  replace bo := bo.keep k1 id
  replace c1 := k1.cell c1 id
  replace c2 := k1.cell c2 id
  have bx := Blk.new w2 23 #[.int .i64 op, .int .i64 0, .int .i64 0]
  clear k1 c0
  go_wp2_with fail
  refine (HKn.out _).mono ?_
  rintro e w3 ⟨rfl, rfl⟩
  go_wp2_with fail
  refine (HN1.out _ _).mono ?_
  rintro e w4 ⟨rfl, k1⟩
  replace gK := keepN gK k1
  replace bo := bo.keep k1 id
  replace bx := bx.keep k1 id
  replace c2 := k1.cell c2 id
  clear k1 c1
  rw [← hA.out]
  have hz := bx.lt
  have fx := fun i => bx.frozen i
  obtain ⟨x0, x1, x2⟩ := blk_inst bx
  have bx2 := bx.put 1 (.int .i64 A)
  have bo3 := bo.far (p := ⟨w2.heap.size, 1, none⟩) (by simp; omega) (.int .i64 A)
  have gK2 : Keep NoB w (w4.setCell ⟨w2.heap.size, 1, none⟩ (.int .i64 A)) := gK.setCell (fun h => absurd h (by simp; omega)) _
  have c3 : (w4.setCell ⟨w2.heap.size, 1, none⟩ (.int .i64 A)).cell? ⟨g, off + 2, none⟩ = some (.string (str s2)) := by
    exact (World.cell?_setCell_other _ _ _ _ (fun e => by injection e with e _ _; have hg : g < w2.heap.size := hg; omega)).trans c2
  go_wp2_with fail
  refine (HN2.out _ _).mono ?_
  rintro e w5 ⟨rfl, k1⟩
  clear bx bo gK hz fx x0 x1 x2
  have bx := bx2.keep k1 id
  have bo := bo3.keep k1 id
  have gK := keepN gK2 k1
  clear k1 bx2 bo3 gK2 c2 c3
  rw [← hB.out]
  have hz := bx.lt
  have fx := fun i => bx.frozen i
  obtain ⟨x0, x1, x2⟩ := blk_inst bx
  have bx2 := bx.put 2 (.int .i64 B)
  have bo3 := bo.far (p := ⟨w2.heap.size, 2, none⟩) (by simp; omega) (.int .i64 B)
  have gK2 := gK.setCell (p := ⟨w2.heap.size, 2, none⟩) (fun h => absurd h (by simp; omega)) (.int .i64 B)
  go_wp2_with fail
  refine (HS.out _).mono ?_
  rintro e w6 ⟨rfl, k1⟩
  clear bx bo gK hz fx x0 x1 x2
  have bx := bx2.keep k1 id
  have bo := bo3.keep k1 id
  have gK := keepN gK2 k1
  clear bx2 bo3 gK2 k1
  obtain ⟨x0, x1, x2⟩ := blk_inst bx
  have hz := bo.lt
  have fo := fun i => bo.frozen i
  obtain ⟨o0, o1, o2⟩ := blk_inst bo
  go_wp2
  refine bodyPost_ret (v := .tuple #[instV op A B, .int .i64 0]) (by simp [results, Tryz.results25, go_sem, o0, o1, o2]) rfl ⟨_, rfl, ?_, out3N gK (Nat.le_refl _) _ _ _⟩
  have hr := HR.out
  rw [hv.out] at hr
  exact hr

set_option maxRecDepth 100000 in
set_option maxHeartbeats 4000000 in
theorem rd_1y1ym (S : ByteArray) (s s0 s1 s2 : List UInt8) (n : Nat) (cs : List Value) (op ka kb A B : Int) (w : World)
    (HWd : Hid (∀ w, Calls Tryz.prog 58 #[.string S] w fun e w' => ∃ A c, e = .returned (.slice A n c) ∧ Rd w' A cs ∧ n ≤ c ∧ Keep NoB w w')) (hn0 : 0 < n)
    (hcs : Hid (cs.length = n ∧ cs[0]? = some (.string (str s0)) ∧ (1 < n → cs[1]? = some (.string (str s1))) ∧ (2 < n → cs[2]? = some (.string (str s2)))))
    (HO : Hid (∀ w, Calls Tryz.prog 17 #[.string (str s0)] w fun e w' => e = .returned (.tuple #[.int .i64 op, .int .i64 0]) ∧ Keep NoB w w'))
    (HKn : Hid (∀ w, Calls Tryz.prog 19 #[.int .i64 op] w fun e w' => e = .returned (.tuple #[.int .i64 ka, .int .i64 kb]) ∧ w = w'))
    (HN1 : Hid (∀ k w, Calls Tryz.prog 59 #[.int .i64 k, .string (str s1)] w fun e w' => e = .returned (.int .i64 (rgK k s1)) ∧ Keep NoB w w'))
    (HN2 : Hid (∀ k w, Calls Tryz.prog 59 #[.int .i64 k, .string (str s2)] w fun e w' => e = .returned (.int .i64 (rgK k s2)) ∧ Keep NoB w w'))
    (T : ByteArray) (HS : Hid (∀ w, Calls Tryz.prog 32 #[instV op A B] w fun e w' => e = .returned (.string T) ∧ Keep NoB w w'))
    (hq : (T.toList == S.toList) = false) (hA : Hid (A = rgK ka s1)) (hB : Hid (B = rgK kb s2)) (hka : decide (0 < ka) = true) (hn1 : 1 < n) (hkb : decide (0 < kb) = true) (hn2 : 2 < n) (v : Value) (hv : Hid (v = .tuple #[instV 0 0 0, .int .i64 40])) (HR : Hid (ReadV s v)) :
    Calls Tryz.prog 25 #[.string S] w fun e w' => ∃ v, e = .returned v ∧ ReadV s v ∧ Keep NoB w w' := by
  have gK := (Keep.refl NoB w).alloc (.cells #[.int .i64 0, .int .i64 0, .int .i64 0] 23)
  have bo := Blk.new w 23 #[.int .i64 0, .int .i64 0, .int .i64 0]
  go_enter Tryz.func25, Tryz.ntmps25
  go_wp2_with fail
  refine (HWd.out _).mono ?_
  rintro e w1 ⟨Ad, c, rfl, HQ, hc, k1⟩
  replace gK := keepN gK k1
  replace bo := bo.keep k1 id
  clear k1
  obtain ⟨g, off, rfl, HQ2⟩ := HQ (by rw [hcs.out.1]; exact hn0)
  clear HQ
  have c0 : w1.cell? ⟨g, off, none⟩ = some (.string (str s0)) := HQ2 0 _ hcs.out.2.1
  have c1 : w1.cell? ⟨g, off + 1, none⟩ = some (.string (str s1)) := HQ2 1 _ (hcs.out.2.2.1 hn1)
  have c2 : w1.cell? ⟨g, off + 2, none⟩ = some (.string (str s2)) := HQ2 2 _ (hcs.out.2.2.2 hn2)
  clear HQ2
  go_wp2_with fail
  refine (HO.out _).mono ?_
  rintro e w2 ⟨rfl, k1⟩
  have hbx := (bo.keep k1 id).lt
  have hg := Nat.lt_of_lt_of_le (World.block_lt_of_cell? w1 _ c0) k1.size
  replace k1 := k1.alloc (.cells #[.int .i64 op, .int .i64 0, .int .i64 0] 23)
  replace gK := keepN gK k1
  replace bo := bo.keep k1 id
  replace c1 := k1.cell c1 id
  replace c2 := k1.cell c2 id
  have bx := Blk.new w2 23 #[.int .i64 op, .int .i64 0, .int .i64 0]
  clear k1 c0
  go_wp2_with fail
  refine (HKn.out _).mono ?_
  rintro e w3 ⟨rfl, rfl⟩
  go_wp2_with fail
  refine (HN1.out _ _).mono ?_
  rintro e w4 ⟨rfl, k1⟩
  replace gK := keepN gK k1
  replace bo := bo.keep k1 id
  replace bx := bx.keep k1 id
  replace c2 := k1.cell c2 id
  clear k1 c1
  rw [← hA.out]
  have hz := bx.lt
  have fx := fun i => bx.frozen i
  obtain ⟨x0, x1, x2⟩ := blk_inst bx
  have bx2 := bx.put 1 (.int .i64 A)
  have bo3 := bo.far (p := ⟨w2.heap.size, 1, none⟩) (by simp; omega) (.int .i64 A)
  have gK2 : Keep NoB w (w4.setCell ⟨w2.heap.size, 1, none⟩ (.int .i64 A)) := gK.setCell (fun h => absurd h (by simp; omega)) _
  have c3 : (w4.setCell ⟨w2.heap.size, 1, none⟩ (.int .i64 A)).cell? ⟨g, off + 2, none⟩ = some (.string (str s2)) := by
    exact (World.cell?_setCell_other _ _ _ _ (fun e => by injection e with e _ _; have hg : g < w2.heap.size := hg; omega)).trans c2
  go_wp2_with fail
  refine (HN2.out _ _).mono ?_
  rintro e w5 ⟨rfl, k1⟩
  clear bx bo gK hz fx x0 x1 x2
  have bx := bx2.keep k1 id
  have bo := bo3.keep k1 id
  have gK := keepN gK2 k1
  clear k1 bx2 bo3 gK2 c2 c3
  rw [← hB.out]
  have hz := bx.lt
  have fx := fun i => bx.frozen i
  obtain ⟨x0, x1, x2⟩ := blk_inst bx
  have bx2 := bx.put 2 (.int .i64 B)
  have bo3 := bo.far (p := ⟨w2.heap.size, 2, none⟩) (by simp; omega) (.int .i64 B)
  have gK2 := gK.setCell (p := ⟨w2.heap.size, 2, none⟩) (fun h => absurd h (by simp; omega)) (.int .i64 B)
  go_wp2_with fail
  refine (HS.out _).mono ?_
  rintro e w6 ⟨rfl, k1⟩
  clear bx bo gK hz fx x0 x1 x2
  have bx := bx2.keep k1 id
  have bo := bo3.keep k1 id
  have gK := keepN gK2 k1
  clear bx2 bo3 gK2 k1
  obtain ⟨x0, x1, x2⟩ := blk_inst bx
  have hz := bo.lt
  have fo := fun i => bo.frozen i
  obtain ⟨o0, o1, o2⟩ := blk_inst bo
  go_wp2
  refine bodyPost_ret (v := .tuple #[instV 0 0 0, .int .i64 40]) (by simp [results, Tryz.results25, go_sem, o0, o1, o2]) rfl ⟨_, rfl, ?_, out3N gK (Nat.le_refl _) _ _ _⟩
  have hr := HR.out
  rw [hv.out] at hr
  exact hr

theorem rread_nameless (S : ByteArray) (s s0 : List UInt8) (n : Nat) (cs : List Value) (w : World)
    (HWd : Hid (∀ w, Calls Tryz.prog 58 #[.string S] w fun e w' => ∃ A c, e = .returned (.slice A n c) ∧ Rd w' A cs ∧ n ≤ c ∧ Keep NoB w w')) (hn0 : 0 < n) (hcs : Hid (cs.length = n ∧ cs[0]? = some (.string (str s0))))
    (HO : Hid (∀ w, Calls Tryz.prog 17 #[.string (str s0)] w fun e w' => e = .returned (.tuple #[.int .i64 0, .int .i64 40]) ∧ Keep NoB w w')) (HR : Hid (ReadV s (.tuple #[instV 0 0 0, .int .i64 40]))) :
    Calls Tryz.prog 25 #[.string S] w fun e w' => ∃ v, e = .returned v ∧ ReadV s v ∧ Keep NoB w w' := by
  have gK := (Keep.refl NoB w).alloc (.cells #[.int .i64 0, .int .i64 0, .int .i64 0] 23)
  have bo := Blk.new w 23 #[.int .i64 0, .int .i64 0, .int .i64 0]
  go_enter Tryz.func25, Tryz.ntmps25
  go_wp2_with fail
  refine (HWd.out _).mono ?_
  rintro e w1 ⟨Ad, c, rfl, HQ, hc, k1⟩
  replace gK := keepN gK k1
  replace bo := bo.keep k1 id
  clear k1
  obtain ⟨g, off, rfl, HQ2⟩ := HQ (by rw [hcs.out.1]; exact hn0)
  have c0 : w1.cell? ⟨g, off, none⟩ = some (.string (str s0)) := HQ2 0 _ hcs.out.2
  clear HQ HQ2
  go_wp2_with fail
  refine (HO.out _).mono ?_
  rintro e w2 ⟨rfl, k1⟩
  replace gK := keepN gK k1
  replace bo := bo.keep k1 id
  clear k1 c0
  have hz := bo.lt
  have fo := fun i => bo.frozen i
  obtain ⟨o0, o1, o2⟩ := blk_inst bo
  go_wp2
  exact bodyPost_ret (v := .tuple #[instV 0 0 0, .int .i64 40]) (by simp [results, Tryz.results25, go_sem, o0, o1, o2]) rfl ⟨_, rfl, HR.out, out3N gK (Nat.le_refl _) _ _ _⟩

theorem rread_text (S : ByteArray) (s : List UInt8) (w : World) (hs : S.data.toList = s) (hl : S.size ≤ 1000) :
    Calls Tryz.prog 25 #[.string S] w fun e w' => ∃ v, e = .returned v ∧ ReadV s v ∧ Keep NoB w w' := by
  have hsz := _root_.Go.Proofs.YtpkcjokkadfhcaaGreatDoor.W.size_of hs
  have HWd := Lib.hid (fun w => words_any S s w hs hl)
  have hn0 := splitL_pos s
  have HO := Lib.hid (fun w => rof_any (str ((splitL s).getD 0 [])) w)
  have hcs : (sv (splitL s)).length = (splitL s).length ∧ (sv (splitL s))[0]? = some (.string (str ((splitL s).getD 0 []))) ∧ (1 < (splitL s).length → (sv (splitL s))[1]? = some (.string (str ((splitL s).getD 1 [])))) ∧
      (2 < (splitL s).length → (sv (splitL s))[2]? = some (.string (str ((splitL s).getD 2 [])))) := ⟨by simp [sv], sv_get hn0, fun h => sv_get h, fun h => sv_get h⟩
  rcases findI_spec (str ((splitL s).getD 0 [])) with ⟨hf, _⟩ | ⟨ho, hn⟩
  · have e1 : ofN (str ((splitL s).getD 0 [])) = 0 := by unfold ofN; rw [if_pos (by omega)]
    have e2 : ofE (str ((splitL s).getD 0 [])) = 40 := by unfold ofE; rw [if_pos (by omega)]
    rw [e1, e2] at HO
    exact rread_nameless S s _ _ _ w HWd hn0 ⟨hcs.1, hcs.2.1⟩ HO (words_nameless (by omega))
  · have hb := isOp_yes ho
    have e1 : ofN (str ((splitL s).getD 0 [])) = findI (str ((splitL s).getD 0 [])) := by unfold ofN; rw [if_neg (by omega)]
    have e2 : ofE (str ((splitL s).getD 0 [])) = 0 := by unfold ofE; rw [if_neg (by omega)]
    rw [e1, e2] at HO
    obtain ⟨op, hop⟩ : ∃ op, findI (str ((splitL s).getD 0 [])) = op := ⟨_, rfl⟩
    rw [hop] at HO ho hn
    have HKn := Lib.hid (fun w => rkinds_any op w)
    have HN1 := Lib.hid (fun k w => rnum_any k (str ((splitL s).getD 1 [])) _ w (str_list _) (by rw [str_size]; have := splitL_get s 1; omega))
    have HN2 := Lib.hid (fun k w => rnum_any k (str ((splitL s).getD 2 [])) _ w (str_list _) (by rw [str_size]; have := splitL_get s 2; omega))
    have HS := Lib.hid (fun w => rshow_any op (rgA op (splitL s)) (rgB op (splitL s)) w (rgA_bounds _ _) (rgB_bounds _ _))
    have hkk := kinds_ok op
    have hkn := kinds_none op
    have eA : rgA op (splitL s) = if (rowAt op).ka = 0 ∨ (splitL s).length ≤ 1 then 0 else rgK (rowAt op).ka ((splitL s).getD 1 []) := rfl
    have eB : rgB op (splitL s) = if (rowAt op).kb = 0 ∨ (splitL s).length ≤ 2 then 0 else rgK (rowAt op).kb ((splitL s).getD 2 []) := rfl
    have hz : ∀ k : Int, 0 ≤ k → k ≠ 0 → decide (0 < k) = true := fun k h1 h2 => by rw [decide_eq_true_iff]; omega
    by_cases ht : showI op (rgA op (splitL s)) (rgB op (splitL s)) = s
    · have hq : ((str (showI op (rgA op (splitL s)) (rgB op (splitL s)))).toList == S.toList) = true := by rw [eq_text hs]; exact decide_eq_true ht
      have HR := Lib.hid (words_yes ho hn ht)
      clear ht
      by_cases h0 : (rowAt op).ka = 0
      · have h00 := hkn h0
        rw [if_pos (.inl h0)] at eA
        rw [if_pos (.inl h00)] at eB
        exact rd_00h S s _ _ _ _ _ op _ _ _ _ w HWd hn0 hcs HO HKn HN1 HN2 _ HS hq eA eB (by rw [h0]; rfl) (by rw [h00]; rfl) _ rfl HR
      · by_cases h1 : (rowAt op).kb = 0
        · rw [if_pos (.inl h1)] at eB
          by_cases hn1 : 1 < (splitL s).length
          · rw [if_neg (by omega)] at eA
            exact rd_1y0h S s _ _ _ _ _ op _ _ _ _ w HWd hn0 hcs HO HKn HN1 HN2 _ HS hq eA eB (hz _ hkk.1 h0) hn1 (by rw [h1]; rfl) _ rfl HR
          · rw [if_pos (.inr (by omega))] at eA
            exact rd_1n0h S s _ _ _ _ _ op _ _ _ _ w HWd hn0 hcs HO HKn HN1 HN2 _ HS hq eA eB (hz _ hkk.1 h0) (by omega) (by rw [h1]; rfl) _ rfl HR
        · by_cases hn1 : 1 < (splitL s).length
          · rw [if_neg (by omega)] at eA
            by_cases hn2 : 2 < (splitL s).length
            · rw [if_neg (by omega)] at eB
              exact rd_1y1yh S s _ _ _ _ _ op _ _ _ _ w HWd hn0 hcs HO HKn HN1 HN2 _ HS hq eA eB (hz _ hkk.1 h0) hn1 (hz _ hkk.2.2.1 h1) hn2 _ rfl HR
            · rw [if_pos (.inr (by omega))] at eB
              exact rd_1y1nh S s _ _ _ _ _ op _ _ _ _ w HWd hn0 hcs HO HKn HN1 HN2 _ HS hq eA eB (hz _ hkk.1 h0) hn1 (hz _ hkk.2.2.1 h1) (by omega) _ rfl HR
          · rw [if_pos (.inr (by omega))] at eA
            rw [if_pos (.inr (by omega))] at eB
            exact rd_1n1h S s _ _ _ _ _ op _ _ _ _ w HWd hn0 hcs HO HKn HN1 HN2 _ HS hq eA eB (hz _ hkk.1 h0) (by omega) (hz _ hkk.2.2.1 h1) (by omega) _ rfl HR
    · have hq : ((str (showI op (rgA op (splitL s)) (rgB op (splitL s)))).toList == S.toList) = false := by rw [eq_text hs]; exact decide_eq_false ht
      have HR := Lib.hid (words_miss hop ht)
      clear ht
      by_cases h0 : (rowAt op).ka = 0
      · have h00 := hkn h0
        rw [if_pos (.inl h0)] at eA
        rw [if_pos (.inl h00)] at eB
        exact rd_00m S s _ _ _ _ _ op _ _ _ _ w HWd hn0 hcs HO HKn HN1 HN2 _ HS hq eA eB (by rw [h0]; rfl) (by rw [h00]; rfl) _ rfl HR
      · by_cases h1 : (rowAt op).kb = 0
        · rw [if_pos (.inl h1)] at eB
          by_cases hn1 : 1 < (splitL s).length
          · rw [if_neg (by omega)] at eA
            exact rd_1y0m S s _ _ _ _ _ op _ _ _ _ w HWd hn0 hcs HO HKn HN1 HN2 _ HS hq eA eB (hz _ hkk.1 h0) hn1 (by rw [h1]; rfl) _ rfl HR
          · rw [if_pos (.inr (by omega))] at eA
            exact rd_1n0m S s _ _ _ _ _ op _ _ _ _ w HWd hn0 hcs HO HKn HN1 HN2 _ HS hq eA eB (hz _ hkk.1 h0) (by omega) (by rw [h1]; rfl) _ rfl HR
        · by_cases hn1 : 1 < (splitL s).length
          · rw [if_neg (by omega)] at eA
            by_cases hn2 : 2 < (splitL s).length
            · rw [if_neg (by omega)] at eB
              exact rd_1y1ym S s _ _ _ _ _ op _ _ _ _ w HWd hn0 hcs HO HKn HN1 HN2 _ HS hq eA eB (hz _ hkk.1 h0) hn1 (hz _ hkk.2.2.1 h1) hn2 _ rfl HR
            · rw [if_pos (.inr (by omega))] at eB
              exact rd_1y1nm S s _ _ _ _ _ op _ _ _ _ w HWd hn0 hcs HO HKn HN1 HN2 _ HS hq eA eB (hz _ hkk.1 h0) hn1 (hz _ hkk.2.2.1 h1) (by omega) _ rfl HR
          · rw [if_pos (.inr (by omega))] at eA
            rw [if_pos (.inr (by omega))] at eB
            exact rd_1n1m S s _ _ _ _ _ op _ _ _ _ w HWd hn0 hcs HO HKn HN1 HN2 _ HS hq eA eB (hz _ hkk.1 h0) (by omega) (hz _ hkk.2.2.1 h1) (by omega) _ rfl HR

end Go.Proofs.YtpkcjokkadfhcaaGreatDoor.O
