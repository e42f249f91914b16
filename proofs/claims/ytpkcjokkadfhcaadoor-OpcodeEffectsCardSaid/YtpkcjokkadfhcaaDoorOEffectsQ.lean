/-
  OpcodeEffects' walk, where it is not. Conditions: the listed package-level variables hold what their initialisers lay.
-/
import Derived.Test.YtpkcjokkadfhcaaDoorOEffects0
namespace Go.Proofs.YtpkcjokkadfhcaaDoor.O
open Go.RowKit

set_option maxRecDepth 100000 in
set_option maxHeartbeats 4000000 in
theorem effects_Q_D (op a b op' a' b' : Int) (w : World) (hL : Hid (LaidO w)) (tl ll : List Int) (n m : Nat) (hx : Hid ((takesI op a b = tl ∧ leavesI op a b = ll) ∧ (fixedI op a b = false ∧ tl.length = n ∧ ll.length = m))) (hc : Hid (chk op a b = 0)) (he : Hid (endsI op a b = false)) (gn : Int) (hg : Hid (goesN op a b = gn ∧ goesI op a b = false)) (hn : n ≤ 2) (hm : m ≤ 2) (dn : decide ((2 : Int) < (n : Int)) = false) (dm : decide ((2 : Int) < (m : Int)) = false) (hk : Hid (∀ t ∈ tl ++ ll, W.knownB t = true)) (e0 : (op' != op) = true) :
    Calls Tryd.prog 3 #[instV op a b, instV op' a' b'] w fun e w' => e = .returned (.bool true) ∧ Keep NoB w w' := by
  obtain ⟨i0, hi, hz0, hz1, hz2⟩ := info_parts int_info
  have bx0 := (Blk.new w 23 #[.int .i64 op, .int .i64 a, .int .i64 b]).alloc (.cells #[.int .i64 op', .int .i64 a', .int .i64 b'] 23)
  have by0 := Blk.new (w.alloc (.cells #[.int .i64 op, .int .i64 a, .int .i64 b] 23)) 23 #[.int .i64 op', .int .i64 a', .int .i64 b']
  rw [World.size_alloc] at by0
  have gK := ((Keep.refl NoB w).alloc (.cells #[.int .i64 op, .int .i64 a, .int .i64 b] 23)).alloc (.cells #[.int .i64 op', .int .i64 a', .int .i64 b'] 23)
  go_enter Tryd.func3, Tryd.ntmps3
  go_wp2_with fail
  refine (alive_any _ (hL.out.keep gK)).mono ?_
  rintro e w1 ⟨rfl, k1⟩
  have bx := bx0.keep k1 id
  have by_ := by0.keep k1 id
  replace gK := keepN gK k1
  have x0 : w1.cell? ⟨w.heap.size, 0, none⟩ = some (.int .i64 op) := bx.cell 0
  have x1 : w1.cell? ⟨w.heap.size, 1, none⟩ = some (.int .i64 a) := bx.cell 1
  have x2 : w1.cell? ⟨w.heap.size, 2, none⟩ = some (.int .i64 b) := bx.cell 2
  clear bx0 by0 k1
  go_wp2_with fail
  refine (eff_gen op a b tl ll n m false _ hx).mono ?_
  rintro e w2 ⟨A, c, B, d, rfl, hT, hV, k2⟩
  have bx2 := bx.keep k2 id
  have by2 := by_.keep k2 id
  replace gK := keepN gK k2
  clear k2 bx by_ x0 x1 x2
  have x0 : w2.cell? ⟨w.heap.size, 0, none⟩ = some (.int .i64 op) := bx2.cell 0
  have x1 : w2.cell? ⟨w.heap.size, 1, none⟩ = some (.int .i64 a) := bx2.cell 1
  have x2 : w2.cell? ⟨w.heap.size, 2, none⟩ = some (.int .i64 b) := bx2.cell 2
  go_wp2_with fail
  refine (check_gen2 op a b 0 _ hc).mono ?_
  rintro e w3 ⟨rfl, k3⟩
  have bx := bx2.keep k3 id
  have by_ := by2.keep k3 id
  replace gK := keepN gK k3
  have hT3 := hT.keepN k3
  have hV3 := hV.keepN k3
  clear k3 bx2 by2 x0 x1 x2 hT hV
  have hM := World.ownsRow_made (e := 3) (size := 1) (base := 0) w3 #[] 0 (Nat.zero_le _) (Nat.zero_le _) rfl
  have hT4 := hT3.keepN ((Keep.refl NoB w3).alloc (.cells #[] 3))
  have hlT : Hid ((ivs tl).length = n * 1) := by show _ = _; simp [ivs, hx.out.2.2.1]
  have hlV : Hid ((ivs ll).length = m * 1) := by show _ = _; simp [ivs, hx.out.2.2.2]
  go_wp2_with (at_builtin; refine wpList_append_rd _ rfl (.tmp 46) (.tmp 47) _ rfl 3 1 8 i0 _ Tryd.underlying25 hi hz0 hz1 hz2 rfl (by decide) _ 0 [] _ n _ (ivs tl) rfl hM rfl hT4 hlT.out (ivs_one tl) (by unfold maxLen; omega) (by omega) ?_)
  intro B1 d1 w4 hrow4 hg4 hv4
  have hO4 : Own w4 3 1 (Fresh w3) (.slice B1 n d1) n (ivs tl) ∧ Keep NoB w3 w4 := W.own_after (W := w3.alloc (.cells #[] 3)) (v := .slice (some ⟨w3.heap.size, 0, none⟩) 0 0) (fun g e => by simp [Value.ownBlock] at e; subst e; simp [Fresh]) ((Keep.refl NoB w3).alloc _) hg4 (by simpa [World.size_alloc] using hv4) (by simpa using hrow4)
  clear hrow4 hg4 hv4 hM hT4
  obtain ⟨hO4, k4⟩ := hO4
  have hV4 := hV3.keepN k4
  have bx4 := bx.keep k4 id
  have by4 := by_.keep k4 id
  have gK4 := keepN gK k4
  go_wp2_with (at_builtin; refine wpList_append_rd _ rfl (.tmp 48) (.tmp 49) _ rfl 3 1 8 i0 _ Tryd.underlying25 hi hz0 hz1 hz2 rfl (by decide) _ n (ivs tl) _ m _ (ivs ll) rfl hO4.1 rfl hV4 hlV.out (ivs_one ll) (by unfold maxLen; omega) (by omega) ?_)
  intro B2 d2 w5 hrow5 hg5 hv5
  have hO5 : Own w5 3 1 (Fresh w3) (.slice B2 (n + m) d2) (n + m) (ivs tl ++ ivs ll) ∧ Keep NoB w3 w5 := W.own_after hO4.2 k4 hg5 hv5 hrow5
  clear hrow5 hg5 hv5 hO4 k4 hV4 bx4 by4 gK4
  obtain ⟨hO5, k5⟩ := hO5
  have hR5 : Rd w5 B2 (ivs (tl ++ ll)) := by have := rd_of hO5; rwa [← ivs_app] at this
  have hT5 := hT3.keepN k5
  have hV5 := hV3.keepN k5
  have bx5 := bx.keep k5 id
  have by5 := by_.keep k5 id
  replace gK := keepN gK k5
  have hN : Hid ((tl ++ ll).length = n + m) := by show _ = _; rw [List.length_append, hx.out.2.2.1, hx.out.2.2.2]
  clear k5 hO5 bx by_ hT3 hV3
  have hN4 : n + m ≤ 4 := by omega
  generalize n + m = N at hN hN4 ⊢
  go_wp2_with fail
  go_loopw [10, 52] (fun _ i wr => ∃ k : Nat, k ≤ N ∧ i = .int .i64 (k : Int) ∧ Keep NoB w5 wr) (fun _ i _ => N - (intOf i).toNat)
  case atStart => exact ⟨0, Nat.zero_le _, rfl, Keep.refl _ _⟩
  case round =>
    obtain ⟨k, hkN, rfl, hK⟩ := hrel
    by_cases hlt : k < N
    · have hka : k < (tl ++ ll).length := by rw [hN.out]; exact hlt
      obtain ⟨ga, oa, rfl, hca⟩ := rdI_at hR5 (by omega)
      have ca := hK.cell (hca k hka) id
      have HN : Hid (W.knownB (tl ++ ll)[k] = true) := hk.out _ (List.getElem_mem hka)
      clear hca
      generalize (tl ++ ll)[k] = y at ca HN
      have hy : Hid (∀ w, Calls Tryd.prog 9 #[.int .i64 y] w fun e w' => e = .returned (.bool true) ∧ w = w') := fun w => by have := W.known_any y w; rwa [HN.out] at this
      go_wp2_with fail
      refine (hy.out _).mono ?_
      rintro e w6 ⟨rfl, rfl⟩
      go_wp2
      go_roundw
      case rel => exact ⟨k + 1, by omega, by go_num, hK⟩
      case measure => simp [intOf]; omega
    · have bx := bx5.keep hK id
      have by_ := by5.keep hK id
      replace gK := keepN gK hK
      have hT := hT5.keepN hK
      have hV := hV5.keepN hK
      obtain ⟨x0, x1, x2⟩ := blk3 bx
      clear bx5 by5 hK hT5 hV5 hR5 hN hN4 hk
      go_wp2_with fail
      refine (goes_gen op a b gn false _ hg).mono ?_
      clear hlt hkN
      rintro e w7 ⟨rfl, k7⟩
      have bx7 := bx.keep k7 id
      have by7 := by_.keep k7 id
      replace gK := keepN gK k7
      have hT7 := hT.keepN k7
      have hV7 := hV.keepN k7
      clear k7 bx by_ hT hV x0 x1 x2
      obtain ⟨x0, x1, x2⟩ := blk3 bx7
      go_wp2_with fail
      refine (ends_gen op a b false _ he).mono ?_
      rintro e w8 ⟨rfl, k8⟩
      have bx := bx7.keep k8 id
      have by_ := by7.keep k8 id
      replace gK := keepN gK k8
      have hT := hT7.keepN k8
      have hV := hV7.keepN k8
      clear k8 bx7 by7 hT7 hV7 x0 x1 x2
      obtain ⟨x0, x1, x2⟩ := blk3 bx
      obtain ⟨y0, y1, y2⟩ := blk3 by_
      go_wp2
      go_ret
      exact ⟨rfl, gK⟩

set_option maxRecDepth 100000 in
set_option maxHeartbeats 4000000 in
theorem effects_Q_Y (op a b op' a' b' : Int) (w : World) (hL : Hid (LaidO w)) (tl ll : List Int) (n m : Nat) (hx : Hid ((takesI op a b = tl ∧ leavesI op a b = ll) ∧ (fixedI op a b = false ∧ tl.length = n ∧ ll.length = m))) (hc : Hid (chk op a b = 0)) (he : Hid (endsI op a b = false)) (gn : Int) (hg : Hid (goesN op a b = gn ∧ goesI op a b = false)) (hn : n ≤ 2) (hm : m ≤ 2) (dn : decide ((2 : Int) < (n : Int)) = false) (dm : decide ((2 : Int) < (m : Int)) = false) (hk : Hid (∀ t ∈ tl ++ ll, W.knownB t = true)) (e0 : (op' != op) = false) (hc' : Hid (chk op' a' b' = 40)) :
    Calls Tryd.prog 3 #[instV op a b, instV op' a' b'] w fun e w' => e = .returned (.bool true) ∧ Keep NoB w w' := by
  obtain ⟨i0, hi, hz0, hz1, hz2⟩ := info_parts int_info
  have bx0 := (Blk.new w 23 #[.int .i64 op, .int .i64 a, .int .i64 b]).alloc (.cells #[.int .i64 op', .int .i64 a', .int .i64 b'] 23)
  have by0 := Blk.new (w.alloc (.cells #[.int .i64 op, .int .i64 a, .int .i64 b] 23)) 23 #[.int .i64 op', .int .i64 a', .int .i64 b']
  rw [World.size_alloc] at by0
  have gK := ((Keep.refl NoB w).alloc (.cells #[.int .i64 op, .int .i64 a, .int .i64 b] 23)).alloc (.cells #[.int .i64 op', .int .i64 a', .int .i64 b'] 23)
  go_enter Tryd.func3, Tryd.ntmps3
  go_wp2_with fail
  refine (alive_any _ (hL.out.keep gK)).mono ?_
  rintro e w1 ⟨rfl, k1⟩
  have bx := bx0.keep k1 id
  have by_ := by0.keep k1 id
  replace gK := keepN gK k1
  have x0 : w1.cell? ⟨w.heap.size, 0, none⟩ = some (.int .i64 op) := bx.cell 0
  have x1 : w1.cell? ⟨w.heap.size, 1, none⟩ = some (.int .i64 a) := bx.cell 1
  have x2 : w1.cell? ⟨w.heap.size, 2, none⟩ = some (.int .i64 b) := bx.cell 2
  clear bx0 by0 k1
  go_wp2_with fail
  refine (eff_gen op a b tl ll n m false _ hx).mono ?_
  rintro e w2 ⟨A, c, B, d, rfl, hT, hV, k2⟩
  have bx2 := bx.keep k2 id
  have by2 := by_.keep k2 id
  replace gK := keepN gK k2
  clear k2 bx by_ x0 x1 x2
  have x0 : w2.cell? ⟨w.heap.size, 0, none⟩ = some (.int .i64 op) := bx2.cell 0
  have x1 : w2.cell? ⟨w.heap.size, 1, none⟩ = some (.int .i64 a) := bx2.cell 1
  have x2 : w2.cell? ⟨w.heap.size, 2, none⟩ = some (.int .i64 b) := bx2.cell 2
  go_wp2_with fail
  refine (check_gen2 op a b 0 _ hc).mono ?_
  rintro e w3 ⟨rfl, k3⟩
  have bx := bx2.keep k3 id
  have by_ := by2.keep k3 id
  replace gK := keepN gK k3
  have hT3 := hT.keepN k3
  have hV3 := hV.keepN k3
  clear k3 bx2 by2 x0 x1 x2 hT hV
  have hM := World.ownsRow_made (e := 3) (size := 1) (base := 0) w3 #[] 0 (Nat.zero_le _) (Nat.zero_le _) rfl
  have hT4 := hT3.keepN ((Keep.refl NoB w3).alloc (.cells #[] 3))
  have hlT : Hid ((ivs tl).length = n * 1) := by show _ = _; simp [ivs, hx.out.2.2.1]
  have hlV : Hid ((ivs ll).length = m * 1) := by show _ = _; simp [ivs, hx.out.2.2.2]
  go_wp2_with (at_builtin; refine wpList_append_rd _ rfl (.tmp 46) (.tmp 47) _ rfl 3 1 8 i0 _ Tryd.underlying25 hi hz0 hz1 hz2 rfl (by decide) _ 0 [] _ n _ (ivs tl) rfl hM rfl hT4 hlT.out (ivs_one tl) (by unfold maxLen; omega) (by omega) ?_)
  intro B1 d1 w4 hrow4 hg4 hv4
  have hO4 : Own w4 3 1 (Fresh w3) (.slice B1 n d1) n (ivs tl) ∧ Keep NoB w3 w4 := W.own_after (W := w3.alloc (.cells #[] 3)) (v := .slice (some ⟨w3.heap.size, 0, none⟩) 0 0) (fun g e => by simp [Value.ownBlock] at e; subst e; simp [Fresh]) ((Keep.refl NoB w3).alloc _) hg4 (by simpa [World.size_alloc] using hv4) (by simpa using hrow4)
  clear hrow4 hg4 hv4 hM hT4
  obtain ⟨hO4, k4⟩ := hO4
  have hV4 := hV3.keepN k4
  have bx4 := bx.keep k4 id
  have by4 := by_.keep k4 id
  have gK4 := keepN gK k4
  go_wp2_with (at_builtin; refine wpList_append_rd _ rfl (.tmp 48) (.tmp 49) _ rfl 3 1 8 i0 _ Tryd.underlying25 hi hz0 hz1 hz2 rfl (by decide) _ n (ivs tl) _ m _ (ivs ll) rfl hO4.1 rfl hV4 hlV.out (ivs_one ll) (by unfold maxLen; omega) (by omega) ?_)
  intro B2 d2 w5 hrow5 hg5 hv5
  have hO5 : Own w5 3 1 (Fresh w3) (.slice B2 (n + m) d2) (n + m) (ivs tl ++ ivs ll) ∧ Keep NoB w3 w5 := W.own_after hO4.2 k4 hg5 hv5 hrow5
  clear hrow5 hg5 hv5 hO4 k4 hV4 bx4 by4 gK4
  obtain ⟨hO5, k5⟩ := hO5
  have hR5 : Rd w5 B2 (ivs (tl ++ ll)) := by have := rd_of hO5; rwa [← ivs_app] at this
  have hT5 := hT3.keepN k5
  have hV5 := hV3.keepN k5
  have bx5 := bx.keep k5 id
  have by5 := by_.keep k5 id
  replace gK := keepN gK k5
  have hN : Hid ((tl ++ ll).length = n + m) := by show _ = _; rw [List.length_append, hx.out.2.2.1, hx.out.2.2.2]
  clear k5 hO5 bx by_ hT3 hV3
  have hN4 : n + m ≤ 4 := by omega
  generalize n + m = N at hN hN4 ⊢
  go_wp2_with fail
  go_loopw [10, 52] (fun _ i wr => ∃ k : Nat, k ≤ N ∧ i = .int .i64 (k : Int) ∧ Keep NoB w5 wr) (fun _ i _ => N - (intOf i).toNat)
  case atStart => exact ⟨0, Nat.zero_le _, rfl, Keep.refl _ _⟩
  case round =>
    obtain ⟨k, hkN, rfl, hK⟩ := hrel
    by_cases hlt : k < N
    · have hka : k < (tl ++ ll).length := by rw [hN.out]; exact hlt
      obtain ⟨ga, oa, rfl, hca⟩ := rdI_at hR5 (by omega)
      have ca := hK.cell (hca k hka) id
      have HN : Hid (W.knownB (tl ++ ll)[k] = true) := hk.out _ (List.getElem_mem hka)
      clear hca
      generalize (tl ++ ll)[k] = y at ca HN
      have hy : Hid (∀ w, Calls Tryd.prog 9 #[.int .i64 y] w fun e w' => e = .returned (.bool true) ∧ w = w') := fun w => by have := W.known_any y w; rwa [HN.out] at this
      go_wp2_with fail
      refine (hy.out _).mono ?_
      rintro e w6 ⟨rfl, rfl⟩
      go_wp2
      go_roundw
      case rel => exact ⟨k + 1, by omega, by go_num, hK⟩
      case measure => simp [intOf]; omega
    · have bx := bx5.keep hK id
      have by_ := by5.keep hK id
      replace gK := keepN gK hK
      have hT := hT5.keepN hK
      have hV := hV5.keepN hK
      obtain ⟨x0, x1, x2⟩ := blk3 bx
      clear bx5 by5 hK hT5 hV5 hR5 hN hN4 hk
      go_wp2_with fail
      refine (goes_gen op a b gn false _ hg).mono ?_
      clear hlt hkN
      rintro e w7 ⟨rfl, k7⟩
      have bx7 := bx.keep k7 id
      have by7 := by_.keep k7 id
      replace gK := keepN gK k7
      have hT7 := hT.keepN k7
      have hV7 := hV.keepN k7
      clear k7 bx by_ hT hV x0 x1 x2
      obtain ⟨x0, x1, x2⟩ := blk3 bx7
      go_wp2_with fail
      refine (ends_gen op a b false _ he).mono ?_
      rintro e w8 ⟨rfl, k8⟩
      have bx := bx7.keep k8 id
      have by_ := by7.keep k8 id
      replace gK := keepN gK k8
      have hT := hT7.keepN k8
      have hV := hV7.keepN k8
      clear k8 bx7 by7 hT7 hV7 x0 x1 x2
      obtain ⟨x0, x1, x2⟩ := blk3 bx
      obtain ⟨y0, y1, y2⟩ := blk3 by_
      go_wp2_with fail
      refine (check_gen2 op a b 0 _ hc).mono ?_
      rintro e w9 ⟨rfl, k9⟩
      have bx9 := bx.keep k9 id
      have by9 := by_.keep k9 id
      replace gK := keepN gK k9
      have hT9 := hT.keepN k9
      have hV9 := hV.keepN k9
      clear k9 bx by_ hT hV x0 x1 x2 y0 y1 y2
      obtain ⟨y0, y1, y2⟩ := blk3 by9
      go_wp2_with fail
      refine (check_gen2 op' a' b' 40 _ hc').mono ?_
      rintro e w10 ⟨rfl, k10⟩
      go_wp2
      go_ret
      exact ⟨rfl, keepN gK k10⟩

set_option maxRecDepth 100000 in
set_option maxHeartbeats 4000000 in
theorem effects_Q_S0 (op a b op' a' b' : Int) (w : World) (hL : Hid (LaidO w)) (tl ll : List Int) (n m : Nat) (hx : Hid ((takesI op a b = tl ∧ leavesI op a b = ll) ∧ (fixedI op a b = false ∧ tl.length = n ∧ ll.length = m))) (hc : Hid (chk op a b = 0)) (he : Hid (endsI op a b = false)) (gn : Int) (hg : Hid (goesN op a b = gn ∧ goesI op a b = false)) (hn : n ≤ 2) (hm : m ≤ 2) (dn : decide ((2 : Int) < (n : Int)) = false) (dm : decide ((2 : Int) < (m : Int)) = false) (hk : Hid (∀ t ∈ tl ++ ll, W.knownB t = true)) (e0 : (op' != op) = false) (hc' : Hid (chk op' a' b' = 0)) (tl' ll' : List Int) (hx' : Hid ((takesI op' a' b' = tl' ∧ leavesI op' a' b' = ll') ∧ (fixedI op' a' b' = false ∧ tl'.length = n ∧ ll'.length = m))) (j l : Int) (hj : Hid ((rowAt op).ka = j ∧ (rowAt op).kb = l)) (q1 : (j == 2) = false) (q2 : (l == 3) = false) (hs : Hid (tl = tl' ∧ ll = ll')) :
    Calls Tryd.prog 3 #[instV op a b, instV op' a' b'] w fun e w' => e = .returned (.bool true) ∧ Keep NoB w w' := by
  obtain ⟨i0, hi, hz0, hz1, hz2⟩ := info_parts int_info
  have bx0 := (Blk.new w 23 #[.int .i64 op, .int .i64 a, .int .i64 b]).alloc (.cells #[.int .i64 op', .int .i64 a', .int .i64 b'] 23)
  have by0 := Blk.new (w.alloc (.cells #[.int .i64 op, .int .i64 a, .int .i64 b] 23)) 23 #[.int .i64 op', .int .i64 a', .int .i64 b']
  rw [World.size_alloc] at by0
  have gK := ((Keep.refl NoB w).alloc (.cells #[.int .i64 op, .int .i64 a, .int .i64 b] 23)).alloc (.cells #[.int .i64 op', .int .i64 a', .int .i64 b'] 23)
  go_enter Tryd.func3, Tryd.ntmps3
  go_wp2_with fail
  refine (alive_any _ (hL.out.keep gK)).mono ?_
  rintro e w1 ⟨rfl, k1⟩
  have bx := bx0.keep k1 id
  have by_ := by0.keep k1 id
  replace gK := keepN gK k1
  have x0 : w1.cell? ⟨w.heap.size, 0, none⟩ = some (.int .i64 op) := bx.cell 0
  have x1 : w1.cell? ⟨w.heap.size, 1, none⟩ = some (.int .i64 a) := bx.cell 1
  have x2 : w1.cell? ⟨w.heap.size, 2, none⟩ = some (.int .i64 b) := bx.cell 2
  clear bx0 by0 k1
  go_wp2_with fail
  refine (eff_gen op a b tl ll n m false _ hx).mono ?_
  rintro e w2 ⟨A, c, B, d, rfl, hT, hV, k2⟩
  have bx2 := bx.keep k2 id
  have by2 := by_.keep k2 id
  replace gK := keepN gK k2
  clear k2 bx by_ x0 x1 x2
  have x0 : w2.cell? ⟨w.heap.size, 0, none⟩ = some (.int .i64 op) := bx2.cell 0
  have x1 : w2.cell? ⟨w.heap.size, 1, none⟩ = some (.int .i64 a) := bx2.cell 1
  have x2 : w2.cell? ⟨w.heap.size, 2, none⟩ = some (.int .i64 b) := bx2.cell 2
  go_wp2_with fail
  refine (check_gen2 op a b 0 _ hc).mono ?_
  rintro e w3 ⟨rfl, k3⟩
  have bx := bx2.keep k3 id
  have by_ := by2.keep k3 id
  replace gK := keepN gK k3
  have hT3 := hT.keepN k3
  have hV3 := hV.keepN k3
  clear k3 bx2 by2 x0 x1 x2 hT hV
  have hM := World.ownsRow_made (e := 3) (size := 1) (base := 0) w3 #[] 0 (Nat.zero_le _) (Nat.zero_le _) rfl
  have hT4 := hT3.keepN ((Keep.refl NoB w3).alloc (.cells #[] 3))
  have hlT : Hid ((ivs tl).length = n * 1) := by show _ = _; simp [ivs, hx.out.2.2.1]
  have hlV : Hid ((ivs ll).length = m * 1) := by show _ = _; simp [ivs, hx.out.2.2.2]
  go_wp2_with (at_builtin; refine wpList_append_rd _ rfl (.tmp 46) (.tmp 47) _ rfl 3 1 8 i0 _ Tryd.underlying25 hi hz0 hz1 hz2 rfl (by decide) _ 0 [] _ n _ (ivs tl) rfl hM rfl hT4 hlT.out (ivs_one tl) (by unfold maxLen; omega) (by omega) ?_)
  intro B1 d1 w4 hrow4 hg4 hv4
  have hO4 : Own w4 3 1 (Fresh w3) (.slice B1 n d1) n (ivs tl) ∧ Keep NoB w3 w4 := W.own_after (W := w3.alloc (.cells #[] 3)) (v := .slice (some ⟨w3.heap.size, 0, none⟩) 0 0) (fun g e => by simp [Value.ownBlock] at e; subst e; simp [Fresh]) ((Keep.refl NoB w3).alloc _) hg4 (by simpa [World.size_alloc] using hv4) (by simpa using hrow4)
  clear hrow4 hg4 hv4 hM hT4
  obtain ⟨hO4, k4⟩ := hO4
  have hV4 := hV3.keepN k4
  have bx4 := bx.keep k4 id
  have by4 := by_.keep k4 id
  have gK4 := keepN gK k4
  go_wp2_with (at_builtin; refine wpList_append_rd _ rfl (.tmp 48) (.tmp 49) _ rfl 3 1 8 i0 _ Tryd.underlying25 hi hz0 hz1 hz2 rfl (by decide) _ n (ivs tl) _ m _ (ivs ll) rfl hO4.1 rfl hV4 hlV.out (ivs_one ll) (by unfold maxLen; omega) (by omega) ?_)
  intro B2 d2 w5 hrow5 hg5 hv5
  have hO5 : Own w5 3 1 (Fresh w3) (.slice B2 (n + m) d2) (n + m) (ivs tl ++ ivs ll) ∧ Keep NoB w3 w5 := W.own_after hO4.2 k4 hg5 hv5 hrow5
  clear hrow5 hg5 hv5 hO4 k4 hV4 bx4 by4 gK4
  obtain ⟨hO5, k5⟩ := hO5
  have hR5 : Rd w5 B2 (ivs (tl ++ ll)) := by have := rd_of hO5; rwa [← ivs_app] at this
  have hT5 := hT3.keepN k5
  have hV5 := hV3.keepN k5
  have bx5 := bx.keep k5 id
  have by5 := by_.keep k5 id
  replace gK := keepN gK k5
  have hN : Hid ((tl ++ ll).length = n + m) := by show _ = _; rw [List.length_append, hx.out.2.2.1, hx.out.2.2.2]
  clear k5 hO5 bx by_ hT3 hV3
  have hN4 : n + m ≤ 4 := by omega
  generalize n + m = N at hN hN4 ⊢
  go_wp2_with fail
  go_loopw [10, 52] (fun _ i wr => ∃ k : Nat, k ≤ N ∧ i = .int .i64 (k : Int) ∧ Keep NoB w5 wr) (fun _ i _ => N - (intOf i).toNat)
  case atStart => exact ⟨0, Nat.zero_le _, rfl, Keep.refl _ _⟩
  case round =>
    obtain ⟨k, hkN, rfl, hK⟩ := hrel
    by_cases hlt : k < N
    · have hka : k < (tl ++ ll).length := by rw [hN.out]; exact hlt
      obtain ⟨ga, oa, rfl, hca⟩ := rdI_at hR5 (by omega)
      have ca := hK.cell (hca k hka) id
      have HN : Hid (W.knownB (tl ++ ll)[k] = true) := hk.out _ (List.getElem_mem hka)
      clear hca
      generalize (tl ++ ll)[k] = y at ca HN
      have hy : Hid (∀ w, Calls Tryd.prog 9 #[.int .i64 y] w fun e w' => e = .returned (.bool true) ∧ w = w') := fun w => by have := W.known_any y w; rwa [HN.out] at this
      go_wp2_with fail
      refine (hy.out _).mono ?_
      rintro e w6 ⟨rfl, rfl⟩
      go_wp2
      go_roundw
      case rel => exact ⟨k + 1, by omega, by go_num, hK⟩
      case measure => simp [intOf]; omega
    · have bx := bx5.keep hK id
      have by_ := by5.keep hK id
      replace gK := keepN gK hK
      have hT := hT5.keepN hK
      have hV := hV5.keepN hK
      obtain ⟨x0, x1, x2⟩ := blk3 bx
      clear bx5 by5 hK hT5 hV5 hR5 hN hN4 hk
      go_wp2_with fail
      refine (goes_gen op a b gn false _ hg).mono ?_
      clear hlt hkN
      rintro e w7 ⟨rfl, k7⟩
      have bx7 := bx.keep k7 id
      have by7 := by_.keep k7 id
      replace gK := keepN gK k7
      have hT7 := hT.keepN k7
      have hV7 := hV.keepN k7
      clear k7 bx by_ hT hV x0 x1 x2
      obtain ⟨x0, x1, x2⟩ := blk3 bx7
      go_wp2_with fail
      refine (ends_gen op a b false _ he).mono ?_
      rintro e w8 ⟨rfl, k8⟩
      have bx := bx7.keep k8 id
      have by_ := by7.keep k8 id
      replace gK := keepN gK k8
      have hT := hT7.keepN k8
      have hV := hV7.keepN k8
      clear k8 bx7 by7 hT7 hV7 x0 x1 x2
      obtain ⟨x0, x1, x2⟩ := blk3 bx
      obtain ⟨y0, y1, y2⟩ := blk3 by_
      go_wp2_with fail
      refine (check_gen2 op a b 0 _ hc).mono ?_
      rintro e w9 ⟨rfl, k9⟩
      have bx9 := bx.keep k9 id
      have by9 := by_.keep k9 id
      replace gK := keepN gK k9
      have hT9 := hT.keepN k9
      have hV9 := hV.keepN k9
      clear k9 bx by_ hT hV x0 x1 x2 y0 y1 y2
      obtain ⟨y0, y1, y2⟩ := blk3 by9
      go_wp2_with fail
      refine (check_gen2 op' a' b' 0 _ hc').mono ?_
      rintro e w10 ⟨rfl, k10⟩
      have bx := bx9.keep k10 id
      have by_ := by9.keep k10 id
      replace gK := keepN gK k10
      have hT := hT9.keepN k10
      have hV := hV9.keepN k10
      clear k10 bx9 by9 hT9 hV9 y0 y1 y2
      obtain ⟨y0, y1, y2⟩ := blk3 by_
      go_wp2_with fail
      refine (eff_gen op' a' b' tl' ll' n m false _ hx').mono ?_
      rintro e w11 ⟨A', c', B', d', rfl, hT', hV', k11⟩
      have bx11 := bx.keep k11 id
      have by11 := by_.keep k11 id
      replace gK := keepN gK k11
      have hT11 := hT.keepN k11
      have hV11 := hV.keepN k11
      clear k11 bx by_ hT hV y0 y1 y2
      obtain ⟨x0, x1, x2⟩ := blk3 bx11
      go_wp2_with fail
      refine (kinds_gen op j l _ hj).mono ?_
      rintro e w12 ⟨rfl, k12⟩
      have bx := bx11.keep k12 id
      have by_ := by11.keep k12 id
      replace gK := keepN gK k12
      have hT := hT11.keepN k12
      have hV := hV11.keepN k12
      replace hT' := hT'.keepN k12
      replace hV' := hV'.keepN k12
      clear k12 bx11 by11 hT11 hV11 x0 x1 x2
      obtain ⟨x0, x1, x2⟩ := blk3 bx
      obtain ⟨y0, y1, y2⟩ := blk3 by_
      go_wp2_with fail
      refine (W.ints_any A A' tl tl' n n c c' _ hT hT' hx.out.2.2.1 hx'.out.2.2.1 (by omega) (by omega) true (by show _ = _; rw [hs.out.1]; simp)).mono ?_
      rintro e w13 ⟨rfl, k13⟩
      have hV13 := hV.keepN k13
      have hV13' := hV'.keepN k13
      replace gK := keepN gK k13
      clear k13 bx by_ hT hT' hV hV' x0 x1 x2 y0 y1 y2
      go_wp2_with fail
      refine (W.ints_any B B' ll ll' m m d d' _ hV13 hV13' hx.out.2.2.2 hx'.out.2.2.2 (by omega) (by omega) true (by show _ = _; rw [hs.out.2]; simp)).mono ?_
      rintro e w14 ⟨rfl, k14⟩
      go_wp2
      go_ret
      exact ⟨rfl, keepN gK k14⟩

set_option maxRecDepth 100000 in
set_option maxHeartbeats 4000000 in
theorem effects_Q_Sa (op a b op' a' b' : Int) (w : World) (hL : Hid (LaidO w)) (tl ll : List Int) (n m : Nat) (hx : Hid ((takesI op a b = tl ∧ leavesI op a b = ll) ∧ (fixedI op a b = false ∧ tl.length = n ∧ ll.length = m))) (hc : Hid (chk op a b = 0)) (he : Hid (endsI op a b = false)) (gn : Int) (hg : Hid (goesN op a b = gn ∧ goesI op a b = false)) (hn : n ≤ 2) (hm : m ≤ 2) (dn : decide ((2 : Int) < (n : Int)) = false) (dm : decide ((2 : Int) < (m : Int)) = false) (hk : Hid (∀ t ∈ tl ++ ll, W.knownB t = true)) (e0 : (op' != op) = false) (hc' : Hid (chk op' a' b' = 0)) (tl' ll' : List Int) (hx' : Hid ((takesI op' a' b' = tl' ∧ leavesI op' a' b' = ll') ∧ (fixedI op' a' b' = false ∧ tl'.length = n ∧ ll'.length = m))) (j l : Int) (hj : Hid ((rowAt op).ka = j ∧ (rowAt op).kb = l)) (q1 : (j == 2) = true) (q2 : (l == 3) = false) (r1 : (a != a') = false) (hs : Hid (tl = tl' ∧ ll = ll')) :
    Calls Tryd.prog 3 #[instV op a b, instV op' a' b'] w fun e w' => e = .returned (.bool true) ∧ Keep NoB w w' := by
  obtain ⟨i0, hi, hz0, hz1, hz2⟩ := info_parts int_info
  have bx0 := (Blk.new w 23 #[.int .i64 op, .int .i64 a, .int .i64 b]).alloc (.cells #[.int .i64 op', .int .i64 a', .int .i64 b'] 23)
  have by0 := Blk.new (w.alloc (.cells #[.int .i64 op, .int .i64 a, .int .i64 b] 23)) 23 #[.int .i64 op', .int .i64 a', .int .i64 b']
  rw [World.size_alloc] at by0
  have gK := ((Keep.refl NoB w).alloc (.cells #[.int .i64 op, .int .i64 a, .int .i64 b] 23)).alloc (.cells #[.int .i64 op', .int .i64 a', .int .i64 b'] 23)
  go_enter Tryd.func3, Tryd.ntmps3
  go_wp2_with fail
  refine (alive_any _ (hL.out.keep gK)).mono ?_
  rintro e w1 ⟨rfl, k1⟩
  have bx := bx0.keep k1 id
  have by_ := by0.keep k1 id
  replace gK := keepN gK k1
  have x0 : w1.cell? ⟨w.heap.size, 0, none⟩ = some (.int .i64 op) := bx.cell 0
  have x1 : w1.cell? ⟨w.heap.size, 1, none⟩ = some (.int .i64 a) := bx.cell 1
  have x2 : w1.cell? ⟨w.heap.size, 2, none⟩ = some (.int .i64 b) := bx.cell 2
  clear bx0 by0 k1
  go_wp2_with fail
  refine (eff_gen op a b tl ll n m false _ hx).mono ?_
  rintro e w2 ⟨A, c, B, d, rfl, hT, hV, k2⟩
  have bx2 := bx.keep k2 id
  have by2 := by_.keep k2 id
  replace gK := keepN gK k2
  clear k2 bx by_ x0 x1 x2
  have x0 : w2.cell? ⟨w.heap.size, 0, none⟩ = some (.int .i64 op) := bx2.cell 0
  have x1 : w2.cell? ⟨w.heap.size, 1, none⟩ = some (.int .i64 a) := bx2.cell 1
  have x2 : w2.cell? ⟨w.heap.size, 2, none⟩ = some (.int .i64 b) := bx2.cell 2
  go_wp2_with fail
  refine (check_gen2 op a b 0 _ hc).mono ?_
  rintro e w3 ⟨rfl, k3⟩
  have bx := bx2.keep k3 id
  have by_ := by2.keep k3 id
  replace gK := keepN gK k3
  have hT3 := hT.keepN k3
  have hV3 := hV.keepN k3
  clear k3 bx2 by2 x0 x1 x2 hT hV
  have hM := World.ownsRow_made (e := 3) (size := 1) (base := 0) w3 #[] 0 (Nat.zero_le _) (Nat.zero_le _) rfl
  have hT4 := hT3.keepN ((Keep.refl NoB w3).alloc (.cells #[] 3))
  have hlT : Hid ((ivs tl).length = n * 1) := by show _ = _; simp [ivs, hx.out.2.2.1]
  have hlV : Hid ((ivs ll).length = m * 1) := by show _ = _; simp [ivs, hx.out.2.2.2]
  go_wp2_with (at_builtin; refine wpList_append_rd _ rfl (.tmp 46) (.tmp 47) _ rfl 3 1 8 i0 _ Tryd.underlying25 hi hz0 hz1 hz2 rfl (by decide) _ 0 [] _ n _ (ivs tl) rfl hM rfl hT4 hlT.out (ivs_one tl) (by unfold maxLen; omega) (by omega) ?_)
  intro B1 d1 w4 hrow4 hg4 hv4
  have hO4 : Own w4 3 1 (Fresh w3) (.slice B1 n d1) n (ivs tl) ∧ Keep NoB w3 w4 := W.own_after (W := w3.alloc (.cells #[] 3)) (v := .slice (some ⟨w3.heap.size, 0, none⟩) 0 0) (fun g e => by simp [Value.ownBlock] at e; subst e; simp [Fresh]) ((Keep.refl NoB w3).alloc _) hg4 (by simpa [World.size_alloc] using hv4) (by simpa using hrow4)
  clear hrow4 hg4 hv4 hM hT4
  obtain ⟨hO4, k4⟩ := hO4
  have hV4 := hV3.keepN k4
  have bx4 := bx.keep k4 id
  have by4 := by_.keep k4 id
  have gK4 := keepN gK k4
  go_wp2_with (at_builtin; refine wpList_append_rd _ rfl (.tmp 48) (.tmp 49) _ rfl 3 1 8 i0 _ Tryd.underlying25 hi hz0 hz1 hz2 rfl (by decide) _ n (ivs tl) _ m _ (ivs ll) rfl hO4.1 rfl hV4 hlV.out (ivs_one ll) (by unfold maxLen; omega) (by omega) ?_)
  intro B2 d2 w5 hrow5 hg5 hv5
  have hO5 : Own w5 3 1 (Fresh w3) (.slice B2 (n + m) d2) (n + m) (ivs tl ++ ivs ll) ∧ Keep NoB w3 w5 := W.own_after hO4.2 k4 hg5 hv5 hrow5
  clear hrow5 hg5 hv5 hO4 k4 hV4 bx4 by4 gK4
  obtain ⟨hO5, k5⟩ := hO5
  have hR5 : Rd w5 B2 (ivs (tl ++ ll)) := by have := rd_of hO5; rwa [← ivs_app] at this
  have hT5 := hT3.keepN k5
  have hV5 := hV3.keepN k5
  have bx5 := bx.keep k5 id
  have by5 := by_.keep k5 id
  replace gK := keepN gK k5
  have hN : Hid ((tl ++ ll).length = n + m) := by show _ = _; rw [List.length_append, hx.out.2.2.1, hx.out.2.2.2]
  clear k5 hO5 bx by_ hT3 hV3
  have hN4 : n + m ≤ 4 := by omega
  generalize n + m = N at hN hN4 ⊢
  go_wp2_with fail
  go_loopw [10, 52] (fun _ i wr => ∃ k : Nat, k ≤ N ∧ i = .int .i64 (k : Int) ∧ Keep NoB w5 wr) (fun _ i _ => N - (intOf i).toNat)
  case atStart => exact ⟨0, Nat.zero_le _, rfl, Keep.refl _ _⟩
  case round =>
    obtain ⟨k, hkN, rfl, hK⟩ := hrel
    by_cases hlt : k < N
    · have hka : k < (tl ++ ll).length := by rw [hN.out]; exact hlt
      obtain ⟨ga, oa, rfl, hca⟩ := rdI_at hR5 (by omega)
      have ca := hK.cell (hca k hka) id
      have HN : Hid (W.knownB (tl ++ ll)[k] = true) := hk.out _ (List.getElem_mem hka)
      clear hca
      generalize (tl ++ ll)[k] = y at ca HN
      have hy : Hid (∀ w, Calls Tryd.prog 9 #[.int .i64 y] w fun e w' => e = .returned (.bool true) ∧ w = w') := fun w => by have := W.known_any y w; rwa [HN.out] at this
      go_wp2_with fail
      refine (hy.out _).mono ?_
      rintro e w6 ⟨rfl, rfl⟩
      go_wp2
      go_roundw
      case rel => exact ⟨k + 1, by omega, by go_num, hK⟩
      case measure => simp [intOf]; omega
    · have bx := bx5.keep hK id
      have by_ := by5.keep hK id
      replace gK := keepN gK hK
      have hT := hT5.keepN hK
      have hV := hV5.keepN hK
      obtain ⟨x0, x1, x2⟩ := blk3 bx
      clear bx5 by5 hK hT5 hV5 hR5 hN hN4 hk
      go_wp2_with fail
      refine (goes_gen op a b gn false _ hg).mono ?_
      clear hlt hkN
      rintro e w7 ⟨rfl, k7⟩
      have bx7 := bx.keep k7 id
      have by7 := by_.keep k7 id
      replace gK := keepN gK k7
      have hT7 := hT.keepN k7
      have hV7 := hV.keepN k7
      clear k7 bx by_ hT hV x0 x1 x2
      obtain ⟨x0, x1, x2⟩ := blk3 bx7
      go_wp2_with fail
      refine (ends_gen op a b false _ he).mono ?_
      rintro e w8 ⟨rfl, k8⟩
      have bx := bx7.keep k8 id
      have by_ := by7.keep k8 id
      replace gK := keepN gK k8
      have hT := hT7.keepN k8
      have hV := hV7.keepN k8
      clear k8 bx7 by7 hT7 hV7 x0 x1 x2
      obtain ⟨x0, x1, x2⟩ := blk3 bx
      obtain ⟨y0, y1, y2⟩ := blk3 by_
      go_wp2_with fail
      refine (check_gen2 op a b 0 _ hc).mono ?_
      rintro e w9 ⟨rfl, k9⟩
      have bx9 := bx.keep k9 id
      have by9 := by_.keep k9 id
      replace gK := keepN gK k9
      have hT9 := hT.keepN k9
      have hV9 := hV.keepN k9
      clear k9 bx by_ hT hV x0 x1 x2 y0 y1 y2
      obtain ⟨y0, y1, y2⟩ := blk3 by9
      go_wp2_with fail
      refine (check_gen2 op' a' b' 0 _ hc').mono ?_
      rintro e w10 ⟨rfl, k10⟩
      have bx := bx9.keep k10 id
      have by_ := by9.keep k10 id
      replace gK := keepN gK k10
      have hT := hT9.keepN k10
      have hV := hV9.keepN k10
      clear k10 bx9 by9 hT9 hV9 y0 y1 y2
      obtain ⟨y0, y1, y2⟩ := blk3 by_
      go_wp2_with fail
      refine (eff_gen op' a' b' tl' ll' n m false _ hx').mono ?_
      rintro e w11 ⟨A', c', B', d', rfl, hT', hV', k11⟩
      have bx11 := bx.keep k11 id
      have by11 := by_.keep k11 id
      replace gK := keepN gK k11
      have hT11 := hT.keepN k11
      have hV11 := hV.keepN k11
      clear k11 bx by_ hT hV y0 y1 y2
      obtain ⟨x0, x1, x2⟩ := blk3 bx11
      go_wp2_with fail
      refine (kinds_gen op j l _ hj).mono ?_
      rintro e w12 ⟨rfl, k12⟩
      have bx := bx11.keep k12 id
      have by_ := by11.keep k12 id
      replace gK := keepN gK k12
      have hT := hT11.keepN k12
      have hV := hV11.keepN k12
      replace hT' := hT'.keepN k12
      replace hV' := hV'.keepN k12
      clear k12 bx11 by11 hT11 hV11 x0 x1 x2
      obtain ⟨x0, x1, x2⟩ := blk3 bx
      obtain ⟨y0, y1, y2⟩ := blk3 by_
      go_wp2_with fail
      refine (W.ints_any A A' tl tl' n n c c' _ hT hT' hx.out.2.2.1 hx'.out.2.2.1 (by omega) (by omega) true (by show _ = _; rw [hs.out.1]; simp)).mono ?_
      rintro e w13 ⟨rfl, k13⟩
      have hV13 := hV.keepN k13
      have hV13' := hV'.keepN k13
      replace gK := keepN gK k13
      clear k13 bx by_ hT hT' hV hV' x0 x1 x2 y0 y1 y2
      go_wp2_with fail
      refine (W.ints_any B B' ll ll' m m d d' _ hV13 hV13' hx.out.2.2.2 hx'.out.2.2.2 (by omega) (by omega) true (by show _ = _; rw [hs.out.2]; simp)).mono ?_
      rintro e w14 ⟨rfl, k14⟩
      go_wp2
      go_ret
      exact ⟨rfl, keepN gK k14⟩

set_option maxRecDepth 100000 in
set_option maxHeartbeats 4000000 in
theorem effects_Q_Sb (op a b op' a' b' : Int) (w : World) (hL : Hid (LaidO w)) (tl ll : List Int) (n m : Nat) (hx : Hid ((takesI op a b = tl ∧ leavesI op a b = ll) ∧ (fixedI op a b = false ∧ tl.length = n ∧ ll.length = m))) (hc : Hid (chk op a b = 0)) (he : Hid (endsI op a b = false)) (gn : Int) (hg : Hid (goesN op a b = gn ∧ goesI op a b = false)) (hn : n ≤ 2) (hm : m ≤ 2) (dn : decide ((2 : Int) < (n : Int)) = false) (dm : decide ((2 : Int) < (m : Int)) = false) (hk : Hid (∀ t ∈ tl ++ ll, W.knownB t = true)) (e0 : (op' != op) = false) (hc' : Hid (chk op' a' b' = 0)) (tl' ll' : List Int) (hx' : Hid ((takesI op' a' b' = tl' ∧ leavesI op' a' b' = ll') ∧ (fixedI op' a' b' = false ∧ tl'.length = n ∧ ll'.length = m))) (j l : Int) (hj : Hid ((rowAt op).ka = j ∧ (rowAt op).kb = l)) (q1 : (j == 2) = false) (q2 : (l == 3) = true) (r2 : (b != b') = false) (hs : Hid (tl = tl' ∧ ll = ll')) :
    Calls Tryd.prog 3 #[instV op a b, instV op' a' b'] w fun e w' => e = .returned (.bool true) ∧ Keep NoB w w' := by
  obtain ⟨i0, hi, hz0, hz1, hz2⟩ := info_parts int_info
  have bx0 := (Blk.new w 23 #[.int .i64 op, .int .i64 a, .int .i64 b]).alloc (.cells #[.int .i64 op', .int .i64 a', .int .i64 b'] 23)
  have by0 := Blk.new (w.alloc (.cells #[.int .i64 op, .int .i64 a, .int .i64 b] 23)) 23 #[.int .i64 op', .int .i64 a', .int .i64 b']
  rw [World.size_alloc] at by0
  have gK := ((Keep.refl NoB w).alloc (.cells #[.int .i64 op, .int .i64 a, .int .i64 b] 23)).alloc (.cells #[.int .i64 op', .int .i64 a', .int .i64 b'] 23)
  go_enter Tryd.func3, Tryd.ntmps3
  go_wp2_with fail
  refine (alive_any _ (hL.out.keep gK)).mono ?_
  rintro e w1 ⟨rfl, k1⟩
  have bx := bx0.keep k1 id
  have by_ := by0.keep k1 id
  replace gK := keepN gK k1
  have x0 : w1.cell? ⟨w.heap.size, 0, none⟩ = some (.int .i64 op) := bx.cell 0
  have x1 : w1.cell? ⟨w.heap.size, 1, none⟩ = some (.int .i64 a) := bx.cell 1
  have x2 : w1.cell? ⟨w.heap.size, 2, none⟩ = some (.int .i64 b) := bx.cell 2
  clear bx0 by0 k1
  go_wp2_with fail
  refine (eff_gen op a b tl ll n m false _ hx).mono ?_
  rintro e w2 ⟨A, c, B, d, rfl, hT, hV, k2⟩
  have bx2 := bx.keep k2 id
  have by2 := by_.keep k2 id
  replace gK := keepN gK k2
  clear k2 bx by_ x0 x1 x2
  have x0 : w2.cell? ⟨w.heap.size, 0, none⟩ = some (.int .i64 op) := bx2.cell 0
  have x1 : w2.cell? ⟨w.heap.size, 1, none⟩ = some (.int .i64 a) := bx2.cell 1
  have x2 : w2.cell? ⟨w.heap.size, 2, none⟩ = some (.int .i64 b) := bx2.cell 2
  go_wp2_with fail
  refine (check_gen2 op a b 0 _ hc).mono ?_
  rintro e w3 ⟨rfl, k3⟩
  have bx := bx2.keep k3 id
  have by_ := by2.keep k3 id
  replace gK := keepN gK k3
  have hT3 := hT.keepN k3
  have hV3 := hV.keepN k3
  clear k3 bx2 by2 x0 x1 x2 hT hV
  have hM := World.ownsRow_made (e := 3) (size := 1) (base := 0) w3 #[] 0 (Nat.zero_le _) (Nat.zero_le _) rfl
  have hT4 := hT3.keepN ((Keep.refl NoB w3).alloc (.cells #[] 3))
  have hlT : Hid ((ivs tl).length = n * 1) := by show _ = _; simp [ivs, hx.out.2.2.1]
  have hlV : Hid ((ivs ll).length = m * 1) := by show _ = _; simp [ivs, hx.out.2.2.2]
  go_wp2_with (at_builtin; refine wpList_append_rd _ rfl (.tmp 46) (.tmp 47) _ rfl 3 1 8 i0 _ Tryd.underlying25 hi hz0 hz1 hz2 rfl (by decide) _ 0 [] _ n _ (ivs tl) rfl hM rfl hT4 hlT.out (ivs_one tl) (by unfold maxLen; omega) (by omega) ?_)
  intro B1 d1 w4 hrow4 hg4 hv4
  have hO4 : Own w4 3 1 (Fresh w3) (.slice B1 n d1) n (ivs tl) ∧ Keep NoB w3 w4 := W.own_after (W := w3.alloc (.cells #[] 3)) (v := .slice (some ⟨w3.heap.size, 0, none⟩) 0 0) (fun g e => by simp [Value.ownBlock] at e; subst e; simp [Fresh]) ((Keep.refl NoB w3).alloc _) hg4 (by simpa [World.size_alloc] using hv4) (by simpa using hrow4)
  clear hrow4 hg4 hv4 hM hT4
  obtain ⟨hO4, k4⟩ := hO4
  have hV4 := hV3.keepN k4
  have bx4 := bx.keep k4 id
  have by4 := by_.keep k4 id
  have gK4 := keepN gK k4
  go_wp2_with (at_builtin; refine wpList_append_rd _ rfl (.tmp 48) (.tmp 49) _ rfl 3 1 8 i0 _ Tryd.underlying25 hi hz0 hz1 hz2 rfl (by decide) _ n (ivs tl) _ m _ (ivs ll) rfl hO4.1 rfl hV4 hlV.out (ivs_one ll) (by unfold maxLen; omega) (by omega) ?_)
  intro B2 d2 w5 hrow5 hg5 hv5
  have hO5 : Own w5 3 1 (Fresh w3) (.slice B2 (n + m) d2) (n + m) (ivs tl ++ ivs ll) ∧ Keep NoB w3 w5 := W.own_after hO4.2 k4 hg5 hv5 hrow5
  clear hrow5 hg5 hv5 hO4 k4 hV4 bx4 by4 gK4
  obtain ⟨hO5, k5⟩ := hO5
  have hR5 : Rd w5 B2 (ivs (tl ++ ll)) := by have := rd_of hO5; rwa [← ivs_app] at this
  have hT5 := hT3.keepN k5
  have hV5 := hV3.keepN k5
  have bx5 := bx.keep k5 id
  have by5 := by_.keep k5 id
  replace gK := keepN gK k5
  have hN : Hid ((tl ++ ll).length = n + m) := by show _ = _; rw [List.length_append, hx.out.2.2.1, hx.out.2.2.2]
  clear k5 hO5 bx by_ hT3 hV3
  have hN4 : n + m ≤ 4 := by omega
  generalize n + m = N at hN hN4 ⊢
  go_wp2_with fail
  go_loopw [10, 52] (fun _ i wr => ∃ k : Nat, k ≤ N ∧ i = .int .i64 (k : Int) ∧ Keep NoB w5 wr) (fun _ i _ => N - (intOf i).toNat)
  case atStart => exact ⟨0, Nat.zero_le _, rfl, Keep.refl _ _⟩
  case round =>
    obtain ⟨k, hkN, rfl, hK⟩ := hrel
    by_cases hlt : k < N
    · have hka : k < (tl ++ ll).length := by rw [hN.out]; exact hlt
      obtain ⟨ga, oa, rfl, hca⟩ := rdI_at hR5 (by omega)
      have ca := hK.cell (hca k hka) id
      have HN : Hid (W.knownB (tl ++ ll)[k] = true) := hk.out _ (List.getElem_mem hka)
      clear hca
      generalize (tl ++ ll)[k] = y at ca HN
      have hy : Hid (∀ w, Calls Tryd.prog 9 #[.int .i64 y] w fun e w' => e = .returned (.bool true) ∧ w = w') := fun w => by have := W.known_any y w; rwa [HN.out] at this
      go_wp2_with fail
      refine (hy.out _).mono ?_
      rintro e w6 ⟨rfl, rfl⟩
      go_wp2
      go_roundw
      case rel => exact ⟨k + 1, by omega, by go_num, hK⟩
      case measure => simp [intOf]; omega
    · have bx := bx5.keep hK id
      have by_ := by5.keep hK id
      replace gK := keepN gK hK
      have hT := hT5.keepN hK
      have hV := hV5.keepN hK
      obtain ⟨x0, x1, x2⟩ := blk3 bx
      clear bx5 by5 hK hT5 hV5 hR5 hN hN4 hk
      go_wp2_with fail
      refine (goes_gen op a b gn false _ hg).mono ?_
      clear hlt hkN
      rintro e w7 ⟨rfl, k7⟩
      have bx7 := bx.keep k7 id
      have by7 := by_.keep k7 id
      replace gK := keepN gK k7
      have hT7 := hT.keepN k7
      have hV7 := hV.keepN k7
      clear k7 bx by_ hT hV x0 x1 x2
      obtain ⟨x0, x1, x2⟩ := blk3 bx7
      go_wp2_with fail
      refine (ends_gen op a b false _ he).mono ?_
      rintro e w8 ⟨rfl, k8⟩
      have bx := bx7.keep k8 id
      have by_ := by7.keep k8 id
      replace gK := keepN gK k8
      have hT := hT7.keepN k8
      have hV := hV7.keepN k8
      clear k8 bx7 by7 hT7 hV7 x0 x1 x2
      obtain ⟨x0, x1, x2⟩ := blk3 bx
      obtain ⟨y0, y1, y2⟩ := blk3 by_
      go_wp2_with fail
      refine (check_gen2 op a b 0 _ hc).mono ?_
      rintro e w9 ⟨rfl, k9⟩
      have bx9 := bx.keep k9 id
      have by9 := by_.keep k9 id
      replace gK := keepN gK k9
      have hT9 := hT.keepN k9
      have hV9 := hV.keepN k9
      clear k9 bx by_ hT hV x0 x1 x2 y0 y1 y2
      obtain ⟨y0, y1, y2⟩ := blk3 by9
      go_wp2_with fail
      refine (check_gen2 op' a' b' 0 _ hc').mono ?_
      rintro e w10 ⟨rfl, k10⟩
      have bx := bx9.keep k10 id
      have by_ := by9.keep k10 id
      replace gK := keepN gK k10
      have hT := hT9.keepN k10
      have hV := hV9.keepN k10
      clear k10 bx9 by9 hT9 hV9 y0 y1 y2
      obtain ⟨y0, y1, y2⟩ := blk3 by_
      go_wp2_with fail
      refine (eff_gen op' a' b' tl' ll' n m false _ hx').mono ?_
      rintro e w11 ⟨A', c', B', d', rfl, hT', hV', k11⟩
      have bx11 := bx.keep k11 id
      have by11 := by_.keep k11 id
      replace gK := keepN gK k11
      have hT11 := hT.keepN k11
      have hV11 := hV.keepN k11
      clear k11 bx by_ hT hV y0 y1 y2
      obtain ⟨x0, x1, x2⟩ := blk3 bx11
      go_wp2_with fail
      refine (kinds_gen op j l _ hj).mono ?_
      rintro e w12 ⟨rfl, k12⟩
      have bx := bx11.keep k12 id
      have by_ := by11.keep k12 id
      replace gK := keepN gK k12
      have hT := hT11.keepN k12
      have hV := hV11.keepN k12
      replace hT' := hT'.keepN k12
      replace hV' := hV'.keepN k12
      clear k12 bx11 by11 hT11 hV11 x0 x1 x2
      obtain ⟨x0, x1, x2⟩ := blk3 bx
      obtain ⟨y0, y1, y2⟩ := blk3 by_
      go_wp2_with fail
      refine (W.ints_any A A' tl tl' n n c c' _ hT hT' hx.out.2.2.1 hx'.out.2.2.1 (by omega) (by omega) true (by show _ = _; rw [hs.out.1]; simp)).mono ?_
      rintro e w13 ⟨rfl, k13⟩
      have hV13 := hV.keepN k13
      have hV13' := hV'.keepN k13
      replace gK := keepN gK k13
      clear k13 bx by_ hT hT' hV hV' x0 x1 x2 y0 y1 y2
      go_wp2_with fail
      refine (W.ints_any B B' ll ll' m m d d' _ hV13 hV13' hx.out.2.2.2 hx'.out.2.2.2 (by omega) (by omega) true (by show _ = _; rw [hs.out.2]; simp)).mono ?_
      rintro e w14 ⟨rfl, k14⟩
      go_wp2
      go_ret
      exact ⟨rfl, keepN gK k14⟩

set_option maxRecDepth 100000 in
set_option maxHeartbeats 4000000 in
theorem effects_Q_Ta (op a b op' a' b' : Int) (w : World) (hL : Hid (LaidO w)) (tl ll : List Int) (n m : Nat) (hx : Hid ((takesI op a b = tl ∧ leavesI op a b = ll) ∧ (fixedI op a b = false ∧ tl.length = n ∧ ll.length = m))) (hc : Hid (chk op a b = 0)) (he : Hid (endsI op a b = false)) (gn : Int) (hg : Hid (goesN op a b = gn ∧ goesI op a b = false)) (hn : n ≤ 2) (hm : m ≤ 2) (dn : decide ((2 : Int) < (n : Int)) = false) (dm : decide ((2 : Int) < (m : Int)) = false) (hk : Hid (∀ t ∈ tl ++ ll, W.knownB t = true)) (e0 : (op' != op) = false) (hc' : Hid (chk op' a' b' = 0)) (tl' ll' : List Int) (hx' : Hid ((takesI op' a' b' = tl' ∧ leavesI op' a' b' = ll') ∧ (fixedI op' a' b' = false ∧ tl'.length = n ∧ ll'.length = m))) (j l : Int) (hj : Hid ((rowAt op).ka = j ∧ (rowAt op).kb = l)) (q1 : (j == 2) = true) (r1 : (a != a') = true) :
    Calls Tryd.prog 3 #[instV op a b, instV op' a' b'] w fun e w' => e = .returned (.bool true) ∧ Keep NoB w w' := by
  obtain ⟨i0, hi, hz0, hz1, hz2⟩ := info_parts int_info
  have bx0 := (Blk.new w 23 #[.int .i64 op, .int .i64 a, .int .i64 b]).alloc (.cells #[.int .i64 op', .int .i64 a', .int .i64 b'] 23)
  have by0 := Blk.new (w.alloc (.cells #[.int .i64 op, .int .i64 a, .int .i64 b] 23)) 23 #[.int .i64 op', .int .i64 a', .int .i64 b']
  rw [World.size_alloc] at by0
  have gK := ((Keep.refl NoB w).alloc (.cells #[.int .i64 op, .int .i64 a, .int .i64 b] 23)).alloc (.cells #[.int .i64 op', .int .i64 a', .int .i64 b'] 23)
  go_enter Tryd.func3, Tryd.ntmps3
  go_wp2_with fail
  refine (alive_any _ (hL.out.keep gK)).mono ?_
  rintro e w1 ⟨rfl, k1⟩
  have bx := bx0.keep k1 id
  have by_ := by0.keep k1 id
  replace gK := keepN gK k1
  have x0 : w1.cell? ⟨w.heap.size, 0, none⟩ = some (.int .i64 op) := bx.cell 0
  have x1 : w1.cell? ⟨w.heap.size, 1, none⟩ = some (.int .i64 a) := bx.cell 1
  have x2 : w1.cell? ⟨w.heap.size, 2, none⟩ = some (.int .i64 b) := bx.cell 2
  clear bx0 by0 k1
  go_wp2_with fail
  refine (eff_gen op a b tl ll n m false _ hx).mono ?_
  rintro e w2 ⟨A, c, B, d, rfl, hT, hV, k2⟩
  have bx2 := bx.keep k2 id
  have by2 := by_.keep k2 id
  replace gK := keepN gK k2
  clear k2 bx by_ x0 x1 x2
  have x0 : w2.cell? ⟨w.heap.size, 0, none⟩ = some (.int .i64 op) := bx2.cell 0
  have x1 : w2.cell? ⟨w.heap.size, 1, none⟩ = some (.int .i64 a) := bx2.cell 1
  have x2 : w2.cell? ⟨w.heap.size, 2, none⟩ = some (.int .i64 b) := bx2.cell 2
  go_wp2_with fail
  refine (check_gen2 op a b 0 _ hc).mono ?_
  rintro e w3 ⟨rfl, k3⟩
  have bx := bx2.keep k3 id
  have by_ := by2.keep k3 id
  replace gK := keepN gK k3
  have hT3 := hT.keepN k3
  have hV3 := hV.keepN k3
  clear k3 bx2 by2 x0 x1 x2 hT hV
  have hM := World.ownsRow_made (e := 3) (size := 1) (base := 0) w3 #[] 0 (Nat.zero_le _) (Nat.zero_le _) rfl
  have hT4 := hT3.keepN ((Keep.refl NoB w3).alloc (.cells #[] 3))
  have hlT : Hid ((ivs tl).length = n * 1) := by show _ = _; simp [ivs, hx.out.2.2.1]
  have hlV : Hid ((ivs ll).length = m * 1) := by show _ = _; simp [ivs, hx.out.2.2.2]
  go_wp2_with (at_builtin; refine wpList_append_rd _ rfl (.tmp 46) (.tmp 47) _ rfl 3 1 8 i0 _ Tryd.underlying25 hi hz0 hz1 hz2 rfl (by decide) _ 0 [] _ n _ (ivs tl) rfl hM rfl hT4 hlT.out (ivs_one tl) (by unfold maxLen; omega) (by omega) ?_)
  intro B1 d1 w4 hrow4 hg4 hv4
  have hO4 : Own w4 3 1 (Fresh w3) (.slice B1 n d1) n (ivs tl) ∧ Keep NoB w3 w4 := W.own_after (W := w3.alloc (.cells #[] 3)) (v := .slice (some ⟨w3.heap.size, 0, none⟩) 0 0) (fun g e => by simp [Value.ownBlock] at e; subst e; simp [Fresh]) ((Keep.refl NoB w3).alloc _) hg4 (by simpa [World.size_alloc] using hv4) (by simpa using hrow4)
  clear hrow4 hg4 hv4 hM hT4
  obtain ⟨hO4, k4⟩ := hO4
  have hV4 := hV3.keepN k4
  have bx4 := bx.keep k4 id
  have by4 := by_.keep k4 id
  have gK4 := keepN gK k4
  go_wp2_with (at_builtin; refine wpList_append_rd _ rfl (.tmp 48) (.tmp 49) _ rfl 3 1 8 i0 _ Tryd.underlying25 hi hz0 hz1 hz2 rfl (by decide) _ n (ivs tl) _ m _ (ivs ll) rfl hO4.1 rfl hV4 hlV.out (ivs_one ll) (by unfold maxLen; omega) (by omega) ?_)
  intro B2 d2 w5 hrow5 hg5 hv5
  have hO5 : Own w5 3 1 (Fresh w3) (.slice B2 (n + m) d2) (n + m) (ivs tl ++ ivs ll) ∧ Keep NoB w3 w5 := W.own_after hO4.2 k4 hg5 hv5 hrow5
  clear hrow5 hg5 hv5 hO4 k4 hV4 bx4 by4 gK4
  obtain ⟨hO5, k5⟩ := hO5
  have hR5 : Rd w5 B2 (ivs (tl ++ ll)) := by have := rd_of hO5; rwa [← ivs_app] at this
  have hT5 := hT3.keepN k5
  have hV5 := hV3.keepN k5
  have bx5 := bx.keep k5 id
  have by5 := by_.keep k5 id
  replace gK := keepN gK k5
  have hN : Hid ((tl ++ ll).length = n + m) := by show _ = _; rw [List.length_append, hx.out.2.2.1, hx.out.2.2.2]
  clear k5 hO5 bx by_ hT3 hV3
  have hN4 : n + m ≤ 4 := by omega
  generalize n + m = N at hN hN4 ⊢
  go_wp2_with fail
  go_loopw [10, 52] (fun _ i wr => ∃ k : Nat, k ≤ N ∧ i = .int .i64 (k : Int) ∧ Keep NoB w5 wr) (fun _ i _ => N - (intOf i).toNat)
  case atStart => exact ⟨0, Nat.zero_le _, rfl, Keep.refl _ _⟩
  case round =>
    obtain ⟨k, hkN, rfl, hK⟩ := hrel
    by_cases hlt : k < N
    · have hka : k < (tl ++ ll).length := by rw [hN.out]; exact hlt
      obtain ⟨ga, oa, rfl, hca⟩ := rdI_at hR5 (by omega)
      have ca := hK.cell (hca k hka) id
      have HN : Hid (W.knownB (tl ++ ll)[k] = true) := hk.out _ (List.getElem_mem hka)
      clear hca
      generalize (tl ++ ll)[k] = y at ca HN
      have hy : Hid (∀ w, Calls Tryd.prog 9 #[.int .i64 y] w fun e w' => e = .returned (.bool true) ∧ w = w') := fun w => by have := W.known_any y w; rwa [HN.out] at this
      go_wp2_with fail
      refine (hy.out _).mono ?_
      rintro e w6 ⟨rfl, rfl⟩
      go_wp2
      go_roundw
      case rel => exact ⟨k + 1, by omega, by go_num, hK⟩
      case measure => simp [intOf]; omega
    · have bx := bx5.keep hK id
      have by_ := by5.keep hK id
      replace gK := keepN gK hK
      have hT := hT5.keepN hK
      have hV := hV5.keepN hK
      obtain ⟨x0, x1, x2⟩ := blk3 bx
      clear bx5 by5 hK hT5 hV5 hR5 hN hN4 hk
      go_wp2_with fail
      refine (goes_gen op a b gn false _ hg).mono ?_
      clear hlt hkN
      rintro e w7 ⟨rfl, k7⟩
      have bx7 := bx.keep k7 id
      have by7 := by_.keep k7 id
      replace gK := keepN gK k7
      have hT7 := hT.keepN k7
      have hV7 := hV.keepN k7
      clear k7 bx by_ hT hV x0 x1 x2
      obtain ⟨x0, x1, x2⟩ := blk3 bx7
      go_wp2_with fail
      refine (ends_gen op a b false _ he).mono ?_
      rintro e w8 ⟨rfl, k8⟩
      have bx := bx7.keep k8 id
      have by_ := by7.keep k8 id
      replace gK := keepN gK k8
      have hT := hT7.keepN k8
      have hV := hV7.keepN k8
      clear k8 bx7 by7 hT7 hV7 x0 x1 x2
      obtain ⟨x0, x1, x2⟩ := blk3 bx
      obtain ⟨y0, y1, y2⟩ := blk3 by_
      go_wp2_with fail
      refine (check_gen2 op a b 0 _ hc).mono ?_
      rintro e w9 ⟨rfl, k9⟩
      have bx9 := bx.keep k9 id
      have by9 := by_.keep k9 id
      replace gK := keepN gK k9
      have hT9 := hT.keepN k9
      have hV9 := hV.keepN k9
      clear k9 bx by_ hT hV x0 x1 x2 y0 y1 y2
      obtain ⟨y0, y1, y2⟩ := blk3 by9
      go_wp2_with fail
      refine (check_gen2 op' a' b' 0 _ hc').mono ?_
      rintro e w10 ⟨rfl, k10⟩
      have bx := bx9.keep k10 id
      have by_ := by9.keep k10 id
      replace gK := keepN gK k10
      have hT := hT9.keepN k10
      have hV := hV9.keepN k10
      clear k10 bx9 by9 hT9 hV9 y0 y1 y2
      obtain ⟨y0, y1, y2⟩ := blk3 by_
      go_wp2_with fail
      refine (eff_gen op' a' b' tl' ll' n m false _ hx').mono ?_
      rintro e w11 ⟨A', c', B', d', rfl, hT', hV', k11⟩
      have bx11 := bx.keep k11 id
      have by11 := by_.keep k11 id
      replace gK := keepN gK k11
      have hT11 := hT.keepN k11
      have hV11 := hV.keepN k11
      clear k11 bx by_ hT hV y0 y1 y2
      obtain ⟨x0, x1, x2⟩ := blk3 bx11
      go_wp2_with fail
      refine (kinds_gen op j l _ hj).mono ?_
      rintro e w12 ⟨rfl, k12⟩
      have bx := bx11.keep k12 id
      have by_ := by11.keep k12 id
      replace gK := keepN gK k12
      have hT := hT11.keepN k12
      have hV := hV11.keepN k12
      replace hT' := hT'.keepN k12
      replace hV' := hV'.keepN k12
      clear k12 bx11 by11 hT11 hV11 x0 x1 x2
      obtain ⟨x0, x1, x2⟩ := blk3 bx
      obtain ⟨y0, y1, y2⟩ := blk3 by_
      go_wp2
      go_ret
      exact ⟨rfl, gK⟩

set_option maxRecDepth 100000 in
set_option maxHeartbeats 4000000 in
theorem effects_Q_Tb (op a b op' a' b' : Int) (w : World) (hL : Hid (LaidO w)) (tl ll : List Int) (n m : Nat) (hx : Hid ((takesI op a b = tl ∧ leavesI op a b = ll) ∧ (fixedI op a b = false ∧ tl.length = n ∧ ll.length = m))) (hc : Hid (chk op a b = 0)) (he : Hid (endsI op a b = false)) (gn : Int) (hg : Hid (goesN op a b = gn ∧ goesI op a b = false)) (hn : n ≤ 2) (hm : m ≤ 2) (dn : decide ((2 : Int) < (n : Int)) = false) (dm : decide ((2 : Int) < (m : Int)) = false) (hk : Hid (∀ t ∈ tl ++ ll, W.knownB t = true)) (e0 : (op' != op) = false) (hc' : Hid (chk op' a' b' = 0)) (tl' ll' : List Int) (hx' : Hid ((takesI op' a' b' = tl' ∧ leavesI op' a' b' = ll') ∧ (fixedI op' a' b' = false ∧ tl'.length = n ∧ ll'.length = m))) (j l : Int) (hj : Hid ((rowAt op).ka = j ∧ (rowAt op).kb = l)) (q1 : (j == 2) = false) (q2 : (l == 3) = true) (r2 : (b != b') = true) :
    Calls Tryd.prog 3 #[instV op a b, instV op' a' b'] w fun e w' => e = .returned (.bool true) ∧ Keep NoB w w' := by
  obtain ⟨i0, hi, hz0, hz1, hz2⟩ := info_parts int_info
  have bx0 := (Blk.new w 23 #[.int .i64 op, .int .i64 a, .int .i64 b]).alloc (.cells #[.int .i64 op', .int .i64 a', .int .i64 b'] 23)
  have by0 := Blk.new (w.alloc (.cells #[.int .i64 op, .int .i64 a, .int .i64 b] 23)) 23 #[.int .i64 op', .int .i64 a', .int .i64 b']
  rw [World.size_alloc] at by0
  have gK := ((Keep.refl NoB w).alloc (.cells #[.int .i64 op, .int .i64 a, .int .i64 b] 23)).alloc (.cells #[.int .i64 op', .int .i64 a', .int .i64 b'] 23)
  go_enter Tryd.func3, Tryd.ntmps3
  go_wp2_with fail
  refine (alive_any _ (hL.out.keep gK)).mono ?_
  rintro e w1 ⟨rfl, k1⟩
  have bx := bx0.keep k1 id
  have by_ := by0.keep k1 id
  replace gK := keepN gK k1
  have x0 : w1.cell? ⟨w.heap.size, 0, none⟩ = some (.int .i64 op) := bx.cell 0
  have x1 : w1.cell? ⟨w.heap.size, 1, none⟩ = some (.int .i64 a) := bx.cell 1
  have x2 : w1.cell? ⟨w.heap.size, 2, none⟩ = some (.int .i64 b) := bx.cell 2
  clear bx0 by0 k1
  go_wp2_with fail
  refine (eff_gen op a b tl ll n m false _ hx).mono ?_
  rintro e w2 ⟨A, c, B, d, rfl, hT, hV, k2⟩
  have bx2 := bx.keep k2 id
  have by2 := by_.keep k2 id
  replace gK := keepN gK k2
  clear k2 bx by_ x0 x1 x2
  have x0 : w2.cell? ⟨w.heap.size, 0, none⟩ = some (.int .i64 op) := bx2.cell 0
  have x1 : w2.cell? ⟨w.heap.size, 1, none⟩ = some (.int .i64 a) := bx2.cell 1
  have x2 : w2.cell? ⟨w.heap.size, 2, none⟩ = some (.int .i64 b) := bx2.cell 2
  go_wp2_with fail
  refine (check_gen2 op a b 0 _ hc).mono ?_
  rintro e w3 ⟨rfl, k3⟩
  have bx := bx2.keep k3 id
  have by_ := by2.keep k3 id
  replace gK := keepN gK k3
  have hT3 := hT.keepN k3
  have hV3 := hV.keepN k3
  clear k3 bx2 by2 x0 x1 x2 hT hV
  have hM := World.ownsRow_made (e := 3) (size := 1) (base := 0) w3 #[] 0 (Nat.zero_le _) (Nat.zero_le _) rfl
  have hT4 := hT3.keepN ((Keep.refl NoB w3).alloc (.cells #[] 3))
  have hlT : Hid ((ivs tl).length = n * 1) := by show _ = _; simp [ivs, hx.out.2.2.1]
  have hlV : Hid ((ivs ll).length = m * 1) := by show _ = _; simp [ivs, hx.out.2.2.2]
  go_wp2_with (at_builtin; refine wpList_append_rd _ rfl (.tmp 46) (.tmp 47) _ rfl 3 1 8 i0 _ Tryd.underlying25 hi hz0 hz1 hz2 rfl (by decide) _ 0 [] _ n _ (ivs tl) rfl hM rfl hT4 hlT.out (ivs_one tl) (by unfold maxLen; omega) (by omega) ?_)
  intro B1 d1 w4 hrow4 hg4 hv4
  have hO4 : Own w4 3 1 (Fresh w3) (.slice B1 n d1) n (ivs tl) ∧ Keep NoB w3 w4 := W.own_after (W := w3.alloc (.cells #[] 3)) (v := .slice (some ⟨w3.heap.size, 0, none⟩) 0 0) (fun g e => by simp [Value.ownBlock] at e; subst e; simp [Fresh]) ((Keep.refl NoB w3).alloc _) hg4 (by simpa [World.size_alloc] using hv4) (by simpa using hrow4)
  clear hrow4 hg4 hv4 hM hT4
  obtain ⟨hO4, k4⟩ := hO4
  have hV4 := hV3.keepN k4
  have bx4 := bx.keep k4 id
  have by4 := by_.keep k4 id
  have gK4 := keepN gK k4
  go_wp2_with (at_builtin; refine wpList_append_rd _ rfl (.tmp 48) (.tmp 49) _ rfl 3 1 8 i0 _ Tryd.underlying25 hi hz0 hz1 hz2 rfl (by decide) _ n (ivs tl) _ m _ (ivs ll) rfl hO4.1 rfl hV4 hlV.out (ivs_one ll) (by unfold maxLen; omega) (by omega) ?_)
  intro B2 d2 w5 hrow5 hg5 hv5
  have hO5 : Own w5 3 1 (Fresh w3) (.slice B2 (n + m) d2) (n + m) (ivs tl ++ ivs ll) ∧ Keep NoB w3 w5 := W.own_after hO4.2 k4 hg5 hv5 hrow5
  clear hrow5 hg5 hv5 hO4 k4 hV4 bx4 by4 gK4
  obtain ⟨hO5, k5⟩ := hO5
  have hR5 : Rd w5 B2 (ivs (tl ++ ll)) := by have := rd_of hO5; rwa [← ivs_app] at this
  have hT5 := hT3.keepN k5
  have hV5 := hV3.keepN k5
  have bx5 := bx.keep k5 id
  have by5 := by_.keep k5 id
  replace gK := keepN gK k5
  have hN : Hid ((tl ++ ll).length = n + m) := by show _ = _; rw [List.length_append, hx.out.2.2.1, hx.out.2.2.2]
  clear k5 hO5 bx by_ hT3 hV3
  have hN4 : n + m ≤ 4 := by omega
  generalize n + m = N at hN hN4 ⊢
  go_wp2_with fail
  go_loopw [10, 52] (fun _ i wr => ∃ k : Nat, k ≤ N ∧ i = .int .i64 (k : Int) ∧ Keep NoB w5 wr) (fun _ i _ => N - (intOf i).toNat)
  case atStart => exact ⟨0, Nat.zero_le _, rfl, Keep.refl _ _⟩
  case round =>
    obtain ⟨k, hkN, rfl, hK⟩ := hrel
    by_cases hlt : k < N
    · have hka : k < (tl ++ ll).length := by rw [hN.out]; exact hlt
      obtain ⟨ga, oa, rfl, hca⟩ := rdI_at hR5 (by omega)
      have ca := hK.cell (hca k hka) id
      have HN : Hid (W.knownB (tl ++ ll)[k] = true) := hk.out _ (List.getElem_mem hka)
      clear hca
      generalize (tl ++ ll)[k] = y at ca HN
      have hy : Hid (∀ w, Calls Tryd.prog 9 #[.int .i64 y] w fun e w' => e = .returned (.bool true) ∧ w = w') := fun w => by have := W.known_any y w; rwa [HN.out] at this
      go_wp2_with fail
      refine (hy.out _).mono ?_
      rintro e w6 ⟨rfl, rfl⟩
      go_wp2
      go_roundw
      case rel => exact ⟨k + 1, by omega, by go_num, hK⟩
      case measure => simp [intOf]; omega
    · have bx := bx5.keep hK id
      have by_ := by5.keep hK id
      replace gK := keepN gK hK
      have hT := hT5.keepN hK
      have hV := hV5.keepN hK
      obtain ⟨x0, x1, x2⟩ := blk3 bx
      clear bx5 by5 hK hT5 hV5 hR5 hN hN4 hk
      go_wp2_with fail
      refine (goes_gen op a b gn false _ hg).mono ?_
      clear hlt hkN
      rintro e w7 ⟨rfl, k7⟩
      have bx7 := bx.keep k7 id
      have by7 := by_.keep k7 id
      replace gK := keepN gK k7
      have hT7 := hT.keepN k7
      have hV7 := hV.keepN k7
      clear k7 bx by_ hT hV x0 x1 x2
      obtain ⟨x0, x1, x2⟩ := blk3 bx7
      go_wp2_with fail
      refine (ends_gen op a b false _ he).mono ?_
      rintro e w8 ⟨rfl, k8⟩
      have bx := bx7.keep k8 id
      have by_ := by7.keep k8 id
      replace gK := keepN gK k8
      have hT := hT7.keepN k8
      have hV := hV7.keepN k8
      clear k8 bx7 by7 hT7 hV7 x0 x1 x2
      obtain ⟨x0, x1, x2⟩ := blk3 bx
      obtain ⟨y0, y1, y2⟩ := blk3 by_
      go_wp2_with fail
      refine (check_gen2 op a b 0 _ hc).mono ?_
      rintro e w9 ⟨rfl, k9⟩
      have bx9 := bx.keep k9 id
      have by9 := by_.keep k9 id
      replace gK := keepN gK k9
      have hT9 := hT.keepN k9
      have hV9 := hV.keepN k9
      clear k9 bx by_ hT hV x0 x1 x2 y0 y1 y2
      obtain ⟨y0, y1, y2⟩ := blk3 by9
      go_wp2_with fail
      refine (check_gen2 op' a' b' 0 _ hc').mono ?_
      rintro e w10 ⟨rfl, k10⟩
      have bx := bx9.keep k10 id
      have by_ := by9.keep k10 id
      replace gK := keepN gK k10
      have hT := hT9.keepN k10
      have hV := hV9.keepN k10
      clear k10 bx9 by9 hT9 hV9 y0 y1 y2
      obtain ⟨y0, y1, y2⟩ := blk3 by_
      go_wp2_with fail
      refine (eff_gen op' a' b' tl' ll' n m false _ hx').mono ?_
      rintro e w11 ⟨A', c', B', d', rfl, hT', hV', k11⟩
      have bx11 := bx.keep k11 id
      have by11 := by_.keep k11 id
      replace gK := keepN gK k11
      have hT11 := hT.keepN k11
      have hV11 := hV.keepN k11
      clear k11 bx by_ hT hV y0 y1 y2
      obtain ⟨x0, x1, x2⟩ := blk3 bx11
      go_wp2_with fail
      refine (kinds_gen op j l _ hj).mono ?_
      rintro e w12 ⟨rfl, k12⟩
      have bx := bx11.keep k12 id
      have by_ := by11.keep k12 id
      replace gK := keepN gK k12
      have hT := hT11.keepN k12
      have hV := hV11.keepN k12
      replace hT' := hT'.keepN k12
      replace hV' := hV'.keepN k12
      clear k12 bx11 by11 hT11 hV11 x0 x1 x2
      obtain ⟨x0, x1, x2⟩ := blk3 bx
      obtain ⟨y0, y1, y2⟩ := blk3 by_
      go_wp2
      go_ret
      exact ⟨rfl, gK⟩

theorem effects_Q (op a b op' a' b' : Int) (w : World) (hL : Hid (LaidO w)) (tl ll : List Int) (n m : Nat) (hx : Hid ((takesI op a b = tl ∧ leavesI op a b = ll) ∧ (fixedI op a b = false ∧ tl.length = n ∧ ll.length = m))) (hc : Hid (chk op a b = 0)) (he : Hid (endsI op a b = false)) (gn : Int) (hg : Hid (goesN op a b = gn ∧ goesI op a b = false)) (hn : n ≤ 2) (hm : m ≤ 2) (dn : decide ((2 : Int) < (n : Int)) = false) (dm : decide ((2 : Int) < (m : Int)) = false) (hk : Hid (∀ t ∈ tl ++ ll, W.knownB t = true)) (ho : okI op a b = true) :
    Calls Tryd.prog 3 #[instV op a b, instV op' a' b'] w fun e w' => e = .returned (.bool true) ∧ Keep NoB w w' := by
  by_cases e : op' = op
  · cases hy : okI op' a' b'
    · exact effects_Q_Y op a b op' a' b' w hL tl ll n m hx hc he gn hg hn hm dn dm hk (by simp [e]) (chk_no hy)
    · obtain ⟨f1, f2, f3⟩ := eff_alike' e ho hy
      have hx' : Hid ((takesI op' a' b' = takesI op' a' b' ∧ leavesI op' a' b' = leavesI op' a' b') ∧ (fixedI op' a' b' = false ∧ (takesI op' a' b').length = n ∧ (leavesI op' a' b').length = m)) :=
        ⟨⟨rfl, rfl⟩, by rw [← f1]; exact hx.out.2.1, by rw [← f2, hx.out.1.1]; exact hx.out.2.2.1, by rw [← f3, hx.out.1.2]; exact hx.out.2.2.2⟩
      have hs : ((rowAt op).ka = 2 → a = a') → ((rowAt op).kb = 3 → b = b') → Hid (tl = takesI op' a' b' ∧ ll = leavesI op' a' b') := fun u v => by
        have := eff_same' e ho hy u v
        rw [hx.out.1.1, hx.out.1.2] at this
        exact this
      by_cases hj : (rowAt op).ka = 2
      · have hl : (rowAt op).kb ≠ 3 := not_both hj
        by_cases ha : a = a'
        · exact effects_Q_Sa op a b op' a' b' w hL tl ll n m hx hc he gn hg hn hm dn dm hk (by simp [e]) (chk_ok hy) _ _ hx' _ _ ⟨rfl, rfl⟩ (by simp [hj]) (by simpa using hl) (by simpa using ha) (hs (fun _ => ha) (fun h => absurd h hl))
        · exact effects_Q_Ta op a b op' a' b' w hL tl ll n m hx hc he gn hg hn hm dn dm hk (by simp [e]) (chk_ok hy) _ _ hx' _ _ ⟨rfl, rfl⟩ (by simp [hj]) (by simpa using ha)
      · by_cases hl : (rowAt op).kb = 3
        · by_cases hb : b = b'
          · exact effects_Q_Sb op a b op' a' b' w hL tl ll n m hx hc he gn hg hn hm dn dm hk (by simp [e]) (chk_ok hy) _ _ hx' _ _ ⟨rfl, rfl⟩ (by simpa using hj) (by simp [hl]) (by simpa using hb) (hs (fun h => absurd h hj) (fun _ => hb))
          · exact effects_Q_Tb op a b op' a' b' w hL tl ll n m hx hc he gn hg hn hm dn dm hk (by simp [e]) (chk_ok hy) _ _ hx' _ _ ⟨rfl, rfl⟩ (by simpa using hj) (by simp [hl]) (by simpa using hb)
        · exact effects_Q_S0 op a b op' a' b' w hL tl ll n m hx hc he gn hg hn hm dn dm hk (by simp [e]) (chk_ok hy) _ _ hx' _ _ ⟨rfl, rfl⟩ (by simpa using hj) (by simpa using hl) (hs (fun h => absurd h hj) (fun h => absurd h hl))
  · exact effects_Q_D op a b op' a' b' w hL tl ll n m hx hc he gn hg hn hm dn dm hk (by simpa using e)

end Go.Proofs.YtpkcjokkadfhcaaDoor.O
