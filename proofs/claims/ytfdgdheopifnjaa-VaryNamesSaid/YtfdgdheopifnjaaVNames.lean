/-
  VaryNames: the law returns true. No conditions.
-/
import Derived.Test.YtfdgdheopifnjaaVNamesU
namespace Go.Proofs.Ytfdgdheopifnjaa
open Go.RowKit

/-- Seven times a byte. -/
def sv (b : UInt8) : List UInt8 := [b, b, b, b, b, b, b]
theorem enc_top : encL 18446744073709551615 = [255, 255] ++ sv 255 := by decide +kernel
theorem enc_56a : encL 72057594037927935 = [254] ++ sv 255 := by decide +kernel
theorem enc_56b : encL 72057594037927936 = [255, 1] ++ sv 0 := by decide +kernel
theorem nr1 : Hid (NumR [100] 0 99 = (0, 12, if 12 = 0 then wd 0 else 0)) := by show _ = _; decide +kernel
theorem nr2 : Hid (NumR [99] 0 99 = (99, 0, if 0 = 0 then wd 99 else 0)) := by show _ = _; decide +kernel
theorem nr3 : Hid (NumR [128, 5] 0 18446744073709551615 = (0, 11, if 11 = 0 then wd 0 else 0)) := by show _ = _; decide +kernel
theorem nr4 : Hid (NumR [128] 0 18446744073709551615 = (0, 10, if 10 = 0 then wd 0 else 0)) := by show _ = _; decide +kernel
theorem nr5 : Hid (NumR [] 0 18446744073709551615 = (0, 10, if 10 = 0 then wd 0 else 0)) := by show _ = _; decide +kernel
theorem nr6 : Hid (NumR ([255, 255] ++ sv 255) 0 18446744073709551615 = (18446744073709551615, 0, if 0 = 0 then wd 18446744073709551615 else 0)) := by show _ = _; decide +kernel
theorem nr7 : Hid (NumR ([255, 255] ++ sv 255) 0 18446744073709551614 = (0, 12, if 12 = 0 then wd 0 else 0)) := by show _ = _; decide +kernel
theorem nr8 : Hid (NumR ([255, 0] ++ sv 255) 0 18446744073709551615 = (0, 11, if 11 = 0 then wd 0 else 0)) := by show _ = _; decide +kernel
theorem nr9 : Hid (NumR ([255] ++ sv 255) 0 18446744073709551615 = (0, 10, if 10 = 0 then wd 0 else 0)) := by show _ = _; decide +kernel
theorem nr10 : Hid (NumR (([254] ++ sv 255) ++ [0]) 0 18446744073709551615 = (72057594037927935, 0, if 0 = 0 then wd 72057594037927935 else 0)) := by show _ = _; decide +kernel

theorem number_str (N : Int) (n : Nat) (b : ByteArray) (w : World) (hN : N = n) (hb : str (encL n) = b) :
    Calls Try.prog 37 #[.int .u64 N] w fun e w' => e = .returned (.string b) ∧ Keep NoB w w' := by
  subst hN hb; exact number_any n w
theorem reads_str (b : ByteArray) (l : List UInt8) (most want er : Nat) (M N E : Int) (w : World) (hb : b = str l) (hl : l.length ≤ 140737488355328) (hM : M = most) (hN : N = want) (hE : E = er) (hs : Hid (NumR l 0 most = (want, er, if er = 0 then wd want else 0))) :
    Calls Try.prog 38 #[.string b, .int .u64 M, .int .u64 N, .int .i64 E] w fun e w' => e = .returned (.bool true) ∧ Keep NoB w w' := by
  subst hb; exact reads_at l most want er M N E w hl hM hN hE hs

theorem width_str (N V : Int) (n : Nat) (w : World) (hN : N = n) (hV : (wd n : Int) = V) :
    Calls Try.prog 12 #[.int .u64 N] w fun e w' => e = .returned (.int .i64 V) ∧ w' = w := by
  subst hN hV; exact (width_any n w).mono fun _ _ ⟨h1, h2⟩ => ⟨h1, h2.symm⟩
theorem wd_pow (j : Nat) (h : j < 64) : (wd (2 ^ j) : Int) = min 9 ((j : Int) / 7 + 1) ∧ (wd (2 ^ j - 1) : Int) = min 9 (max 1 (((j : Int) + 6) / 7)) ∧ 1 ≤ 2 ^ j ∧ 2 ^ j < 18446744073709551616 := by
  have : ∀ j : Fin 64, wd (2 ^ j.1) = min 9 (j.1 / 7 + 1) ∧ wd (2 ^ j.1 - 1) = min 9 (max 1 ((j.1 + 6) / 7)) ∧ 1 ≤ 2 ^ j.1 ∧ 2 ^ j.1 < 18446744073709551616 := by decide +kernel
  obtain ⟨h1, h2, h3, h4⟩ := this ⟨j, h⟩
  dsimp only at h1 h2 h3 h4
  exact ⟨by rw [h1]; omega, by rw [h2]; omega, h3, h4⟩
theorem wrap_pow (j n : Nat) (hn : n = 2 ^ j) (h : n < 18446744073709551616) : IntKind.u64.wrap (2 ^ j) = (n : Int) := by
  have e : (n : Int) = (2 : Int) ^ j := by rw [hn]; simp
  rw [← e]
  exact IntWalk.u64_in _ ⟨by omega, by omega⟩

theorem zig_str (n V : Int) (w : World) (h1 : -9223372036854775808 ≤ n) (h2 : n ≤ 9223372036854775807) (hV : (zig n : Int) = V) :
    Calls Try.prog 14 #[.int .i64 n] w fun e w' => e = .returned (.int .u64 V) ∧ w' = w := by
  subst hV; exact (zig_any n w h1 h2).mono fun _ _ ⟨h1, h2⟩ => ⟨h1, h2.symm⟩
theorem zag_str (N V : Int) (n : Nat) (w : World) (hN : N = n) (h : n < 18446744073709551616) (hV : zag n = V) :
    Calls Try.prog 16 #[.int .u64 N] w fun e w' => e = .returned (.int .i64 V) ∧ w' = w := by
  subst hN hV; exact (zag_any n w h).mono fun _ _ ⟨h1, h2⟩ => ⟨h1, h2.symm⟩
/-- The signed numbers of the example. -/
def sg (j : Nat) : Int := [0, -1, 1, -2, 2, -3].getD j 0
theorem sg_facts (j : Nat) (h : j < 6) : -3 ≤ sg j ∧ sg j ≤ 2 ∧ (zig (sg j) : Int) = (j : Int) ∧ zag j = sg j := by
  have : ∀ j : Fin 6, -3 ≤ sg j.1 ∧ sg j.1 ≤ 2 ∧ (zig (sg j.1) : Int) = (j.1 : Int) ∧ zag j.1 = sg j.1 := by decide +kernel
  exact this ⟨j, h⟩
theorem sg_cells (wo : World) : Hid (∀ j, j < 6 → (wo.alloc (.cells #[.int .i64 0, .int .i64 (-1), .int .i64 1, .int .i64 (-2), .int .i64 2, .int .i64 (-3)] 2)).cell? ⟨wo.heap.size, j, none⟩ = some (.int .i64 (sg j))) := by
  show ∀ j, _ → _
  intro j h
  rw [World.cell?_alloc_mark]
  have : ∀ j : Fin 6, (#[.int .i64 0, .int .i64 (-1), .int .i64 1, .int .i64 (-2), .int .i64 2, .int .i64 (-3)] : Array Value)[j.1]? = some (.int .i64 (sg j.1)) := by
    intro j
    rcases j with ⟨j, h⟩
    rcases (show j = 0 ∨ j = 1 ∨ j = 2 ∨ j = 3 ∨ j = 4 ∨ j = 5 by omega) with rfl | rfl | rfl | rfl | rfl | rfl <;> rfl
  exact this ⟨j, h⟩

theorem sr1 : Hid (SigR [3, 2, 97, 98, 99] 0 (-2) 2 = (-2, 0, 1)) := by show _ = _; decide +kernel
theorem sr2 : Hid (SigR [3, 2, 97, 98, 99] 1 2 9 = (0, 12, 1)) := by show _ = _; decide +kernel
theorem by1 : Hid (BytR [3, 2, 97, 98, 99] 1 (max 2 0 : Int).toNat = ([97, 98], 0, 4)) := by show _ = _; decide +kernel
theorem rw1 : Hid (RawR [3, 2, 97, 98, 99] 4 2 = ([], 10, 4)) := by show _ = _; decide +kernel
theorem rw2 : Hid (RawR [3, 2, 97, 98, 99] 4 (-1) = ([], 2, 4)) := by show _ = _; decide +kernel
theorem rw3 : Hid (RawR [3, 2, 97, 98, 99] 4 1 = ([99], 0, 5)) := by show _ = _; decide +kernel
theorem by2 : Hid (BytR [3, 97, 98] 0 (max 9 0 : Int).toNat = ([], 10, 0)) := by show _ = _; decide +kernel
theorem by3 : Hid (BytR [3, 97, 98] 0 (max 2 0 : Int).toNat = ([], 12, 0)) := by show _ = _; decide +kernel
theorem by4 : Hid (BytR [3, 97, 98] 0 (max (-1) 0 : Int).toNat = ([], 12, 0)) := by show _ = _; decide +kernel
theorem nr11 : Hid (NumR [] 0 1 = (0, 10, 0)) := by show _ = _; decide +kernel
theorem five : ([3, 2, 97, 98, 99] : List UInt8).length ≤ 140737488355328 := by decide
theorem three : ([3, 97, 98] : List UInt8).length ≤ 140737488355328 := by decide

set_option maxRecDepth 100000 in
set_option maxHeartbeats 16000000 in
theorem names_walk (w : World) :
    Calls Try.prog 5 #[] w fun e w' => e = .returned (.bool true) ∧ Keep NoB w w' := by
  obtain ⟨s7, hs7⟩ : ∃ s7, Hid (s7 = sv 255) := ⟨_, Lib.hid rfl⟩
  obtain ⟨z7, hz7⟩ : ∃ z7, Hid (z7 = sv 0) := ⟨_, Lib.hid rfl⟩
  have ls7 : s7.length = 7 := by rw [hs7.out]; rfl
  have lz7 : z7.length = 7 := by rw [hz7.out]; rfl
  go_enter Try.func5, Try.ntmps5
  go_wp2_with fail
  refine (rep_at 255 s7 _ (by rw [hs7.out]; decide)).mono ?_
  rintro e w1 ⟨rfl, hk1⟩
  go_wp2_with fail
  refine (number_str _ 18446744073709551615 ({ data := #[255, 255] } ++ str s7) _ rfl (by rw [hs7.out, enc_top]; rfl)).mono ?_
  rintro e w2 ⟨rfl, hk2⟩
  replace hk2 := keepN hk1 hk2
  clear hk1
  go_wp2_with fail
  refine (number_str _ 72057594037927935 ({ data := #[254] } ++ str s7) _ rfl (by rw [hs7.out, enc_56a]; rfl)).mono ?_
  rintro e w3 ⟨rfl, hk3⟩
  replace hk2 := keepN hk2 hk3
  clear hk3
  go_wp2_with fail
  refine (number_str _ 72057594037927936 ({ data := #[255, 1] } ++ str z7) _ rfl (by rw [hz7.out, enc_56b]; rfl)).mono ?_
  rintro e w3 ⟨rfl, hk3⟩
  replace hk2 := keepN hk2 hk3
  clear hk3
  go_wp2_with fail
  refine (rep_at 0 z7 _ (by rw [hz7.out]; decide)).mono ?_
  rintro e w3 ⟨rfl, hk3⟩
  replace hk2 := keepN hk2 hk3
  clear hk3
  go_wp2_with fail
  refine (reads_str _ ([100]) 99 0 12 _ _ _ _ rfl (by decide) rfl rfl rfl nr1).mono ?_
  rintro e w3 ⟨rfl, hk3⟩
  replace hk2 := keepN hk2 hk3
  clear hk3
  go_wp2_with fail
  refine (reads_str _ ([99]) 99 99 0 _ _ _ _ rfl (by decide) rfl rfl rfl nr2).mono ?_
  rintro e w3 ⟨rfl, hk3⟩
  replace hk2 := keepN hk2 hk3
  clear hk3
  go_wp2_with fail
  refine (reads_str _ ([128, 5]) 18446744073709551615 0 11 _ _ _ _ rfl (by decide) rfl rfl rfl nr3).mono ?_
  rintro e w3 ⟨rfl, hk3⟩
  replace hk2 := keepN hk2 hk3
  clear hk3
  go_wp2_with fail
  refine (reads_str _ ([128]) 18446744073709551615 0 10 _ _ _ _ rfl (by decide) rfl rfl rfl nr4).mono ?_
  rintro e w3 ⟨rfl, hk3⟩
  replace hk2 := keepN hk2 hk3
  clear hk3
  go_wp2_with fail
  refine (reads_str _ ([]) 18446744073709551615 0 10 _ _ _ _ rfl (by decide) rfl rfl rfl nr5).mono ?_
  rintro e w3 ⟨rfl, hk3⟩
  replace hk2 := keepN hk2 hk3
  clear hk3
  go_wp2_with fail
  refine (reads_str _ ([255, 255] ++ sv 255) 18446744073709551615 18446744073709551615 0 _ _ _ _ (by rw [hs7.out]; rfl) (by decide) rfl rfl rfl nr6).mono ?_
  rintro e w3 ⟨rfl, hk3⟩
  replace hk2 := keepN hk2 hk3
  clear hk3
  go_wp2_with fail
  refine (reads_str _ ([255, 255] ++ sv 255) 18446744073709551614 0 12 _ _ _ _ (by rw [hs7.out]; rfl) (by decide) rfl rfl rfl nr7).mono ?_
  rintro e w3 ⟨rfl, hk3⟩
  replace hk2 := keepN hk2 hk3
  clear hk3
  go_wp2_with fail
  refine (reads_str _ ([255, 0] ++ sv 255) 18446744073709551615 0 11 _ _ _ _ (by rw [hs7.out]; rfl) (by decide) rfl rfl rfl nr8).mono ?_
  rintro e w3 ⟨rfl, hk3⟩
  replace hk2 := keepN hk2 hk3
  clear hk3
  go_wp2_with fail
  refine (reads_str _ ([255] ++ sv 255) 18446744073709551615 0 10 _ _ _ _ (by rw [hs7.out]; rfl) (by decide) rfl rfl rfl nr9).mono ?_
  rintro e w3 ⟨rfl, hk3⟩
  replace hk2 := keepN hk2 hk3
  clear hk3
  go_wp2_with fail
  refine (reads_str _ (([254] ++ sv 255) ++ [0]) 18446744073709551615 72057594037927935 0 _ _ _ _ (by rw [hs7.out]; rfl) (by decide) rfl rfl rfl nr10).mono ?_
  rintro e w3 ⟨rfl, hk3⟩
  replace hk2 := keepN hk2 hk3
  clear hk3
  go_wp2_with fail
  clear hs7 hz7 ls7 lz7
  go_loopw [3, 4] (fun ok k wr => ok = .bool true ∧ ∃ j : Nat, j ≤ 64 ∧ k = .int .i64 (j : Int) ∧ Keep NoB w wr) (fun _ k _ => 64 - (intOf k).toNat)
  case atStart => exact ⟨rfl, 0, by omega, rfl, hk2⟩
  case round =>
    clear hk2
    obtain ⟨rfl, j, hj, rfl, hK⟩ := hrel
    by_cases hlt : j < 64
    · obtain ⟨n, hn⟩ : ∃ n : Nat, n = 2 ^ j := ⟨_, rfl⟩
      obtain ⟨f1, f2, f3, f4⟩ := wd_pow j hlt
      rw [← hn] at f1 f2 f3 f4
      have hw := wrap_pow j n hn f4
      have hl := encL_length n f4
      clear hn
      go_wp2_with fail
      refine (width_str _ _ n _ rfl f1).mono ?_
      rintro e w3 ⟨rfl, rfl⟩
      go_wp2_with fail
      refine (width_str _ _ (n - 1) _ (by omega) f2).mono ?_
      rintro e w4 ⟨rfl, rfl⟩
      go_wp2_with fail
      refine (number_any n _).mono ?_
      rintro e w5 ⟨rfl, hk5⟩
      go_wp2_with fail
      refine (width_str _ ((encL n).length : Int) n _ rfl (by rw [hl])).mono ?_
      rintro e w6 ⟨rfl, rfl⟩
      go_wp2
      go_roundw
      case rel => exact ⟨rfl, j + 1, by omega, by go_num, keepN hK hk5⟩
      case measure => simp [intOf]; omega
    · obtain rfl : j = 64 := by omega
      clear hj hlt
      obtain ⟨wo, rfl⟩ : ∃ wo, wo = wr := ⟨_, rfl⟩
      have hsg := sg_cells wo
      have hkA := hK.alloc (.cells #[.int .i64 0, .int .i64 (-1), .int .i64 1, .int .i64 (-2), .int .i64 2, .int .i64 (-3)] 2)
      obtain ⟨wA, hwA⟩ : ∃ wA, wo.alloc (.cells #[.int .i64 0, .int .i64 (-1), .int .i64 1, .int .i64 (-2), .int .i64 2, .int .i64 (-3)] 2) = wA := ⟨_, rfl⟩
      rw [hwA] at hsg hkA
      clear hK
      go_wp2_with fail
      try rw [hwA]
      clear hwA
      go_loopw [6, 142] (fun ok i wr => ∃ j : Nat, j ≤ 6 ∧ ok = .bool true ∧ wA = wr ∧ i = .int .i64 (j : Int)) (fun _ i _ => 6 - (intOf i).toNat)
      case atStart => exact ⟨0, by omega, rfl, rfl, rfl⟩
      case round =>
        obtain ⟨j, hj, rfl, rfl, rfl⟩ := hrel
        by_cases hlt : j < 6
        · have q := hsg.out j hlt
          obtain ⟨f1, f2, f3, f4⟩ := sg_facts j hlt
          go_wp2_with fail
          refine (zig_str _ _ _ (by omega) (by omega) f3).mono ?_
          rintro e w3 ⟨rfl, rfl⟩
          go_wp2_with fail
          refine (zag_str _ _ j _ (by omega) (by omega) f4).mono ?_
          rintro e w4 ⟨rfl, rfl⟩
          go_wp2
          go_roundw
          case rel =>
            (repeat apply Exists.intro)
            refine ⟨?_, rfl⟩
            exact ⟨j + 1, by omega, rfl, trivial, by go_num⟩
          case measure => simp [intOf]; omega
        · obtain rfl : j = 6 := by omega
          clear hj hlt hsg
          have kc := fun (w : World) (C : Array Value) (n c : Nat) => Lib.run_convert_bytes_const (P := Try.prog) w 27 5 C n c Try.underlying27 Try.underlying5
          go_wp2_with fail
          refine (zig_str _ 18446744073709551615 _ (by omega) (by omega) (by decide)).mono ?_
          rintro e w3 ⟨rfl, rfl⟩
          go_wp2_with fail
          refine (zag_str _ (-9223372036854775808) 18446744073709551615 _ rfl (by omega) (by decide)).mono ?_
          rintro e w4 ⟨rfl, rfl⟩
          go_wp2_with fail
          refine (zig_str _ 18446744073709551614 _ (by omega) (by omega) (by decide)).mono ?_
          rintro e w5 ⟨rfl, rfl⟩
          go_wp2_with fail
          refine (on_lit _ [3, 2, 97, 98, 99] _ _ _ _ rfl five rfl).mono ?_
          rintro e w6 ⟨br, rfl, hR, hk3, hbr⟩
          have hbw : w.heap.size ≤ br := Nat.le_trans hkA.size hbr
          replace hkA := keepN hkA hk3
          clear hk3 hbr
          go_wp2_with fail
          refine (vsig_at _ br _ _ 0 _ _ hR five (-2) 0 1 sr1).mono ?_
          clear hR
          rintro e w7 ⟨rfl, hR, hk3⟩
          replace hkA := hkA.trans hk3 (O := NoB) (fun k e h => by omega)
          clear hk3
          go_wp2_with fail
          refine (vsig_at _ br _ _ 1 _ _ hR five 0 12 1 sr2).mono ?_
          clear hR
          rintro e w8 ⟨rfl, hR, hk3⟩
          replace hkA := hkA.trans hk3 (O := NoB) (fun k e h => by omega)
          clear hk3
          go_wp2_with fail
          refine (bytes_str _ br _ _ 1 2 hR five (by omega) (by omega) [97, 98] 0 4 2 { data := #[97, 98] } by1 rfl rfl).mono ?_
          clear hR
          rintro e w9 ⟨A2, c2, rfl, hS2, hR, hk3⟩
          replace hkA := hkA.trans hk3 (O := NoB) (fun k e h => by omega)
          clear hk3
          go_wp2_with fail
          refine (at_is _ br _ _ 4 hR).mono ?_
          rintro e w10 ⟨rfl, rfl⟩
          go_wp2_with fail
          refine (end_str _ br _ _ 4 hR 13 rfl).mono ?_
          rintro e w11 ⟨rfl, hk3⟩
          replace hR := hR.keep hk3 (fun _ _ => id)
          replace hS2 := Lib.hid (fun w'' (h : Keep (fun k => k = br) w11 w'') => hS2.out w'' ((hk3.mono (fun _ hf _ => hf.elim)).trans h (fun k e _ => e)))
          replace hkA := keepN hkA hk3
          clear hk3
          go_wp2_with fail
          refine (raw_str _ br _ _ 4 2 hR five (by omega) [] 10 4 0 { data := #[] } rw1 rfl rfl).mono ?_
          clear hR
          rintro e w12 ⟨A3, c3, rfl, hS3, hR, hk3⟩
          replace hS2 := Lib.hid (fun w'' (h : Keep (fun k => k = br) w12 w'') => hS2.out w'' (hk3.trans h (fun k e _ => e)))
          replace hkA := hkA.trans hk3 (O := NoB) (fun k e h => by omega)
          clear hk3
          clear hS3
          go_wp2_with fail
          refine (raw_str _ br _ _ 4 (-1) hR five (by omega) [] 2 4 0 { data := #[] } rw2 rfl rfl).mono ?_
          clear hR
          rintro e w13 ⟨A4, c4, rfl, hS4, hR, hk3⟩
          replace hS2 := Lib.hid (fun w'' (h : Keep (fun k => k = br) w13 w'') => hS2.out w'' (hk3.trans h (fun k e _ => e)))
          replace hkA := hkA.trans hk3 (O := NoB) (fun k e h => by omega)
          clear hk3
          clear hS4
          go_wp2_with fail
          refine (raw_str _ br _ _ 4 1 hR five (by omega) [99] 0 5 1 { data := #[99] } rw3 rfl rfl).mono ?_
          clear hR
          rintro e w14 ⟨A5, c5, rfl, hS5, hR, hk3⟩
          replace hS2 := Lib.hid (fun w'' (h : Keep (fun k => k = br) w14 w'') => hS2.out w'' (hk3.trans h (fun k e _ => e)))
          replace hkA := hkA.trans hk3 (O := NoB) (fun k e h => by omega)
          clear hk3
          have kb := hS2.out _ (Keep.refl _ _)
          have kd := hS5.out _ (Keep.refl _ _)
          clear hS2 hS5
          go_wp2_with fail
          refine (end_str _ br _ _ 5 hR 0 rfl).mono ?_
          clear hR kb kd
          rintro e w15 ⟨rfl, hk3⟩
          replace hkA := keepN hkA hk3
          clear hk3 hbw
          go_wp2_with fail
          refine (on_lit _ [3, 97, 98] _ _ _ _ rfl three rfl).mono ?_
          rintro e w16 ⟨bs, rfl, hR, hk3, hbr⟩
          have hbw : w.heap.size ≤ bs := Nat.le_trans hkA.size hbr
          replace hkA := keepN hkA hk3
          clear hk3 hbr
          go_wp2_with fail
          refine (bytes_str _ bs _ _ 0 9 hR three (by omega) (by omega) [] 10 0 0 { data := #[] } by2 rfl rfl).mono ?_
          clear hR
          rintro e w17 ⟨A2, c2, rfl, -, hR, hk3⟩
          replace hkA := hkA.trans hk3 (O := NoB) (fun k e h => by omega)
          clear hk3
          go_wp2_with fail
          refine (bytes_str _ bs _ _ 0 2 hR three (by omega) (by omega) [] 12 0 0 { data := #[] } by3 rfl rfl).mono ?_
          clear hR
          rintro e w17 ⟨A2, c2, rfl, -, hR, hk3⟩
          replace hkA := hkA.trans hk3 (O := NoB) (fun k e h => by omega)
          clear hk3
          go_wp2_with fail
          refine (bytes_str _ bs _ _ 0 (-1) hR three (by omega) (by omega) [] 12 0 0 { data := #[] } by4 rfl rfl).mono ?_
          clear hR
          rintro e w17 ⟨A2, c2, rfl, -, hR, hk3⟩
          replace hkA := hkA.trans hk3 (O := NoB) (fun k e h => by omega)
          clear hk3
          go_wp2_with fail
          refine (at_is _ bs _ _ 0 hR).mono ?_
          clear hR
          rintro e w18 ⟨rfl, rfl⟩
          clear hbw kc
          have hR := ReelAt.zero w18
          have hbw := hkA.size
          replace hkA := hkA.alloc (.cells #[.slice none 0 0, .int .i64 0] 68)
          obtain ⟨bz, hbr⟩ : ∃ bz, w18.heap.size = bz := ⟨_, rfl⟩
          obtain ⟨wB, hwB⟩ : ∃ wB, w18.alloc (.cells #[.slice none 0 0, .int .i64 0] 68) = wB := ⟨_, rfl⟩
          rw [hwB] at hR hkA
          rw [hbr] at hR hbw
          go_wp2_with fail
          try rw [hwB]
          try rw [hbr]
          clear hwB hbr
          refine (rnumber_no _ _).mono ?_
          rintro e w19 ⟨rfl, rfl⟩
          go_wp2_with fail
          refine (rbytes_no _ _).mono ?_
          rintro e w20 ⟨rfl, rfl⟩
          go_wp2_with fail
          refine (rraw_no _ _).mono ?_
          rintro e w21 ⟨rfl, rfl⟩
          go_wp2_with fail
          refine (rsigned_no _ _ _).mono ?_
          rintro e w22 ⟨rfl, rfl⟩
          go_wp2_with fail
          refine (vnum_at _ bz _ _ 0 1 _ hR (by decide) rfl 0 10 0 nr11).mono ?_
          clear hR
          rintro e w23 ⟨rfl, hR, hk3⟩
          replace hkA := hkA.trans hk3 (O := NoB) (fun k e h => by omega)
          clear hk3
          go_wp2_with fail
          refine (alive_any _).mono ?_
          rintro e w24 ⟨rfl, hk3⟩
          replace hR := hR.keep hk3 (fun _ _ => id)
          replace hkA := keepN hkA hk3
          clear hk3
          go_wp2_with fail
          refine (tnumber_no _ 1 _ rfl).mono ?_
          rintro e w25 ⟨rfl, hk3⟩
          replace hR := hR.keep hk3 (fun _ _ => id)
          replace hkA := keepN hkA hk3
          clear hk3
          go_wp2_with fail
          refine (tsigned_no _ 1 (by omega) (by omega)).mono ?_
          rintro e w26 ⟨rfl, hk3⟩
          replace hR := hR.keep hk3 (fun _ _ => id)
          replace hkA := keepN hkA hk3
          clear hk3
          go_wp2_with fail
          refine (tbytes_no _).mono ?_
          rintro e w27 ⟨rfl, hk3⟩
          replace hR := hR.keep hk3 (fun _ _ => id)
          replace hkA := keepN hkA hk3
          clear hk3
          go_wp2_with fail
          refine (all_no _).mono ?_
          rintro e w28 ⟨rfl, rfl⟩
          go_wp2_with fail
          refine (end_no _).mono ?_
          rintro e w29 ⟨rfl, rfl⟩
          go_wp2_with fail
          refine (end_str _ bz _ _ 0 hR 0 rfl).mono ?_
          rintro e w30 ⟨rfl, hk3⟩
          replace hkA := keepN hkA hk3
          clear hk3 hR
          go_wp2_with fail
          refine (at_no _).mono ?_
          rintro e w31 ⟨rfl, rfl⟩
          go_wp2
          go_ret
          exact ⟨rfl, hkA⟩

end Go.Proofs.Ytfdgdheopifnjaa
