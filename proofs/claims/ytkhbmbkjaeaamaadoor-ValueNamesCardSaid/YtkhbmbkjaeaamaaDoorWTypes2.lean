/-
  What Types answers. Conditions: the letters stand.
-/
import Derived.Test.YtkhbmbkjaeaamaaDoorWTypes
namespace Go.Proofs.YtkhbmbkjaeaamaaDoor
open Go.RowKit

theorem size_of {S : ByteArray} {s : List UInt8} (h : S.data.toList = s) : S.size = s.length := by rw [← h, Array.length_toList]; rfl
theorem byte_at {S : ByteArray} {s : List UInt8} (h : S.data.toList = s) (i : Nat) (hi : i < S.size) (hj : i < s.length) : S[i] = s[i] := by subst h; simp; rfl
theorem get_at {S : ByteArray} (i : Nat) (hi : i < S.size) : S.get! i = S[i] := by simp [ByteArray.get!, getElem!_pos, hi]; rfl

set_option maxRecDepth 100000 in
set_option maxHeartbeats 4000000 in
theorem types_any (S : ByteArray) (s : List UInt8) (w : World) (hL : LetAt w) (hs : Hid (S.data.toList = s)) (h1 : S.size ≤ 9223372036854775807) :
    Calls Tryd.prog 10 #[.string S] w (TypesR w s) := by
  have HSZ := Lib.hid (size_of hs.out)
  by_cases hlong : 1024 < S.size
  · have HU : Hid (untxt s = none) := untxt_none (by rw [← HSZ.out]; omega)
    go_enter Tryd.func10, Tryd.ntmps10
    go_wp2
    go_ret2
    exact types_none HU.out (Keep.refl _ _)
  · obtain ⟨i0, hi, hz0, hz1, hz2⟩ := info_parts int_info
    go_enter Tryd.func10, Tryd.ntmps10
    go_wp2_with (at_make; refine wpList_make_own _ rfl _ _ 22 rfl w.heap.size 3 i0 _ 1 Tryd.underlying22 hi hz0 hz1 _ _ _ S.size rfl rfl rfl (by rw [hz2]; omega) (by unfold maxLen; omega) (Nat.le_refl _) ?_; intro w1 hrow1 hg1)
    have hO1 : Own w1 3 1 (Fresh w) (.slice (some ⟨w.heap.size, 0, none⟩) 0 S.size) 0 (ivs ((s.take 0).map unlet)) := Own.of_row hrow1 (fun _ h => h)
    have hK1 : Keep NoB w w1 := (Keep.refl NoB w).grown hg1 (fun g e _ => by cases e)
    have hsz1 : w.heap.size ≤ w1.heap.size := hK1.size
    clear hrow1 hg1
    have hk0 : (w1.iter S 0).heap[w1.heap.size]? = some (.stringIter S 0) := World.iter_heap w1 S 0
    have hO0 : Own (w1.iter S 0) 3 1 (Fresh w) (.slice (some ⟨w.heap.size, 0, none⟩) 0 S.size) 0 (ivs ((s.take 0).map unlet)) := hO1.keepN ((Keep.refl NoB w1).alloc _)
    have hK0 : Keep NoB w (w1.iter S 0) := hK1.alloc _
    go_loopw [4] (fun v wr => ∃ k : Nat, k ≤ S.size ∧ wr.heap[w1.heap.size]? = some (.stringIter S k) ∧ (∃ B d, v = .slice B k d ∧ Own wr 3 1 (Fresh w) (.slice B k d) k (ivs ((s.take k).map unlet))) ∧ Hid (((s.take k).all fun c => decide (unlet c ≠ 0)) = true) ∧ Keep NoB w wr)
      (fun _ wr => S.size - wr.iterPos w1.heap.size)
    case atStart => exact ⟨0, Nat.zero_le _, hk0, ⟨_, _, rfl, hO0⟩, rfl, hK0⟩
    case round =>
      obtain ⟨k, hk, hit, ⟨B, d, rfl, hO⟩, hall, hK⟩ := hrel
      clear hO0 hK0 hk0 hO1 hK1
      have hmu : Hid (wr.iterPos w1.heap.size = k) := by show _ = _; simp [World.iterPos, hit]
      by_cases hlt : k < S.size
      · have hks : k < s.length := by rw [← HSZ.out]; exact hlt
        have HT := Lib.hid (show s.take (k + 1) = s.take k ++ [s[k]] from List.take_succ_eq_append_getElem hks)
        have HM := Lib.hid (List.getElem_mem hks)
        have hbt := byte_at hs.out k hlt hks
        by_cases hb : (S[k]'hlt).toNat < 128
        · have hnext : ∀ ty, (Instr.next (.pointer (some ⟨w1.heap.size, 0, none⟩)) true ty).run Tryd.prog wr = _ := fun ty => Lib.run_next_ascii_at wr w1.heap.size S k ty hit hlt hb
          rw [hbt] at hnext hb
          have HB := Lib.hid (unletZ_byte s[k])
          generalize s[k] = c at hnext hb HT HM HB
          have hO2 := hO.iterAt hit (k + 1)
          have hit2 := Lib.iterAt_heap wr w1.heap.size S k (k + 1) hit
          have hK2 := hK.iterAt hsz1 S (k + 1)
          generalize wr.iterAt w1.heap.size S (k + 1) = w2 at hnext hO2 hit2 hK2
          have hL2 := hL.keep hK2
          clear hbt hO hK hit
          by_cases hc : unlet c = 0
          · have HU : Hid (untxt s = none) := untxt_none (fun h => by have := (List.all_eq_true.1 h.2) c HM.out; simp [hc] at this)
            have e0 : unletZ (c.toNat : Int) = 0 := HB.out.trans hc
            have HLT : Hid (Calls Tryd.prog 32 #[.int .i32 (c.toNat : Int)] w2 fun e w' => e = .returned (.tuple #[.int .i64 0, .bool false]) ∧ w2 = w') := by
              have := lettered_any (c.toNat : Int) w2 hL2
              rw [e0] at this
              exact this
            clear HB hc e0
            go_wp2_with (go_at_call 32; refine HLT.out.mono ?_; rintro e w' ⟨rfl, rfl⟩)
            go_ret2
            exact types_none HU.out hK2
          · have e0 : unletZ (c.toNat : Int) = unlet c := HB.out
            have HLT : Hid (Calls Tryd.prog 32 #[.int .i32 (c.toNat : Int)] w2 fun e w' => e = .returned (.tuple #[.int .i64 (unlet c), .bool true]) ∧ w2 = w') := by
              have := lettered_any (c.toNat : Int) w2 hL2
              rw [e0, show decide (unlet c ≠ 0) = true by simpa using hc] at this
              exact this
            have hall2 : Hid (((s.take (k + 1)).all fun c => decide (unlet c ≠ 0)) = true) := by show _ = _; rw [HT.out, List.all_append, hall.out]; simp [hc]
            have HZ : Hid (ivs ((s.take (k + 1)).map unlet) = ivs ((s.take k).map unlet) ++ [.int .i64 (unlet c)]) := by show _ = _; rw [HT.out]; simp
            clear HB hc e0 HT hall HM
            go_wp2_with (first
              | (go_at_call 32; refine HLT.out.mono ?_; rintro e w' ⟨rfl, rfl⟩)
              | (at_builtin; refine wpList_append_rd _ rfl (.tmp 27) (.tmp 29) _ rfl 3 1 8 i0 _ Tryd.underlying22 hi hz0 hz1 hz2 rfl (by decide) _ k _ _ 1 _ [.int .i64 (unlet c)] rfl (hO2.1.alloc _) rfl (rd_made rfl rfl) rfl (by simp [Value.oneCell']) (by unfold maxLen; omega) (by omega) ?_; intro B2 d2 w3 hrow3 hg3 hv3; rw [← HZ.out] at hrow3; have hit3 := (hg3.block w1.heap.size (by have := (Array.getElem?_eq_some_iff.1 hit2).1; simp; omega) (fun e => own_iter hO2 hit2 e.symm)).trans ((Below.heap_alloc w2 _ w1.heap.size (Array.getElem?_eq_some_iff.1 hit2).1).trans hit2); obtain ⟨hO3, hK3⟩ := own_after hO2.2 (hK2.alloc _) hg3 hv3 hrow3; clear hrow3 hg3 hv3))
            go_roundw
            case rel => exact ⟨k + 1, by omega, hit3, ⟨B2, d2, rfl, hO3⟩, hall2, hK3⟩
            case measure =>
              have hmu2 : w3.iterPos w1.heap.size = k + 1 := by simp [World.iterPos, hit3]
              rw [hmu.out, hmu2]
              omega
        · have hnext : ∀ ty, (Instr.next (.pointer (some ⟨w1.heap.size, 0, none⟩)) true ty).run Tryd.prog wr = _ := fun ty => Lib.run_next_any_at wr w1.heap.size S k ty hit hlt
          have hbig := decode_big S k (by rw [get_at k hlt]; omega)
          have HB : Hid (unletZ ((Utf8.decode S k).1 : Int) = 0) := unletZ_big (by omega)
          have hc : unlet s[k] = 0 := by
            have := unletZ_byte s[k]
            rw [unletZ_big (by rw [← hbt]; omega)] at this
            exact this.symm
          have HU : Hid (untxt s = none) := untxt_none (fun h => by have := (List.all_eq_true.1 h.2) s[k] HM.out; simp [hc] at this)
          have hK2 := hK.iterAt hsz1 S (k + (Utf8.decode S k).2)
          generalize wr.iterAt w1.heap.size S (k + (Utf8.decode S k).2) = w2 at hnext hK2
          generalize (Utf8.decode S k).1 = r at hnext HB hbig
          have hL2 := hL.keep hK2
          have HLT : Hid (Calls Tryd.prog 32 #[.int .i32 (r : Int)] w2 fun e w' => e = .returned (.tuple #[.int .i64 0, .bool false]) ∧ w2 = w') := by
            have := lettered_any (r : Int) w2 hL2
            rw [HB.out] at this
            exact this
          clear hbt hO hK hit HT HM hc hb
          go_wp2_with (go_at_call 32; refine HLT.out.mono ?_; rintro e w' ⟨rfl, rfl⟩)
          go_ret2
          exact types_none HU.out hK2
      · obtain hkn : k = s.length := by rw [← HSZ.out]; omega
        have hnext : ∀ ty, (Instr.next (.pointer (some ⟨w1.heap.size, 0, none⟩)) true ty).run Tryd.prog wr = _ := fun ty => Lib.run_next_end_at wr w1.heap.size S k ty hit hlt
        subst hkn
        rw [List.take_length] at hO hall
        have HU : Hid (untxt s = some (s.map unlet)) := untxt_some (by rw [← HSZ.out]; omega) hall.out
        go_wp2
        go_ret2
        exact types_some HU.out hO hK

end Go.Proofs.YtkhbmbkjaeaamaaDoor
