/-
  ValueTexts' walk: whatever value, type and text, the law returns true. Conditions: the variables that it reads hold what their initialisers lay; the value's number fits an int64.
-/
import Derived.Test.YtkhbmbkjaeaamaaDoorWRRead
import Derived.Deep.RegionWith
namespace Go.Proofs.YtkhbmbkjaeaamaaDoor
open Go.RowKit

set_option maxRecDepth 100000 in
set_option maxHeartbeats 40000000 in
theorem texts_walk (w : World) (t n k : Int) (S : ByteArray) (hn : I64 n) (hsz : S.size ≤ 9223372036854775807) (h : Laid w) :
    Calls Tryd.prog 4 #[.agg #[.int .i64 t, .int .i64 n], .int .i64 k, .string S] w fun e w' => e = .returned (.bool true) ∧ Keep NoB w w' := by
  have hk0 := (Keep.refl NoB w).alloc (.cells #[.int .i64 t, .int .i64 n] 35)
  by_cases hg : S.size ≤ 2000
  · obtain ⟨s, hs⟩ : ∃ s, Hid (S.data.toList = s) := ⟨_, rfl⟩
    go_enter Tryd.func4, Tryd.ntmps4
    go_wp2_with fail
    refine (great_no S none none 0 0 0 0 _ hg (by decide) (by decide)).mono ?_
    rintro e w' ⟨rfl, rfl⟩
    have hb0 := Blk.new w 35 #[.int .i64 t, .int .i64 n]
    generalize w.alloc (.cells #[.int .i64 t, .int .i64 n] 35) = w0 at hk0 hb0 ⊢
    have h0 := h.keep hk0
    go_wp2_with fail
    refine (read_any k S s _ hs (by omega) h0).mono ?_
    rintro e w2 ⟨rfl, hK2⟩
    have hk2 := keepN hk0 hK2
    obtain ⟨T, hT⟩ : ∃ T, Hid (rT k s = T) := ⟨_, rfl⟩
    obtain ⟨N, hN⟩ : ∃ N, Hid (rN k s = N) := ⟨_, rfl⟩
    obtain ⟨E, hE⟩ : ∃ E, Hid (rE k s = E) := ⟨_, rfl⟩
    rw [hT.out, hN.out, hE.out]
    go_wp2_with fail
    have hb2 := hb0.keep hK2 id
    have hB2 := Blk.new w2 35 #[.int .i64 T, .int .i64 N]
    have hka := (Keep.refl NoB w2).alloc (.cells #[.int .i64 T, .int .i64 N] 35)
    have hb3 := hb2.keep hka id
    have hk3 := keepN hk2 hka
    generalize w2.alloc (.cells #[.int .i64 T, .int .i64 N] 35) = w3 at hka hb3 hB2 hk3 ⊢
    refine (rread_any k S s _ hs (by omega)).mono ?_
    rintro e w4 ⟨rfl, hK4⟩
    rw [hT.out, hN.out, hE.out]
    have hk4 := keepN hk3 hK4
    have hb4 := hb3.keep hK4 id
    have hB4 := hB2.keep hK4 id
    have hC4 := Blk.new w4 35 #[.int .i64 T, .int .i64 N]
    have hkc := (Keep.refl NoB w4).alloc (.cells #[.int .i64 T, .int .i64 N] 35)
    have hb5 := hb4.keep hkc id
    have hB5 := hB4.keep hkc id
    have hk5 := keepN hk4 hkc
    have h5 := h.keep hk5
    clear hk0 hb0 h0 hK2 hk2 hb2 hB2 hka hb3 hk3 hK4 hk4 hb4 hB4 hkc h
    go_wp2
    generalize w4.alloc (.cells #[.int .i64 T, .int .i64 N] 35) = w5 at hC4 hb5 hB5 hk5 h5 ⊢
    have hd0 := (Keep.refl NoB w5).drew
    have HQ : Hid (∀ w', Keep NoB w5 w' → w'.cell? ⟨w.heap.size, 0, none⟩ = some (.int .i64 t) ∧ w'.cell? ⟨w.heap.size, 1, none⟩ = some (.int .i64 n) ∧ w'.cell? ⟨w2.heap.size, 0, none⟩ = some (.int .i64 T) ∧ w'.cell? ⟨w2.heap.size, 1, none⟩ = some (.int .i64 N) ∧ w'.cell? ⟨w4.heap.size, 0, none⟩ = some (.int .i64 T) ∧ w'.cell? ⟨w4.heap.size, 1, none⟩ = some (.int .i64 N)) :=
      fun w' hk' => ⟨(hb5.keep hk' id).cell 0, (hb5.keep hk' id).cell 1, (hB5.keep hk' id).cell 0, (hB5.keep hk' id).cell 1, (hC4.keep hk' id).cell 0, (hC4.keep hk' id).cell 1⟩
    have HS := Lib.hid (fun W (hW : Laid W) => show_any t n W hn hW)
    have HR := Lib.hid (fun W => rshow_any t n W hn)
    generalize showL t n = R at HS HR
    clear hb5 hB5 hC4
    first
      | (go_region_held (fun w' => w'.cell? ⟨w.heap.size, 0, none⟩ = some (.int .i64 t) ∧ w'.cell? ⟨w.heap.size, 1, none⟩ = some (.int .i64 n) ∧ w'.cell? ⟨w2.heap.size, 0, none⟩ = some (.int .i64 T) ∧ w'.cell? ⟨w2.heap.size, 1, none⟩ = some (.int .i64 N) ∧ w'.cell? ⟨w4.heap.size, 0, none⟩ = some (.int .i64 T) ∧ w'.cell? ⟨w4.heap.size, 1, none⟩ = some (.int .i64 N))
          (first | exact HQ.out _ hd0 | exact HQ.out _ g1 | exact HQ.out _ g2)
          (first
            | (go_at_call 21; refine (HS.out _ (h5.keep hd0)).mono ?_; rintro e v1 ⟨rfl, g1'⟩; have g1 := keepN hd0 g1')
            | (go_at_call 22; refine (HR.out _).mono ?_; rintro e v2 ⟨rfl, g2'⟩; have g2 := keepN g1 g2')))
      | fail
    all_goals go_wp2
    all_goals go_ret
    all_goals exact ⟨rfl, keepN hk5 g2⟩
  · go_enter Tryd.func4, Tryd.ntmps4
    go_wp2_with fail
    refine (great_yes S none none 0 0 0 0 _ (fun h => hg h.1) (by decide) (by decide) hsz).mono ?_
    rintro e w' ⟨rfl, rfl⟩
    go_wp2
    go_ret
    exact ⟨rfl, hk0⟩

end Go.Proofs.YtkhbmbkjaeaamaaDoor
