/-
  The document's lists of names; AluCalled's walk. Conditions: what the project's names answer (NmC, OfC), in worlds of a class that making memory keeps.
-/
import Derived.Test.YtoljghgmpilecaaDoorANamesA
namespace Go.Proofs.YtoljghgmpilecaaDoor
open Go.RowKit

def binNs : List (List UInt8) := [[97, 100, 100], [115, 117, 98], [109, 117, 108], [100, 105, 118], [114, 101, 109], [97, 110, 100], [111, 114], [120, 111, 114], [97, 110, 100, 110, 111, 116], [115, 104, 108], [115, 104, 114], [108, 116], [108, 101], [101, 113]]
def unNs : List (List UInt8) := [[110, 101, 103], [110, 111, 116], [122, 101, 114, 111], [105, 56], [105, 49, 54], [105, 51, 50], [117, 56], [117, 49, 54], [117, 51, 50]]
def codeNs : List (List UInt8) := [[110, 111, 110, 101], [110, 105, 108], [100, 105, 118], [105, 110, 100, 101, 120], [115, 104, 105, 102, 116], [116, 121, 112, 101]]

theorem rd_made {w : World} {T : TypeId} {cs : Array Value} {l : List Value} (hl : cs.toList = l) : Rd (w.alloc (.cells cs T)) (some ⟨w.heap.size, 0, none⟩) l := fun _ =>
  ⟨_, 0, rfl, fun j u hu => by rw [Nat.zero_add, (Blk.new w T cs).cell j, ← hu, ← hl]; simp⟩

theorem rBinNames_any (w : World) :
    Calls Tryd.prog 7 #[] w fun e w' => ∃ B, e = .returned (.slice (some ⟨B, 0, none⟩) 14 14) ∧ Rd w' (some ⟨B, 0, none⟩) (svs binNs) ∧ Keep NoB w w' := by
  go_enter Tryd.func7, Tryd.ntmps7
  go_wp2
  go_ret
  exact ⟨_, rfl, rd_made rfl, (Keep.refl NoB w).alloc _⟩

theorem rUnNames_any (w : World) :
    Calls Tryd.prog 9 #[] w fun e w' => ∃ B, e = .returned (.slice (some ⟨B, 0, none⟩) 9 9) ∧ Rd w' (some ⟨B, 0, none⟩) (svs unNs) ∧ Keep NoB w w' := by
  go_enter Tryd.func9, Tryd.ntmps9
  go_wp2
  go_ret
  exact ⟨_, rfl, rd_made rfl, (Keep.refl NoB w).alloc _⟩

theorem rCodeNames_any (w : World) :
    Calls Tryd.prog 14 #[] w fun e w' => ∃ B, e = .returned (.slice (some ⟨B, 0, none⟩) 6 6) ∧ Rd w' (some ⟨B, 0, none⟩) (svs codeNs) ∧ Keep NoB w w' := by
  go_enter Tryd.func14, Tryd.ntmps14
  go_wp2
  go_ret
  exact ⟨_, rfl, rd_made rfl, (Keep.refl NoB w).alloc _⟩

/-- What a function of names answers. -/
def NmC (T : World → Prop) (f : FuncId) (l : List (List UInt8)) : Prop := ∀ (n : Int) (W : World), T W → -9223372036854775808 ≤ n ∧ n ≤ 9223372036854775807 →
  Calls Tryd.prog f #[.int .i64 n] W fun e w' => e = .returned (.string (str (nameAt l n))) ∧ Keep NoB W w'
/-- What one that looks a name up answers, of texts that are not too long. -/
def OfC (T : World → Prop) (f : FuncId) (l : List (List UInt8)) : Prop := ∀ (S : ByteArray) (s : List UInt8) (W : World), T W → S.data.toList = s → S.size ≤ 1000 →
  Calls Tryd.prog f #[.string S] W fun e w' => e = .returned (.tuple #[.int .i64 (ofI l s), .int .i64 (ofE l s)]) ∧ Keep NoB W w'

set_option maxRecDepth 100000 in
set_option maxHeartbeats 8000000 in
theorem called_walk (T : World → Prop) (hT : ∀ W W', T W → Keep NoB W W' → T W') (N1 : Hid (NmC T 10 binNs)) (N2 : Hid (NmC T 12 unNs)) (N3 : Hid (NmC T 13 codeNs))
    (O1 : Hid (OfC T 5 binNs)) (O2 : Hid (OfC T 8 unNs)) (n : Int) (S : ByteArray) (w : World) (hn : -9223372036854775808 ≤ n ∧ n ≤ 9223372036854775807) (hsz : S.size ≤ 9223372036854775807) (h : T w) :
    Calls Tryd.prog 3 #[.int .i64 n, .string S] w fun e w' => e = .returned (.bool true) ∧ Keep NoB w w' := by
  by_cases hg : S.size ≤ 200
  · have g := Keep.refl NoB w
    obtain ⟨s, hs⟩ : ∃ s, S.data.toList = s := ⟨_, rfl⟩
    have HO1 := Lib.hid (fun W hW => O1.out S s W hW hs (by omega))
    have HO2 := Lib.hid (fun W hW => O2.out S s W hW hs (by omega))
    have HR1 := Lib.hid (fun A c W hA => rof_any A binNs 14 c S s W hA rfl (by omega) hs)
    have HR2 := Lib.hid (fun A c W hA => rof_any A unNs 9 c S s W hA rfl (by omega) hs)
    have HN1 := Lib.hid (fun W hW => N1.out n W hW hn)
    have HN2 := Lib.hid (fun W hW => N2.out n W hW hn)
    have HN3 := Lib.hid (fun W hW => N3.out n W hW hn)
    have HM1 := Lib.hid (fun A c W hA => rname_any A binNs 14 c n W hA rfl (by omega))
    have HM2 := Lib.hid (fun A c W hA => rname_any A unNs 9 c n W hA rfl (by omega))
    have HM3 := Lib.hid (fun A c W hA => rname_any A codeNs 6 c n W hA rfl (by omega))
    generalize ofI binNs s = i1 at HO1 HR1
    generalize ofE binNs s = e1 at HO1 HR1
    generalize ofI unNs s = i2 at HO2 HR2
    generalize ofE unNs s = e2 at HO2 HR2
    generalize nameAt binNs n = x1 at HN1 HM1
    generalize nameAt unNs n = x2 at HN2 HM2
    generalize nameAt codeNs n = x3 at HN3 HM3
    clear N1 N2 N3 O1 O2 hs hn hsz
    go_enter Tryd.func3, Tryd.ntmps3
    go_wp2_with fail
    refine (HO1.out _ (hT _ _ h g)).mono ?_
    rintro e w1 ⟨rfl, k1⟩
    replace g := keepN g k1
    clear k1
    go_wp2_with fail
    refine (rBinNames_any _).mono ?_
    rintro e w2 ⟨B2, rfl, hr, k1⟩
    replace g := keepN g k1
    clear k1
    go_wp2_with fail
    refine (HR1.out _ _ _ hr).mono ?_
    rintro e w' ⟨rfl, rfl⟩
    clear hr
    go_wp2_with fail
    refine (HO2.out _ (hT _ _ h g)).mono ?_
    rintro e w3 ⟨rfl, k1⟩
    replace g := keepN g k1
    clear k1
    go_wp2_with fail
    refine (rUnNames_any _).mono ?_
    rintro e w4 ⟨B4, rfl, hr, k1⟩
    replace g := keepN g k1
    clear k1
    go_wp2_with fail
    refine (HR2.out _ _ _ hr).mono ?_
    rintro e w' ⟨rfl, rfl⟩
    clear hr
    go_wp2_with fail
    refine (HN1.out _ (hT _ _ h g)).mono ?_
    rintro e w5 ⟨rfl, k1⟩
    replace g := keepN g k1
    clear k1
    go_wp2_with fail
    refine (rBinNames_any _).mono ?_
    rintro e w6 ⟨B6, rfl, hr, k1⟩
    replace g := keepN g k1
    clear k1
    go_wp2_with fail
    refine (HM1.out _ _ _ hr).mono ?_
    rintro e w' ⟨rfl, rfl⟩
    clear hr
    go_wp2_with fail
    refine (HN2.out _ (hT _ _ h g)).mono ?_
    rintro e w7 ⟨rfl, k1⟩
    replace g := keepN g k1
    clear k1
    go_wp2_with fail
    refine (rUnNames_any _).mono ?_
    rintro e w8 ⟨B8, rfl, hr, k1⟩
    replace g := keepN g k1
    clear k1
    go_wp2_with fail
    refine (HM2.out _ _ _ hr).mono ?_
    rintro e w' ⟨rfl, rfl⟩
    clear hr
    go_wp2_with fail
    refine (HN3.out _ (hT _ _ h g)).mono ?_
    rintro e w9 ⟨rfl, k1⟩
    replace g := keepN g k1
    clear k1
    go_wp2_with fail
    refine (rCodeNames_any _).mono ?_
    rintro e w10 ⟨B10, rfl, hr, k1⟩
    replace g := keepN g k1
    clear k1
    go_wp2_with fail
    refine (HM3.out _ _ _ hr).mono ?_
    rintro e w' ⟨rfl, rfl⟩
    clear hr
    go_wp2
    go_ret
    exact ⟨rfl, g⟩
  · have hg' : (200 : Int) < (S.size : Int) := by omega
    go_enter Tryd.func3, Tryd.ntmps3
    go_wp2
    go_ret
    exact ⟨rfl, Keep.refl _ _⟩

end Go.Proofs.YtoljghgmpilecaaDoor
