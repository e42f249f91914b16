/-
  The document's lists of names; AluCalled's walk. Conditions: what the project's names answer (NmC, OfC), in worlds of a class that making memory keeps.
-/
import Derived.Test.YtpkcjokkadfhcaaDoorANamesA
namespace Go.Proofs.YtpkcjokkadfhcaaDoor.A
open Go.RowKit

def binNs : List (List UInt8) := [[97, 100, 100], [115, 117, 98], [109, 117, 108], [100, 105, 118], [114, 101, 109], [97, 110, 100], [111, 114], [120, 111, 114], [97, 110, 100, 110, 111, 116], [115, 104, 108], [115, 104, 114], [108, 116], [108, 101], [101, 113]]
def unNs : List (List UInt8) := [[110, 101, 103], [110, 111, 116], [122, 101, 114, 111], [105, 56], [105, 49, 54], [105, 51, 50], [117, 56], [117, 49, 54], [117, 51, 50]]
def codeNs : List (List UInt8) := [[110, 111, 110, 101], [110, 105, 108], [100, 105, 118], [105, 110, 100, 101, 120], [115, 104, 105, 102, 116], [116, 121, 112, 101]]

theorem rd_made {w : World} {T : TypeId} {cs : Array Value} {l : List Value} (hl : cs.toList = l) : Rd (w.alloc (.cells cs T)) (some ⟨w.heap.size, 0, none⟩) l := fun _ =>
  ⟨_, 0, rfl, fun j u hu => by rw [Nat.zero_add, (Blk.new w T cs).cell j, ← hu, ← hl]; simp⟩

/-- What a function of names answers. -/
def NmC (T : World → Prop) (f : FuncId) (l : List (List UInt8)) : Prop := ∀ (n : Int) (W : World), T W → -9223372036854775808 ≤ n ∧ n ≤ 9223372036854775807 →
  Calls Tryd.prog f #[.int .i64 n] W fun e w' => e = .returned (.string (str (nameAt l n))) ∧ Keep NoB W w'
/-- What one that looks a name up answers, of texts that are not too long. -/
def OfC (T : World → Prop) (f : FuncId) (l : List (List UInt8)) : Prop := ∀ (S : ByteArray) (s : List UInt8) (W : World), T W → S.data.toList = s → S.size ≤ 1000 →
  Calls Tryd.prog f #[.string S] W fun e w' => e = .returned (.tuple #[.int .i64 (ofI l s), .int .i64 (ofE l s)]) ∧ Keep NoB W w'

end Go.Proofs.YtpkcjokkadfhcaaDoor.A
