/-
  What Zeros and Of answer: new lists. Conditions: the lists lie in memory, no more than 4096 long.
-/
import Derived.Test.YtpkcjokkadfhcaaDoorWSame
namespace Go.Proofs.YtpkcjokkadfhcaaDoor.W
open Go.RowKit

theorem rd_new (w : World) (E : TypeId) (cs : Array Value) : Rd (w.alloc (.cells cs E)) (some ⟨w.heap.size, 0, none⟩) cs.toList := fun _ =>
  ⟨_, _, rfl, fun j u hu => by rw [Nat.zero_add, (Blk.new w E cs).cell j]; simpa using hu⟩

theorem own_after {w W W' : World} {E size n : Nat} {v v' : Value} {xs : List Value} (ho : ∀ g, v.ownBlock = some g → Fresh w g) (hK : Keep NoB w W) (hg : W.grownBy W' v.ownBlock)
    (hv : v'.ownBlock = v.ownBlock ∨ v'.ownBlock = some W.heap.size) (hrow : W'.ownsRow 0 E size v' n xs) : Own W' E size (Fresh w) v' n xs ∧ Keep NoB w W' := by
  refine ⟨⟨hrow, fun g e => ?_⟩, hK.grown hg (fun g e h => by have := ho g e; unfold Fresh at this; omega)⟩
  rcases hv with h | h
  · exact ho g (h ▸ e)
  · rw [h] at e; cases e; exact hK.size

theorem rd_made {w : World} {E : TypeId} {cs : Array Value} {b : Nat} {xs : List Value} (hb : b = w.heap.size) (hx : xs = cs.toList) : Rd (w.alloc (.cells cs E)) (some ⟨b, 0, none⟩) xs := by
  subst hb hx; exact rd_new w E cs

/-- The zeros of types. -/
def zs (l : List Int) : List (Int × Int) := l.map fun t => (t, 0)

/-- What Zeros answers, in one form. -/
def zN (l : List Int) (n : Nat) : Nat := if l.all knownB = true then n else 0
def zL (l : List Int) : List (Int × Int) := if l.all knownB = true then zs l else []
def zE (l : List Int) : Int := if l.all knownB = true then 0 else 20
theorem zL_length (l : List Int) : (zL l).length = zN l l.length := by unfold zL zN; split <;> simp [zs]
/-- The types of values. -/
def ts (x : List (Int × Int)) : List Int := x.map (·.1)

end Go.Proofs.YtpkcjokkadfhcaaDoor.W
