/- Walks over HasEdge and what it calls. -/
import Derived.Test.YtbgkceekkinngaaG3
namespace Go.Proofs.Ytbgkceekkinngaa
set_option linter.unusedVariables false
set_option linter.unusedSimpArgs false
open Go.RowKit

/-- Are the vertices i and j joined? -/
def edB (l : List Int) (i j : Nat) : Bool := decide (bitAt (nth l i) j = 1)

theorem edB_iff (l : List Int) (i j : Nat) : edB l i j = true ↔ bitAt (nth l i) j = 1 := by simp [edB]

theorem ret_bool {a b : Bool} (h : a = b) : Ending.returned (.bool a) = .returned (.bool b) := by rw [h]

/-- Boxed: what a walk asks of a graph's box wherever only what is new has turned. -/
theorem argG' {T : TypeId} {w : World} {n : Int} {a : Option Addr} {len cap : Nat} {l : List Int} (h : Ints w (.slice a len cap) l) :
    Hid (∀ wr, Below (w.heap.size + 1) (w.alloc (.cells #[.int .i64 n, .slice a len cap] T)) wr → ArgG T w n (.slice a len cap) l wr) := fun _ hb => argG h hb

/-- The edges that HasEdge sees. -/
def HasE (n : Int) (l : List Int) (x y : Int) : Prop := IsG n l ∧ (0 ≤ x ∧ x < n) ∧ (0 ≤ y ∧ y < n) ∧ edB l x.toNat y.toNat = true

end Go.Proofs.Ytbgkceekkinngaa
