/- Walks over the laws' own helpers for structs of ints and slices of ints. -/
import Derived.Test.YtgfndgjabhabjabGg
import Derived.Test.YtgfndgjabhabjabBx
namespace Go.Proofs.Ytgfndgjabhabjab
set_option linter.unusedVariables false
set_option linter.unusedSimpArgs false
open Go.RowKit

def GetsTree (w : World) (l0 : List Int) (l1 : List Int) (e : Ending) (w' : World) : Prop := ∃ u0 u1 B1, e = .returned (.agg #[u0, u1]) ∧ OwnI w.heap.size w' u0 l0 ∧ OwnI B1 w' u1 l1 ∧ w.heap.size ≤ B1 ∧ (∀ k, u0.ownBlock = some k → k < B1) ∧ Below w.heap.size w w'

def GetsModuleTree (w : World) (l0 : List Int) (l1 : List Int) (l2 : List Int) (e : Ending) (w' : World) : Prop := ∃ u0 u1 u2 B1 B2, e = .returned (.agg #[u0, u1, u2]) ∧ OwnI w.heap.size w' u0 l0 ∧ OwnI B1 w' u1 l1 ∧ OwnI B2 w' u2 l2 ∧ w.heap.size ≤ B1 ∧ (∀ k, u0.ownBlock = some k → k < B1) ∧ B1 ≤ B2 ∧ (∀ k, u1.ownBlock = some k → k < B2) ∧ Below w.heap.size w w'

def GetsArcs (w : World) (n0 : Int) (l1 : List Int) (l2 : List Int) (e : Ending) (w' : World) : Prop := ∃ u1 u2 B2, e = .returned (.agg #[.int .i64 n0, u1, u2]) ∧ OwnI w.heap.size w' u1 l1 ∧ OwnI B2 w' u2 l2 ∧ w.heap.size ≤ B2 ∧ (∀ k, u1.ownBlock = some k → k < B2) ∧ Below w.heap.size w w'

def GetsIntervals (w : World) (l0 : List Int) (l1 : List Int) (e : Ending) (w' : World) : Prop := ∃ u0 u1 B1, e = .returned (.agg #[u0, u1]) ∧ OwnI w.heap.size w' u0 l0 ∧ OwnI B1 w' u1 l1 ∧ w.heap.size ≤ B1 ∧ (∀ k, u0.ownBlock = some k → k < B1) ∧ Below w.heap.size w w'

def GetsOrientation (w : World) (l0 : List Int) (e : Ending) (w' : World) : Prop := ∃ u0, e = .returned (.agg #[u0]) ∧ OwnI w.heap.size w' u0 l0 ∧ Below w.heap.size w w'

end Go.Proofs.Ytgfndgjabhabjab
