/- Trees: nodesOf, IsTree. -/
import Derived.Test.YtgfndgjabhabjaaY6
import Derived.Test.YtgfndgjabhabjaaH3
namespace Go.Proofs.Ytgfndgjabhabjaa
set_option linter.unusedVariables false
set_option linter.unusedSimpArgs false
open Go.RowKit

/-- Up to twenty bags; each one's parent stands before it, the first one has none. -/
def TreeP (l m : List Int) : Prop := (1 ≤ l.length ∧ l.length ≤ 20) ∧ m.length = l.length ∧ ∀ i, i < l.length → (0 ≤ nth l i ∧ nth l i ≤ 127) ∧ (i = 0 → nth m i = -1) ∧ (0 < i → 0 ≤ nth m i ∧ nth m i < i)

instance (l m : List Int) : Decidable (TreeP l m) := by unfold TreeP; exact inferInstance

theorem PairsTo.made' (w : World) (T : TypeId) (l m : List Int) : PairsTo w.heap.size 0 l m (w.alloc (.cells (madeCells #[.int .i64 0, .int .i64 0] (l.length * 2)) T)) := by
  refine ⟨fun i hi => ⟨0, 0, ?_, ?_, fun h => absurd h (by omega)⟩, fun o => World.frozen?_alloc_at _ _ _ _ rfl, by rw [World.size_alloc]; omega⟩
  · rw [World.cell?_alloc_at _ _ _ _ rfl]; exact made2_cell _ _ (by omega)
  · rw [World.cell?_alloc_at _ _ _ _ rfl]; exact made2_cell _ _ (by omega)

end Go.Proofs.Ytgfndgjabhabjaa
