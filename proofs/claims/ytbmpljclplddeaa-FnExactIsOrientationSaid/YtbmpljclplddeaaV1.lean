/- The program's iterator over the members of a set. -/
import Derived.Test.YtbmpljclplddeaaChecked
import Derived.Test.YtbmpljclplddeaaGp
import Derived.Test.YtbmpljclplddeaaGw
import Derived.RangeFuncNested
import Derived.RangeFuncFrom
import Derived.RangeFuncBound
import Derived.RangeFuncCalls
import Derived.RangeFuncLeaves
import Derived.Shelf.Abstract
import Derived.Shelf.RegionOpen
import Derived.WalkKit
import Derived.OwnWalkIn
import Derived.TacticsInMore
import Derived.LoopNIn
import Derived.Sort.QuietIn
import Derived.LoopIn
namespace Go.Proofs.Ytbmpljclplddeaa
set_option linter.unusedVariables false
set_option linter.unusedSimpArgs false
open Go.RowKit Go.Shelf
attribute [local go_sem] Oper.semAt_some

/-- The members of a set below k, in their order. -/
def memU (s : Int) (k : Nat) : List Nat := (List.range k).filter fun v => decide (bitAt s v = 1)

theorem memU_succ (s : Int) (k : Nat) : memU s (k + 1) = memU s k ++ (if bitAt s k = 1 then [k] else []) := by
  unfold memU
  rw [List.range_succ, List.filter_append]
  by_cases h : bitAt s k = 1 <;> simp [h]

theorem memU_le (s : Int) (k : Nat) : (memU s k).length ≤ k := by
  have := List.length_filter_le (fun v => decide (bitAt s v = 1)) (List.range k)
  simpa [memU] using this

theorem memU_prefix (s : Int) (k m : Nat) : memU s k <+: memU s (k + m) := by
  induction m with
  | zero => exact List.prefix_rfl
  | succ m ih =>
    rw [← Nat.add_assoc, memU_succ]
    exact ih.trans (List.prefix_append _ _)

/-- A member of a set, as what the iterator hands on. -/
abbrev Mem (s : Int) := { x : Nat // x < 7 ∧ bitAt s x = 1 }

/-- The cell of the set that is ranged over reads as it did. -/
def KeepC (b : Nat) (A B : World) : Prop := B.cell? ⟨b, 0, none⟩ = A.cell? ⟨b, 0, none⟩

theorem keepC_t {b : Nat} {A B C : World} (h : KeepC b A B) (k : KeepC b B C) : KeepC b A C := Eq.trans k h

theorem keepC_b {b : Nat} {w : World} (hb : b < w.heap.size) (W : World) (l : Nat) (o o' : Obj) (hl : w.heap.size ≤ l) (h : W.heap[l]? = some o) (_ : o.isCells = false) (_ : o.isWalk = false) : KeepC b W (W.putObj l o') := by
  have hlt := (Array.getElem?_eq_some_iff.1 h).1
  exact World.cell?_of_block (a := ⟨b, 0, none⟩) ((grownBy_putObj' W l o').block b (by omega) (fun e => by have := Option.some.inj e; omega))

end Go.Proofs.Ytbmpljclplddeaa
