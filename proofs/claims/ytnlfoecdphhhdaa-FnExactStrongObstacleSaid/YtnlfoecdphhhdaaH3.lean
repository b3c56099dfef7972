/- Walks over ListOf of the specification, and CountSet. -/
import Derived.Test.YtnlfoecdphhhdaaH1
namespace Go.Proofs.Ytnlfoecdphhhdaa
set_option linter.unusedVariables false
set_option linter.unusedSimpArgs false
open Go.RowKit

/-- The members of a set below j, in their order. -/
def listU (s : Int) (j : Nat) : List Int := ((List.range j).filter fun v => decide (bitAt s v = 1)).map fun v : Nat => (v : Int)

theorem listU_succ (s : Int) (j : Nat) : listU s (j + 1) = listU s j ++ (if bitAt s j = 1 then [(j : Int)] else []) := by
  unfold listU
  rw [List.range_succ, List.filter_append, List.map_append]
  by_cases h : bitAt s j = 1 <;> simp [h]

theorem listU_length (s : Int) (j : Nat) : (listU s j).length ≤ j := by
  unfold listU
  have := List.length_filter_le (fun v => decide (bitAt s v = 1)) (List.range j)
  simpa using this

theorem listU_in (s : Int) (j : Nat) (hj : j ≤ 1000) : inI64 (listU s j) := fun x hx => by
  unfold listU at hx
  simp only [List.mem_map, List.mem_filter, List.mem_range] at hx
  obtain ⟨v, ⟨hv, -⟩, rfl⟩ := hx
  omega

/-- How many members a set has. -/
def popU (x : Int) : Int := if 0 ≤ x ∧ x ≤ 127 then ((listU x 7).length : Int) else 0

end Go.Proofs.Ytnlfoecdphhhdaa
