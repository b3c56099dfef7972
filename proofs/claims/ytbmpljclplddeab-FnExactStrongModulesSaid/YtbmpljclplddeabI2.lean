/- Walks over the program's InducedOn: the answer. -/
import Derived.Test.YtbmpljclplddeabI1
namespace Go.Proofs.Ytbmpljclplddeab
set_option linter.unusedVariables false
set_option linter.unusedSimpArgs false
open Go.RowKit

/-- Where there is an answer. -/
def IndOk (n : Int) (l : List Int) (x : Int) : Prop := IsS n l x ∧ x ≠ 0

instance (n : Int) (l : List Int) (x : Int) : Decidable (IndOk n l x) := by unfold IndOk; infer_instance

def indN (n : Int) (l : List Int) (x : Int) : Int := if IndOk n l x then ((memN x.toNat).length : Int) else 0

def indL (n : Int) (l : List Int) (x : Int) : List Int := if IndOk n l x then indR l x.toNat else []

theorem mem_len_le (X : Nat) : (memN X).length ≤ 7 := by
  unfold memN
  have := List.length_filter_le (fun v => X.testBit v) (List.range 7)
  simpa using this

theorem indL_length (n : Int) (l : List Int) (x : Int) : (indL n l x).length ≤ 7 := by
  unfold indL
  split
  · rw [indR_length]; exact mem_len_le _
  · simp

end Go.Proofs.Ytbmpljclplddeab
