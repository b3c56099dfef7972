/- Walks over the program's ListOf: slices.Collect over its iterator. -/
import Derived.Test.YtpifgmmmmhenmabH3
import Derived.Test.YtpifgmmmmhenmabV1
import Derived.RangeFuncBox
namespace Go.Proofs.Ytpifgmmmmhenmab
set_option linter.unusedVariables false
set_option linter.unusedSimpArgs false
open Go.RowKit Go.Shelf
attribute [local go_sem] Oper.semAt_some

/-- The members of a set; none where it is no set. -/
def listR (x : Int) : List Int := if 0 ≤ x ∧ x ≤ 127 then listU x 7 else []

theorem listR_length (x : Int) : (listR x).length ≤ 7 := by
  unfold listR
  split
  · exact listU_length x 7
  · simp

/-- What has come so far. -/
def lst {x : Int} (pre : List (Mem x)) : List Int := pre.map fun y => (y.1 : Int)

def ApI (x : Int) (w : World) (pre : List (Mem x)) (W : World) : Prop := (∃ v, Boxed W w.heap.size 22 v ∧ W.ownsRow w.heap.size 3 1 v pre.length (iv (lst pre)) ∧ True) ∧ Below w.heap.size w W

theorem apI_own {x : Int} {w W1 : World} (hB : w.heap.size ≤ W1.heap.size) : OwnFrom W1.heap.size (ApI x w) :=
  OwnFrom.and ((holdsRow_own (β := List (Mem x)) w.heap.size w.heap.size 22 3 1 (fun pre => pre.length) (fun pre => iv (lst pre)) (fun _ _ => True)).from _) (ownFrom_below (Nat.le_refl _) hB)

theorem OwnI.nil0 (B : Nat) (w : World) : OwnI B w (.slice none 0 0) [] := ⟨inI64_nil, rfl, .inl ⟨rfl, rfl⟩⟩

theorem specListOf (x : Int) (w : World) : Calls Try.prog 69 #[.int .i64 x] w (GetsI w.heap.size w (listR x)) := by
  by_cases h : 0 ≤ x ∧ x ≤ 127
  · rw [show listR x = listU x 7 by unfold listR; rw [if_pos h]]
    exact specListOf_yes x w h.1 h.2
  · rw [show listR x = [] by unfold listR; rw [if_neg h]]
    exact specListOf_no x w h

end Go.Proofs.Ytpifgmmmmhenmab
