/- Walks over IsIndependent. -/
import Derived.Test.YtpifgmmmmhenmabV1
import Derived.Test.YtpifgmmmmhenmabH1
namespace Go.Proofs.Ytpifgmmmmhenmab
set_option linter.unusedVariables false
set_option linter.unusedSimpArgs false
open Go.RowKit Go.Shelf
attribute [local go_sem] Oper.semAt_some

/-- A set in which no two are neighbours. -/
def IndepS (n : Int) (l : List Int) (x : Int) : Prop := IsS n l x ∧ ∀ v, v < l.length → bitAt x v = 1 → bits .and .i64 x (nth l v) = 0

theorem and_comm' (x y : Int) : bits .and .i64 x y = bits .and .i64 y x := by
  show IntKind.i64.wrap ((BitVec.ofInt 64 x &&& BitVec.ofInt 64 y).toNat : Int) = IntKind.i64.wrap ((BitVec.ofInt 64 y &&& BitVec.ofInt 64 x).toNat : Int)
  rw [BitVec.and_comm]

/-- Between two rounds: none of those that have come has a neighbour in x. -/
def IndI (l : List Int) (x : Int) (w2 : World) (pre : List (Mem x)) (W : World) : Prop := (∀ y ∈ pre, bits .and .i64 x (nth l y.1) = 0) ∧ Below w2.heap.size w2 W

/-- A round has left: the last one has a neighbour in x. -/
def IndX (l : List Int) (x : Int) (b : Nat) (w : World) (c : Code) (pre : List (Mem x)) (W : World) : Prop := c = .ret ∧ (∃ y ∈ pre, bits .and .i64 x (nth l y.1) ≠ 0) ∧ W.cell? ⟨b + 1 + 1, 0, none⟩ = some (.bool false) ∧ Below w.heap.size w W

end Go.Proofs.Ytpifgmmmmhenmab
