/- Walks over IsClique. -/
import Derived.Test.YtpifgmmmmhenmacV3
import Derived.Test.YtpifgmmmmhenmacG5
import Derived.Test.YtpifgmmmmhenmacB
import Derived.Test.YtpifgmmmmhenmacR
namespace Go.Proofs.Ytpifgmmmmhenmac
set_option linter.unusedVariables false
set_option linter.unusedSimpArgs false
open Go.RowKit Go.Shelf

/-- A set in which all are neighbours. -/
def CliqueS (n : Int) (l : List Int) (x : Int) : Prop := IsS n l x ∧ ∀ v, v < l.length → bitAt x v = 1 → bits .and .i64 x (nth l v) = x - 2 ^ v

instance (n : Int) (l : List Int) (x : Int) : Decidable (CliqueS n l x) := by unfold CliqueS; infer_instance

theorem andNot_sub (x z : Int) (x0 : 0 ≤ x) (x1 : x < 128) (z0 : 0 ≤ z) (z1 : z < 128) : bits .andNot .i64 x z = x - bits .and .i64 x z := by
  obtain ⟨a, rfl⟩ := Int.eq_ofNat_of_zero_le x0
  obtain ⟨b, rfl⟩ := Int.eq_ofNat_of_zero_le z0
  have : ∀ (a b : Fin 128), bits .andNot .i64 ((a.val : Nat) : Int) ((b.val : Nat) : Int) = ((a.val : Nat) : Int) - bits .and .i64 ((a.val : Nat) : Int) ((b.val : Nat) : Int) := by decide +kernel
  exact this ⟨a, by omega⟩ ⟨b, by omega⟩

theorem isS_small {n : Int} {l : List Int} {x : Int} (h : IsS n l x) : x < 128 := by
  have h1 := h.2.2
  have h2 := h.1.1
  have h3 := h.1.2.1
  obtain ⟨-, -, -, s4, -⟩ := shl_one n (by omega) h3
  omega


attribute [local go_sem] Oper.semAt_some

theorem keepsOthers_drewN (W : World) (n : Nat) : KeepsOthers W (W.drewN n) := ⟨Nat.le_refl _, fun _ _ h _ => h⟩

/-- Between two rounds: those that have come are joined to all others in x. -/
def ClqI (l : List Int) (x : Int) (w2 : World) (pre : List (Mem x)) (W : World) : Prop := (∀ y ∈ pre, bits .and .i64 x (nth l y.1) = x - 2 ^ y.1) ∧ Below w2.heap.size w2 W

/-- A round has left: the last one is not joined to all others in x. -/
def ClqX (l : List Int) (x : Int) (b : Nat) (w : World) (c : Code) (pre : List (Mem x)) (W : World) : Prop := c = .ret ∧ (∃ y ∈ pre, bits .and .i64 x (nth l y.1) ≠ x - 2 ^ y.1) ∧ W.cell? ⟨b + 1 + 1, 0, none⟩ = some (.bool false) ∧ Below w.heap.size w W

end Go.Proofs.Ytpifgmmmmhenmac
