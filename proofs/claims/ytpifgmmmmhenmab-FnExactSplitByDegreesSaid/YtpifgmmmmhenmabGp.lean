/- Plain facts on bits and on what a graph is. -/
import Derived.Test.YtpifgmmmmhenmabGk
namespace Go.Proofs.Ytpifgmmmmhenmab
set_option linter.unusedVariables false
set_option linter.unusedSimpArgs false
open Go.RowKit

def bitAt (x : Int) (j : Nat) : Int := x / 2 ^ j % 2

theorem bitAt_two (x : Int) (j : Nat) : bitAt x j = 0 ∨ bitAt x j = 1 := by unfold bitAt; omega

theorem and_one (y : Int) : bits .and .i64 y 1 = y % 2 := by
  have h : (BitVec.ofInt 64 y &&& BitVec.ofInt 64 1).toNat = (y % 2).toNat := by
    rw [BitVec.toNat_and, show (BitVec.ofInt 64 1).toNat = 1 by decide, Nat.and_one_is_mod, BitVec.toNat_ofInt]
    omega
  have : bits .and .i64 y 1 = IntKind.i64.wrap ((BitVec.ofInt 64 y &&& BitVec.ofInt 64 1).toNat : Int) := rfl
  rw [this, h, IntWalk.i64_in _ (by omega)]
  omega

theorem and_one_bit (x : Int) (j : Nat) : bits .and .i64 (x / 2 ^ j) 1 = bitAt x j := and_one _

/-- What a graph is. -/
def OkRow (n : Int) (l : List Int) (v : Nat) : Prop := 0 ≤ nth l v ∧ nth l v / 2 ^ n.toNat = 0 ∧ bitAt (nth l v) v = 0

def OkPair (l : List Int) (v w : Nat) : Prop := bitAt (nth l v) w = bitAt (nth l w) v

def IsG (n : Int) (l : List Int) : Prop := 1 ≤ n ∧ n ≤ 7 ∧ (l.length : Int) = n ∧ ∀ v, v < l.length → OkRow n l v ∧ ∀ w, w < l.length → OkPair l v w

theorem IsG.sym {n : Int} {l : List Int} (h : IsG n l) {i j : Nat} (hi : i < l.length) (hj : j < l.length) : bitAt (nth l i) j = bitAt (nth l j) i := (h.2.2.2 i hi).2 j hj

instance (n : Int) (l : List Int) : Decidable (IsG n l) := by unfold IsG OkRow OkPair; infer_instance

end Go.Proofs.Ytpifgmmmmhenmab
