/- Walks over SetOf. -/
import Derived.Test.YtpifgmmmmhenmabH1
namespace Go.Proofs.Ytpifgmmmmhenmab
set_option linter.unusedVariables false
set_option linter.unusedSimpArgs false
open Go.RowKit

/-- The set of a list of vertices, from s on; none if a member is no vertex or comes twice. -/
def setOf : List Int → Int → Option Int
  | [], s => some s
  | x :: t, s => if 0 ≤ x ∧ x ≤ 6 ∧ bitAt s x.toNat = 0 then setOf t (s + 2 ^ x.toNat) else none

def outI : Option Int → Int
  | some s => s
  | none => 0

def outB : Option Int → Bool
  | some _ => true
  | none => false

theorem set_small (s : Int) (j : Nat) (h0 : 0 ≤ s) (h1 : s < 128) (hj : j < 7) (hb : bitAt s j = 0) : bits .or .i64 s (2 ^ j) = s + 2 ^ j ∧ s + 2 ^ j < 128 := by
  obtain ⟨k, rfl⟩ := Int.eq_ofNat_of_zero_le h0
  have : ∀ (k : Fin 128) (j : Fin 7), bitAt ((k.val : Nat) : Int) j.val = 0 → bits .or .i64 ((k.val : Nat) : Int) (2 ^ j.val) = ((k.val : Nat) : Int) + 2 ^ j.val ∧ ((k.val : Nat) : Int) + 2 ^ j.val < 128 := by decide +kernel
  exact this ⟨k, by omega⟩ ⟨j, hj⟩ hb

theorem drop_nth (l : List Int) (j : Nat) (h : j < l.length) : l.drop j = nth l j :: l.drop (j + 1) := by
  rw [List.drop_eq_getElem_cons h]
  simp [nth, List.getD, h]

theorem setOf_step (l : List Int) (j : Nat) (s : Int) (h : j < l.length) (h0 : 0 ≤ nth l j) (h6 : nth l j ≤ 6) (hb : bitAt s (nth l j).toNat = 0) : setOf (l.drop j) s = setOf (l.drop (j + 1)) (s + 2 ^ (nth l j).toNat) := by
  rw [drop_nth l j h]
  show (if _ then _ else _) = _
  rw [if_pos ⟨h0, h6, hb⟩]

theorem setOf_stop (l : List Int) (j : Nat) (s : Int) (h : j < l.length) (hn : ¬ (0 ≤ nth l j ∧ nth l j ≤ 6 ∧ bitAt s (nth l j).toNat = 0)) : setOf (l.drop j) s = none := by
  rw [drop_nth l j h]
  show (if _ then _ else _) = _
  rw [if_neg hn]

/-- A number and a flag. -/
def SaysIB (x : Int) (b : Bool) (w : World) (e : Ending) (w' : World) : Prop := e = .returned (.tuple #[.int .i64 x, .bool b]) ∧ Below w.heap.size w w'

end Go.Proofs.Ytpifgmmmmhenmab
