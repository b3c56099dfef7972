/- CutArcs: plain part. -/
import Derived.Test.YtpifgmmmmhenmaaY21
import Derived.Test.YtpifgmmmmhenmaaBx
import Derived.Test.YtpifgmmmmhenmaaQ
import Derived.Sort.CutIn
import Derived.Deep.DeepCutAuto
import Derived.BigQuiet
namespace Go.Proofs.Ytpifgmmmmhenmaa
set_option linter.unusedVariables false
set_option linter.unusedSimpArgs false
open Go.RowKit

def cutJ (n : Int) (l : List Int) (x : Int) (j : Nat) : Int := (nth l j - x + n) % n

def CutP (n : Int) (l m : List Int) (x : Int) : Prop := PtP n l m x ∧ arcN n l m x l.length = 0

instance (n : Int) (l m : List Int) (x : Int) : Decidable (CutP n l m x) := by unfold CutP; infer_instance

def cutA (n : Int) (l m : List Int) (x : Int) : List Int := if CutP n l m x then (List.range l.length).map (cutJ n l x) else []

def cutB (n : Int) (l m : List Int) (x : Int) : List Int := if CutP n l m x then (List.range l.length).map fun j => cutJ n l x j + nth m j - 1 else []

/-- Two lists of the call's own, apart, and whether there are any. -/
def GetsII2 (B : Nat) (w : World) (l0 l1 : List Int) (r : Bool) (e : Ending) (w' : World) : Prop := ∃ v0 v1, e = .returned (.tuple #[.agg #[v0, v1], .bool r]) ∧ OwnI B w' v0 l0 ∧ OwnI B w' v1 l1 ∧ (∀ k, v0.ownBlock = some k → v1.ownBlock ≠ some k) ∧ Below w.heap.size w w'

theorem gets_none {B : Nat} {w w' : World} (hb : Below w.heap.size w w') : GetsII2 B w [] [] false (.returned (.tuple #[.agg #[.slice none 0 0, .slice none 0 0], .bool false])) w' :=
  ⟨.slice none 0 0, .slice none 0 0, rfl, ⟨inI64_nil, World.ownsRow_nil _ _ _ _⟩, ⟨inI64_nil, World.ownsRow_nil _ _ _ _⟩, (fun k h => by simp [Value.ownBlock] at h), hb⟩

theorem cut_no {n : Int} {l m : List Int} {x : Int} (h : ¬ CutP n l m x) : cutA n l m x = [] ∧ cutB n l m x = [] ∧ decide (CutP n l m x) = false := ⟨if_neg h, if_neg h, decide_eq_false h⟩

theorem arcR_zero {n : Int} {l m : List Int} {x : Int} (h : PtP n l m x) : arcR n l m x = 0 ↔ CutP n l m x := by
  unfold arcR CutP
  rw [if_pos h]
  constructor
  · intro h0; exact ⟨h, by omega⟩
  · intro h0; have := h0.2; omega

theorem cutA_len (n : Int) (l m : List Int) (x : Int) : (cutA n l m x).length ≤ 7 := by
  unfold cutA
  split
  · rename_i h; simp; exact h.1.1.2.1.2
  · simp

theorem cutB_len (n : Int) (l m : List Int) (x : Int) : (cutB n l m x).length ≤ 7 := by
  unfold cutB
  split
  · rename_i h; simp; exact h.1.1.2.1.2
  · simp

end Go.Proofs.Ytpifgmmmmhenmaa
