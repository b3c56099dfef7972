/- Families of sets that pass a test. -/
import Derived.Test.YtgfndgjabhabjabT1
import Derived.Test.YtgfndgjabhabjabL1
import Derived.Test.YtgfndgjabhabjabG8
namespace Go.Proofs.Ytgfndgjabhabjab
set_option linter.unusedVariables false
set_option linter.unusedSimpArgs false
open Go.RowKit

/-- A function value that answers by r, wherever only what is new has turned. -/
def Rule1 (f : FuncId) (cp : Array Value) (m : Nat) (r : Nat → Bool) (W0 : World) : Prop :=
  ∀ W (x : Nat), x < m → Below W0.heap.size W0 W → Calls Try.prog f (#[.int .i64 x] ++ cp) W fun e W' => e = .returned (.bool (r x)) ∧ Below W.heap.size W W'

/-- Those below k that pass. -/
def famL (r : Nat → Bool) (k : Nat) : List Int := ((List.range k).filter r).map fun x : Nat => (x : Int)

theorem famL_succ (r : Nat → Bool) (k : Nat) : famL r (k + 1) = famL r k ++ (if r k then [(k : Int)] else []) := by
  unfold famL
  rw [List.range_succ, List.filter_append, List.map_append]
  cases h : r k <;> simp [h]

theorem famL_length (r : Nat → Bool) (k : Nat) : (famL r k).length ≤ k := by
  unfold famL
  have := List.length_filter_le r (List.range k)
  simpa using this

def famR (n : Int) (l : List Int) (r : Nat → Bool) : List Int := if IsG n l then famL r (2 ^ l.length) else []

theorem famR_length (n : Int) (l : List Int) (r : Nat → Bool) : (famR n l r).length ≤ 128 := by
  unfold famR
  split
  · rename_i h
    have h1 := famL_length r (2 ^ l.length)
    have h2 := two_le l.length (by have := h.2.1; have := h.2.2.1; omega)
    omega
  · simp

theorem famR_congr (n : Int) (l : List Int) (r s : Nat → Bool) (h : ∀ x, x < 2 ^ l.length → r x = s x) : famR n l r = famR n l s := by
  unfold famR famL
  split
  · refine congrArg _ (List.filter_congr fun x hx => h x (by simpa using hx))
  · rfl

theorem full_cast {n : Int} {l : List Int} (hg : IsG n l) : (2 : Int) ^ n.toNat - 1 + 1 = ((2 ^ l.length : Nat) : Int) ∧ 2 ^ l.length ≤ 128 ∧ 0 < 2 ^ l.length ∧ (2 : Int) ^ n.toNat = ((2 ^ l.length : Nat) : Int) ∧ l.length ≤ 7 := by
  have hn : n.toNat = l.length := by have := hg.2.2.1; omega
  have h7 : l.length ≤ 7 := by have := hg.2.1; have := hg.2.2.1; omega
  have h5 : ((2 ^ l.length : Nat) : Int) = (2 : Int) ^ l.length := by push_cast; rfl
  rw [hn]
  exact ⟨by omega, two_le _ h7, Nat.pow_pos (by decide), by omega, h7⟩

end Go.Proofs.Ytgfndgjabhabjab
