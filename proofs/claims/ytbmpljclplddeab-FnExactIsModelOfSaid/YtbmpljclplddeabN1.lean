/- Walks over NamedGraph. -/
import Derived.Test.YtbmpljclplddeabG8
namespace Go.Proofs.Ytbmpljclplddeab
set_option linter.unusedVariables false
set_option linter.unusedSimpArgs false
open Go.RowKit

/-- The names. -/
def nmL : Nat → List UInt8
  | 0 => [112, 97, 116, 104]
  | 1 => [99, 121, 99, 108, 101]
  | 2 => [99, 111, 109, 112, 108, 101, 116, 101]
  | 3 => [115, 116, 97, 114]
  | 4 => [119, 104, 101, 101, 108]
  | _ => [101, 109, 112, 116, 121]

/-- Which pairs a name joins. -/
def namR (k n : Nat) : Nat → Nat → Bool :=
  match k with
  | 0 => fun v w => decide (w = v + 1)
  | 1 => fun v w => decide (w = v + 1) || (decide (v = 0) && decide (w + 1 = n))
  | 2 => fun _ _ => true
  | 3 => fun v _ => decide (v = 0)
  | 4 => fun v w => decide (v = 0) || decide (w = v + 1) || (decide (v = 1) && decide (w + 1 = n))
  | _ => fun _ _ => false

/-- Which name it is. -/
def namK (s : List UInt8) : Option Nat :=
  if s == nmL 0 then some 0
  else if s == nmL 1 then some 1
  else if s == nmL 2 then some 2
  else if s == nmL 3 then some 3
  else if s == nmL 4 then some 4
  else if s == nmL 5 then some 5
  else none

def NamOk (s : List UInt8) (x : Int) : Prop := (namK s).isSome = true ∧ 1 ≤ x ∧ x ≤ 7

instance (s : List UInt8) (x : Int) : Decidable (NamOk s x) := by unfold NamOk; infer_instance

def namN (s : List UInt8) (x : Int) : Int := if NamOk s x then x else 0

def namL (s : List UInt8) (x : Int) : List Int := if NamOk s x then adjL x.toNat (symR (namR ((namK s).getD 0) x.toNat)) else []

theorem namL_length (s : List UInt8) (x : Int) : (namL s x).length ≤ 7 := by
  unfold namL
  split
  · rename_i h
    rw [adjL_length]
    have := h.2
    omega
  · simp

theorem namK_cases (s : List UInt8) : namK s = none ∨ ∃ k, k < 6 ∧ namK s = some k ∧ s = nmL k := by
  unfold namK
  by_cases h0 : s == nmL 0
  · rw [if_pos h0]; exact .inr ⟨0, by omega, rfl, by simpa using h0⟩
  rw [if_neg h0]
  by_cases h1 : s == nmL 1
  · rw [if_pos h1]; exact .inr ⟨1, by omega, rfl, by simpa using h1⟩
  rw [if_neg h1]
  by_cases h2 : s == nmL 2
  · rw [if_pos h2]; exact .inr ⟨2, by omega, rfl, by simpa using h2⟩
  rw [if_neg h2]
  by_cases h3 : s == nmL 3
  · rw [if_pos h3]; exact .inr ⟨3, by omega, rfl, by simpa using h3⟩
  rw [if_neg h3]
  by_cases h4 : s == nmL 4
  · rw [if_pos h4]; exact .inr ⟨4, by omega, rfl, by simpa using h4⟩
  rw [if_neg h4]
  by_cases h5 : s == nmL 5
  · rw [if_pos h5]; exact .inr ⟨5, by omega, rfl, by simpa using h5⟩
  rw [if_neg h5]
  exact .inl rfl

theorem namK_none {s : List UInt8} (h : namK s = none) : (s == nmL 0) = false ∧ (s == nmL 1) = false ∧ (s == nmL 2) = false ∧ (s == nmL 3) = false ∧ (s == nmL 4) = false ∧ (s == nmL 5) = false := by
  unfold namK at h
  by_cases h0 : s == nmL 0
  · rw [if_pos h0] at h; cases h
  rw [if_neg h0] at h
  by_cases h1 : s == nmL 1
  · rw [if_pos h1] at h; cases h
  rw [if_neg h1] at h
  by_cases h2 : s == nmL 2
  · rw [if_pos h2] at h; cases h
  rw [if_neg h2] at h
  by_cases h3 : s == nmL 3
  · rw [if_pos h3] at h; cases h
  rw [if_neg h3] at h
  by_cases h4 : s == nmL 4
  · rw [if_pos h4] at h; cases h
  rw [if_neg h4] at h
  by_cases h5 : s == nmL 5
  · rw [if_pos h5] at h; cases h
  rw [if_neg h5] at h
  simp_all

end Go.Proofs.Ytbmpljclplddeab
