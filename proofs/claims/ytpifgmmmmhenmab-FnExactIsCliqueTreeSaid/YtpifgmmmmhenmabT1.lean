/- IsSplitPartition, IsCover: sets and what is left. -/
import Derived.Test.YtpifgmmmmhenmabV4
import Derived.Test.YtpifgmmmmhenmabQ
namespace Go.Proofs.Ytpifgmmmmhenmab
set_option linter.unusedVariables false
set_option linter.unusedSimpArgs false
open Go.RowKit

theorem SaysB.is_yes {P : Prop} {w : World} {e : Ending} {w' : World} (h : SaysB P w e w') (hp : P) : e = .returned (.bool true) ∧ Below w.heap.size w w' := by
  obtain ⟨r, rfl, hr, hb⟩ := h
  exact ⟨by rw [hr.2 hp], hb⟩

theorem SaysB.is_no {P : Prop} {w : World} {e : Ending} {w' : World} (h : SaysB P w e w') (hp : ¬ P) : e = .returned (.bool false) ∧ Below w.heap.size w w' := by
  obtain ⟨r, rfl, hr, hb⟩ := h
  refine ⟨?_, hb⟩
  cases r with
  | false => rfl
  | true => exact absurd (hr.1 rfl) hp

theorem sub_full (m : Nat) (h : m ≤ 7) (X : Nat) (hX : X < 2 ^ m) : Sub X (2 ^ m - 1) := fun i hi => by
  have := bit_lt hX hi
  rw [Nat.testBit_two_pow_sub_one]
  simpa using this

/-- What is left of all vertices. -/
theorem rest_is {n : Int} {l : List Int} {x : Int} (h : IsS n l x) : bits .andNot .i64 (2 ^ n.toNat - 1) x = 2 ^ n.toNat - 1 - x ∧ 0 ≤ 2 ^ n.toNat - 1 - x ∧ (2 : Int) ^ n.toNat ≤ 128 ∧ 1 ≤ (2 : Int) ^ n.toNat := by
  obtain ⟨h1, h2, h3⟩ := h.nat
  have hn : n.toNat = l.length := by have := h.1.2.2.1; omega
  obtain ⟨X, hX⟩ : ∃ X, X = x.toNat := ⟨_, rfl⟩
  rw [← hX] at h1 h2
  subst h1
  rw [hn]
  have h4 := two_le _ h3
  have h5 : ((2 ^ l.length : Nat) : Int) = (2 : Int) ^ l.length := by push_cast; rfl
  have h6 : 0 < 2 ^ l.length := Nat.pow_pos (by decide)
  have h7 := andNot_nat (L := 2 ^ l.length - 1) (by omega) (sub_full _ h3 X h2)
  have h8 : ((2 ^ l.length - 1 : Nat) : Int) = (2 : Int) ^ l.length - 1 := by omega
  rw [h8] at h7
  exact ⟨by rw [h7]; omega, by omega, by omega, by omega⟩

/-- A clique, all else independent. -/
def SplitS (n : Int) (l : List Int) (x : Int) : Prop := CliqueS n l x ∧ IndepS n l (2 ^ n.toNat - 1 - x)

instance (n : Int) (l : List Int) (x : Int) : Decidable (IndepS n l x) := by unfold IndepS; infer_instance

instance (n : Int) (l : List Int) (x : Int) : Decidable (SplitS n l x) := by unfold SplitS; infer_instance

/-- A set with a vertex of each edge. -/
def CoverS (n : Int) (l : List Int) (x : Int) : Prop := IsS n l x ∧ IndepS n l (2 ^ n.toNat - 1 - x)

instance (n : Int) (l : List Int) (x : Int) : Decidable (CoverS n l x) := by unfold CoverS; infer_instance

end Go.Proofs.Ytpifgmmmmhenmab
