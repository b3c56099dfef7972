/- AvoidingPath: what is asked. -/
import Derived.Test.YtgfndgjabhabjacDoorAq
namespace Go.Proofs.YtgfndgjabhabjacDoor
set_option linter.unusedVariables false
set_option linter.unusedSimpArgs false
open Go.RowKit

/-- The vertices that are asked for are there. -/
def AvoOk (n : Int) (l : List Int) (a b c : Int) : Prop := IsG n l ∧ (0 ≤ a ∧ a < n) ∧ (0 ≤ b ∧ b < n) ∧ (0 ≤ c ∧ c < n)

instance (n : Int) (l : List Int) (a b c : Int) : Decidable (AvoOk n l a b c) := by unfold AvoOk; infer_instance

/-- The first shortest way from a to b that avoids all around c. -/
def avoR (n : Int) (l : List Int) (a b c : Int) : Option (List Int) :=
  if AvoOk n l a b c then wayR (rowN l) (awayN l c.toNat) a.toNat b.toNat l.length else none

theorem away_facts {n : Int} {l : List Int} (hg : IsG n l) {c : Nat} (hc : c < l.length) : aroundR n l ((2 : Int) ^ c) = ((aroundN (rowN l) (2 ^ c) : Nat) : Int) ∧ bits .andNot .i64 (2 ^ n.toNat - 1) ((aroundN (rowN l) (2 ^ c) : Nat) : Int) = ((awayN l c : Nat) : Int) ∧
    (2 : Int) ^ n.toNat - 1 - ((aroundN (rowN l) (2 ^ c) : Nat) : Int) = ((awayN l c : Nat) : Int) ∧ awayN l c < 2 ^ l.length ∧ aroundN (rowN l) (2 ^ c) < 2 ^ l.length := by
  have hm7 : l.length ≤ 7 := by have := hg.2.1; have := hg.2.2.1; omega
  have hnt : n.toNat = l.length := by have := hg.2.2.1; omega
  have hX : 2 ^ c < 2 ^ l.length := Nat.pow_lt_pow_right (by decide) hc
  have hA := around_lt hg hX
  have h128 := two_le _ hm7
  have hp : 0 < 2 ^ l.length := Nat.pow_pos (by decide)
  have hS : Sub (aroundN (rowN l) (2 ^ c)) (2 ^ l.length - 1) := fun i hi => by
    have := bit_lt hA hi
    rw [Nat.testBit_two_pow_sub_one]
    exact decide_eq_true this
  have hle := sub_le hS
  have he : (2 : Int) ^ n.toNat - 1 = ((2 ^ l.length - 1 : Nat) : Int) := by
    rw [hnt]
    have : ((2 ^ l.length - 1 : Nat) : Int) = ((2 ^ l.length : Nat) : Int) - 1 := by omega
    rw [this]; push_cast; rfl
  refine ⟨?_, ?_, ?_, ?_, hA⟩
  · unfold aroundR
    have h2 : ((2 : Int) ^ c) = ((2 ^ c : Nat) : Int) := by push_cast; rfl
    rw [h2, if_pos ⟨hg, Int.natCast_nonneg _, by rw [hnt]; exact_mod_cast hX⟩, Int.toNat_natCast]
  · rw [he, andNot_nat (by omega) hS]; rfl
  · rw [he]; unfold awayN; omega
  · unfold awayN; omega

end Go.Proofs.YtgfndgjabhabjacDoor
