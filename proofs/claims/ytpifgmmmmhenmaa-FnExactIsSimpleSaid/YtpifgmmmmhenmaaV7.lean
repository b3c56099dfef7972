/- Walks over PartsOf. -/
import Derived.Test.YtpifgmmmmhenmaaV5
import Derived.Test.YtpifgmmmmhenmaaV6
import Derived.StillTailTactics
namespace Go.Proofs.Ytpifgmmmmhenmaa
set_option linter.unusedVariables false
set_option linter.unusedSimpArgs false
open Go.RowKit

theorem isS_nat {n : Int} {l : List Int} (hg : IsG n l) {A : Nat} (hA : A < 2 ^ l.length) : IsS n l (A : Int) := by
  refine ⟨hg, by omega, ?_⟩
  have hn : n.toNat = l.length := by have := hg.2.2.1; omega
  rw [hn]
  have h3 : ((2 ^ l.length : Nat) : Int) = (2 : Int) ^ l.length := by push_cast; rfl
  omega

theorem aroundR_nat {n : Int} {l : List Int} (hg : IsG n l) {A : Nat} (hA : A < 2 ^ l.length) : aroundR n l (A : Int) = ((aroundN (rowN l) A : Nat) : Int) := by
  unfold aroundR
  rw [if_pos (isS_nat hg hA)]
  rfl

theorem step_lt {n : Int} {l : List Int} (hg : IsG n l) {A S : Nat} (hA : A < 2 ^ l.length) : stepN (rowN l) S A < 2 ^ l.length := Nat.lt_of_le_of_lt Nat.and_le_left (around_lt hg hA)

theorem it_lt {n : Int} {l : List Int} (hg : IsG n l) {A S : Nat} (hA : A < 2 ^ l.length) (k : Nat) : itN (rowN l) S A k < 2 ^ l.length := by
  cases k with
  | zero => exact hA
  | succ k => exact step_lt hg (it_lt hg hA k)

theorem it_grow {R : Nat → Nat} {S X n : Nat} (hS : S < 2 ^ n) (hn : n ≤ 7) (hX : Sub X S) (h0 : 0 < X) (k : Nat) : (∃ j, j ≤ k ∧ stepN R S (itN R S X j) = itN R S X j) ∨ k + 1 ≤ popN (itN R S X k) := by
  have h7 : S < 128 := Nat.lt_of_lt_of_le hS (two_le n hn)
  have hlt : ∀ k, itN R S X k < 128 := fun k => Nat.lt_of_le_of_lt (sub_le (it_sub hX k)) h7
  induction k with
  | zero => exact .inr (low_facts X h0 (hlt 0)).2.2.1
  | succ k ih =>
    rcases ih with ⟨j, hj, he⟩ | hp
    · exact .inl ⟨j, by omega, he⟩
    · by_cases e : itN R S X k = itN R S X (k + 1)
      · exact .inl ⟨k, by omega, e.symm⟩
      · have := pop_lt (hlt k) (hlt (k + 1)) (it_ext hX k) e
        exact .inr (by omega)

theorem it_stable {R : Nat → Nat} {S X n : Nat} (hS : S < 2 ^ n) (hn : n ≤ 7) (hX : Sub X S) (h0 : 0 < X) : stepN R S (itN R S X n) = itN R S X n := by
  rcases it_grow (R := R) hS hn hX h0 n with ⟨j, hj, he⟩ | hp
  · have := it_fix he (n - j)
    rw [show j + (n - j) = n by omega] at this
    rw [this, he]
  · have := pop_le hn (Nat.lt_of_le_of_lt (sub_le (it_sub (R := R) hX n)) hS)
    omega

theorem low_sub {L : Nat} (h0 : 0 < L) (h7 : L < 128) : Sub (2 ^ lowN L) L := and_sub (low_facts L h0 h7).2.2.2.2.1

/-- One part more. -/
theorem parts_step {n : Int} {l : List Int} (hg : IsG n l) {S L f : Nat} (hS : S < 2 ^ l.length) (hl : l.length ≤ 7) (h0 : 0 < L) (hf : L ≤ f) (hL : Sub L S) (hc : stepN (rowN l) S L = L) :
    ∃ P D, P = itN (rowN l) S (2 ^ lowN L) l.length ∧ D = L - P ∧ P = itN (rowN l) L (2 ^ lowN L) l.length ∧ Sub P L ∧ 0 < P ∧ D < L ∧ Sub D S ∧ stepN (rowN l) S D = D ∧ popN D < popN L ∧ partsN (rowN l) S l.length f L = P :: partsN (rowN l) S l.length (f - 1) D ∧ D ≤ f - 1 ∧ (D : Int) = L - P := by
  have hS7 : S < 128 := Nat.lt_of_lt_of_le hS (two_le _ hl)
  have hL7 : L < 128 := Nat.lt_of_le_of_lt (sub_le hL) hS7
  have h1 := low_sub h0 hL7
  have h2 : Sub (2 ^ lowN L) S := fun i hi => hL i (h1 i hi)
  have h3 := it_local (R := rowN l) h1 hL hc l.length
  have h4 : Sub (itN (rowN l) S (2 ^ lowN L) l.length) L := by rw [← h3]; exact it_sub h1 _
  have h5 : 0 < itN (rowN l) S (2 ^ lowN L) l.length := Nat.lt_of_lt_of_le (Nat.pow_pos (by decide)) (sub_le (it_from h2 l.length))
  have h6 := sub_le h4
  have h7 := it_stable (R := rowN l) hS hl h2 (Nat.pow_pos (by decide))
  have h8 : Sub (L - itN (rowN l) S (2 ^ lowN L) l.length) L := fun i hi => ((minus_bit hL7 h4 i).1 hi).1
  refine ⟨_, _, rfl, rfl, h3.symm, h4, h5, by omega, fun i hi => hL i (h8 i hi), ?_, ?_, ?_, by omega, by omega⟩
  · exact closed_minus hS7 hL h4 hc h7 fun i j hi hj => hg.row_sym i j (bit_lt hS hi) (bit_lt hS hj)
  · exact pop_lt (by omega) hL7 h8 (by omega)
  · obtain ⟨g, rfl⟩ : ∃ g, f = g + 1 := ⟨f - 1, by omega⟩
    show (if L = 0 then [] else _) = _
    rw [if_neg (by omega)]
    rfl

theorem parts_done (R : Nat → Nat) (S n f : Nat) : partsN R S n f 0 = [] := by
  cases f <;> simp [partsN]

theorem listU_nat (L : Nat) : listU (L : Int) 7 = (memN L).map fun v : Nat => (v : Int) := by rw [← memU_nat]; rfl

end Go.Proofs.Ytpifgmmmmhenmaa
