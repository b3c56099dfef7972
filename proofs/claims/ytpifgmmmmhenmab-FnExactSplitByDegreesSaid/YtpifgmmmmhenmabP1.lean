/- Patterns: lists of vertices of a graph, and which of them have to be neighbours. -/
import Derived.Test.YtpifgmmmmhenmabH2
import Derived.Test.YtpifgmmmmhenmabG8
import Derived.Test.YtpifgmmmmhenmabB
namespace Go.Proofs.Ytpifgmmmmhenmab
set_option linter.unusedVariables false
set_option linter.unusedSimpArgs false
open Go.RowKit

theorem bit_more (s : Int) (j k : Nat) (h0 : 0 ≤ s) (h1 : s < 128) (hj : j < 7) (hk : k < 7) (hb : bitAt s j = 0) : bitAt (s + 2 ^ j) k = if k = j then 1 else bitAt s k := by
  obtain ⟨m, rfl⟩ := Int.eq_ofNat_of_zero_le h0
  have : ∀ (m : Fin 128) (j k : Fin 7), bitAt ((m.val : Nat) : Int) j.val = 0 → bitAt (((m.val : Nat) : Int) + 2 ^ j.val) k.val = if k.val = j.val then 1 else bitAt ((m.val : Nat) : Int) k.val := by decide +kernel
  exact this ⟨m, by omega⟩ ⟨j, hj⟩ ⟨k, hk⟩ hb

theorem setOf_bits (l : List Int) : ∀ (s0 s : Int), 0 ≤ s0 → s0 < 128 → setOf l s0 = some s → 0 ≤ s ∧ s < 128 ∧ (∀ k, k < 7 → bitAt s0 k = 1 → bitAt s k = 1) ∧ ∀ i, i < l.length → 0 ≤ nth l i ∧ nth l i ≤ 6 ∧ bitAt s (nth l i).toNat = 1 := by
  induction l with
  | nil =>
    intro s0 s h0 h1 h
    have : s0 = s := by simpa [setOf] using h
    subst this
    exact ⟨h0, h1, fun _ _ h => h, fun i hi => by simp at hi⟩
  | cons x t ih =>
    intro s0 s h0 h1 h
    by_cases hx : 0 ≤ x ∧ x ≤ 6 ∧ bitAt s0 x.toNat = 0
    · have h2 : setOf t (s0 + 2 ^ x.toNat) = some s := by
        have h3 : setOf (x :: t) s0 = if 0 ≤ x ∧ x ≤ 6 ∧ bitAt s0 x.toNat = 0 then setOf t (s0 + 2 ^ x.toNat) else none := rfl
        rw [h3, if_pos hx] at h
        exact h
      have hj : x.toNat < 7 := by omega
      have h4 := (set_small s0 x.toNat h0 h1 hj hx.2.2).2
      have h5 : (0 : Int) < 2 ^ x.toNat := Int.pow_pos (by decide)
      obtain ⟨a, b, c, d⟩ := ih _ _ (by omega) h4 h2
      refine ⟨a, b, fun k hk hb => c k hk ?_, fun i hi => ?_⟩
      · rw [bit_more s0 x.toNat k h0 h1 hj hk hx.2.2]
        split
        · rfl
        · exact hb
      · cases i with
        | zero =>
          refine ⟨hx.1, hx.2.1, c x.toNat hj ?_⟩
          rw [bit_more s0 x.toNat x.toNat h0 h1 hj hj hx.2.2, if_pos rfl]
        | succ i => exact d i (by simpa using hi)
    · exfalso
      have h3 : setOf (x :: t) s0 = if 0 ≤ x ∧ x ≤ 6 ∧ bitAt s0 x.toNat = 0 then setOf t (s0 + 2 ^ x.toNat) else none := rfl
      rw [h3, if_neg hx] at h
      cases h

/-- Different vertices of a graph. -/
def Dist (n : Int) (lg l : List Int) : Prop := ∃ s, setOf l 0 = some s ∧ IsS n lg s

instance (n : Int) (lg l : List Int) : Decidable (Dist n lg l) :=
  match h : setOf l 0 with
  | some s => if h2 : IsS n lg s then isTrue ⟨s, h, h2⟩ else isFalse fun ⟨s', h', h2'⟩ => h2 (by rw [h] at h'; obtain rfl := Option.some.inj h'; exact h2')
  | none => isFalse fun ⟨s', h', _⟩ => by rw [h] at h'; cases h'

def kl (l : List Int) (i : Nat) : Nat := (nth l i).toNat

theorem Dist.at {n : Int} {lg l : List Int} (h : Dist n lg l) {i : Nat} (hi : i < l.length) : nth l i = (kl l i : Int) ∧ kl l i < lg.length ∧ kl l i < 7 := by
  obtain ⟨s, h1, h2⟩ := h
  obtain ⟨a, b, -, d⟩ := setOf_bits l 0 s (by omega) (by omega) h1
  obtain ⟨d1, d2, d3⟩ := d i hi
  have hn := h2.nat
  rw [hn.1] at d3
  have := bit_lt hn.2.1 ((bitAt_nat s.toNat (nth l i).toNat).1 d3)
  unfold kl
  omega

theorem Dist.graph {n : Int} {lg l : List Int} (h : Dist n lg l) : IsG n lg := by
  obtain ⟨s, -, h2⟩ := h
  exact h2.1

/-- A list with a pattern. -/
def HasPat (n : Int) (lg l : List Int) (pat : Nat → Nat → Bool) : Prop := Dist n lg l ∧ ∀ j, j < l.length → ∀ i, i < j → edB lg (kl l i) (kl l j) = pat i j

instance (n : Int) (lg l : List Int) (pat : Nat → Nat → Bool) : Decidable (HasPat n lg l pat) := by unfold HasPat; infer_instance

end Go.Proofs.Ytpifgmmmmhenmab
