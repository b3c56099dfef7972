/- spec.AvoidingPath: plain facts. -/
import Derived.Test.YtgfndgjabhabjacDoorAq
namespace Go.Proofs.YtgfndgjabhabjacDoor
set_option linter.unusedVariables false
set_option linter.unusedSimpArgs false
open Go.RowKit

/-- How far a vertex lies, -1 where it has not been reached. -/
def flK (R : Nat → Nat) (S b m v : Nat) : Int := match farK R S b m v with
  | some k => (k : Int)
  | none => -1

theorem far_succ (R : Nat → Nat) (S b m v : Nat) : farK R S b (m + 1) v = match farK R S b m v with
    | some k => some k
    | none => if (itN R S (2 ^ b) m).testBit v = true then some m else none := by
  cases h : farK R S b m v with
  | some k =>
    obtain ⟨h1, h2, h3⟩ := far_some.1 h
    exact far_some.2 ⟨by omega, h2, h3⟩
  | none =>
    have hn := far_none.1 h
    by_cases hb : (itN R S (2 ^ b) m).testBit v = true
    · simp only [hb, if_true]
      exact far_some.2 ⟨by omega, hb, hn⟩
    · simp only [hb]
      refine far_none.2 fun k hk => ?_
      rcases Nat.lt_or_ge k m with h | h
      · exact hn k h
      · obtain rfl : k = m := by omega
        simpa using hb

theorem flK_range (R : Nat → Nat) (S b m v : Nat) : -1 ≤ flK R S b m v ∧ flK R S b m v < m ∨ flK R S b m v = -1 := by
  unfold flK
  cases h : farK R S b m v with
  | some k => have := (far_some.1 h).1; simp only; omega
  | none => simp

theorem flK_neg {R : Nat → Nat} {S b m v : Nat} : flK R S b m v < 0 ↔ farK R S b m v = none := by
  unfold flK
  cases h : farK R S b m v with
  | some k => simp
  | none => simp

theorem flK_eq {R : Nat → Nat} {S b m v k : Nat} : flK R S b m v = (k : Int) ↔ farK R S b m v = some k := by
  unfold flK
  cases h : farK R S b m v with
  | some j => simp only [Option.some.injEq]; exact Int.ofNat_inj
  | none => simp

/-- The list between two rounds. -/
def flL (R : Nat → Nat) (S b N m v : Nat) : List Int := (List.range N).map fun x => if x < v then flK R S b (m + 1) x else flK R S b m x

theorem flL_length (R : Nat → Nat) (S b N m v : Nat) : (flL R S b N m v).length = N := by simp [flL]

theorem flL_nth (R : Nat → Nat) (S b N m v x : Nat) (h : x < N) : nth (flL R S b N m v) x = if x < v then flK R S b (m + 1) x else flK R S b m x := by
  simp [flL, nth, List.getD, h]

theorem flL_done (R : Nat → Nat) (S b N m : Nat) : flL R S b N m N = flL R S b N (m + 1) 0 := by
  refine list_ext_nth (by rw [flL_length, flL_length]) fun i hi => ?_
  rw [flL_length] at hi
  rw [flL_nth _ _ _ _ _ _ _ hi, flL_nth _ _ _ _ _ _ _ hi, if_pos hi, if_neg (by omega)]

theorem flL_start (R : Nat → Nat) (S b N : Nat) : flL R S b N 0 0 = List.replicate N (-1) := by
  refine list_ext_nth (by rw [flL_length, List.length_replicate]) fun i hi => ?_
  rw [flL_length] at hi
  rw [flL_nth _ _ _ _ _ _ _ hi, if_neg (by omega)]
  have : farK R S b 0 i = none := by simp [farK]
  unfold flK
  rw [this]
  simp [nth, List.getD, hi]

theorem flL_in (R : Nat → Nat) (S b N m v : Nat) (hm : m ≤ 7) : inI64 (flL R S b N m v) := fun x hx => by
  unfold flL at hx
  obtain ⟨i, -, rfl⟩ := List.mem_map.1 hx
  split
  · have := flK_range R S b (m + 1) i; omega
  · have := flK_range R S b m i; omega

/-- A vertex that is reached now for the first time. -/
theorem flL_hit {R : Nat → Nat} {S b N m v : Nat} (hv : v < N) (h1 : (itN R S (2 ^ b) m).testBit v = true) (h2 : flK R S b m v < 0) : (flL R S b N m v).set v (m : Int) = flL R S b N m (v + 1) := by
  refine list_ext_nth (by rw [List.length_set, flL_length, flL_length]) fun i hi => ?_
  rw [List.length_set, flL_length] at hi
  rw [nth_set _ _ _ _ (by rw [flL_length]; exact hv), flL_nth _ _ _ _ _ _ _ hi, flL_nth _ _ _ _ _ _ _ hi]
  by_cases he : i = v
  · subst he
    rw [if_pos rfl, if_pos (by omega)]
    symm
    rw [flK_eq, far_succ, flK_neg.1 h2]
    simp [h1]
  · rw [if_neg he]
    by_cases h : i < v
    · rw [if_pos h, if_pos (by omega)]
    · rw [if_neg h, if_neg (by omega)]

theorem flL_miss {R : Nat → Nat} {S b N m v : Nat} (h : ¬ ((itN R S (2 ^ b) m).testBit v = true ∧ flK R S b m v < 0)) : flL R S b N m v = flL R S b N m (v + 1) := by
  refine list_ext_nth (by rw [flL_length, flL_length]) fun i hi => ?_
  rw [flL_length] at hi
  rw [flL_nth _ _ _ _ _ _ _ hi, flL_nth _ _ _ _ _ _ _ hi]
  by_cases he : i = v
  · subst he
    rw [if_neg (by omega), if_pos (by omega)]
    unfold flK
    rw [far_succ]
    cases hf : farK R S b m i with
    | some k => rfl
    | none =>
      have : ¬ (itN R S (2 ^ b) m).testBit i = true := fun hh => h ⟨hh, flK_neg.2 hf⟩
      simp [this]
  · by_cases h : i < v
    · rw [if_pos h, if_pos (by omega)]
    · rw [if_neg h, if_neg (by omega)]

theorem low_least (Q v : Nat) (hQ : Q < 128) (hv : v < 7) (h : Q.testBit v = true) : lowN Q ≤ v := by
  have : ∀ (Q : Fin 128) (v : Fin 7), Q.val.testBit v.val = true → lowN Q.val ≤ v.val := by decide +kernel
  exact this ⟨Q, hQ⟩ ⟨v, hv⟩ h

end Go.Proofs.YtgfndgjabhabjacDoor
