/- The first of the greatest sets: plain facts. -/
import Derived.Test.YtgfndgjabhabjabMu
import Derived.Test.YtgfndgjabhabjabF1
import Derived.Test.YtgfndgjabhabjabE1
namespace Go.Proofs.Ytgfndgjabhabjab
set_option linter.unusedVariables false
set_option linter.unusedSimpArgs false
open Go.RowKit

theorem popU_popM (Y : Nat) (h : Y < 128) : popU (Y : Int) = ((popN Y : Nat) : Int) := by
  unfold popU
  rw [if_pos ⟨by omega, by omega⟩]
  unfold listU popN
  rw [List.length_map]
  exact congrArg (fun l : List Nat => (l.length : Int)) (memU_nat Y)

/-- The first of those below k with p that have most members. -/
def bestN (p : Nat → Bool) : Nat → Nat
  | 0 => 0
  | k + 1 => if popN (bestN p k) < popN k ∧ p k = true then k else bestN p k

theorem bestN_lt (p : Nat → Bool) (k : Nat) (h : 0 < k) : bestN p k < k := by
  induction k with
  | zero => omega
  | succ k ih =>
    unfold bestN
    split
    · omega
    · rcases Nat.eq_zero_or_pos k with rfl | hk
      · simp [bestN]
      · have := ih hk; omega

theorem bestN_le (p : Nat → Bool) (k : Nat) : bestN p k ≤ k := by
  rcases Nat.eq_zero_or_pos k with rfl | hk
  · exact Nat.le_refl _
  · exact Nat.le_of_lt (bestN_lt p k hk)

theorem bestN_is (p : Nat → Bool) (k : Nat) : (∀ X, X < k → p X = true → popN X ≤ popN (bestN p k)) ∧ (∀ X, X < k → X < bestN p k → p X = true → popN X < popN (bestN p k)) ∧ (bestN p k = 0 ∨ p (bestN p k) = true) := by
  induction k with
  | zero => exact ⟨fun X h => by omega, fun X h => by omega, .inl rfl⟩
  | succ k ih =>
    obtain ⟨h1, h2, h3⟩ := ih
    unfold bestN
    split
    · rename_i hc
      refine ⟨fun X hX hp => ?_, fun X hX hk hp => ?_, .inr hc.2⟩
      · rcases Nat.lt_or_ge X k with h | h
        · have := h1 X h hp; omega
        · obtain rfl : X = k := by omega
          exact Nat.le_refl _
      · have := h1 X hk hp; omega
    · rename_i hc
      refine ⟨fun X hX hp => ?_, fun X hX hk hp => ?_, h3⟩
      · rcases Nat.lt_or_ge X k with h | h
        · exact h1 X h hp
        · obtain rfl : X = k := by omega
          rcases Nat.lt_or_ge (popN (bestN p X)) (popN X) with h4 | h4
          · exact absurd ⟨h4, hp⟩ hc
          · exact h4
      · have := bestN_le p k
        exact h2 X (by omega) hk hp

theorem mosU_best (p : Nat → Bool) (k : Nat) (hk : k ≤ 128) : mosU (famL p k) = ((bestN p k : Nat) : Int) := by
  induction k with
  | zero => rfl
  | succ k ih =>
    have ih := ih (by omega)
    have hb := bestN_le p k
    rw [famL_succ]
    cases hp : p k with
    | false =>
      simp only [Bool.false_eq_true, if_false, List.append_nil]
      rw [ih]
      have e : bestN p (k + 1) = if popN (bestN p k) < popN k ∧ p k = true then k else bestN p k := rfl
      rw [e, if_neg (by rw [hp]; simp)]
    | true =>
      simp only [if_true]
      rw [mos_snoc, ih]
      unfold mosF
      rw [popU_popM _ (by omega), popU_popM _ (by omega)]
      have e : bestN p (k + 1) = if popN (bestN p k) < popN k ∧ p k = true then k else bestN p k := rfl
      rw [e, hp]
      by_cases h : popN (bestN p k) < popN k
      · rw [if_pos (by omega), if_pos ⟨h, rfl⟩]
      · rw [if_neg (by omega), if_neg (fun hh => h hh.1)]

/-- Cliques as a test. -/
def cliB (n : Int) (l : List Int) (X : Nat) : Bool := decide (CliqueS n l (X : Int))

/-- The greatest among all is the greatest among those that cannot grow. -/
theorem best_max {n : Int} {l : List Int} (hg : IsG n l) : bestN (maxB n l) (2 ^ l.length) = bestN (cliB n l) (2 ^ l.length) := by
  have hl : l.length ≤ 7 := by have := hg.2.1; have := hg.2.2.1; omega
  have hF := two_le l.length hl
  have hF0 : 0 < 2 ^ l.length := Nat.pow_pos (by decide)
  obtain ⟨F, hFe⟩ : ∃ F, F = 2 ^ l.length := ⟨_, rfl⟩
  have hc : ∀ X, cliB n l X = true ↔ Cl l X := fun X => by unfold cliB; rw [decide_eq_true_eq]; exact clique_cl hg X
  have hm : ∀ X, maxB n l X = true ↔ MaxC l X := maxB_iff hg
  have hlt : ∀ {X}, Cl l X → X < F := fun h => by rw [hFe]; exact h.1
  rw [← hFe] at hF hF0 ⊢
  obtain ⟨a1, a2, a3⟩ := bestN_is (cliB n l) F
  obtain ⟨b1, b2, b3⟩ := bestN_is (maxB n l) F
  have hA := bestN_lt (cliB n l) F hF0
  have hB := bestN_lt (maxB n l) F hF0
  obtain ⟨A, eA⟩ : ∃ A, A = bestN (cliB n l) F := ⟨_, rfl⟩
  obtain ⟨B, eB⟩ : ∃ B, B = bestN (maxB n l) F := ⟨_, rfl⟩
  rw [← eA] at a1 a2 a3 hA ⊢
  rw [← eB] at b1 b2 b3 hB ⊢
  have hAc : Cl l A := by
    rcases a3 with h | h
    · rw [h]; exact cl_zero l
    · exact (hc A).1 h
  have hBc : Cl l B := by
    rcases b3 with h | h
    · rw [h]; exact cl_zero l
    · exact ((hm B).1 h).1
  have hAm : MaxC l A := by
    refine ⟨hAc, eq_of_bits fun i => ?_⟩
    rw [Nat.zero_testBit]
    refine ⟨fun hi => ?_, fun h => by cases h⟩
    obtain ⟨h1, h2⟩ := cl_put hg hl hAc hi
    have := a1 _ (hlt h1) ((hc _).2 h1)
    omega
  have e1 := b1 A hA ((hm A).2 hAm)
  have e2 := a1 B hB ((hc B).2 hBc)
  rcases Nat.lt_trichotomy A B with h | h | h
  · have := b2 A hA h ((hm A).2 hAm); omega
  · exact h.symm
  · have := a2 B hB h ((hc B).2 hBc); omega

/-- The answer. -/
def bigR (n : Int) (l : List Int) (p : Nat → Bool) : Int := if IsG n l then ((bestN p (2 ^ l.length) : Nat) : Int) else 0

theorem most_is (n : Int) (l : List Int) : mosU (maxR n l) = bigR n l (cliB n l) := by
  unfold maxR bigR
  by_cases hg : IsG n l
  · rw [if_pos hg, if_pos hg, ← best_max hg]
    exact mosU_best (maxB n l) (2 ^ l.length) (by have := two_le l.length (by have := hg.2.1; have := hg.2.2.1; omega); omega)
  · rw [if_neg hg, if_neg hg]
    rfl

end Go.Proofs.Ytgfndgjabhabjab
