/- The least module that holds a set: it is reached by taking in what tells members apart. Plain facts. -/
import Derived.Test.YtbmpljclplddeabM2
import Derived.Test.YtbmpljclplddeabF1
namespace Go.Proofs.Ytbmpljclplddeab
set_option linter.unusedVariables false
set_option linter.unusedSimpArgs false
open Go.RowKit

/-- v lies outside of X and tells members of X apart. -/
def tellsB (R : Nat → Nat) (X v : Nat) : Bool := !X.testBit v && (decide (0 < popN (R v &&& X)) && decide (popN (R v &&& X) < popN X))

def stepL (R : Nat → Nat) (X v : Nat) : Nat := if tellsB R X v then X ||| 2 ^ v else X

def roundL (R : Nat → Nat) (X : Nat) : Nat → Nat
  | 0 => X
  | j + 1 => stepL R (roundL R X j) j

def leastL (R : Nat → Nat) (N X : Nat) : Nat → Nat
  | 0 => X
  | k + 1 => roundL R (leastL R N X k) N

theorem or_pow_bit (X v i : Nat) : (X ||| 2 ^ v).testBit i = true ↔ X.testBit i = true ∨ i = v := by
  rw [Nat.testBit_or, Nat.testBit_two_pow, Bool.or_eq_true, decide_eq_true_iff]
  exact or_congr_right ⟨fun h => h.symm, fun h => h.symm⟩

theorem step_sup (R : Nat → Nat) (X v : Nat) : Sub X (stepL R X v) := fun i hi => by
  unfold stepL
  split
  · exact (or_pow_bit X v i).2 (.inl hi)
  · exact hi

theorem round_sup (R : Nat → Nat) (X j : Nat) : Sub X (roundL R X j) := by
  induction j with
  | zero => exact fun i hi => hi
  | succ j ih => exact fun i hi => step_sup R _ j i (ih i hi)

theorem round_mono (R : Nat → Nat) (X j k : Nat) : Sub (roundL R X j) (roundL R X (j + k)) := by
  induction k with
  | zero => exact fun i hi => hi
  | succ k ih => exact fun i hi => step_sup R _ (j + k) i (ih i hi)

theorem least_sup (R : Nat → Nat) (N X k : Nat) : Sub X (leastL R N X k) := by
  induction k with
  | zero => exact fun i hi => hi
  | succ k ih => exact fun i hi => round_sup R _ N i (ih i hi)

theorem or_lt {X v N : Nat} (hX : X < 2 ^ N) (hv : v < N) : X ||| 2 ^ v < 2 ^ N := Nat.or_lt_two_pow hX (Nat.pow_lt_pow_right (by decide) hv)

theorem stepL_lt {R : Nat → Nat} {X v N : Nat} (hX : X < 2 ^ N) (hv : v < N) : stepL R X v < 2 ^ N := by
  unfold stepL
  split
  · exact or_lt hX hv
  · exact hX

theorem round_lt {R : Nat → Nat} {X N : Nat} (hX : X < 2 ^ N) (j : Nat) (hj : j ≤ N) : roundL R X j < 2 ^ N := by
  induction j with
  | zero => exact hX
  | succ j ih => exact stepL_lt (ih (by omega)) (by omega)

theorem least_lt {R : Nat → Nat} {X N : Nat} (hX : X < 2 ^ N) (k : Nat) : leastL R N X k < 2 ^ N := by
  induction k with
  | zero => exact hX
  | succ k ih => exact round_lt ih N (Nat.le_refl _)

/-- Whoever lies outside has all of M, or nothing. -/
def ModF (R : Nat → Nat) (N M : Nat) : Prop := ∀ v, v < N → M.testBit v = false → R v &&& M = 0 ∨ Sub M (R v)

theorem pop_zero : ∀ a : Fin 128, popN a.val = 0 ↔ a.val = 0 := by decide +kernel

theorem and_sub_right (Y X : Nat) : Sub (Y &&& X) X := fun i hi => by
  rw [Nat.testBit_and] at hi
  simp at hi
  exact hi.2

theorem tells_iff (R : Nat → Nat) (X v : Nat) (hX : X < 128) : tellsB R X v = true ↔ X.testBit v = false ∧ R v &&& X ≠ 0 ∧ R v &&& X ≠ X := by
  have hY : R v &&& X < 128 := Nat.lt_of_le_of_lt Nat.and_le_right hX
  have hz := pop_zero ⟨R v &&& X, hY⟩
  simp only at hz
  unfold tellsB
  simp only [Bool.and_eq_true, Bool.not_eq_true', decide_eq_true_eq]
  refine and_congr_right fun _ => ⟨fun ⟨h1, h2⟩ => ⟨fun h => ?_, fun h => ?_⟩, fun ⟨h1, h2⟩ => ⟨?_, pop_lt hY hX (and_sub_right _ _) h2⟩⟩
  · have := hz.2 h
    omega
  · rw [h] at h2
    omega
  · rcases Nat.eq_zero_or_pos (popN (R v &&& X)) with h | h
    · exact absurd (hz.1 h) h1
    · exact h

theorem tells_in {R : Nat → Nat} {N M X v : Nat} (hX : X < 128) (hM : ModF R N M) (hs : Sub X M) (hv : v < N) (ht : tellsB R X v = true) : M.testBit v = true := by
  obtain ⟨-, h1, h2⟩ := (tells_iff R X v hX).1 ht
  cases hb : M.testBit v with
  | true => rfl
  | false =>
    exfalso
    rcases hM v hv hb with h | h
    · refine h1 (eq_of_bits fun i => ⟨fun hi => ?_, fun hi => by simp at hi⟩)
      rw [Nat.testBit_and, Bool.and_eq_true] at hi
      have : (R v &&& M).testBit i = true := by rw [Nat.testBit_and, hi.1, hs i hi.2]; rfl
      rw [h] at this
      exact this
    · refine h2 (eq_of_bits fun i => ⟨fun hi => and_sub_right _ _ i hi, fun hi => ?_⟩)
      rw [Nat.testBit_and, h i (hs i hi), hi]; rfl

theorem step_in {R : Nat → Nat} {N M X v : Nat} (hX : X < 128) (hM : ModF R N M) (hs : Sub X M) (hv : v < N) : Sub (stepL R X v) M := fun i hi => by
  unfold stepL at hi
  split at hi
  · rename_i ht
    rcases (or_pow_bit X v i).1 hi with h | rfl
    · exact hs i h
    · exact tells_in hX hM hs hv ht
  · exact hs i hi

theorem round_in {R : Nat → Nat} {N M X : Nat} (h7 : N ≤ 7) (hX : X < 2 ^ N) (hM : ModF R N M) (hs : Sub X M) (j : Nat) (hj : j ≤ N) : Sub (roundL R X j) M := by
  induction j with
  | zero => exact hs
  | succ j ih => exact step_in (Nat.lt_of_lt_of_le (round_lt hX j (by omega)) (two_le _ h7)) hM (ih (by omega)) (by omega)

theorem least_in {R : Nat → Nat} {N M X : Nat} (h7 : N ≤ 7) (hX : X < 2 ^ N) (hM : ModF R N M) (hs : Sub X M) (k : Nat) : Sub (leastL R N X k) M := by
  induction k with
  | zero => exact hs
  | succ k ih => exact round_in h7 (least_lt hX k) hM ih N (Nat.le_refl _)

theorem sub_antisymm {X Y : Nat} (h : Sub X Y) (k : Sub Y X) : X = Y := eq_of_bits fun i => ⟨h i, k i⟩

theorem round_fix {R : Nat → Nat} {X N : Nat} (h : roundL R X N = X) (v : Nat) (hv : v < N) : tellsB R X v = false := by
  have hj : ∀ j, j ≤ N → roundL R X j = X := fun j hj => sub_antisymm (by
    have := round_mono R X j (N - j)
    rwa [show j + (N - j) = N by omega, h] at this) (round_sup R X j)
  have h1 := hj (v + 1) (by omega)
  have h2 : stepL R X v = X := by rw [← h1]; show _ = stepL R (roundL R X v) v; rw [hj v (by omega), h1]
  cases ht : tellsB R X v with
  | false => rfl
  | true =>
    exfalso
    unfold stepL at h2
    rw [if_pos ht] at h2
    have h3 : X.testBit v = true := by rw [← h2]; exact (or_pow_bit X v v).2 (.inr rfl)
    unfold tellsB at ht
    rw [h3] at ht
    simp at ht

theorem least_grow {R : Nat → Nat} {N X : Nat} (h7 : N ≤ 7) (hX : X < 2 ^ N) (h0 : 0 < X) (k : Nat) : roundL R (leastL R N X k) N = leastL R N X k ∨ k + 1 ≤ popN (leastL R N X k) := by
  induction k with
  | zero =>
    right
    have hx : X < 128 := Nat.lt_of_lt_of_le hX (two_le _ h7)
    have := pop_zero ⟨X, hx⟩
    show 1 ≤ popN X
    simp only at this
    omega
  | succ k ih =>
    by_cases hs : roundL R (leastL R N X k) N = leastL R N X k
    · left
      show roundL R (roundL R (leastL R N X k) N) N = roundL R (leastL R N X k) N
      rw [hs, hs]
    · right
      rcases ih with h | h
      · exact absurd h hs
      · have h1 : popN (leastL R N X k) < popN (roundL R (leastL R N X k) N) :=
          pop_lt (Nat.lt_of_lt_of_le (least_lt hX k) (two_le _ h7)) (Nat.lt_of_lt_of_le (round_lt (least_lt hX k) N (Nat.le_refl _)) (two_le _ h7)) (round_sup R _ N) fun e => hs e.symm
        show k + 1 + 1 ≤ popN (roundL R (leastL R N X k) N)
        omega

theorem least_mod {R : Nat → Nat} {N X : Nat} (h7 : N ≤ 7) (hX : X < 2 ^ N) (h0 : 0 < X) : ModF R N (leastL R N X N) := fun v hv hb => by
  have hL := least_lt (R := R) hX N
  have hL7 : leastL R N X N < 128 := Nat.lt_of_lt_of_le hL (two_le _ h7)
  rcases least_grow (R := R) h7 hX h0 N with h | h
  · have ht := round_fix h v hv
    by_cases h1 : R v &&& leastL R N X N = 0
    · exact .inl h1
    · right
      by_cases h2 : R v &&& leastL R N X N = leastL R N X N
      · exact fun i hi => by
          rw [← h2, Nat.testBit_and, Bool.and_eq_true] at hi
          exact hi.1
      · have := (tells_iff R _ v hL7).2 ⟨hb, h1, h2⟩
        rw [ht] at this
        cases this
  · have := pop_le h7 hL
    omega

theorem modS_modF {n : Int} {l : List Int} (hg : IsG n l) {M : Nat} (hM : M < 2 ^ l.length) : ModS n l (M : Int) ↔ M ≠ 0 ∧ ModF (rowN l) l.length M := by
  have h7 : l.length ≤ 7 := by have := hg.2.1; have := hg.2.2.1; omega
  have hM7 : M < 128 := Nat.lt_of_lt_of_le hM (two_le _ h7)
  unfold ModS
  rw [Int.toNat_natCast]
  constructor
  · rintro ⟨-, h0, h⟩
    refine ⟨by omega, fun v hv hb => ?_⟩
    by_cases hex : ∃ u, M.testBit u = true ∧ (rowN l v).testBit u = true
    · right
      obtain ⟨u, hu, hvu⟩ := hex
      intro i hi
      have hul := bit_lt hM hu
      have hil := bit_lt hM hi
      have e := h u (by omega) hu i (by omega) hi
      have h1 : (offN (rowN l u) M).testBit v = true := (off_bit _ _ (row_small hg hul) hM7 v).2 ⟨by rw [hg.row_sym u v hul hv]; exact hvu, hb⟩
      rw [e, off_bit _ _ (row_small hg hil) hM7] at h1
      rw [hg.row_sym v i hv hil]
      exact h1.1
    · left
      refine eq_of_bits fun i => ⟨fun hi => ?_, fun hi => by simp at hi⟩
      rw [Nat.testBit_and, Bool.and_eq_true] at hi
      exact absurd ⟨i, hi.2, hi.1⟩ hex
  · rintro ⟨h0, h⟩
    refine ⟨isS_nat hg hM, by omega, fun v _ hv u _ hu => ?_⟩
    have half : ∀ v u, M.testBit v = true → M.testBit u = true → ∀ i, (offN (rowN l v) M).testBit i = true → (offN (rowN l u) M).testBit i = true := fun v u hv hu i hi => by
      have hvl := bit_lt hM hv
      have hul := bit_lt hM hu
      obtain ⟨h1, h2⟩ := (off_bit _ _ (row_small hg hvl) hM7 i).1 hi
      have hil := bit_lt (hg.row_lt v hvl).1 h1
      refine (off_bit _ _ (row_small hg hul) hM7 i).2 ⟨?_, h2⟩
      rcases h i hil h2 with h3 | h3
      · exfalso
        have : (rowN l i &&& M).testBit v = true := by rw [Nat.testBit_and, hv, hg.row_sym i v hil hvl, h1]; rfl
        rw [h3] at this
        simp at this
      · rw [hg.row_sym u i hul hil]
        exact h3 u hu
    exact eq_of_bits fun i => ⟨half v u hv hu i, half u v hu hv i⟩

/-- The least module that holds a set; nothing, where there is no set or an empty one. -/
def leastR (n : Int) (l : List Int) (x : Int) : Int := if IsS n l x ∧ x ≠ 0 then ((leastL (rowN l) l.length x.toNat l.length : Nat) : Int) else 0

def leastB (n : Int) (l : List Int) (X : Nat) (y : Nat) : Bool := decide (X &&& y = X) && decide (ModS n l (y : Int))

theorem fam_first {r : Nat → Bool} {m L : Nat} (hL : L < m) (hr : r L = true) (hno : ∀ y, y < L → r y = false) : nth (famL r m) 0 = (L : Int) ∧ 0 < (famL r m).length := by
  have hf : (List.range m).find? r = some L := by
    rw [List.find?_range_eq_some]
    exact ⟨hr, by simpa using hL, fun j hj => by simp [hno j hj]⟩
  have hh : ((List.range m).filter r).head? = some L := by rw [List.head?_filter]; exact hf
  unfold famL
  cases hl : (List.range m).filter r with
  | nil => rw [hl] at hh; cases hh
  | cons a t =>
    rw [hl] at hh
    obtain rfl : a = L := by simpa using hh
    simp [nth]

theorem least_first {n : Int} {l : List Int} {X : Nat} (hg : IsG n l) (hX : X < 2 ^ l.length) (h0 : 0 < X) :
    nth (famR n l (leastB n l X)) 0 = ((leastL (rowN l) l.length X l.length : Nat) : Int) ∧ 0 < (famR n l (leastB n l X)).length := by
  have h7 : l.length ≤ 7 := by have := hg.2.1; have := hg.2.2.1; omega
  unfold famR
  rw [if_pos hg]
  have hsup := least_sup (rowN l) l.length X l.length
  refine fam_first (least_lt hX _) ?_ fun y hy => ?_
  · unfold leastB
    rw [Bool.and_eq_true, decide_eq_true_iff, decide_eq_true_iff]
    refine ⟨sub_and hsup, (modS_modF hg (least_lt hX _)).2 ⟨fun h => ?_, least_mod h7 hX h0⟩⟩
    have := sub_le hsup
    omega
  · cases hb : leastB n l X y with
    | false => rfl
    | true =>
      exfalso
      unfold leastB at hb
      rw [Bool.and_eq_true, decide_eq_true_iff, decide_eq_true_iff] at hb
      have hy2 : y < 2 ^ l.length := Nat.lt_trans hy (least_lt hX _)
      have := sub_le (least_in h7 hX ((modS_modF hg hy2).1 hb.2).2 (and_sub hb.1) l.length)
      omega

end Go.Proofs.Ytbmpljclplddeab
