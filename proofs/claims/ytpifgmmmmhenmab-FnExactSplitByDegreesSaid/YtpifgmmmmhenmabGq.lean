/- Plain facts: rows of bits, and graphs by their edges. -/
import Derived.Test.YtpifgmmmmhenmabGp
namespace Go.Proofs.Ytpifgmmmmhenmab
set_option linter.unusedVariables false
set_option linter.unusedSimpArgs false
open Go.RowKit

def rowV (p : Nat → Bool) : Nat → Int
  | 0 => 0
  | k + 1 => rowV p k + (if p k then 2 ^ k else 0)

theorem two_pos (k : Nat) : (0 : Int) < 2 ^ k := Int.pow_pos (by decide)

theorem two_succ (k : Nat) : (2 : Int) ^ (k + 1) = 2 * 2 ^ k := by rw [Int.pow_succ]; omega

theorem rowV_succ (p : Nat → Bool) (k : Nat) : rowV p (k + 1) = rowV p k + (if p k then 2 ^ k else 0) := rfl

theorem two_mono (n d : Nat) : (2 : Int) ^ n ≤ 2 ^ (n + d) := by
  induction d with
  | zero => exact Int.le_refl _
  | succ d ih =>
    have := two_pos (n + d)
    rw [← Nat.add_assoc, two_succ]
    omega

theorem rowV_bd (p : Nat → Bool) (n : Nat) : 0 ≤ rowV p n ∧ rowV p n < 2 ^ n := by
  induction n with
  | zero => simp [rowV]
  | succ k ih =>
    have := two_pos k
    rw [two_succ]
    unfold rowV
    split <;> omega

theorem bit_high (x : Int) (n j : Nat) (h0 : 0 ≤ x) (h : x < 2 ^ n) (hj : n ≤ j) : bitAt x j = 0 := by
  have hp : (2 : Int) ^ n ≤ 2 ^ j := by have := two_mono n (j - n); rwa [show n + (j - n) = j by omega] at this
  unfold bitAt
  rw [Int.ediv_eq_zero_of_lt h0 (by omega)]
  rfl

theorem bit_low (r b : Int) (n j : Nat) (hj : j < n) : bitAt (r + b * 2 ^ n) j = bitAt r j := by
  obtain ⟨d, rfl⟩ : ∃ d, n = j + (d + 1) := ⟨n - j - 1, by omega⟩
  unfold bitAt
  rw [Int.pow_add, two_succ, show r + b * (2 ^ j * (2 * 2 ^ d)) = r + (b * 2 ^ d * 2) * 2 ^ j by
    simp only [Int.mul_comm, Int.mul_left_comm], Int.add_mul_ediv_right _ _ (by have := two_pos j; omega)]
  omega

theorem bit_top (r b : Int) (n : Nat) (h0 : 0 ≤ r) (h1 : r < 2 ^ n) (hb : b = 0 ∨ b = 1) : bitAt (r + b * 2 ^ n) n = b := by
  unfold bitAt
  rw [Int.add_mul_ediv_right _ _ (by have := two_pos n; omega), Int.ediv_eq_zero_of_lt h0 h1]
  rcases hb with rfl | rfl <;> rfl

theorem rowV_bit (p : Nat → Bool) (n j : Nat) (hj : j < n) : bitAt (rowV p n) j = if p j then 1 else 0 := by
  induction n with
  | zero => omega
  | succ k ih =>
    have e : rowV p (k + 1) = rowV p k + (if p k then 1 else 0) * 2 ^ k := by rw [rowV_succ]; split <;> simp
    rw [e]
    rcases Nat.lt_or_ge j k with h | h
    · rw [bit_low _ _ _ _ h, ih h]
    · obtain rfl : j = k := by omega
      rw [bit_top _ _ _ (rowV_bd p j).1 (rowV_bd p j).2 (by split <;> simp)]

theorem rowV_congr (p q : Nat → Bool) (n : Nat) (h : ∀ j, j < n → p j = q j) : rowV p n = rowV q n := by
  induction n with
  | zero => rfl
  | succ k ih =>
    unfold rowV
    rw [ih fun j hj => h j (by omega), h k (by omega)]

theorem rowV_set (p : Nat → Bool) (n j : Nat) (hj : j < n) (hp : p j = false) : rowV (fun k => k == j || p k) n = rowV p n + 2 ^ j := by
  induction n with
  | zero => omega
  | succ k ih =>
    unfold rowV
    rcases Nat.lt_or_ge j k with h | h
    · rw [ih h, show (k == j) = false by simp; omega]
      simp only [Bool.false_or]
      omega
    · obtain rfl : j = k := by omega
      rw [rowV_congr (fun k => k == j || p k) p j fun i hi => by simp [show ¬ i = j by omega]]
      simp [hp]

theorem rowV_of (x : Int) (n : Nat) (h0 : 0 ≤ x) (h1 : x < 2 ^ n) : x = rowV (fun j => decide (bitAt x j = 1)) n := by
  induction n generalizing x with
  | zero => simp at h1; unfold rowV; omega
  | succ k ih =>
    have hk := two_pos k
    rw [two_succ] at h1
    have hd : x / 2 ^ k = 0 ∨ x / 2 ^ k = 1 := by
      have : 0 ≤ x / 2 ^ k := Int.ediv_nonneg h0 (by omega)
      have : x / 2 ^ k < 2 := Int.ediv_lt_of_lt_mul hk (by omega)
      omega
    have hx := Int.emod_add_mul_ediv x (2 ^ k)
    have hr0 := Int.emod_nonneg x (show (2 : Int) ^ k ≠ 0 by omega)
    have hr1 := Int.emod_lt_of_pos x hk
    have hi := ih (x % 2 ^ k) hr0 hr1
    have hxe : x = x % 2 ^ k + x / 2 ^ k * 2 ^ k := by rw [Int.mul_comm]; omega
    have hlow : ∀ j, j < k → decide (bitAt (x % 2 ^ k) j = 1) = decide (bitAt x j = 1) := fun j hj => by
      have : bitAt x j = bitAt (x % 2 ^ k) j := by
        have := bit_low (x % 2 ^ k) (x / 2 ^ k) k j hj
        rw [← hxe] at this
        exact this
      rw [this]
    have htop : bitAt x k = x / 2 ^ k := by
      have := bit_top (x % 2 ^ k) (x / 2 ^ k) k hr0 hr1 hd
      rw [← hxe] at this
      exact this
    unfold rowV
    rw [← rowV_congr _ _ k hlow, ← hi, htop]
    rcases hd with h | h <;> rw [h] at hxe ⊢ <;> simp <;> omega

/-- The rows of the graph of n vertices with the edges P. -/
def adjL (n : Nat) (P : Nat → Nat → Bool) : List Int := (List.range n).map fun i => rowV (P i) n

theorem adjL_length (n : Nat) (P : Nat → Nat → Bool) : (adjL n P).length = n := by simp [adjL]

theorem adjL_nth (n : Nat) (P : Nat → Nat → Bool) (i : Nat) (h : i < n) : nth (adjL n P) i = rowV (P i) n := by simp [nth, adjL, List.getD, h]

theorem adjL_congr (n : Nat) (P Q : Nat → Nat → Bool) (h : ∀ i, i < n → ∀ j, j < n → P i j = Q i j) : adjL n P = adjL n Q := by
  refine list_ext_nth (by simp [adjL_length]) fun i hi => ?_
  rw [adjL_length] at hi
  rw [adjL_nth n P i hi, adjL_nth n Q i hi, rowV_congr _ _ n (h i hi)]

theorem adjL_bit (n : Nat) (P : Nat → Nat → Bool) (i j : Nat) (hi : i < n) (hj : j < n) : bitAt (nth (adjL n P) i) j = if P i j then 1 else 0 := by
  rw [adjL_nth n P i hi, rowV_bit _ n j hj]

theorem ltpow_of (x : Int) (n : Nat) (h : x / 2 ^ n = 0) : x < 2 ^ n := by
  have h2 := Int.emod_lt_of_pos x (two_pos n)
  have h3 := Int.emod_add_mul_ediv x (2 ^ n)
  rw [h] at h3
  omega

theorem isG_adjL (n : Nat) (P : Nat → Nat → Bool) (h1 : 1 ≤ n) (h7 : n ≤ 7) (hd : ∀ i, i < n → P i i = false) (hs : ∀ i j, i < n → j < n → P i j = P j i) : IsG n (adjL n P) := by
  refine ⟨by omega, by omega, by simp [adjL_length], fun v hv => ?_⟩
  rw [adjL_length] at hv
  refine ⟨⟨?_, ?_, ?_⟩, fun w hw => ?_⟩
  · rw [adjL_nth n P v hv]; exact (rowV_bd _ n).1
  · rw [adjL_nth n P v hv, Int.toNat_natCast]; exact Int.ediv_eq_zero_of_lt (rowV_bd _ n).1 (rowV_bd _ n).2
  · rw [adjL_bit n P v v hv hv, hd v hv]; rfl
  · rw [adjL_length] at hw
    show bitAt _ _ = bitAt _ _
    rw [adjL_bit n P v w hv hw, adjL_bit n P w v hw hv, hs v w hv hw]

theorem adj_of_isG {n : Int} {l : List Int} (h : IsG n l) : l = adjL l.length fun i j => decide (bitAt (nth l i) j = 1) := by
  obtain ⟨h1, h7, hl, hr⟩ := h
  refine list_ext_nth (by simp [adjL_length]) fun i hi => ?_
  rw [adjL_nth _ _ i hi]
  have := (hr i hi).1
  refine rowV_of _ _ this.1 (ltpow_of _ _ ?_)
  have h2 := this.2.1
  rw [show n.toNat = l.length by omega] at h2
  exact h2

/-- All bits but those of x, and but the bit v. -/
theorem rowV_comp (p : Nat → Bool) (n v : Nat) (hv : v < n) (hp : p v = false) : rowV (fun j => !p j && decide (j ≠ v)) n = 2 ^ n - 1 - rowV p n - 2 ^ v := by
  obtain ⟨q, hq⟩ : ∃ q : Nat → Bool, q = fun j => !p j && decide (j ≠ v) := ⟨_, rfl⟩
  rw [← hq]
  have key : ∀ m, rowV q m + rowV p m + (if v < m then 2 ^ v else 0) = 2 ^ m - 1 := by
    intro m
    induction m with
    | zero => simp [rowV]
    | succ k ih =>
      rw [rowV_succ, rowV_succ, two_succ]
      by_cases h : k = v
      · have hqk : q k = false := by rw [hq]; simp [h]
        rw [hqk, if_pos (show v < k + 1 by omega)]
        rw [if_neg (show ¬ v < k by omega)] at ih
        subst h
        rw [hp]
        simp only [Bool.false_eq_true, if_false]
        omega
      · have hqk : q k = !p k := by rw [hq]; simp [h]
        have hvk : (if v < k + 1 then (2 : Int) ^ v else 0) = if v < k then 2 ^ v else 0 := by
          by_cases h2 : v < k
          · rw [if_pos h2, if_pos (by omega)]
          · rw [if_neg h2, if_neg (by omega)]
        rw [hqk, hvk]
        cases p k <;> simp only [Bool.not_true, Bool.not_false, Bool.false_eq_true, if_true, if_false] <;> omega
  have := key n
  rw [if_pos hv] at this
  omega

/-- A rule for the pairs i < j, as edges. -/
def symR (r : Nat → Nat → Bool) (i j : Nat) : Bool := if i < j then r i j else if j < i then r j i else false

theorem symR_self (r : Nat → Nat → Bool) (i : Nat) : symR r i i = false := by simp [symR]

theorem symR_comm (r : Nat → Nat → Bool) (i j : Nat) : symR r i j = symR r j i := by
  unfold symR
  rcases Nat.lt_trichotomy i j with h | h | h
  · rw [if_pos h, if_neg (by omega), if_pos h]
  · subst h; rfl
  · rw [if_neg (by omega), if_pos h, if_pos h]

/-- The pairs below k, and those of k below m. -/
def doneR (k m i j : Nat) : Bool := decide ((i < j ∧ (j < k ∨ j = k ∧ i < m)) ∨ (j < i ∧ (i < k ∨ i = k ∧ j < m)))

def partR (r : Nat → Nat → Bool) (k m i j : Nat) : Bool := symR r i j && doneR k m i j

theorem partR_no (r : Nat → Nat → Bool) (k m i j : Nat) (hr : r m k = false) (hm : m < k) : partR r k (m + 1) i j = partR r k m i j := by
  unfold partR
  by_cases h : (i = m ∧ j = k) ∨ (j = m ∧ i = k)
  · have : symR r i j = false := by
      rcases h with ⟨rfl, rfl⟩ | ⟨rfl, rfl⟩
      · unfold symR; rw [if_pos hm]; exact hr
      · rw [symR_comm]; unfold symR; rw [if_pos hm]; exact hr
    rw [this]; rfl
  · have : doneR k (m + 1) i j = doneR k m i j := by
      unfold doneR
      exact decide_eq_decide.2 (by omega)
    rw [this]

theorem partR_yes (r : Nat → Nat → Bool) (k m i j : Nat) (hr : r m k = true) (hm : m < k) : partR r k (m + 1) i j = (partR r k m i j || (i == m && j == k) || (i == k && j == m)) := by
  unfold partR
  by_cases h : (i = m ∧ j = k) ∨ (i = k ∧ j = m)
  · have h1 : symR r i j = true := by
      rcases h with ⟨rfl, rfl⟩ | ⟨rfl, rfl⟩
      · unfold symR; rw [if_pos hm]; exact hr
      · rw [symR_comm]; unfold symR; rw [if_pos hm]; exact hr
    have h2 : doneR k (m + 1) i j = true := by unfold doneR; exact decide_eq_true (by omega)
    rw [h1, h2]
    rcases h with ⟨rfl, rfl⟩ | ⟨rfl, rfl⟩ <;> simp
  · have h1 : doneR k (m + 1) i j = doneR k m i j := by
      unfold doneR
      exact decide_eq_decide.2 (by omega)
    have h2 : (i == m && j == k) = false := by simp; omega
    have h3 : (i == k && j == m) = false := by simp; omega
    rw [h1, h2, h3]
    simp

theorem partR_next (r : Nat → Nat → Bool) (k i j : Nat) : partR r k k i j = partR r (k + 1) 0 i j := by
  have h : doneR k k i j = doneR (k + 1) 0 i j := by
    unfold doneR
    exact decide_eq_decide.2 (by omega)
  unfold partR
  rw [h]

theorem partR_self (r : Nat → Nat → Bool) (k m i : Nat) : partR r k m i i = false := by simp [partR, symR_self]

theorem partR_comm (r : Nat → Nat → Bool) (k m i j : Nat) : partR r k m i j = partR r k m j i := by
  have h : doneR k m i j = doneR k m j i := by
    unfold doneR
    exact decide_eq_decide.2 (by omega)
  unfold partR
  rw [symR_comm, h]

theorem partR_open (r : Nat → Nat → Bool) (k m : Nat) : partR r k m m k = false := by
  unfold partR doneR
  rw [decide_eq_false (by omega)]
  simp

theorem partR_all (r : Nat → Nat → Bool) (n i j : Nat) (hi : i < n) (hj : j < n) : partR r n 0 i j = symR r i j := by
  unfold partR
  by_cases h : i = j
  · subst h; rw [symR_self]; rfl
  · rw [show doneR n 0 i j = true by unfold doneR; exact decide_eq_true (by omega)]
    simp

theorem partR_none (r : Nat → Nat → Bool) (i j : Nat) : partR r 0 0 i j = false := by
  unfold partR doneR
  rw [decide_eq_false (by omega)]
  simp

theorem rowV_none (n : Nat) : rowV (fun _ => false) n = 0 := by
  induction n with
  | zero => rfl
  | succ k ih => rw [rowV_succ, ih]; rfl

end Go.Proofs.Ytpifgmmmmhenmab
