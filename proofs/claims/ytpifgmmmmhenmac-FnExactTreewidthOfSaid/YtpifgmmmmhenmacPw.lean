/- The least width over all orders: plain facts. -/
import Derived.Test.YtpifgmmmmhenmacB
namespace Go.Proofs.Ytpifgmmmmhenmac
set_option linter.unusedVariables false
set_option linter.unusedSimpArgs false
open Go.RowKit

/-- The least of some numbers: 0 where there are none. -/
def leastF (f : Nat → Int) : List Nat → Int
  | [] => 0
  | v :: t => t.foldl (fun a u => if f u < a then f u else a) (f v)

theorem leastF_snoc (f : Nat → Int) (pre : List Nat) (u : Nat) : leastF f (pre ++ [u]) = if pre = [] then f u else if f u < leastF f pre then f u else leastF f pre := by
  cases pre with
  | nil => rfl
  | cons v t =>
    rw [if_neg (by simp)]
    show List.foldl _ _ (t ++ [u]) = _
    rw [List.foldl_append]
    rfl

theorem least_fold (f : Nat → Int) (lo hi : Int) : ∀ (t : List Nat) (a : Int), (lo ≤ a ∧ a ≤ hi) → (∀ v ∈ t, lo ≤ f v ∧ f v ≤ hi) → lo ≤ t.foldl (fun a u => if f u < a then f u else a) a ∧ t.foldl (fun a u => if f u < a then f u else a) a ≤ hi
  | [], a, ha, _ => ha
  | v :: t, a, ha, h => by
    have hv := h v (by simp)
    exact least_fold f lo hi t _ (by dsimp only; split <;> omega) fun u hu => h u (by simp [hu])

theorem leastF_bd {f : Nat → Int} {hi : Int} {vs : List Nat} (h0 : 0 ≤ hi) (h : ∀ v ∈ vs, 0 ≤ f v ∧ f v ≤ hi) : 0 ≤ leastF f vs ∧ leastF f vs ≤ hi := by
  cases vs with
  | nil => exact ⟨by simp [leastF], by simpa [leastF] using h0⟩
  | cons v t => exact least_fold f 0 hi t _ (h v (by simp)) fun u hu => h u (by simp [hu])

theorem leastF_congr {f g : Nat → Int} {vs : List Nat} (h : ∀ v ∈ vs, f v = g v) : leastF f vs = leastF g vs := by
  cases vs with
  | nil => rfl
  | cons v t =>
    have key : ∀ (t : List Nat) (a : Int), (∀ u ∈ t, f u = g u) → t.foldl (fun a u => if f u < a then f u else a) a = t.foldl (fun a u => if g u < a then g u else a) a := by
      intro t
      induction t with
      | nil => intro a _; rfl
      | cons u t ih =>
        intro a hu
        simp only [List.foldl_cons]
        rw [hu u (by simp)]
        exact ih _ fun x hx => hu x (by simp [hx])
    show t.foldl _ (f v) = t.foldl _ (g v)
    rw [h v (by simp)]
    exact key t _ fun u hu => h u (by simp [hu])

/-- The least of some numbers and of N. -/
def least0 (f : Nat → Int) (N : Int) (vs : List Nat) : Int := vs.foldl (fun a u => if a < f u then a else f u) N

theorem least0_snoc (f : Nat → Int) (N : Int) (vs : List Nat) (u : Nat) : least0 f N (vs ++ [u]) = if least0 f N vs < f u then least0 f N vs else f u := by
  unfold least0
  rw [List.foldl_append]
  rfl

theorem fold_same0 (f : Nat → Int) : ∀ (t : List Nat) (a : Int), t.foldl (fun a u => if a < f u then a else f u) a = t.foldl (fun a u => if f u < a then f u else a) a
  | [], _ => rfl
  | u :: t, a => by
    simp only [List.foldl_cons]
    have : (if a < f u then a else f u) = (if f u < a then f u else a) := by split <;> split <;> omega
    rw [this]
    exact fold_same0 f t _

theorem least0_is {f : Nat → Int} {N : Int} {vs : List Nat} (hv : vs ≠ []) (h : ∀ v ∈ vs, f v ≤ N) : least0 f N vs = leastF f vs := by
  cases vs with
  | nil => exact absurd rfl hv
  | cons v t =>
    unfold least0 leastF
    rw [fold_same0, List.foldl_cons]
    have := h v (by simp)
    have e : (if f v < N then f v else N) = f v := by split <;> omega
    rw [e]

def maxI (a b : Int) : Int := if a < b then b else a

theorem max_fold (f : Nat → Int) (d : Int) : ∀ (t : List Nat) (a : Int), maxI (t.foldl (fun a u => if f u < a then f u else a) a) d = t.foldl (fun a u => if maxI (f u) d < a then maxI (f u) d else a) (maxI a d)
  | [], _ => rfl
  | u :: t, a => by
    simp only [List.foldl_cons]
    rw [max_fold f d t]
    congr 1
    unfold maxI
    repeat (first | omega | split)

/-- The greater of the least and d is the least of the greater ones. -/
theorem leastF_max {f : Nat → Int} {d : Int} {vs : List Nat} (hv : vs ≠ []) : maxI (leastF f vs) d = leastF (fun v => maxI (f v) d) vs := by
  cases vs with
  | nil => exact absurd rfl hv
  | cons v t => exact max_fold f d t (f v)

/-- The widths of the first k sets. -/
def tabW (c : Nat → Nat → Int) : Nat → List Int
  | 0 => []
  | k + 1 => tabW c k ++ [leastF (fun v => maxI (nth (tabW c k) (k - 2 ^ v)) (c (k - 2 ^ v) v)) (memN k)]

def nextW (c : Nat → Nat → Int) (k : Nat) : Int := leastF (fun v => maxI (nth (tabW c k) (k - 2 ^ v)) (c (k - 2 ^ v) v)) (memN k)

theorem tabW_succ (c : Nat → Nat → Int) (k : Nat) : tabW c (k + 1) = tabW c k ++ [nextW c k] := rfl

theorem tabW_length (c : Nat → Nat → Int) : ∀ k, (tabW c k).length = k
  | 0 => rfl
  | k + 1 => by rw [tabW_succ, List.length_append, tabW_length c k]; rfl

theorem bit_le {X v : Nat} (h : X.testBit v = true) : 2 ^ v ≤ X := Nat.ge_two_pow_of_testBit h

theorem tabW_at (c : Nat → Nat → Int) {j k : Nat} (h : j < k) : nth (tabW c k) j = nextW c j := by
  induction k with
  | zero => omega
  | succ k ih =>
    rw [tabW_succ]
    rcases Nat.lt_or_ge j k with h' | h'
    · rw [nth_append_lt _ _ _ (by rw [tabW_length]; exact h')]
      exact ih h'
    · obtain rfl : j = k := by omega
      have := nth_append_len (tabW c j) (nextW c j)
      rw [tabW_length] at this
      exact this

theorem nextW_bd {c : Nat → Nat → Int} {N : Int} {F : Nat} (h0 : 0 ≤ N) (hc : ∀ b v, b + 2 ^ v < F → b.testBit v = false → 0 ≤ c b v ∧ c b v ≤ N) : ∀ k, k < F → 0 ≤ nextW c k ∧ nextW c k ≤ N := by
  intro k
  induction k using Nat.strongRecOn with
  | _ k ih =>
    intro hk
    refine leastF_bd h0 fun v hv => ?_
    have hb := (mem_memN hv).2
    have hp := bit_le hb
    have hp0 : 0 < 2 ^ v := Nat.pow_pos (by decide)
    rw [tabW_at c (show k - 2 ^ v < k by omega)]
    have h1 := ih (k - 2 ^ v) (by omega) (by omega)
    have h2 : (k - 2 ^ v).testBit v = false := by
      have h3 : k = 2 ^ v + (k - 2 ^ v) := by omega
      rw [h3, Nat.testBit_two_pow_add_eq] at hb
      simpa using hb
    have h4 := hc (k - 2 ^ v) v (by omega) h2
    unfold maxI
    split <;> omega

theorem memN_ne {k : Nat} (h0 : 0 < k) (h7 : k < 128) : memN k ≠ [] := by
  have h : ∀ k : Fin 128, 0 < k.val → memN k.val ≠ [] := by decide +kernel
  exact h ⟨k, h7⟩ h0

/-- A table that holds the same at all places below k. -/
theorem tabW_same {c : Nat → Nat → Int} {l : List Int} {k : Nat} (h : l = tabW c k) {j : Nat} (hj : j < k) : nth l j = nextW c j := by rw [h]; exact tabW_at c hj

end Go.Proofs.Ytpifgmmmmhenmac
