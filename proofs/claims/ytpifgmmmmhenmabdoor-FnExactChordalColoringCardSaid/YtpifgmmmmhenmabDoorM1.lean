/- Orders: each vertex once, and what is left when some are taken away; plain facts. -/
import Derived.Test.YtpifgmmmmhenmabDoorO1
namespace Go.Proofs.YtpifgmmmmhenmabDoor
set_option linter.unusedVariables false
set_option linter.unusedSimpArgs false
open Go.RowKit

theorem setOf_cons {x : Int} {t : List Int} {s0 s : Int} (h : setOf (x :: t) s0 = some s) : 0 ≤ x ∧ x ≤ 6 ∧ bitAt s0 x.toNat = 0 ∧ setOf t (s0 + 2 ^ x.toNat) = some s := by
  have h3 : setOf (x :: t) s0 = if 0 ≤ x ∧ x ≤ 6 ∧ bitAt s0 x.toNat = 0 then setOf t (s0 + 2 ^ x.toNat) else none := rfl
  by_cases hx : 0 ≤ x ∧ x ≤ 6 ∧ bitAt s0 x.toNat = 0
  · rw [h3, if_pos hx] at h
    exact ⟨hx.1, hx.2.1, hx.2.2, h⟩
  · rw [h3, if_neg hx] at h
    cases h

theorem setOf_fresh (l : List Int) : ∀ (s0 s : Int), 0 ≤ s0 → s0 < 128 → setOf l s0 = some s → ∀ i, i < l.length → bitAt s0 (kl l i) = 0 := by
  induction l with
  | nil => intro s0 s _ _ _ i hi; simp at hi
  | cons x t ih =>
    intro s0 s h0 h1 h i hi
    obtain ⟨a, b, c, d⟩ := setOf_cons h
    have hj : x.toNat < 7 := by omega
    have h4 := (set_small s0 x.toNat h0 h1 hj c).2
    have h5 : (0 : Int) < 2 ^ x.toNat := Int.pow_pos (by decide)
    cases i with
    | zero => exact c
    | succ i =>
      have hi' : i < t.length := by simpa using hi
      have h6 := ih _ _ (by omega) h4 d i hi'
      have h7 := (setOf_bits t _ s (by omega) h4 d).2.2.2 i hi'
      rw [bit_more s0 x.toNat (kl t i) h0 h1 hj (by unfold kl; omega) c] at h6
      show bitAt s0 (kl t i) = 0
      split at h6
      · exact absurd h6 (by decide)
      · exact h6

theorem setOf_inj (l : List Int) : ∀ (s0 s : Int), 0 ≤ s0 → s0 < 128 → setOf l s0 = some s → ∀ i j, i < j → j < l.length → kl l i ≠ kl l j := by
  induction l with
  | nil => intro s0 s _ _ _ i j _ hj; simp at hj
  | cons x t ih =>
    intro s0 s h0 h1 h i j hij hjl
    obtain ⟨a, b, c, d⟩ := setOf_cons h
    have hj : x.toNat < 7 := by omega
    have h4 := (set_small s0 x.toNat h0 h1 hj c).2
    have h5 : (0 : Int) < 2 ^ x.toNat := Int.pow_pos (by decide)
    obtain ⟨j, rfl⟩ : ∃ k, j = k + 1 := ⟨j - 1, by omega⟩
    have hjl' : j < t.length := by simpa using hjl
    cases i with
    | zero =>
      intro he
      have h6 := setOf_fresh t _ s (by omega) h4 d j hjl'
      have he' : x.toNat = kl t j := he
      rw [← he', bit_more s0 x.toNat x.toNat h0 h1 hj hj c, if_pos rfl] at h6
      exact absurd h6 (by decide)
    | succ i => exact ih _ _ (by omega) h4 d i j (by omega) hjl'

theorem setOf_only (l : List Int) : ∀ (s0 s : Int), 0 ≤ s0 → s0 < 128 → setOf l s0 = some s → ∀ k, k < 7 → bitAt s k = 1 → bitAt s0 k = 1 ∨ ∃ i, i < l.length ∧ kl l i = k := by
  induction l with
  | nil =>
    intro s0 s _ _ h k _ hb
    have : s0 = s := by simpa [setOf] using h
    subst this
    exact .inl hb
  | cons x t ih =>
    intro s0 s h0 h1 h k hk hb
    obtain ⟨a, b, c, d⟩ := setOf_cons h
    have hj : x.toNat < 7 := by omega
    have h4 := (set_small s0 x.toNat h0 h1 hj c).2
    have h5 : (0 : Int) < 2 ^ x.toNat := Int.pow_pos (by decide)
    rcases ih _ _ (by omega) h4 d k hk hb with h6 | ⟨i, hi, he⟩
    · rw [bit_more s0 x.toNat k h0 h1 hj hk c] at h6
      split at h6
      · rename_i hkx
        exact .inr ⟨0, by simp, hkx.symm⟩
      · exact .inl h6
    · exact .inr ⟨i + 1, by simpa using hi, he⟩

theorem Dist.inj {n : Int} {lg l : List Int} (h : Dist n lg l) {i j : Nat} (hi : i < l.length) (hj : j < l.length) (he : kl l i = kl l j) : i = j := by
  obtain ⟨s, h1, -⟩ := h
  rcases Nat.lt_trichotomy i j with h' | h' | h'
  · exact absurd he (setOf_inj l 0 s (by omega) (by omega) h1 i j h' hj)
  · exact h'
  · exact absurd he.symm (setOf_inj l 0 s (by omega) (by omega) h1 j i h' hi)

theorem full_bit (m k : Nat) (hm : m ≤ 7) (hk : k < m) : bitAt (2 ^ m - 1) k = 1 := by
  have : ∀ (m : Fin 8) (k : Fin 8), k.val < m.val → bitAt (2 ^ m.val - 1) k.val = 1 := by decide +kernel
  exact this ⟨m, by omega⟩ ⟨k, by omega⟩ hk

theorem OrdP.graph {n : Int} {lg l : List Int} (h : OrdP n lg l) : IsG n lg := h.1.graph

theorem OrdP.len {n : Int} {lg l : List Int} (h : OrdP n lg l) : l.length = lg.length ∧ lg.length ≤ 7 ∧ n = (lg.length : Int) := by
  have h1 := h.graph
  have := h.2
  have := h1.2.2.1
  have := h1.2.1
  omega

theorem OrdP.surj {n : Int} {lg l : List Int} (h : OrdP n lg l) {v : Nat} (hv : v < lg.length) : ∃ i, i < l.length ∧ kl l i = v := by
  obtain ⟨h1, h2, h3⟩ := h.len
  obtain ⟨s, hs, hS⟩ := h.1
  have h4 := (ord_iff hs h.graph).2 h
  have h5 : n.toNat = lg.length := by omega
  rw [h5] at h4
  have h6 := full_bit lg.length v h2 hv
  rw [← h4] at h6
  rcases setOf_only l 0 s (by omega) (by omega) hs v (by omega) h6 with h7 | h7
  · have : ∀ v : Fin 7, ¬ bitAt 0 v.val = 1 := by decide
    exact absurd h7 (this ⟨v, by omega⟩)
  · exact h7

/-- Some vertices taken away. -/
def outN (X : Nat) (ks : List Nat) : Nat := ks.foldl (fun a k => if a.testBit k then a - 2 ^ k else a) X

theorem outN_snoc (X : Nat) (ks : List Nat) (k : Nat) : outN X (ks ++ [k]) = if (outN X ks).testBit k then outN X ks - 2 ^ k else outN X ks := by
  unfold outN
  rw [List.foldl_append]
  rfl

theorem out_step (X k : Nat) (hX : X < 128) (hk : k < 7) : (if X.testBit k then X - 2 ^ k else X) < 128 ∧ bits .andNot .i64 (X : Int) (2 ^ k) = (((if X.testBit k then X - 2 ^ k else X) : Nat) : Int) := by
  have : ∀ (X : Fin 128) (k : Fin 7), (if X.val.testBit k.val then X.val - 2 ^ k.val else X.val) < 128 ∧ bits .andNot .i64 ((X.val : Nat) : Int) (2 ^ k.val) = (((if X.val.testBit k.val then X.val - 2 ^ k.val else X.val) : Nat) : Int) := by decide +kernel
  exact this ⟨X, hX⟩ ⟨k, hk⟩

theorem out_bit1 (X k i : Nat) (hX : X < 128) (hk : k < 7) (hi : i < 7) : (if X.testBit k then X - 2 ^ k else X).testBit i = (X.testBit i && !(i == k)) := by
  have : ∀ (X : Fin 128) (k i : Fin 7), (if X.val.testBit k.val then X.val - 2 ^ k.val else X.val).testBit i.val = (X.val.testBit i.val && !(i.val == k.val)) := by decide +kernel
  exact this ⟨X, hX⟩ ⟨k, hk⟩ ⟨i, hi⟩

theorem outN_lt (ks : List Nat) : ∀ (X : Nat), X < 128 → (∀ k ∈ ks, k < 7) → outN X ks < 128 := by
  induction ks with
  | nil => intro X hX _; exact hX
  | cons k t ih =>
    intro X hX hk
    exact ih _ (out_step X k hX (hk k (by simp))).1 fun j hj => hk j (by simp [hj])

theorem outN_bit (ks : List Nat) : ∀ (X i : Nat), X < 128 → (∀ k ∈ ks, k < 7) → i < 7 → ((outN X ks).testBit i = true ↔ X.testBit i = true ∧ i ∉ ks) := by
  induction ks with
  | nil => intro X i _ _ _; simp [outN]
  | cons k t ih =>
    intro X i hX hk hi
    show (outN (if X.testBit k then X - 2 ^ k else X) t).testBit i = true ↔ _
    rw [ih _ i (out_step X k hX (hk k (by simp))).1 (fun j hj => hk j (by simp [hj])) hi, out_bit1 X k i hX (hk k (by simp)) hi]
    simp only [Bool.and_eq_true, Bool.not_eq_true', beq_eq_false_iff_ne, List.mem_cons, not_or]
    exact ⟨fun ⟨⟨a, b⟩, c⟩ => ⟨a, b, c⟩, fun ⟨a, b, c⟩ => ⟨⟨a, b⟩, c⟩⟩

theorem hi_bit {X : Nat} (hX : X < 128) {i : Nat} (hi : X.testBit i = true) : i < 7 := bit_lt (n := 7) hX hi

theorem eq_of_bits7 {X Y : Nat} (hX : X < 128) (hY : Y < 128) (h : ∀ i, i < 7 → (X.testBit i = true ↔ Y.testBit i = true)) : X = Y :=
  eq_of_bits fun i => ⟨fun hi => (h i (hi_bit hX hi)).1 hi, fun hi => (h i (hi_bit hY hi)).2 hi⟩

/-- The first i of an order, as numbers. -/
def kpre (l : List Int) (i : Nat) : List Nat := (List.range i).map (kl l)

theorem kpre_succ (l : List Int) (i : Nat) : kpre l (i + 1) = kpre l i ++ [kl l i] := by simp [kpre, List.range_succ]

theorem kpre_mem {l : List Int} {i k : Nat} : k ∈ kpre l i ↔ ∃ j, j < i ∧ kl l j = k := by simp [kpre]

theorem kpre_lt {n : Int} {lg l : List Int} (h : Dist n lg l) {i : Nat} (hi : i ≤ l.length) : ∀ k ∈ kpre l i, k < 7 := fun k hk => by
  obtain ⟨j, hj, rfl⟩ := kpre_mem.1 hk
  exact (h.at (by omega)).2.2

/-- Those of a row that do not stand among the first i. -/
def lateN (lg l : List Int) (v i : Nat) : Nat := outN (rowN lg v) (kpre l i)

theorem late_and {n : Int} {lg l : List Int} (h : Dist n lg l) (hm : lg.length ≤ 7) {v i : Nat} (hv : v < lg.length) (hi : i ≤ l.length) : rowN lg v &&& outN (2 ^ lg.length - 1) (kpre l i) = lateN lg l v i := by
  have h1 := (h.graph.row_lt v hv).1
  have h2 := two_le _ hm
  have h3 : 0 < 2 ^ lg.length := Nat.pow_pos (by decide)
  have h4 : rowN lg v < 128 := by omega
  have h5 := kpre_lt h hi
  have h6 : rowN lg v &&& outN (2 ^ lg.length - 1) (kpre l i) < 128 := Nat.lt_of_le_of_lt Nat.and_le_left h4
  refine eq_of_bits7 h6 (outN_lt _ _ h4 h5) fun k hk => ?_
  unfold lateN
  rw [Nat.testBit_and, Bool.and_eq_true, outN_bit _ _ _ (by omega) h5 hk, outN_bit _ _ _ h4 h5 hk, Nat.testBit_two_pow_sub_one]
  refine ⟨fun ⟨a, b, c⟩ => ⟨a, c⟩, fun ⟨a, c⟩ => ⟨a, ?_, c⟩⟩
  have := bit_lt h1 a
  simpa using this

/-- One more taken away: it was there. -/
theorem out_fresh {n : Int} {lg l : List Int} (h : Dist n lg l) (hm : lg.length ≤ 7) {i : Nat} (hi : i < l.length) : (outN (2 ^ lg.length - 1) (kpre l (i + 1)) : Int) = (outN (2 ^ lg.length - 1) (kpre l i) : Int) - 2 ^ kl l i ∧ outN (2 ^ lg.length - 1) (kpre l i) < 128 ∧ 2 ^ kl l i ≤ outN (2 ^ lg.length - 1) (kpre l i) := by
  have h2 := two_le _ hm
  have h3 : 0 < 2 ^ lg.length := Nat.pow_pos (by decide)
  have h5 := kpre_lt h (Nat.le_of_lt hi)
  have hk := h.at hi
  have h6 := outN_lt (kpre l i) (2 ^ lg.length - 1) (by omega) h5
  have hb : (outN (2 ^ lg.length - 1) (kpre l i)).testBit (kl l i) = true := by
    rw [outN_bit _ _ _ (by omega) h5 hk.2.2, Nat.testBit_two_pow_sub_one]
    refine ⟨by simpa using hk.2.1, fun hmem => ?_⟩
    obtain ⟨j, hj, he⟩ := kpre_mem.1 hmem
    have := h.inj (by omega) hi he
    omega
  have h7 : 2 ^ kl l i ≤ outN (2 ^ lg.length - 1) (kpre l i) := Nat.ge_two_pow_of_testBit hb
  refine ⟨?_, h6, h7⟩
  rw [kpre_succ, outN_snoc, if_pos hb]
  have h8 : ((2 ^ kl l i : Nat) : Int) = (2 : Int) ^ kl l i := by push_cast; rfl
  omega

/-- The neighbours of v that stand behind it. -/
def laterR (n : Int) (lg l : List Int) (v : Int) : Int := if OrdP n lg l ∧ 0 ≤ v ∧ v < n then ((lateN lg l v.toNat (l.idxOf v) : Nat) : Int) else 0

theorem idx_at {n : Int} {lg l : List Int} (h : Dist n lg l) {i : Nat} (hi : i < l.length) : l.idxOf (nth l i) = i := by
  have h1 : l.idxOf (nth l i) < l.length := List.idxOf_lt_length_of_mem (nth_mem l i hi)
  have h4 : ∀ j (hj : j < l.length), nth l j = l[j] := fun j hj => by simp [nth, List.getD, hj]
  have h2 : nth l (l.idxOf (nth l i)) = nth l i := (h4 _ h1).trans (List.getElem_idxOf h1)
  exact h.inj h1 hi (by unfold kl; rw [h2])

theorem laterR_at {n : Int} {lg l : List Int} (h : OrdP n lg l) {i : Nat} (hi : i < l.length) : laterR n lg l (nth l i) = ((lateN lg l (kl l i) i : Nat) : Int) := by
  have h1 := h.1.at hi
  obtain ⟨h2, h3, h4⟩ := h.len
  unfold laterR
  rw [if_pos ⟨h, by omega, by omega⟩, idx_at h.1 hi]
  rfl

theorem late_lt {n : Int} {lg l : List Int} (h : Dist n lg l) (hm : lg.length ≤ 7) {v i : Nat} (hv : v < lg.length) (hi : i ≤ l.length) : lateN lg l v i < 128 := by
  have h1 := (h.graph.row_lt v hv).1
  have h2 := two_le _ hm
  exact outN_lt _ _ (by omega) (kpre_lt h hi)

end Go.Proofs.YtpifgmmmmhenmabDoor
