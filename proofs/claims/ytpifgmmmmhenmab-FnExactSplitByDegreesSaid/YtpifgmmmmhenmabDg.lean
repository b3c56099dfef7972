/- Degrees in a row, the greatest first: plain facts. -/
import Derived.Test.YtpifgmmmmhenmabTp
namespace Go.Proofs.Ytpifgmmmmhenmab
set_option linter.unusedVariables false
set_option linter.unusedSimpArgs false
open Go.RowKit

/-- One exchange of neighbours, the lesser ahead of the greater. -/
def swpL (L : List Int) (i : Nat) : List Int := if nth L i < nth L (i + 1) then (L.set i (nth L (i + 1))).set (i + 1) (nth L i) else L

def pasL (L : List Int) : Nat → List Int
  | 0 => L
  | k + 1 => swpL (pasL L k) k

theorem swp_length (L : List Int) (i : Nat) : (swpL L i).length = L.length := by
  unfold swpL
  split <;> simp

theorem pas_length (L : List Int) : ∀ k, (pasL L k).length = L.length
  | 0 => rfl
  | k + 1 => by
    show (swpL (pasL L k) k).length = _
    rw [swp_length, pas_length L k]

theorem swp_perm {L : List Int} {i : Nat} (h : i + 1 < L.length) : (swpL L i).Perm L := by
  unfold swpL
  split
  · have h1 : i < L.length := by omega
    have e1 : nth L i = L[i] := by simp [nth, List.getD, h1]
    have e2 : nth L (i + 1) = L[i + 1] := by simp [nth, List.getD, h]
    rw [e1, e2]
    exact List.set_set_perm h1 h
  · exact List.Perm.refl _

theorem pas_perm {L : List Int} (h : L.length = 7) : ∀ k, k ≤ 6 → (pasL L k).Perm L
  | 0, _ => List.Perm.refl _
  | k + 1, hk => (swp_perm (by rw [pas_length]; omega)).trans (pas_perm h k (by omega))

/-- What an exchange lessens. -/
def potL (L : List Int) : Int := nth L 1 + 2 * nth L 2 + 3 * nth L 3 + 4 * nth L 4 + 5 * nth L 5 + 6 * nth L 6

theorem swp_pot {L : List Int} (h : L.length = 7) {i : Nat} (hi : i < 6) : potL (swpL L i) ≤ potL L ∧ (nth L i < nth L (i + 1) → potL (swpL L i) < potL L) := by
  unfold swpL
  split
  · rename_i hlt
    have key : ∀ j, nth ((L.set i (nth L (i + 1))).set (i + 1) (nth L i)) j = if j = i + 1 then nth L i else if j = i then nth L (i + 1) else nth L j := fun j => by
      rw [nth_set _ _ _ _ (by simp; omega), nth_set _ _ _ _ (by omega)]
    unfold potL
    simp only [key]
    have : i = 0 ∨ i = 1 ∨ i = 2 ∨ i = 3 ∨ i = 4 ∨ i = 5 := by omega
    rcases this with rfl | rfl | rfl | rfl | rfl | rfl <;> simp at hlt ⊢ <;> omega
  · rename_i hlt
    exact ⟨Int.le_refl _, fun h => absurd h hlt⟩

theorem pas_pot {L : List Int} (h : L.length = 7) : ∀ k, k ≤ 6 → potL (pasL L k) ≤ potL L ∧ (potL (pasL L k) = potL L → pasL L k = L ∧ ∀ i, i < k → nth L (i + 1) ≤ nth L i)
  | 0, _ => ⟨Int.le_refl _, fun _ => ⟨rfl, fun i hi => absurd hi (by omega)⟩⟩
  | k + 1, hk => by
    obtain ⟨h1, h2⟩ := pas_pot h k (by omega)
    obtain ⟨h3, h4⟩ := swp_pot (L := pasL L k) (by rw [pas_length]; exact h) (show k < 6 by omega)
    refine ⟨Int.le_trans h3 h1, fun e => ?_⟩
    have e' : potL (swpL (pasL L k) k) = potL L := e
    obtain ⟨e1, e2⟩ := h2 (by omega)
    rw [e1] at h3 h4 e'
    have h5 : ¬ nth L k < nth L (k + 1) := fun h => by have := h4 h; omega
    refine ⟨?_, fun i hi => ?_⟩
    · show swpL (pasL L k) k = L
      rw [e1]
      unfold swpL
      rw [if_neg h5]
    · rcases Nat.lt_or_ge i k with h' | h'
      · exact e2 i h'
      · obtain rfl : i = k := by omega
        omega

/-- A pass that changes nothing: the list is in order. -/
theorem pas_same {L : List Int} (h : L.length = 7) (e : pasL L 6 = L) : L.Pairwise (· ≥ ·) := by
  have h2 := ((pas_pot h 6 (by omega)).2 (by rw [e])).2
  rw [List.pairwise_iff_getElem]
  intro i j hi hj hij
  have key : ∀ d i, i + d < 7 → nth L (i + d) ≤ nth L i := by
    intro d
    induction d with
    | zero => intro i _; exact Int.le_refl _
    | succ d ih =>
      intro i hid
      have := ih i (by omega)
      have := h2 (i + d) (by omega)
      show nth L (i + d + 1) ≤ nth L i
      omega
  have := key (j - i) i (by omega)
  rw [show i + (j - i) = j by omega] at this
  have e1 : nth L i = L[i] := by simp [nth, List.getD, hi]
  have e2 : nth L j = L[j] := by simp [nth, List.getD, hj]
  rw [← e1, ← e2]
  exact this

/-- A pass that changes something lessens what exchanges lessen. -/
theorem pas_less {L : List Int} (h : L.length = 7) (e : pasL L 6 ≠ L) : potL (pasL L 6) < potL L := by
  obtain ⟨h1, h2⟩ := pas_pot h 6 (by omega)
  rcases Int.lt_or_le (potL (pasL L 6)) (potL L) with h' | h'
  · exact h'
  · exact absurd (h2 (by omega)).1 e

theorem pot_bd {L : List Int} (h : ∀ x ∈ L, 0 ≤ x) : 0 ≤ potL L := by
  have key : ∀ j, 0 ≤ nth L j := fun j => by
    rcases Nat.lt_or_ge j L.length with h' | h'
    · exact h _ (nth_mem L j h')
    · simp [nth, List.getD, h']
  unfold potL
  have := key 1; have := key 2; have := key 3; have := key 4; have := key 5; have := key 6
  omega

/-- The list in order, the greatest first; the noughts behind it. -/
theorem desc_is {L D : List Int} {m : Nat} (h0 : ∀ x ∈ L, 0 ≤ x) (hs : D.Pairwise (· ≥ ·)) (hp : D.Perm (L ++ List.replicate m 0)) : D = (sortL L).reverse ++ List.replicate m 0 := by
  have e1 : D.reverse = sortL (L ++ List.replicate m 0) := by
    refine sorted_is ?_ ((List.reverse_perm D).trans hp)
    unfold SortedL
    rw [List.pairwise_reverse]
    exact hs.imp fun h => h
  have e2 : List.replicate m 0 ++ sortL L = sortL (L ++ List.replicate m 0) := by
    refine sorted_is ?_ ?_
    · unfold SortedL
      rw [List.pairwise_append]
      refine ⟨by simp [List.pairwise_replicate], sortL_sorted L, fun a ha b hb => ?_⟩
      rw [List.eq_of_mem_replicate ha]
      exact h0 b ((sortL_perm L).mem_iff.1 hb)
    · exact (List.perm_append_comm).trans ((sortL_perm L).append_right _)
  rw [← e2] at e1
  have := congrArg List.reverse e1
  rw [List.reverse_reverse, List.reverse_append, List.reverse_replicate] at this
  exact this

end Go.Proofs.Ytpifgmmmmhenmab
