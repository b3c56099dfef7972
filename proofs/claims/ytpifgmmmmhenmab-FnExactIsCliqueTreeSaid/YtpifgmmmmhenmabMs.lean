/- Maximal cliques: sorted. -/
import Derived.Test.YtpifgmmmmhenmabMq
import Derived.Test.YtpifgmmmmhenmabTp
namespace Go.Proofs.Ytpifgmmmmhenmab
set_option linter.unusedVariables false
set_option linter.unusedSimpArgs false
open Go.RowKit

theorem maxK_sorted (n : Int) (l : List Int) : ∀ k, SortedL (maxK n l k) ∧ (∀ x ∈ maxK n l k, x < (k : Int)) ∧ (maxK n l k).Nodup
  | 0 => ⟨by unfold SortedL; simp [maxK], by simp [maxK], by simp [maxK]⟩
  | k + 1 => by
    obtain ⟨h1, h2, h3⟩ := maxK_sorted n l k
    have e : maxK n l (k + 1) = maxK n l k ++ (if maxB n l k = true then [(k : Int)] else []) := by
      unfold maxK
      rw [List.range_succ, List.filter_append, List.map_append]
      by_cases h : maxB n l k = true
      · simp [h]
      · simp [h]
    rw [e]
    split
    · refine ⟨?_, fun x hx => ?_, ?_⟩
      · unfold SortedL at h1 ⊢
        refine List.pairwise_append.2 ⟨h1, by simp, fun a ha b hb => ?_⟩
        simp at hb
        have := h2 a ha
        omega
      · rcases List.mem_append.1 hx with hx | hx
        · have := h2 x hx; omega
        · simp at hx; omega
      · refine List.nodup_append.2 ⟨h3, by simp, fun a ha b hb => ?_⟩
        simp at hb
        have := h2 a ha
        omega
    · rw [List.append_nil]
      exact ⟨h1, fun x hx => by have := h2 x hx; omega, h3⟩

/-- What was collected, sorted. -/
theorem sort_max {n : Int} {l M : List Int} (hg : IsG n l) (hd : M.Nodup) (hm : ∀ x : Int, x ∈ M ↔ ∃ X : Nat, x = (X : Int) ∧ MaxC l X) : sortL M = maxK n l (2 ^ l.length) := by
  obtain ⟨h1, -, h3⟩ := maxK_sorted n l (2 ^ l.length)
  refine (sorted_is h1 ((List.perm_ext_iff_of_nodup h3 hd).2 fun x => ?_)).symm
  rw [hm]
  constructor
  · intro hx
    have hx' := hx
    unfold maxK at hx
    obtain ⟨X, -, rfl⟩ := List.mem_map.1 hx
    exact ⟨X, rfl, ((mem_maxK hg X).1 hx').2⟩
  · rintro ⟨X, rfl, h⟩
    exact (mem_maxK hg X).2 ⟨h.1.1, h⟩

end Go.Proofs.Ytpifgmmmmhenmab
