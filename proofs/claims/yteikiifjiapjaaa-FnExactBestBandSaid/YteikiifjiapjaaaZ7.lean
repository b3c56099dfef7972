/- How long the orders are. -/
import Derived.Test.YteikiifjiapjaaaZ2
namespace Go.Proofs.Yteikiifjiapjaaa
set_option linter.unusedVariables false
set_option linter.unusedSimpArgs false
open Go.RowKit

theorem umbO_len (n : Int) (lg : List Int) : (outL (umbO n lg)).length ≤ 7 := by
  unfold umbO
  by_cases h : IsG n lg
  · rw [if_pos h]
    have := srch_len lg.length (fitU lg) (fun _ => true) lg.length
    have := h.2.1; have := h.2.2.1
    omega
  · rw [if_neg h]; simp [outL]

theorem bandO_some {n : Int} {lg y : List Int} (h : bandO n lg = some y) : IsG n lg ∧ ∃ k, srchS lg.length (fitB lg k) (fun _ => true) lg.length [] = some y := by
  unfold bandO at h
  by_cases hg : IsG n lg
  · rw [if_pos hg] at h
    obtain ⟨k, -, hk⟩ := firstS_some h
    exact ⟨hg, k, hk⟩
  · rw [if_neg hg] at h; cases h

theorem bandO_len (n : Int) (lg : List Int) : (outL (bandO n lg)).length ≤ 7 := by
  cases h : bandO n lg with
  | none => simp [outL]
  | some y =>
    obtain ⟨hg, k, hk⟩ := bandO_some h
    have := srch_len lg.length (fitB lg k) (fun _ => true) lg.length
    rw [hk] at this
    have := hg.2.1; have := hg.2.2.1
    simp only [outL] at *
    omega

end Go.Proofs.Yteikiifjiapjaaa
