/- The length of what ThresholdObstacle finds. -/
import Derived.Test.YtbmpljclplddeabW5
namespace Go.Proofs.Ytbmpljclplddeab
set_option linter.unusedVariables false
set_option linter.unusedSimpArgs false
open Go.RowKit

theorem thrR_len (n : Int) (lg : List Int) : (outL (thrR n lg)).length ≤ 7 := by
  cases h : thrR n lg with
  | none => simp [outL]
  | some y =>
    rw [← thr_comb] at h
    have := comb_len (G := fun i => fwpR n lg (thrPat i) 4) (fun i y h => fwp_four_len h) 3 y h
    show y.length ≤ 7
    omega

end Go.Proofs.Ytbmpljclplddeab
