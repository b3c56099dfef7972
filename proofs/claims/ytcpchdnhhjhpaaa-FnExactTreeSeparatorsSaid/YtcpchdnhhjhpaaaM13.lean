/- impl.IsUmbrella. -/
import Derived.Test.YtcpchdnhhjhpaaaM12
import Derived.Test.YtcpchdnhhjhpaaaT2
namespace Go.Proofs.Ytcpchdnhhjhpaaa
set_option linter.unusedVariables false
set_option linter.unusedSimpArgs false
open Go.RowKit

/-- What is asked of v behind the list l. -/
def StayL (lg l : List Int) (v : Nat) : Prop := ∀ i, i < l.length → edB lg v (kl l i) = true → ∀ j, i < j → j < l.length → edB lg v (kl l j) = true ∧ edB lg (kl l i) (kl l j) = true

theorem stay_take (lg l : List Int) (k : Nat) (hk : k < l.length) : StayL lg (l.take k) (kl l k) ↔ StayP lg l k := by
  have hl : (l.take k).length = k := by rw [List.length_take]; omega
  unfold StayL StayP
  rw [hl]
  refine ⟨fun h i hi he j hij hj => ?_, fun h i hi he j hij hj => ?_⟩
  · have := h i hi (by rw [kl_take hi]; exact he) j hij hj
    rwa [kl_take hi, kl_take hj] at this
  · rw [kl_take hi] at he ⊢
    rw [kl_take hj]
    exact h i hi he j hij hj

end Go.Proofs.Ytcpchdnhhjhpaaa
