/- IsPermutation. -/
import Derived.Test.YtcpchdnhhjhpaaaO1
import Derived.Test.YtcpchdnhhjhpaaaGl
namespace Go.Proofs.Ytcpchdnhhjhpaaa
set_option linter.unusedVariables false
set_option linter.unusedSimpArgs false
open Go.RowKit

/-- Each number below the length once. -/
def PermP (l : List Int) : Prop := 0 < l.length ∧ setOf l 0 = some (2 ^ l.length - 1)

instance (l : List Int) : Decidable (PermP l) := by unfold PermP; infer_instance

theorem pop_small {s : Int} (h0 : 0 ≤ s) (h1 : s < 128) : popN s.toNat ≤ 7 := pop_le (Nat.le_refl 7) (show s.toNat < 2 ^ 7 by omega)

theorem set_len {l : List Int} {s : Int} (hs : setOf l 0 = some s) : l.length ≤ 7 ∧ 0 ≤ s ∧ s < 128 := by
  have hp := setOf_pop l 0 s (by omega) (by omega) hs
  have h0 : popN (0 : Int).toNat = 0 := by decide
  obtain ⟨b0, b1, -, -⟩ := setOf_bits l 0 s (by omega) (by omega) hs
  have := pop_small b0 b1
  omega

end Go.Proofs.Ytcpchdnhhjhpaaa
