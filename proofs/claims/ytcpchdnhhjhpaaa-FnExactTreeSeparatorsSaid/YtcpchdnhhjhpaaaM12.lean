/- IsUmbrella. -/
import Derived.Test.YtcpchdnhhjhpaaaM3
import Derived.Test.YtcpchdnhhjhpaaaQ
namespace Go.Proofs.Ytcpchdnhhjhpaaa
set_option linter.unusedVariables false
set_option linter.unusedSimpArgs false
open Go.RowKit

def umbT (lg l : List Int) (i j k : Nat) : Prop := edB lg (kl l i) (kl l k) = true → edB lg (kl l i) (kl l j) = true ∧ edB lg (kl l j) (kl l k) = true

instance (lg l : List Int) (i j k : Nat) : Decidable (umbT lg l i j k) := by unfold umbT; infer_instance

/-- Neighbours have everything between them as neighbours. -/
def UmbP (lg l : List Int) : Prop := ∀ k, k < l.length → ∀ j, j < k → ∀ i, i < j → umbT lg l i j k

instance (lg l : List Int) : Decidable (UmbP lg l) := by unfold UmbP; infer_instance

def UmbR (n : Int) (lg l : List Int) : Prop := OrdP n lg l ∧ UmbP lg l

instance (n : Int) (lg l : List Int) : Decidable (UmbR n lg l) := by unfold UmbR; infer_instance

/-- What is asked of the vertex at place k. -/
def StayP (lg l : List Int) (k : Nat) : Prop := ∀ i, i < k → edB lg (kl l k) (kl l i) = true → ∀ j, i < j → j < k → edB lg (kl l k) (kl l j) = true ∧ edB lg (kl l i) (kl l j) = true

theorem edB_sym {n : Int} {lg : List Int} (hg : IsG n lg) {i j : Nat} (hi : i < lg.length) (hj : j < lg.length) : edB lg i j = edB lg j i := by
  unfold edB
  rw [hg.sym hi hj]

theorem umb_stay {n : Int} {lg l : List Int} (h : OrdP n lg l) : UmbP lg l ↔ ∀ k, k < l.length → StayP lg l k := by
  have hg := h.graph
  have hk : ∀ i, i < l.length → kl l i < lg.length := fun i hi => (h.1.at hi).2.1
  refine ⟨fun hu k hkl i hi he j hij hjk => ?_, fun hs k hkl j hj i hij he => ?_⟩
  · have := hu k hkl j hjk i hij (by rw [edB_sym hg (hk i (by omega)) (hk k hkl)]; exact he)
    exact ⟨by rw [edB_sym hg (hk k hkl) (hk j (by omega))]; exact this.2, this.1⟩
  · have := hs k hkl i (by omega) (by rw [edB_sym hg (hk k hkl) (hk i (by omega))]; exact he) j hij hj
    exact ⟨this.2, by rw [edB_sym hg (hk j (by omega)) (hk k hkl)]; exact this.1⟩

end Go.Proofs.Ytcpchdnhhjhpaaa
