/- Models by intervals: IsUnitModel, IsProperModel, PointsCovered. -/
import Derived.Test.YtbmpljclplddeabY6
import Derived.Test.YtbmpljclplddeabH2
namespace Go.Proofs.Ytbmpljclplddeab
set_option linter.unusedVariables false
set_option linter.unusedSimpArgs false
open Go.RowKit

def UnitP (l m : List Int) (k : Int) : Prop := IvP l m ∧ ∀ i, i < l.length → nth m i - nth l i = k

instance (l m : List Int) (k : Int) : Decidable (UnitP l m k) := by unfold UnitP; exact inferInstance

theorem has_is (x y t : Int) (w : World) : Calls Try.prog 107 #[.agg #[.int .i64 x, .int .i64 y], .int .i64 t] w (SaysB (x ≤ t ∧ t ≤ y) w) := by
  have F0 := Lib.hid (show Below w.heap.size w (w.alloc (.cells #[.int .i64 x, .int .i64 y] 81)) from (Below.refl _ w).alloc (Nat.le_refl _) _)
  obtain ⟨P, hP⟩ : ∃ P : Prop, P = (x ≤ t ∧ t ≤ y) := ⟨_, rfl⟩
  have HP := Lib.hid (show P ↔ (x ≤ t ∧ t ≤ y) by rw [hP])
  rw [← hP]
  clear hP
  by_cases h0 : x ≤ t
  · have d0 : decide (x ≤ t) = true := by simp [h0]
    by_cases h1 : t ≤ y
    · have d1 : decide (t ≤ y) = true := by simp [h1]
      have HY := Lib.hid (HP.out.2 ⟨h0, h1⟩)
      go_enter Try.func107, Try.ntmps107
      go_wp2
      go_ret
      exact SaysB.yes HY.out F0.out
    · have d1 : decide (t ≤ y) = false := by simp; omega
      have HY := Lib.hid (show ¬ P from fun h => h1 (HP.out.1 h).2)
      go_enter Try.func107, Try.ntmps107
      go_wp2
      go_ret
      exact SaysB.no HY.out F0.out
  · have d0 : decide (x ≤ t) = false := by simp; omega
    have HY := Lib.hid (show ¬ P from fun h => h0 (HP.out.1 h).1)
    go_enter Try.func107, Try.ntmps107
    go_wp2
    go_ret
    exact SaysB.no HY.out F0.out

end Go.Proofs.Ytbmpljclplddeab
