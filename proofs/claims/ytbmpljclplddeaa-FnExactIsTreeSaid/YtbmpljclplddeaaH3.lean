/- Walks over ListOf of the specification, and CountSet. -/
import Derived.Test.YtbmpljclplddeaaH1
namespace Go.Proofs.Ytbmpljclplddeaa
set_option linter.unusedVariables false
set_option linter.unusedSimpArgs false
open Go.RowKit

/-- The members of a set below j, in their order. -/
def listU (s : Int) (j : Nat) : List Int := ((List.range j).filter fun v => decide (bitAt s v = 1)).map fun v : Nat => (v : Int)

theorem listU_succ (s : Int) (j : Nat) : listU s (j + 1) = listU s j ++ (if bitAt s j = 1 then [(j : Int)] else []) := by
  unfold listU
  rw [List.range_succ, List.filter_append, List.map_append]
  by_cases h : bitAt s j = 1 <;> simp [h]

theorem listU_length (s : Int) (j : Nat) : (listU s j).length ≤ j := by
  unfold listU
  have := List.length_filter_le (fun v => decide (bitAt s v = 1)) (List.range j)
  simpa using this

theorem listU_in (s : Int) (j : Nat) (hj : j ≤ 1000) : inI64 (listU s j) := fun x hx => by
  unfold listU at hx
  simp only [List.mem_map, List.mem_filter, List.mem_range] at hx
  obtain ⟨v, ⟨hv, -⟩, rfl⟩ := hx
  omega

theorem l3Fine_yes (x : Int) (w : World) (h0 : 0 ≤ x) (h1 : x ≤ 127) : Calls Try.prog 69 #[.int .i64 x] w fun e w' => e = .returned (.bool true) ∧ w = w' := by
  go_enter Try.func69, Try.ntmps69
  go_wp2_with fail
  refine (l1In_yes' _ _ _ _ h0 h1).mono ?_
  rintro e w1 ⟨rfl, rfl⟩
  go_wp2
  go_ret
  exact ⟨rfl, rfl⟩

theorem l3Fine_no (x : Int) (w : World) (h : ¬ (0 ≤ x ∧ x ≤ 127)) : Calls Try.prog 69 #[.int .i64 x] w fun e w' => e = .returned (.bool false) ∧ w = w' := by
  have H := Lib.hid h
  clear h
  go_enter Try.func69, Try.ntmps69
  go_wp2_with fail
  refine (l1In_no' _ _ _ _ H.out).mono ?_
  rintro e w1 ⟨rfl, rfl⟩
  go_wp2
  go_ret
  exact ⟨rfl, rfl⟩

/-- How many members a set has. -/
def popU (x : Int) : Int := if 0 ≤ x ∧ x ≤ 127 then ((listU x 7).length : Int) else 0

theorem isAnySet_yes (x : Int) (w : World) (h0 : 0 ≤ x) (h1 : x ≤ 127) : Calls Try.prog 71 #[.int .i64 x] w fun e w' => e = .returned (.bool true) ∧ w = w' := by
  have d0 : decide (0 ≤ x) = true := by simp [h0]
  have d1 : decide (x < 128) = true := by simp; omega
  go_enter Try.func71, Try.ntmps71
  go_wp2
  go_ret
  exact ⟨rfl, rfl⟩

theorem isAnySet_no (x : Int) (w : World) (h : ¬ (0 ≤ x ∧ x ≤ 127)) : Calls Try.prog 71 #[.int .i64 x] w fun e w' => e = .returned (.bool false) ∧ w = w' := by
  by_cases h0 : 0 ≤ x
  · have d0 : decide (0 ≤ x) = true := by simp [h0]
    have d1 : decide (x < 128) = false := by simp; omega
    clear h
    go_enter Try.func71, Try.ntmps71
    go_wp2
    go_ret
    exact ⟨rfl, rfl⟩
  · have d0 : decide (0 ≤ x) = false := by simp; omega
    clear h
    go_enter Try.func71, Try.ntmps71
    go_wp2
    go_ret
    exact ⟨rfl, rfl⟩

end Go.Proofs.Ytbmpljclplddeaa
