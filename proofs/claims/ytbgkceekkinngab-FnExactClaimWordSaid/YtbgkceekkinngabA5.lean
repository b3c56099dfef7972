/- ClaimWord. -/
import Derived.Test.YtbgkceekkinngabG3
namespace Go.Proofs.Ytbgkceekkinngab
set_option linter.unusedVariables false
set_option linter.unusedSimpArgs false
open Go.RowKit

def wordS (k : Int) : ByteArray :=
  if k = 1 then ⟨#[109, 101, 109, 98, 101, 114]⟩ else if k = 2 then ⟨#[111, 117, 116, 115, 105, 100, 101]⟩ else if k = 3 then ⟨#[99, 111, 108, 111, 114, 115]⟩ else if k = 4 then ⟨#[99, 111, 118, 101, 114, 115]⟩ else if k = 5 then ⟨#[102, 105, 108, 108]⟩ else if k = 6 then ⟨#[112, 97, 99, 107, 105, 110, 103]⟩ else ⟨#[]⟩

theorem wordS_out (k : Int) (h : ¬ (1 ≤ k ∧ k ≤ 6)) : wordS k = ⟨#[]⟩ := by
  unfold wordS
  rw [if_neg (by omega)]
  rw [if_neg (by omega)]
  rw [if_neg (by omega)]
  rw [if_neg (by omega)]
  rw [if_neg (by omega)]
  rw [if_neg (by omega)]

theorem word_cases (k : Int) : k = 1 ∨ k = 2 ∨ k = 3 ∨ k = 4 ∨ k = 5 ∨ k = 6 ∨ ¬ (1 ≤ k ∧ k ≤ 6) := by omega

set_option maxHeartbeats 1000000 in
theorem implWord (k : Int) (w : World) : Calls Try.prog 51 #[.int .i64 k] w fun e w' => e = .returned (.string (wordS k)) ∧ Below w.heap.size w w' := by
  rcases word_cases k with rfl | rfl | rfl | rfl | rfl | rfl | h
  iterate 6
    · go_enter Try.func51, Try.ntmps51
      go_wp2
      go_ret
      exact ⟨by rfl, Below.refl _ _⟩
  · have hs := Lib.hid (wordS_out k h)
    have b1 : (k == 1) = false := by rw [beq_eq_false_iff_ne]; omega
    have b2 : (k == 2) = false := by rw [beq_eq_false_iff_ne]; omega
    have b3 : (k == 3) = false := by rw [beq_eq_false_iff_ne]; omega
    have b4 : (k == 4) = false := by rw [beq_eq_false_iff_ne]; omega
    have b5 : (k == 5) = false := by rw [beq_eq_false_iff_ne]; omega
    have b6 : (k == 6) = false := by rw [beq_eq_false_iff_ne]; omega
    clear h
    go_enter Try.func51, Try.ntmps51
    go_wp2
    go_ret
    exact ⟨by rw [hs.out]; rfl, Below.refl _ _⟩

set_option maxHeartbeats 1000000 in
theorem specWord (k : Int) (w : World) : Calls Try.prog 50 #[.int .i64 k] w fun e w' => e = .returned (.string (wordS k)) ∧ Below w.heap.size w w' := by
  rcases word_cases k with rfl | rfl | rfl | rfl | rfl | rfl | h
  iterate 6
    · go_enter Try.func50, Try.ntmps50
      go_wp2_with fail
      refine (l1In_yes' _ 1 6 _ (by decide) (by decide)).mono ?_
      rintro e w1 ⟨rfl, rfl⟩
      go_wp2
      go_ret
      exact ⟨by rfl, (Below.refl _ _).alloc (Nat.le_refl _) _⟩
  · have hs := Lib.hid (wordS_out k h)
    have H := Lib.hid h
    clear h
    go_enter Try.func50, Try.ntmps50
    go_wp2_with fail
    refine (l1In_no' k 1 6 _ H.out).mono ?_
    rintro e w1 ⟨rfl, rfl⟩
    go_wp2
    go_ret
    exact ⟨by rw [hs.out]; rfl, Below.refl _ _⟩

end Go.Proofs.Ytbgkceekkinngab
