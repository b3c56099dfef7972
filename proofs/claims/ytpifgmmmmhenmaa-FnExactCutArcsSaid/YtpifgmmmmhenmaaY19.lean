/- Arcs of a circle: place.after, pointsOf. -/
import Derived.Test.YtpifgmmmmhenmaaY18
import Derived.StillTailTactics
namespace Go.Proofs.Ytpifgmmmmhenmaa
set_option linter.unusedVariables false
set_option linter.unusedSimpArgs false
open Go.RowKit

set_option maxHeartbeats 2000000 in
set_option maxRecDepth 100000 in
theorem after_is (p n k : Int) (w : World) (h0 : 0 ≤ p) (h1 : p < n) (h2 : 0 ≤ k) (h3 : k < n) (h4 : n ≤ 30) :
    Calls Try.prog 166 #[.agg #[.int .i64 p, .int .i64 n], .int .i64 k] w (fun e w' => e = .returned (.agg #[.int .i64 ((p + k) % n), .int .i64 n]) ∧ Below w.heap.size w w') := by
  obtain ⟨P1, hP1⟩ : ∃ z : Int, z = p + k := ⟨_, rfl⟩
  have e1 : IntKind.i64.wrap (p + k) = P1 := (IntWalk.i64_in _ (by omega)).trans hP1.symm
  rw [← hP1]
  obtain ⟨M, hM⟩ : ∃ z : Int, z = P1 % n := ⟨_, rfl⟩
  rw [← hM]
  have hM0 : 0 ≤ M := by rw [hM]; exact Int.emod_nonneg _ (by omega)
  have hM1 : M < n := by rw [hM]; exact Int.emod_lt_of_pos _ (by omega)
  have m1 : Int.tmod P1 n = M := by rw [Int.tmod_eq_emod_of_nonneg (by omega)]; exact hM.symm
  have m1' : P1 % n = M := hM.symm
  have e3 : IntKind.i64.wrap M = M := IntWalk.i64_in _ (by omega)
  have z0 : (n == 0) = false := by rw [beq_eq_false_iff_ne]; omega
  have hn0 : n ≠ 0 := by omega
  have hn0' : ¬ n = 0 := by omega
  clear hM hP1 h0 h1 h2 h3 h4 hM0 hM1
  obtain ⟨w2, hw2⟩ : ∃ x, x = (w.alloc (.cells #[.int .i64 p, .int .i64 n] 170)).alloc (.cells #[.int .i64 0, .int .i64 0] 170) := ⟨_, rfl⟩
  have F0 := Lib.hid (show Below w.heap.size w w2 by rw [hw2]; exact ((Below.refl _ w).alloc (Nat.le_refl _) _).alloc (by simp) _)
  have x0 : w2.cell? ⟨w.heap.size, 0, none⟩ = some (.int .i64 p) := by rw [hw2]; simp
  have x1 : w2.cell? ⟨w.heap.size, 1, none⟩ = some (.int .i64 n) := by rw [hw2]; simp
  have x2 : w2.cell? ⟨w.heap.size + 1, 0, none⟩ = some (.int .i64 0) := by rw [hw2]; simp
  have x3 : w2.cell? ⟨w.heap.size + 1, 1, none⟩ = some (.int .i64 0) := by rw [hw2]; simp
  have f2 : w2.frozen? ⟨w.heap.size + 1, 0, none⟩ = false := by rw [hw2]; simp
  have f3 : w2.frozen? ⟨w.heap.size + 1, 1, none⟩ = false := by rw [hw2]; simp
  have HW2 := Lib.hid hw2
  clear hw2
  go_enter Try.func166, Try.ntmps166
  go_wp2
  rw [← HW2.out]
  go_still_tail 10, (by kernel_rfl)
  change wpList _ _ _ _ _ w2.drew
  go_wp2
  refine bodyPost_ret (v := .agg #[.int .i64 M, .int .i64 n]) (by simp [results, Try.results166, go_sem, x2, x3]) rfl ⟨rfl, ?_⟩
  exact (F0.out.drew.setCell (by simp) _).setCell (by simp) _

end Go.Proofs.Ytpifgmmmmhenmaa
