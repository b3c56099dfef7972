/- Plain facts on varints. -/
import Derived.Laws.BitsLemmas
import Derived.RowKit
namespace Go.Proofs.YtcpchdnhhjhpaacDoor
set_option linter.unusedVariables false
set_option linter.unusedSimpArgs false
def vint : Nat → Nat → List UInt8
  | 0, n => [UInt8.ofNat n]
  | f + 1, n => if n < 128 then [UInt8.ofNat n] else UInt8.ofNat (128 + n % 128) :: vint f (n / 128)
theorem vint_length (f n : Nat) : (vint f n).length ≤ f + 1 := by
  induction f generalizing n with
  | zero => simp [vint]
  | succ f ih =>
    unfold vint
    by_cases h : n < 128
    · rw [if_pos h]; simp
    · rw [if_neg h]; have := ih (n / 128); simp; omega
theorem vint_lt (f n : Nat) (h : n < 128) : vint f n = [UInt8.ofNat n] := by cases f <;> simp [vint, h]
theorem vint_step (f n : Nat) (h : 128 ≤ n) : vint (f + 1) n = UInt8.ofNat (128 + n % 128) :: vint f (n / 128) := by simp [vint, Nat.not_lt.2 h]
theorem i64w' (n : Int) (h₀ : 0 ≤ n) (h₁ : n < 2 ^ 63) : IntKind.i64.wrap n = n := by rw [IntKind.wrap_i64]; omega
theorem and127 (x : Int) (h0 : 0 ≤ x) (h1 : x ≤ 562949953421311) : bits .and .i64 x 127 = x % 128 :=
  bits_mask .i64 63 (by decide) i64w' 7 (by decide) x h0 (by omega)
theorem or128 (y : Int) (h0 : 0 ≤ y) (h1 : y < 128) : bits .or .i64 y 128 = 128 + y := by
  have h := bits_join .i64 63 (by decide) i64w' 7 128 y (by omega) (by omega) (by omega) h0 (by omega) (by omega)
  rw [← h]; unfold bits; simp only [BitVec.or_comm]
def vle (f : Nat) : Nat := 128 ^ (f + 1)
theorem vle_step (f m : Nat) (h : m < vle (f + 1)) : m / 128 < vle f := by
  unfold vle at *
  rw [Nat.pow_succ] at h
  exact Nat.div_lt_of_lt_mul (by rw [Nat.mul_comm]; exact h)
theorem vle_6 (n : Nat) (h : n ≤ 562949953421311) : n < vle 6 := by unfold vle; omega
theorem vle_0 (n : Nat) (h : n < vle 0) : n < 128 := by unfold vle at h; omega
theorem snoc_split (l p : List UInt8) (f m : Nat) (h : l = p ++ vint (f + 1) m) (hm : 128 ≤ m) : l = (p ++ [UInt8.ofNat (128 + m % 128)]) ++ vint f (m / 128) := by rw [h, vint_step f m hm]; simp
theorem snoc_end (l p : List UInt8) (f m : Nat) (h : l = p ++ vint f m) (hm : m < 128) : l = p ++ [UInt8.ofNat m] := by rw [h, vint_lt f m hm]
end Go.Proofs.YtcpchdnhhjhpaacDoor
