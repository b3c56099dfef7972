/- Plain facts on numbers written as bytes. -/
import Derived.Laws.BitsLemmas
import Derived.RowKit
namespace Go.Proofs.YtcpchdnhhjhpaacDoor
set_option linter.unusedVariables false
set_option linter.unusedSimpArgs false
def dec (l : List UInt8) : Nat := l.foldl (fun n b => n * 256 + b.toNat) 0
theorem dec_snoc (l : List UInt8) (c : UInt8) : dec (l ++ [c]) = dec l * 256 + c.toNat := by simp [dec]
theorem dec_lt (l : List UInt8) : dec l < 256 ^ l.length := by
  suffices h : ∀ (l : List UInt8) (n : Nat), l.foldl (fun n b => n * 256 + b.toNat) n < (n + 1) * 256 ^ l.length by
    have := h l 0; simpa [dec] using this
  intro l
  induction l with
  | nil => intro n; simp
  | cons c l ih =>
    intro n
    have hc : c.toNat < 256 := c.toNat_lt
    have h1 := ih (n * 256 + c.toNat)
    simp only [List.foldl_cons, List.length_cons]
    refine Nat.lt_of_lt_of_le h1 ?_
    rw [Nat.pow_succ, Nat.mul_comm (256 ^ l.length) 256, ← Nat.mul_assoc]
    exact Nat.mul_le_mul_right _ (by omega)
theorem take_snoc (s : ByteArray) (k : Nat) (h : k < s.size) : s.data.toList.take (k + 1) = s.data.toList.take k ++ [s[k]] := by
  rw [List.take_succ_eq_append_getElem (by simpa using h)]; rfl
theorem dec_take_le (l : List UInt8) (k : Nat) (h : k ≤ 6) : dec (l.take k) ≤ 281474976710655 := by
  have h1 := dec_lt (l.take k)
  have h2 : (l.take k).length ≤ 6 := by simp; omega
  have h3 : 256 ^ (l.take k).length ≤ 256 ^ 6 := Nat.pow_le_pow_right (by omega) h2
  have h4 : (256 : Nat) ^ 6 = 281474976710656 := by decide
  omega
theorem i64w (n : Int) (h₀ : 0 ≤ n) (h₁ : n < 2 ^ 63) : IntKind.i64.wrap n = n := by rw [IntKind.wrap_i64]; omega
theorem or_byte (x y : Int) (h0 : 0 ≤ x) (h1 : x ≤ 281474976710655) (h2 : 0 ≤ y) (h3 : y < 256) : bits .or .i64 (x * 256) y = x * 256 + y :=
  bits_join .i64 63 (by decide) i64w 8 _ _ (by omega) (by omega) (by omega) (by omega) (by omega) (by omega)
theorem w64_byte (c : UInt8) : RowKit.wrap64 (c.toNat : Int) = c.toNat := by have := c.toNat_lt; unfold RowKit.wrap64; omega
theorem step_spec (d : Nat) (c : UInt8) (h : d ≤ 281474976710655) : RowKit.wrap64 ((d : Int) * 256 + RowKit.wrap64 (c.toNat : Int)) = ((d * 256 + c.toNat : Nat) : Int) := by
  have := c.toNat_lt; rw [w64_byte]; unfold RowKit.wrap64; omega
theorem step_impl (d : Nat) (c : UInt8) (h : d ≤ 281474976710655) : bits .or .i64 ((d : Int) * 256) (RowKit.wrap64 (c.toNat : Int)) = ((d * 256 + c.toNat : Nat) : Int) := by
  have := c.toNat_lt; rw [w64_byte, or_byte _ _ (by omega) (by omega) (by omega) (by omega)]; omega
end Go.Proofs.YtcpchdnhhjhpaacDoor
