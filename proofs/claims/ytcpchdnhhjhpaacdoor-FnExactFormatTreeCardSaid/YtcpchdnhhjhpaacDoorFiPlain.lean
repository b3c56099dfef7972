/- Plain facts on decimal numerals. -/
import Derived.Lib.ItoaNum
import Derived.Lib.ItoaLen
import Derived.RowKit
namespace Go.Proofs.YtcpchdnhhjhpaacDoor
set_option linter.unusedVariables false
set_option linter.unusedSimpArgs false
open Go.Lib

def dig (m : Nat) : List UInt8 := if m = 0 then [] else decDigits m
theorem dig_pos (m : Nat) (h : 0 < m) : dig m = decDigits m := by unfold dig; rw [if_neg (by omega)]
theorem dig_zero : dig 0 = [] := rfl
theorem dig_step (m : Nat) (h : 0 < m) : dig m = dig (m / 10) ++ [UInt8.ofNat (48 + m % 10)] := by
  rw [dig_pos m h]
  by_cases h10 : m < 10
  · rw [decDigits_one h10, show m / 10 = 0 by omega, dig_zero, show m % 10 = m by omega]; rfl
  · rw [dig_pos (m / 10) (by omega), decDigits, dif_neg h10]
theorem dig_acc (L acc : List UInt8) (m : Nat) (h : 0 < m) (hL : L = dig m ++ acc) : L = dig (m / 10) ++ ((48 + UInt8.ofNat (m % 10)) :: acc) := by rw [hL, dig_step m h]; simp
theorem cons_string (c : UInt8) (l : List UInt8) : Value.string (({ data := #[c] } : ByteArray) ++ { data := l.toArray }) = Value.string { data := (c :: l).toArray } := by
  have h : (({ data := #[c] } : ByteArray) ++ { data := l.toArray }) = { data := (c :: l).toArray } := by
    apply ByteArray.ext
    simp
  rw [h]
theorem tmod_neg10 (m : Nat) : Int.tmod (-(m : Int)) 10 = -((m % 10 : Nat) : Int) := by rw [Int.neg_tmod, Int.tmod_eq_emod_of_nonneg (by omega)]; omega
theorem tdiv_neg10 (m : Nat) : Int.tdiv (-(m : Int)) 10 = -((m / 10 : Nat) : Int) := by rw [Int.neg_tdiv, Int.tdiv_eq_ediv_of_nonneg (by omega)]; omega
end Go.Proofs.YtcpchdnhhjhpaacDoor
