/- Plain facts on numbers as a given count of bytes. -/
import Derived.Test.YtcpchdnhhjhpaacDoorDfPlain
import Derived.Lib.UnsafeStr
import Derived.Below
namespace Go.Proofs.YtcpchdnhhjhpaacDoor
set_option linter.unusedVariables false
set_option linter.unusedSimpArgs false
open Go.RowKit
/-- The i low bytes of N, the highest first. -/
def lowB (N : Nat) : Nat → List UInt8
  | 0 => []
  | i + 1 => UInt8.ofNat (N / 256 ^ i % 256) :: lowB N i
theorem lowB_length (N i : Nat) : (lowB N i).length = i := by induction i with
  | zero => rfl
  | succ i ih => simp [lowB, ih]
theorem lowB_get (N k i : Nat) (h : i < k) : (lowB N k)[i]? = some (UInt8.ofNat (N / 256 ^ (k - 1 - i) % 256)) := by
  induction k generalizing i with
  | zero => omega
  | succ k ih =>
    cases i with
    | zero => simp [lowB]
    | succ i => simp only [lowB, List.getElem?_cons_succ]; rw [ih i (by omega)]; congr 5; omega
/-- What the row holds after i stores. -/
def rowB (N k i : Nat) : List UInt8 := (lowB N k).take i ++ List.replicate (k - i) 0
theorem rowB_length (N k i : Nat) (h : i ≤ k) : (rowB N k i).length = k := by simp [rowB, lowB_length]; omega
theorem rowB_0 (N k : Nat) : rowB N k 0 = List.replicate k 0 := by simp [rowB]
theorem rowB_k (N k : Nat) : rowB N k k = lowB N k := by simp [rowB]; rw [List.take_of_length_le]; simp [lowB_length]
theorem rowB_step (N k i : Nat) (h : i < k) : (rowB N k i).set i (UInt8.ofNat (N / 256 ^ (k - 1 - i) % 256)) = rowB N k (i + 1) := by
  have hg := lowB_get N k i h
  have hl := lowB_length N k
  have hi : i < (lowB N k).length := by omega
  have hg' : (lowB N k)[i] = UInt8.ofNat (N / 256 ^ (k - 1 - i) % 256) := by rw [List.getElem?_eq_getElem hi] at hg; exact Option.some.inj hg
  unfold rowB
  rw [List.take_succ_eq_append_getElem hi, hg', List.set_append_right _ _ (by simp; omega)]
  have e1 : k - i = k - (i + 1) + 1 := by omega
  have e2 : i - (List.take i (lowB N k)).length = 0 := by simp; omega
  rw [e2, e1, List.replicate_succ, List.set_cons_zero, List.append_assoc]
  rfl
theorem set_cells (l : List UInt8) (i : Nat) (c : UInt8) : (Lib.byteCells l).set i (Value.int .u8 c.toNat) = Lib.byteCells (l.set i c) := by simp [Lib.byteCells, List.map_set]
theorem cells_zero (k : Nat) : List.replicate k (Value.int .u8 0) = Lib.byteCells (List.replicate k 0) := by simp [Lib.byteCells]
theorem cells_get (l : List UInt8) (i : Nat) (h : i < l.length) : (Lib.byteCells l)[i]? = some (Value.int .u8 ((l[i]).toNat : Int)) := by simp [Lib.byteCells, h]
/-- The byte that is stored. -/
theorem store_val (N k i : Nat) (h : i < k) : (N : Int) / 2 ^ (8 * (k - 1 - i)) % 256 = ((UInt8.ofNat (N / 256 ^ (k - 1 - i) % 256)).toNat : Int) := by
  have e2 : (2 : Int) ^ (8 * (k - 1 - i)) = ((256 ^ (k - 1 - i) : Nat) : Int) := by rw [Int.pow_mul]; simp
  rw [e2]
  generalize 256 ^ (k - 1 - i) = P
  simp
theorem fits_iff (n k : Nat) : ((n : Int) / 2 ^ (8 * k) != 0) = decide (n / 256 ^ k ≠ 0) := by
  have e2 : (2 : Int) ^ (8 * k) = ((256 ^ k : Nat) : Int) := by rw [Int.pow_mul]; simp
  rw [e2]
  generalize 256 ^ k = P
  have e3 : (n : Int) / (P : Int) = ((n / P : Nat) : Int) := by simp
  rw [e3]
  generalize n / P = q
  by_cases h : q = 0
  · subst h; rfl
  · simp [h]
end Go.Proofs.YtcpchdnhhjhpaacDoor
