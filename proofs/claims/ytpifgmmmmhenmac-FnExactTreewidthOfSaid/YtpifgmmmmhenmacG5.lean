/- Walks over AddEdge and RemoveEdge. -/
import Derived.Test.YtpifgmmmmhenmacG4
import Derived.Deep.RegionLaw
import Derived.RegionTactic
import Derived.ChangeAlike
import Derived.Deep.RegionWith
namespace Go.Proofs.Ytpifgmmmmhenmac
set_option linter.unusedVariables false
set_option linter.unusedSimpArgs false
open Go.RowKit

def flip (x : Int) (j : Nat) : Int := if bitAt x j = 0 then x + 2 ^ j else x - 2 ^ j

theorem flip_small (x : Int) (j : Nat) (h0 : 0 ≤ x) (h1 : x < 128) (hj : j < 7) : bits .xor .i64 x (2 ^ j) = flip x j ∧ 0 ≤ flip x j ∧ flip x j < 128 := by
  obtain ⟨k, rfl⟩ := Int.eq_ofNat_of_zero_le h0
  have : ∀ (k : Fin 128) (j : Fin 7), bits .xor .i64 ((k.val : Nat) : Int) (2 ^ j.val) = flip ((k.val : Nat) : Int) j.val ∧ 0 ≤ flip ((k.val : Nat) : Int) j.val ∧ flip ((k.val : Nat) : Int) j.val < 128 := by decide +kernel
  exact this ⟨k, by omega⟩ ⟨j, hj⟩

theorem shl_one' (j : Nat) (h1 : j ≤ 7) : IntKind.i64.wrap (1 * 2 ^ j) = 2 ^ j ∧ wrap64 (1 * 2 ^ j) = 2 ^ j ∧ wrap64 (2 ^ j) = 2 ^ j ∧ (2 : Int) ^ j ≤ 128 ∧ 1 ≤ (2 : Int) ^ j := by
  have := shl_one (j : Int) (by omega) (by omega)
  simp only [Int.toNat_natCast] at this
  obtain ⟨a, b, c, d, e⟩ := this
  exact ⟨a, b, c, d, by omega⟩

/-- Both rows of a pair turned. -/
def flipE (l : List Int) (i j : Nat) : List Int := (l.set i (flip (nth l i) j)).set j (flip (nth l j) i)

theorem flipE_length (l : List Int) (i j : Nat) : (flipE l i j).length = l.length := by simp [flipE]

def Small (l : List Int) : Prop := ∀ i, i < l.length → 0 ≤ nth l i ∧ nth l i < 128

theorem IsG.small {n : Int} {l : List Int} (h : IsG n l) : Small l := fun i hi => by
  obtain ⟨h1, h7, hl, hr⟩ := h
  have := (hr i hi).1
  refine ⟨this.1, ?_⟩
  obtain ⟨-, -, -, s4, s5⟩ := shl_one n (by omega) h7
  have h2 := Int.emod_lt_of_pos (nth l i) (show 0 < (2 : Int) ^ n.toNat by omega)
  have h3 := Int.emod_add_mul_ediv (nth l i) (2 ^ n.toNat)
  rw [this.2.1] at h3
  omega

/-- A graph and a flag. -/
def GetsGB (B : Nat) (w : World) (n : Int) (l : List Int) (b : Bool) (e : Ending) (w' : World) : Prop := ∃ v, e = .returned (.tuple #[.agg #[.int .i64 n, v], .bool b]) ∧ OwnI B w' v l ∧ Below w.heap.size w w'

/-- When an edge can be added; when one can be taken out. -/
def AddOk (n : Int) (l : List Int) (x y : Int) : Prop := IsG n l ∧ (0 ≤ x ∧ x < n) ∧ (0 ≤ y ∧ y < n) ∧ x ≠ y ∧ edB l x.toNat y.toNat = false

end Go.Proofs.Ytpifgmmmmhenmac
