/- Walks over AddEdge and RemoveEdge. -/
import Derived.Test.YtpifgmmmmhenmabG4
import Derived.Deep.RegionLaw
import Derived.RegionTactic
import Derived.ChangeAlike
import Derived.Deep.RegionWith
namespace Go.Proofs.Ytpifgmmmmhenmab
set_option linter.unusedVariables false
set_option linter.unusedSimpArgs false
open Go.RowKit

def flip (x : Int) (j : Nat) : Int := if bitAt x j = 0 then x + 2 ^ j else x - 2 ^ j

theorem flip_small (x : Int) (j : Nat) (h0 : 0 ≤ x) (h1 : x < 128) (hj : j < 7) : bits .xor .i64 x (2 ^ j) = flip x j ∧ 0 ≤ flip x j ∧ flip x j < 128 := by
  obtain ⟨k, rfl⟩ := Int.eq_ofNat_of_zero_le h0
  have : ∀ (k : Fin 128) (j : Fin 7), bits .xor .i64 ((k.val : Nat) : Int) (2 ^ j.val) = flip ((k.val : Nat) : Int) j.val ∧ 0 ≤ flip ((k.val : Nat) : Int) j.val ∧ flip ((k.val : Nat) : Int) j.val < 128 := by decide +kernel
  exact this ⟨k, by omega⟩ ⟨j, hj⟩

theorem shl_one' (j : Nat) (h1 : j ≤ 7) : IntKind.i64.wrap (1 * 2 ^ j) = 2 ^ j ∧ wrap64 (1 * 2 ^ j) = 2 ^ j ∧ wrap64 (2 ^ j) = 2 ^ j ∧ (2 : Int) ^ j ≤ 128 ∧ 1 ≤ (2 : Int) ^ j := by
  have := shl_one (j : Int) (by omega) (by omega)
  simp only [Int.toNat_natCast] at this
  obtain ⟨a, b, c, d, e⟩ := this
  exact ⟨a, b, c, d, by omega⟩

/-- Both rows of a pair turned. -/
def flipE (l : List Int) (i j : Nat) : List Int := (l.set i (flip (nth l i) j)).set j (flip (nth l j) i)

theorem flipE_length (l : List Int) (i j : Nat) : (flipE l i j).length = l.length := by simp [flipE]

def Small (l : List Int) : Prop := ∀ i, i < l.length → 0 ≤ nth l i ∧ nth l i < 128

set_option maxHeartbeats 1000000 in
set_option maxRecDepth 100000 in
theorem turnEdge_any (B q g cap : Nat) (n : Int) (l : List Int) (i j : Nat) (w : World) (hq0 : w.cell? ⟨q, 0, none⟩ = some (.int .i64 n)) (hq1 : w.cell? ⟨q, 1, none⟩ = some (.slice (some ⟨g, 0, none⟩) l.length cap)) (hqg : q ≠ g)
    (h : OwnI B w (.slice (some ⟨g, 0, none⟩) l.length cap) l) (hi : i < l.length) (hj : j < l.length) (hij : i ≠ j) (hs : Small l) (hl : l.length ≤ 7) :
    Calls Try.prog 129 #[.pointer (some ⟨q, 0, none⟩), .int .i64 i, .int .i64 j] w fun e w' => e = .returned (.tuple #[]) ∧ OwnI B w' (.slice (some ⟨g, 0, none⟩) l.length cap) (flipE l i j) ∧ w.grownBy w' (some g) := by
  rcases h.form with ⟨h', -⟩ | ⟨g', cap', hv, hBg, hg, hc, hm, hcell, hfr⟩
  · cases h'
  simp only [Value.slice.injEq, Option.some.injEq, Addr.mk.injEq] at hv
  obtain ⟨⟨rfl, -⟩, -, rfl⟩ := hv
  obtain ⟨x, hx⟩ : ∃ x, x = nth l i := ⟨_, rfl⟩
  obtain ⟨y, hy⟩ : ∃ y, y = nth l j := ⟨_, rfl⟩
  have c1 := hcell i hi
  have c2 := hcell j hj
  rw [← hx] at c1
  rw [← hy] at c2
  have f1 := hfr i
  have f2 := hfr j
  have hsi := hs i hi
  have hsj := hs j hj
  rw [← hx] at hsi
  rw [← hy] at hsj
  obtain ⟨X, hX, z1, z2, z3⟩ : ∃ X, X = flip x j ∧ bits .xor .i64 x (2 ^ j) = X ∧ 0 ≤ X ∧ X < 128 := ⟨_, rfl, flip_small x j hsi.1 hsi.2 (by omega)⟩
  obtain ⟨Y, hY, z4, z5, z6⟩ : ∃ Y, Y = flip y i ∧ bits .xor .i64 y (2 ^ i) = Y ∧ 0 ≤ Y ∧ Y < 128 := ⟨_, rfl, flip_small y i hsj.1 hsj.2 (by omega)⟩
  obtain ⟨P, ep, p1, p2⟩ : ∃ P, (2 : Int) ^ j = P ∧ 1 ≤ P ∧ P ≤ 128 := ⟨_, rfl, (shl_one' j (by omega)).2.2.2.2, (shl_one' j (by omega)).2.2.2.1⟩
  obtain ⟨Q, eq, q1, q2⟩ : ∃ Q, (2 : Int) ^ i = Q ∧ 1 ≤ Q ∧ Q ≤ 128 := ⟨_, rfl, (shl_one' i (by omega)).2.2.2.2, (shl_one' i (by omega)).2.2.2.1⟩
  rw [ep] at z1
  rw [eq] at z4
  have o1 := h.set i X (by omega) (by omega)
  have o2 := OwnI.set (l := l.set i X) (by simpa using o1.1) j Y (by omega) (by omega)
  have HE : Hid (flipE l i j = (l.set i X).set j Y) := by rw [hX, hY, hx, hy]; rfl
  have O1 := Lib.hid o1
  have O2 := Lib.hid o2
  clear o1 o2 h hcell hfr hs hx hy hX hY hsi hsj
  have w1 : IntKind.i64.wrap (1 * P) = P := IntWalk.i64_in _ (by omega) |>.trans (by omega)
  have w2 : IntKind.i64.wrap P = P := IntWalk.i64_in _ (by omega)
  have w3 : IntKind.i64.wrap (1 * Q) = Q := IntWalk.i64_in _ (by omega) |>.trans (by omega)
  have w4 : IntKind.i64.wrap Q = Q := IntWalk.i64_in _ (by omega)
  have hji : j ≠ i := fun h => hij h.symm
  have hgq : g ≠ q := fun h => hqg h.symm
  go_enter Try.func129, Try.ntmps129
  go_wp2
  go_region_law (fail)
  go_wp2
  go_region_law (fail)
  go_wp2
  go_end0
  have e2 := O2.out
  rw [← HE.out] at e2
  refine ⟨rfl, ?_, ?_⟩
  · have := e2.1
    rw [List.length_set] at this
    exact this
  · have gg := grown_trans O1.out.2 e2.2
    exact ⟨gg.os, gg.tape, gg.output, gg.size, gg.block⟩

theorem IsG.small {n : Int} {l : List Int} (h : IsG n l) : Small l := fun i hi => by
  obtain ⟨h1, h7, hl, hr⟩ := h
  have := (hr i hi).1
  refine ⟨this.1, ?_⟩
  obtain ⟨-, -, -, s4, s5⟩ := shl_one n (by omega) h7
  have h2 := Int.emod_lt_of_pos (nth l i) (show 0 < (2 : Int) ^ n.toNat by omega)
  have h3 := Int.emod_add_mul_ediv (nth l i) (2 ^ n.toNat)
  rw [this.2.1] at h3
  omega

/-- A graph and a flag. -/
def GetsGB (B : Nat) (w : World) (n : Int) (l : List Int) (b : Bool) (e : Ending) (w' : World) : Prop := ∃ v, e = .returned (.tuple #[.agg #[.int .i64 n, v], .bool b]) ∧ OwnI B w' v l ∧ Below w.heap.size w w'

/-- When an edge can be added; when one can be taken out. -/
def AddOk (n : Int) (l : List Int) (x y : Int) : Prop := IsG n l ∧ (0 ≤ x ∧ x < n) ∧ (0 ≤ y ∧ y < n) ∧ x ≠ y ∧ edB l x.toNat y.toNat = false

end Go.Proofs.Ytpifgmmmmhenmab
