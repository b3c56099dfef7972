/- Walks over HasEdge and what it calls. -/
import Derived.Test.YtpifgmmmmhenmabG3
namespace Go.Proofs.Ytpifgmmmmhenmab
set_option linter.unusedVariables false
set_option linter.unusedSimpArgs false
open Go.RowKit

/-- Are the vertices i and j joined? -/
def edB (l : List Int) (i j : Nat) : Bool := decide (bitAt (nth l i) j = 1)

theorem edB_iff (l : List Int) (i j : Nat) : edB l i j = true ↔ bitAt (nth l i) j = 1 := by simp [edB]

theorem ret_bool {a b : Bool} (h : a = b) : Ending.returned (.bool a) = .returned (.bool b) := by rw [h]

set_option maxHeartbeats 1000000 in
theorem areJoined_is (n : Int) (v : Value) (l : List Int) (i j : Nat) (w : World) (h : Ints w v l) (hi : i < l.length) (hj : j < 64) :
    Calls Try.prog 117 #[.agg #[.int .i64 n, v], .int .i64 i, .int .i64 j] w fun e w' => e = .returned (.bool (edB l i j)) ∧ Below w.heap.size w w' := by
  obtain ⟨b, off, cap, rfl, hc, hm, hb, hcell⟩ := h.pos (by omega)
  obtain ⟨x, hx⟩ : ∃ x, x = nth l i := ⟨_, rfl⟩
  have c1 := hcell i hi
  rw [← hx] at c1
  obtain ⟨t, ht⟩ : ∃ t, t = bitAt x j := ⟨_, rfl⟩
  have e1 : bits .and .i64 (x / 2 ^ j) 1 = t := by rw [ht]; exact and_one_bit x j
  have HR : Hid (edB l i j = (t == 1)) := by
    show edB l i j = (t == 1)
    rw [ht, hx]; rfl
  clear h hcell hx ht
  unfold maxLen at hm
  go_enter Try.func117, Try.ntmps117
  go_wp2
  go_ret
  exact ⟨ret_bool (by rw [HR.out]), (Below.refl _ w).alloc (Nat.le_refl _) _⟩

/-- Boxed: what a walk asks of a graph's box wherever only what is new has turned. -/
theorem argG' {T : TypeId} {w : World} {n : Int} {a : Option Addr} {len cap : Nat} {l : List Int} (h : Ints w (.slice a len cap) l) :
    Hid (∀ wr, Below (w.heap.size + 1) (w.alloc (.cells #[.int .i64 n, .slice a len cap] T)) wr → ArgG T w n (.slice a len cap) l wr) := fun _ hb => argG h hb

/-- The edges that HasEdge sees. -/
def HasE (n : Int) (l : List Int) (x y : Int) : Prop := IsG n l ∧ (0 ≤ x ∧ x < n) ∧ (0 ≤ y ∧ y < n) ∧ edB l x.toNat y.toNat = true

end Go.Proofs.Ytpifgmmmmhenmab
