/- GraphOfTree: the specification's. -/
import Derived.Test.YtgfndgjabhabjaaX3
import Derived.Test.YtgfndgjabhabjaaG6
import Derived.Test.YtgfndgjabhabjaaV6
import Derived.Test.YtgfndgjabhabjaaG3
import Derived.Test.YtgfndgjabhabjaaQ
import Derived.Deep.RegionWith
namespace Go.Proofs.Ytgfndgjabhabjaa
set_option linter.unusedVariables false
set_option linter.unusedSimpArgs false
open Go.RowKit

/-- One edge more, whether it was there or not. -/
theorem specPlus (N : Nat) (P : Nat → Nat → Bool) (v : Value) (a b : Nat) (w : World) (h : Ints w v (adjL N P)) (hnil : v = .slice none 0 0 ∨ ∃ ad cap, v = .slice (some ad) (adjL N P).length cap) (h1 : 1 ≤ N) (h7 : N ≤ 7) (hs : Sym N P) (ha : a < N) (hb : b < N) (hab : a ≠ b) :
    ∃ r, Calls Try.prog 95 #[.agg #[.int .i64 (N : Int), v], .int .i64 (a : Int), .int .i64 (b : Int)] w (GetsGB w.heap.size w N (adjL N (plusE P a b)) r) := by
  have hl : (adjL N P).length ≤ 1048576 := by rw [adjL_length]; omega
  cases hp : P a b with
  | false =>
    have hok : AddOk (N : Int) (adjL N P) (a : Int) (b : Int) := ⟨adj_graph h1 h7 hs, by omega, by omega, by omega, by rw [Int.toNat_natCast, Int.toNat_natCast, edB]; rw [adjL_bit N P a b ha hb, hp]; rfl⟩
    refine ⟨true, ?_⟩
    have h2 := specAddEdge_yes (N : Int) v (adjL N P) a b w h hl hnil hok
    rw [Int.toNat_natCast, Int.toNat_natCast, plus_new hs ha hb hab hp] at h2
    exact h2
  | true =>
    have hno : ¬ AddOk (N : Int) (adjL N P) (a : Int) (b : Int) := fun hok => by
      have := hok.2.2.2.2
      rw [Int.toNat_natCast, Int.toNat_natCast, edB, adjL_bit N P a b ha hb, hp] at this
      simp at this
    refine ⟨false, ?_⟩
    have h2 := specAddEdge_no (N : Int) v (adjL N P) a b w h hl hnil hno
    rw [plus_old hs ha hb hp] at h2
    exact h2

theorem pairS_adj (N : Nat) (P : Nat → Nat → Bool) (L : List Nat) {i m : Nat} (hm : m < i) (hi : i < L.length) : adjL N (plusE (pairS P L i m) (L.getD i 0) (L.getD m 0)) = adjL N (pairS P L i (m + 1)) :=
  adjL_congr N _ _ fun a _ b _ => (pairS_step P L hm hi a b).symm

end Go.Proofs.Ytgfndgjabhabjaa
