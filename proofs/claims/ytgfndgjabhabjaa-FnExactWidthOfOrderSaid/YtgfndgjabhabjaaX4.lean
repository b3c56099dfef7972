/- Filling along an order: plain facts. -/
import Derived.Test.YtgfndgjabhabjaaX1
import Derived.Test.YtgfndgjabhabjaaM1
import Derived.Test.YtgfndgjabhabjaaPk
namespace Go.Proofs.Ytgfndgjabhabjaa
set_option linter.unusedVariables false
set_option linter.unusedSimpArgs false
open Go.RowKit

/-- The edges when those before the k-th of the order have got theirs. -/
def fillP (N : Nat) (P : Nat → Nat → Bool) (l : List Int) : Nat → Nat → Nat → Bool
  | 0 => P
  | k + 1 => joinP (fillP N P l k) (lateN (adjL N (fillP N P l k)) l (kl l k) k)

theorem fillP_sym {N : Nat} {P : Nat → Nat → Bool} (h : Sym N P) (l : List Int) : ∀ k, Sym N (fillP N P l k)
  | 0 => h
  | k + 1 => joinP_sym (fillP_sym h l k) _

theorem ord_other {n : Int} {lg lg' l : List Int} (h : OrdP n lg l) (hg : IsG n lg') : OrdP n lg' l := by
  obtain ⟨⟨s, hs, -, hx⟩, h2⟩ := h
  exact ⟨⟨s, hs, hg, hx⟩, h2⟩

theorem fill_ord {n : Int} {lg l : List Int} (h : OrdP n lg l) (k : Nat) : IsG n (adjL lg.length (fillP lg.length (edB lg) l k)) ∧ OrdP n (adjL lg.length (fillP lg.length (edB lg) l k)) l := by
  have hg := h.graph
  have hn := h.len
  have h1 : 1 ≤ lg.length := by have := hg.1; omega
  have hG : IsG n (adjL lg.length (fillP lg.length (edB lg) l k)) := by
    rw [hn.2.2]
    exact adj_graph h1 hn.2.1 (fillP_sym (edB_sym' hg) l k)
  exact ⟨hG, ord_other h hG⟩

theorem fill_late {n : Int} {lg l : List Int} (h : OrdP n lg l) {k : Nat} (hk : k < l.length) :
    laterR n (adjL lg.length (fillP lg.length (edB lg) l k)) l (nth l k) = ((lateN (adjL lg.length (fillP lg.length (edB lg) l k)) l (kl l k) k : Nat) : Int) ∧ lateN (adjL lg.length (fillP lg.length (edB lg) l k)) l (kl l k) k < 2 ^ lg.length := by
  obtain ⟨hG, hO⟩ := fill_ord h k
  have hn := h.len
  have hv := (hO.1.at hk).2.1
  refine ⟨laterR_at hO hk, ?_⟩
  have h2 := late_and hO.1 (by rw [adjL_length]; exact hn.2.1) hv (show k ≤ l.length by omega)
  rw [← h2]
  refine Nat.lt_of_le_of_lt Nat.and_le_left ?_
  have := (hG.row_lt _ hv).1
  rw [adjL_length] at this
  exact this

def diffP (P Q : Nat → Nat → Bool) (i j : Nat) : Bool := P i j && !Q i j

theorem diffP_sym {N : Nat} {P Q : Nat → Nat → Bool} (h : Sym N P) (k : Sym N Q) : Sym N (diffP P Q) :=
  ⟨fun i hi j hj => by unfold diffP; rw [h.1 i hi j hj, k.1 i hi j hj], fun i hi => by unfold diffP; rw [h.2 i hi]; rfl⟩

theorem joinP_le (P : Nat → Nat → Bool) (X i j : Nat) (h : P i j = true) : joinP P X i j = true := by unfold joinP; rw [h]; rfl

theorem edB_adj (n : Nat) (P : Nat → Nat → Bool) {i j : Nat} (hi : i < n) (hj : j < n) : edB (adjL n P) i j = P i j := by
  unfold edB
  rw [adjL_bit n P i j hi hj]
  cases P i j <;> simp


theorem rowE_diff (n : Nat) (P Q : Nat → Nat → Bool) {v : Nat} (hv : v < n) : ∀ w, w ≤ n → rowE (adjL n (diffP P Q)) v w = (rowE (adjL n P) v w).filter (notQ Q)
  | 0, _ => rfl
  | w + 1, hw => by
    have ih := rowE_diff n P Q hv w (by omega)
    have e1 : edB (adjL n (diffP P Q)) v w = (P v w && !Q v w) := edB_adj n (diffP P Q) hv (show w < n by omega)
    have e2 := edB_adj n P hv (show w < n by omega)
    unfold rowE at ih ⊢
    rw [List.range_succ, List.filter_append, List.map_append, List.filter_append, List.map_append, List.filter_append, ih]
    congr 1
    have e3 : notQ Q [(v : Int), (w : Int)] = !Q v w := by unfold notQ nth; simp
    by_cases hvw : v < w
    · cases hp : P v w <;> cases hq : Q v w <;> rw [hp, hq] at e1 <;> rw [hp] at e2 <;> rw [hq] at e3 <;> simp [hvw, e1, e2, e3]
    · simp [hvw]

theorem allE_diff (n : Nat) (P Q : Nat → Nat → Bool) : ∀ v, v ≤ n → allE (adjL n (diffP P Q)) n v = (allE (adjL n P) n v).filter (notQ Q)
  | 0, _ => rfl
  | v + 1, hv => by rw [allE_succ, allE_succ, List.filter_append, allE_diff n P Q v (by omega), rowE_diff n P Q (show v < n by omega) n (Nat.le_refl _)]

end Go.Proofs.Ytgfndgjabhabjaa
