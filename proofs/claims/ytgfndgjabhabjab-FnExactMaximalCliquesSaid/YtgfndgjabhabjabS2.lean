/- Walks over EdgesOf. -/
import Derived.Test.YtgfndgjabhabjabS1
import Derived.Test.YtgfndgjabhabjabG4
import Derived.Test.YtgfndgjabhabjabGq
namespace Go.Proofs.Ytgfndgjabhabjab
set_option linter.unusedVariables false
set_option linter.unusedSimpArgs false
open Go.RowKit

theorem infoInts : (Try.prog.info? 22).map (fun i => (i.zero, i.size, i.bytes)) = some (some (.slice none 0 0), 1, 24) := by kernel_rfl

theorem OwnII.mono {lo hi lo' hi' : Nat} {w : World} {v : Value} {ll : List (List Int)} (h : OwnII lo hi w v ll) (h1 : lo' ≤ lo) (h2 : hi ≤ hi') : OwnII lo' hi' w v ll := by
  obtain ⟨vs, a1, a2, a3, a4, a5, a6⟩ := h
  exact ⟨vs, a1, Go.Joins.ownsRow_le a2 h1, fun i hi => (a3 i hi).mono h1, fun i k hi hk => by have := a4 i k hi hk; omega, fun k hk => by have := a5 k hk; omega, a6⟩

theorem elt_snoc (vs : List Value) (x : Value) (i : Nat) : elt (vs ++ [x]) i = if i < vs.length then elt vs i else if i = vs.length then x else undef := by
  unfold elt
  rw [List.getD_eq_getElem?_getD, List.getD_eq_getElem?_getD]
  by_cases h : i < vs.length
  · rw [if_pos h, List.getElem?_append_left h]
  · rw [if_neg h]
    by_cases e : i = vs.length
    · subst e; simp
    · rw [if_neg e, List.getElem?_eq_none (by simp; omega)]; rfl

theorem subL_snoc (ll : List (List Int)) (x : List Int) (i : Nat) (h : i ≤ ll.length) : subL (ll ++ [x]) i = if i < ll.length then subL ll i else x := by
  unfold subL
  rw [List.getD_eq_getElem?_getD, List.getD_eq_getElem?_getD]
  by_cases h' : i < ll.length
  · rw [if_pos h', List.getElem?_append_left h']
  · obtain rfl : i = ll.length := by omega
    rw [if_neg h']; simp

/-- One pair more. -/
theorem OwnV.snoc {lo hi : Nat} {wr w' : World} {v v' : Value} {vs : List Value} {ll : List (List Int)} (h : OwnV lo hi wr v vs ll) (hlo : lo ≤ wr.heap.size) (a b : Int) (ha : -9223372036854775808 ≤ a ∧ a ≤ 9223372036854775807) (hb : -9223372036854775808 ≤ b ∧ b ≤ 9223372036854775807)
    (own : w'.ownsRow lo 22 1 v' (ll.length + 1) (vs ++ [.slice (some ⟨wr.heap.size, 0, none⟩) 2 2]))
    (hg : ((wr.alloc (.cells #[.int .i64 a, .int .i64 b] 3)).alloc (.cells #[.slice (some ⟨wr.heap.size, 0, none⟩) 2 2] 22)).grownBy w' v.ownBlock) : OwnII lo w'.heap.size w' v' (ll ++ [[a, b]]) := by
  obtain ⟨h1, h2, h3, h4, h5, h6⟩ := h
  obtain ⟨w2, hw2⟩ : ∃ w2, w2 = (wr.alloc (.cells #[.int .i64 a, .int .i64 b] 3)).alloc (.cells #[.slice (some ⟨wr.heap.size, 0, none⟩) 2 2] 22) := ⟨_, rfl⟩
  rw [← hw2] at hg
  have hnew : OwnI lo w2 (.slice (some ⟨wr.heap.size, 0, none⟩) 2 2) [a, b] := by
    rw [hw2]
    refine OwnI.alloc ⟨?_, ?_⟩ _
    · intro x hx
      simp at hx
      rcases hx with rfl | rfl
      · exact ha
      · exact hb
    · exact World.ownsRow_lit wr #[.int .i64 a, .int .i64 b] 2 (e := 3) (base := lo) hlo (by simp [maxLen]) (size := 1) rfl
  have hold : ∀ i, i < ll.length → OwnI lo w' (elt vs i) (subL ll i) := fun i hi => by
    have h0 : OwnI lo w2 (elt vs i) (subL ll i) := by rw [hw2]; exact ((h3 i hi).alloc _).alloc _
    exact h0.block fun k hk => hg.block k (h0.lt k hk).2 fun e => inner_ne (h3 i hi) h2 k hk e.symm
  have hnew' : OwnI lo w' (.slice (some ⟨wr.heap.size, 0, none⟩) 2 2) [a, b] := hnew.block fun k hk => hg.block k (hnew.lt k hk).2 fun e => by
    have h7 : k = wr.heap.size := by simpa [Value.ownBlock] using hk.symm
    have := (h2.lt k e.symm).2
    omega
  have hlt : ∀ i, i < ll.length → ∀ k, (elt vs i).ownBlock = some k → k < wr.heap.size := fun i hi k hk => ((h3 i hi).lt k hk).2
  refine ⟨vs ++ [.slice (some ⟨wr.heap.size, 0, none⟩) 2 2], by simp [h1], by simpa using own, fun i hi => ?_, fun i k hi hk => ?_, fun k hk => (own.lt k hk).2, fun i j k hi hj hik hjk => ?_⟩
  · simp only [List.length_append, List.length_singleton] at hi
    rw [elt_snoc, subL_snoc ll _ i (by omega), h1]
    by_cases e : i < ll.length
    · rw [if_pos e, if_pos e]; exact hold i e
    · obtain rfl : i = ll.length := by omega
      rw [if_neg e, if_neg e, if_pos rfl]; exact hnew'
  · simp only [List.length_append, List.length_singleton] at hi
    rw [elt_snoc, h1] at hk
    by_cases e : i < ll.length
    · rw [if_pos e] at hk; exact ((hold i e).lt k hk).2
    · obtain rfl : i = ll.length := by omega
      rw [if_neg e, if_pos rfl] at hk; exact (hnew'.lt k hk).2
  · simp only [List.length_append, List.length_singleton] at hi hj
    rw [elt_snoc, h1] at hik hjk
    by_cases e : i < ll.length
    · rw [if_pos e] at hik
      by_cases e' : j < ll.length
      · rw [if_pos e'] at hjk; exact h6 i j k e e' hik hjk
      · obtain rfl : j = ll.length := by omega
        rw [if_neg e', if_pos rfl] at hjk
        have h7 : k = wr.heap.size := by simpa [Value.ownBlock] using hjk.symm
        have := hlt i e k hik
        omega
    · obtain rfl : i = ll.length := by omega
      rw [if_neg e, if_pos rfl] at hik
      have h7 : k = wr.heap.size := by simpa [Value.ownBlock] using hik.symm
      by_cases e' : j < ll.length
      · rw [if_pos e'] at hjk
        have := hlt j e' k hjk
        omega
      · omega

/-- The edges of one vertex up to another. -/
def rowE (l : List Int) (v w : Nat) : List (List Int) := ((List.range w).filter fun j => decide (v < j) && edB l v j).map fun j : Nat => [(v : Int), (j : Int)]

def allE (l : List Int) (n v : Nat) : List (List Int) := (List.range v).flatMap fun i => rowE l i n

theorem rowE_yes (l : List Int) (v w : Nat) (h : v < w) (he : edB l v w = true) : rowE l v (w + 1) = rowE l v w ++ [[(v : Int), (w : Int)]] := by
  unfold rowE
  rw [List.range_succ, List.filter_append, List.map_append]
  simp [h, he]

theorem rowE_no (l : List Int) (v w : Nat) (he : edB l v w = false) : rowE l v (w + 1) = rowE l v w := by
  unfold rowE
  rw [List.range_succ, List.filter_append, List.map_append]
  simp [he]

theorem rowE_none (l : List Int) (v : Nat) : rowE l v (v + 1) = [] := by
  unfold rowE
  rw [List.filter_eq_nil_iff.2, List.map_nil]
  intro j hj
  simp at hj
  simp; omega

theorem allE_succ (l : List Int) (n v : Nat) : allE l n (v + 1) = allE l n v ++ rowE l v n := by
  unfold allE
  rw [List.range_succ, List.flatMap_append]
  simp

theorem rowE_length (l : List Int) (v w : Nat) : (rowE l v w).length ≤ w := by
  unfold rowE
  have := List.length_filter_le (fun j => decide (v < j) && edB l v j) (List.range w)
  simpa using this

theorem allE_length (l : List Int) (n v : Nat) (hn : n ≤ 7) : (allE l n v).length ≤ 7 * v := by
  induction v with
  | zero => simp [allE]
  | succ v ih =>
    rw [allE_succ, List.length_append]
    have := rowE_length l v n
    omega

theorem tot_pairs (ll : List (List Int)) (h : ∀ x ∈ ll, x.length = 2) : tot ll = 2 * ll.length := by
  induction ll with
  | nil => rfl
  | cons x t ih =>
    have h1 := h x (by simp)
    have h2 := ih fun y hy => h y (by simp [hy])
    simp only [tot, List.length_cons]
    omega

def edgesR (n : Int) (l : List Int) : List (List Int) := if IsG n l then allE l l.length l.length else []

theorem edgesR_length (n : Int) (l : List Int) : (edgesR n l).length ≤ 49 := by
  unfold edgesR
  split
  · rename_i h
    have := h.2.1
    have := h.2.2.1
    have := allE_length l l.length l.length (by omega)
    omega
  · simp

theorem edgesR_tot (n : Int) (l : List Int) : tot (edgesR n l) ≤ 98 := by
  have h1 := edgesR_length n l
  rw [tot_pairs]
  · omega
  · intro x hx
    unfold edgesR at hx
    split at hx
    · unfold allE rowE at hx
      simp only [List.mem_flatMap, List.mem_map] at hx
      obtain ⟨i, -, j, -, rfl⟩ := hx
      rfl
    · cases hx

/-- A slice of slices that the call owns. -/
def GetsII (w : World) (ll : List (List Int)) (e : Ending) (w' : World) : Prop := ∃ v, e = .returned v ∧ OwnII w.heap.size w'.heap.size w' v ll ∧ Below w.heap.size w w'

end Go.Proofs.Ytgfndgjabhabjab
