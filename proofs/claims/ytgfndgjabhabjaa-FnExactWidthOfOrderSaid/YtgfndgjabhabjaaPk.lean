/- Elements of a slice of slices, handed on: an append of inner slices. -/
import Derived.Test.YtgfndgjabhabjaaS3
namespace Go.Proofs.Ytgfndgjabhabjaa
set_option linter.unusedVariables false
set_option linter.unusedSimpArgs false
open Go.RowKit

theorem elt_map (js : List Nat) (vs : List Value) (i : Nat) (h : i < js.length) : elt (js.map (elt vs)) i = elt vs (js.getD i 0) := by
  simp [elt, List.getD, h]

theorem subL_map (js : List Nat) (L : List (List Int)) (i : Nat) (h : i < js.length) : subL (js.map (subL L)) i = subL L (js.getD i 0) := by
  simp [subL, List.getD, h]

theorem pkD_mem (js : List Nat) (i : Nat) (h : i < js.length) : js.getD i 0 ∈ js := by
  rw [List.getD_eq_getElem?_getD, List.getElem?_eq_getElem h]
  exact List.getElem_mem h

/-- A row of the call's own that holds some of the elements of another one, each once. -/
theorem OwnV.pick {lo hi B : Nat} {W : World} {vl v : Value} {vsL : List Value} {L : List (List Int)} (h : OwnV lo hi W vl vsL L) {js : List Nat} (hj : ∀ j ∈ js, j < L.length) (hnd : js.Nodup) (hB : lo ≤ B)
    (own : W.ownsRow B 22 1 v js.length (js.map (elt vsL))) : OwnII lo W.heap.size W v (js.map (subL L)) := by
  obtain ⟨h1, h2, h3, h4, h5, h6⟩ := h
  refine ⟨js.map (elt vsL), by simp, ?_, fun i hi => ?_, fun i k hi hk => ?_, fun k hk => (own.lt k hk).2, fun i j k hi hj' hik hjk => ?_⟩
  · rw [List.length_map]; exact Go.Joins.ownsRow_le own hB
  · rw [List.length_map] at hi
    rw [elt_map _ _ _ hi, subL_map _ _ _ hi]
    exact h3 _ (hj _ (pkD_mem js i hi))
  · rw [List.length_map] at hi
    rw [elt_map _ _ _ hi] at hk
    exact ((h3 _ (hj _ (pkD_mem js i hi))).lt k hk).2
  · rw [List.length_map] at hi hj'
    rw [elt_map _ _ _ hi] at hik
    rw [elt_map _ _ _ hj'] at hjk
    have e := h6 _ _ k (hj _ (pkD_mem js i hi)) (hj _ (pkD_mem js j hj')) hik hjk
    simp only [List.getD_eq_getElem?_getD, List.getElem?_eq_getElem hi, List.getElem?_eq_getElem hj', Option.getD_some] at e
    exact (List.getElem_inj hnd).1 e

theorem range_sub (L : List (List Int)) : (List.range L.length).map (subL L) = L := by
  refine List.ext_getElem (by simp) fun i h1 h2 => ?_
  simp [subL, List.getD, h2]

/-- Those of the first k elements that are wanted, by their places. -/
def pickJ (q : List Int → Bool) (L : List (List Int)) (k : Nat) : List Nat := (List.range k).filter fun j => q (subL L j)

theorem pickJ_all (q : List Int → Bool) (L : List (List Int)) : (pickJ q L L.length).map (subL L) = L.filter q := by
  have h := List.filter_map (f := subL L) (p := q) (l := List.range L.length)
  rw [range_sub] at h
  rw [h]; rfl

theorem pickJ_yes {q : List Int → Bool} {L : List (List Int)} {k : Nat} (h : q (subL L k) = true) : pickJ q L (k + 1) = pickJ q L k ++ [k] := by
  unfold pickJ
  rw [List.range_succ, List.filter_append]
  simp [h]

theorem pickJ_no {q : List Int → Bool} {L : List (List Int)} {k : Nat} (h : q (subL L k) = false) : pickJ q L (k + 1) = pickJ q L k := by
  unfold pickJ
  rw [List.range_succ, List.filter_append]
  simp [h]

theorem pickJ_length (q : List Int → Bool) (L : List (List Int)) (k : Nat) : (pickJ q L k).length ≤ k := by
  unfold pickJ
  have := List.length_filter_le (fun j => q (subL L j)) (List.range k)
  simpa using this

theorem pickJ_lt (q : List Int → Bool) (L : List (List Int)) (k : Nat) : ∀ j ∈ pickJ q L k, j < k := fun j h => by
  unfold pickJ at h
  exact List.mem_range.1 (List.mem_filter.1 h).1

theorem pickJ_nodup (q : List Int → Bool) (L : List (List Int)) (k : Nat) : (pickJ q L k).Nodup := List.nodup_range.filter _

/-- Is this edge not among Q? -/
def notQ (Q : Nat → Nat → Bool) (e : List Int) : Bool := !Q (nth e 0).toNat (nth e 1).toNat

theorem allE_mem {l : List Int} {n v : Nat} {x : List Int} (h : x ∈ allE l n v) : ∃ i j : Nat, i < v ∧ i < j ∧ j < n ∧ x = [(i : Int), (j : Int)] := by
  unfold allE rowE at h
  simp only [List.mem_flatMap, List.mem_map, List.mem_filter, List.mem_range] at h
  obtain ⟨i, hi, j, ⟨hj, hp⟩, rfl⟩ := h
  simp at hp
  exact ⟨i, j, hi, hp.1, hj, rfl⟩

theorem edges_mem {n : Int} {l : List Int} {k : Nat} (h : k < (edgesR n l).length) : ∃ i j : Nat, i < j ∧ j < l.length ∧ j < 7 ∧ subL (edgesR n l) k = [(i : Int), (j : Int)] := by
  have hm : subL (edgesR n l) k ∈ edgesR n l := by
    unfold subL
    rw [List.getD_eq_getElem?_getD, List.getElem?_eq_getElem h]
    exact List.getElem_mem h
  obtain ⟨x, hx⟩ : ∃ x, x = subL (edgesR n l) k := ⟨_, rfl⟩
  rw [← hx] at hm ⊢
  unfold edgesR at hm
  split at hm
  · rename_i hg
    obtain ⟨i, j, hi, hij, hj, rfl⟩ := allE_mem hm
    have := hg.2.1
    have := hg.2.2.1
    exact ⟨i, j, hij, hj, by omega, rfl⟩
  · cases hm

end Go.Proofs.Ytgfndgjabhabjaa
