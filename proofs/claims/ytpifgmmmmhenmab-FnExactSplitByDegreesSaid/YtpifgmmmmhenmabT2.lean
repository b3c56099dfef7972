/- Parts of slices of ints. -/
import Derived.Test.YtpifgmmmmhenmabP1
namespace Go.Proofs.Ytpifgmmmmhenmab
set_option linter.unusedVariables false
set_option linter.unusedSimpArgs false
open Go.RowKit

theorem nth_take {l : List Int} {i j : Nat} (h : j < i) : nth (l.take i) j = nth l j := by
  simp [nth, List.getD, List.getElem?_take_of_lt h]

theorem nth_drop (l : List Int) (i j : Nat) : nth (l.drop i) j = nth l (i + j) := by
  simp [nth, List.getD, List.getElem?_drop]

theorem kl_take {l : List Int} {i j : Nat} (h : j < i) : kl (l.take i) j = kl l j := by
  unfold kl; rw [nth_take h]

theorem Ints.take {w : World} {a : Option Addr} {len cap : Nat} {l : List Int} (h : Ints w (.slice a len cap) l) {i : Nat} (hi : i ≤ l.length) : Ints w (.slice a i cap) (l.take i) := by
  obtain ⟨h0, a', cap', hv, hc, hm, h⟩ := h
  simp only [Value.slice.injEq] at hv
  obtain ⟨rfl, rfl, rfl⟩ := hv
  have hl : (l.take i).length = i := by rw [List.length_take]; omega
  refine ⟨fun x hx => h0 x (List.mem_of_mem_take hx), a, cap, by rw [hl], by omega, hm, ?_⟩
  rcases h with rfl | ⟨b, off, rfl, hlt, hcell⟩
  · exact .inl (by simp)
  · exact .inr ⟨b, off, rfl, hlt, fun j hj => by rw [nth_take (by omega)]; exact hcell j (by omega)⟩

theorem Ints.drop {w : World} {b off len cap : Nat} {l : List Int} (h : Ints w (.slice (some ⟨b, off, none⟩) len cap) l) {i : Nat} (hi : i < l.length) : Ints w (.slice (some ⟨b, off + i, none⟩) (len - i) (cap - i)) (l.drop i) := by
  obtain ⟨h0, a', cap', hv, hc, hm, h⟩ := h
  simp only [Value.slice.injEq] at hv
  obtain ⟨rfl, rfl, rfl⟩ := hv
  refine ⟨fun x hx => h0 x (List.mem_of_mem_drop hx), _, _, by rw [List.length_drop], by rw [List.length_drop]; omega, by unfold maxLen at hm ⊢; omega, ?_⟩
  rcases h with rfl | ⟨b', off', hv, hlt, hcell⟩
  · simp at hi
  · simp only [Option.some.injEq, Addr.mk.injEq, and_true] at hv
    obtain ⟨rfl, rfl⟩ := hv
    refine .inr ⟨b, off + i, rfl, hlt, fun j hj => ?_⟩
    rw [List.length_drop] at hj
    rw [nth_drop, Nat.add_assoc]
    exact hcell (i + j) (by omega)

end Go.Proofs.Ytpifgmmmmhenmab
