/- Walks over ComplementOf. -/
import Derived.Test.YtgfndgjabhabjacDoorG8
import Derived.StillTailTactics
namespace Go.Proofs.YtgfndgjabhabjacDoor
set_option linter.unusedVariables false
set_option linter.unusedSimpArgs false
open Go.RowKit

/-- The rows of the complement. -/
def compL (l : List Int) : List Int := adjL l.length (symR fun i j => !edB l i j)

theorem compL_length (l : List Int) : (compL l).length = l.length := adjL_length _ _

theorem compL_nth {n : Int} {l : List Int} (h : IsG n l) (v : Nat) (hv : v < l.length) : nth (compL l) v = 2 ^ n.toNat - 1 - nth l v - 2 ^ v := by
  have hn : n.toNat = l.length := by have := h.2.2.1; omega
  unfold compL
  rw [adjL_nth _ _ v hv, hn]
  have hx : nth l v = rowV (edB l v) l.length := by
    have := adj_of_isG h
    have h2 := adjL_nth l.length (fun i j => decide (bitAt (nth l i) j = 1)) v hv
    rw [← this] at h2
    exact h2
  have hd : edB l v v = false := by
    have := (h.2.2.2 v hv).1.2.2
    simp [edB, this]
  rw [hx, ← rowV_comp (edB l v) l.length v hv hd]
  refine rowV_congr _ _ _ fun j hj => ?_
  unfold symR
  rcases Nat.lt_trichotomy v j with h1 | h1 | h1
  · rw [if_pos h1]; simp; intro _; omega
  · subst h1; simp
  · rw [if_neg (by omega), if_pos h1]
    have : edB l j v = edB l v j := by unfold edB; rw [h.sym hv hj]
    show (!edB l j v) = (!edB l v j && decide (j ≠ v))
    rw [this]; simp; intro _; omega

theorem grown_set (w : World) (q j : Nat) (u : Value) : w.grownBy (w.setCell ⟨q, j, none⟩ u) (some q) :=
  ⟨rfl, rfl, rfl, by simp, fun k _ hk => Below.heap_setCell w ⟨q, j, none⟩ u k (fun e => hk (by rw [e]))⟩

theorem BoxG.setRows {q : Nat} {n : Int} {u v : Value} {w : World} (h : BoxG q n u w) : BoxG q n v (w.setCell ⟨q, 1, none⟩ v) :=
  ⟨by rw [World.cell?_setCell_other _ _ _ _ (by simp)]; exact h.1, World.cell?_setCell_same _ _ _ h.2.1, by simpa using h.2.2⟩

theorem take_nth (l : List Int) (k : Nat) (h : k < l.length) : l.take (k + 1) = l.take k ++ [nth l k] := by
  rw [List.take_succ_eq_append_getElem h]
  simp [nth, List.getD, h]

theorem compL_in {n : Int} {l : List Int} (h : IsG n l) : inI64 (compL l) := adjL_in _ _ (by have := h.2.2.1; have := h.2.1; omega)

theorem inI64_take {l : List Int} (h : inI64 l) (k : Nat) : inI64 (l.take k) := fun x hx => h x (List.mem_of_mem_take hx)

end Go.Proofs.YtgfndgjabhabjacDoor
