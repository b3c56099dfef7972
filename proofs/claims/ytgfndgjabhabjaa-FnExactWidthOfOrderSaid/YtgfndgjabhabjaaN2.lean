/- Walks over the specification's NamedGraph. -/
import Derived.Test.YtgfndgjabhabjaaN1
import Derived.Test.YtgfndgjabhabjaaG6
namespace Go.Proofs.Ytgfndgjabhabjaa
set_option linter.unusedVariables false
set_option linter.unusedSimpArgs false
open Go.RowKit

def doneL (v m i j : Nat) : Bool := decide ((i < j ∧ (i < v ∨ i = v ∧ j < m)) ∨ (j < i ∧ (j < v ∨ j = v ∧ i < m)))

def partL (r : Nat → Nat → Bool) (v m i j : Nat) : Bool := symR r i j && doneL v m i j

theorem partL_comm (r : Nat → Nat → Bool) (v m i j : Nat) : partL r v m i j = partL r v m j i := by
  unfold partL doneL
  rw [symR_comm]
  congr 1
  exact decide_eq_decide.2 (by omega)

theorem partL_self (r : Nat → Nat → Bool) (v m i : Nat) : partL r v m i i = false := by simp [partL, symR_self]

theorem partL_open (r : Nat → Nat → Bool) (v m : Nat) (hv : v < m) : partL r v m v m = false := by
  unfold partL doneL
  rw [decide_eq_false (by omega)]
  simp

theorem L_no (n : Nat) (r : Nat → Nat → Bool) (v m : Nat) (hv : v < m) (hr : r v m = false) : adjL n (partL r v m) = adjL n (partL r v (m + 1)) := by
  refine adjL_congr _ _ _ fun i hi j hj => ?_
  unfold partL
  by_cases h : (i = v ∧ j = m) ∨ (i = m ∧ j = v)
  · have : symR r i j = false := by
      rcases h with ⟨rfl, rfl⟩ | ⟨rfl, rfl⟩
      · unfold symR; rw [if_pos hv]; exact hr
      · rw [symR_comm]; unfold symR; rw [if_pos hv]; exact hr
    rw [this]; rfl
  · congr 1
    unfold doneL
    exact decide_eq_decide.2 (by omega)

theorem L_yes (n : Nat) (r : Nat → Nat → Bool) (v m : Nat) (hv : v < m) (hm : m < n) (hr : r v m = true) : flipE (adjL n (partL r v m)) v m = adjL n (partL r v (m + 1)) := by
  rw [adjL_flip n _ v m (by omega) hm (by omega) (partL_open r v m hv) (by rw [partL_comm]; exact partL_open r v m hv)]
  refine adjL_congr _ _ _ fun i hi j hj => ?_
  unfold partL
  by_cases h : (i = v ∧ j = m) ∨ (i = m ∧ j = v)
  · have h1 : symR r i j = true := by
      rcases h with ⟨rfl, rfl⟩ | ⟨rfl, rfl⟩
      · unfold symR; rw [if_pos hv]; exact hr
      · rw [symR_comm]; unfold symR; rw [if_pos hv]; exact hr
    have h2 : doneL v (m + 1) i j = true := by unfold doneL; exact decide_eq_true (by omega)
    rw [h1, h2]
    rcases h with ⟨rfl, rfl⟩ | ⟨rfl, rfl⟩ <;> simp
  · have h1 : doneL v (m + 1) i j = doneL v m i j := by
      unfold doneL
      exact decide_eq_decide.2 (by omega)
    have h2 : (i == v && j == m) = false := by simp; omega
    have h3 : (i == m && j == v) = false := by simp; omega
    rw [h1, h2, h3]
    simp

theorem L_next (n : Nat) (r : Nat → Nat → Bool) (v : Nat) : adjL n (partL r v n) = adjL n (partL r (v + 1) (v + 1 + 1)) := by
  refine adjL_congr _ _ _ fun i hi j hj => ?_
  unfold partL
  congr 1
  unfold doneL
  exact decide_eq_decide.2 (by omega)

theorem L_none (n : Nat) (r : Nat → Nat → Bool) (i j : Nat) : partL r 0 1 i j = false := by
  unfold partL doneL
  rw [decide_eq_false (by omega)]
  simp

theorem L_all (n : Nat) (r : Nat → Nat → Bool) : adjL n (partL r n (n + 1)) = adjL n (symR r) := by
  refine adjL_congr _ _ _ fun i hi j hj => ?_
  unfold partL
  by_cases h : i = j
  · subst h; rw [symR_self]; rfl
  · rw [show doneL n (n + 1) i j = true by unfold doneL; exact decide_eq_true (by omega)]
    simp

theorem L_ok (n : Nat) (r : Nat → Nat → Bool) (v m : Nat) (h1 : 1 ≤ n) (h7 : n ≤ 7) (hv : v < m) (hm : m < n) : AddOk n (adjL n (partL r v m)) v m := by
  refine ⟨isG_adjL n _ h1 h7 (fun i _ => partL_self r v m i) (fun i j _ _ => partL_comm r v m i j), by omega, by omega, by omega, ?_⟩
  rw [Int.toNat_natCast, Int.toNat_natCast]
  unfold edB
  rw [adjL_bit n _ v m (by omega) hm, partL_open r v m hv]
  rfl

theorem gset (w : World) (q j : Nat) (u : Value) : w.grownBy (w.setCell ⟨q, j, none⟩ u) (some q) :=
  ⟨rfl, rfl, rfl, by simp, fun k _ hk => Below.heap_setCell w ⟨q, j, none⟩ u k (fun e => hk (by rw [e]))⟩

/-- A graph in a box that may be written. -/
def BoxF (q : Nat) (n : Int) (v : Value) (w : World) : Prop := BoxG q n v w ∧ w.frozen? ⟨q, 0, none⟩ = false ∧ w.frozen? ⟨q, 1, none⟩ = false

theorem BoxF.keep {q : Nat} {n : Int} {v : Value} {w w' : World} {row : Option Nat} (h : BoxF q n v w) (hg : w.grownBy w' row) (hr : row ≠ some q) : BoxF q n v w' := by
  obtain ⟨-, hf⟩ := gcell hg
  exact ⟨h.1.keep hg hr, by rw [hf q 0 h.1.2.2 (fun e => hr e.symm)]; exact h.2.1, by rw [hf q 1 h.1.2.2 (fun e => hr e.symm)]; exact h.2.2⟩

theorem BoxF.set {q : Nat} {n m : Int} {u v : Value} {w : World} (h : BoxF q n u w) : BoxF q m v ((w.setCell ⟨q, 0, none⟩ (.int .i64 m)).setCell ⟨q, 1, none⟩ v) := by
  refine ⟨⟨?_, ?_, by simpa using h.1.2.2⟩, by simpa using h.2.1, by simpa using h.2.2⟩
  · rw [World.cell?_setCell_other _ _ _ _ (by simp)]
    exact World.cell?_setCell_same _ _ _ h.1.1
  · refine World.cell?_setCell_same _ _ _ (u := u) ?_
    rw [World.cell?_setCell_other _ _ _ _ (by simp)]
    exact h.1.2.1

/-- The graph that is being made, in its box. -/
def Cur (w : World) (n : Nat) (L : List Int) (u : Value) (wr : World) : Prop :=
  OwnI (w.heap.size + 1) wr u L ∧ BoxF (w.heap.size + 2) n u wr ∧ Blank w.heap.size wr ∧ Below w.heap.size w wr ∧ ∀ k, u.ownBlock = some k → k ≠ w.heap.size + 2

theorem Cur.next {w wr w5 : World} {n : Nat} {L L' : List Int} {u v5 : Value} (h : Cur w n L u wr) (ho : OwnI wr.heap.size w5 v5 L') (hb : Below wr.heap.size wr w5) :
    Cur w n L' v5 ((w5.setCell ⟨w.heap.size + 2, 0, none⟩ (.int .i64 n)).setCell ⟨w.heap.size + 2, 1, none⟩ v5) := by
  obtain ⟨-, h2, h3, h4, -⟩ := h
  have hq := h2.1.2.2
  refine ⟨((ho.setBelow (a := ⟨w.heap.size + 2, 0, none⟩) hq _).setBelow (a := ⟨w.heap.size + 2, 1, none⟩) hq _).mono (by omega), (h2.keep (below_grown hb) (by simp)).set, ?_, ?_, fun k hk => ?_⟩
  · exact ((h3.keep (below_grown hb) (by simp)).keep (gset _ _ _ _) (by simp)).keep (gset _ _ _ _) (by simp)
  · exact ((h4.trans (hb.mono h4.size)).setCell (p := ⟨w.heap.size + 2, 0, none⟩) (by simp) _).setCell (p := ⟨w.heap.size + 2, 1, none⟩) (by simp) _
  · have := (ho.lt k hk).1
    omega

theorem Cur.init (w : World) (n : Nat) (r : Nat → Nat → Bool) (hn : n ≤ 7) :
    Cur w n (adjL n (partL r 0 1)) (.slice (some ⟨w.heap.size + 1, 0, none⟩) n n) (((w.alloc (.cells #[.int .i64 0, .slice none 0 0] 44)).alloc (.cells (madeCells #[.int .i64 0] n) 3)).alloc (.cells #[.int .i64 n, .slice (some ⟨w.heap.size + 1, 0, none⟩) n n] 44)) := by
  have hz : ∀ i, i < (adjL n (partL r 0 1)).length → (fun _ : Nat => Value.int .i64 0) i = .int .i64 (nth (adjL n (partL r 0 1)) i) := fun i hi => by
    rw [adjL_length] at hi
    rw [adjL_nth n _ i hi, rowV_congr _ _ n (fun j _ => L_none n r i j), rowV_none]
  have hrow := World.rowIs_made (w.alloc (.cells #[.int .i64 0, .slice none 0 0] 44)) (.int .i64 0) (adjL n (partL r 0 1)).length 3
  have hown := OwnI.of_row (B := w.heap.size + 1) (l := adjL n (partL r 0 1)) hrow hz (by simp) (adjL_in n _ hn) (by rw [adjL_length]; unfold maxLen; omega)
  simp only [adjL_length, World.size_alloc] at hown
  refine ⟨hown.alloc _, ⟨?_, by simp [go_sem], by simp [go_sem]⟩, ?_, ?_, fun k hk => ?_⟩
  · have := BoxG.new ((w.alloc (.cells #[.int .i64 0, .slice none 0 0] 44)).alloc (.cells (madeCells #[.int .i64 0] n) 3)) 44 n (.slice (some ⟨w.heap.size + 1, 0, none⟩) n n) ⟨_, _, _, rfl⟩
    simpa using this
  · exact ((Blank.new w _).keep (grown_alloc _ _ none) (by simp)).keep (grown_alloc _ _ none) (by simp)
  · exact (((Below.refl _ w).alloc (Nat.le_refl _) _).alloc (by simp) _).alloc (by simp <;> omega) _
  · have : w.heap.size + 1 = k := by simpa [Value.ownBlock] using hk
    omega

end Go.Proofs.Ytgfndgjabhabjaa
