/- Models by intervals: intervalsOf, IsModel. -/
import Derived.Test.YtpifgmmmmhenmabG3
import Derived.Test.YtpifgmmmmhenmabBx
import Derived.Test.YtpifgmmmmhenmabQ
import Derived.StillTailTactics
namespace Go.Proofs.Ytpifgmmmmhenmab
set_option linter.unusedVariables false
set_option linter.unusedSimpArgs false
open Go.RowKit

/-- One to seven intervals of numbers from 0 to 99. -/
def IvP (l m : List Int) : Prop := (1 ≤ l.length ∧ l.length ≤ 7) ∧ m.length = l.length ∧ ∀ i, i < l.length → 0 ≤ nth l i ∧ nth l i ≤ nth m i ∧ nth m i ≤ 99

instance (l m : List Int) : Decidable (IvP l m) := by unfold IvP; exact inferInstance

/-- A row of pairs of ints. -/
def PairRow (g : Nat) (l m : List Int) (w : World) : Prop := (∀ i, i < l.length → w.cell? ⟨g, i * 2, none⟩ = some (.int .i64 (nth l i)) ∧ w.cell? ⟨g, i * 2 + 1, none⟩ = some (.int .i64 (nth m i))) ∧ g < w.heap.size

theorem PairRow.on {g : Nat} {l m : List Int} {w w' : World} (h : PairRow g l m w) (hb : Below w.heap.size w w') : PairRow g l m w' :=
  ⟨fun i hi => ⟨(hb.cell (p := ⟨g, i * 2, none⟩) h.2).trans (h.1 i hi).1, (hb.cell (p := ⟨g, i * 2 + 1, none⟩) h.2).trans (h.1 i hi).2⟩, Nat.lt_of_lt_of_le h.2 hb.size⟩

/-- The same, filled up to j. -/
def PairsTo (g j : Nat) (l m : List Int) (w : World) : Prop := (∀ i, i < l.length → ∃ a b : Int, w.cell? ⟨g, i * 2, none⟩ = some (.int .i64 a) ∧ w.cell? ⟨g, i * 2 + 1, none⟩ = some (.int .i64 b) ∧ (i < j → a = nth l i ∧ b = nth m i)) ∧ (∀ o, w.frozen? ⟨g, o, none⟩ = false) ∧ g < w.heap.size

theorem PairsTo.full {g : Nat} {l m : List Int} {w : World} (h : PairsTo g l.length l m w) : PairRow g l m w :=
  ⟨fun i hi => by
    obtain ⟨a, b, h1, h2, h3⟩ := h.1 i hi
    obtain ⟨rfl, rfl⟩ := h3 hi
    exact ⟨h1, h2⟩, h.2.2⟩

theorem PairsTo.drew {g j : Nat} {l m : List Int} {w : World} (h : PairsTo g j l m w) : PairsTo g j l m w.drew := h

theorem PairsTo.on {g j : Nat} {l m : List Int} {w w' : World} (h : PairsTo g j l m w) (hb : Below w.heap.size w w') : PairsTo g j l m w' :=
  ⟨fun i hi => by
    obtain ⟨a, b, h1, h2, h3⟩ := h.1 i hi
    exact ⟨a, b, (hb.cell (p := ⟨g, i * 2, none⟩) h.2.2).trans h1, (hb.cell (p := ⟨g, i * 2 + 1, none⟩) h.2.2).trans h2, h3⟩, fun o => (hb.frozen (p := ⟨g, o, none⟩) h.2.2).trans (h.2.1 o), Nat.lt_of_lt_of_le h.2.2 hb.size⟩

theorem PairsTo.set {g j : Nat} {l m : List Int} {w : World} (h : PairsTo g j l m w) (hj : j < l.length) :
    PairsTo g (j + 1) l m ((w.setCell ⟨g, j * 2, none⟩ (.int .i64 (nth l j))).setCell ⟨g, j * 2 + 1, none⟩ (.int .i64 (nth m j))) := by
  refine ⟨fun i hi => ?_, fun o => by rw [World.frozen?_setCell, World.frozen?_setCell]; exact h.2.1 o, by simpa using h.2.2⟩
  obtain ⟨a, b, h1, h2, h3⟩ := h.1 i hi
  by_cases e : i = j
  · subst e
    refine ⟨nth l i, nth m i, ?_, ?_, fun _ => ⟨rfl, rfl⟩⟩
    · rw [World.cell?_setCell_other _ _ _ _ (by simp)]
      exact World.cell?_setCell_same w _ _ h1
    · refine World.cell?_setCell_same _ _ _ (u := .int .i64 b) ?_
      rw [World.cell?_setCell_other _ _ _ _ (by simp)]
      exact h2
  · refine ⟨a, b, ?_, ?_, fun hlt => h3 (by omega)⟩
    · rw [World.cell?_setCell_other _ _ _ _ (by simp <;> omega), World.cell?_setCell_other _ _ _ _ (by simp <;> omega)]
      exact h1
    · rw [World.cell?_setCell_other _ _ _ _ (by simp <;> omega), World.cell?_setCell_other _ _ _ _ (by simp <;> omega)]
      exact h2

theorem made2_cell (n k : Nat) (h : k < n * 2) : (madeCells #[Value.int .i64 0, Value.int .i64 0] (n * 2))[k]? = some (.int .i64 0) := by
  have hk : k % 2 = 0 ∨ k % 2 = 1 := by omega
  rcases hk with hk | hk <;> simp [madeCells, h, hk]

/-- The intervals of a model, as a row of pairs; no row, where it is no model. -/
def GetsIv (w : World) (l m : List Int) (e : Ending) (w' : World) : Prop := ∃ v, e = .returned (.tuple #[v, .bool (decide (IvP l m))]) ∧ (IvP l m → ∃ g, v = .slice (some ⟨g, 0, none⟩) l.length l.length ∧ w.heap.size ≤ g ∧ PairRow g l m w') ∧ (¬ IvP l m → v = .slice none 0 0) ∧ Below w.heap.size w w'

end Go.Proofs.Ytpifgmmmmhenmab
