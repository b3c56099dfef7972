/- What the walks over laws carry from call to call. -/
import Derived.Test.YtpifgmmmmhenmabGg
namespace Go.Proofs.Ytpifgmmmmhenmab
set_option linter.unusedVariables false
set_option linter.unusedSimpArgs false
open Go.RowKit

/-- A graph in a box. -/
def BoxG (q : Nat) (n : Int) (v : Value) (w : World) : Prop := w.cell? ⟨q, 0, none⟩ = some (.int .i64 n) ∧ w.cell? ⟨q, 1, none⟩ = some v ∧ q < w.heap.size

theorem BoxG.keep {q : Nat} {n : Int} {v : Value} {w w' : World} {row : Option Nat} (h : BoxG q n v w) (hg : w.grownBy w' row) (hr : row ≠ some q) : BoxG q n v w' := by
  obtain ⟨hc, -⟩ := gcell hg
  exact ⟨by rw [hc q 0 h.2.2 (fun e => hr e.symm)]; exact h.1, by rw [hc q 1 h.2.2 (fun e => hr e.symm)]; exact h.2.1, Nat.lt_of_lt_of_le h.2.2 hg.size⟩

theorem BoxG.new (w : World) (T : TypeId) (n : Int) (v : Value) (hv : ∃ a len cap, v = .slice a len cap) : BoxG w.heap.size n v (w.alloc (.cells #[.int .i64 n, v] T)) := by
  obtain ⟨a, len, cap, rfl⟩ := hv
  exact ⟨by simp [go_sem], by simp [go_sem], by simp⟩

theorem below_grown {w w' : World} (h : Below w.heap.size w w') : w.grownBy w' none := ⟨h.os, h.tape, h.output, h.size, fun k hk _ => h.block k hk⟩

theorem OwnI.keep {B : Nat} {w w' : World} {v : Value} {l : List Int} {row : Option Nat} (h : OwnI B w v l) (hg : w.grownBy w' row) (hr : ∀ k, row = some k → ∀ j, v.ownBlock = some j → k ≠ j) : OwnI B w' v l := by
  refine h.kept hg ?_
  cases hv : v.ownBlock with
  | none => exact .inl rfl
  | some j =>
    right
    intro e
    exact hr j e.symm j hv rfl

theorem OwnI.nilform {B : Nat} {w : World} {v : Value} {l : List Int} (h : OwnI B w v l) : v = .slice none 0 0 ∨ ∃ ad cap, v = .slice (some ad) l.length cap := by
  rcases h.form with ⟨h, -⟩ | ⟨g, cap, h, -⟩
  · exact .inl h
  · exact .inr ⟨_, cap, h⟩

theorem OwnI.anyform {B : Nat} {w : World} {v : Value} {l : List Int} (h : OwnI B w v l) : ∃ a len cap, v = .slice a len cap := by
  obtain ⟨a, cap, hv, -, -⟩ := h.ints.form
  exact ⟨a, _, cap, hv⟩

theorem eq_below {w w' : World} (h : w = w') : Below w.heap.size w w' := h ▸ Below.refl _ _

end Go.Proofs.Ytpifgmmmmhenmab
