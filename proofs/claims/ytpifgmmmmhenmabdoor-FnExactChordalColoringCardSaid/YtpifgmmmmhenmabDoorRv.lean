/- slices.Reverse, slices.Sort, slices.Compact of the call's own list. -/
import Derived.Test.YtpifgmmmmhenmabDoorGl
import Derived.Test.YtpifgmmmmhenmabDoorShelf
import Derived.Sort.OwnSortedInts
namespace Go.Proofs.YtpifgmmmmhenmabDoor
set_option linter.unusedVariables false
set_option linter.unusedSimpArgs false
open Go.RowKit Go.Shelf Go.Sort

def sortL (l : List Int) : List Int := l.mergeSort fun x y => decide (x ≤ y)

theorem inI64_sub {l m : List Int} (h : inI64 l) (hs : ∀ x ∈ m, x ∈ l) : inI64 m := fun x hx => h x (hs x hx)

theorem ownReverse {B : Nat} {w : World} {v : Value} {l : List Int} (h : OwnI B w v l) (hl : l.length ≤ 1048576) :
    Calls Tryd.prog 51 #[v] w fun e w' => e = .returned (.tuple #[]) ∧ OwnI B w' v l.reverse ∧ w.grownBy w' v.ownBlock := by
  obtain ⟨h0, h1, h2⟩ := h
  rcases h2 with ⟨rfl, hn⟩ | ⟨g, cap, cur, rfl, hg, hk, hl', hm, hs, ht⟩
  · have hl0 : l = [] := List.eq_nil_of_length_eq_zero hn
    subst hl0
    refine (Tryd.slices_Reverse_int_empty none 0 w).mono ?_
    rintro e w' ⟨rfl, rfl⟩
    exact ⟨rfl, ⟨h0, h1, .inl ⟨rfl, rfl⟩⟩, World.grownBy.refl _ _⟩
  · have ht' : cur.toList.take l.length = l.map (Value.int .i64) := by simpa [iv] using ht
    refine (Tryd.slices_Reverse_int g 0 cap l w (holds_of_blockI hk ht') (by omega)).mono ?_
    rintro e w' ⟨rfl, n, rfl⟩
    refine ⟨rfl, ⟨inI64_sub h0 fun x hx => by simpa using hx, ?_⟩, ?_⟩
    · have h5 := ownsRow_sortedI (n := n) (os := #[]) (ts := l.reverse) (by simp) hg hk hl' hm hs
      rw [grow_empty] at h5
      have h6 : l.reverse.length = l.length := by simp
      rw [h6]
      exact h5
    · have h5 := grownBy_sortedI (w := w) (g := g) (n := n) (os := #[]) l.reverse.toArray
      rw [grow_empty] at h5
      exact h5

end Go.Proofs.YtpifgmmmmhenmabDoor
