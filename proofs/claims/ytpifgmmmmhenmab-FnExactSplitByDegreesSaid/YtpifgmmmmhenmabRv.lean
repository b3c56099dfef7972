/- slices.Reverse, slices.Sort, slices.Compact of the call's own list. -/
import Derived.Test.YtpifgmmmmhenmabGl
import Derived.Test.YtpifgmmmmhenmabShelf
import Derived.Sort.OwnSortedInts
namespace Go.Proofs.Ytpifgmmmmhenmab
set_option linter.unusedVariables false
set_option linter.unusedSimpArgs false
open Go.RowKit Go.Shelf Go.Sort

def sortL (l : List Int) : List Int := l.mergeSort fun x y => decide (x ≤ y)

theorem inI64_sub {l m : List Int} (h : inI64 l) (hs : ∀ x ∈ m, x ∈ l) : inI64 m := fun x hx => h x (hs x hx)

theorem ownSort {B : Nat} {w : World} {v : Value} {l : List Int} (h : OwnI B w v l) (hl : l.length ≤ 1048576) (hv : ∃ g cap, v = .slice (some ⟨g, 0, none⟩) l.length cap) :
    Calls Try.prog 50 #[v] w fun e w' => e = .returned (.tuple #[]) ∧ OwnI B w' v (sortL l) ∧ w.grownBy w' v.ownBlock := by
  obtain ⟨h0, h1, h2⟩ := h
  rcases h2 with ⟨rfl, hn⟩ | ⟨g, cap, cur, rfl, hg, hk, hl', hm, hs, ht⟩
  · obtain ⟨g, cap, hv⟩ := hv
    cases hv
  · have ht' : cur.toList.take l.length = l.map (Value.int .i64) := by simpa [iv] using ht
    refine (Try.slices_Sort_int g 0 cap l w (holds_of_blockI hk ht') (Array.getElem?_eq_some_iff.1 hk).1 (by omega)).mono ?_
    rintro e w' ⟨rfl, n, os, rfl⟩
    refine ⟨rfl, ⟨inI64_sub h0 fun x hx => by simpa [sortL] using hx, ?_⟩, ?_⟩
    · have h5 := ownsRow_sortedI (n := n) (os := os) (ts := sortL l) (by simp [sortL]) hg hk hl' hm hs
      have h6 : (sortL l).length = l.length := by simp [sortL]
      rw [h6]
      exact h5
    · exact grownBy_sortedI (w := w) (g := g) (n := n) (os := os) (sortL l).toArray

end Go.Proofs.Ytpifgmmmmhenmab
