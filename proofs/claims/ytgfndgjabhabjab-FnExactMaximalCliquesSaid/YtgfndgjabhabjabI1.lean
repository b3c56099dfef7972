/- Walks over the program's InducedOn. -/
import Derived.Test.YtgfndgjabhabjabG9
import Derived.Test.YtgfndgjabhabjabV7
namespace Go.Proofs.Ytgfndgjabhabjab
set_option linter.unusedVariables false
set_option linter.unusedSimpArgs false
open Go.RowKit

def klN (X i : Nat) : Nat := (memN X).getD i 0

def indP (l : List Int) (X i k : Nat) : Bool := edB l (klN X i) (klN X k)

/-- The rows of the graph on the members of a set. -/
def indR (l : List Int) (X : Nat) : List Int := adjL (memN X).length (indP l X)

theorem indR_length (l : List Int) (X : Nat) : (indR l X).length = (memN X).length := adjL_length _ _

theorem listR_nat {X : Nat} (h : X < 128) : listR (X : Int) = (memN X).map fun v : Nat => (v : Int) := by
  unfold listR
  rw [if_pos (by omega)]
  exact listU_nat X

theorem listR_len {X : Nat} (h : X < 128) : (listR (X : Int)).length = (memN X).length := by rw [listR_nat h]; simp

theorem listR_nth {X i : Nat} (h : X < 128) (hi : i < (memN X).length) : nth (listR (X : Int)) i = (klN X i : Int) := by
  rw [listR_nat h]
  simp [nth, klN, List.getD, hi]

theorem kl_bit {X i : Nat} (hi : i < (memN X).length) : klN X i < 7 ∧ X.testBit (klN X i) = true := by
  refine mem_memN (X := X) ?_
  unfold klN
  rw [List.getD_eq_getElem?_getD, List.getElem?_eq_getElem hi]
  exact List.getElem_mem hi

theorem kl_lt {X n i : Nat} (hX : X < 2 ^ n) (hi : i < (memN X).length) : klN X i < n := bit_lt hX (kl_bit hi).2

theorem ind_sym {n : Int} {l : List Int} (hg : IsG n l) {X : Nat} (hX : X < 2 ^ l.length) : adjL (memN X).length (symR (indP l X)) = indR l X := by
  refine adjL_congr _ _ _ fun i hi j hj => ?_
  have h1 := kl_lt hX hi
  have h2 := kl_lt hX hj
  unfold symR indP
  rcases Nat.lt_trichotomy i j with h | h | h
  · rw [if_pos h]
  · subst h
    rw [if_neg (by omega), if_neg (by omega)]
    have := (hg.2.2.2 _ h1).1.2.2
    simp [edB, this]
  · rw [if_neg (by omega), if_pos h]
    unfold edB
    rw [hg.sym h2 h1]

end Go.Proofs.Ytgfndgjabhabjab
