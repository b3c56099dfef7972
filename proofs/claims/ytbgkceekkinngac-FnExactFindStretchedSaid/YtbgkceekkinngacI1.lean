/- Walks over the program's InducedOn. -/
import Derived.Test.YtbgkceekkinngacG9
import Derived.Test.YtbgkceekkinngacV7
namespace Go.Proofs.Ytbgkceekkinngac
set_option linter.unusedVariables false
set_option linter.unusedSimpArgs false
open Go.RowKit

def klN (X i : Nat) : Nat := (memN X).getD i 0

def indP (l : List Int) (X i k : Nat) : Bool := edB l (klN X i) (klN X k)

/-- The rows of the graph on the members of a set. -/
def indR (l : List Int) (X : Nat) : List Int := adjL (memN X).length (indP l X)

theorem indR_length (l : List Int) (X : Nat) : (indR l X).length = (memN X).length := adjL_length _ _

theorem listR_nat {X : Nat} (h : X < 128) : listR (X : Int) = (memN X).map fun v : Nat => (v : Int) := by
  unfold listR
  rw [if_pos (by omega)]
  exact listU_nat X

theorem listR_len {X : Nat} (h : X < 128) : (listR (X : Int)).length = (memN X).length := by rw [listR_nat h]; simp

theorem listR_nth {X i : Nat} (h : X < 128) (hi : i < (memN X).length) : nth (listR (X : Int)) i = (klN X i : Int) := by
  rw [listR_nat h]
  simp [nth, klN, List.getD, hi]

theorem kl_bit {X i : Nat} (hi : i < (memN X).length) : klN X i < 7 ∧ X.testBit (klN X i) = true := by
  refine mem_memN (X := X) ?_
  unfold klN
  rw [List.getD_eq_getElem?_getD, List.getElem?_eq_getElem hi]
  exact List.getElem_mem hi

theorem kl_lt {X n i : Nat} (hX : X < 2 ^ n) (hi : i < (memN X).length) : klN X i < n := bit_lt hX (kl_bit hi).2

theorem ind_sym {n : Int} {l : List Int} (hg : IsG n l) {X : Nat} (hX : X < 2 ^ l.length) : adjL (memN X).length (symR (indP l X)) = indR l X := by
  refine adjL_congr _ _ _ fun i hi j hj => ?_
  have h1 := kl_lt hX hi
  have h2 := kl_lt hX hj
  unfold symR indP
  rcases Nat.lt_trichotomy i j with h | h | h
  · rw [if_pos h]
  · subst h
    rw [if_neg (by omega), if_neg (by omega)]
    have := (hg.2.2.2 _ h1).1.2.2
    simp [edB, this]
  · rw [if_neg (by omega), if_pos h]
    unfold edB
    rw [hg.sym h2 h1]

set_option maxRecDepth 100000 in
theorem enters_ind : Enters 104 := fun args W => by rfl

set_option maxHeartbeats 1000000 in
set_option maxRecDepth 100000 in
theorem rule_ind (q qk : Nat) (n : Int) (v vk : Value) (l : List Int) (X : Nat) (W0 : World) (hX : X < 2 ^ l.length) (hX7 : X < 128) (hb : BoxG q n v W0) (hk : Boxed W0 qk 22 vk) (hI : Ints W0 v l) (hK : Ints W0 vk (listR X)) :
    Rule 104 #[.pointer (some ⟨q, 0, none⟩), .pointer (some ⟨qk, 0, none⟩)] (memN X).length (indP l X) W0 := by
  intro W i j hij hj hbel
  obtain ⟨c0, c1, cz⟩ := hb.keep (below_grown hbel) (by simp)
  have k0 := (hk.kept (below_grown hbel) (by simp)).cell
  obtain ⟨a, cap, rfl, -, -⟩ := hI.form
  have HI := Lib.hid (hI.on hbel)
  have hlr := listR_len hX7
  obtain ⟨bk, offk, capk, rfl, _, hmx, hbk, hcell⟩ := (hK.on hbel).pos (by omega)
  have e0 := hcell i (by omega)
  have e1 := hcell j (by omega)
  rw [listR_nth hX7 (by omega)] at e0
  rw [listR_nth hX7 hj] at e1
  rw [hlr] at k0
  have h1 := kl_lt hX (show i < (memN X).length by omega)
  have h2 := (kl_bit hj).1
  have HP := Lib.hid (show edB l (klN X i) (klN X j) = indP l X i j from rfl)
  obtain ⟨ki, hki⟩ : ∃ ki, ki = klN X i := ⟨_, rfl⟩
  obtain ⟨kj, hkj⟩ : ∃ kj, kj = klN X j := ⟨_, rfl⟩
  rw [← hki, ← hkj] at HP
  rw [← hki] at e0 h1
  rw [← hkj] at e1 h2
  obtain ⟨m, hm⟩ : ∃ m, m = (memN X).length := ⟨_, rfl⟩
  rw [← hm] at k0 hj
  have hij' : i < m := by omega
  unfold maxLen at hmx
  rw [hlr, ← hm] at *
  clear hb hI hbel hk hK hcell hki hkj hlr
  show Calls Try.prog 104 #[.int .i64 i, .int .i64 j, .pointer (some ⟨q, 0, none⟩), .pointer (some ⟨qk, 0, none⟩)] W _
  go_enter Try.func104, Try.ntmps104
  go_wp2
  go_still_tail 9, (by kernel_rfl)
  change wpList _ _ _ _ _ W.drew
  go_wp2_with fail
  refine (areJoined_is n _ l ki kj _ (HI.out.on (Below.refl _ _).drew) h1 (by omega)).mono ?_
  rintro e w1 ⟨rfl, hb⟩
  have HB := Lib.hid ((Below.refl W.heap.size W).drew.trans hb)
  clear hb
  go_wp2
  go_ret
  exact ⟨by rw [HP.out]; rfl, HB.out⟩

end Go.Proofs.Ytbgkceekkinngac
