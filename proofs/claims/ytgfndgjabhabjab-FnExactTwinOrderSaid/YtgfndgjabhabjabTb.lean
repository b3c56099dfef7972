/- TwinOrder, plain: the pairs that the specification asks. -/
import Derived.Test.YtgfndgjabhabjabTa
namespace Go.Proofs.Ytgfndgjabhabjab
set_option linter.unusedVariables false
set_option linter.unusedSimpArgs false
open Go.RowKit

def pairN (k j : Nat) : Nat := 2 ^ k ||| 2 ^ j

def pairP (l : List Int) (X k j : Nat) : Bool := k != j && ((X &&& pairN k j == pairN k j) && (rowN l k &&& (X - pairN k j) == rowN l j &&& (X - pairN k j)))

def anyT (l : List Int) (X k j : Nat) : Bool := (List.range j).any (pairP l X k)

theorem anyT_succ (l : List Int) (X k j : Nat) : anyT l X k (j + 1) = (anyT l X k j || pairP l X k j) := by
  unfold anyT
  rw [List.range_succ, List.any_append]
  simp

theorem andNot_bitsT {a b : Nat} (ha : a < 128) (hb : b < 128) : bits .andNot .i64 (a : Int) (b : Int) = ((a &&& (127 ^^^ b) : Nat) : Int) := by
  have : ∀ (a b : Fin 128), bits .andNot .i64 ((a.val : Nat) : Int) ((b.val : Nat) : Int) = ((a.val &&& (127 ^^^ b.val) : Nat) : Int) := by decide +kernel
  exact this ⟨a, ha⟩ ⟨b, hb⟩

theorem xor_natT {a b : Nat} (ha : a < 128) (hb : b < 128) : bits .xor .i64 (a : Int) (b : Int) = ((a ^^^ b : Nat) : Int) := by
  have : ∀ (a b : Fin 128), bits .xor .i64 ((a.val : Nat) : Int) ((b.val : Nat) : Int) = ((a.val ^^^ b.val : Nat) : Int) := by decide +kernel
  exact this ⟨a, ha⟩ ⟨b, hb⟩

theorem pair_bit (k j i : Nat) : (pairN k j).testBit i = true ↔ i = k ∨ i = j := by
  unfold pairN
  rw [Nat.testBit_or, Bool.or_eq_true, Nat.testBit_two_pow, Nat.testBit_two_pow, decide_eq_true_eq, decide_eq_true_eq]
  exact ⟨fun h => h.elim (fun e => .inl e.symm) (fun e => .inr e.symm), fun h => h.elim (fun e => .inl e.symm) (fun e => .inr e.symm)⟩

theorem pair_sub {X k j : Nat} : (X &&& pairN k j = pairN k j) ↔ X.testBit k = true ∧ X.testBit j = true := by
  constructor
  · intro h
    have key : ∀ i, (pairN k j).testBit i = true → X.testBit i = true := fun i hi => by
      rw [← h, Nat.testBit_and, Bool.and_eq_true] at hi
      exact hi.1
    exact ⟨key k ((pair_bit k j k).2 (.inl rfl)), key j ((pair_bit k j j).2 (.inr rfl))⟩
  · rintro ⟨h1, h2⟩
    refine eq_of_bits fun i => ?_
    rw [Nat.testBit_and, Bool.and_eq_true]
    refine ⟨fun h => h.2, fun h => ⟨?_, h⟩⟩
    rcases (pair_bit k j i).1 h with rfl | rfl
    · exact h1
    · exact h2

theorem pair_lt {k j : Nat} (hk : k < 7) (hj : j < 7) : pairN k j < 128 := by
  have h1 : 2 ^ k < 2 ^ 7 := Nat.pow_lt_pow_right (by decide) hk
  have h2 : 2 ^ j < 2 ^ 7 := Nat.pow_lt_pow_right (by decide) hj
  have := Nat.or_lt_two_pow h1 h2
  simpa [pairN] using this

theorem twin_pair {n : Int} {l : List Int} (hg : IsG n l) {X k j : Nat} (hX : X < 2 ^ l.length) (hk : X.testBit k = true) (hj : X.testBit j = true) :
    twinP l X k j = (rowN l k &&& (X - pairN k j) == rowN l j &&& (X - pairN k j)) := by
  have hl : l.length ≤ 7 := by have := hg.2.1; have := hg.2.2.1; omega
  have h128 := two_le l.length hl
  have hX7 : X < 128 := by omega
  have hkl := bit_lt hX hk
  have hjl := bit_lt hX hj
  obtain ⟨k1, k2⟩ := hg.row_lt k hkl
  obtain ⟨j1, j2⟩ := hg.row_lt j hjl
  have hP := pair_lt (show k < 7 by omega) (show j < 7 by omega)
  have hp1 : 2 ^ k < 128 := by have := Nat.pow_lt_pow_right (show 1 < 2 by decide) (show k < 7 by omega); simpa using this
  have hp2 : 2 ^ j < 128 := by have := Nat.pow_lt_pow_right (show 1 < 2 by decide) (show j < 7 by omega); simpa using this
  have hs : Sub (pairN k j) X := fun i hi => by
    rcases (pair_bit k j i).1 hi with rfl | rfl
    · exact hk
    · exact hj
  have hxr : rowN l k ^^^ rowN l j < 128 := by
    have := Nat.xor_lt_two_pow (n := 7) (show rowN l k < 2 ^ 7 by omega) (show rowN l j < 2 ^ 7 by omega)
    simpa using this
  have hxa : (rowN l k ^^^ rowN l j) &&& X < 128 := by
    have := Nat.and_lt_two_pow (n := 7) (rowN l k ^^^ rowN l j) (show X < 2 ^ 7 by omega)
    simpa using this
  have e1 : ((2 : Int) ^ k) = ((2 ^ k : Nat) : Int) := by push_cast; rfl
  have e2 : ((2 : Int) ^ j) = ((2 ^ j : Nat) : Int) := by push_cast; rfl
  unfold twinP
  rw [k2, j2, xor_natT (by omega) (by omega), (bits_nat _ X hxr hX7).1, e1, e2, (bits_nat _ _ hp1 hp2).2]
  show (bits .andNot .i64 _ ((pairN k j : Nat) : Int) == 0) = _
  rw [andNot_bitsT hxa hP, Bool.eq_iff_iff, beq_iff_eq, beq_iff_eq]
  constructor
  · intro h
    have h0 : (rowN l k ^^^ rowN l j) &&& X &&& (127 ^^^ pairN k j) = 0 := by exact_mod_cast h
    refine eq_of_bits fun i => ?_
    rw [Nat.testBit_and, Nat.testBit_and, Bool.and_eq_true, Bool.and_eq_true]
    have key : (X - pairN k j).testBit i = true → (rowN l k).testBit i = (rowN l j).testBit i := fun hi => by
      obtain ⟨a1, a2⟩ := (minus_bit hX7 hs i).1 hi
      have hi7 : i < 7 := by have := bit_lt hX a1; omega
      have h3 : ((rowN l k ^^^ rowN l j) &&& X &&& (127 ^^^ pairN k j)).testBit i = false := by rw [h0]; simp
      rw [Nat.testBit_and, Nat.testBit_and, Nat.testBit_xor, Nat.testBit_xor, a1, a2] at h3
      have h127 : (127 : Nat).testBit i = true := by
        have : ∀ i : Fin 7, (127 : Nat).testBit i.val = true := by decide
        exact this ⟨i, hi7⟩
      rw [h127] at h3
      revert h3
      cases (rowN l k).testBit i <;> cases (rowN l j).testBit i <;> simp
    exact ⟨fun hh => ⟨by rw [← key hh.2]; exact hh.1, hh.2⟩, fun hh => ⟨by rw [key hh.2]; exact hh.1, hh.2⟩⟩
  · intro h
    have h0 : (rowN l k ^^^ rowN l j) &&& X &&& (127 ^^^ pairN k j) = 0 := eq_of_bits fun i => by
      rw [Nat.zero_testBit]
      refine ⟨fun hi => ?_, fun hh => by cases hh⟩
      rw [Nat.testBit_and, Nat.testBit_and, Nat.testBit_xor, Nat.testBit_xor, Bool.and_eq_true, Bool.and_eq_true] at hi
      obtain ⟨⟨h1, h2⟩, h3⟩ := hi
      have hi7 : i < 7 := by have := bit_lt hX h2; omega
      have h127 : (127 : Nat).testBit i = true := by
        have : ∀ i : Fin 7, (127 : Nat).testBit i.val = true := by decide
        exact this ⟨i, hi7⟩
      rw [h127] at h3
      have hpf : (pairN k j).testBit i = false := by
        revert h3
        cases (pairN k j).testBit i <;> simp
      have hm := (minus_bit hX7 hs i).2 ⟨h2, hpf⟩
      have h4 : (rowN l k &&& (X - pairN k j)).testBit i = (rowN l j &&& (X - pairN k j)).testBit i := by rw [h]
      rw [Nat.testBit_and, Nat.testBit_and, hm, Bool.and_true, Bool.and_true] at h4
      rw [h4] at h1
      simp at h1
    rw [h0]; rfl

theorem anyT_is {n : Int} {l : List Int} (hg : IsG n l) {X k : Nat} (hX : X < 2 ^ l.length) : anyT l X k l.length = (X.testBit k && twinB l X k) := by
  have hl : l.length ≤ 7 := by have := hg.2.1; have := hg.2.2.1; omega
  have h128 := two_le l.length hl
  have hX7 : X < 128 := by omega
  rw [Bool.eq_iff_iff, Bool.and_eq_true]
  unfold anyT twinB
  rw [List.any_eq_true, List.any_eq_true]
  have hm : ∀ j, X.testBit k = true → (j ∈ memN (X - 2 ^ k) ↔ X.testBit j = true ∧ k ≠ j) := fun j hk => by
    have hs : Sub (2 ^ k) X := fun i hi => by
      rw [Nat.testBit_two_pow] at hi
      obtain rfl := of_decide_eq_true hi
      exact hk
    have hlt : X - 2 ^ k < 128 := Nat.lt_of_le_of_lt (Nat.sub_le _ _) hX7
    have h1 : j ∈ memN (X - 2 ^ k) ↔ (X - 2 ^ k).testBit j = true := ⟨fun h => (mem_memN h).2, fun h => by
      unfold memN
      simp [h]
      exact bit_lt (n := 7) (by simpa using hlt) h⟩
    rw [h1, minus_bit hX7 hs j, Nat.testBit_two_pow, decide_eq_false_iff_not]
  constructor
  · rintro ⟨j, hj, hp⟩
    unfold pairP at hp
    rw [Bool.and_eq_true, Bool.and_eq_true, bne_iff_ne, beq_iff_eq] at hp
    obtain ⟨h1, h2, h3⟩ := hp
    obtain ⟨h4, h5⟩ := pair_sub.1 h2
    exact ⟨h4, j, (hm j h4).2 ⟨h5, h1⟩, by rw [twin_pair hg hX h4 h5]; exact h3⟩
  · rintro ⟨hk, j, hj, ht⟩
    obtain ⟨h5, h1⟩ := (hm j hk).1 hj
    refine ⟨j, List.mem_range.2 (bit_lt hX h5), ?_⟩
    unfold pairP
    rw [Bool.and_eq_true, Bool.and_eq_true, bne_iff_ne, beq_iff_eq]
    rw [twin_pair hg hX hk h5] at ht
    exact ⟨h1, pair_sub.2 ⟨hk, h5⟩, ht⟩

end Go.Proofs.Ytgfndgjabhabjab
