/- Joining all vertices of a set: plain facts. -/
import Derived.Test.YtgfndgjabhabjaaV5
import Derived.Test.YtgfndgjabhabjaaH3
import Derived.Test.YtgfndgjabhabjaaG8
namespace Go.Proofs.Ytgfndgjabhabjaa
set_option linter.unusedVariables false
set_option linter.unusedSimpArgs false
open Go.RowKit

theorem rowV_nat (p : Nat → Bool) (n : Nat) : ∃ Z : Nat, rowV p n = (Z : Int) ∧ Z < 2 ^ n ∧ ∀ k, k < n → Z.testBit k = p k := by
  obtain ⟨h0, h1⟩ := rowV_bd p n
  obtain ⟨Z, hZ⟩ : ∃ Z : Nat, rowV p n = (Z : Int) := ⟨(rowV p n).toNat, by omega⟩
  refine ⟨Z, hZ, by rw [hZ] at h1; exact_mod_cast h1, fun k hk => ?_⟩
  have h := rowV_bit p n k hk
  rw [hZ] at h
  have h2 := bitAt_nat Z k
  cases hp : p k with
  | true => exact h2.1 (by rw [h, hp]; rfl)
  | false =>
    cases hz : Z.testBit k with
    | false => rfl
    | true => have := h2.2 hz; rw [h, hp] at this; simp at this

theorem nat_rowV {Z n : Nat} {p : Nat → Bool} (h : Z < 2 ^ n) (hb : ∀ k, k < n → Z.testBit k = p k) : (Z : Int) = rowV p n := by
  rw [rowV_of (Z : Int) n (by omega) (by exact_mod_cast h)]
  refine rowV_congr _ _ n fun j hj => ?_
  rw [← hb j hj]
  have h2 := bitAt_nat Z j
  cases hz : Z.testBit j with
  | true => exact decide_eq_true (h2.2 hz)
  | false => exact decide_eq_false fun e => by rw [h2.1 e] at hz; cases hz

/-- The edges when all of X are joined. -/
def joinP (P : Nat → Nat → Bool) (X : Nat) (i j : Nat) : Bool := P i j || (i != j && X.testBit i && X.testBit j)

/-- The edges when the rows of those in S have got theirs. -/
def joinS (P : Nat → Nat → Bool) (X : Nat) (S : List Nat) (i j : Nat) : Bool := P i j || (decide (i ∈ S) && i != j && X.testBit j)

theorem joinS_nil (n : Nat) (P : Nat → Nat → Bool) (X : Nat) : adjL n (joinS P X []) = adjL n P := adjL_congr n _ _ fun i _ j _ => by simp [joinS]

theorem joinS_all (n : Nat) (P : Nat → Nat → Bool) (X : Nat) (hX : X < 128) : adjL n (joinS P X (memN X)) = adjL n (joinP P X) := adjL_congr n _ _ fun i _ j _ => by
  unfold joinS joinP
  have : decide (i ∈ memN X) = X.testBit i := by
    cases h : X.testBit i with
    | true => exact decide_eq_true (by unfold memN; simp [h]; exact bit_lt (n := 7) (by simpa using hX) h)
    | false => exact decide_eq_false fun hm => by rw [(mem_memN hm).2] at h; cases h
  rw [this]
  cases X.testBit i <;> cases X.testBit j <;> simp

/-- The row that one of them gets. -/
theorem join_row (n : Nat) (hn : n ≤ 7) (P : Nat → Nat → Bool) (X : Nat) (hX : X < 2 ^ n) (S : List Nat) (v : Nat) (hv : v < n) (hvX : X.testBit v = true) :
    ∃ Z R : Nat, nth (adjL n (joinS P X S)) v = (Z : Int) ∧ Z < 128 ∧ bits .andNot .i64 (X : Int) (2 ^ v) = ((X - 2 ^ v : Nat) : Int) ∧ X - 2 ^ v < 128 ∧ bits .or .i64 (Z : Int) ((X - 2 ^ v : Nat) : Int) = (R : Int) ∧ R < 128 ∧ (adjL n (joinS P X S)).set v (R : Int) = adjL n (joinS P X (S ++ [v])) := by
  have h7 := two_le n hn
  obtain ⟨Z, hZ, hZ2, hZb⟩ := rowV_nat (joinS P X S v) n
  have hs : Sub (2 ^ v) X := fun i hi => by
    rw [Nat.testBit_two_pow] at hi
    obtain rfl := of_decide_eq_true hi
    exact hvX
  have hX7 : X < 128 := by omega
  have hlt : X - 2 ^ v < 2 ^ n := Nat.lt_of_le_of_lt (Nat.sub_le _ _) hX
  have hR2 : Z ||| (X - 2 ^ v) < 2 ^ n := Nat.or_lt_two_pow hZ2 hlt
  have e1 : ((2 : Int) ^ v) = ((2 ^ v : Nat) : Int) := by push_cast; rfl
  refine ⟨Z, Z ||| (X - 2 ^ v), by rw [adjL_nth n _ v hv, hZ], by omega, by rw [e1]; exact andNot_nat hX7 hs, by omega, (bits_nat Z _ (by omega) (by omega)).2, by omega, ?_⟩
  refine list_ext_nth (by simp [adjL_length]) fun i hi => ?_
  rw [List.length_set, adjL_length] at hi
  rw [nth_set _ _ _ _ (by rw [adjL_length]; exact hv), adjL_nth n _ i hi]
  by_cases hiv : i = v
  · subst hiv
    rw [if_pos rfl, adjL_nth n _ i hv]
    refine nat_rowV hR2 (p := joinS P X (S ++ [i]) i) fun k hk => ?_
    rw [Nat.testBit_or, hZb k hk]
    have hm := minus_bit hX7 hs k
    rw [Nat.testBit_two_pow] at hm
    have hmk : (X - 2 ^ i).testBit k = (i != k && X.testBit k) := by
      rw [Bool.eq_iff_iff, hm]
      simp
      constructor
      · rintro ⟨a, b⟩; exact ⟨b, a⟩
      · rintro ⟨a, b⟩; exact ⟨b, a⟩
    rw [hmk]
    unfold joinS
    simp
    cases P i k <;> cases hik : (i != k) <;> cases X.testBit k <;> simp
  · rw [if_neg hiv, adjL_nth n _ i hi]
    refine rowV_congr _ _ n fun j hj => ?_
    unfold joinS
    simp [hiv]

/-- A graph by its edges. -/
theorem adj_of {n : Int} {l : List Int} (h : IsG n l) : l = adjL l.length (edB l) := by
  have hn : n.toNat = l.length := by have := h.2.2.1; omega
  refine list_ext_nth (by rw [adjL_length]) fun i hi => ?_
  obtain ⟨h0, h1, -⟩ := (h.2.2.2 i hi).1
  rw [hn] at h1
  rw [adjL_nth _ _ i hi]
  exact rowV_of _ _ h0 (ltpow_of _ _ h1)

/-- A relation that is a graph's. -/
def Sym (n : Nat) (P : Nat → Nat → Bool) : Prop := (∀ i, i < n → ∀ j, j < n → P i j = P j i) ∧ ∀ i, i < n → P i i = false

theorem adj_graph {n : Nat} {P : Nat → Nat → Bool} (h1 : 1 ≤ n) (h7 : n ≤ 7) (h : Sym n P) : IsG n (adjL n P) := by
  refine ⟨by omega, by omega, by rw [adjL_length], fun v hv => ?_⟩
  rw [adjL_length] at hv
  refine ⟨⟨?_, ?_, ?_⟩, fun w hw => ?_⟩
  · rw [adjL_nth n _ v hv]; exact (rowV_bd _ n).1
  · rw [adjL_nth n _ v hv]; exact Int.ediv_eq_zero_of_lt (rowV_bd (P v) n).1 (by simpa using (rowV_bd (P v) n).2)
  · rw [adjL_bit n P v v hv hv, h.2 v hv]; rfl
  · rw [adjL_length] at hw
    show bitAt _ _ = bitAt _ _
    rw [adjL_bit n P v w hv hw, adjL_bit n P w v hw hv, h.1 v hv w hw]

theorem edB_sym' {n : Int} {l : List Int} (h : IsG n l) : Sym l.length (edB l) := by
  refine ⟨fun i hi j hj => by unfold edB; rw [h.sym hi hj], fun i hi => ?_⟩
  unfold edB
  exact decide_eq_false (by have := (h.2.2.2 i hi).1.2.2; omega)

theorem joinP_sym {n : Nat} {P : Nat → Nat → Bool} (h : Sym n P) (X : Nat) : Sym n (joinP P X) := by
  refine ⟨fun i hi j hj => ?_, fun i hi => ?_⟩
  · unfold joinP
    rw [h.1 i hi j hj]
    have : (i != j) = (j != i) := by rw [Bool.eq_iff_iff]; simp; exact ⟨fun h e => h e.symm, fun h e => h e.symm⟩
    rw [this]
    cases X.testBit i <;> cases X.testBit j <;> simp
  · unfold joinP
    rw [h.2 i hi]
    simp

/-- One edge more. -/
def plusE (P : Nat → Nat → Bool) (a b : Nat) (i j : Nat) : Bool := P i j || (i == a && j == b) || (i == b && j == a)

theorem plusE_sym {n : Nat} {P : Nat → Nat → Bool} (h : Sym n P) {a b : Nat} (hab : a ≠ b) : Sym n (plusE P a b) := by
  refine ⟨fun i hi j hj => ?_, fun i hi => ?_⟩
  · unfold plusE
    rw [h.1 i hi j hj]
    cases P j i <;> cases (i == a) <;> cases (j == b) <;> cases (i == b) <;> cases (j == a) <;> rfl
  · unfold plusE
    rw [h.2 i hi]
    by_cases h1 : i = a
    · have : ¬ i = b := fun e => hab (h1 ▸ e)
      simp [h1, hab, Ne.symm hab]
    · simp [h1]

theorem plus_new {n : Nat} {P : Nat → Nat → Bool} {a b : Nat} (hs : Sym n P) (ha : a < n) (hb : b < n) (hab : a ≠ b) (hp : P a b = false) : flipE (adjL n P) a b = adjL n (plusE P a b) := by
  rw [adjL_flip n P a b ha hb hab hp (by rw [hs.1 b hb a ha]; exact hp)]
  exact adjL_congr n _ _ fun i _ j _ => by unfold plusE; cases P i j <;> cases (i == a) <;> cases (j == b) <;> cases (i == b) <;> cases (j == a) <;> rfl

theorem plus_old {n : Nat} {P : Nat → Nat → Bool} {a b : Nat} (hs : Sym n P) (ha : a < n) (hb : b < n) (hp : P a b = true) : adjL n P = adjL n (plusE P a b) := by
  refine adjL_congr n _ _ fun i hi j hj => ?_
  unfold plusE
  by_cases h1 : i = a ∧ j = b
  · rw [h1.1, h1.2, hp]; simp
  · by_cases h2 : i = b ∧ j = a
    · rw [h2.1, h2.2, hs.1 b hb a ha, hp]; simp
    · have e1 : (i == a && j == b) = false := by
        rw [Bool.and_eq_false_iff]
        by_cases h : i = a
        · exact .inr (by simp; exact fun e => h1 ⟨h, e⟩)
        · exact .inl (by simp [h])
      have e2 : (i == b && j == a) = false := by
        rw [Bool.and_eq_false_iff]
        by_cases h : i = b
        · exact .inr (by simp; exact fun e => h2 ⟨h, e⟩)
        · exact .inl (by simp [h])
      rw [e1, e2]; simp

/-- The edges when the members of X below the i-th place, and of the i-th place those with the first m, are joined. -/
def pairS (P : Nat → Nat → Bool) (L : List Nat) (i m : Nat) (a b : Nat) : Bool :=
  P a b || decide (∃ p, p < L.length ∧ ∃ q, q < p ∧ (p < i ∨ (p = i ∧ q < m)) ∧ ((a = L.getD p 0 ∧ b = L.getD q 0) ∨ (a = L.getD q 0 ∧ b = L.getD p 0)))

theorem pairS_step (P : Nat → Nat → Bool) (L : List Nat) {i m : Nat} (hm : m < i) (hi : i < L.length) (a b : Nat) : pairS P L i (m + 1) a b = plusE (pairS P L i m) (L.getD i 0) (L.getD m 0) a b := by
  rw [Bool.eq_iff_iff]
  unfold plusE pairS
  simp only [Bool.or_eq_true, Bool.and_eq_true, decide_eq_true_eq, beq_iff_eq]
  constructor
  · rintro (h | ⟨p, h2, q, h1, h3, h4⟩)
    · exact .inl (.inl (.inl h))
    · by_cases he : p = i ∧ q = m
      · obtain ⟨rfl, rfl⟩ := he
        rcases h4 with h4 | h4
        · exact .inl (.inr h4)
        · exact .inr h4
      · exact .inl (.inl (.inr ⟨p, h2, q, h1, by omega, h4⟩))
  · rintro (((h | ⟨p, h2, q, h1, h3, h4⟩) | h) | h)
    · exact .inl h
    · exact .inr ⟨p, h2, q, h1, by omega, h4⟩
    · exact .inr ⟨i, hi, m, hm, by omega, .inl h⟩
    · exact .inr ⟨i, hi, m, hm, by omega, .inr h⟩

theorem pairS_next (P : Nat → Nat → Bool) (L : List Nat) (i a b : Nat) : pairS P L i i a b = pairS P L (i + 1) 0 a b := by
  rw [Bool.eq_iff_iff]
  unfold pairS
  simp only [Bool.or_eq_true, decide_eq_true_eq]
  constructor
  · rintro (h | ⟨p, h2, q, h1, h3, h4⟩)
    · exact .inl h
    · exact .inr ⟨p, h2, q, h1, by omega, h4⟩
  · rintro (h | ⟨p, h2, q, h1, h3, h4⟩)
    · exact .inl h
    · exact .inr ⟨p, h2, q, h1, by omega, h4⟩

theorem pairS_zero (P : Nat → Nat → Bool) (L : List Nat) (a b : Nat) : pairS P L 0 0 a b = P a b := by
  rw [Bool.eq_iff_iff]
  unfold pairS
  simp only [Bool.or_eq_true, decide_eq_true_eq]
  constructor
  · rintro (h | ⟨p, h2, q, h1, h3, h4⟩)
    · exact h
    · omega
  · exact fun h => .inl h

theorem memN_nodup (X : Nat) : (memN X).Nodup := List.nodup_range.filter _

theorem getD_mem {L : List Nat} {p : Nat} (h : p < L.length) : L.getD p 0 ∈ L := by simp [List.getD, h]

theorem mem_getD {L : List Nat} {a : Nat} (h : a ∈ L) : ∃ p, p < L.length ∧ a = L.getD p 0 := by
  obtain ⟨p, hp, rfl⟩ := List.mem_iff_getElem.1 h
  exact ⟨p, hp, by simp [List.getD, hp]⟩

theorem getD_inj {L : List Nat} (hL : L.Nodup) {p q : Nat} (hp : p < L.length) (hq : q < L.length) (h : L.getD p 0 = L.getD q 0) : p = q := by
  simp [List.getD, hp, hq] at h
  exact (List.getElem_inj hL).1 h

theorem pairS_sym {n : Nat} {P : Nat → Nat → Bool} (h : Sym n P) {L : List Nat} (hL : L.Nodup) (i m : Nat) : Sym n (pairS P L i m) := by
  refine ⟨fun a ha b hb => ?_, fun a ha => ?_⟩
  · rw [Bool.eq_iff_iff]
    unfold pairS
    simp only [Bool.or_eq_true, decide_eq_true_eq, h.1 a ha b hb]
    constructor
    · rintro (h | ⟨p, h2, q, h1, h3, h4⟩)
      · exact .inl h
      · exact .inr ⟨p, h2, q, h1, h3, h4.elim (fun e => .inr ⟨e.2, e.1⟩) fun e => .inl ⟨e.2, e.1⟩⟩
    · rintro (h | ⟨p, h2, q, h1, h3, h4⟩)
      · exact .inl h
      · exact .inr ⟨p, h2, q, h1, h3, h4.elim (fun e => .inr ⟨e.2, e.1⟩) fun e => .inl ⟨e.2, e.1⟩⟩
  · unfold pairS
    rw [h.2 a ha, Bool.false_or]
    refine decide_eq_false ?_
    rintro ⟨p, h2, q, h1, h3, h4⟩
    have : p = q := getD_inj hL h2 (by omega) (by rcases h4 with h | h <;> rw [← h.1, ← h.2])
    omega

theorem pairS_all (P : Nat → Nat → Bool) {X : Nat} (hX : X < 128) (a b : Nat) : pairS P (memN X) (memN X).length 0 a b = joinP P X a b := by
  rw [Bool.eq_iff_iff]
  unfold pairS joinP
  simp only [Bool.or_eq_true, Bool.and_eq_true, decide_eq_true_eq, bne_iff_ne, ne_eq]
  constructor
  · rintro (h | ⟨p, h2, q, h1, h3, h4⟩)
    · exact .inl h
    · have hp := (mem_memN (getD_mem h2)).2
      have hq := (mem_memN (getD_mem (show q < (memN X).length by omega))).2
      have hne : (memN X).getD p 0 ≠ (memN X).getD q 0 := fun e => by have := getD_inj (memN_nodup X) h2 (by omega) e; omega
      rcases h4 with ⟨rfl, rfl⟩ | ⟨rfl, rfl⟩
      · exact .inr ⟨⟨hne, hp⟩, hq⟩
      · exact .inr ⟨⟨fun e => hne e.symm, hq⟩, hp⟩
  · rintro (h | ⟨⟨h1, h2⟩, h3⟩)
    · exact .inl h
    · have m1 : a ∈ memN X := by unfold memN; simp [h2]; exact bit_lt (n := 7) (by simpa using hX) h2
      have m2 : b ∈ memN X := by unfold memN; simp [h3]; exact bit_lt (n := 7) (by simpa using hX) h3
      obtain ⟨p, hp, rfl⟩ := mem_getD m1
      obtain ⟨q, hq, rfl⟩ := mem_getD m2
      have hpq : p ≠ q := fun e => h1 (by rw [e])
      rcases Nat.lt_or_ge q p with h | h
      · exact .inr ⟨p, hp, q, h, .inl hp, .inl ⟨rfl, rfl⟩⟩
      · exact .inr ⟨q, hq, p, by omega, .inl hq, .inr ⟨rfl, rfl⟩⟩

theorem listU_nat (X : Nat) : listU (X : Int) 7 = (memN X).map fun v : Nat => (v : Int) := by rw [← memU_nat]; rfl

end Go.Proofs.Ytgfndgjabhabjaa
