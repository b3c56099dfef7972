/- impl.LexOrder and impl.CardinalityOrder, and plain facts on what is left. -/
import Derived.Test.YtcpchdnhhjhpaaaO2
namespace Go.Proofs.Ytcpchdnhhjhpaaa
set_option linter.unusedVariables false
set_option linter.unusedSimpArgs false
open Go.RowKit Go.Shelf

def memT (X j : Nat) : List Nat := (List.range j).filter fun v => X.testBit v

theorem memT_succ (X j : Nat) : memT X (j + 1) = if X.testBit j = true then memT X j ++ [j] else memT X j := by
  unfold memT
  rw [List.range_succ, List.filter_append]
  by_cases h : X.testBit j = true
  · simp [h]
  · simp [h]

theorem memT_full {X m : Nat} (hm : m ≤ 7) (hX : X < 2 ^ m) : memT X m = memN X := by
  have h : ∀ d, m + d ≤ 7 → memT X (m + d) = memT X m := by
    intro d
    induction d with
    | zero => intro _; rfl
    | succ d ih =>
      intro hd
      show memT X (m + d + 1) = _
      rw [memT_succ, if_neg, ih (by omega)]
      intro hb
      have h1 : 2 ^ m ≤ 2 ^ (m + d) := Nat.pow_le_pow_right (by decide) (by omega)
      have h2 := Nat.ge_two_pow_of_testBit hb
      omega
  have h7 := h (7 - m) (by omega)
  rw [show m + (7 - m) = 7 by omega] at h7
  exact h7.symm

theorem left_bit {X m v : Nat} (hX : X < 2 ^ m) (hv : v < m) : (2 ^ m - (X + 1)).testBit v = !X.testBit v := by
  rw [Nat.testBit_two_pow_sub_succ hX]
  simp [hv]

theorem pop_less {X b : Nat} (h7 : X < 128) (hb : b < 7) (h : X.testBit b = true) : popN X = popN (X - 2 ^ b) + 1 ∧ (X - 2 ^ b).testBit b = false ∧ 2 ^ b ≤ X := by
  have hs : Sub (2 ^ b) X := fun i hi => by
    rw [Nat.testBit_two_pow] at hi
    obtain rfl := of_decide_eq_true hi
    exact h
  have hle : 2 ^ b ≤ X := sub_le hs
  have hf : (X - 2 ^ b).testBit b = false := by
    cases hc : (X - 2 ^ b).testBit b with
    | false => rfl
    | true => have := ((minus_bit h7 hs b).1 hc).2; rw [Nat.testBit_two_pow] at this; simp at this
  have hb0 : bitAt ((X - 2 ^ b : Nat) : Int) b = 0 := by
    rcases bitAt_two ((X - 2 ^ b : Nat) : Int) b with h | h
    · exact h
    · rw [bitAt_nat] at h; rw [hf] at h; cases h
  have hlt : X - 2 ^ b < 128 := Nat.lt_of_le_of_lt (Nat.sub_le _ _) h7
  obtain ⟨Y, hY⟩ : ∃ Y, Y = X - 2 ^ b := ⟨_, rfl⟩
  rw [← hY] at hf hb0 hlt ⊢
  have := pop_more (Y : Int) b (by omega) (by omega) hb hb0
  have e1 : ((Y : Int) + 2 ^ b).toNat = X := by
    have : ((Y : Int) + 2 ^ b) = ((Y + 2 ^ b : Nat) : Int) := by push_cast; rfl
    rw [this, Int.toNat_natCast]; omega
  rw [e1, Int.toNat_natCast] at this
  exact ⟨this, hf, hle⟩

theorem pop_start : ∀ (m : Fin 8) (S : Fin 7), S.1 < m.1 → 1 + popN (2 ^ m.1 - 1 - 2 ^ S.1) = m.1 := by decide +kernel

theorem pop_zero {X : Nat} (h7 : X < 128) (h : popN X = 0) : X = 0 := by
  rcases Nat.eq_zero_or_pos X with h' | h'
  · exact h'
  · have := pop_pos h' h7; omega

def lexM (lg : List Int) (L : List Int) (x : Nat) : Nat := lexN lg L x L.length
def cardM (lg : List Int) (L : List Int) (x : Nat) : Nat := cardN lg L x L.length
def labM (lg : List Int) (L : List Int) (x : Nat) : Nat := labN lg L x L.length 7

theorem lex_lab (lg : List Int) (s : Int) (X : Nat) : ordM (lexM lg) 7 [s] X = ordM (labM lg) 7 [s] X :=
  ordM_congr 7 [s] X fun k hk L' hL' a b => by
    simp at hL'
    exact (lab_less lg L' b a L'.length (by omega)).symm

set_option maxHeartbeats 4000000 in
set_option maxRecDepth 100000 in
theorem implLexOrder (n : Int) (v : Value) (lg : List Int) (start : Int) (w : World) (h : Ints w v lg) :
    Calls Try.prog 19 #[.agg #[.int .i64 n, v], .int .i64 start] w (GetsLB w.heap.size w (ordR (lexM lg) n lg start)) := by
  obtain ⟨a, cap, rfl, -, -⟩ := h.form
  obtain ⟨R, hR⟩ : ∃ R, R = ordR (lexM lg) n lg start := ⟨_, rfl⟩
  have HC : Hid (∀ W, Below w.heap.size w W → Calls Try.prog 72 #[.agg #[.int .i64 n, .slice a lg.length cap], .int .i64 start, .func (.func 73) #[] #[]] W (GetsLB W.heap.size W R)) := fun W hW => by
    rw [hR]
    exact orderBy_any _ #[] (enters_of Try.func73 (by kernel_rfl) rfl) (lexM lg) n _ lg start W (h.on hW) fun hg => ruleLex n _ lg hg
  rw [← hR]
  clear h hR
  go_enter Try.func19, Try.ntmps19
  go_wp2_with fail
  refine (HC.out _ ((Below.refl _ w).alloc (Nat.le_refl _) _)).mono ?_
  rintro e w1 ⟨v1, rfl, ho, hb⟩
  have HO := Lib.hid ho
  have HB := Lib.hid hb
  clear ho hb
  go_wp2
  go_ret2
  exact ⟨_, rfl, HO.out.mono (by simp), ((Below.refl _ w).alloc (Nat.le_refl _) _).trans (HB.out.mono (by simp))⟩

set_option maxHeartbeats 4000000 in
set_option maxRecDepth 100000 in
theorem implCardinalityOrder (n : Int) (v : Value) (lg : List Int) (start : Int) (w : World) (h : Ints w v lg) :
    Calls Try.prog 26 #[.agg #[.int .i64 n, v], .int .i64 start] w (GetsLB w.heap.size w (ordR (cardM lg) n lg start)) := by
  obtain ⟨a, cap, rfl, -, -⟩ := h.form
  obtain ⟨R, hR⟩ : ∃ R, R = ordR (cardM lg) n lg start := ⟨_, rfl⟩
  have HC : Hid (∀ W, Below w.heap.size w W → Calls Try.prog 72 #[.agg #[.int .i64 n, .slice a lg.length cap], .int .i64 start, .func (.func 75) #[] #[]] W (GetsLB W.heap.size W R)) := fun W hW => by
    rw [hR]
    exact orderBy_any _ #[] (enters_of Try.func75 (by kernel_rfl) rfl) (cardM lg) n _ lg start W (h.on hW) fun hg => ruleCard n _ lg hg
  rw [← hR]
  clear h hR
  go_enter Try.func26, Try.ntmps26
  go_wp2_with fail
  refine (HC.out _ ((Below.refl _ w).alloc (Nat.le_refl _) _)).mono ?_
  rintro e w1 ⟨v1, rfl, ho, hb⟩
  have HO := Lib.hid ho
  have HB := Lib.hid hb
  clear ho hb
  go_wp2
  go_ret2
  exact ⟨_, rfl, HO.out.mono (by simp), ((Below.refl _ w).alloc (Nat.le_refl _) _).trans (HB.out.mono (by simp))⟩

end Go.Proofs.Ytcpchdnhhjhpaaa
