/- Plain facts on reading decimal numerals. -/
import Derived.Lib.ItoaNum
import Derived.Lib.ItoaLen
import Derived.Lib.Atoi
import Derived.Lib.Strings
import Derived.RowKit
namespace Go.Proofs.YtfcbpegpgmcjhaaDoor
open Go.Lib

def isDig (c : UInt8) : Bool := decide (48 ≤ c.toNat) && decide (c.toNat ≤ 57)
def valStep (n : Nat) (c : UInt8) : Nat := if isDig c then n * 10 + (c.toNat - 48) else n
def valN (l : List UInt8) : Nat := l.foldl valStep 0
def cntN (l : List UInt8) : Nat := l.countP isDig
theorem valN_snoc (l : List UInt8) (c : UInt8) : valN (l ++ [c]) = valStep (valN l) c := by simp [valN]
theorem cntN_snoc (l : List UInt8) (c : UInt8) : cntN (l ++ [c]) = cntN l + if isDig c then 1 else 0 := by
  unfold cntN; rw [List.countP_append]; cases h : isDig c <;> simp [h]
theorem cntN_le (l : List UInt8) : cntN l ≤ l.length := List.countP_le_length
theorem valStep_lt (n : Nat) (c : UInt8) (B : Nat) (hB : 0 < B) (h : n < B) : valStep n c < B * 10 := by
  unfold valStep
  cases hd : isDig c
  · simp; omega
  · simp [isDig] at hd; simp; omega
theorem valN_lt (l : List UInt8) : valN l < 10 ^ l.length := by
  suffices h : ∀ (l : List UInt8) (n B : Nat), n < B → l.foldl valStep n < B * 10 ^ l.length by
    have := h l 0 1 (by omega); simpa [valN] using this
  intro l
  induction l with
  | nil => intro n B h; simpa using h
  | cons c l ih =>
    intro n B h
    rw [List.foldl_cons, List.length_cons, Nat.pow_succ]
    have := ih (valStep n c) (B * 10) (valStep_lt n c B (by omega) h)
    rw [Nat.mul_assoc, Nat.mul_comm 10] at this
    exact this
theorem ofNat48 (d : Nat) (h : d < 10) : (UInt8.ofNat (48 + d)).toNat = 48 + d := by simp; omega
theorem isDig48 (d : Nat) (h : d < 10) : isDig (UInt8.ofNat (48 + d)) = true := by unfold isDig; rw [ofNat48 d h]; simp; omega
/-- The digits of a numeral are digits, and spell it. -/
theorem digits_spell (u : Nat) : valN (decDigits u) = u ∧ cntN (decDigits u) = (decDigits u).length := by
  induction u using Nat.strongRecOn with
  | ind u ih =>
    by_cases h : u < 10
    · rw [decDigits_one h]
      refine ⟨?_, ?_⟩
      · simp only [valN, List.foldl_cons, List.foldl_nil, valStep, isDig48 u h, ofNat48 u h]; simp
      · have := isDig48 u h; unfold cntN; rw [List.countP_cons, this]; rfl
    · rw [decDigits, dif_neg h]
      obtain ⟨h1, h2⟩ := ih (u / 10) (by omega)
      have hm : u % 10 < 10 := by omega
      refine ⟨?_, ?_⟩
      · rw [valN_snoc, h1, valStep, isDig48 _ hm, ofNat48 _ hm]; simp; omega
      · rw [cntN_snoc, h2, isDig48 _ hm]; simp
theorem digits_dig (u : Nat) : ∀ c ∈ decDigits u, isDig c = true := by
  have h := (digits_spell u).2
  unfold cntN at h
  exact List.countP_eq_length.1 h
theorem decFrom_dig : ∀ (l : List UInt8) (acc : Nat), (∀ c ∈ l, isDig c = true) → decFrom acc l = some (l.foldl valStep acc) := by
  intro l
  induction l with
  | nil => intro acc _; rfl
  | cons c l ih =>
    intro acc h
    have hc := h c (by simp)
    have hd : digitVal c = some (c.toNat - 48) := by
      have hc' := hc
      simp [isDig] at hc'
      unfold digitVal
      rw [if_pos hc']
    have hs : valStep acc c = acc * 10 + (c.toNat - 48) := by unfold valStep; rw [hc]; simp
    rw [decFrom, hd, List.foldl_cons, hs]
    exact ih _ fun x hx => h x (by simp [hx])
theorem decNat_digits (u : Nat) : decNat (decDigits u) = some u := by
  have hne : decDigits u ≠ [] := by
    intro e
    have h1 := decDigits_length u
    have h2 := nDigits_pos u
    rw [e] at h1; simp at h1; omega
  unfold decNat
  have : (decDigits u).isEmpty = false := by simpa using hne
  rw [this]
  simp only [Bool.false_eq_true, if_false]
  rw [decFrom_dig _ _ (digits_dig u)]
  exact congrArg some (digits_spell u).1
/-- The first byte of a row of digits. -/
theorem head_dig (u : Nat) : ∃ c r, decDigits u = c :: r ∧ isDig c = true := by
  cases h : decDigits u with
  | nil => have h1 := decDigits_length u; have h2 := nDigits_pos u; rw [h] at h1; simp at h1; omega
  | cons c r => exact ⟨c, r, rfl, digits_dig u c (by rw [h]; simp)⟩
theorem dig_ne {c : UInt8} (h : isDig c = true) : (c == 45) = false ∧ (c == 43) = false := by
  simp [isDig] at h
  constructor
  · rw [beq_eq_false_iff_ne]; rintro rfl; simp at h
  · rw [beq_eq_false_iff_ne]; rintro rfl; simp at h
theorem atoi_itoa (v : Int) : atoi (itoa v) = some v := by
  unfold itoa
  by_cases h : v < 0
  · rw [if_pos h, atoi]; simp only [beq_self_eq_true, if_true]; rw [decNat_digits]; simp; omega
  · rw [if_neg h]
    obtain ⟨c, r, he, hc⟩ := head_dig v.toNat
    have hd := decNat_digits v.toNat
    rw [he] at hd ⊢
    rw [atoi, (dig_ne hc).1, (dig_ne hc).2]
    simp only [Bool.false_eq_true, if_false]
    rw [hd]; simp; omega
def hasMinus (l : List UInt8) : Bool := l.head? == some 45
def trimLen (l : List UInt8) : Nat := if hasMinus l then l.length - 1 else l.length
def Good (l : List UInt8) (v : Int) : Prop := itoa v = l ∧ (decDigits v.natAbs).length ≤ 9
theorem itoa_shape (v : Int) : hasMinus (itoa v) = decide (v < 0) ∧ trimLen (itoa v) = (decDigits v.natAbs).length ∧ valN (itoa v) = v.natAbs ∧ cntN (itoa v) = (decDigits v.natAbs).length := by
  obtain ⟨h1, h2⟩ := digits_spell v.natAbs
  by_cases h : v < 0
  · have e : itoa v = 45 :: decDigits v.natAbs := by unfold itoa; rw [if_pos h]
    rw [e]
    refine ⟨by simp [hasMinus, h], by simp [trimLen, hasMinus], ?_, ?_⟩
    · have : valN (45 :: decDigits v.natAbs) = valN (decDigits v.natAbs) := rfl
      rw [this, h1]
    · have : cntN (45 :: decDigits v.natAbs) = cntN (decDigits v.natAbs) := by unfold cntN; rw [List.countP_cons]; rfl
      rw [this, h2]
  · have e : itoa v = decDigits v.natAbs := by unfold itoa; rw [if_neg h]; congr 1; omega
    rw [e]
    obtain ⟨c, r, he, hc⟩ := head_dig v.natAbs
    have hm : hasMinus (decDigits v.natAbs) = false := by rw [he]; simp only [hasMinus, List.head?_cons]; have := (dig_ne hc).1; simpa using this
    exact ⟨by rw [hm]; simp [h], by unfold trimLen; rw [hm]; rfl, h1, h2⟩
theorem Good.atoi {l : List UInt8} {v : Int} (h : Good l v) : atoi l = some v := by rw [← h.1]; exact atoi_itoa v
theorem Good.trim {l : List UInt8} {v : Int} (h : Good l v) : trimLen l ≤ 9 := by rw [← h.1, (itoa_shape v).2.1]; exact h.2
theorem Good.len {l : List UInt8} {v : Int} (h : Good l v) : l.length ≤ 10 := by
  have := h.trim; unfold trimLen at this; split at this <;> omega
def sgn (l : List UInt8) (V : Nat) : Int := if hasMinus l then -(V : Int) else V
theorem Good.val {l : List UInt8} {v : Int} (h : Good l v) : sgn l (valN l) = v ∧ cntN l ≤ 9 := by
  obtain ⟨h1, h2, h3, h4⟩ := itoa_shape v
  rw [← h.1]
  refine ⟨?_, by rw [h4]; exact h.2⟩
  unfold sgn; rw [h1, h3]
  by_cases hv : v < 0 <;> simp [hv] <;> omega
theorem good_mk {l : List UInt8} {n : Int} (h : itoa n = l) (ht : trimLen l ≤ 9) : Good l n := ⟨h, by rw [← h, (itoa_shape n).2.1] at ht; exact ht⟩
theorem good_mk' {l : List UInt8} {n : Int} (h : itoa n = l) (hc : cntN l ≤ 9) : Good l n := ⟨h, by rw [← h, (itoa_shape n).2.2.2] at hc; exact hc⟩
def PiR (l : List UInt8) (a : Int) (b : Bool) : Prop := (∃ v, Good l v ∧ a = v ∧ b = true) ∨ ((∀ v, ¬ Good l v) ∧ a = 0 ∧ b = false)
theorem PiR.agree {l : List UInt8} {a a' : Int} {b b' : Bool} (h : PiR l a b) (h' : PiR l a' b') : a' = a ∧ b' = b := by
  rcases h with ⟨v, hg, rfl, rfl⟩ | ⟨hn, rfl, rfl⟩ <;> rcases h' with ⟨v', hg', rfl, rfl⟩ | ⟨hn', rfl, rfl⟩
  · have := hg.atoi.symm.trans hg'.atoi; exact ⟨(Option.some.inj this).symm, rfl⟩
  · exact absurd hg (hn' _)
  · exact absurd hg' (hn _)
  · exact ⟨rfl, rfl⟩
theorem take_all {l : List UInt8} {j : Nat} (hj : l.length ≤ j ∨ 11 ≤ j) (h : l.length ≤ 10) : l.take j = l := List.take_of_length_le (by omega)
theorem PiR_no1 {l : List UInt8} {j : Nat} (hj : l.length ≤ j ∨ 11 ≤ j) (h : 9 < cntN (l.take j)) : PiR l 0 false :=
  .inr ⟨fun v hg => by rw [take_all hj hg.len] at h; have := hg.val.2; omega, rfl, rfl⟩
theorem PiR_no2 {l : List UInt8} (h : 10 < l.length) : PiR l 0 false := .inr ⟨fun v hg => by have := hg.len; omega, rfl, rfl⟩
theorem PiR_no3 {l : List UInt8} {j : Nat} {n : Int} (hj : l.length ≤ j ∨ 11 ≤ j) (hn : n = sgn l (valN (l.take j))) (h : itoa n ≠ l) : PiR l 0 false :=
  .inr ⟨fun v hg => by rw [take_all hj hg.len, hg.val.1] at hn; subst hn; exact h hg.1, rfl, rfl⟩
theorem PiR_yes {l : List UInt8} {j : Nat} {n : Int} (hj : l.length ≤ j ∨ 11 ≤ j) (hc : cntN (l.take j) ≤ 9) (hl : l.length ≤ 10) (h : itoa n = l) : PiR l n true :=
  .inl ⟨n, good_mk' h (by rw [take_all hj hl] at hc; exact hc), rfl, rfl⟩
theorem impl_no1 {l : List UInt8} (h : 9 < trimLen l) : PiR l 0 false := .inr ⟨fun v hg => by have := hg.trim; omega, rfl, rfl⟩
theorem impl_no2 {l : List UInt8} (h : atoi l = none) : PiR l 0 false := .inr ⟨fun v hg => by { rw [hg.atoi] at h; cases h }, rfl, rfl⟩
theorem impl_no3 {l : List UInt8} {n : Int} (h : atoi l = some n) (hne : itoa n ≠ l) : PiR l 0 false :=
  .inr ⟨fun v hg => by { rw [hg.atoi] at h; cases h; exact hne hg.1 }, rfl, rfl⟩
theorem impl_yes {l : List UInt8} {n : Int} (ht : trimLen l ≤ 9) (h : itoa n = l) : PiR l n true := .inl ⟨n, good_mk h ht, rfl, rfl⟩
theorem eq_of_beq_str {n : Int} {s : ByteArray} {l : List UInt8} (hl : l = s.data.toList) (h : (itoa n == s.toList) = true) : itoa n = l := by
  rw [hl, ← Lib.toList_data]; exact eq_of_beq h
theorem ne_of_beq_str {n : Int} {s : ByteArray} {l : List UInt8} (hl : l = s.data.toList) (h : (itoa n == s.toList) = false) : itoa n ≠ l := by
  rw [hl, ← Lib.toList_data]; exact ne_of_beq_false h
theorem valN_le11 (l : List UInt8) (j : Nat) (h : j ≤ 11) : (valN (l.take j) : Int) ≤ 99999999999 := by
  have h1 := valN_lt (l.take j)
  have h2 : 10 ^ (l.take j).length ≤ 10 ^ 11 := Nat.pow_le_pow_right (by omega) (by simp; omega)
  have h3 : (10 : Nat) ^ 11 = 100000000000 := by decide
  omega
theorem isDig_yes (c : UInt8) (h1 : (48 : Int) ≤ (c.toNat : Int)) (h2 : (c.toNat : Int) ≤ 57) : isDig c = true := by unfold isDig; simp; omega
theorem isDig_hi (c : UInt8) (h2 : (57 : Int) < (c.toNat : Int)) : isDig c = false := by unfold isDig; simp; omega
theorem isDig_lo (c : UInt8) (h2 : ¬ (48 : Int) ≤ (c.toNat : Int)) : isDig c = false := by unfold isDig; simp; omega
theorem step_yes (V : Nat) (c : UInt8) (hd : isDig c = true) (h1 : (48 : Int) ≤ (c.toNat : Int)) : ((V : Int) * 10 + ((c.toNat : Int) - 48)) = ((valStep V c : Nat) : Int) := by unfold valStep; rw [hd]; simp only [if_true]; omega
theorem step_no (V : Nat) (c : UInt8) (hd : isDig c = false) : valStep V c = V := by unfold valStep; rw [hd]; rfl
theorem minus_of (s : ByteArray) (l : List UInt8) (hl : l = s.data.toList) (h0 : 0 < s.size) : hasMinus l = (((s[0].toNat : Nat) : Int) == 45) := by
  subst hl
  obtain ⟨⟨l⟩⟩ := s
  cases l with
  | nil => simp [ByteArray.size] at h0
  | cons c r =>
    have e : (ByteArray.mk ⟨c :: r⟩)[0] = c := rfl
    rw [e]
    simp only [hasMinus, List.head?_cons]
    rw [Bool.eq_iff_iff]
    simp only [beq_iff_eq, Option.some.injEq]
    constructor
    · rintro rfl; rfl
    · intro h; apply UInt8.toNat.inj; have : (45 : UInt8).toNat = 45 := rfl; omega
theorem minus_nil (l : List UInt8) (h0 : l.length = 0) : hasMinus l = false := by cases l with | nil => rfl | cons c r => simp at h0
theorem sgn_yes {l : List UInt8} (h : hasMinus l = true) (V : Nat) : -(V : Int) = sgn l V := by unfold sgn; rw [h]; rfl
theorem sgn_no {l : List UInt8} (h : hasMinus l = false) (V : Nat) : (V : Int) = sgn l V := by unfold sgn; rw [h]; rfl
end Go.Proofs.YtfcbpegpgmcjhaaDoor
