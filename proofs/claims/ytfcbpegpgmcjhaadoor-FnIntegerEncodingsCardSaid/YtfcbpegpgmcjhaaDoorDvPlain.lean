/- Plain facts on reading varints. -/
import Derived.Test.YtfcbpegpgmcjhaaDoorEvPlain
namespace Go.Proofs.YtfcbpegpgmcjhaaDoor
def dv (l : List UInt8) : Nat := l.foldr (fun b n => n * 128 + b.toNat % 128) 0
theorem dv_cons (b : UInt8) (l : List UInt8) : dv (b :: l) = dv l * 128 + b.toNat % 128 := rfl
theorem dv_lt (l : List UInt8) : dv l < 128 ^ l.length := by
  induction l with
  | nil => simp [dv]
  | cons b l ih => rw [dv_cons, List.length_cons, Nat.pow_succ]; have := Nat.mod_lt b.toNat (show 0 < 128 by omega); omega
theorem dv_snoc (l : List UInt8) (b : UInt8) : dv (l ++ [b]) = dv l + (b.toNat % 128) * 128 ^ l.length := by
  induction l with
  | nil => simp [dv]
  | cons c l ih => rw [List.cons_append, dv_cons, ih, dv_cons, List.length_cons, Nat.pow_succ, Nat.add_mul, Nat.mul_assoc]; omega
theorem dv_le6 (l : List UInt8) (h : l.length ≤ 6) : dv l ≤ 4398046511103 := by
  have h1 := dv_lt l
  have h3 : 128 ^ l.length ≤ 128 ^ 6 := Nat.pow_le_pow_right (by omega) h
  have h4 : (128 : Nat) ^ 6 = 4398046511104 := by decide
  omega
theorem dv_le7 (l : List UInt8) (h : l.length ≤ 7) : dv l ≤ 562949953421311 := by
  have h1 := dv_lt l
  have h3 : 128 ^ l.length ≤ 128 ^ 7 := Nat.pow_le_pow_right (by omega) h
  have h4 : (128 : Nat) ^ 7 = 562949953421312 := by decide
  omega
/-- The last byte alone is below 128. -/
theorem vint_form (f n : Nat) (h : n < vle f) : ∃ p c, vint f n = p ++ [c] ∧ c.toNat < 128 ∧ ∀ x ∈ p, 128 ≤ UInt8.toNat x := by
  induction f generalizing n with
  | zero => have := vle_0 n h; exact ⟨[], _, rfl, by simp; omega, by simp⟩
  | succ f ih =>
    by_cases hn : n < 128
    · rw [vint_lt _ _ hn]; exact ⟨[], _, rfl, by simp; omega, by simp⟩
    · obtain ⟨p, c, hp, hc, hx⟩ := ih (n / 128) (vle_step f n h)
      rw [vint_step f n (by omega), hp]
      refine ⟨_ :: p, c, rfl, hc, ?_⟩
      intro x hxx
      rcases List.mem_cons.1 hxx with rfl | hxx
      · simp; omega
      · exact hx x hxx
def okAt (l : List UInt8) (k : Nat) : Prop := vint 6 (dv (l.take k)) = l.take k
theorem okAt_form (l : List UInt8) (k : Nat) (h7 : k ≤ 7) (h : okAt l k) (hk : k ≤ l.length) : ∃ i, k = i + 1 ∧ (∀ h : i < l.length, l[i].toNat < 128) ∧ ∀ j (hj : j < l.length), j < i → 128 ≤ l[j].toNat := by
  have hlen : (l.take k).length = k := by simp; omega
  obtain ⟨p, c, hp, hc, hx⟩ := vint_form 6 (dv (l.take k)) (vle_6 _ (dv_le7 _ (by omega)))
  unfold okAt at h
  rw [h] at hp
  have hk' : k = p.length + 1 := by rw [← hlen, hp]; simp
  refine ⟨p.length, hk', ?_, ?_⟩
  · intro h'
    have : l[p.length] = (l.take k)[p.length]'(by omega) := by simp
    rw [this]; simp only [hp]; simpa using hc
  · intro j hj hjp
    have : l[j] = (l.take k)[j]'(by omega) := by simp
    rw [this]; simp only [hp, List.getElem_append_left hjp]
    exact hx _ (List.getElem_mem _)
def SpecR (l : List UInt8) (a b : Nat) : Prop :=
  (∃ k, 1 ≤ k ∧ k ≤ 7 ∧ k ≤ l.length ∧ okAt l k ∧ a = dv (l.take k) ∧ b = k) ∨ ((∀ k, 1 ≤ k → k ≤ 7 → k ≤ l.length → ¬ okAt l k) ∧ a = 0 ∧ b = 0)
def hiTo (l : List UInt8) (i : Nat) : Prop := ∀ j (hj : j < l.length), j < i → 128 ≤ l[j].toNat
def ImplR (l : List UInt8) (a b : Nat) : Prop :=
  (∃ i, i < 7 ∧ i < l.length ∧ okAt l (i + 1) ∧ a = dv (l.take (i + 1)) ∧ b = i + 1) ∨ (∃ i, ∃ h : i < l.length, i < 7 ∧ l[i].toNat < 128 ∧ hiTo l i ∧ ¬ okAt l (i + 1) ∧ a = 0 ∧ b = 0) ∨ (hiTo l 7 ∧ a = 0 ∧ b = 0)
theorem agree (l : List UInt8) (a b a' b' : Nat) (h : SpecR l a b) (h' : ImplR l a' b') : a' = a ∧ b' = b := by
  rcases h with ⟨k, h1, h7, hk, hok, ha, hb⟩ | ⟨hno, rfl, rfl⟩
  · obtain ⟨i, rfl, hlo, hhi⟩ := okAt_form l k h7 hok hk
    rcases h' with ⟨i', h7', hk', hok', rfl, rfl⟩ | ⟨i', hi', h7', hlt, hh, hno, rfl, rfl⟩ | ⟨hh, rfl, rfl⟩
    · obtain ⟨i2, e2, hlo2, hhi2⟩ := okAt_form l (i' + 1) (by omega) hok' (by omega)
      obtain rfl : i' = i2 := by omega
      have : i = i' := by
        rcases Nat.lt_trichotomy i i' with h | h | h
        · have := hhi2 i (by omega) h; have := hlo (by omega); omega
        · exact h
        · have := hhi i' (by omega) h; have := hlo2 (by omega); omega
      subst this; exact ⟨ha.symm, hb.symm⟩
    · rcases Nat.lt_trichotomy i i' with h | h | h
      · have := hh i (by omega) h; have := hlo (by omega); omega
      · subst h; exact absurd hok hno
      · have := hhi i' (by omega) h; omega
    · have := hh i (by omega) (by omega); have := hlo (by omega); omega
  · rcases h' with ⟨i', h7', hk', hok', rfl, rfl⟩ | ⟨i', hi', h7', hlt, hh, hno, rfl, rfl⟩ | ⟨hh, rfl, rfl⟩
    · exact absurd hok' (hno _ (by omega) (by omega) (by omega))
    · exact ⟨rfl, rfl⟩
    · exact ⟨rfl, rfl⟩
end Go.Proofs.YtfcbpegpgmcjhaaDoor
