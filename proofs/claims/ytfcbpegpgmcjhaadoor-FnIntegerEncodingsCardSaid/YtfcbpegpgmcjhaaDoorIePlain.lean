/- Plain facts for the law on integer encodings. -/
import Derived.Test.YtfcbpegpgmcjhaaDoorDvPlain
import Derived.Test.YtfcbpegpgmcjhaaDoorEfPlain
import Derived.Test.YtfcbpegpgmcjhaaDoorDhPlain
import Derived.Test.YtfcbpegpgmcjhaaDoorPiPlain
namespace Go.Proofs.YtfcbpegpgmcjhaaDoor

theorem dv_vint (f n : Nat) (h : n < vle f) : dv (vint f n) = n := by
  induction f generalizing n with
  | zero => have := vle_0 n h; simp [vint, dv]; omega
  | succ f ih =>
    by_cases hn : n < 128
    · rw [vint_lt _ _ hn]; simp [dv]; omega
    · rw [vint_step f n (by omega), dv_cons, ih _ (vle_step f n h)]; simp; omega
theorem vint_ne (f n : Nat) : vint f n ≠ [] := by cases f <;> simp [vint] <;> split <;> simp
theorem impl_vint (n : Nat) (t : List UInt8) (a b : Nat) (hn : n ≤ 562949953421311) (h : ImplR (vint 6 n ++ t) a b) : a = n ∧ b = (vint 6 n).length := by
  have hl := vint_length 6 n
  have hp : 1 ≤ (vint 6 n).length := by
    have := vint_ne 6 n
    cases hv : vint 6 n with
    | nil => exact absurd hv this
    | cons => simp
  have ht : (vint 6 n ++ t).take (vint 6 n).length = vint 6 n := by simp
  have hok : okAt (vint 6 n ++ t) (vint 6 n).length := by unfold okAt; rw [ht, dv_vint 6 n (vle_6 n hn)]
  have hs : SpecR (vint 6 n ++ t) n (vint 6 n).length := .inl ⟨_, hp, hl, by simp, hok, by rw [ht, dv_vint 6 n (vle_6 n hn)], rfl⟩
  exact agree _ _ _ _ _ hs h
theorem dec_lowB (N k : Nat) : dec (lowB N k) = N % 256 ^ k := by
  suffices h : ∀ (k n : Nat), (lowB N k).foldl (fun n b => n * 256 + b.toNat) n = n * 256 ^ k + N % 256 ^ k by
    have := h k 0; simpa [dec] using this
  intro k
  induction k with
  | zero => intro n; simp [lowB, Nat.mod_one]
  | succ k ih =>
    intro n
    simp only [lowB, List.foldl_cons]
    rw [ih]
    have e1 : (UInt8.ofNat (N / 256 ^ k % 256)).toNat = N / 256 ^ k % 256 := by simp
    rw [e1, Nat.pow_succ, Nat.add_mul, Nat.mul_assoc, Nat.mul_comm 256, Nat.add_assoc]
    congr 1
    rw [Nat.mul_comm (N / 256 ^ k % 256), Nat.mod_mul, Nat.add_comm]
theorem dec_fits (N k : Nat) (h : N / 256 ^ k = 0) : dec (lowB N k) = N := by
  rw [dec_lowB]
  exact Nat.mod_eq_of_lt (by have hp : 0 < 256 ^ k := Nat.pow_pos (by omega)
                             rcases Nat.lt_or_ge N (256 ^ k) with h' | h'
                             · exact h'
                             · have := Nat.div_pos h' hp; omega)
theorem hexL_cons (c : UInt8) (l : List UInt8) : hexL (c :: l) = hexD (c.toNat / 16) :: hexD (c.toNat % 16) :: hexL l := by simp [hexL]
theorem hexL_get (l : List UInt8) : ∀ (j : Nat) (h : j < l.length), (hexL l).getD (2 * j) 0 = hexD (l[j].toNat / 16) ∧ (hexL l).getD (2 * j + 1) 0 = hexD (l[j].toNat % 16) := by
  induction l with
  | nil => intro j h; simp at h
  | cons c l ih =>
    intro j h
    rw [hexL_cons]
    cases j with
    | zero => exact ⟨rfl, rfl⟩
    | succ j =>
      have := ih j (by simpa using h)
      rw [show 2 * (j + 1) = 2 * j + 1 + 1 by omega]
      simpa using this
theorem unhex_hex (l : List UInt8) : goodTo (hexL l) (hexL l).length ∧ outB (hexL l) ((hexL l).length / 2) = l := by
  have hl := hexL_length l
  refine ⟨fun i hi => ?_, ?_⟩
  · have hj : i / 2 < l.length := by omega
    obtain ⟨h1, h2⟩ := hexL_get l (i / 2) hj
    rcases (by omega : i = 2 * (i / 2) ∨ i = 2 * (i / 2) + 1) with e | e
    · rw [e, h1, fromHex_hexD _ (by have := l[i / 2].toNat_lt; omega)]; omega
    · rw [e, h2, fromHex_hexD _ (by omega)]; omega
  · have e : (hexL l).length / 2 = l.length := by omega
    rw [e]
    apply List.ext_getElem
    · rw [outB_length]
    · intro j h1 h2
      obtain ⟨g1, g2⟩ := hexL_get l j h2
      have hc := l[j].toNat_lt
      simp only [outB, List.getElem_map, List.getElem_range, fx, g1, g2]
      rw [fromHex_hexD _ (by omega), fromHex_hexD _ (by omega)]
      apply UInt8.toNat.inj
      simp only [Int.toNat_natCast, UInt8.toNat_ofNat']
      omega
theorem nDigits_le (k : Nat) : ∀ u, u < 10 ^ (k + 1) → Lib.nDigits u ≤ k + 1 := by
  induction k with
  | zero => intro u h; rw [Lib.nDigits_small (by simpa using h)]; omega
  | succ k ih =>
    intro u h
    by_cases h10 : u < 10
    · rw [Lib.nDigits_small h10]; omega
    · rw [Lib.nDigits_big h10]
      rw [Nat.pow_succ] at h
      have := ih (u / 10) (by omega)
      omega
theorem parse_format (n : Int) : (-1000000000 < n ∧ n < 1000000000 → Good (Lib.itoa n) n) ∧ (¬ (-1000000000 < n ∧ n < 1000000000) → ∀ v, ¬ Good (Lib.itoa n) v) := by
  refine ⟨fun h => ⟨rfl, ?_⟩, fun h v hg => ?_⟩
  · rw [Lib.decDigits_length]
    exact nDigits_le 8 _ (by have : (10 : Nat) ^ (8 + 1) = 1000000000 := by decide
                             omega)
  · have e : v = n := by
      have h1 := hg.atoi
      rw [atoi_itoa] at h1
      exact (Option.some.inj h1).symm
    subst e
    have h9 := hg.2
    rw [Lib.decDigits_length] at h9
    have h1 := Lib.lt_pow_nDigits v.natAbs
    have h2 : 10 ^ Lib.nDigits v.natAbs ≤ 10 ^ 9 := Nat.pow_le_pow_right (by omega) h9
    have : (10 : Nat) ^ 9 = 1000000000 := by decide
    omega
end Go.Proofs.YtfcbpegpgmcjhaaDoor
