/- Plain facts on reading hexadecimal. -/
import Derived.Test.YtfcbpegpgmcjhaaDoorEhPlain
import Derived.Lib.TrimU
import Derived.Lib.Strings
namespace Go.Proofs.YtfcbpegpgmcjhaaDoor
open Go.Lib

theorem decodeN_hi (n b0 b1 b2 b3 : Nat) (h : 128 ≤ b0) : 128 ≤ (decodeN n b0 b1 b2 b3).1 := by
  unfold decodeN
  rw [if_neg (by omega)]
  split
  · split <;> simp only <;> omega
  · split
    · split <;> simp only <;> omega
    · split
      · split <;> simp only <;> omega
      · simp only; omega
theorem rune_hi (s : ByteArray) (pos : Nat) (h : pos < s.size) (hb : 128 ≤ s[pos].toNat) : 128 ≤ (Utf8.decode s pos).1 := by
  rw [decode_at]
  refine decodeN_hi _ _ _ _ _ ?_
  have : s.get! pos = s[pos] := by show s.data[pos]! = s.data[pos]; exact getElem!_pos s.data pos h
  rw [this]; exact hb

def fromHex (c : UInt8) : Int := if 48 ≤ c.toNat ∧ c.toNat ≤ 57 then (c.toNat : Int) - 48 else if 97 ≤ c.toNat ∧ c.toNat ≤ 102 then (c.toNat : Int) - 87 else -1
theorem fromHex_hexD (k : Nat) (h : k < 16) : fromHex (hexD k) = k := by
  have : ∀ k : Fin 16, fromHex (hexD k.val) = (k.val : Int) := by decide
  exact this ⟨k, h⟩
theorem fromHex_range (c : UInt8) : -1 ≤ fromHex c ∧ fromHex c < 16 := by unfold fromHex; split <;> (try split) <;> omega
theorem hexD_fromHex (c : UInt8) (h : 0 ≤ fromHex c) : hexD (fromHex c).toNat = c := by
  unfold fromHex at h ⊢
  apply UInt8.toNat.inj
  have hc := c.toNat_lt
  split at h
  · rename_i hd
    rw [if_pos hd]
    unfold hexD
    rw [if_pos (by omega)]; simp; omega
  · rename_i hd
    rw [if_neg hd]
    split at h
    · rename_i hd2
      rw [if_pos hd2]
      unfold hexD
      rw [if_neg (by omega)]; simp; omega
    · omega
theorem fromHex_none (c : UInt8) (h : ∀ k, k < 16 → hexD k ≠ c) : fromHex c = -1 := by
  have hr := fromHex_range c
  rcases Int.lt_or_le (fromHex c) 0 with h0 | h0
  · omega
  · exact absurd (hexD_fromHex c h0) (h _ (by omega))

def fx (l : List UInt8) (i : Nat) : Nat := (fromHex (l.getD i 0)).toNat
def outB (l : List UInt8) (k : Nat) : List UInt8 := (List.range k).map fun j => UInt8.ofNat (16 * fx l (2 * j) + fx l (2 * j + 1))
theorem outB_succ (l : List UInt8) (k : Nat) : outB l (k + 1) = outB l k ++ [UInt8.ofNat (16 * fx l (2 * k) + fx l (2 * k + 1))] := by simp [outB, List.range_succ]
theorem outB_length (l : List UInt8) (k : Nat) : (outB l k).length = k := by simp [outB]
def goodTo (l : List UInt8) (i : Nat) : Prop := ∀ j, j < i → 0 ≤ fromHex (l.getD j 0)
theorem goodTo_succ {l : List UInt8} {i : Nat} (h : goodTo l i) (h' : 0 ≤ fromHex (l.getD i 0)) : goodTo l (i + 1) := fun j hj => by
  by_cases e : j = i
  · rw [e]; exact h'
  · exact h j (by omega)
def DhR (l : List UInt8) (r : List UInt8) (b : Bool) : Prop :=
  (l.length % 2 = 1 ∧ r = [] ∧ b = false) ∨ (l.length % 2 = 0 ∧ goodTo l l.length ∧ r = outB l (l.length / 2) ∧ b = true) ∨ (l.length % 2 = 0 ∧ (∃ j, j < l.length ∧ fromHex (l.getD j 0) < 0) ∧ r = [] ∧ b = false)
theorem DhR.agree {l r r' : List UInt8} {b b' : Bool} (h : DhR l r b) (h' : DhR l r' b') : r' = r ∧ b' = b := by
  rcases h with ⟨e, rfl, rfl⟩ | ⟨e, g, rfl, rfl⟩ | ⟨e, ⟨j, hj, hn⟩, rfl, rfl⟩ <;> rcases h' with ⟨e', rfl, rfl⟩ | ⟨e', g', rfl, rfl⟩ | ⟨e', ⟨j', hj', hn'⟩, rfl, rfl⟩
  all_goals first | exact ⟨rfl, rfl⟩ | (exfalso; omega) | skip
  · have := g j' hj'; omega
  · have := g' j hj; omega
theorem getD_at (s : ByteArray) (l : List UInt8) (hl : l = s.data.toList) (i : Nat) (h : i < s.size) : l.getD i 0 = s[i] := by
  subst hl
  have h' : i < s.data.toList.length := by simpa using h
  rw [List.getD_eq_getElem?_getD, List.getElem?_eq_getElem h']
  rfl

theorem fx_lt (l : List UInt8) (i : Nat) : fx l i < 16 := by have := fromHex_range (l.getD i 0); unfold fx; omega
def rowHc (l : List UInt8) (i j : Nat) : UInt8 := if 2 * j + 1 < i then UInt8.ofNat (16 * fx l (2 * j) + fx l (2 * j + 1)) else if 2 * j + 1 = i then UInt8.ofNat (fx l (2 * j)) else 0
def rowH (l : List UInt8) (N i : Nat) : List UInt8 := (List.range N).map (rowHc l i)
theorem rowH_length (l : List UInt8) (N i : Nat) : (rowH l N i).length = N := by simp [rowH]
theorem rowH_0 (l : List UInt8) (N : Nat) : rowH l N 0 = List.replicate N 0 := by
  apply List.ext_getElem
  · simp [rowH]
  · intro j h1 h2; simp [rowH, rowHc]
theorem rowH_end (l : List UInt8) (N : Nat) : rowH l N (2 * N) = outB l N := by
  apply List.ext_getElem
  · simp [rowH, outB]
  · intro j h1 h2
    have hj : j < N := by simpa [rowH] using h1
    simp only [rowH, outB, List.getElem_map, List.getElem_range, rowHc]
    rw [if_pos (by omega)]
theorem rowH_get (l : List UInt8) (N i j : Nat) (h : j < N) : (rowH l N i)[j]'(by rw [rowH_length]; exact h) = rowHc l i j := by simp [rowH]
/-- What stands where the next digit goes. -/
theorem rowHc_here (l : List UInt8) (i : Nat) : (rowHc l i (i / 2)).toNat = if i % 2 = 1 then fx l (i - 1) else 0 := by
  unfold rowHc
  by_cases h : i % 2 = 1
  · have e : 2 * (i / 2) = i - 1 := by omega
    have := fx_lt l (i - 1)
    rw [if_neg (by omega), if_pos (by omega), if_pos h, e]; simp; omega
  · rw [if_neg (by omega), if_neg (by omega), if_neg h]; rfl
theorem rowHc_next (l : List UInt8) (i : Nat) (c : UInt8) (h : c.toNat = 16 * (rowHc l i (i / 2)).toNat + fx l i) : c = rowHc l (i + 1) (i / 2) := by
  rw [rowHc_here] at h
  apply UInt8.toNat.inj
  rw [h]
  have f1 := fx_lt l i
  have f2 := fx_lt l (i - 1)
  unfold rowHc
  by_cases hp : i % 2 = 1
  · have e : 2 * (i / 2) = i - 1 := by omega
    have e' : 2 * (i / 2) + 1 = i := by omega
    rw [if_pos hp, if_pos (by omega), e', e]
    simp; omega
  · have e : 2 * (i / 2) = i := by omega
    rw [if_neg hp, if_neg (by omega), if_pos (by omega), e]
    simp; omega
theorem rowH_step (l : List UInt8) (N i : Nat) (c : UInt8) (hN : i / 2 < N) (h : c.toNat = 16 * (rowHc l i (i / 2)).toNat + fx l i) : (rowH l N i).set (i / 2) c = rowH l N (i + 1) := by
  rw [rowHc_next l i c h]
  apply List.ext_getElem
  · simp [rowH]
  · intro j h1 h2
    have hj : j < N := by simpa [rowH] using h2
    rw [List.getElem_set]
    by_cases e : i / 2 = j
    · rw [if_pos e, rowH_get _ _ _ _ hj, e]
    · rw [if_neg e, rowH_get _ _ _ _ hj, rowH_get _ _ _ _ hj]
      unfold rowHc
      by_cases h3 : 2 * j + 1 < i
      · rw [if_pos h3, if_pos (by omega)]
      · rw [if_neg h3, if_neg (by omega : ¬ 2 * j + 1 < i + 1)]
        by_cases h4 : 2 * j + 1 = i
        · omega
        · rw [if_neg h4, if_neg (by omega)]
theorem nibble (o v : Nat) (ho : o < 16) (hv : v < 16) : bits .or .u8 ((o : Int) * 16) (v : Int) = ((UInt8.ofNat (16 * o + v)).toNat : Int) := by
  rw [bits_join .u8 8 (by decide) wraps_u8 4 _ _ (by omega) (by omega) (by omega) (by omega) (by omega) (by omega)]
  simp; omega
theorem nibble_val (o v : Nat) (ho : o < 16) (hv : v < 16) : (UInt8.ofNat (16 * o + v)).toNat = 16 * o + v := by simp; omega
theorem here_lt (l : List UInt8) (i : Nat) : (rowHc l i (i / 2)).toNat < 16 := by rw [rowHc_here]; have := fx_lt l (i - 1); split <;> omega
end Go.Proofs.YtfcbpegpgmcjhaaDoor
