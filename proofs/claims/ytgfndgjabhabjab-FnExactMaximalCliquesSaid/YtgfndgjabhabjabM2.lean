/- Modules: what lies outside of a set; plain facts. -/
import Derived.Test.YtgfndgjabhabjabV7
import Derived.Test.YtgfndgjabhabjabI1
import Derived.Test.YtgfndgjabhabjabM1
import Derived.Test.YtgfndgjabhabjabT1
namespace Go.Proofs.Ytgfndgjabhabjab
set_option linter.unusedVariables false
set_option linter.unusedSimpArgs false
open Go.RowKit

/-- What of a lies outside of X. -/
def offN (a X : Nat) : Nat := (a ||| X) - X

theorem off_facts (a X : Nat) (ha : a < 128) (hX : X < 128) : bits .andNot .i64 (a : Int) (X : Int) = ((offN a X : Nat) : Int) ∧ bits .or .i64 (a : Int) (X : Int) - (X : Int) = ((offN a X : Nat) : Int) ∧ offN a X < 128 ∧ 0 ≤ bits .or .i64 (a : Int) (X : Int) ∧ bits .or .i64 (a : Int) (X : Int) ≤ 127 := by
  have : ∀ (a X : Fin 128), bits .andNot .i64 ((a.val : Nat) : Int) ((X.val : Nat) : Int) = ((offN a.val X.val : Nat) : Int) ∧ bits .or .i64 ((a.val : Nat) : Int) ((X.val : Nat) : Int) - ((X.val : Nat) : Int) = ((offN a.val X.val : Nat) : Int) ∧ offN a.val X.val < 128 ∧ 0 ≤ bits .or .i64 ((a.val : Nat) : Int) ((X.val : Nat) : Int) ∧ bits .or .i64 ((a.val : Nat) : Int) ((X.val : Nat) : Int) ≤ 127 := by decide +kernel
  exact this ⟨a, ha⟩ ⟨X, hX⟩

theorem off_and (a X : Nat) (ha : a < 128) (hX : X < 128) : offN a X = a &&& (127 - X) := by
  have : ∀ (a X : Fin 128), offN a.val X.val = a.val &&& (127 - X.val) := by decide +kernel
  exact this ⟨a, ha⟩ ⟨X, hX⟩

theorem off_bit (a X : Nat) (ha : a < 128) (hX : X < 128) (i : Nat) : (offN a X).testBit i = true ↔ a.testBit i = true ∧ X.testBit i = false := by
  have hs : Sub X 127 := fun j hj => by
    have := sub_full 7 (by omega) X hX
    exact this j hj
  rw [off_and a X ha hX, Nat.testBit_and, Bool.and_eq_true, minus_bit (by omega) hs]
  refine ⟨fun ⟨p, q, r⟩ => ⟨p, r⟩, fun ⟨p, r⟩ => ⟨p, ?_, r⟩⟩
  have h7 := hi_bit ha p
  have : ∀ i : Fin 7, (127 : Nat).testBit i.val = true := by decide
  exact this ⟨i, h7⟩

/-- A module. -/
def ModS (n : Int) (l : List Int) (x : Int) : Prop := IsS n l x ∧ x ≠ 0 ∧ ∀ v, v < 7 → x.toNat.testBit v = true → ∀ u, u < 7 → x.toNat.testBit u = true → offN (rowN l v) x.toNat = offN (rowN l u) x.toNat

instance (n : Int) (l : List Int) (x : Int) : Decidable (ModS n l x) := by unfold ModS; infer_instance

theorem row_small {n : Int} {l : List Int} (hg : IsG n l) {v : Nat} (hv : v < l.length) : rowN l v < 128 := by
  have h1 := (hg.row_lt v hv).1
  have := two_le l.length (by have := hg.2.1; have := hg.2.2.1; omega)
  omega

theorem around_small {n : Int} {l : List Int} (hg : IsG n l) {X : Nat} (hX : X < 2 ^ l.length) : aroundN (rowN l) X < 128 := by
  have h1 := around_lt hg hX
  have := two_le l.length (by have := hg.2.1; have := hg.2.2.1; omega)
  omega

/-- All have what the set has around it. -/
theorem mod_around {n : Int} {l : List Int} {x : Int} (hs : IsS n l x) (h0 : x ≠ 0) : ModS n l x ↔ ∀ v, v < 7 → x.toNat.testBit v = true → offN (rowN l v) x.toNat = offN (aroundN (rowN l) x.toNat) x.toNat := by
  obtain ⟨h1, h2, h3⟩ := hs.nat
  obtain ⟨X, hX⟩ : ∃ X, X = x.toNat := ⟨_, rfl⟩
  unfold ModS
  rw [← hX] at h2 ⊢
  have h7 : X < 128 := Nat.lt_of_lt_of_le h2 (two_le _ h3)
  have ha := around_small hs.1 h2
  refine ⟨fun ⟨_, _, h⟩ v hv hb => ?_, fun h => ⟨hs, h0, fun v hv hb u hu hc => by rw [h v hv hb, h u hu hc]⟩⟩
  have hr := row_small hs.1 (bit_lt h2 hb)
  refine eq_of_bits fun i => ?_
  rw [off_bit _ _ hr h7, off_bit _ _ ha h7, aroundN_bit]
  refine ⟨fun ⟨p, q⟩ => ⟨.inr ⟨v, hv, hb, p⟩, q⟩, fun ⟨p, q⟩ => ⟨?_, q⟩⟩
  rcases p with p | ⟨u, hu, hc, p⟩
  · rw [p] at q; cases q
  · have hru := row_small hs.1 (bit_lt h2 hc)
    have := h v hv hb u hu hc
    exact ((off_bit _ _ hr h7 i).1 (by rw [this, off_bit _ _ hru h7]; exact ⟨p, q⟩)).1

theorem mem_kl {X v : Nat} (hv : v < 7) (hb : X.testBit v = true) : ∃ i, i < (memN X).length ∧ klN X i = v := by
  have hm : v ∈ memN X := by unfold memN; simp [hv, hb]
  obtain ⟨i, hi, he⟩ := List.getElem_of_mem hm
  refine ⟨i, hi, ?_⟩
  unfold klN
  rw [List.getD_eq_getElem?_getD, List.getElem?_eq_getElem hi]
  exact he

/-- All have what the first one has. -/
theorem mod_first {n : Int} {l : List Int} {x : Int} (hs : IsS n l x) (h0 : x ≠ 0) : ModS n l x ↔ ∀ i, i < (memN x.toNat).length → 1 ≤ i → offN (rowN l (klN x.toNat i)) x.toNat = offN (rowN l (klN x.toNat 0)) x.toNat := by
  unfold ModS
  obtain ⟨X, hX⟩ : ∃ X, X = x.toNat := ⟨_, rfl⟩
  rw [← hX]
  refine ⟨fun ⟨_, _, h⟩ i hi _ => ?_, fun h => ⟨hs, h0, fun v hv hb u hu hc => ?_⟩⟩
  · have h1 := kl_bit hi
    have h2 := kl_bit (show 0 < (memN X).length by omega)
    exact h _ h1.1 h1.2 _ h2.1 h2.2
  · have key : ∀ v, v < 7 → X.testBit v = true → offN (rowN l v) X = offN (rowN l (klN X 0)) X := fun v hv hb => by
      obtain ⟨i, hi, rfl⟩ := mem_kl hv hb
      rcases Nat.eq_zero_or_pos i with rfl | h1
      · rfl
      · exact h i hi h1
    rw [key v hv hb, key u hu hc]

end Go.Proofs.Ytgfndgjabhabjab
