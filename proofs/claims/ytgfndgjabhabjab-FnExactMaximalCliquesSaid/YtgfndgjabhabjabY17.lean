/- IsTransitive. -/
import Derived.Test.YtgfndgjabhabjabY13
import Derived.Test.YtgfndgjabhabjabT3
import Derived.Test.YtgfndgjabhabjabV2
import Derived.Test.YtgfndgjabhabjabR
import Derived.Test.YtgfndgjabhabjabM2
import Derived.Sort.CutIn
namespace Go.Proofs.Ytgfndgjabhabjab
set_option linter.unusedVariables false
set_option linter.unusedSimpArgs false
open Go.RowKit Go.Shelf
attribute [local go_sem] Oper.semAt_some

/-- An orientation whose every two arcs in a row have their third. -/
def TrP (n : Int) (l T : List Int) : Prop := OriP n l T ∧ ∀ v, v < l.length → ∀ j, j < l.length → obit T v j = true → bits .and .i64 (nth T j) (nth T v) = nth T j

instance (n : Int) (l T : List Int) : Decidable (TrP n l T) := by unfold TrP; exact inferInstance

def TrJ (T : List Int) (v : Nat) : Prop := ∀ j, j < 7 → bitAt (nth T v) j = 1 → bits .andNot .i64 (nth T j) (nth T v) = 0

theorem ori_row {n : Int} {l T : List Int} (h : OriP n l T) (v : Nat) (hv : v < l.length) : ∃ R : Nat, nth T v = (R : Int) ∧ R < 2 ^ l.length ∧ R < 128 := by
  obtain ⟨p0, p1⟩ := h.2.2.1 v hv
  obtain ⟨R, hR⟩ := Int.eq_ofNat_of_zero_le p0
  have h7 : l.length ≤ 7 := by have := h.1.2.1; have := h.1.2.2.1; omega
  have h128 : 2 ^ l.length ≤ 128 := Nat.pow_le_pow_right (n := 2) (by decide) h7
  have hlt : R < 2 ^ l.length := by rw [hR] at p1; exact_mod_cast p1
  exact ⟨R, hR, hlt, by omega⟩

theorem tr_same (a b : Nat) (ha : a < 128) (hb : b < 128) : bits .andNot .i64 (a : Int) (b : Int) = 0 ↔ bits .and .i64 (a : Int) (b : Int) = (a : Int) := by
  rw [(bits_nat a b ha hb).1, andNot_bits ⟨a, ha⟩ ⟨b, hb⟩]
  constructor
  · intro h
    have h' : a &&& b = a := h
    rw [h']
  · intro h
    show a &&& b = a
    exact_mod_cast h

theorem tr_bit {n : Int} {l T : List Int} (h : OriP n l T) {v j : Nat} (hv : v < l.length) (hb : bitAt (nth T v) j = 1) : j < l.length := by
  obtain ⟨R, hR, h1, -⟩ := ori_row h v hv
  rw [hR] at hb
  exact bit_lt h1 ((bitAt_nat R j).1 hb)

theorem tr_all {n : Int} {l T : List Int} (h : OriP n l T) (hj : ∀ v, v < T.length → TrJ T v) : TrP n l T := by
  refine ⟨h, fun v hv j hjl ho => ?_⟩
  have h7 : l.length ≤ 7 := by have := h.1.2.1; have := h.1.2.2.1; omega
  have h1 := hj v (by rw [h.2.1]; exact hv) j (by omega) (by unfold obit at ho; exact decide_eq_true_iff.1 ho)
  obtain ⟨R, hR, -, hR7⟩ := ori_row h v hv
  obtain ⟨S, hS, -, hS7⟩ := ori_row h j hjl
  rw [hR, hS] at h1 ⊢
  exact (tr_same S R hS7 hR7).1 h1

theorem tr_hit {n : Int} {l T : List Int} (h : TrP n l T) {i k : Nat} (hi : i < T.length) (hb : bitAt (nth T i) k = 1) (he : bits .andNot .i64 (nth T k) (nth T i) ≠ 0) : False := by
  have hil : i < l.length := by rw [← h.1.2.1]; exact hi
  have hkl := tr_bit h.1 hil hb
  have h1 := h.2 i hil k hkl (by unfold obit; exact decide_eq_true hb)
  obtain ⟨R, hR, -, hR7⟩ := ori_row h.1 i hil
  obtain ⟨S, hS, -, hS7⟩ := ori_row h.1 k hkl
  rw [hR, hS] at h1 he
  exact he ((tr_same S R hS7 hR7).2 h1)

/-- What holds between two rounds. -/
def TrK (w : World) (vl : Value) (W : World) : Prop := W.cell? ⟨w.heap.size + 1, 0, none⟩ = some vl ∧ W.cell? ⟨w.heap.size + 1 + 1, 0, none⟩ = some (.bool false) ∧ W.frozen? ⟨w.heap.size + 1 + 1, 0, none⟩ = false ∧ Below w.heap.size w W ∧ w.heap.size + 3 ≤ W.heap.size

theorem TrK.keep {w : World} {vl : Value} {W W' : World} (h : TrK w vl W) (hg : W.grownBy W' none) : TrK w vl W' := by
  obtain ⟨h1, h3, h4, h5, h6⟩ := h
  obtain ⟨hc, hf⟩ := gcell hg
  exact ⟨by rw [hc _ _ (by omega) (by simp)]; exact h1, by rw [hc _ _ (by omega) (by simp)]; exact h3, by rw [hf _ _ (by omega) (by simp)]; exact h4,
    h5.grown hg h5.size (fun k hk => by simp at hk), Nat.le_trans h6 hg.size⟩

end Go.Proofs.Ytgfndgjabhabjab
