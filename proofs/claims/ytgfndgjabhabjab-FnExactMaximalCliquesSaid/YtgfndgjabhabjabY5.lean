/- Orientations: what they are, by arcs and by edges. -/
import Derived.Test.YtgfndgjabhabjabS2
import Derived.Test.YtgfndgjabhabjabG5
import Derived.Test.YtgfndgjabhabjabB
import Derived.Test.YtgfndgjabhabjabH2
namespace Go.Proofs.Ytgfndgjabhabjab
set_option linter.unusedVariables false
set_option linter.unusedSimpArgs false
open Go.RowKit

def obit (T : List Int) (v w : Nat) : Bool := decide (bitAt (nth T v) w = 1)

/-- Each edge is turned one way, and nothing else is. -/
def OriP (n : Int) (l T : List Int) : Prop := IsG n l ∧ T.length = l.length ∧ (∀ v, v < l.length → 0 ≤ nth T v ∧ nth T v < ((2 ^ l.length : Nat) : Int)) ∧
  ∀ v, v < l.length → ∀ w, w < l.length → edB l v w = (obit T v w || obit T w v) ∧ (obit T v w && obit T w v) = false

instance (n : Int) (l T : List Int) : Decidable (OriP n l T) := by unfold OriP; exact inferInstance

def OriI (n : Int) (l T : List Int) : Prop := IsG n l ∧ T.length = l.length ∧ (∀ v, v < l.length → bits .andNot .i64 (nth T v) (nth l v) = 0) ∧
  ∀ j, j < (edgesR n l).length → obit T (nth (subL (edgesR n l) j) 0).toNat (nth (subL (edgesR n l) j) 1).toNat ≠ obit T (nth (subL (edgesR n l) j) 1).toNat (nth (subL (edgesR n l) j) 0).toNat

theorem edges_mem {n : Int} {l : List Int} (hg : IsG n l) (j : Nat) (hj : j < (edgesR n l).length) :
    ∃ v w : Nat, v < w ∧ w < l.length ∧ edB l v w = true ∧ subL (edgesR n l) j = [(v : Int), (w : Int)] := by
  have hm : subL (edgesR n l) j ∈ edgesR n l := by
    unfold subL
    rw [List.getD_eq_getElem?_getD, List.getElem?_eq_getElem hj]
    exact List.getElem_mem hj
  obtain ⟨x, hx⟩ : ∃ x, x = subL (edgesR n l) j := ⟨_, rfl⟩
  rw [← hx] at hm ⊢
  unfold edgesR at hm
  rw [if_pos hg] at hm
  unfold allE rowE at hm
  simp only [List.mem_flatMap, List.mem_map, List.mem_filter, List.mem_range, Bool.and_eq_true, decide_eq_true_eq] at hm
  obtain ⟨v, -, w, ⟨hw, hvw, he⟩, rfl⟩ := hm
  exact ⟨v, w, hvw, hw, he, rfl⟩

theorem edges_all {n : Int} {l : List Int} (hg : IsG n l) (v w : Nat) (hvw : v < w) (hw : w < l.length) (he : edB l v w = true) :
    ∃ j, j < (edgesR n l).length ∧ subL (edgesR n l) j = [(v : Int), (w : Int)] := by
  have hm : [(v : Int), (w : Int)] ∈ edgesR n l := by
    unfold edgesR
    rw [if_pos hg]
    unfold allE rowE
    simp only [List.mem_flatMap, List.mem_map, List.mem_filter, List.mem_range, Bool.and_eq_true, decide_eq_true_eq]
    exact ⟨v, by omega, w, ⟨hw, hvw, he⟩, rfl⟩
  obtain ⟨j, hj, hx⟩ := List.mem_iff_getElem.1 hm
  exact ⟨j, hj, by unfold subL; rw [List.getD_eq_getElem?_getD, List.getElem?_eq_getElem hj]; exact hx⟩

theorem andNot_bits : ∀ (a b : Fin 128), bits .andNot .i64 ((a.val : Nat) : Int) ((b.val : Nat) : Int) = 0 ↔ a.val &&& b.val = a.val := by decide +kernel

theorem and_bits : ∀ (a b : Fin 128), a.val &&& b.val = a.val ↔ ∀ j : Fin 7, a.val.testBit j.val = true → b.val.testBit j.val = true := by decide +kernel

theorem bitAt_test (a : Nat) (j : Nat) : bitAt (a : Int) j = 1 ↔ a.testBit j = true := by
  unfold bitAt
  rw [Nat.testBit_eq_decide_div_mod_eq, decide_eq_true_iff]
  have e : (2 : Int) ^ j = ((2 ^ j : Nat) : Int) := by push_cast; rfl
  rw [e, show (a : Int) / ((2 ^ j : Nat) : Int) = ((a / 2 ^ j : Nat) : Int) from rfl]
  omega

theorem andNot_small {x : Int} {b : Nat} (hx0 : -9223372036854775808 ≤ x) (hx1 : x ≤ 9223372036854775807) (hb : b < 128) (h : bits .andNot .i64 x (b : Int) = 0) : 0 ≤ x ∧ x < 128 := by
  have hd : bits .andNot .i64 x (b : Int) = IntKind.i64.wrap ((BitVec.ofInt 64 x &&& ~~~ BitVec.ofInt 64 (b : Int)).toNat : Int) := rfl
  rw [hd, IntKind.wrap_i64] at h
  have hlt := (BitVec.ofInt 64 x &&& ~~~ BitVec.ofInt 64 (b : Int)).isLt
  have h0 : (BitVec.ofInt 64 x &&& ~~~ BitVec.ofInt 64 (b : Int)).toNat = 0 := by omega
  have h1 : BitVec.ofInt 64 x &&& ~~~ BitVec.ofInt 64 (b : Int) = 0#64 := BitVec.eq_of_toNat_eq (by simpa using h0)
  have h2 : BitVec.ofInt 64 x = BitVec.ofInt 64 x &&& BitVec.ofInt 64 (b : Int) := by
    apply BitVec.eq_of_getElem_eq
    intro i hi
    have h3 := congrArg (fun z => z.getLsbD i) h1
    simp only [BitVec.getLsbD_and, BitVec.getLsbD_not, BitVec.getLsbD_zero] at h3
    simp only [BitVec.getElem_and]
    rw [← BitVec.getLsbD_eq_getElem, ← BitVec.getLsbD_eq_getElem]
    cases hx : (BitVec.ofInt 64 x).getLsbD i <;> cases hy : (BitVec.ofInt 64 (b : Int)).getLsbD i <;> simp_all
  have h3 : (BitVec.ofInt 64 x).toNat ≤ (BitVec.ofInt 64 (b : Int)).toNat := by
    rw [h2, BitVec.toNat_and]
    exact Nat.and_le_right
  have h4 : (BitVec.ofInt 64 (b : Int)).toNat = b := by rw [BitVec.toNat_ofInt]; omega
  rw [h4, BitVec.toNat_ofInt] at h3
  omega

theorem oriI_iff (n : Int) (l T : List Int) (hT : inI64 T) : OriI n l T ↔ OriP n l T := by
  have key : ∀ (hg : IsG n l) v, v < l.length → (bits .andNot .i64 (nth T v) (nth l v) = 0 ↔ (0 ≤ nth T v ∧ nth T v < ((2 ^ l.length : Nat) : Int)) ∧ ∀ w, w < l.length → obit T v w = true → edB l v w = true) := fun hg v hv => by
    obtain ⟨hr, hrow⟩ := hg.row_lt v hv
    have h7 : l.length ≤ 7 := by have := hg.2.1; have := hg.2.2.1; omega
    have h128 : 2 ^ l.length ≤ 128 := Nat.pow_le_pow_right (n := 2) (by decide) h7
    have hin := nth_in hT v
    rw [hrow]
    constructor
    · intro h
      obtain ⟨p0, p1⟩ := andNot_small hin.1 hin.2 (by omega) h
      obtain ⟨a, ha⟩ := Int.eq_ofNat_of_zero_le p0
      rw [ha] at h p1 ⊢
      have h1 := (andNot_bits ⟨a, by omega⟩ ⟨rowN l v, by omega⟩).1 h
      have h2 : a ≤ rowN l v := by
        have h1' : a &&& rowN l v = a := h1
        rw [← h1']; exact Nat.and_le_right
      refine ⟨⟨by omega, by exact_mod_cast (by omega : a < 2 ^ l.length)⟩, fun w hw ho => ?_⟩
      have h3 := (and_bits ⟨a, by omega⟩ ⟨rowN l v, by omega⟩).1 h1 ⟨w, by omega⟩
      unfold obit at ho
      rw [ha, decide_eq_true_iff, bitAt_test] at ho
      unfold edB
      rw [decide_eq_true_iff, hrow, bitAt_test]
      exact h3 ho
    · rintro ⟨⟨p0, p1⟩, h⟩
      obtain ⟨a, ha⟩ := Int.eq_ofNat_of_zero_le p0
      rw [ha] at p1 ⊢
      have p2 : a < 2 ^ l.length := by exact_mod_cast p1
      refine (andNot_bits ⟨a, by omega⟩ ⟨rowN l v, by omega⟩).2 ((and_bits ⟨a, by omega⟩ ⟨rowN l v, by omega⟩).2 fun j hj => ?_)
      have hj' : a.testBit j.val = true := hj
      have hjl : j.val < l.length := by
        rcases Nat.lt_or_ge j.val l.length with h' | h'
        · exact h'
        · rw [Nat.testBit_lt_two_pow (Nat.lt_of_lt_of_le p2 (Nat.pow_le_pow_right (by decide) h'))] at hj'
          cases hj'
      have h3 := h j.val hjl (by unfold obit; rw [ha, decide_eq_true_iff, bitAt_test]; exact hj')
      unfold edB at h3
      rw [decide_eq_true_iff, hrow, bitAt_test] at h3
      exact h3
  constructor
  · rintro ⟨hg, hl, h1, h2⟩
    refine ⟨hg, hl, fun v hv => ((key hg v hv).1 (h1 v hv)).1, fun v hv w hw => ?_⟩
    have sym : edB l v w = edB l w v := by unfold edB; rw [hg.sym hv hw]
    have fv := ((key hg v hv).1 (h1 v hv)).2 w hw
    have fw := ((key hg w hw).1 (h1 w hw)).2 v hv
    rw [← sym] at fw
    have diff : edB l v w = true → obit T v w ≠ obit T w v := fun he => by
      rcases Nat.lt_trichotomy v w with h | h | h
      · obtain ⟨j, hj, hs⟩ := edges_all hg v w h hw he
        have := h2 j hj
        rw [hs] at this
        simpa [nth] using this
      · subst h
        exfalso
        have h0 := (hg.2.2.2 v hv).1.2.2
        unfold edB at he
        rw [decide_eq_true_iff] at he
        omega
      · obtain ⟨j, hj, hs⟩ := edges_all hg w v h hv (by rw [← sym]; exact he)
        have := h2 j hj
        rw [hs] at this
        have h' : obit T w v ≠ obit T v w := by simpa [nth] using this
        exact fun h => h' h.symm
    cases he : edB l v w <;> cases ha : obit T v w <;> cases hb : obit T w v <;> simp_all
  · rintro ⟨hg, hl, h1, h2⟩
    refine ⟨hg, hl, fun v hv => (key hg v hv).2 ⟨h1 v hv, fun w hw ho => by rw [(h2 v hv w hw).1, ho]; rfl⟩, fun j hj => ?_⟩
    obtain ⟨v, w, hvw, hw, he, hs⟩ := edges_mem hg j hj
    rw [hs]
    have h3 := h2 v (by omega) w hw
    rw [he] at h3
    have e0 : (nth [(v : Int), (w : Int)] 0).toNat = v := by simp [nth]
    have e1 : (nth [(v : Int), (w : Int)] 1).toNat = w := by simp [nth]
    rw [e0, e1]
    obtain ⟨h3a, h3b⟩ := h3
    intro heq
    rw [heq] at h3a h3b
    cases hb : obit T w v <;> rw [hb] at h3a h3b <;> simp at h3a h3b

end Go.Proofs.Ytgfndgjabhabjab
