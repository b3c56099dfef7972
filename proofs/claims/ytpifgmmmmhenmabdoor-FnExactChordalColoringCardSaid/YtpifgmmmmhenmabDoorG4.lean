/- Walks over HasEdge and what it calls. -/
import Derived.Test.YtpifgmmmmhenmabDoorG3
namespace Go.Proofs.YtpifgmmmmhenmabDoor
set_option linter.unusedVariables false
set_option linter.unusedSimpArgs false
open Go.RowKit

/-- Are the vertices i and j joined? -/
def edB (l : List Int) (i j : Nat) : Bool := decide (bitAt (nth l i) j = 1)

theorem edB_iff (l : List Int) (i j : Nat) : edB l i j = true ↔ bitAt (nth l i) j = 1 := by simp [edB]

theorem ret_bool {a b : Bool} (h : a = b) : Ending.returned (.bool a) = .returned (.bool b) := by rw [h]

set_option maxHeartbeats 1000000 in
theorem areJoined_is (n : Int) (v : Value) (l : List Int) (i j : Nat) (w : World) (h : Ints w v l) (hi : i < l.length) (hj : j < 64) :
    Calls Tryd.prog 59 #[.agg #[.int .i64 n, v], .int .i64 i, .int .i64 j] w fun e w' => e = .returned (.bool (edB l i j)) ∧ Below w.heap.size w w' := by
  obtain ⟨b, off, cap, rfl, hc, hm, hb, hcell⟩ := h.pos (by omega)
  obtain ⟨x, hx⟩ : ∃ x, x = nth l i := ⟨_, rfl⟩
  have c1 := hcell i hi
  rw [← hx] at c1
  obtain ⟨t, ht⟩ : ∃ t, t = bitAt x j := ⟨_, rfl⟩
  have e1 : bits .and .i64 (x / 2 ^ j) 1 = t := by rw [ht]; exact and_one_bit x j
  have HR : Hid (edB l i j = (t == 1)) := by
    show edB l i j = (t == 1)
    rw [ht, hx]; rfl
  clear h hcell hx ht
  unfold maxLen at hm
  go_enter Tryd.func59, Tryd.ntmps59
  go_wp2
  go_ret
  exact ⟨ret_bool (by rw [HR.out]), (Below.refl _ w).alloc (Nat.le_refl _) _⟩

set_option maxHeartbeats 1000000 in
theorem l2Edge_is (n : Int) (v : Value) (l : List Int) (i j : Nat) (w : World) (h : Ints w v l) (hi : i < l.length) (hj : j < 64) :
    Calls Tryd.prog 44 #[.agg #[.int .i64 n, v], .int .i64 i, .int .i64 j] w fun e w' => e = .returned (.bool (edB l i j)) ∧ Below w.heap.size w w' := by
  obtain ⟨b, off, cap, rfl, hc, hm, hb, hcell⟩ := h.pos (by omega)
  obtain ⟨x, hx⟩ : ∃ x, x = nth l i := ⟨_, rfl⟩
  have c1 := hcell i hi
  rw [← hx] at c1
  obtain ⟨t, ht⟩ : ∃ t, t = bitAt x j := ⟨_, rfl⟩
  have e1 : bits .and .i64 (x / 2 ^ j) 1 = t := by rw [ht]; exact and_one_bit x j
  have HR : Hid (edB l i j = (t == 1)) := by
    show edB l i j = (t == 1)
    rw [ht, hx]; rfl
  clear h hcell hx ht
  unfold maxLen at hm
  go_enter Tryd.func44, Tryd.ntmps44
  go_wp2
  go_ret
  exact ⟨ret_bool (by rw [HR.out]), (Below.refl _ w).alloc (Nat.le_refl _) _⟩

theorem hasVertex_yes (n : Int) (v : Value) (l : List Int) (x : Int) (w : World) (h : Ints w v l) (h0 : 0 ≤ x) (h1 : x < n) :
    Calls Tryd.prog 94 #[.agg #[.int .i64 n, v], .int .i64 x] w fun e w' => e = .returned (.bool true) ∧ Below w.heap.size w w' := by
  obtain ⟨a, cap, rfl, -, -⟩ := h.form
  clear h
  have d0 : decide (0 ≤ x) = true := by simp [h0]
  have d1 : decide (x < n) = true := by simp [h1]
  go_enter Tryd.func94, Tryd.ntmps94
  go_wp2
  go_ret
  exact ⟨rfl, (Below.refl _ w).alloc (Nat.le_refl _) _⟩

theorem hasVertex_no (n : Int) (v : Value) (l : List Int) (x : Int) (w : World) (h : Ints w v l) (hx : ¬ (0 ≤ x ∧ x < n)) :
    Calls Tryd.prog 94 #[.agg #[.int .i64 n, v], .int .i64 x] w fun e w' => e = .returned (.bool false) ∧ Below w.heap.size w w' := by
  obtain ⟨a, cap, rfl, -, -⟩ := h.form
  clear h
  by_cases h0 : 0 ≤ x
  · have d0 : decide (0 ≤ x) = true := by simp [h0]
    have d1 : decide (x < n) = false := by simp; omega
    clear hx
    go_enter Tryd.func94, Tryd.ntmps94
    go_wp2
    go_ret
    exact ⟨rfl, (Below.refl _ w).alloc (Nat.le_refl _) _⟩
  · have d0 : decide (0 ≤ x) = false := by simp; omega
    clear hx
    go_enter Tryd.func94, Tryd.ntmps94
    go_wp2
    go_ret
    exact ⟨rfl, (Below.refl _ w).alloc (Nat.le_refl _) _⟩

/-- Boxed: what a walk asks of a graph's box wherever only what is new has turned. -/
theorem argG' {T : TypeId} {w : World} {n : Int} {a : Option Addr} {len cap : Nat} {l : List Int} (h : Ints w (.slice a len cap) l) :
    Hid (∀ wr, Below (w.heap.size + 1) (w.alloc (.cells #[.int .i64 n, .slice a len cap] T)) wr → ArgG T w n (.slice a len cap) l wr) := fun _ hb => argG h hb

/-- The edges that HasEdge sees. -/
def HasE (n : Int) (l : List Int) (x y : Int) : Prop := IsG n l ∧ (0 ≤ x ∧ x < n) ∧ (0 ≤ y ∧ y < n) ∧ edB l x.toNat y.toNat = true

set_option maxHeartbeats 1000000 in
set_option maxRecDepth 100000 in
theorem implHasEdge (n : Int) (v : Value) (l : List Int) (x y : Int) (w : World) (h : Ints w v l) :
    Calls Tryd.prog 95 #[.agg #[.int .i64 n, v], .int .i64 x, .int .i64 y] w (SaysB (HasE n l x y) w) := by
  obtain ⟨a, cap, rfl, -, -⟩ := h.form
  have HA := argG' (T := 28) (n := n) h
  have HI := Lib.hid h
  clear h
  go_enter Tryd.func95, Tryd.ntmps95
  go_wp2_with fail
  refine (implIsG_any n _ l _ (HI.out.alloc _)).mono ?_
  rintro e w1 ⟨r, rfl, hr, hb⟩
  have HB := Lib.hid (hb.mono (B' := w.heap.size + 1) (by simp))
  clear hb
  obtain ⟨c0, c1, -, -, hz⟩ := HA.out _ HB.out
  cases r with
  | false =>
    have hno : ¬ IsG n l := by simpa using hr
    have HN := Lib.hid hno
    clear hr hno
    go_wp2
    go_ret
    exact SaysB.no (fun hg => HN.out hg.1) (HA.out _ HB.out).2.2.2.1
  | true =>
    have HG := Lib.hid (hr.1 rfl)
    clear hr
    go_wp2_with fail
    by_cases hx : 0 ≤ x ∧ x < n
    · refine (hasVertex_yes n _ l _ _ (HA.out _ HB.out).2.2.1 hx.1 hx.2).mono ?_
      rintro e w2 ⟨rfl, hb⟩
      have HB2 := Lib.hid (HB.out.trans (hb.mono hz))
      have HX := Lib.hid hx
      clear hb hx c0 c1 hz
      obtain ⟨c0, c1, -, -, hz⟩ := HA.out _ HB2.out
      go_wp2_with fail
      by_cases hy : 0 ≤ y ∧ y < n
      · refine (hasVertex_yes n _ l _ _ (HA.out _ HB2.out).2.2.1 hy.1 hy.2).mono ?_
        rintro e w3 ⟨rfl, hb⟩
        have HB3 := Lib.hid (HB2.out.trans (hb.mono hz))
        have HY := Lib.hid hy
        clear hb hy c0 c1 hz
        obtain ⟨c0, c1, -, -, hz⟩ := HA.out _ HB3.out
        have hlen := HG.out.2.2.1
        have h7 := HG.out.2.1
        obtain ⟨i, rfl⟩ := Int.eq_ofNat_of_zero_le HX.out.1
        obtain ⟨j, rfl⟩ := Int.eq_ofNat_of_zero_le HY.out.1
        have hil : i < l.length := by have := HX.out.2; omega
        have hjl : j < 64 := by have := HY.out.2; omega
        have HL := Lib.hid hlen
        clear hlen
        go_wp2_with fail
        refine (areJoined_is n _ l i j _ (HA.out _ HB3.out).2.2.1 hil hjl).mono ?_
        rintro e w4 ⟨rfl, hb⟩
        have HB4 := Lib.hid (HB3.out.trans (hb.mono hz))
        clear hb c0 c1 hz
        go_wp2
        go_ret
        exact ⟨_, rfl, by simp [HasE, HG.out, HX.out.2, HY.out.2], (HA.out _ HB4.out).2.2.2.1⟩
      · refine (hasVertex_no n _ l _ _ (HA.out _ HB2.out).2.2.1 hy).mono ?_
        rintro e w3 ⟨rfl, hb⟩
        have HB3 := Lib.hid (HB2.out.trans (hb.mono hz))
        have HY := Lib.hid hy
        clear hb hy c0 c1 hz
        go_wp2
        go_ret
        exact SaysB.no (fun hg => HY.out hg.2.2.1) (HA.out _ HB3.out).2.2.2.1
    · refine (hasVertex_no n _ l _ _ (HA.out _ HB.out).2.2.1 hx).mono ?_
      rintro e w2 ⟨rfl, hb⟩
      have HB2 := Lib.hid (HB.out.trans (hb.mono hz))
      have HX := Lib.hid hx
      clear hb hx c0 c1 hz
      go_wp2
      go_ret
      exact SaysB.no (fun hg => HX.out hg.2.1) (HA.out _ HB2.out).2.2.2.1

end Go.Proofs.YtpifgmmmmhenmabDoor
