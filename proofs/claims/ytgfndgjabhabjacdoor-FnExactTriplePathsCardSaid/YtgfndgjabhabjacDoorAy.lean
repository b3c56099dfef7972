/- TriplePaths. -/
import Derived.Test.YtgfndgjabhabjacDoorAv
import Derived.Test.YtgfndgjabhabjacDoorS2
namespace Go.Proofs.YtgfndgjabhabjacDoor
set_option linter.unusedVariables false
set_option linter.unusedSimpArgs false
open Go.RowKit

/-- The three ways, if there are all three. -/
def tripL (n : Int) (l : List Int) (a b c : Int) : List (List Int) := if tripB n l a b c then [outL (avoR n l a b c), outL (avoR n l b c a), outL (avoR n l c a b)] else []

/-- Three slices of the call's own in a row. -/
theorem three_own {lo : Nat} {W : World} {v1 v2 v3 : Value} {l1 l2 l3 : List Int} (hlo : lo ≤ W.heap.size) (h1 : OwnI lo W v1 l1) (h2 : OwnI lo W v2 l2) (h3 : OwnI lo W v3 l3)
    (d12 : ∀ k, v1.ownBlock = some k → v2.ownBlock ≠ some k) (d13 : ∀ k, v1.ownBlock = some k → v3.ownBlock ≠ some k) (d23 : ∀ k, v2.ownBlock = some k → v3.ownBlock ≠ some k) :
    OwnII lo (W.alloc (.cells #[v1, v2, v3] 22)).heap.size (W.alloc (.cells #[v1, v2, v3] 22)) (.slice (some ⟨W.heap.size, 0, none⟩) 3 3) [l1, l2, l3] := by
  have own := World.ownsRow_lit W #[v1, v2, v3] 3 (e := 22) (base := lo) hlo (by simp [maxLen]) (size := 1) rfl
  have hE : ∀ i, i < 3 → OwnI lo W (elt [v1, v2, v3] i) (subL [l1, l2, l3] i) := fun i hi => by
    match i, hi with
    | 0, _ => exact h1
    | 1, _ => exact h2
    | 2, _ => exact h3
  refine ⟨[v1, v2, v3], rfl, own, fun i hi => (hE i hi).alloc _, fun i k hi hk => (((hE i hi).alloc _).lt k hk).2, fun k hk => (own.lt k hk).2, fun i j k hi hj hik hjk => ?_⟩
  match i, hi, j, hj with
  | 0, _, 0, _ => rfl
  | 1, _, 1, _ => rfl
  | 2, _, 2, _ => rfl
  | 0, _, 1, _ => exact absurd hjk (d12 k hik)
  | 0, _, 2, _ => exact absurd hjk (d13 k hik)
  | 1, _, 2, _ => exact absurd hjk (d23 k hik)
  | 1, _, 0, _ => exact absurd hik (d12 k hjk)
  | 2, _, 0, _ => exact absurd hik (d13 k hjk)
  | 2, _, 1, _ => exact absurd hik (d23 k hjk)

theorem none_own {lo : Nat} {W : World} (hlo : lo ≤ W.heap.size) : OwnII lo (W.alloc (.cells #[] 22)).heap.size (W.alloc (.cells #[] 22)) (.slice (some ⟨W.heap.size, 0, none⟩) 0 0) [] := by
  have own := World.ownsRow_lit W #[] 0 (e := 22) (base := lo) hlo (by simp [maxLen]) (size := 1) rfl
  exact ⟨[], rfl, own, fun i hi => by simp at hi, fun i k hi => by simp at hi, fun k hk => (own.lt k hk).2, fun i j k hi => by simp at hi⟩

set_option maxHeartbeats 2000000 in
set_option maxRecDepth 100000 in
theorem implTripL (n : Int) (v : Value) (lg : List Int) (a b c : Int) (w : World) (h : Ints w v lg) (ht : TabT w) :
    Calls Tryd.prog 10 #[.agg #[.int .i64 n, v], .int .i64 a, .int .i64 b, .int .i64 c] w (fun e w' => ∃ u, e = .returned (.tuple #[u, .bool (tripB n lg a b c)]) ∧ OwnII w.heap.size w'.heap.size w' u (tripL n lg a b c) ∧ Below w.heap.size w w') := by
  obtain ⟨ad, cap, rfl, -, -⟩ := h.form
  have HI := Lib.hid h
  have HT := Lib.hid ht
  have HA := argG' (T := 29) (n := n) h
  obtain ⟨r, hr⟩ : ∃ r, r = tripB n lg a b c := ⟨_, rfl⟩
  obtain ⟨L, hL⟩ : ∃ L, L = tripL n lg a b c := ⟨_, rfl⟩
  have HR := Lib.hid hr
  have HLL := Lib.hid hL
  rw [← hr, ← hL]
  clear h ht hr hL
  go_enter Tryd.func10, Tryd.ntmps10
  have HB0 := Lib.hid (Below.refl (w.heap.size + 1) (w.alloc (.cells #[.int .i64 n, .slice ad lg.length cap] 29)))
  obtain ⟨c0, c1, cI, cB, -⟩ := HA.out _ HB0.out
  have HC0 := Lib.hid cI
  have HCB0 := Lib.hid cB
  have hz0 : w.heap.size + 1 ≤ (w.alloc (.cells #[.int .i64 n, .slice ad lg.length cap] 29)).heap.size := by simp
  clear cI cB
  go_wp2_with fail
  refine (implAvo n _ lg a b c _ HC0.out (HT.out.on HCB0.out)).mono ?_
  rintro e w1 ⟨v1, rfl, ho1, hb⟩
  have HB1 := Lib.hid (HB0.out.trans (hb.mono hz0))
  have HD1 := Lib.hid hb
  have HO1 := Lib.hid ho1
  clear hb ho1 c0 c1
  obtain ⟨x1, hx1⟩ : ∃ x, x = outS (avoR n lg a b c) := ⟨_, rfl⟩
  rw [← hx1]
  have HX1 := Lib.hid hx1
  clear hx1
  obtain ⟨c0, c1, cI, cB, -⟩ := HA.out _ HB1.out
  have HC1 := Lib.hid cI
  have HCB1 := Lib.hid cB
  have hz1 : w.heap.size + 1 ≤ w1.heap.size := by have := HB1.out.size; simpa using this
  clear cI cB
  go_wp2_with fail
  refine (implAvo n _ lg b c a _ HC1.out (HT.out.on HCB1.out)).mono ?_
  rintro e w2 ⟨v2, rfl, ho2, hb⟩
  have HB2 := Lib.hid (HB1.out.trans (hb.mono hz1))
  have HD2 := Lib.hid hb
  have HO2 := Lib.hid ho2
  clear hb ho2 c0 c1
  obtain ⟨x2, hx2⟩ : ∃ x, x = outS (avoR n lg b c a) := ⟨_, rfl⟩
  rw [← hx2]
  have HX2 := Lib.hid hx2
  clear hx2
  obtain ⟨c0, c1, cI, cB, -⟩ := HA.out _ HB2.out
  have HC2 := Lib.hid cI
  have HCB2 := Lib.hid cB
  have hz2 : w.heap.size + 1 ≤ w2.heap.size := by have := HB2.out.size; simpa using this
  clear cI cB
  go_wp2_with fail
  refine (implAvo n _ lg c a b _ HC2.out (HT.out.on HCB2.out)).mono ?_
  rintro e w3 ⟨v3, rfl, ho3, hb⟩
  have HB3 := Lib.hid (HB2.out.trans (hb.mono hz2))
  have HD3 := Lib.hid hb
  have HO3 := Lib.hid ho3
  clear hb ho3 c0 c1
  obtain ⟨x3, hx3⟩ : ∃ x, x = outS (avoR n lg c a b) := ⟨_, rfl⟩
  rw [← hx3]
  have HX3 := Lib.hid hx3
  clear hx3
  obtain ⟨c0, c1, cI, cB, -⟩ := HA.out _ HB3.out
  have HC3 := Lib.hid cI
  have HCB3 := Lib.hid cB
  have hz3 : w.heap.size + 1 ≤ w3.heap.size := by have := HB3.out.size; simpa using this
  clear cI cB
  have HX := Lib.hid (show r = (x1 && x2 && x3) by rw [HR.out, HX1.out, HX2.out, HX3.out]; rfl)
  have HLO1 : w.heap.size ≤ (w.alloc (.cells #[.int .i64 n, .slice ad lg.length cap] 29)).heap.size := by simp
  have HNO : Hid (r = false → L = []) := fun h => by rw [HLL.out]; unfold tripL; rw [← HR.out, h]; rfl
  have HYE : Hid (r = true → L = [outL (avoR n lg a b c), outL (avoR n lg b c a), outL (avoR n lg c a b)]) := fun h => by rw [HLL.out]; unfold tripL; rw [← HR.out, h]; rfl
  have h3s := HD3.out.size
  have h2s := HD2.out.size
  clear c0 c1
  cases x1 with
  | false =>
    have HN := Lib.hid (show r = false by rw [HX.out]; rfl)
    have HLT := Lib.hid (HNO.out HN.out)
    go_wp2
    go_ret2
    exact ⟨_, by rw [HN.out]; rfl, by rw [HLT.out]; exact ⟨[], OwnV.nil _ _ _⟩, HCB3.out⟩
  | true =>
    cases x2 with
    | false =>
      have HN := Lib.hid (show r = false by rw [HX.out]; rfl)
      have HLT := Lib.hid (HNO.out HN.out)
      go_wp2
      go_ret2
      exact ⟨_, by rw [HN.out]; rfl, by rw [HLT.out]; exact ⟨[], OwnV.nil _ _ _⟩, HCB3.out⟩
    | true =>
      cases x3 with
      | false =>
        have HN := Lib.hid (show r = false by rw [HX.out]; rfl)
        have HLT := Lib.hid (HNO.out HN.out)
        go_wp2
        go_ret2
        exact ⟨_, by rw [HN.out]; rfl, by rw [HLT.out]; exact ⟨[], OwnV.nil _ _ _⟩, HCB3.out⟩
      | true =>
        have HN := Lib.hid (show r = true by rw [HX.out]; rfl)
        have HLT := Lib.hid (HYE.out HN.out)
        have HW := Lib.hid (HCB3.out.alloc HCB3.out.size (.cells #[v1, v2, v3] 22))
        have HII := Lib.hid (three_own (lo := w.heap.size) HCB3.out.size ((HO1.out.on (HD2.out.trans (HD3.out.mono HD2.out.size))).mono HLO1) ((HO2.out.on HD3.out).mono (by omega)) (HO3.out.mono (by omega))
          (fun k hk hk' => by have h1 := (HO1.out.lt k hk).2; have h2 := (HO2.out.lt k hk').1; omega) (fun k hk hk' => by have h1 := (HO1.out.lt k hk).2; have h2 := (HO3.out.lt k hk').1; have h3 := HD2.out.size; omega) (fun k hk hk' => by have h1 := (HO2.out.lt k hk).2; have h2 := (HO3.out.lt k hk').1; omega))
        obtain ⟨a1, m1, q1, rfl⟩ : ∃ a m q, v1 = .slice a m q := by obtain ⟨a, q, h, -, -⟩ := HO1.out.ints.form; exact ⟨_, _, _, h⟩
        obtain ⟨a2, m2, q2, rfl⟩ : ∃ a m q, v2 = .slice a m q := by obtain ⟨a, q, h, -, -⟩ := HO2.out.ints.form; exact ⟨_, _, _, h⟩
        obtain ⟨a3, m3, q3, rfl⟩ : ∃ a m q, v3 = .slice a m q := by obtain ⟨a, q, h, -, -⟩ := HO3.out.ints.form; exact ⟨_, _, _, h⟩
        go_wp2
        go_ret2
        exact ⟨_, by rw [HN.out]; rfl, by rw [HLT.out]; exact HII.out, HW.out⟩

set_option maxHeartbeats 2000000 in
set_option maxRecDepth 100000 in
theorem specTripL (n : Int) (v : Value) (lg : List Int) (a b c : Int) (w : World) (h : Ints w v lg) :
    Calls Tryd.prog 8 #[.agg #[.int .i64 n, v], .int .i64 a, .int .i64 b, .int .i64 c] w (fun e w' => ∃ u, e = .returned (.tuple #[u, .bool (tripB n lg a b c)]) ∧ OwnII w.heap.size w'.heap.size w' u (tripL n lg a b c) ∧ Below w.heap.size w w') := by
  obtain ⟨ad, cap, rfl, -, -⟩ := h.form
  have HI := Lib.hid h
  have HA := argG' (T := 29) (n := n) h
  obtain ⟨r, hr⟩ : ∃ r, r = tripB n lg a b c := ⟨_, rfl⟩
  obtain ⟨L, hL⟩ : ∃ L, L = tripL n lg a b c := ⟨_, rfl⟩
  have HR := Lib.hid hr
  have HLL := Lib.hid hL
  rw [← hL]
  have HNO : Hid (r = false → L = []) := fun h => by rw [HLL.out]; unfold tripL; rw [← HR.out, h]; rfl
  have HYE : Hid (r = true → L = [outL (avoR n lg a b c), outL (avoR n lg b c a), outL (avoR n lg c a b)]) := fun h => by rw [HLL.out]; unfold tripL; rw [← HR.out, h]; rfl
  clear h hL
  go_enter Tryd.func8, Tryd.ntmps8
  have HBa := Lib.hid (Below.refl (w.heap.size + 1) (w.alloc (.cells #[.int .i64 n, .slice ad lg.length cap] 29)))
  obtain ⟨c0, c1, cI, cB, -⟩ := HA.out _ HBa.out
  have HCa := Lib.hid cI
  clear cI cB
  go_wp2_with fail
  refine (specTrip n _ lg a b c _ HCa.out).mono ?_
  rintro e w0 ⟨rfl, hb⟩
  have HB0 := Lib.hid (HBa.out.trans (hb.mono (by simp)))
  clear hb c0 c1
  rw [← hr]
  clear hr
  obtain ⟨c0, c1, cI, cB, -⟩ := HA.out _ HB0.out
  have HC0 := Lib.hid cI
  have HCB0 := Lib.hid cB
  have hz0 : w.heap.size + 1 ≤ w0.heap.size := by have := HB0.out.size; simpa using this
  clear cI cB
  cases r with
  | false =>
    have HLT := Lib.hid (HNO.out rfl)
    have HF := Lib.hid (none_own (lo := w.heap.size) (W := w0) HCB0.out.size)
    have HW := Lib.hid (HCB0.out.alloc HCB0.out.size (.cells #[] 22))
    go_wp2
    go_ret2
    exact ⟨_, by rw [← HR.out]; rfl, by rw [HLT.out]; exact HF.out, HW.out⟩
  | true =>
    have HN := Lib.hid (show true = true from rfl)
    have HLT := Lib.hid (HYE.out rfl)
    go_wp2_with fail
    refine (specAvo n _ lg a b c _ HC0.out).mono ?_
    rintro e w1 ⟨v1, rfl, ho1, hb⟩
    have HB1 := Lib.hid (HB0.out.trans (hb.mono hz0))
    have HD1 := Lib.hid hb
    have HO1 := Lib.hid ho1
    clear hb ho1 c0 c1
    obtain ⟨c0, c1, cI, cB, -⟩ := HA.out _ HB1.out
    have HC1 := Lib.hid cI
    have HCB1 := Lib.hid cB
    have hz1 : w.heap.size + 1 ≤ w1.heap.size := by have := HB1.out.size; simpa using this
    clear cI cB
    go_wp2_with fail
    refine (specAvo n _ lg b c a _ HC1.out).mono ?_
    rintro e w2 ⟨v2, rfl, ho2, hb⟩
    have HB2 := Lib.hid (HB1.out.trans (hb.mono hz1))
    have HD2 := Lib.hid hb
    have HO2 := Lib.hid ho2
    clear hb ho2 c0 c1
    obtain ⟨c0, c1, cI, cB, -⟩ := HA.out _ HB2.out
    have HC2 := Lib.hid cI
    have HCB2 := Lib.hid cB
    have hz2 : w.heap.size + 1 ≤ w2.heap.size := by have := HB2.out.size; simpa using this
    clear cI cB
    go_wp2_with fail
    refine (specAvo n _ lg c a b _ HC2.out).mono ?_
    rintro e w3 ⟨v3, rfl, ho3, hb⟩
    have HB3 := Lib.hid (HB2.out.trans (hb.mono hz2))
    have HD3 := Lib.hid hb
    have HO3 := Lib.hid ho3
    clear hb ho3 c0 c1
    obtain ⟨c0, c1, cI, cB, -⟩ := HA.out _ HB3.out
    have HC3 := Lib.hid cI
    have HCB3 := Lib.hid cB
    have hz3 : w.heap.size + 1 ≤ w3.heap.size := by have := HB3.out.size; simpa using this
    clear cI cB
    have HLO1 : w.heap.size ≤ w0.heap.size := by omega
    have h3s := HD3.out.size
    have h2s := HD2.out.size
    clear c0 c1
    have HW := Lib.hid (HCB3.out.alloc HCB3.out.size (.cells #[v1, v2, v3] 22))
    have HII := Lib.hid (three_own (lo := w.heap.size) HCB3.out.size ((HO1.out.on (HD2.out.trans (HD3.out.mono HD2.out.size))).mono HLO1) ((HO2.out.on HD3.out).mono (by omega)) (HO3.out.mono (by omega))
      (fun k hk hk' => by have h1 := (HO1.out.lt k hk).2; have h2 := (HO2.out.lt k hk').1; omega) (fun k hk hk' => by have h1 := (HO1.out.lt k hk).2; have h2 := (HO3.out.lt k hk').1; have h3 := HD2.out.size; omega) (fun k hk hk' => by have h1 := (HO2.out.lt k hk).2; have h2 := (HO3.out.lt k hk').1; omega))
    obtain ⟨a1, m1, q1, rfl⟩ : ∃ a m q, v1 = .slice a m q := by obtain ⟨a, q, h, -, -⟩ := HO1.out.ints.form; exact ⟨_, _, _, h⟩
    obtain ⟨a2, m2, q2, rfl⟩ : ∃ a m q, v2 = .slice a m q := by obtain ⟨a, q, h, -, -⟩ := HO2.out.ints.form; exact ⟨_, _, _, h⟩
    obtain ⟨a3, m3, q3, rfl⟩ : ∃ a m q, v3 = .slice a m q := by obtain ⟨a, q, h, -, -⟩ := HO3.out.ints.form; exact ⟨_, _, _, h⟩
    go_wp2
    go_ret2
    exact ⟨_, by rw [← HR.out]; rfl, by rw [HLT.out]; exact HII.out, HW.out⟩

theorem trip_len (n : Int) (l : List Int) (a b c : Int) : (tripL n l a b c).length ≤ 1000000 := by
  unfold tripL
  split <;> simp

theorem trip_tot (n : Int) (l : List Int) (a b c : Int) : tot (tripL n l a b c) ≤ 1000000 := by
  unfold tripL
  split
  · have h1 := avoR_len n l a b c
    have h2 := avoR_len n l b c a
    have h3 := avoR_len n l c a b
    show (outL (avoR n l a b c)).length + ((outL (avoR n l b c a)).length + ((outL (avoR n l c a b)).length + 0)) ≤ 1000000
    omega
  · simp [tot]

end Go.Proofs.YtgfndgjabhabjacDoor
