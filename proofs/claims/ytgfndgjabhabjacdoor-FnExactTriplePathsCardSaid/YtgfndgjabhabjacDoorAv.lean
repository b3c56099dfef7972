/- IsTriple. -/
import Derived.Test.YtgfndgjabhabjacDoorAr
import Derived.Test.YtgfndgjabhabjacDoorAu
namespace Go.Proofs.YtgfndgjabhabjacDoor
set_option linter.unusedVariables false
set_option linter.unusedSimpArgs false
open Go.RowKit

/-- Each of the three has a way to the next that avoids the third. -/
def tripB (n : Int) (l : List Int) (a b c : Int) : Bool := outS (avoR n l a b c) && outS (avoR n l b c a) && outS (avoR n l c a b)

theorem trip_ne {n : Int} {l : List Int} {a b c : Int} (h : tripB n l a b c = true) : a ≠ b ∧ b ≠ c ∧ a ≠ c := by
  unfold tripB at h
  rw [Bool.and_eq_true, Bool.and_eq_true] at h
  have h1 := avo_ne h.1.1
  have h2 := avo_ne h.1.2
  exact ⟨fun e => h2.1 e.symm, h1.2, h1.1⟩

set_option maxHeartbeats 2000000 in
set_option maxRecDepth 100000 in
theorem implTripF (n : Int) (v : Value) (lg : List Int) (a b c : Int) (w : World) (h : Ints w v lg) (ht : TabT w) :
    Calls Tryd.prog 10 #[.agg #[.int .i64 n, v], .int .i64 a, .int .i64 b, .int .i64 c] w (fun e w' => ∃ u, e = .returned (.tuple #[u, .bool (tripB n lg a b c)]) ∧ Below w.heap.size w w') := by
  obtain ⟨ad, cap, rfl, -, -⟩ := h.form
  have HI := Lib.hid h
  have HT := Lib.hid ht
  have HA := argG' (T := 29) (n := n) h
  obtain ⟨r, hr⟩ : ∃ r, r = tripB n lg a b c := ⟨_, rfl⟩
  have HR := Lib.hid hr
  rw [← hr]
  clear h ht hr
  go_enter Tryd.func10, Tryd.ntmps10
  have HB0 := Lib.hid (Below.refl (w.heap.size + 1) (w.alloc (.cells #[.int .i64 n, .slice ad lg.length cap] 29)))
  obtain ⟨c0, c1, cI, cB, -⟩ := HA.out _ HB0.out
  have HC0 := Lib.hid cI
  have HCB0 := Lib.hid cB
  clear cI cB
  go_wp2_with fail
  refine (implAvo n _ lg a b c _ HC0.out (HT.out.on HCB0.out)).mono ?_
  rintro e w1 ⟨v1, rfl, ho1, hb⟩
  have HB1 := Lib.hid (HB0.out.trans (hb.mono (by simp)))
  have HO1 := Lib.hid ho1
  clear hb ho1 c0 c1
  obtain ⟨x1, hx1⟩ : ∃ x, x = outS (avoR n lg a b c) := ⟨_, rfl⟩
  rw [← hx1]
  have HX1 := Lib.hid hx1
  clear hx1
  obtain ⟨c0, c1, cI, cB, -⟩ := HA.out _ HB1.out
  have HC1 := Lib.hid cI
  have HCB1 := Lib.hid cB
  have hz1 : w.heap.size + 1 ≤ w1.heap.size := by have := HB1.out.size; simpa using this
  clear cI cB
  go_wp2_with fail
  refine (implAvo n _ lg b c a _ HC1.out (HT.out.on HCB1.out)).mono ?_
  rintro e w2 ⟨v2, rfl, ho2, hb⟩
  have HB2 := Lib.hid (HB1.out.trans (hb.mono hz1))
  have HO2 := Lib.hid ho2
  clear hb ho2 c0 c1
  obtain ⟨x2, hx2⟩ : ∃ x, x = outS (avoR n lg b c a) := ⟨_, rfl⟩
  rw [← hx2]
  have HX2 := Lib.hid hx2
  clear hx2
  obtain ⟨c0, c1, cI, cB, -⟩ := HA.out _ HB2.out
  have HC2 := Lib.hid cI
  have HCB2 := Lib.hid cB
  have hz2 : w.heap.size + 1 ≤ w2.heap.size := by have := HB2.out.size; simpa using this
  clear cI cB
  go_wp2_with fail
  refine (implAvo n _ lg c a b _ HC2.out (HT.out.on HCB2.out)).mono ?_
  rintro e w3 ⟨v3, rfl, ho3, hb⟩
  have HB3 := Lib.hid (HB2.out.trans (hb.mono hz2))
  have HO3 := Lib.hid ho3
  clear hb ho3 c0 c1
  obtain ⟨x3, hx3⟩ : ∃ x, x = outS (avoR n lg c a b) := ⟨_, rfl⟩
  rw [← hx3]
  have HX3 := Lib.hid hx3
  clear hx3
  have HX := Lib.hid (show r = (x1 && x2 && x3) by rw [HR.out, HX1.out, HX2.out, HX3.out]; rfl)
  have HCB3 := Lib.hid (HA.out _ HB3.out).2.2.2.1
  cases x1 with
  | false =>
    have HN := Lib.hid (show r = false by rw [HX.out]; rfl)
    go_wp2
    go_ret2
    exact ⟨_, by rw [HN.out]; rfl, HCB3.out⟩
  | true =>
    cases x2 with
    | false =>
      have HN := Lib.hid (show r = false by rw [HX.out]; rfl)
      go_wp2
      go_ret2
      exact ⟨_, by rw [HN.out]; rfl, HCB3.out⟩
    | true =>
      cases x3 with
      | false =>
        have HN := Lib.hid (show r = false by rw [HX.out]; rfl)
        go_wp2
        go_ret2
        exact ⟨_, by rw [HN.out]; rfl, HCB3.out⟩
      | true =>
        have HN := Lib.hid (show r = true by rw [HX.out]; rfl)
        have HW := Lib.hid (HCB3.out.alloc HCB3.out.size (.cells #[v1, v2, v3] 22))
        obtain ⟨a1, m1, q1, rfl⟩ : ∃ a m q, v1 = .slice a m q := by obtain ⟨a, q, h, -, -⟩ := HO1.out.ints.form; exact ⟨_, _, _, h⟩
        obtain ⟨a2, m2, q2, rfl⟩ : ∃ a m q, v2 = .slice a m q := by obtain ⟨a, q, h, -, -⟩ := HO2.out.ints.form; exact ⟨_, _, _, h⟩
        obtain ⟨a3, m3, q3, rfl⟩ : ∃ a m q, v3 = .slice a m q := by obtain ⟨a, q, h, -, -⟩ := HO3.out.ints.form; exact ⟨_, _, _, h⟩
        go_wp2
        go_ret2
        exact ⟨_, by rw [HN.out]; rfl, HW.out⟩

set_option maxHeartbeats 2000000 in
set_option maxRecDepth 100000 in
theorem specTrip (n : Int) (v : Value) (lg : List Int) (a b c : Int) (w : World) (h : Ints w v lg) :
    Calls Tryd.prog 28 #[.agg #[.int .i64 n, v], .int .i64 a, .int .i64 b, .int .i64 c] w (fun e w' => e = .returned (.bool (tripB n lg a b c)) ∧ Below w.heap.size w w') := by
  obtain ⟨ad, cap, rfl, -, -⟩ := h.form
  have HI := Lib.hid h
  have HA := argG' (T := 29) (n := n) h
  obtain ⟨r, hr⟩ : ∃ r, r = tripB n lg a b c := ⟨_, rfl⟩
  have HR := Lib.hid hr
  have HNE : Hid (r = true → a ≠ b ∧ b ≠ c ∧ a ≠ c) := fun h => trip_ne (by rw [← hr]; exact h)
  rw [← hr]
  clear h hr
  go_enter Tryd.func28, Tryd.ntmps28
  have HB0 := Lib.hid (Below.refl (w.heap.size + 1) (w.alloc (.cells #[.int .i64 n, .slice ad lg.length cap] 29)))
  obtain ⟨c0, c1, cI, cB, -⟩ := HA.out _ HB0.out
  have HC0 := Lib.hid cI
  clear cI cB
  go_wp2_with fail
  refine (specAvo n _ lg a b c _ HC0.out).mono ?_
  rintro e w1 ⟨v1, rfl, -, hb⟩
  have HB1 := Lib.hid (HB0.out.trans (hb.mono (by simp)))
  clear hb c0 c1
  obtain ⟨x1, hx1⟩ : ∃ x, x = outS (avoR n lg a b c) := ⟨_, rfl⟩
  rw [← hx1]
  have HX1 := Lib.hid hx1
  clear hx1
  obtain ⟨c0, c1, cI, cB, -⟩ := HA.out _ HB1.out
  have HC1 := Lib.hid cI
  have hz1 : w.heap.size + 1 ≤ w1.heap.size := by have := HB1.out.size; simpa using this
  clear cI cB
  go_wp2_with fail
  refine (specAvo n _ lg b c a _ HC1.out).mono ?_
  rintro e w2 ⟨v2, rfl, -, hb⟩
  have HB2 := Lib.hid (HB1.out.trans (hb.mono hz1))
  clear hb c0 c1
  obtain ⟨x2, hx2⟩ : ∃ x, x = outS (avoR n lg b c a) := ⟨_, rfl⟩
  rw [← hx2]
  have HX2 := Lib.hid hx2
  clear hx2
  obtain ⟨c0, c1, cI, cB, -⟩ := HA.out _ HB2.out
  have HC2 := Lib.hid cI
  have hz2 : w.heap.size + 1 ≤ w2.heap.size := by have := HB2.out.size; simpa using this
  clear cI cB
  go_wp2_with fail
  refine (specAvo n _ lg c a b _ HC2.out).mono ?_
  rintro e w3 ⟨v3, rfl, -, hb⟩
  have HB3 := Lib.hid (HB2.out.trans (hb.mono hz2))
  clear hb c0 c1
  obtain ⟨x3, hx3⟩ : ∃ x, x = outS (avoR n lg c a b) := ⟨_, rfl⟩
  rw [← hx3]
  have HX3 := Lib.hid hx3
  clear hx3
  have HX := Lib.hid (show r = (x1 && x2 && x3) by rw [HR.out, HX1.out, HX2.out, HX3.out]; rfl)
  have HCB3 := Lib.hid (HA.out _ HB3.out).2.2.2.1
  cases x1 with
  | false =>
    have HN := Lib.hid (show r = false by rw [HX.out]; rfl)
    go_wp2
    go_ret
    exact ⟨by rw [HN.out]; rfl, HCB3.out⟩
  | true =>
    cases x2 with
    | false =>
      have HN := Lib.hid (show r = false by rw [HX.out]; rfl)
      go_wp2
      go_ret
      exact ⟨by rw [HN.out]; rfl, HCB3.out⟩
    | true =>
      cases x3 with
      | false =>
        have HN := Lib.hid (show r = false by rw [HX.out]; rfl)
        go_wp2
        go_ret
        exact ⟨by rw [HN.out]; rfl, HCB3.out⟩
      | true =>
        have HN := Lib.hid (show r = true by rw [HX.out]; rfl)
        have q1 : (a != b) = true := by rw [bne_iff_ne]; exact (HNE.out HN.out).1
        have q2 : (b != c) = true := by rw [bne_iff_ne]; exact (HNE.out HN.out).2.1
        have q3 : (a != c) = true := by rw [bne_iff_ne]; exact (HNE.out HN.out).2.2
        go_wp2
        go_ret
        exact ⟨by rw [HN.out]; rfl, HCB3.out⟩

end Go.Proofs.YtgfndgjabhabjacDoor
