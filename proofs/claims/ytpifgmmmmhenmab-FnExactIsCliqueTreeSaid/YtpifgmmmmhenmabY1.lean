/- Trees compared: l8Same, EqualTrees, EqualModuleTrees. -/
import Derived.Test.YtpifgmmmmhenmabGe
import Derived.Test.YtpifgmmmmhenmabBx
namespace Go.Proofs.Ytpifgmmmmhenmab
set_option linter.unusedVariables false
set_option linter.unusedSimpArgs false
open Go.RowKit

set_option maxHeartbeats 1000000 in
set_option maxRecDepth 100000 in
theorem specSame_any (v u : Value) (l m : List Int) (w : World) (h : Ints w v l) (h' : Ints w u m) (hl : l.length ≤ 100000000) (hm : m.length ≤ 100000000) :
    Calls Try.prog 47 #[v, u] w (SaysB (l = m) w) := by
  obtain ⟨a, cap, rfl, -, hm1⟩ := h.form
  obtain ⟨a', cap', rfl, -, hm2⟩ := h'.form
  have HI := Lib.hid h
  have HI' := Lib.hid h'
  clear h h'
  unfold maxLen at hm1 hm2
  by_cases hlm : l.length = m.length
  · have hne : ((l.length : Int) != m.length) = false := by simp [hlm]
    have HLM := Lib.hid hlm
    have hle : m.length ≤ l.length := by omega
    have hge : l.length ≤ m.length := by omega
    clear hlm
    go_enter Try.func47, Try.ntmps47
    go_wp2
    go_loopw [5] (fun i wr => ∃ j : Nat, j ≤ l.length ∧ i = .int .i64 j ∧ Below w.heap.size w wr ∧ Hid (∀ i, i < j → nth l i = nth m i)) (fun i _ => l.length - (intOf i).toNat)
    case atStart => exact ⟨0, by omega, rfl, Below.refl _ _, fun i hi => absurd hi (by omega)⟩
    case round =>
      obtain ⟨j, hj, rfl, hbel, HJ⟩ := hrel
      by_cases hlt : j < l.length
      · obtain ⟨b, off, cap1, hv, _, _, hb, hcell⟩ := HI.out.pos (by omega)
        simp only [Value.slice.injEq] at hv
        obtain ⟨rfl, -, rfl⟩ := hv
        obtain ⟨b', off', cap1', hv, _, _, hb', hcell'⟩ := HI'.out.pos (by omega)
        simp only [Value.slice.injEq] at hv
        obtain ⟨rfl, -, rfl⟩ := hv
        obtain ⟨x, hx⟩ : ∃ x, x = nth l j := ⟨_, rfl⟩
        obtain ⟨y, hy⟩ : ∃ y, y = nth m j := ⟨_, rfl⟩
        have c1 : wr.cell? ⟨b, off + j, none⟩ = some (.int .i64 x) := by rw [hx]; exact (hbel.cell (p := ⟨b, off + j, none⟩) hb).trans (hcell j hlt)
        have c2 : wr.cell? ⟨b', off' + j, none⟩ = some (.int .i64 y) := by rw [hy]; exact (hbel.cell (p := ⟨b', off' + j, none⟩) hb').trans (hcell' j (by omega))
        have hlt' : j < m.length := by omega
        have HX := Lib.hid hx
        have HY := Lib.hid hy
        clear hcell hcell' hx hy
        by_cases hxy : x = y
        · have HN : Hid (∀ i, i < j + 1 → nth l i = nth m i) := fun i hi => by
            rcases Nat.lt_or_ge i j with h | h
            · exact HJ.out i h
            · obtain rfl : i = j := by omega
              rw [← HX.out, ← HY.out]; exact hxy
          have hq : (x != y) = false := by simp [hxy]
          have hq' : (x == y) = true := by simp [hxy]
          clear hxy
          go_wp2
          go_quiet (fail)
          go_wp2
          go_roundw
          case rel => exact ⟨j + 1, by omega, by go_num, below_drewN hbel _, HN.out⟩
          case measure => simp [intOf]; omega
        · have hq : (x != y) = true := by simp [hxy]
          have hq' : (x == y) = false := by simp [hxy]
          have HNE := Lib.hid hxy
          clear hxy
          go_wp2
          go_quiet (fail)
          go_wp2
          go_ret
          exact SaysB.no (fun h => HNE.out (by rw [HX.out, HY.out, h])) (below_drewN hbel _)
      · obtain rfl : j = l.length := by omega
        go_wp2
        go_ret
        exact SaysB.yes (nth_all HLM.out HJ.out) hbel
  · have hne : ((l.length : Int) != m.length) = true := by simp; omega
    have HLM := Lib.hid hlm
    clear hlm
    go_enter Try.func47, Try.ntmps47
    go_wp2
    go_ret
    exact SaysB.no (fun h => HLM.out (by rw [h])) (Below.refl _ _)

set_option maxHeartbeats 1000000 in
set_option maxRecDepth 100000 in
theorem implEqualMTrees (v0 u0 v1 u1 v2 u2 : Value) (l0 m0 l1 m1 l2 m2 : List Int) (w : World) (h0 : Ints w v0 l0) (g0 : Ints w u0 m0) (b0 : l0.length ≤ 100000000) (c0 : m0.length ≤ 100000000) (h1 : Ints w v1 l1) (g1 : Ints w u1 m1) (b1 : l1.length ≤ 100000000) (c1 : m1.length ≤ 100000000) (h2 : Ints w v2 l2) (g2 : Ints w u2 m2) (b2 : l2.length ≤ 100000000) (c2 : m2.length ≤ 100000000) :
    Calls Try.prog 67 #[.agg #[v0, v1, v2], .agg #[u0, u1, u2]] w (SaysB (l0 = m0 ∧ l1 = m1 ∧ l2 = m2) w) := by
  obtain ⟨a0, p0, rfl, -, -⟩ := h0.form
  obtain ⟨d0, q0, rfl, -, -⟩ := g0.form
  have H0 := Lib.hid h0
  have G0 := Lib.hid g0
  clear h0 g0
  obtain ⟨a1, p1, rfl, -, -⟩ := h1.form
  obtain ⟨d1, q1, rfl, -, -⟩ := g1.form
  have H1 := Lib.hid h1
  have G1 := Lib.hid g1
  clear h1 g1
  obtain ⟨a2, p2, rfl, -, -⟩ := h2.form
  obtain ⟨d2, q2, rfl, -, -⟩ := g2.form
  have H2 := Lib.hid h2
  have G2 := Lib.hid g2
  clear h2 g2
  have F0 := Lib.hid (show Below w.heap.size w ((w.alloc (.cells #[.slice a0 l0.length p0, .slice a1 l1.length p1, .slice a2 l2.length p2] 47)).alloc (.cells #[.slice d0 m0.length q0, .slice d1 m1.length q1, .slice d2 m2.length q2] 47)) from ((Below.refl _ w).alloc (Nat.le_refl _) _).alloc (by simp) _)
  have A0 := Lib.hid (show Box w.heap.size [.slice a0 l0.length p0, .slice a1 l1.length p1, .slice a2 l2.length p2] ((w.alloc (.cells #[.slice a0 l0.length p0, .slice a1 l1.length p1, .slice a2 l2.length p2] 47)).alloc (.cells #[.slice d0 m0.length q0, .slice d1 m1.length q1, .slice d2 m2.length q2] 47)) from (Box.new w _ _).keep (grown_alloc _ _ none) (by simp))
  have C0 := Lib.hid (show Box (w.heap.size + 1) [.slice d0 m0.length q0, .slice d1 m1.length q1, .slice d2 m2.length q2] ((w.alloc (.cells #[.slice a0 l0.length p0, .slice a1 l1.length p1, .slice a2 l2.length p2] 47)).alloc (.cells #[.slice d0 m0.length q0, .slice d1 m1.length q1, .slice d2 m2.length q2] 47)) by have h := Box.new (w.alloc (.cells #[.slice a0 l0.length p0, .slice a1 l1.length p1, .slice a2 l2.length p2] 47)) 47 [.slice d0 m0.length q0, .slice d1 m1.length q1, .slice d2 m2.length q2]; simpa using h)
  go_enter Try.func67, Try.ntmps67
  go_wp2_with fail
  refine (slicesEqual_any _ _ l0 m0 _ (H0.out.on F0.out) (G0.out.on F0.out) b0 c0).mono ?_
  rintro e w1 ⟨r, rfl, hr, hb⟩
  have F1 := Lib.hid (F0.out.trans (hb.mono F0.out.size))
  have A1 := Lib.hid (A0.out.on hb)
  have C1 := Lib.hid (C0.out.on hb)
  have HR0 := Lib.hid hr
  clear hr hb F0 A0 C0
  cases r with
  | false =>
    go_wp2
    go_ret
    exact SaysB.no (fun h => absurd (HR0.out.2 h.1) (by decide)) F1.out
  | true =>
    have x0 : w1.cell? ⟨w.heap.size, 0, none⟩ = some (.slice a0 l0.length p0) := A1.out.1 0 _ rfl
    have y0 : w1.cell? ⟨w.heap.size + 1, 0, none⟩ = some (.slice d0 m0.length q0) := C1.out.1 0 _ rfl
    have x1 : w1.cell? ⟨w.heap.size, 1, none⟩ = some (.slice a1 l1.length p1) := A1.out.1 1 _ rfl
    have y1 : w1.cell? ⟨w.heap.size + 1, 1, none⟩ = some (.slice d1 m1.length q1) := C1.out.1 1 _ rfl
    have x2 : w1.cell? ⟨w.heap.size, 2, none⟩ = some (.slice a2 l2.length p2) := A1.out.1 2 _ rfl
    have y2 : w1.cell? ⟨w.heap.size + 1, 2, none⟩ = some (.slice d2 m2.length q2) := C1.out.1 2 _ rfl
    go_wp2_with fail
    refine (slicesEqual_any _ _ l1 m1 _ (H1.out.on F1.out) (G1.out.on F1.out) b1 c1).mono ?_
    rintro e w2 ⟨r, rfl, hr, hb⟩
    have F2 := Lib.hid (F1.out.trans (hb.mono F1.out.size))
    have A2 := Lib.hid (A1.out.on hb)
    have C2 := Lib.hid (C1.out.on hb)
    have HR1 := Lib.hid hr
    clear hr hb F1 A1 C1 x0 y0 x1 y1 x2 y2
    cases r with
    | false =>
      go_wp2
      go_ret
      exact SaysB.no (fun h => absurd (HR1.out.2 h.2.1) (by decide)) F2.out
    | true =>
      have x0 : w2.cell? ⟨w.heap.size, 0, none⟩ = some (.slice a0 l0.length p0) := A2.out.1 0 _ rfl
      have y0 : w2.cell? ⟨w.heap.size + 1, 0, none⟩ = some (.slice d0 m0.length q0) := C2.out.1 0 _ rfl
      have x1 : w2.cell? ⟨w.heap.size, 1, none⟩ = some (.slice a1 l1.length p1) := A2.out.1 1 _ rfl
      have y1 : w2.cell? ⟨w.heap.size + 1, 1, none⟩ = some (.slice d1 m1.length q1) := C2.out.1 1 _ rfl
      have x2 : w2.cell? ⟨w.heap.size, 2, none⟩ = some (.slice a2 l2.length p2) := A2.out.1 2 _ rfl
      have y2 : w2.cell? ⟨w.heap.size + 1, 2, none⟩ = some (.slice d2 m2.length q2) := C2.out.1 2 _ rfl
      go_wp2_with fail
      refine (slicesEqual_any _ _ l2 m2 _ (H2.out.on F2.out) (G2.out.on F2.out) b2 c2).mono ?_
      rintro e w3 ⟨r, rfl, hr, hb⟩
      have F3 := Lib.hid (F2.out.trans (hb.mono F2.out.size))
      have A3 := Lib.hid (A2.out.on hb)
      have C3 := Lib.hid (C2.out.on hb)
      have HR2 := Lib.hid hr
      clear hr hb F2 A2 C2 x0 y0 x1 y1 x2 y2
      cases r with
      | false =>
        go_wp2
        go_ret
        exact SaysB.no (fun h => absurd (HR2.out.2 h.2.2) (by decide)) F3.out
      | true =>
        go_wp2
        go_ret
        exact SaysB.yes ⟨HR0.out.1 (by first | rfl | trivial), HR1.out.1 (by first | rfl | trivial), HR2.out.1 (by first | rfl | trivial)⟩ F3.out

set_option maxHeartbeats 1000000 in
set_option maxRecDepth 100000 in
theorem specEqualMTrees (v0 u0 v1 u1 v2 u2 : Value) (l0 m0 l1 m1 l2 m2 : List Int) (w : World) (h0 : Ints w v0 l0) (g0 : Ints w u0 m0) (b0 : l0.length ≤ 100000000) (c0 : m0.length ≤ 100000000) (h1 : Ints w v1 l1) (g1 : Ints w u1 m1) (b1 : l1.length ≤ 100000000) (c1 : m1.length ≤ 100000000) (h2 : Ints w v2 l2) (g2 : Ints w u2 m2) (b2 : l2.length ≤ 100000000) (c2 : m2.length ≤ 100000000) :
    Calls Try.prog 66 #[.agg #[v0, v1, v2], .agg #[u0, u1, u2]] w (SaysB (l0 = m0 ∧ l1 = m1 ∧ l2 = m2) w) := by
  obtain ⟨a0, p0, rfl, -, -⟩ := h0.form
  obtain ⟨d0, q0, rfl, -, -⟩ := g0.form
  have H0 := Lib.hid h0
  have G0 := Lib.hid g0
  clear h0 g0
  obtain ⟨a1, p1, rfl, -, -⟩ := h1.form
  obtain ⟨d1, q1, rfl, -, -⟩ := g1.form
  have H1 := Lib.hid h1
  have G1 := Lib.hid g1
  clear h1 g1
  obtain ⟨a2, p2, rfl, -, -⟩ := h2.form
  obtain ⟨d2, q2, rfl, -, -⟩ := g2.form
  have H2 := Lib.hid h2
  have G2 := Lib.hid g2
  clear h2 g2
  have F0 := Lib.hid (show Below w.heap.size w ((w.alloc (.cells #[.slice a0 l0.length p0, .slice a1 l1.length p1, .slice a2 l2.length p2] 47)).alloc (.cells #[.slice d0 m0.length q0, .slice d1 m1.length q1, .slice d2 m2.length q2] 47)) from ((Below.refl _ w).alloc (Nat.le_refl _) _).alloc (by simp) _)
  have A0 := Lib.hid (show Box w.heap.size [.slice a0 l0.length p0, .slice a1 l1.length p1, .slice a2 l2.length p2] ((w.alloc (.cells #[.slice a0 l0.length p0, .slice a1 l1.length p1, .slice a2 l2.length p2] 47)).alloc (.cells #[.slice d0 m0.length q0, .slice d1 m1.length q1, .slice d2 m2.length q2] 47)) from (Box.new w _ _).keep (grown_alloc _ _ none) (by simp))
  have C0 := Lib.hid (show Box (w.heap.size + 1) [.slice d0 m0.length q0, .slice d1 m1.length q1, .slice d2 m2.length q2] ((w.alloc (.cells #[.slice a0 l0.length p0, .slice a1 l1.length p1, .slice a2 l2.length p2] 47)).alloc (.cells #[.slice d0 m0.length q0, .slice d1 m1.length q1, .slice d2 m2.length q2] 47)) by have h := Box.new (w.alloc (.cells #[.slice a0 l0.length p0, .slice a1 l1.length p1, .slice a2 l2.length p2] 47)) 47 [.slice d0 m0.length q0, .slice d1 m1.length q1, .slice d2 m2.length q2]; simpa using h)
  go_enter Try.func66, Try.ntmps66
  go_wp2_with fail
  refine (specSame_any _ _ l0 m0 _ (H0.out.on F0.out) (G0.out.on F0.out) b0 c0).mono ?_
  rintro e w1 ⟨r, rfl, hr, hb⟩
  have F1 := Lib.hid (F0.out.trans (hb.mono F0.out.size))
  have A1 := Lib.hid (A0.out.on hb)
  have C1 := Lib.hid (C0.out.on hb)
  have HR0 := Lib.hid hr
  clear hr hb F0 A0 C0
  cases r with
  | false =>
    go_wp2
    go_ret
    exact SaysB.no (fun h => absurd (HR0.out.2 h.1) (by decide)) F1.out
  | true =>
    have x0 : w1.cell? ⟨w.heap.size, 0, none⟩ = some (.slice a0 l0.length p0) := A1.out.1 0 _ rfl
    have y0 : w1.cell? ⟨w.heap.size + 1, 0, none⟩ = some (.slice d0 m0.length q0) := C1.out.1 0 _ rfl
    have x1 : w1.cell? ⟨w.heap.size, 1, none⟩ = some (.slice a1 l1.length p1) := A1.out.1 1 _ rfl
    have y1 : w1.cell? ⟨w.heap.size + 1, 1, none⟩ = some (.slice d1 m1.length q1) := C1.out.1 1 _ rfl
    have x2 : w1.cell? ⟨w.heap.size, 2, none⟩ = some (.slice a2 l2.length p2) := A1.out.1 2 _ rfl
    have y2 : w1.cell? ⟨w.heap.size + 1, 2, none⟩ = some (.slice d2 m2.length q2) := C1.out.1 2 _ rfl
    go_wp2_with fail
    refine (specSame_any _ _ l1 m1 _ (H1.out.on F1.out) (G1.out.on F1.out) b1 c1).mono ?_
    rintro e w2 ⟨r, rfl, hr, hb⟩
    have F2 := Lib.hid (F1.out.trans (hb.mono F1.out.size))
    have A2 := Lib.hid (A1.out.on hb)
    have C2 := Lib.hid (C1.out.on hb)
    have HR1 := Lib.hid hr
    clear hr hb F1 A1 C1 x0 y0 x1 y1 x2 y2
    cases r with
    | false =>
      go_wp2
      go_ret
      exact SaysB.no (fun h => absurd (HR1.out.2 h.2.1) (by decide)) F2.out
    | true =>
      have x0 : w2.cell? ⟨w.heap.size, 0, none⟩ = some (.slice a0 l0.length p0) := A2.out.1 0 _ rfl
      have y0 : w2.cell? ⟨w.heap.size + 1, 0, none⟩ = some (.slice d0 m0.length q0) := C2.out.1 0 _ rfl
      have x1 : w2.cell? ⟨w.heap.size, 1, none⟩ = some (.slice a1 l1.length p1) := A2.out.1 1 _ rfl
      have y1 : w2.cell? ⟨w.heap.size + 1, 1, none⟩ = some (.slice d1 m1.length q1) := C2.out.1 1 _ rfl
      have x2 : w2.cell? ⟨w.heap.size, 2, none⟩ = some (.slice a2 l2.length p2) := A2.out.1 2 _ rfl
      have y2 : w2.cell? ⟨w.heap.size + 1, 2, none⟩ = some (.slice d2 m2.length q2) := C2.out.1 2 _ rfl
      go_wp2_with fail
      refine (specSame_any _ _ l2 m2 _ (H2.out.on F2.out) (G2.out.on F2.out) b2 c2).mono ?_
      rintro e w3 ⟨r, rfl, hr, hb⟩
      have F3 := Lib.hid (F2.out.trans (hb.mono F2.out.size))
      have A3 := Lib.hid (A2.out.on hb)
      have C3 := Lib.hid (C2.out.on hb)
      have HR2 := Lib.hid hr
      clear hr hb F2 A2 C2 x0 y0 x1 y1 x2 y2
      cases r with
      | false =>
        go_wp2
        go_ret
        exact SaysB.no (fun h => absurd (HR2.out.2 h.2.2) (by decide)) F3.out
      | true =>
        go_wp2
        go_ret
        exact SaysB.yes ⟨HR0.out.1 (by first | rfl | trivial), HR1.out.1 (by first | rfl | trivial), HR2.out.1 (by first | rfl | trivial)⟩ F3.out

end Go.Proofs.Ytpifgmmmmhenmab
