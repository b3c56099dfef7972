/- One graph within another; sandwiches. -/
import Derived.Test.YtgfndgjabhabjaaG3
import Derived.Test.YtgfndgjabhabjaaG5
import Derived.Test.YtgfndgjabhabjaaBx
namespace Go.Proofs.Ytgfndgjabhabjaa
set_option linter.unusedVariables false
set_option linter.unusedSimpArgs false
open Go.RowKit

/-- The graph (n, l) has no edge that (n', m) lacks. -/
def WithinP (n : Int) (l : List Int) (n' : Int) (m : List Int) : Prop := IsG n l ∧ IsG n' m ∧ n = n' ∧ ∀ i, i < l.length → bits .and .i64 (nth l i) (nth m i) = nth l i

instance (n : Int) (l : List Int) (n' : Int) (m : List Int) : Decidable (WithinP n l n' m) := by unfold WithinP; exact inferInstance

theorem andNot_zero {x y : Int} (h0 : 0 ≤ x) (h1 : x < 128) (h2 : 0 ≤ y) (h3 : y < 128) : bits .andNot .i64 x y = 0 ↔ bits .and .i64 x y = x := by
  obtain ⟨a, rfl⟩ := Int.eq_ofNat_of_zero_le h0
  obtain ⟨b, rfl⟩ := Int.eq_ofNat_of_zero_le h2
  have : ∀ (a b : Fin 128), bits .andNot .i64 ((a.val : Nat) : Int) ((b.val : Nat) : Int) = 0 ↔ bits .and .i64 ((a.val : Nat) : Int) ((b.val : Nat) : Int) = ((a.val : Nat) : Int) := by decide +kernel
  exact this ⟨a, by omega⟩ ⟨b, by omega⟩

set_option maxHeartbeats 2000000 in
set_option maxRecDepth 100000 in
theorem implIncludes (n0 n1 : Int) (v0 v1 : Value) (l0 l1 : List Int) (w : World) (h0 : Ints w v0 l0) (h1 : Ints w v1 l1) :
    Calls Try.prog 88 #[.agg #[.int .i64 n0, v0], .agg #[.int .i64 n1, v1]] w (SaysB (WithinP n1 l1 n0 l0) w) := by
  obtain ⟨a0, p0, rfl, -, -⟩ := h0.form
  obtain ⟨a1, p1, rfl, -, -⟩ := h1.form
  have H0 := Lib.hid h0
  have H1 := Lib.hid h1
  clear h0 h1
  have F0 := Lib.hid (show Below w.heap.size w ((w.alloc (.cells #[.int .i64 n0, .slice a0 l0.length p0] 44)).alloc (.cells #[.int .i64 n1, .slice a1 l1.length p1] 44)) from ((Below.refl _ w).alloc (Nat.le_refl _) _).alloc (by simp) _)
  have A0 := Lib.hid (show Box w.heap.size [.int .i64 n0, .slice a0 l0.length p0] ((w.alloc (.cells #[.int .i64 n0, .slice a0 l0.length p0] 44)).alloc (.cells #[.int .i64 n1, .slice a1 l1.length p1] 44)) from (Box.new w _ _).keep (grown_alloc _ _ none) (by simp))
  have C0 := Lib.hid (show Box (w.heap.size + 1) [.int .i64 n1, .slice a1 l1.length p1] ((w.alloc (.cells #[.int .i64 n0, .slice a0 l0.length p0] 44)).alloc (.cells #[.int .i64 n1, .slice a1 l1.length p1] 44)) by have h := Box.new (w.alloc (.cells #[.int .i64 n0, .slice a0 l0.length p0] 44)) 44 [.int .i64 n1, .slice a1 l1.length p1]; simpa using h)
  go_enter Try.func88, Try.ntmps88
  go_wp2_with fail
  refine (implIsG_any n1 _ l1 _ (H1.out.on F0.out)).mono ?_
  rintro e w1 ⟨r, rfl, hr, hb⟩
  have F1 := Lib.hid (F0.out.trans (hb.mono F0.out.size))
  have A1 := Lib.hid (A0.out.on hb)
  have C1 := Lib.hid (C0.out.on hb)
  have HR := Lib.hid hr
  clear hr hb F0 A0 C0
  cases r with
  | false =>
    go_wp2
    go_ret
    exact SaysB.no (fun h => absurd (HR.out.2 h.1) (by decide)) F1.out
  | true =>
    have x0 : w1.cell? ⟨w.heap.size, 0, none⟩ = some (.int .i64 n0) := A1.out.1 0 _ rfl
    have x1 : w1.cell? ⟨w.heap.size, 1, none⟩ = some (.slice a0 l0.length p0) := A1.out.1 1 _ rfl
    have y0 : w1.cell? ⟨w.heap.size + 1, 0, none⟩ = some (.int .i64 n1) := C1.out.1 0 _ rfl
    have y1 : w1.cell? ⟨w.heap.size + 1, 1, none⟩ = some (.slice a1 l1.length p1) := C1.out.1 1 _ rfl
    go_wp2_with fail
    refine (implIsG_any n0 _ l0 _ (H0.out.on F1.out)).mono ?_
    rintro e w2 ⟨r, rfl, hr, hb⟩
    have F2 := Lib.hid (F1.out.trans (hb.mono F1.out.size))
    have A2 := Lib.hid (A1.out.on hb)
    have C2 := Lib.hid (C1.out.on hb)
    have HS := Lib.hid hr
    clear hr hb F1 A1 C1 x0 x1 y0 y1
    have x0 : w2.cell? ⟨w.heap.size, 0, none⟩ = some (.int .i64 n0) := A2.out.1 0 _ rfl
    have x1 : w2.cell? ⟨w.heap.size, 1, none⟩ = some (.slice a0 l0.length p0) := A2.out.1 1 _ rfl
    have y0 : w2.cell? ⟨w.heap.size + 1, 0, none⟩ = some (.int .i64 n1) := C2.out.1 0 _ rfl
    have y1 : w2.cell? ⟨w.heap.size + 1, 1, none⟩ = some (.slice a1 l1.length p1) := C2.out.1 1 _ rfl
    cases r with
    | false =>
      go_wp2
      go_ret
      exact SaysB.no (fun h => absurd (HS.out.2 h.2.1) (by decide)) F2.out
    | true =>
      have G1 := Lib.hid (HR.out.1 (by first | rfl | trivial))
      have G0 := Lib.hid (HS.out.1 (by first | rfl | trivial))
      by_cases hn : n0 = n1
      · have d1 : (n0 != n1) = false := by simp [hn]
        have d2 : (n1 != n0) = false := by simp [hn]
        have e0 : (l0.length : Int) = n0 := G0.out.2.2.1
        have e1 : (l1.length : Int) = n1 := G1.out.2.2.1
        have hll : l0.length = l1.length := by omega
        have HN := Lib.hid hn
        have hle : l0.length ≤ l1.length := by omega
        have hge : l1.length ≤ l0.length := by omega
        have h7 : l0.length ≤ 7 := by have := G0.out.2.1; omega
        have hn0 : n1 ≤ (l1.length : Int) := by omega
        have hn1 : (l1.length : Int) ≤ n1 := by omega
        clear hn e0 e1 hll
        clear x0 x1 y0 y1
        have x0 : w2.cell? ⟨w.heap.size, 0, none⟩ = some (.int .i64 n0) := A2.out.1 0 _ rfl
        have x1 : w2.cell? ⟨w.heap.size, 1, none⟩ = some (.slice a0 l0.length p0) := A2.out.1 1 _ rfl
        have y0 : w2.cell? ⟨w.heap.size + 1, 0, none⟩ = some (.int .i64 n1) := C2.out.1 0 _ rfl
        have y1 : w2.cell? ⟨w.heap.size + 1, 1, none⟩ = some (.slice a1 l1.length p1) := C2.out.1 1 _ rfl
        go_wp2
        go_loopw [25] (fun i wr => ∃ j : Nat, j ≤ l1.length ∧ i = .int .i64 j ∧ Below w2.heap.size w2 wr ∧ Hid (∀ i, i < j → bits .and .i64 (nth l1 i) (nth l0 i) = nth l1 i)) (fun i _ => l1.length - (intOf i).toNat)
        case atStart => exact ⟨0, by omega, rfl, Below.refl _ _, fun i hi => absurd hi (by omega)⟩
        case round =>
          clear x0 x1 y0 y1
          obtain ⟨j, hj, rfl, hbel, HO⟩ := hrel
          have A3 := Lib.hid (A2.out.on hbel)
          have C3 := Lib.hid (C2.out.on hbel)
          have hB := F2.out.trans (hbel.mono F2.out.size)
          have x0 : wr.cell? ⟨w.heap.size, 0, none⟩ = some (.int .i64 n0) := A3.out.1 0 _ rfl
          have x1 : wr.cell? ⟨w.heap.size, 1, none⟩ = some (.slice a0 l0.length p0) := A3.out.1 1 _ rfl
          have y0 : wr.cell? ⟨w.heap.size + 1, 0, none⟩ = some (.int .i64 n1) := C3.out.1 0 _ rfl
          have y1 : wr.cell? ⟨w.heap.size + 1, 1, none⟩ = some (.slice a1 l1.length p1) := C3.out.1 1 _ rfl
          by_cases hlt : j < l1.length
          · have hlt2 : j < l0.length := by omega
            obtain ⟨b, off, cap1, hv, _, _, hb, hcell⟩ := (H1.out.on hB).pos (by omega)
            simp only [Value.slice.injEq] at hv
            obtain ⟨rfl, -, rfl⟩ := hv
            obtain ⟨b', off', cap1', hv, _, _, hb', hcell'⟩ := (H0.out.on hB).pos (by omega)
            simp only [Value.slice.injEq] at hv
            obtain ⟨rfl, -, rfl⟩ := hv
            obtain ⟨x, hx⟩ : ∃ x, x = nth l1 j := ⟨_, rfl⟩
            obtain ⟨y, hy⟩ : ∃ y, y = nth l0 j := ⟨_, rfl⟩
            have c1 := hcell j hlt
            have c2 := hcell' j hlt2
            rw [← hx] at c1
            rw [← hy] at c2
            have HX := Lib.hid hx
            have HY := Lib.hid hy
            obtain ⟨t, ht⟩ : ∃ t, t = bits .andNot .i64 x y := ⟨_, rfl⟩
            have e1 : bits .andNot .i64 x y = t := ht.symm
            have HT : Hid (t = 0 ↔ bits .and .i64 (nth l1 j) (nth l0 j) = nth l1 j) := by
              rw [← hx, ← hy, ht, hx, hy]
              exact andNot_zero (G1.out.small j hlt).1 (G1.out.small j hlt).2 (G0.out.small j hlt2).1 (G0.out.small j hlt2).2
            clear hcell hcell' hx hy ht
            by_cases ht0 : t = 0
            · have d3 : (t != 0) = false := by simp [ht0]
              have HN1 : Hid (∀ i, i < j + 1 → bits .and .i64 (nth l1 i) (nth l0 i) = nth l1 i) := fun i hi => by
                rcases Nat.lt_or_ge i j with h | h
                · exact HO.out i h
                · obtain rfl : i = j := by omega
                  exact HT.out.1 ht0
              clear HO ht0
              go_wp2
              go_roundw
              case rel => exact ⟨j + 1, by omega, by go_num, hbel, HN1.out⟩
              case measure => simp [intOf]; omega
            · have d3 : (t != 0) = true := by simp [ht0]
              have HT0 := Lib.hid ht0
              clear ht0
              go_wp2
              go_ret
              exact SaysB.no (fun h => HT0.out (HT.out.2 (h.2.2.2 j hlt))) hB
          · obtain rfl : j = l1.length := by omega
            go_wp2
            go_ret
            exact SaysB.yes ⟨G1.out, G0.out, HN.out.symm, HO.out⟩ hB
      · have d1 : (n0 != n1) = true := by simp [hn]
        have d2 : (n1 != n0) = true := by simp; exact fun h => hn h.symm
        have HN := Lib.hid hn
        clear hn
        go_wp2
        go_ret
        exact SaysB.no (fun h => HN.out h.2.2.1.symm) F2.out

set_option maxHeartbeats 2000000 in
set_option maxRecDepth 100000 in
theorem specWithin (n0 n1 : Int) (v0 v1 : Value) (l0 l1 : List Int) (w : World) (h0 : Ints w v0 l0) (h1 : Ints w v1 l1) :
    Calls Try.prog 87 #[.agg #[.int .i64 n0, v0], .agg #[.int .i64 n1, v1]] w (SaysB (WithinP n0 l0 n1 l1) w) := by
  obtain ⟨a0, p0, rfl, -, -⟩ := h0.form
  obtain ⟨a1, p1, rfl, -, -⟩ := h1.form
  have H0 := Lib.hid h0
  have H1 := Lib.hid h1
  clear h0 h1
  have F0 := Lib.hid (show Below w.heap.size w ((w.alloc (.cells #[.int .i64 n0, .slice a0 l0.length p0] 44)).alloc (.cells #[.int .i64 n1, .slice a1 l1.length p1] 44)) from ((Below.refl _ w).alloc (Nat.le_refl _) _).alloc (by simp) _)
  have A0 := Lib.hid (show Box w.heap.size [.int .i64 n0, .slice a0 l0.length p0] ((w.alloc (.cells #[.int .i64 n0, .slice a0 l0.length p0] 44)).alloc (.cells #[.int .i64 n1, .slice a1 l1.length p1] 44)) from (Box.new w _ _).keep (grown_alloc _ _ none) (by simp))
  have C0 := Lib.hid (show Box (w.heap.size + 1) [.int .i64 n1, .slice a1 l1.length p1] ((w.alloc (.cells #[.int .i64 n0, .slice a0 l0.length p0] 44)).alloc (.cells #[.int .i64 n1, .slice a1 l1.length p1] 44)) by have h := Box.new (w.alloc (.cells #[.int .i64 n0, .slice a0 l0.length p0] 44)) 44 [.int .i64 n1, .slice a1 l1.length p1]; simpa using h)
  go_enter Try.func87, Try.ntmps87
  go_wp2_with fail
  refine (specIsG_any n0 _ l0 _ (H0.out.on F0.out)).mono ?_
  rintro e w1 ⟨r, rfl, hr, hb⟩
  have F1 := Lib.hid (F0.out.trans (hb.mono F0.out.size))
  have A1 := Lib.hid (A0.out.on hb)
  have C1 := Lib.hid (C0.out.on hb)
  have HR := Lib.hid hr
  clear hr hb F0 A0 C0
  cases r with
  | false =>
    go_wp2
    go_ret
    exact SaysB.no (fun h => absurd (HR.out.2 h.1) (by decide)) F1.out
  | true =>
    have x0 : w1.cell? ⟨w.heap.size, 0, none⟩ = some (.int .i64 n0) := A1.out.1 0 _ rfl
    have x1 : w1.cell? ⟨w.heap.size, 1, none⟩ = some (.slice a0 l0.length p0) := A1.out.1 1 _ rfl
    have y0 : w1.cell? ⟨w.heap.size + 1, 0, none⟩ = some (.int .i64 n1) := C1.out.1 0 _ rfl
    have y1 : w1.cell? ⟨w.heap.size + 1, 1, none⟩ = some (.slice a1 l1.length p1) := C1.out.1 1 _ rfl
    go_wp2_with fail
    refine (specIsG_any n1 _ l1 _ (H1.out.on F1.out)).mono ?_
    rintro e w2 ⟨r, rfl, hr, hb⟩
    have F2 := Lib.hid (F1.out.trans (hb.mono F1.out.size))
    have A2 := Lib.hid (A1.out.on hb)
    have C2 := Lib.hid (C1.out.on hb)
    have HS := Lib.hid hr
    clear hr hb F1 A1 C1 x0 x1 y0 y1
    have x0 : w2.cell? ⟨w.heap.size, 0, none⟩ = some (.int .i64 n0) := A2.out.1 0 _ rfl
    have x1 : w2.cell? ⟨w.heap.size, 1, none⟩ = some (.slice a0 l0.length p0) := A2.out.1 1 _ rfl
    have y0 : w2.cell? ⟨w.heap.size + 1, 0, none⟩ = some (.int .i64 n1) := C2.out.1 0 _ rfl
    have y1 : w2.cell? ⟨w.heap.size + 1, 1, none⟩ = some (.slice a1 l1.length p1) := C2.out.1 1 _ rfl
    cases r with
    | false =>
      go_wp2
      go_ret
      exact SaysB.no (fun h => absurd (HS.out.2 h.2.1) (by decide)) F2.out
    | true =>
      have G0 := Lib.hid (HR.out.1 (by first | rfl | trivial))
      have G1 := Lib.hid (HS.out.1 (by first | rfl | trivial))
      by_cases hn : n0 = n1
      · have d1 : (n0 != n1) = false := by simp [hn]
        have d2 : (n1 != n0) = false := by simp [hn]
        have e0 : (l0.length : Int) = n0 := G0.out.2.2.1
        have e1 : (l1.length : Int) = n1 := G1.out.2.2.1
        have hll : l0.length = l1.length := by omega
        have HN := Lib.hid hn
        have hle : l0.length ≤ l1.length := by omega
        have hge : l1.length ≤ l0.length := by omega
        have h7 : l0.length ≤ 7 := by have := G0.out.2.1; omega
        have hn0 : n0 ≤ (l0.length : Int) := by omega
        have hn1 : (l0.length : Int) ≤ n0 := by omega
        clear hn e0 e1 hll
        clear x0 x1 y0 y1
        have x0 : w2.cell? ⟨w.heap.size, 0, none⟩ = some (.int .i64 n0) := A2.out.1 0 _ rfl
        have x1 : w2.cell? ⟨w.heap.size, 1, none⟩ = some (.slice a0 l0.length p0) := A2.out.1 1 _ rfl
        have y0 : w2.cell? ⟨w.heap.size + 1, 0, none⟩ = some (.int .i64 n1) := C2.out.1 0 _ rfl
        have y1 : w2.cell? ⟨w.heap.size + 1, 1, none⟩ = some (.slice a1 l1.length p1) := C2.out.1 1 _ rfl
        go_wp2
        go_loopw [5] (fun i wr => ∃ j : Nat, j ≤ l0.length ∧ i = .int .i64 j ∧ Below w2.heap.size w2 wr ∧ Hid (∀ i, i < j → bits .and .i64 (nth l0 i) (nth l1 i) = nth l0 i)) (fun i _ => l0.length - (intOf i).toNat)
        case atStart => exact ⟨0, by omega, rfl, Below.refl _ _, fun i hi => absurd hi (by omega)⟩
        case round =>
          clear x0 x1 y0 y1
          obtain ⟨j, hj, rfl, hbel, HO⟩ := hrel
          have A3 := Lib.hid (A2.out.on hbel)
          have C3 := Lib.hid (C2.out.on hbel)
          have hB := F2.out.trans (hbel.mono F2.out.size)
          have x0 : wr.cell? ⟨w.heap.size, 0, none⟩ = some (.int .i64 n0) := A3.out.1 0 _ rfl
          have x1 : wr.cell? ⟨w.heap.size, 1, none⟩ = some (.slice a0 l0.length p0) := A3.out.1 1 _ rfl
          have y0 : wr.cell? ⟨w.heap.size + 1, 0, none⟩ = some (.int .i64 n1) := C3.out.1 0 _ rfl
          have y1 : wr.cell? ⟨w.heap.size + 1, 1, none⟩ = some (.slice a1 l1.length p1) := C3.out.1 1 _ rfl
          by_cases hlt : j < l0.length
          · have hlt2 : j < l1.length := by omega
            obtain ⟨b, off, cap1, hv, _, _, hb, hcell⟩ := (H0.out.on hB).pos (by omega)
            simp only [Value.slice.injEq] at hv
            obtain ⟨rfl, -, rfl⟩ := hv
            obtain ⟨b', off', cap1', hv, _, _, hb', hcell'⟩ := (H1.out.on hB).pos (by omega)
            simp only [Value.slice.injEq] at hv
            obtain ⟨rfl, -, rfl⟩ := hv
            obtain ⟨x, hx⟩ : ∃ x, x = nth l0 j := ⟨_, rfl⟩
            obtain ⟨y, hy⟩ : ∃ y, y = nth l1 j := ⟨_, rfl⟩
            have c1 := hcell j hlt
            have c2 := hcell' j hlt2
            rw [← hx] at c1
            rw [← hy] at c2
            have HX := Lib.hid hx
            have HY := Lib.hid hy
            obtain ⟨t, ht⟩ : ∃ t, t = bits .and .i64 x y := ⟨_, rfl⟩
            have e1 : bits .and .i64 x y = t := ht.symm
            have HT : Hid (t = x ↔ bits .and .i64 (nth l0 j) (nth l1 j) = nth l0 j) := by
              rw [← hx, ← hy, ht]
              exact Iff.rfl
            clear hcell hcell' hx hy ht
            by_cases ht0 : t = x
            · have d3 : (t != x) = false := by simp [ht0]
              have HN1 : Hid (∀ i, i < j + 1 → bits .and .i64 (nth l0 i) (nth l1 i) = nth l0 i) := fun i hi => by
                rcases Nat.lt_or_ge i j with h | h
                · exact HO.out i h
                · obtain rfl : i = j := by omega
                  exact HT.out.1 ht0
              clear HO ht0
              go_wp2
              go_quiet (fail)
              go_wp2
              go_roundw
              case rel => exact ⟨j + 1, by omega, by go_num, below_drewN hbel _, HN1.out⟩
              case measure => simp [intOf]; omega
            · have d3 : (t != x) = true := by simp [ht0]
              have HT0 := Lib.hid ht0
              clear ht0
              go_wp2
              go_quiet (fail)
              go_wp2
              go_ret
              exact SaysB.no (fun h => HT0.out (HT.out.2 (h.2.2.2 j hlt))) (below_drewN hB _)
          · obtain rfl : j = l0.length := by omega
            go_wp2
            go_ret
            exact SaysB.yes ⟨G0.out, G1.out, HN.out, HO.out⟩ hB
      · have d1 : (n0 != n1) = true := by simp [hn]
        have d2 : (n1 != n0) = true := by simp; exact fun h => hn h.symm
        have HN := Lib.hid hn
        clear hn
        go_wp2
        go_ret
        exact SaysB.no (fun h => HN.out h.2.2.1) F2.out

end Go.Proofs.Ytgfndgjabhabjaa
