/- IsArcs. -/
import Derived.Test.YtpifgmmmmhenmaaG3
import Derived.Test.YtpifgmmmmhenmaaBx
import Derived.Test.YtpifgmmmmhenmaaQ
namespace Go.Proofs.Ytpifgmmmmhenmaa
set_option linter.unusedVariables false
set_option linter.unusedSimpArgs false
open Go.RowKit

/-- Arcs of a circle: 3 to 30 points, 1 to 7 arcs, each begins at a point and is shorter than the circle. -/
def ArcsP (n : Int) (l m : List Int) : Prop := (3 ≤ n ∧ n ≤ 30) ∧ (1 ≤ l.length ∧ l.length ≤ 7) ∧ m.length = l.length ∧ ∀ i, i < l.length → 0 ≤ nth l i ∧ nth l i < n ∧ 1 ≤ nth m i ∧ nth m i < n

instance (n : Int) (l m : List Int) : Decidable (ArcsP n l m) := by unfold ArcsP; exact inferInstance

set_option maxHeartbeats 2000000 in
set_option maxRecDepth 100000 in
theorem implIsArcs (n : Int) (v u : Value) (l m : List Int) (w : World) (h : Ints w v l) (g : Ints w u m) (hl : l.length ≤ 1048576) (hm : m.length ≤ 1048576) :
    Calls Try.prog 143 #[.agg #[.int .i64 n, v, u]] w (SaysB (ArcsP n l m) w) := by
  obtain ⟨ad, cap, rfl, -, -⟩ := h.form
  obtain ⟨bd, cap', rfl, -, -⟩ := g.form
  have HI := Lib.hid h
  have HJ := Lib.hid g
  clear h g
  have F0 := Lib.hid (show Below w.heap.size w (w.alloc (.cells #[.int .i64 n, .slice ad l.length cap, .slice bd m.length cap'] 55)) from (Below.refl _ w).alloc (Nat.le_refl _) _)
  have A0 := Lib.hid (show Box w.heap.size [.int .i64 n, .slice ad l.length cap, .slice bd m.length cap'] (w.alloc (.cells #[.int .i64 n, .slice ad l.length cap, .slice bd m.length cap'] 55)) from Box.new w _ _)
  by_cases k1 : n < 3
  · have d1 : decide (n < 3) = true := by simp [k1]
    go_enter Try.func143, Try.ntmps143
    go_wp2
    go_ret
    exact SaysB.no (fun h => by have := h.1.1; omega) F0.out
  have d1 : decide (n < 3) = false := by simp; omega
  by_cases k2 : 30 < n
  · have d2 : decide (30 < n) = true := by simp [k2]
    go_enter Try.func143, Try.ntmps143
    go_wp2
    go_ret
    exact SaysB.no (fun h => by have := h.1.2; omega) F0.out
  have d2 : decide (30 < n) = false := by simp; omega
  by_cases k3 : l.length < 1
  · have d3 : decide ((l.length : Int) < 1) = true := by simp; omega
    go_enter Try.func143, Try.ntmps143
    go_wp2
    go_ret
    exact SaysB.no (fun h => by have := h.2.1.1; omega) F0.out
  have d3 : decide ((l.length : Int) < 1) = false := by simp; omega
  by_cases k4 : 7 < l.length
  · have d4 : decide ((7 : Int) < (l.length : Int)) = true := by simp; omega
    go_enter Try.func143, Try.ntmps143
    go_wp2
    go_ret
    exact SaysB.no (fun h => by have := h.2.1.2; omega) F0.out
  have d4 : decide ((7 : Int) < (l.length : Int)) = false := by simp; omega
  by_cases k5 : m.length = l.length
  · have d5 : ((m.length : Int) != l.length) = false := by simp [k5]
    have hml : l.length ≤ m.length := by omega
    have HK := Lib.hid k5
    clear k5
    go_enter Try.func143, Try.ntmps143
    go_wp2
    go_loopw [37] (fun i wr => ∃ j : Nat, j ≤ l.length ∧ i = .int .i64 j ∧ Below (w.alloc (.cells #[.int .i64 n, .slice ad l.length cap, .slice bd m.length cap'] 55)).heap.size (w.alloc (.cells #[.int .i64 n, .slice ad l.length cap, .slice bd m.length cap'] 55)) wr ∧ Hid (∀ i, i < j → 0 ≤ nth l i ∧ nth l i < n ∧ 1 ≤ nth m i ∧ nth m i < n)) (fun i _ => l.length - (intOf i).toNat)
    case atStart => exact ⟨0, by omega, rfl, Below.refl _ _, fun i hi => absurd hi (by omega)⟩
    case round =>
      obtain ⟨j, hj, rfl, hbel, HO⟩ := hrel
      have hB := F0.out.trans (hbel.mono F0.out.size)
      have x0 : wr.cell? ⟨w.heap.size, 0, none⟩ = some (.int .i64 n) := (A0.out.on hbel).1 0 _ rfl
      have x1 : wr.cell? ⟨w.heap.size, 1, none⟩ = some (.slice ad l.length cap) := (A0.out.on hbel).1 1 _ rfl
      have x2 : wr.cell? ⟨w.heap.size, 2, none⟩ = some (.slice bd m.length cap') := (A0.out.on hbel).1 2 _ rfl
      by_cases hlt : j < l.length
      · have hltm : j < m.length := by omega
        obtain ⟨b, off, cap1, hv, _, _, hb, hcell⟩ := (HI.out.on hB).pos (by omega)
        simp only [Value.slice.injEq] at hv
        obtain ⟨rfl, -, rfl⟩ := hv
        obtain ⟨b', off', cap1', hv, _, _, hb', hcell'⟩ := (HJ.out.on hB).pos (by omega)
        simp only [Value.slice.injEq] at hv
        obtain ⟨rfl, -, rfl⟩ := hv
        obtain ⟨x, hx⟩ : ∃ x, x = nth l j := ⟨_, rfl⟩
        obtain ⟨y, hy⟩ : ∃ y, y = nth m j := ⟨_, rfl⟩
        have c1 := hcell j hlt
        have c2 := hcell' j (by omega)
        rw [← hx] at c1
        rw [← hy] at c2
        have HX := Lib.hid hx
        have HY := Lib.hid hy
        clear hcell hcell' hx hy
        by_cases e1 : x < 0
        · have f1 : decide (x < 0) = true := by simp [e1]
          go_wp2
          go_quiet (fail)
          go_wp2
          go_ret
          exact SaysB.no (fun h => by have := h.2.2.2 j hlt; rw [← HX.out, ← HY.out] at this; omega) (below_drewN hB _)
        have f1 : decide (x < 0) = false := by simp; omega
        by_cases e2 : n ≤ x
        · have f2 : decide (n ≤ x) = true := by simp [e2]
          go_wp2
          go_quiet (fail)
          go_wp2
          go_ret
          exact SaysB.no (fun h => by have := h.2.2.2 j hlt; rw [← HX.out, ← HY.out] at this; omega) (below_drewN hB _)
        have f2 : decide (n ≤ x) = false := by simp; omega
        by_cases e3 : y < 1
        · have f3 : decide (y < 1) = true := by simp [e3]
          go_wp2
          go_quiet (fail)
          go_wp2
          go_ret
          exact SaysB.no (fun h => by have := h.2.2.2 j hlt; rw [← HX.out, ← HY.out] at this; omega) (below_drewN hB _)
        have f3 : decide (y < 1) = false := by simp; omega
        by_cases e4 : n ≤ y
        · have f4 : decide (n ≤ y) = true := by simp [e4]
          go_wp2
          go_quiet (fail)
          go_wp2
          go_ret
          exact SaysB.no (fun h => by have := h.2.2.2 j hlt; rw [← HX.out, ← HY.out] at this; omega) (below_drewN hB _)
        have f4 : decide (n ≤ y) = false := by simp; omega
        have HN : Hid (∀ i, i < j + 1 → 0 ≤ nth l i ∧ nth l i < n ∧ 1 ≤ nth m i ∧ nth m i < n) := fun i hi => by
          rcases Nat.lt_or_ge i j with h | h
          · exact HO.out i h
          · obtain rfl : i = j := by omega
            rw [← HX.out, ← HY.out]; omega
        clear HO
        go_wp2
        go_quiet (fail)
        go_wp2
        go_roundw
        case rel => exact ⟨j + 1, by omega, by go_num, below_drewN hbel _, HN.out⟩
        case measure => simp [intOf]; omega
      · obtain rfl : j = l.length := by omega
        go_wp2
        go_ret
        exact SaysB.yes ⟨⟨by omega, by omega⟩, ⟨by omega, by omega⟩, HK.out, HO.out⟩ hB
  · have d5 : ((m.length : Int) != l.length) = true := by simp; omega
    have HK := Lib.hid k5
    clear k5
    go_enter Try.func143, Try.ntmps143
    go_wp2
    go_ret
    exact SaysB.no (fun h => HK.out h.2.2.1) F0.out

set_option maxHeartbeats 2000000 in
set_option maxRecDepth 100000 in
theorem specIsArcs (n : Int) (v u : Value) (l m : List Int) (w : World) (h : Ints w v l) (g : Ints w u m) (hl : l.length ≤ 1048576) (hm : m.length ≤ 1048576) :
    Calls Try.prog 95 #[.agg #[.int .i64 n, v, u]] w (SaysB (ArcsP n l m) w) := by
  obtain ⟨ad, cap, rfl, -, -⟩ := h.form
  obtain ⟨bd, cap', rfl, -, -⟩ := g.form
  have HI := Lib.hid h
  have HJ := Lib.hid g
  clear h g
  have F0 := Lib.hid (show Below w.heap.size w (w.alloc (.cells #[.int .i64 n, .slice ad l.length cap, .slice bd m.length cap'] 55)) from (Below.refl _ w).alloc (Nat.le_refl _) _)
  have A0 := Lib.hid (show Box w.heap.size [.int .i64 n, .slice ad l.length cap, .slice bd m.length cap'] (w.alloc (.cells #[.int .i64 n, .slice ad l.length cap, .slice bd m.length cap'] 55)) from Box.new w _ _)
  obtain ⟨N, hN⟩ : ∃ N, N = IntKind.i64.wrap (n - 1) := ⟨_, rfl⟩
  have HN : Hid (3 ≤ n → n ≤ 30 → N = n - 1) := fun a b => by rw [hN, IntKind.wrap_i64]; omega
  have hN1 : IntKind.i64.wrap (n - 1) = N := hN.symm
  clear hN
  go_enter Try.func95, Try.ntmps95
  go_wp2
  go_loopw [3] (fun i wr => ∃ j : Nat, j ≤ l.length ∧ j ≤ m.length ∧ i = .int .i64 j ∧ Below (w.alloc (.cells #[.int .i64 n, .slice ad l.length cap, .slice bd m.length cap'] 55)).heap.size (w.alloc (.cells #[.int .i64 n, .slice ad l.length cap, .slice bd m.length cap'] 55)) wr ∧ Hid (3 ≤ n → n ≤ 30 → ∀ i, i < j → 0 ≤ nth l i ∧ nth l i < n ∧ 1 ≤ nth m i ∧ nth m i < n)) (fun i _ => l.length - (intOf i).toNat)
  case atStart => exact ⟨0, by omega, by omega, rfl, Below.refl _ _, fun _ _ i hi => absurd hi (by omega)⟩
  case round =>
    obtain ⟨j, hj, hjm, rfl, hbel, HO⟩ := hrel
    have hB := F0.out.trans (hbel.mono F0.out.size)
    have x0 : wr.cell? ⟨w.heap.size, 0, none⟩ = some (.int .i64 n) := (A0.out.on hbel).1 0 _ rfl
    have x1 : wr.cell? ⟨w.heap.size, 1, none⟩ = some (.slice ad l.length cap) := (A0.out.on hbel).1 1 _ rfl
    have x2 : wr.cell? ⟨w.heap.size, 2, none⟩ = some (.slice bd m.length cap') := (A0.out.on hbel).1 2 _ rfl
    by_cases hlt : j < l.length
    · by_cases hltm : j < m.length
      · skip
        have hz : (w.alloc (.cells #[.int .i64 n, .slice ad l.length cap, .slice bd m.length cap'] 55)).heap.size ≤ wr.heap.size := hbel.size
        have HBL := Lib.hid hbel
        have HX0 : Hid (∀ X : Since wr, Box w.heap.size [.int .i64 n, .slice ad l.length cap, .slice bd m.length cap'] X.val) := fun X => A0.out.on (HBL.out.trans (X.prop.mono hz))
        have hx0 : ∀ X : Since wr, X.val.cell? ⟨w.heap.size, 0, none⟩ = some (.int .i64 n) := fun X => (HX0.out X).1 0 _ rfl
        have hx1 : ∀ X : Since wr, X.val.cell? ⟨w.heap.size, 1, none⟩ = some (.slice ad l.length cap) := fun X => (HX0.out X).1 1 _ rfl
        have hx2 : ∀ X : Since wr, X.val.cell? ⟨w.heap.size, 2, none⟩ = some (.slice bd m.length cap') := fun X => (HX0.out X).1 2 _ rfl
        obtain ⟨b, off, cap1, hv, _, _, hb, hcell⟩ := (HI.out.on hB).pos (by omega)
        simp only [Value.slice.injEq] at hv
        obtain ⟨rfl, -, rfl⟩ := hv
        obtain ⟨b', off', cap1', hv, _, _, hb', hcell'⟩ := (HJ.out.on hB).pos (by omega)
        simp only [Value.slice.injEq] at hv
        obtain ⟨rfl, -, rfl⟩ := hv
        obtain ⟨x, hx⟩ : ∃ x, x = nth l j := ⟨_, rfl⟩
        obtain ⟨y, hy⟩ : ∃ y, y = nth m j := ⟨_, rfl⟩
        have c1 := hcell j hlt
        have c2 := hcell' j (by omega)
        rw [← hx] at c1
        rw [← hy] at c2
        have HX := Lib.hid hx
        have HY := Lib.hid hy
        clear hcell hcell' hx hy
        have hy1 : ∀ X : Since wr, X.val.cell? ⟨b, off + j, none⟩ = some (.int .i64 x) := fun X => (X.prop.cell (p := ⟨b, off + j, none⟩) hb).trans c1
        have hy2 : ∀ X : Since wr, X.val.cell? ⟨b', off' + j, none⟩ = some (.int .i64 y) := fun X => (X.prop.cell (p := ⟨b', off' + j, none⟩) hb').trans c2
        have HB := Lib.hid hB
        by_cases e1 : 0 ≤ x ∧ x ≤ N
        · have HC1 : Hid (∀ X : Since wr, Calls Try.prog 96 #[.int .i64 x, .int .i64 0, .int .i64 N] X.val fun e w' => e = .returned (.bool true) ∧ Below X.val.heap.size X.val w') := fun X => (l1In_yes' x 0 N _ e1.1 e1.2).mono fun _ _ h => ⟨h.1, h.2 ▸ Below.refl _ _⟩
          by_cases e2 : 1 ≤ y ∧ y ≤ N
          · have HC2 : Hid (∀ X : Since wr, Calls Try.prog 96 #[.int .i64 y, .int .i64 1, .int .i64 N] X.val fun e w' => e = .returned (.bool true) ∧ Below X.val.heap.size X.val w') := fun X => (l1In_yes' y 1 N _ e2.1 e2.2).mono fun _ _ h => ⟨h.1, h.2 ▸ Below.refl _ _⟩
            have HN1 : Hid (3 ≤ n → n ≤ 30 → ∀ i, i < j + 1 → 0 ≤ nth l i ∧ nth l i < n ∧ 1 ≤ nth m i ∧ nth m i < n) := fun a b i hi => by
              rcases Nat.lt_or_ge i j with h | h
              · exact HO.out a b i h
              · obtain rfl : i = j := by omega
                have := HN.out a b
                rw [← HX.out, ← HY.out]; omega
            clear HO e1 e2 hbel hB c1 c2
            go_wp2
            refine wp_region_since (by kernel_rfl) (by kernel_rfl) ?_
            repeat (go_big_quiet_step (first | with_reducible exact since_call (HC1.out _) | with_reducible exact since_call (HC2.out _)))
            refine wpQuiet_nil ?_
            intro Y
            have HB3 := Lib.hid (HBL.out.trans (Y.prop.mono hz))
            clear hx0 hx1 hx2 hy1 hy2 x0 x1 x2
            go_wp2
            go_roundw
            case rel => exact ⟨j + 1, by omega, by omega, by go_num, HB3.out, HN1.out⟩
            case measure => simp [intOf]; omega
          · have HC2 : Hid (∀ X : Since wr, Calls Try.prog 96 #[.int .i64 y, .int .i64 1, .int .i64 N] X.val fun e w' => e = .returned (.bool false) ∧ Below X.val.heap.size X.val w') := fun X => (l1In_no' y 1 N _ e2).mono fun _ _ h => ⟨h.1, h.2 ▸ Below.refl _ _⟩
            have HE := Lib.hid e2
            clear e1 e2 hbel hB c1 c2
            go_wp2
            refine wp_region_since (by kernel_rfl) (by kernel_rfl) ?_
            repeat (go_big_quiet_step (first | with_reducible exact since_call (HC1.out _) | with_reducible exact since_call (HC2.out _)))
            refine wpQuiet_nil ?_
            intro Y
            have HW := Lib.hid (HB.out.trans (Y.prop.mono HB.out.size))
            clear hx0 hx1 hx2 hy1 hy2 x0 x1 x2
            go_wp2
            go_ret
            exact SaysB.no (fun h => by have h1 := h.2.2.2 j hlt; have h2 := HN.out h.1.1 h.1.2; have h3 := HE.out; rw [← HX.out, ← HY.out] at h1; omega) HW.out
        · have HC1 : Hid (∀ X : Since wr, Calls Try.prog 96 #[.int .i64 x, .int .i64 0, .int .i64 N] X.val fun e w' => e = .returned (.bool false) ∧ Below X.val.heap.size X.val w') := fun X => (l1In_no' x 0 N _ e1).mono fun _ _ h => ⟨h.1, h.2 ▸ Below.refl _ _⟩
          have HE := Lib.hid e1
          clear e1 hbel hB c1 c2
          go_wp2
          refine wp_region_since (by kernel_rfl) (by kernel_rfl) ?_
          repeat (go_big_quiet_step (with_reducible exact since_call (HC1.out _)))
          refine wpQuiet_nil ?_
          intro Y
          have HW := Lib.hid (HB.out.trans (Y.prop.mono HB.out.size))
          clear hx0 hx1 hx2 hy1 hy2 x0 x1 x2
          go_wp2
          go_ret
          exact SaysB.no (fun h => by have h1 := h.2.2.2 j hlt; have h2 := HN.out h.1.1 h.1.2; have h3 := HE.out; rw [← HX.out] at h1; omega) HW.out
      · skip
        have HO1 := HO
        by_cases t1 : 3 ≤ n ∧ n ≤ 30
        · by_cases t2 : (1 : Int) ≤ (l.length : Int) ∧ (l.length : Int) ≤ 7
          · by_cases t3 : m.length = l.length
            · have d3 : ((m.length : Int) == l.length) = true := by simp [t3]
              have HT3 := Lib.hid t3
              have HF : Hid (ArcsP n l m) := ⟨t1, ⟨by omega, by omega⟩, t3, fun i hi => HO.out t1.1 t1.2 i (by omega)⟩
              have q1 := t1.1
              have q2 := t1.2
              have q3 := t2.1
              have q4 := t2.2
              clear t1 t2 t3
              go_wp2_with fail
              refine (l1In_yes' _ _ _ _ q1 q2).mono ?_
              rintro e w1 ⟨rfl, rfl⟩
              go_wp2_with fail
              refine (l1In_yes' _ _ _ _ q3 q4).mono ?_
              rintro e w1 ⟨rfl, rfl⟩
              go_wp2
              go_ret
              exact SaysB.yes HF.out hB
            · have d3 : ((m.length : Int) == l.length) = false := by simp; omega
              have HT3 := Lib.hid t3
              have q1 := t1.1
              have q2 := t1.2
              have q3 := t2.1
              have q4 := t2.2
              clear t1 t2 t3
              go_wp2_with fail
              refine (l1In_yes' _ _ _ _ q1 q2).mono ?_
              rintro e w1 ⟨rfl, rfl⟩
              go_wp2_with fail
              refine (l1In_yes' _ _ _ _ q3 q4).mono ?_
              rintro e w1 ⟨rfl, rfl⟩
              go_wp2
              go_ret
              exact SaysB.no (fun h => HT3.out h.2.2.1) hB
          · have HT2 := Lib.hid t2
            have q1 := t1.1
            have q2 := t1.2
            clear t1 t2
            go_wp2_with fail
            refine (l1In_yes' _ _ _ _ q1 q2).mono ?_
            rintro e w1 ⟨rfl, rfl⟩
            go_wp2_with fail
            refine (l1In_no' _ _ _ _ HT2.out).mono ?_
            rintro e w1 ⟨rfl, rfl⟩
            go_wp2
            go_ret
            exact SaysB.no (fun h => HT2.out ⟨by have := h.2.1.1; omega, by have := h.2.1.2; omega⟩) hB
        · have HT1 := Lib.hid t1
          clear t1
          go_wp2_with fail
          refine (l1In_no' _ _ _ _ HT1.out).mono ?_
          rintro e w1 ⟨rfl, rfl⟩
          go_wp2
          go_ret
          exact SaysB.no (fun h => HT1.out h.1) hB
    · skip
      have HO1 := HO
      by_cases t1 : 3 ≤ n ∧ n ≤ 30
      · by_cases t2 : (1 : Int) ≤ (l.length : Int) ∧ (l.length : Int) ≤ 7
        · by_cases t3 : m.length = l.length
          · have d3 : ((m.length : Int) == l.length) = true := by simp [t3]
            have HT3 := Lib.hid t3
            have HF : Hid (ArcsP n l m) := ⟨t1, ⟨by omega, by omega⟩, t3, fun i hi => HO.out t1.1 t1.2 i (by omega)⟩
            have q1 := t1.1
            have q2 := t1.2
            have q3 := t2.1
            have q4 := t2.2
            clear t1 t2 t3
            go_wp2_with fail
            refine (l1In_yes' _ _ _ _ q1 q2).mono ?_
            rintro e w1 ⟨rfl, rfl⟩
            go_wp2_with fail
            refine (l1In_yes' _ _ _ _ q3 q4).mono ?_
            rintro e w1 ⟨rfl, rfl⟩
            go_wp2
            go_ret
            exact SaysB.yes HF.out hB
          · have d3 : ((m.length : Int) == l.length) = false := by simp; omega
            have HT3 := Lib.hid t3
            have q1 := t1.1
            have q2 := t1.2
            have q3 := t2.1
            have q4 := t2.2
            clear t1 t2 t3
            go_wp2_with fail
            refine (l1In_yes' _ _ _ _ q1 q2).mono ?_
            rintro e w1 ⟨rfl, rfl⟩
            go_wp2_with fail
            refine (l1In_yes' _ _ _ _ q3 q4).mono ?_
            rintro e w1 ⟨rfl, rfl⟩
            go_wp2
            go_ret
            exact SaysB.no (fun h => HT3.out h.2.2.1) hB
        · have HT2 := Lib.hid t2
          have q1 := t1.1
          have q2 := t1.2
          clear t1 t2
          go_wp2_with fail
          refine (l1In_yes' _ _ _ _ q1 q2).mono ?_
          rintro e w1 ⟨rfl, rfl⟩
          go_wp2_with fail
          refine (l1In_no' _ _ _ _ HT2.out).mono ?_
          rintro e w1 ⟨rfl, rfl⟩
          go_wp2
          go_ret
          exact SaysB.no (fun h => HT2.out ⟨by have := h.2.1.1; omega, by have := h.2.1.2; omega⟩) hB
      · have HT1 := Lib.hid t1
        clear t1
        go_wp2_with fail
        refine (l1In_no' _ _ _ _ HT1.out).mono ?_
        rintro e w1 ⟨rfl, rfl⟩
        go_wp2
        go_ret
        exact SaysB.no (fun h => HT1.out h.1) hB

end Go.Proofs.Ytpifgmmmmhenmaa
